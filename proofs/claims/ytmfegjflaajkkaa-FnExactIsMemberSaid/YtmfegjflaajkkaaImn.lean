
/- IsMember: the program's functions: arrays out of rows. -/
import Derived.Test.YtmfegjflaajkkaaImw
import Derived.Test.YtmfegjflaajkkaaCcb
namespace Go.Proofs.Ytmfegjflaajkkaa
open Go.Proofs.Ytmfegjflaajkkaa.Flo Go.RowKit Go.Proofs.Ytmfegjflaajkkaa.Pr

theorem own_le {w : World} {base : Nat} {T : TypeId} {a : Option Addr} {n cp : Nat} {xs : List Value} (h : w.ownsRow base T 1 (.slice a n cp) n xs) : n ≤ cp := by
  rcases h.2 with ⟨e, _⟩ | ⟨g, cap, cur, e, _, _, hc, _⟩
  · injection e; omega
  · injection e; omega
set_option maxRecDepth 100000 in
set_option maxHeartbeats 8000000 in
theorem cc_B0 (B : Nat) (a : Option Addr) (n cap : Nat) (f : Nat → Bool) (z : Option Addr) (capz : Nat) (w : World) (ha : BRow w a n f) (hBl : B < w.heap.size) (hc0 : w.cell? ⟨B, 0, none⟩ = some (.slice a n cap)) (hc1 : w.cell? ⟨B, 1, none⟩ = some (.slice z 0 capz)) (hn : 1 ≤ n ∧ n ≤ 1000) :
    Calls Try.prog 71 #[.slice (some ⟨B, 0, none⟩) 2 2] w fun e w' => ∃ g cp, e = .returned (.slice (some ⟨g, 0, none⟩) n cp) ∧ New w w' g (.bl n f) := by
  obtain ⟨i0, hi, hz0, hz1, hz2⟩ := info_parts Try.infoB
  obtain ⟨hn1, hn2⟩ := hn
  have HA := Lib.hid ha
  have HC0 := Lib.hid hc0
  have HC1 := Lib.hid hc1
  have hd1 : decide ((n : Int) < 0) = false := decide_eq_false (by omega)
  have HG := Lib.hid (fun W => grow_B n W hn1 (by omega))
  clear ha
  go_enter Try.func71, Try.ntmps71
  go_wp2
  refine wp_loop_rounds 3 ?_
  rw [rounds_succ]
  go_wp2
  rw [rounds_succ]
  go_wp2
  rw [rounds_succ]
  go_wp2_with (first | (go_at_call 95; refine (HG.out _).mono ?_; rintro e w1 ⟨g, cp, rfl, ho, hb⟩; have HO := Lib.hid ho; have HB := Lib.hid hb; clear ho hb) | fail)
  have hc0' : w1.cell? ⟨B, 0, none⟩ = some (.slice a n cap) := by rw [HB.out.cell (p := ⟨B, 0, none⟩) hBl]; exact HC0.out
  have hc1' : w1.cell? ⟨B, 1, none⟩ = some (.slice z 0 capz) := by rw [HB.out.cell (p := ⟨B, 1, none⟩) hBl]; exact HC1.out
  have HA1 := Lib.hid (HA.out.below HB.out)
  have HSZ := Lib.hid HB.out.size
  have HOB := Lib.hid (own_block HO.out)
  clear hc0 hc1
  refine wp_loop_rounds 3 ?_
  rw [rounds_succ]
  obtain ⟨ba, oa, rfl, _⟩ := HA1.out.cell (k := 0) (by omega)
  go_wp2_with (first | (at_builtin; refine wpList_append_lies _ rfl _ _ 36 rfl w.heap.size 4 i0 (.bool false) 1 1 Try.underlying36 hi hz0 hz1 hz2 rfl (by omega) (.slice (some ⟨g, 0, none⟩) 0 cp) 0 [] rfl HO.out ⟨ba, oa, none⟩ n cap ((List.range n).map (fun i => Value.bool (f i))) rfl (by simp) (brow_news HA1.out) (one_cellsB f n) (by omega) (by unfold maxLen; omega) (by omega) (by have := HSZ.out; omega) w1.heap.size rfl ?_; intro gg cp2 w2 hown1 hgrow hat hlt3; (have HO2 := Lib.hid (by rw [Nat.zero_add] at hown1; simpa using hown1 : w2.ownsRow w.heap.size 4 1 (.slice (some ⟨gg, 0, none⟩) n cp2) n ((List.range n).map (fun i => Value.bool (f i))))); have HGR := Lib.hid hgrow; clear hown1 hgrow hat hlt3) | fail)
  have HW2 := Lib.hid (Below.grown HB.out HGR.out (by have := HSZ.out; omega) (fun j hj => HOB.out j hj))
  have hc1'' : w2.cell? ⟨B, 1, none⟩ = some (.slice z 0 capz) := by rw [HW2.out.cell (p := ⟨B, 1, none⟩) hBl]; exact HC1.out
  have hncp : n ≤ cp2 := own_le HO2.out
  have HRN := Lib.hid (fun W ty => run_append_none (P := Try.prog) W 36 ty 4 i0 ⟨gg, 0, none⟩ n cp2 z capz hncp Try.underlying36 hi)
  have HF : Hid (Gat w2 w.heap.size 4 (.slice (some ⟨gg, 0, none⟩) n cp2) n (fun i => .bool (f i))) := Lib.hid HO2.out
  obtain ⟨g3, cp3, e, hnew⟩ := HF.out.new HW2.out (by omega)
  cases e
  have HNW := Lib.hid hnew
  clear hc0' hc1' hnew HF HO2 hncp
  rw [rounds_succ]
  go_wp2_with (first | (at_builtin; refine Lib.wpList_append_run _ rfl _ _ _ _ rfl _ _ rfl rfl _ _ (HRN.out _ _) ?_) | fail)
  rw [rounds_succ]
  go_wp2
  go_ret
  exact ⟨_, _, rfl, HNW.out⟩
theorem cc_32 (B : Nat) (a : Option Addr) (n cap : Nat) (f : Nat → Bool) (z : Option Addr) (M capz : Nat) (h : Nat → Bool) (w : World) (ha : BRow w a n f) (hz : BRow w z M h) (hBl : B < w.heap.size) (hc0 : w.cell? ⟨B, 0, none⟩ = some (.slice a n cap)) (hc1 : w.cell? ⟨B, 1, none⟩ = some (.slice z M capz)) (hnm : n + M = 32) :
    Calls Try.prog 71 #[.slice (some ⟨B, 0, none⟩) 2 2] w fun e w' => ∃ g cp, e = .returned (.slice (some ⟨g, 0, none⟩) 32 cp) ∧ AB w' g (ccF f n h) ∧ Below w.heap.size w w' := by
  by_cases hM : M = 0
  · subst hM
    obtain rfl : n = 32 := by omega
    refine (cc_B0 B a 32 cap f z capz w ha hBl hc0 hc1 (by omega)).mono ?_
    rintro e w2 ⟨g, cp, he, hn⟩
    refine ⟨g, cp, he, ⟨hn.2.1, fun i hi => ?_⟩, hn.2.2.2⟩
    have := hn.2.2.1.2 i hi
    refine ⟨this.1.trans ?_, this.2⟩
    show some (Value.bool (f i)) = some (Value.bool (if i < 32 then f i else h (i - 32)))
    rw [if_pos hi]
  · refine (cc_B B a n cap f z M capz h w ha hz hBl hc0 hc1 (by omega) (by omega)).mono ?_
    rw [hnm]
    rintro e w2 ⟨g, cp, he, hn⟩
    exact ⟨g, cp, he, ⟨hn.2.1, fun i hi => hn.2.2.1.2 i hi⟩, hn.2.2.2⟩
theorem AB.belowF {w w' : World} {p : Nat} {g : Nat → Bool} (h : AB w p g) (hb : Below w.heap.size w w') : AB w' p g := ⟨Nat.lt_of_lt_of_le h.1 hb.size, fun i hi => ⟨h.below hb i hi, by rw [hb.frozen (p := ⟨p, i, none⟩) h.1]; exact (h.2 i hi).2⟩⟩
theorem arr_at (a : Option Addr) (cp : Nat) (w : World) : (Instr.arrayAt 94 (.slice a 32 cp)).run Try.prog w = .ok (.pointer a) w := by
  simp [Instr.arrayAt, run_underlying Try.underlying94]
theorem nd_pre (w : World) (b : Option Addr) (m capb : Nat) (f g : Nat → Bool) (M : Nat) (T T2 T3 : TypeId) (hb : BRow w b m f) :
    BRow (((w.alloc (.cells (ab g) T)).alloc (.cells (madeCells #[Value.bool false] M) T2)).alloc (.cells #[.slice b m capb, .slice (some ⟨w.heap.size + 1, 0, none⟩) M M] T3)) b m f ∧
    BRow (((w.alloc (.cells (ab g) T)).alloc (.cells (madeCells #[Value.bool false] M) T2)).alloc (.cells #[.slice b m capb, .slice (some ⟨w.heap.size + 1, 0, none⟩) M M] T3)) (some ⟨w.heap.size + 1, 0, none⟩) M (fun _ => false) ∧
    w.heap.size + 1 + 1 < (((w.alloc (.cells (ab g) T)).alloc (.cells (madeCells #[Value.bool false] M) T2)).alloc (.cells #[.slice b m capb, .slice (some ⟨w.heap.size + 1, 0, none⟩) M M] T3)).heap.size ∧
    (((w.alloc (.cells (ab g) T)).alloc (.cells (madeCells #[Value.bool false] M) T2)).alloc (.cells #[.slice b m capb, .slice (some ⟨w.heap.size + 1, 0, none⟩) M M] T3)).cell? ⟨w.heap.size + 1 + 1, 0, none⟩ = some (.slice b m capb) ∧
    (((w.alloc (.cells (ab g) T)).alloc (.cells (madeCells #[Value.bool false] M) T2)).alloc (.cells #[.slice b m capb, .slice (some ⟨w.heap.size + 1, 0, none⟩) M M] T3)).cell? ⟨w.heap.size + 1 + 1, 1, none⟩ = some (.slice (some ⟨w.heap.size + 1, 0, none⟩) M M) ∧
    AB (((w.alloc (.cells (ab g) T)).alloc (.cells (madeCells #[Value.bool false] M) T2)).alloc (.cells #[.slice b m capb, .slice (some ⟨w.heap.size + 1, 0, none⟩) M M] T3)) w.heap.size g ∧
    Below w.heap.size w (((w.alloc (.cells (ab g) T)).alloc (.cells (madeCells #[Value.bool false] M) T2)).alloc (.cells #[.slice b m capb, .slice (some ⟨w.heap.size + 1, 0, none⟩) M M] T3)) := by
  have hbe : Below w.heap.size w (((w.alloc (.cells (ab g) T)).alloc (.cells (madeCells #[Value.bool false] M) T2)).alloc (.cells #[.slice b m capb, .slice (some ⟨w.heap.size + 1, 0, none⟩) M M] T3)) := Below.alloc (Below.alloc (belowA _ _) (by simp) _) (by simp; omega) _
  refine ⟨hb.below hbe, .inr ⟨w.heap.size + 1, 0, rfl, by simp, fun i hi => ?_⟩, by simp, ?_, ?_, ((AB.new w g T).alloc _).alloc _, hbe⟩
  · rw [World.cell?_alloc_past _ _ _ (by simp), World.cell?_alloc_at _ _ _ _ (by simp)]
    simp [madeCells, hi, Nat.mod_one]
  · rw [World.cell?_alloc_at _ _ _ _ (by simp)]; rfl
  · rw [World.cell?_alloc_at _ _ _ _ (by simp)]; rfl
set_option maxRecDepth 100000 in
set_option maxHeartbeats 4000000 in
theorem nd_impl (b : Option Addr) (m capb : Nat) (f : Nat → Bool) (w : World) (hb : BRow w b m f) (hm : m ≤ 32) :
    Calls Try.prog 81 #[.slice b m capb] w fun e w' => e = .returned (.agg (ab (ccF f m fun _ => false))) ∧ Below w.heap.size w w' := by
  obtain ⟨M, hnm⟩ : ∃ M, m + M = 32 := ⟨32 - m, by omega⟩
  have hmk := fun w2 : World => run_make_row' (P := Try.prog) 36 4 (.bool false) 1 Try.underlying36 Try.infoB rfl .i64 .i64 M (by omega) (by omega) w2
  have hs1 : (32 : Int) - (m : Int) = (M : Int) := by omega
  have hat := fun W a cp => arr_at a cp W
  have HP := Lib.hid (nd_pre w b m capb f (fun _ => false) M 94 4 36 hb)
  have HNM := Lib.hid hnm
  clear hb hnm
  rw [ab_zero] at HP
  go_enter Try.func81, Try.ntmps81
  go_wp2_with (first | (go_at_call 71; obtain ⟨p1, p2, p3, p4, p5, p6, p7⟩ := HP.out; clear HP; refine (cc_32 (w.heap.size + 1 + 1) b m capb f (some ⟨w.heap.size + 1, 0, none⟩) M M (fun _ => false) _ p1 p2 p3 p4 p5 HNM.out).mono ?_; rintro e w3 ⟨g, cp, rfl, hg, hbw⟩; have hc := hg.range; have hA := p6.belowF hbw; have ht := hA.there; have HQ := Lib.hid (hA.setCells (ccF f m fun _ => false)); have HBB := Lib.hid (Below.setCells (p := w.heap.size) (Nat.le_refl _) (ab (ccF f m fun _ => false)).toList 0 _ (Below.next p7 hbw)); clear p1 p2 p3 p4 p5 p6 p7 hA hbw) | (refine load_ab rfl _ rfl _ (by rfl) (ccF f m fun _ => false) hc ?_) | (refine store_ab rfl _ _ rfl w.heap.size (by rfl) (ccF f m fun _ => false) (by rfl) ht ?_) | fail)
  exact bodyPost_ret (v := .agg (ab (ccF f m fun _ => false))) (res_ab rfl _ _ _ _ (by rfl) HQ.out) rfl ⟨rfl, HBB.out⟩
end Go.Proofs.Ytmfegjflaajkkaa
