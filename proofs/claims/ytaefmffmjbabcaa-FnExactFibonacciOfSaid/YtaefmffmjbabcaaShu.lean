
/- Shares: polynomials of rows, and their values, as the program makes them. -/
import Derived.Test.YtaefmffmjbabcaaSht
set_option linter.unusedVariables false
namespace Go.Proofs.Ytaefmffmjbabcaa
open Go.Proofs.Ytaefmffmjbabcaa.Flo Go.RowKit

theorem own_mono9 {w : World} {base base' : Nat} {T : TypeId} {v : Value} {k : Nat} {xs : List Value} (h : w.ownsRow base T 1 v k xs) (hb : base' ≤ base) : w.ownsRow base' T 1 v k xs := by
  obtain ⟨hl, h2⟩ := h
  refine ⟨hl, ?_⟩
  rcases h2 with h2 | ⟨g, cap, cur, e1, e2, e3⟩
  · exact .inl h2
  · exact .inr ⟨g, cap, cur, e1, Nat.le_trans hb e2, e3⟩
theorem A8.kept {w w' : World} {p n : Nat} {g : Nat → Int} (h : A8 w p g) (hp : p < n) (hb : Below n w w') : A8 w' p g := ⟨Nat.lt_of_lt_of_le h.1 hb.size, fun i hi => ⟨by rw [hb.cell (p := ⟨p, i, none⟩) hp]; exact (h.2 i hi).1, by rw [hb.frozen (p := ⟨p, i, none⟩) hp]; exact (h.2 i hi).2⟩⟩
theorem arr_8 (a : Option Addr) (n cp : Nat) (w : World) : (Instr.arrayAt 100 (.slice a (n + 8) cp)).run Try.prog w = .ok (.pointer a) w := by
  simp [Instr.arrayAt, run_underlying Try.underlying100, show ¬ (n + 8 < 8) by omega]
theorem z8 : a8 (fun _ => 0) = #[.int .i64 0, .int .i64 0, .int .i64 0, .int .i64 0, .int .i64 0, .int .i64 0, .int .i64 0, .int .i64 0] := rfl
theorem il_a8 {w w' : World} {g n : Nat} {zs : List Int} (h : New w w' g (.il (n + 8) (zs ++ List.replicate 8 (0 : Int)))) (hl : zs.length = n) : A8 w' g (fun k => zs.getD k 0) := by
  refine ⟨h.2.1, fun i hi => ?_⟩
  have h1 := h.2.2.1.2 i (show i < n + 8 by omega)
  refine ⟨h1.1.trans ?_, h1.2⟩
  have e : (zs ++ List.replicate 8 (0 : Int)).getD i 0 = zs.getD i 0 := by
    rw [List.getD_eq_getElem?_getD, List.getD_eq_getElem?_getD]
    by_cases hn : i < n
    · rw [List.getElem?_append_left (by omega)]
    · rw [List.getElem?_append_right (by omega), List.getElem?_replicate, if_pos (by omega), List.getElem?_eq_none (by omega)]
      rfl
  show some (Value.int .i64 ((zs ++ List.replicate 8 (0 : Int)).getD i 0)) = some (Value.int .i64 (zs.getD i 0))
  rw [e]
theorem pn_pre (w : World) (a : Option Addr) (n cap : Nat) (zs : List Int) (g : Nat → Int) (T T2 T3 : TypeId) (hb : IRow w a n zs) :
    IRow (((w.alloc (.cells (a8 g) T)).alloc (.cells (madeCells #[Value.int .i64 0] 8) T2)).alloc (.cells #[.slice a n cap, .slice (some ⟨w.heap.size + 1, 0, none⟩) 8 8] T3)) a n zs ∧
    IRow (((w.alloc (.cells (a8 g) T)).alloc (.cells (madeCells #[Value.int .i64 0] 8) T2)).alloc (.cells #[.slice a n cap, .slice (some ⟨w.heap.size + 1, 0, none⟩) 8 8] T3)) (some ⟨w.heap.size + 1, 0, none⟩) 8 (List.replicate 8 (0 : Int)) ∧
    w.heap.size + 1 + 1 < (((w.alloc (.cells (a8 g) T)).alloc (.cells (madeCells #[Value.int .i64 0] 8) T2)).alloc (.cells #[.slice a n cap, .slice (some ⟨w.heap.size + 1, 0, none⟩) 8 8] T3)).heap.size ∧
    (((w.alloc (.cells (a8 g) T)).alloc (.cells (madeCells #[Value.int .i64 0] 8) T2)).alloc (.cells #[.slice a n cap, .slice (some ⟨w.heap.size + 1, 0, none⟩) 8 8] T3)).cell? ⟨w.heap.size + 1 + 1, 0, none⟩ = some (.slice a n cap) ∧
    (((w.alloc (.cells (a8 g) T)).alloc (.cells (madeCells #[Value.int .i64 0] 8) T2)).alloc (.cells #[.slice a n cap, .slice (some ⟨w.heap.size + 1, 0, none⟩) 8 8] T3)).cell? ⟨w.heap.size + 1 + 1, 1, none⟩ = some (.slice (some ⟨w.heap.size + 1, 0, none⟩) 8 8) ∧
    A8 (((w.alloc (.cells (a8 g) T)).alloc (.cells (madeCells #[Value.int .i64 0] 8) T2)).alloc (.cells #[.slice a n cap, .slice (some ⟨w.heap.size + 1, 0, none⟩) 8 8] T3)) w.heap.size g ∧
    Below w.heap.size w (((w.alloc (.cells (a8 g) T)).alloc (.cells (madeCells #[Value.int .i64 0] 8) T2)).alloc (.cells #[.slice a n cap, .slice (some ⟨w.heap.size + 1, 0, none⟩) 8 8] T3)) := by
  have hbe : Below w.heap.size w (((w.alloc (.cells (a8 g) T)).alloc (.cells (madeCells #[Value.int .i64 0] 8) T2)).alloc (.cells #[.slice a n cap, .slice (some ⟨w.heap.size + 1, 0, none⟩) 8 8] T3)) := Below.alloc (Below.alloc (below_alloc _ _) (by simp) _) (by simp; omega) _
  refine ⟨hb.below hbe, ⟨by simp, .inr ⟨w.heap.size + 1, 0, rfl, by simp, fun i hi => ?_⟩⟩, by simp, ?_, ?_, ((A8.new w g T).alloc _).alloc _, hbe⟩
  · rw [World.cell?_alloc_past _ _ _ (by simp), World.cell?_alloc_at _ _ _ _ (by simp)]
    have h : i = 0 ∨ i = 1 ∨ i = 2 ∨ i = 3 ∨ i = 4 ∨ i = 5 ∨ i = 6 ∨ i = 7 := by omega
    rcases h with rfl | rfl | rfl | rfl | rfl | rfl | rfl | rfl <;> simp [madeCells, Nat.mod_one]
  · rw [World.cell?_alloc_at _ _ _ _ (by simp)]; rfl
  · rw [World.cell?_alloc_at _ _ _ _ (by simp)]; rfl
set_option maxRecDepth 100000 in
set_option maxHeartbeats 4000000 in
theorem po_impl (ba oa n cap : Nat) (zs : List Int) (w : World) (hb : IRow w (some ⟨ba, oa, none⟩) n zs) (hn : 1 ≤ n ∧ n ≤ 8) :
    Calls Try.prog 72 #[.slice (some ⟨ba, oa, none⟩) n cap] w fun e w' => e = .returned (.agg (a8 (fun k => zs.getD k 0))) ∧ Below w.heap.size w w' := by
  obtain ⟨hn1, hn2⟩ := hn
  have hmk : ∀ w2 : World, (Instr.makeSlice 22 (.int .i64 8) (.int .i64 8)).run Try.prog w2 = .ok (.slice (some ⟨w2.heap.size, 0, none⟩) 8 8) (w2.alloc (.cells (madeCells #[Value.int .i64 0] 8) 2)) := fun w2 => run_make_row' (P := Try.prog) 22 2 (.int .i64 0) 8 Try.underlying22 Try.info64 rfl .i64 .i64 8 (by omega) (by omega) w2
  have hat := fun W a cp => arr_8 a n cp W
  have HL := Lib.hid hb.1
  have HP := Lib.hid (pn_pre w (some ⟨ba, oa, none⟩) n cap zs (fun _ => 0) 100 2 22 hb)
  have HN : Hid (1 ≤ n ∧ n ≤ 8) := Lib.hid ⟨hn1, hn2⟩
  clear hb
  rw [z8] at HP
  go_enter Try.func72, Try.ntmps72
  go_wp2_with (first | (go_at_call 69; obtain ⟨p1, p2, p3, p4, p5, p6, p7⟩ := HP.out; clear HP; refine (cc_I (w.heap.size + 1 + 1) ba oa n cap zs (some ⟨w.heap.size + 1, 0, none⟩) 8 8 (List.replicate 8 (0 : Int)) _ p1 p2 p3 p4 p5 (by have := HN.out; omega) (by omega)).mono ?_; rintro e w3 ⟨g, cp, rfl, hg⟩; have hg8 := il_a8 hg HL.out; have hc := hg8.range; have hA := p6.below hg.2.2.2; have ht := hA.there; have HQ := Lib.hid (hA.setCells (fun k => zs.getD k 0)).range; have HBB := Lib.hid (below_setCells8 (p := w.heap.size) (Nat.le_refl _) (a8 (fun k => zs.getD k 0)).toList 0 _ (Below.next p7 hg.2.2.2)); clear p1 p2 p3 p4 p5 p6 p7 hA hg hg8) | (refine load_8 rfl _ rfl _ (by rfl) (fun k => zs.getD k 0) hc ?_) | (refine store_8 rfl _ _ rfl w.heap.size (by rfl) (fun k => zs.getD k 0) (by rfl) ht ?_) | fail)
  exact bodyPost_ret (v := .agg (a8 (fun k => zs.getD k 0))) (res_8 rfl _ _ _ _ (by rfl) HQ.out) rfl ⟨rfl, HBB.out⟩
/-- The values from one place on. -/
def vfL (p : Int) (t : Nat → Int) (f : Int) (m : Nat) : List Int := (List.range m).map fun i : Nat => Pol.ho p t (f + (i : Int)) 8 8
theorem vfL_on (p : Int) (t : Nat → Int) (f : Int) (m : Nat) : (vfL p t f (m + 1)).map (Value.int .i64) = (vfL p t f m).map (Value.int .i64) ++ [.int .i64 (Pol.ho p t (f + (m : Int)) 8 8)] := by
  unfold vfL
  rw [List.range_succ, List.map_append, List.map_append]
  rfl
set_option maxRecDepth 100000 in
set_option maxHeartbeats 4000000 in
theorem vf_impl (p f : Int) (m : Nat) (t : Nat → Int) (w : World) (hp : 7 ≤ p ∧ p ≤ 257) (hf : 0 ≤ f ∧ f ≤ 1) (hm : 1 ≤ m ∧ m ≤ 8) (ht : ∀ k, k < 8 → 0 ≤ t k ∧ t k < 257) :
    Calls Try.prog 73 #[.agg (a8 t), .int .i64 p, .int .i64 f, .int .i64 (m : Int)] w fun e w' => ∃ g cp, e = .returned (.slice (some ⟨g, 0, none⟩) m cp) ∧ New w w' g (.il m (vfL p t f m)) := by
  obtain ⟨i0, hi, hz0, hz1, hz2⟩ := info_parts Try.info64
  have HT := Lib.hid ht
  have HP := Lib.hid hp
  have HF := Lib.hid hf
  have HM := Lib.hid hm
  have HQ0 := Lib.hid (A8.new w t 100)
  have HB0 := Lib.hid (below_alloc w (.cells (a8 t) 100))
  clear ht hp hf hm
  go_enter Try.func73, Try.ntmps73
  go_wp2
  go_loopw [9, 12] (fun v0 iv wr0 => ∃ (k : Nat) (v : Value) (wr : World), k ≤ m ∧ v = v0 ∧ iv = .int .i64 k ∧ wr = wr0 ∧ Hid (wr.ownsRow (w.heap.size + 1) 2 1 v k ((vfL p t f k).map (Value.int .i64))) ∧ Hid (Below w.heap.size w wr) ∧ Hid (A8 wr w.heap.size t)) (fun _ iv _ => m - (intOf iv).toNat)
  case atStart => exact ⟨0, _, _, by omega, rfl, rfl, rfl, Lib.hid (World.ownsRow_nil _ _ _ _), HB0, HQ0⟩
  case round =>
    obtain ⟨k, v, wr, hk, rfl, rfl, rfl, HO, HW, HA⟩ := hrel
    by_cases hlt : k < m
    · obtain ⟨hp1, hp2⟩ := HP.out
      obtain ⟨hf1, hf2⟩ := HF.out
      have hm8 := HM.out.2
      have hrng := HA.out.range
      have hwk : IntKind.i64.wrap (f + (k : Int)) = f + (k : Int) := IntWalk.i64_in _ (by omega)
      have HX : Hid (∀ w2, Calls Try.prog 78 #[.agg (a8 t), .int .i64 p, .int .i64 (f + (k : Int))] w2 fun e w' => e = .returned (.int .i64 (Pol.ho p t (f + (k : Int)) 8 8)) ∧ Below w2.heap.size w2 w') := Lib.hid (fun w2 => at_impl p (f + (k : Int)) t w2 (by omega) hp2 (by omega) (by omega) HT.out)
      have HL := Lib.hid (vfL_on p t f k)
      have HNE := Lib.hid (own_block HO.out)
      have hsz := HW.out.size
      generalize Pol.ho p t (f + (k : Int)) 8 8 = y at HX HL
      go_wp2_with (first | (refine load_8 rfl _ rfl w.heap.size (by rfl) t hrng ?_) | (go_at_call 78; refine (HX.out _).mono ?_; rintro e w2 ⟨rfl, hb⟩; have HB2 := Lib.hid hb; have HO1 := Lib.hid (own_keep HO.out hb); have hsz2 := hb.size; clear hb) | (at_builtin; refine wpList_append_lies _ rfl _ _ 22 rfl (w.heap.size + 1) 2 i0 (.int .i64 0) 1 8 Try.underlying22 hi hz0 hz1 hz2 rfl (by omega) v k ((vfL p t f k).map (Value.int .i64)) rfl (World.ownsRow.alloc HO1.out _) ⟨w2.heap.size, 0, none⟩ 1 1 [.int .i64 y] rfl rfl (World.news_of_block (cs := #[.int .i64 y]) (t := 2) (fr := (0, 0)) (heap_alloc_new _ _)) (by simp [Value.oneCell']) (by omega) (by unfold maxLen; omega) (by omega) (by simp; omega) (w2.heap.size + 1) (by simp) ?_; intro gg cp w3 hown1 hgrow hat hlt2; have HO2 := Lib.hid hown1; have HG2 := Lib.hid hgrow; clear hown1 hgrow hat hlt2) | fail)
      have HB3 := Lib.hid (Below.grown ((Below.alloc HB2.out HB2.out.size (.cells #[.int .i64 y] 2)).mono hsz) HG2.out (by simp; omega) (fun j hj => Nat.le_trans (by omega) (HNE.out j hj)) : Below w.heap.size wr w3)
      have HA3 := Lib.hid (((HA.out.below HB2.out).alloc (.cells #[.int .i64 y] 2)).kept (n := w.heap.size + 1) (by omega) (Below.grown (Below.refl _ _) HG2.out (by simp; omega) HNE.out))
      exact ⟨⟨k + 1, _, _, by omega, rfl, by first | rfl | go_num | (congr 1), rfl, Lib.hid (by rw [HL.out]; exact HO2.out), Lib.hid (HW.out.trans HB3.out), HA3⟩, by show m - ((k : Int) + 1).toNat < m - (k : Int).toNat; omega⟩
    · obtain rfl : k = m := by omega
      obtain ⟨g3, cp3, e, hnew⟩ := il_new (own_mono9 HO.out (by omega)) HW.out (by have := HM.out; omega)
      subst e
      have HNW := Lib.hid hnew
      clear hnew HO
      go_wp2
      go_ret
      exact ⟨_, _, rfl, HNW.out⟩
end Go.Proofs.Ytaefmffmjbabcaa
