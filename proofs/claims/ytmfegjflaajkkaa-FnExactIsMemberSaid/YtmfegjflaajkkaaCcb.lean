
/- slices.Concat of two rows of bits. -/
import Derived.Test.YtmfegjflaajkkaaTnv
import Derived.Lib.AppendZeros
namespace Go.Proofs.Ytmfegjflaajkkaa
open Go.Proofs.Ytmfegjflaajkkaa.Flo Go.RowKit

theorem Gat.stepM {w : World} {base : Nat} {T : TypeId} {v : Value} {k m : Nat} {f g : Nat → Value} (h : w.ownsRow base T 1 v (k + m) ((List.range k).map f ++ (List.range m).map g)) (e : ∀ i, i < m → g i = f (k + i)) : Gat w base T v (k + m) f := by
  unfold Gat
  have h2 : (List.range m).map g = (List.range m).map (fun i => f (k + i)) := List.map_congr_left (fun i hi => e i (List.mem_range.1 hi))
  rw [List.range_add, List.map_append, List.map_map]
  rw [h2] at h
  exact h
def ccF (f : Nat → Bool) (n : Nat) (h : Nat → Bool) (i : Nat) : Bool := if i < n then f i else h (i - n)
theorem run_append_none {P : Program} (w : World) (t ty e : TypeId) (i : TypeInfo) (b : Addr) (l c : Nat) (a : Option Addr) (k : Nat) (hlc : l ≤ c) (ht : P.underlying t = some (.slice e)) (hi : P.info? e = some i) :
    (Builtin.append_ #[t, t] ty #[.slice (some b) l c, .slice a 0 k]).run P w = .ok (.slice (some b) l c) w := by
  cases a with
  | none =>
    have h0 := run_firstCells_none (P := P) w i.size 0 0 k
    simp [Builtin.append_, run_underlying ht, sizeOf, typeInfo, hi, Builtin.lenOf, hlc, h0, storeCells]
  | some x =>
    have h0 := run_firstCells_some (P := P) w i.size 0 x 0 k [] (by simp) (by intro j v hj; simp at hj)
    simp [Builtin.append_, run_underlying ht, sizeOf, typeInfo, hi, Builtin.lenOf, hlc, h0, storeCells]
set_option maxRecDepth 100000 in
set_option maxHeartbeats 4000000 in
theorem grow_B (N : Nat) (w : World) (h1 : 1 ≤ N) (h2 : N ≤ 1048576) :
    Calls Try.prog 95 #[.slice none 0 0, .int .i64 (N : Int)] w fun e w' => ∃ g cp, e = .returned (.slice (some ⟨g, 0, none⟩) 0 cp) ∧ w'.ownsRow w.heap.size 4 1 (.slice (some ⟨g, 0, none⟩) 0 cp) 0 [] ∧ Below w.heap.size w w' := by
  obtain ⟨i0, hi, hz0, hz1, hz2⟩ := info_parts Try.infoB
  have hr := Lib.run_append_nil_zeros (P := Try.prog) w 36 3 36 4 i0 (.bool false) .i64 .i64 Try.underlying36 Try.underlying3 hi hz0 N h1 (by omega) (by omega) (by rw [hz2]; omega)
  have hcap : grownCap w N 0 4 ≤ maxLen := grownCap_le_maxLen w N 0 4 (by unfold maxLen; omega)
  have hge := grownCap_ge w N 0 4
  have HR := Lib.hid hr
  have HO : Hid ((w.drew.alloc (.cells (Builtin.zeroCells (Value.bool false).cells N ++ Builtin.zeroCells (Value.bool false).cells (grownCap w N 0 4 - N)) 4)).ownsRow w.heap.size 4 1 (.slice (some ⟨w.heap.size, 0, none⟩) 0 (grownCap w N 0 4)) 0 []) := Lib.hid (by
    have h := World.ownsRow_made (base := w.heap.size) (e := 4) (size := 1) w.drew (Builtin.zeroCells (Value.bool false).cells N ++ Builtin.zeroCells (Value.bool false).cells (grownCap w N 0 4 - N)) (grownCap w N 0 4) (Nat.le_refl _) hcap (by rw [Array.size_append, size_zeroCells, size_zeroCells]; show N * 1 + (grownCap w N 0 4 - N) * 1 = _; omega)
    exact h)
  have hd1 : decide ((N : Int) < 0) = false := decide_eq_false (by omega)
  have hd2 : decide ((0 : Int) < (N : Int)) = true := decide_eq_true (by omega)
  have hC0 : 0 < grownCap w N 0 4 := by omega
  clear hr
  generalize grownCap w N 0 4 = C at HR HO hcap hge hC0
  generalize Builtin.zeroCells (Value.bool false).cells N ++ Builtin.zeroCells (Value.bool false).cells (C - N) = cs at HR HO
  go_enter Try.func95, Try.ntmps95
  go_wp2_with (first | (at_builtin; refine Lib.wpList_append_run _ rfl _ _ _ _ rfl _ _ rfl rfl _ _ HR.out ?_) | fail)
  go_ret
  exact ⟨_, _, rfl, HO.out, by first | exact Below.alloc (Below.drew (Below.refl _ _)) (Nat.le_refl _) _ | exact (Below.drew (Below.refl _ _)).alloc (by simp) _⟩
set_option maxRecDepth 100000 in
set_option maxHeartbeats 8000000 in
theorem cc_B (B : Nat) (a : Option Addr) (n cap : Nat) (f : Nat → Bool) (z : Option Addr) (M capz : Nat) (h : Nat → Bool) (w : World) (ha : BRow w a n f) (hz : BRow w z M h) (hBl : B < w.heap.size) (hc0 : w.cell? ⟨B, 0, none⟩ = some (.slice a n cap)) (hc1 : w.cell? ⟨B, 1, none⟩ = some (.slice z M capz)) (hn : n ≤ 1000) (hM : 1 ≤ M ∧ M ≤ 1000) :
    Calls Try.prog 71 #[.slice (some ⟨B, 0, none⟩) 2 2] w fun e w' => ∃ g cp, e = .returned (.slice (some ⟨g, 0, none⟩) (n + M) cp) ∧ New w w' g (.bl (n + M) (ccF f n h)) := by
  obtain ⟨i0, hi, hz0, hz1, hz2⟩ := info_parts Try.infoB
  obtain ⟨hM1, hM2⟩ := hM
  obtain ⟨bz, oz, rfl, _⟩ := hz.cell (k := 0) (by omega)
  have HA := Lib.hid ha
  have HZ := Lib.hid hz
  have HC0 := Lib.hid hc0
  have HC1 := Lib.hid hc1
  obtain ⟨N, hN⟩ : ∃ N, N = n + M := ⟨_, rfl⟩
  have HN := Lib.hid hN
  have hN1 : 1 ≤ N := by omega
  have hN2 : N ≤ 2000 := by omega
  have hs1 : (n : Int) + (M : Int) = (N : Int) := by omega
  have hd1 : decide ((n : Int) < 0) = false := decide_eq_false (by omega)
  have hd2 : decide ((N : Int) < 0) = false := decide_eq_false (by omega)
  have HG := Lib.hid (fun W => grow_B N W hN1 (by omega))
  rw [← hN]
  clear ha hz hN
  go_enter Try.func71, Try.ntmps71
  go_wp2
  refine wp_loop_rounds 3 ?_
  rw [rounds_succ]
  go_wp2
  rw [rounds_succ]
  go_wp2
  rw [rounds_succ]
  go_wp2_with (first | (go_at_call 95; refine (HG.out _).mono ?_; rintro e w1 ⟨g, cp, rfl, ho, hb⟩; have HO := Lib.hid ho; have HB := Lib.hid hb; clear ho hb) | fail)
  have hc0' : w1.cell? ⟨B, 0, none⟩ = some (.slice a n cap) := by rw [HB.out.cell (p := ⟨B, 0, none⟩) hBl]; exact HC0.out
  have hc1' : w1.cell? ⟨B, 1, none⟩ = some (.slice (some ⟨bz, oz, none⟩) M capz) := by rw [HB.out.cell (p := ⟨B, 1, none⟩) hBl]; exact HC1.out
  have HA1 := Lib.hid (HA.out.below HB.out)
  have HZ1 := Lib.hid (HZ.out.below HB.out)
  have HSZ := Lib.hid HB.out.size
  have HOB := Lib.hid (own_block HO.out)
  clear hc0 hc1
  refine wp_loop_rounds 3 ?_
  rw [rounds_succ]
  by_cases h0 : n = 0
  · subst h0
    have hNM : N = M := by have := HN.out; omega
    have HRN := Lib.hid (fun W ty => run_append_none (P := Try.prog) W 36 ty 4 i0 ⟨g, 0, none⟩ 0 cp a cap (Nat.zero_le _) Try.underlying36 hi)
    go_wp2_with (first | (at_builtin; refine Lib.wpList_append_run _ rfl _ _ _ _ rfl _ _ rfl rfl _ _ (HRN.out _ _) ?_) | fail)
    rw [rounds_succ]
    go_wp2_with (first | (at_builtin; refine wpList_append_lies _ rfl _ _ 36 rfl w.heap.size 4 i0 (.bool false) 1 1 Try.underlying36 hi hz0 hz1 hz2 rfl (by omega) (.slice (some ⟨g, 0, none⟩) 0 cp) 0 [] rfl HO.out ⟨bz, oz, none⟩ M capz ((List.range M).map (fun i => Value.bool (h i))) rfl (by simp) (brow_news HZ1.out) (one_cellsB h M) (by omega) (by unfold maxLen; omega) (by omega) (by have := HSZ.out; omega) w1.heap.size rfl ?_; intro gg cp2 w2 hown1 hgrow hat hlt3; have HO2 := Lib.hid hown1; have HW2 := Lib.hid (Below.grown HB.out hgrow (by have := HSZ.out; omega) (fun j hj => HOB.out j hj)); clear hown1 hgrow hat hlt3) | fail)
    rw [rounds_succ]
    have HF : Hid (Gat w2 w.heap.size 4 (.slice (some ⟨gg, 0, none⟩) (0 + M) cp2) (0 + M) (fun i => .bool (ccF f 0 h i))) := Lib.hid (Gat.stepM (k := 0) (f := fun i => Value.bool (ccF f 0 h i)) HO2.out (fun i _ => by show Value.bool (h i) = Value.bool (if 0 + i < 0 then f (0 + i) else h (0 + i - 0)); rw [if_neg (by omega), Nat.zero_add, Nat.sub_zero]))
    obtain ⟨g3, cp3, e, hnew⟩ := HF.out.new HW2.out (by omega)
    cases e
    have HNW := Lib.hid hnew
    have hNz : 0 + M = N := by omega
    rw [hNz] at HNW
    clear hnew HF HO2
    go_wp2
    go_ret
    exact ⟨_, _, (by first | rfl | (rw [hNM]; rfl) | (rw [← hNM]; rfl)), HNW.out⟩
  · obtain ⟨ba, oa, rfl, _⟩ := HA1.out.cell (k := 0) (by omega)
    go_wp2_with (first | (at_builtin; refine wpList_append_lies _ rfl _ _ 36 rfl w.heap.size 4 i0 (.bool false) 1 1 Try.underlying36 hi hz0 hz1 hz2 rfl (by omega) (.slice (some ⟨g, 0, none⟩) 0 cp) 0 [] rfl HO.out ⟨ba, oa, none⟩ n cap ((List.range n).map (fun i => Value.bool (f i))) rfl (by simp) (brow_news HA1.out) (one_cellsB f n) (by omega) (by unfold maxLen; omega) (by omega) (by have := HSZ.out; omega) w1.heap.size rfl ?_; intro gg cp2 w2 hown1 hgrow hat hlt3; (have HO2 := Lib.hid (by rw [Nat.zero_add] at hown1; simpa using hown1 : w2.ownsRow w.heap.size 4 1 (.slice (some ⟨gg, 0, none⟩) n cp2) n ((List.range n).map (fun i => Value.bool (f i))))); have HGR := Lib.hid hgrow; clear hown1 hgrow hat hlt3) | fail)
    have HW2 := Lib.hid (Below.grown HB.out HGR.out (by have := HSZ.out; omega) (fun j hj => HOB.out j hj))
    have hc1'' : w2.cell? ⟨B, 1, none⟩ = some (.slice (some ⟨bz, oz, none⟩) M capz) := by rw [HW2.out.cell (p := ⟨B, 1, none⟩) hBl]; exact HC1.out
    have HZ2 := Lib.hid (HZ.out.below HW2.out)
    have HSZ2 := Lib.hid HW2.out.size
    have HOB2 := Lib.hid (own_block HO2.out)
    clear hc0' hc1'
    rw [rounds_succ]
    go_wp2_with (first | (at_builtin; refine wpList_append_lies _ rfl _ _ 36 rfl w.heap.size 4 i0 (.bool false) 1 1 Try.underlying36 hi hz0 hz1 hz2 rfl (by omega) (.slice (some ⟨gg, 0, none⟩) n cp2) n ((List.range n).map (fun i => Value.bool (f i))) rfl HO2.out ⟨bz, oz, none⟩ M capz ((List.range M).map (fun i => Value.bool (h i))) rfl (by simp) (brow_news HZ2.out) (one_cellsB h M) (by omega) (by unfold maxLen; omega) (by omega) (by have := HSZ2.out; omega) w2.heap.size rfl ?_; intro g4 cp4 w4 hown1 hgrow hat hlt3; have HO4 := Lib.hid hown1; have HW4 := Lib.hid (Below.grown HW2.out hgrow (by have := HSZ2.out; omega) (fun j hj => HOB2.out j hj)); clear hown1 hgrow hat hlt3) | fail)
    rw [rounds_succ]
    have HF : Hid (Gat w4 w.heap.size 4 (.slice (some ⟨g4, 0, none⟩) (n + M) cp4) (n + M) (fun i => .bool (ccF f n h i))) := Lib.hid (Gat.stepM (k := n) (f := fun i => Value.bool (ccF f n h i)) (by
      have h1 := HO4.out
      have h2 : (List.range n).map (fun i => Value.bool (f i)) = (List.range n).map (fun i => Value.bool (ccF f n h i)) := List.map_congr_left (fun i hi9 => by unfold ccF; rw [if_pos (List.mem_range.1 hi9)])
      rw [h2] at h1
      exact h1) (fun i _ => by show Value.bool (h i) = Value.bool (if n + i < n then f (n + i) else h (n + i - n)); rw [if_neg (by omega), Nat.add_sub_cancel_left]))
    obtain ⟨g3, cp3, e, hnew⟩ := HF.out.new HW4.out (by omega)
    cases e
    have HNW := Lib.hid hnew
    have hNz : n + M = N := HN.out.symm
    rw [hNz] at HNW
    clear hnew HF HO4
    go_wp2
    go_ret
    exact ⟨_, _, (by first | rfl | (rw [hNz]; rfl) | (rw [← hNz]; rfl)), HNW.out⟩
end Go.Proofs.Ytmfegjflaajkkaa
