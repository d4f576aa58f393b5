
/- slices.Concat of two rows of ints. -/
import Derived.Test.YtaefmffmjbabcaaTwo
import Derived.Lib.AppendZeros
import Derived.Deep.AppendLies
import Derived.Lib.OwnBridge
set_option linter.unusedVariables false
namespace Go.Proofs.Ytaefmffmjbabcaa
open Go.Proofs.Ytaefmffmjbabcaa.Flo Go.RowKit

theorem Try.infoI9 : (Try.prog.info? 2).map (fun i => (i.zero, i.size, i.bytes)) = some (some (.int .i64 0), 1, 8) := by kernel_rfl
theorem il_new {w w' : World} {v : Value} {K : Nat} {L : List Int} (ho : w'.ownsRow w.heap.size 2 1 v K (L.map (Value.int .i64))) (hb : Below w.heap.size w w') (hK : K ≠ 0) : ∃ g cp, v = .slice (some ⟨g, 0, none⟩) K cp ∧ New w w' g (.il K L) := by
  have hv : v ≠ .slice none 0 0 := by
    rintro rfl
    rcases ho.2 with ⟨_, h0⟩ | ⟨g, c, cur, e, _⟩
    · exact hK h0
    · cases e
  obtain ⟨g, cp, rfl, h1, h2, _, _, h3, h4⟩ := Lib.holds_of_ownsRow ho hv
  refine ⟨g, cp, rfl, h1, h2, ?_, hb⟩
  refine ⟨h3, fun i hi => ?_⟩
  have hi : i < K := hi
  have h5 := h4 i (by simpa [h3] using hi)
  rw [Nat.zero_add] at h5
  refine ⟨h5.1.trans ?_, h5.2⟩
  have e : L.toArray[i]! = L.getD i 0 := by
    rw [List.getElem!_toArray, List.getD_eq_getElem?_getD, List.getElem!_eq_getElem?_getD]
    rfl
  rw [e]
  rfl
theorem run_append_noneI {P : Program} (w : World) (t ty e : TypeId) (i : TypeInfo) (b : Addr) (l c : Nat) (a : Option Addr) (k : Nat) (hlc : l ≤ c) (ht : P.underlying t = some (.slice e)) (hi : P.info? e = some i) :
    (Builtin.append_ #[t, t] ty #[.slice (some b) l c, .slice a 0 k]).run P w = .ok (.slice (some b) l c) w := by
  cases a with
  | none =>
    have h0 := run_firstCells_none (P := P) w i.size 0 0 k
    simp [Builtin.append_, run_underlying ht, sizeOf, typeInfo, hi, Builtin.lenOf, hlc, h0, storeCells]
  | some x =>
    have h0 := run_firstCells_some (P := P) w i.size 0 x 0 k [] (by simp) (by intro j v hj; simp at hj)
    simp [Builtin.append_, run_underlying ht, sizeOf, typeInfo, hi, Builtin.lenOf, hlc, h0, storeCells]
theorem own_le {w : World} {base b : Nat} {T : TypeId} {l c k : Nat} {xs : List Value} (h : w.ownsRow base T 1 (.slice (some ⟨b, 0, none⟩) l c) k xs) (hk : k ≠ 0) : l ≤ c := by
  rcases h.2 with ⟨e0, h0⟩ | ⟨g, cap, cur, e0, hb, hg, hn, hm, hs, ht⟩
  · cases e0
  · injection e0 with e1 e2 e3; omega
set_option maxRecDepth 100000 in
set_option maxHeartbeats 4000000 in
theorem grow_I (N : Nat) (w : World) (h1 : 1 ≤ N) (h2 : N ≤ 4194304) :
    Calls Try.prog 121 #[.slice none 0 0, .int .i64 (N : Int)] w fun e w' => ∃ g cp, e = .returned (.slice (some ⟨g, 0, none⟩) 0 cp) ∧ w'.ownsRow w.heap.size 2 1 (.slice (some ⟨g, 0, none⟩) 0 cp) 0 [] ∧ Below w.heap.size w w' := by
  obtain ⟨i0, hi, hz0, hz1, hz2⟩ := info_parts Try.infoI9
  have hr := Lib.run_append_nil_zeros (P := Try.prog) w 22 3 22 2 i0 (.int .i64 0) .i64 .i64 Try.underlying22 Try.underlying3 hi hz0 N h1 (by omega) (by omega) (by rw [hz2]; omega)
  have hcap : grownCap w N 0 2 ≤ maxLen := grownCap_le_maxLen w N 0 2 (by unfold maxLen; omega)
  have hge := grownCap_ge w N 0 2
  have HR := Lib.hid hr
  have HO : Hid ((w.drew.alloc (.cells (Builtin.zeroCells (Value.int .i64 0).cells N ++ Builtin.zeroCells (Value.int .i64 0).cells (grownCap w N 0 2 - N)) 2)).ownsRow w.heap.size 2 1 (.slice (some ⟨w.heap.size, 0, none⟩) 0 (grownCap w N 0 2)) 0 []) := Lib.hid (by
    have h := World.ownsRow_made (base := w.heap.size) (e := 2) (size := 1) w.drew (Builtin.zeroCells (Value.int .i64 0).cells N ++ Builtin.zeroCells (Value.int .i64 0).cells (grownCap w N 0 2 - N)) (grownCap w N 0 2) (Nat.le_refl _) hcap (by rw [Array.size_append, size_zeroCells, size_zeroCells]; show N * 1 + (grownCap w N 0 2 - N) * 1 = _; omega)
    exact h)
  have hd1 : decide ((N : Int) < 0) = false := decide_eq_false (by omega)
  have hd2 : decide ((0 : Int) < (N : Int)) = true := decide_eq_true (by omega)
  have hC0 : 0 < grownCap w N 0 2 := by omega
  clear hr
  generalize grownCap w N 0 2 = C at HR HO hcap hge hC0
  generalize Builtin.zeroCells (Value.int .i64 0).cells N ++ Builtin.zeroCells (Value.int .i64 0).cells (C - N) = cs at HR HO
  go_enter Try.func121, Try.ntmps121
  go_wp2_with (first | (at_builtin; refine Lib.wpList_append_run _ rfl _ _ _ _ rfl _ _ rfl rfl _ _ HR.out ?_) | fail)
  go_ret
  exact ⟨_, _, rfl, HO.out, by first | exact Below.alloc (Below.drew (Below.refl _ _)) (Nat.le_refl _) _ | exact (Below.drew (Below.refl _ _)).alloc (by simp) _⟩
set_option maxRecDepth 100000 in
set_option maxHeartbeats 8000000 in
theorem cc_I (B : Nat) (ba oa n cap : Nat) (zs : List Int) (z : Option Addr) (M capz : Nat) (ys : List Int) (w : World) (ha : IRow w (some ⟨ba, oa, none⟩) n zs) (hz : IRow w z M ys) (hBl : B < w.heap.size) (hc0 : w.cell? ⟨B, 0, none⟩ = some (.slice (some ⟨ba, oa, none⟩) n cap)) (hc1 : w.cell? ⟨B, 1, none⟩ = some (.slice z M capz)) (hn : 1 ≤ n ∧ n ≤ 1048576) (hM : M ≤ 1048576) :
    Calls Try.prog 69 #[.slice (some ⟨B, 0, none⟩) 2 2] w fun e w' => ∃ g cp, e = .returned (.slice (some ⟨g, 0, none⟩) (n + M) cp) ∧ New w w' g (.il (n + M) (zs ++ ys)) := by
  obtain ⟨i0, hi, hz0, hz1, hz2⟩ := info_parts Try.infoI9
  obtain ⟨hn1, hn2⟩ := hn
  have HA := Lib.hid ha
  have HZ := Lib.hid hz
  have HC0 := Lib.hid hc0
  have HC1 := Lib.hid hc1
  have HL := Lib.hid ha.1
  have HLY := Lib.hid hz.1
  obtain ⟨N, hN⟩ : ∃ N, N = n + M := ⟨_, rfl⟩
  have HN := Lib.hid hN
  have hN1 : 1 ≤ N := by omega
  have hN2 : N ≤ 2097152 := by omega
  have hs1 : (n : Int) + (M : Int) = (N : Int) := by omega
  have hd1 : decide ((n : Int) < 0) = false := decide_eq_false (by omega)
  have hd2 : decide ((N : Int) < 0) = false := decide_eq_false (by omega)
  have HG := Lib.hid (fun W => grow_I N W hN1 (by omega))
  rw [← hN]
  clear ha hz hN
  go_enter Try.func69, Try.ntmps69
  go_wp2
  refine wp_loop_rounds 3 ?_
  rw [rounds_succ]
  go_wp2
  rw [rounds_succ]
  go_wp2
  rw [rounds_succ]
  go_wp2_with (first | (go_at_call 121; refine (HG.out _).mono ?_; rintro e w1 ⟨g, cp, rfl, ho, hb⟩; have HO := Lib.hid ho; have HB := Lib.hid hb; clear ho hb) | fail)
  have hc0' : w1.cell? ⟨B, 0, none⟩ = some (.slice (some ⟨ba, oa, none⟩) n cap) := by rw [HB.out.cell (p := ⟨B, 0, none⟩) hBl]; exact HC0.out
  have hc1' : w1.cell? ⟨B, 1, none⟩ = some (.slice z M capz) := by rw [HB.out.cell (p := ⟨B, 1, none⟩) hBl]; exact HC1.out
  have HA1 := Lib.hid (HA.out.below HB.out)
  have HZ1 := Lib.hid (HZ.out.below HB.out)
  have HSZ := Lib.hid HB.out.size
  have HOB := Lib.hid (own_block HO.out)
  clear hc0 hc1
  refine wp_loop_rounds 3 ?_
  rw [rounds_succ]
  go_wp2_with (first | (at_builtin; refine wpList_append_lies _ rfl _ _ 22 rfl w.heap.size 2 i0 (.int .i64 0) 1 8 Try.underlying22 hi hz0 hz1 hz2 rfl (by omega) (.slice (some ⟨g, 0, none⟩) 0 cp) 0 [] rfl HO.out ⟨ba, oa, none⟩ n cap (zs.map (Value.int .i64)) rfl (by rw [List.length_map, Nat.mul_one]; exact HL.out) (irow_news HA1.out) (one_cellsI zs) (by omega) (by unfold maxLen; omega) (by omega) (by have := HSZ.out; omega) w1.heap.size rfl ?_; intro gg cp2 w2 hown1 hgrow hat hlt3; (have HO2 := Lib.hid (by first | exact hown1 | (rw [Nat.zero_add] at hown1; simpa using hown1) | simpa using hown1 : w2.ownsRow w.heap.size 2 1 (.slice (some ⟨gg, 0, none⟩) n cp2) n (zs.map (Value.int .i64)))); have HGR := Lib.hid hgrow; clear hown1 hgrow hat hlt3) | fail)
  have HW2 := Lib.hid (Below.grown HB.out HGR.out (by have := HSZ.out; omega) (fun j hj => HOB.out j hj))
  have hc1'' : w2.cell? ⟨B, 1, none⟩ = some (.slice z M capz) := by rw [HW2.out.cell (p := ⟨B, 1, none⟩) hBl]; exact HC1.out
  have HZ2 := Lib.hid (HZ.out.below HW2.out)
  have HSZ2 := Lib.hid HW2.out.size
  have HOB2 := Lib.hid (own_block HO2.out)
  clear hc0' hc1'
  rw [rounds_succ]
  by_cases hM0 : M = 0
  · subst hM0
    have hys : ys = [] := List.length_eq_zero_iff.1 HLY.out
    subst hys
    have hle2 := own_le HO2.out (by omega)
    have HRN := Lib.hid (fun W ty => run_append_noneI (P := Try.prog) W 22 ty 2 i0 ⟨gg, 0, none⟩ n cp2 z capz hle2 Try.underlying22 hi)
    go_wp2_with (first | (at_builtin; refine Lib.wpList_append_run _ rfl _ _ _ _ rfl _ _ rfl rfl _ _ (HRN.out _ _) ?_) | fail)
    rw [rounds_succ]
    obtain ⟨g3, cp3, e, hnew⟩ := il_new HO2.out HW2.out (by omega)
    cases e
    have HNW := Lib.hid hnew
    have hNz : N = n := HN.out
    clear hnew HO2
    go_wp2
    go_ret
    refine ⟨gg, cp2, (by first | rfl | (rw [hNz]; rfl) | (rw [← hNz]; rfl)), ?_⟩
    rw [List.append_nil, hNz]
    exact HNW.out
  · obtain ⟨bz, oz, rfl⟩ : ∃ bz oz, z = some ⟨bz, oz, none⟩ := by
      rcases HZ2.out.2 with h0 | ⟨b, o, e, _⟩
      · exact absurd h0 hM0
      · exact ⟨b, o, e⟩
    go_wp2_with (first | (at_builtin; refine wpList_append_lies _ rfl _ _ 22 rfl w.heap.size 2 i0 (.int .i64 0) 1 8 Try.underlying22 hi hz0 hz1 hz2 rfl (by omega) (.slice (some ⟨gg, 0, none⟩) n cp2) n (zs.map (Value.int .i64)) rfl HO2.out ⟨bz, oz, none⟩ M capz (ys.map (Value.int .i64)) rfl (by rw [List.length_map, Nat.mul_one]; exact HLY.out) (irow_news HZ2.out) (one_cellsI ys) (by omega) (by unfold maxLen; omega) (by omega) (by have := HSZ2.out; omega) w2.heap.size rfl ?_; intro g4 cp4 w4 hown1 hgrow hat hlt3; have HO4 := Lib.hid hown1; have HW4 := Lib.hid (Below.grown HW2.out hgrow (by have := HSZ2.out; omega) (fun j hj => HOB2.out j hj)); clear hown1 hgrow hat hlt3) | fail)
    rw [rounds_succ]
    obtain ⟨g3, cp3, e, hnew⟩ := il_new (L := zs ++ ys) (by rw [List.map_append]; exact HO4.out) HW4.out (by omega)
    cases e
    have HNW := Lib.hid hnew
    have hNz : n + M = N := HN.out.symm
    rw [hNz] at HNW
    clear hnew HO4
    go_wp2
    go_ret
    exact ⟨_, _, (by first | rfl | (rw [hNz]; rfl) | (rw [← hNz]; rfl)), HNW.out⟩
end Go.Proofs.Ytaefmffmjbabcaa
