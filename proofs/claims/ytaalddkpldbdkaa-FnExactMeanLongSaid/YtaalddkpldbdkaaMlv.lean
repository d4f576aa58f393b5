/- MeanLong: plain facts. -/
import Derived.Test.YtaalddkpldbdkaaThw
import Derived.Test.YtaalddkpldbdkaaCdv
namespace Go.Proofs.Ytaalddkpldbdkaa
open Go.Proofs.Ytaalddkpldbdkaa.Flo Go.RowKit

/-- How long words are in the mean, the first k of them. -/
def mlN (zr : List Nat) (zs : List Int) : Nat → Nat
  | 0 => 0
  | i + 1 => (floatBits .add .f32 (mlN zr zs i) ((floatBits .mul .f32 (zr.getD i 0) (floatOfInt .f32 (zs.getD i 0))).getD 0)).getD 0
theorem long_num {x : Int} (h : 1 ≤ x ∧ x ≤ 32) : PosD ((FloatKind.f32).decode (floatOfInt .f32 x)) ∧ finD ((FloatKind.f32).decode (floatOfInt .f32 x)) = true ∧ VLe .f32 5 (cls .f32 (floatOfInt .f32 x)) := by
  have h3 : VLe .f32 5 (cls .f32 (floatOfInt .f32 x)) := by
    rw [cls_int]
    refine ⟨_, rfl, ?_⟩
    refine (nearest_le .f32 (decide (x < 0)) x.natAbs 0 5 (leN_of 0 (by decide) (by decide) ?_) ⟨by decide, by decide⟩).1
    show x.natAbs * 2 ^ 0 ≤ 2 ^ 5
    omega
  refine ⟨?_, le_fin h3 rfl, h3⟩
  exact write_pos .f32 (r := .number (decide (x < 0)) x.natAbs 0) (by rw [decide_eq_false (by omega)]; exact .inl rfl)
theorem ml_step {zr : List Nat} {zs : List Int} {n : Nat} (hr : rowB zr n = true) (hl : lnP zs n) : ∀ i, i ≤ n → PosD ((FloatKind.f32).decode (mlN zr zs i)) ∧
    (i < n → ∃ p, floatBits .mul .f32 (zr.getD i 0) (floatOfInt .f32 (zs.getD i 0)) = some p ∧ floatBits .add .f32 (mlN zr zs i) p = some (mlN zr zs (i + 1)))
  | 0, _ => by
    have h0 : PosD ((FloatKind.f32).decode 0) := by rw [dec_032]; exact .inl rfl
    refine ⟨h0, fun hi => ?_⟩
    obtain ⟨p, hp, hpp⟩ := floatBits_pos (row_num hr hi).1 (long_num (hl 0 hi)).1 (row_num hr hi).2 (long_num (hl 0 hi)).2.1
    obtain ⟨s, hs, _⟩ := floatBits_sum h0 hpp
    refine ⟨p, hp, ?_⟩
    show floatBits .add .f32 0 p = some ((floatBits .add .f32 0 ((floatBits .mul .f32 (zr.getD 0 0) (floatOfInt .f32 (zs.getD 0 0))).getD 0)).getD 0)
    rw [hp]
    show floatBits .add .f32 0 p = some ((floatBits .add .f32 0 p).getD 0)
    rw [hs]; rfl
  | i + 1, hi => by
    obtain ⟨h1, h2⟩ := ml_step hr hl i (by omega)
    obtain ⟨p, hp, hs⟩ := h2 (by omega)
    have hpos : PosD ((FloatKind.f32).decode (mlN zr zs (i + 1))) := by
      obtain ⟨q, hq, hqp⟩ := floatBits_pos (row_num hr (show i < n by omega)).1 (long_num (hl i (by omega))).1 (row_num hr (show i < n by omega)).2 (long_num (hl i (by omega))).2.1
      rw [hp] at hq
      obtain rfl : p = q := by injection hq
      obtain ⟨t, ht, htp⟩ := floatBits_sum h1 hqp
      rw [hs] at ht
      obtain rfl : mlN zr zs (i + 1) = t := by injection ht
      exact htp
    refine ⟨hpos, fun hi2 => ?_⟩
    obtain ⟨q, hq, hqp⟩ := floatBits_pos (row_num hr hi2).1 (long_num (hl (i + 1) hi2)).1 (row_num hr hi2).2 (long_num (hl (i + 1) hi2)).2.1
    obtain ⟨t, ht, _⟩ := floatBits_sum hpos hqp
    refine ⟨q, hq, ?_⟩
    show floatBits .add .f32 (mlN zr zs (i + 1)) q = some ((floatBits .add .f32 (mlN zr zs (i + 1)) ((floatBits .mul .f32 (zr.getD (i + 1) 0) (floatOfInt .f32 (zs.getD (i + 1) 0))).getD 0)).getD 0)
    rw [hq]
    show floatBits .add .f32 _ q = some ((floatBits .add .f32 _ q).getD 0)
    rw [ht]; rfl
theorem bits_clsOf {op : BinOp} {x y r : Nat} (h : floatBits op .f32 x y = some r) : cls .f32 r = vop op .f32 (cls .f32 x) (cls .f32 y) := by
  rw [← fres_cls (w := default), fres_some h]
theorem ml_le {zr : List Nat} {zs : List Int} {n : Nat} (hr : rowB zr n = true) (hl : lnP zs n) (hn : n ≤ 16) : ∀ i : Nat, i ≤ n → VLe .f32 (6 + i) (cls .f32 (mlN zr zs i)) := by
  intro i
  induction i with
  | zero => intro _; exact ⟨0, cls_032, by rw [dec_032]; exact leN_of_log (.inl rfl)⟩
  | succ i ih =>
    intro hi
    obtain ⟨p, hp, hs⟩ := (ml_step hr hl i (by omega)).2 (by omega)
    rw [bits_clsOf hs, bits_clsOf hp]
    have h1 := vmul_le (ch_le (row_n hr).2 (show i < n by omega)) (long_num (hl i (by omega))).2.2 ⟨by omega, by omega⟩
    exact (vadd_le (ih (by omega)) h1 ⟨by omega, by omega⟩).mono (by omega)
def okM (zs : List Int) (n : Nat) (zr : List Nat) (m : Nat) : Bool := codeB zs n && (rowB zr m && decide (m = n))
theorem okM_out {zs : List Int} {zr : List Nat} {n m : Nat} (h : okM zs n zr m = true) : codeB zs n = true ∧ rowB zr m = true ∧ m = n := by
  unfold okM at h
  rw [Bool.and_eq_true, Bool.and_eq_true] at h
  exact ⟨h.1, h.2.1, of_decide_eq_true h.2.2⟩
theorem okM_no {zs : List Int} {zr : List Nat} {n m : Nat} (h : okM zs n zr m = false) (h1 : codeB zs n = true) (h2 : rowB zr m = true) : ¬ m = n := by
  intro e
  unfold okM at h
  rw [h1, h2, decide_eq_true e] at h
  cases h
end Go.Proofs.Ytaalddkpldbdkaa
