/- SurpriseOf, for a seat without its law. -/
import Derived.Test.YtiajpmfdaooefaaRwi
namespace Go.Proofs.Ytiajpmfdaooefaa.Su
open Go.Proofs.Ytiajpmfdaooefaa.Flo Go.Proofs.Ytiajpmfdaooefaa Go.RowKit

/-- What is not a chance of a surprise: both fail. -/
def surB (z : Nat) : Bool := (FloatKind.f32).format.order z 0 == some .gt && ((FloatKind.f32).format.order z 1065353216 == some .lt || (FloatKind.f32).format.order z 1065353216 == some .eq)
theorem sur_le {z : Nat} (h : surB z = true) : ∃ m i, (FloatKind.f32).decode z = .number false m i ∧ m ≠ 0 := by
  unfold surB at h
  rw [Bool.and_eq_true] at h
  obtain ⟨h1, h2⟩ := h
  have e1 : (FloatKind.f32).format.order z 0 = ((FloatKind.f32).decode z).order ((FloatKind.f32).decode 0) := rfl
  have e2 : (FloatKind.f32).format.order z 1065353216 = ((FloatKind.f32).decode z).order ((FloatKind.f32).decode one32) := rfl
  rw [e1, dec_032] at h1
  rw [e2, dec_one32] at h2
  cases hd : (FloatKind.f32).decode z with
  | nan => rw [hd] at h1; cases h1
  | infinity s => rw [hd] at h1 h2; cases s <;> simp [Ieee.Datum.order] at h1 h2
  | number s m i =>
    rw [hd, order_0] at h1
    have h1 : some (compare (Ieee.signed s m (i - min i (-149)).toNat) 0) = some .gt := by simpa using h1
    have h3 : 0 < Ieee.signed s m (i - min i (-149)).toNat := by
      injection h1 with h1
      have h4 : compareOfLessAndEq (Ieee.signed s m (i - min i (-149)).toNat) 0 = .gt := h1
      unfold compareOfLessAndEq at h4
      split at h4
      · cases h4
      · split at h4
        · cases h4
        · omega
    by_cases h0 : m = 0
    · rw [h0, signed_zero] at h3; omega
    · refine ⟨m, i, ?_, h0⟩
      cases s with
      | false => rfl
      | true =>
        have := signed_not false m (i - min i (-149)).toNat
        have e : Ieee.signed true m (i - min i (-149)).toNat = - Ieee.signed false m (i - min i (-149)).toNat := this
        rw [e, signed_false'] at h3
        generalize m * 2 ^ (i - min i (-149)).toNat = p at h3
        omega
def surV (z : Nat) : Option Nat := vop .sub .f32 (cls .f32 0) (bitsV z)
theorem surV_le {z : Nat} (h : surB z = true) : VLe .f32 45 (surV z) := by
  obtain ⟨m, i, hd, h0⟩ := sur_le h
  have hz : VLe .f32 0 (cls .f32 0) := ⟨0, cls_032, by rw [dec_032]; exact leN_of_log (.inl rfl)⟩
  exact (vsub_le hz (bitsV_le hd h0) ⟨by decide, by decide⟩).mono (by decide)
theorem sur_cls {l z : Nat} (h : cls .f32 l = bitsV z) (w : World) : cls .f32 (fres .sub .f32 0 l w) = surV z := by
  rw [fres_cls, h]; rfl
theorem sur_inf {z : Nat} (h : surB z = true) : (FloatKind.f32).decode z = .infinity false → z = 2139095040 := by
  obtain ⟨m, i, hd, _⟩ := sur_le h
  rw [hd]; intro e; cases e
/-- 'l02Share(x)' and not 0, as the model asks. -/
theorem sur_true {z : Nat} (h : surB z = true) : ((FloatKind.f32).format.order z 0 == some .gt) = true ∧ ((FloatKind.f32).format.order z 1065353216 == some .lt || (FloatKind.f32).format.order z 1065353216 == some .eq) = true := by
  unfold surB at h
  rw [Bool.and_eq_true] at h
  exact h
set_option maxHeartbeats 1000000 in
theorem sur_spec (z : Nat) (w : World) (h : surB z = true) : Calls Try.prog 85 #[.float .f32 z] w fun e w' => ∃ r, e = .returned (.tuple #[.float .f32 r, .bool true]) ∧ cls .f32 r = surV z ∧ Drew w w' := by
  have HB := Lib.hid h
  obtain ⟨h1, h2⟩ := sur_true h
  have h3 : (FloatKind.f32).format.order z 0 = some .gt := by simpa using h1
  clear h h1
  go_enter Try.func85, Try.ntmps85
  go_wp2_with (first | (go_at_call 113; refine (bits_spec z _).mono ?_; rintro e w' ⟨l, rfl, hl, n2, rfl⟩; have HL := Lib.hid hl; clear hl) | (go_at_call 64; refine (number_spec _ (le_fin (surV_le HB.out) (sur_cls HL.out _)) _).mono ?_; rintro e w' ⟨rfl, q3, rfl⟩) | go_in)
  go_ret2
  exact ⟨_, rfl, sur_cls HL.out _, Drew.mk _ _⟩
set_option maxHeartbeats 1000000 in
theorem sur_impl (z : Nat) (w : World) (h : surB z = true) : Calls Try.prog 86 #[.float .f32 z] w fun e w' => ∃ r, e = .returned (.tuple #[.float .f32 r, .bool true]) ∧ cls .f32 r = surV z ∧ Drew w w' := by
  have HB := Lib.hid h
  obtain ⟨h1, h2⟩ := sur_true h
  clear h
  go_enter Try.func86, Try.ntmps86
  go_wp2_with (first | (go_at_call 114; refine (bits_impl z (sur_inf HB.out) _).mono ?_; rintro e w' ⟨l, rfl, hl, n2, rfl⟩; have HL := Lib.hid hl; clear hl) | go_in)
  go_ret2
  exact ⟨_, rfl, sur_cls HL.out _, Drew.mk _ _⟩
set_option maxHeartbeats 1000000 in
theorem sur_spec' (z : Nat) (w : World) (h : surB z = false) : Calls Try.prog 85 #[.float .f32 z] w fun e w' => e = .returned (.tuple #[.float .f32 0, .bool false]) ∧ Drew w w' := by
  have HB := Lib.hid h
  cases h0 : (FloatKind.f32).format.order z 0 with
  | none =>
    clear h
    go_enter Try.func85, Try.ntmps85
    go_wp2
    go_ret2
    exact ⟨rfl, Drew.refl _⟩
  | some o =>
    cases o with
    | lt =>
      clear h
      go_enter Try.func85, Try.ntmps85
      go_wp2
      go_ret2
      exact ⟨rfl, Drew.refl _⟩
    | eq =>
      clear h
      cases hg : ((FloatKind.f32).format.order z 1065353216 == some .lt || (FloatKind.f32).format.order z 1065353216 == some .eq) with
      | true =>
        go_enter Try.func85, Try.ntmps85
        go_wp2
        go_ret2
        exact ⟨rfl, Drew.refl _⟩
      | false =>
        go_enter Try.func85, Try.ntmps85
        go_wp2
        go_ret2
        exact ⟨rfl, Drew.refl _⟩
    | gt =>
      have hg : ((FloatKind.f32).format.order z 1065353216 == some .lt || (FloatKind.f32).format.order z 1065353216 == some .eq) = false := by
        unfold surB at h
        rw [h0] at h
        simpa using h
      clear h
      go_enter Try.func85, Try.ntmps85
      go_wp2
      go_ret2
      exact ⟨rfl, Drew.refl _⟩
set_option maxHeartbeats 1000000 in
theorem sur_impl' (z : Nat) (w : World) (h : surB z = false) : Calls Try.prog 86 #[.float .f32 z] w fun e w' => e = .returned (.tuple #[.float .f32 0, .bool false]) ∧ Drew w w' := by
  cases h0 : ((FloatKind.f32).format.order z 0 == some .gt) with
  | false =>
    clear h
    go_enter Try.func86, Try.ntmps86
    go_wp2
    go_ret2
    exact ⟨rfl, Drew.refl _⟩
  | true =>
    have hg : ((FloatKind.f32).format.order z 1065353216 == some .lt || (FloatKind.f32).format.order z 1065353216 == some .eq) = false := by
      unfold surB at h
      rw [h0, Bool.true_and] at h
      exact h
    clear h
    go_enter Try.func86, Try.ntmps86
    go_wp2
    go_ret2
    exact ⟨rfl, Drew.refl _⟩
def surX (z : Nat) : Nat := (surV z).getD 0
theorem surX_le {z : Nat} (h : surB z = true) : surV z = some (surX z) ∧ Le 45 ((FloatKind.f32).decode (surX z)) := by
  obtain ⟨b, e, hb⟩ := surV_le h
  unfold surX
  rw [e]
  exact ⟨rfl, hb⟩
theorem cls_some {r X : Nat} (h : cls .f32 r = some X) : r = X := by
  unfold cls at h
  split at h
  · cases h
  · injection h
theorem su_spec (z : Nat) (w : World) (h : surB z = true) : Calls Try.prog 85 #[.float .f32 z] w fun e w' => e = .returned (.tuple #[.float .f32 (surX z), .bool true]) ∧ Drew w w' :=
  (sur_spec z w h).mono fun _ _ ⟨r, h1, h2, h3⟩ => ⟨by rw [h1, cls_some (h2.trans (surX_le h).1)], h3⟩
theorem su_impl (z : Nat) (w : World) (h : surB z = true) : Calls Try.prog 86 #[.float .f32 z] w fun e w' => e = .returned (.tuple #[.float .f32 (surX z), .bool true]) ∧ Drew w w' :=
  (sur_impl z w h).mono fun _ _ ⟨r, h1, h2, h3⟩ => ⟨by rw [h1, cls_some (h2.trans (surX_le h).1)], h3⟩
end Go.Proofs.Ytiajpmfdaooefaa.Su
