/- IsRow and EntropyOf: the laws' walks. -/
import Derived.Test.YtmklgnjacbcfeaaRwl
import Derived.Test.YtmklgnjacbcfeaaSlg
namespace Go.Proofs.Ytmklgnjacbcfeaa
open Go.Proofs.Ytmklgnjacbcfeaa.Flo Go.RowKit

set_option maxHeartbeats 1000000 in
theorem isrow_walk (a : Option Addr) (n cap : Nat) (zs : List Nat) (w : World) (ha : FRow w a n zs) :
    Calls Try.prog 3 #[.slice a n cap] w fun e w' => e = .returned (.bool true) ∧ Below w.heap.size w w' := by
  by_cases hm : n ≤ 1048576
  · have HA := Lib.hid ha
    have hd : decide (1048576 < (n : Int)) = false := by simp; omega
    clear ha
    go_enter Try.func3, Try.ntmps3
    go_wp2_with (first | (go_at_call 16; refine (toF _ _ _ zs _ (by repeat (first | exact HA.out | refine FRow.drewN ?_ _ | refine FRow.alloc ?_ _)) hm).mono ?_; rintro e w2 ⟨rfl, rfl⟩) | (go_at_call 49; refine (row_spec _ _ _ zs _ (FRow.new' HA.out.1 (by simp) _) hm).mono ?_; rintro e w' ⟨rfl, q1, rfl⟩) | (go_at_call 17; refine (row_impl _ _ _ zs _ (FRow.new' HA.out.1 (by simp) _) hm).mono ?_; rintro e w' ⟨rfl, q2, rfl⟩) | (go_at_call 18; refine (eqF _ _ _ _ _ zs _ (((FRow.new' HA.out.1 (by simp) _).drewN _).alloc _) (FRow.new' HA.out.1 (by simp) _) hm).mono ?_; rintro e w2 ⟨rfl, n4, rfl⟩) | go_in)
    go_ret
    exact ⟨rfl, by repeat (first | exact Below.refl _ _ | refine Below.drewN' ?_ _ | refine Below.alloc ?_ (by simp <;> omega) _)⟩
  · go_enter Try.func3, Try.ntmps3
    go_wp2
    go_ret
    exact ⟨rfl, Below.refl _ _⟩
theorem row_n {zs : List Nat} {n : Nat} (h : rowB zs n = true) : n ≤ 64 ∧ chS zs n = true := by
  unfold rowB at h
  rw [Bool.and_eq_true] at h
  have := of_decide_eq_true h.1
  exact ⟨by omega, h.2⟩
set_option maxHeartbeats 1000000 in
theorem entO_spec (a : Option Addr) (n cap : Nat) (zs : List Nat) (w : World) (ha : FRow w a n zs) (hm : n ≤ 1048576) (hr : rowB zs n = true) :
    Calls Try.prog 33 #[.slice a n cap] w fun e w' => ∃ r, e = .returned (.tuple #[.float .f32 r, .bool true]) ∧ cls .f32 r = entV zs n ∧ Drew w w' := by
  have HA := Lib.hid ha
  obtain ⟨hn, hc⟩ := row_n hr
  have HC := Lib.hid hc
  clear ha hc
  go_enter Try.func33, Try.ntmps33
  go_wp2_with (first | (go_at_call 49; refine (row_spec _ _ _ zs _ HA.out hm).mono ?_; rintro e w' ⟨rfl, q1, rfl⟩) | (go_at_call 67; refine (ent_spec _ _ _ zs _ (HA.out.drewN _) HC.out hn).mono ?_; rintro e w' ⟨r, rfl, hr, n2, rfl⟩; have HR := Lib.hid hr; clear hr) | (go_at_call 64; refine (number_spec _ (le_fin (entV_le HC.out hn) HR.out) _).mono ?_; rintro e w' ⟨rfl, q3, rfl⟩) | go_in)
  go_ret2
  exact ⟨_, rfl, HR.out, Drew.mk _ _⟩
set_option maxHeartbeats 1000000 in
theorem entO_spec' (a : Option Addr) (n cap : Nat) (zs : List Nat) (w : World) (ha : FRow w a n zs) (hm : n ≤ 1048576) (hr : rowB zs n = false) :
    Calls Try.prog 33 #[.slice a n cap] w fun e w' => e = .returned (.tuple #[.float .f32 0, .bool false]) ∧ Drew w w' := by
  have HA := Lib.hid ha
  clear ha
  go_enter Try.func33, Try.ntmps33
  go_wp2_with (first | (go_at_call 49; refine (row_spec _ _ _ zs _ HA.out hm).mono ?_; rintro e w' ⟨rfl, q1, rfl⟩) | go_in)
  go_ret2
  exact ⟨rfl, Drew.mk _ _⟩
set_option maxHeartbeats 1000000 in
theorem entO_impl (a : Option Addr) (n cap : Nat) (zs : List Nat) (w : World) (ha : FRow w a n zs) (hm : n ≤ 1048576) (hr : rowB zs n = true) :
    Calls Try.prog 34 #[.slice a n cap] w fun e w' => ∃ r, e = .returned (.tuple #[.float .f32 r, .bool true]) ∧ cls .f32 r = entV zs n ∧ Drew w w' := by
  have HA := Lib.hid ha
  obtain ⟨hn, hc⟩ := row_n hr
  have HC := Lib.hid hc
  clear ha hc
  go_enter Try.func34, Try.ntmps34
  go_wp2_with (first | (go_at_call 17; refine (row_impl _ _ _ zs _ HA.out hm).mono ?_; rintro e w' ⟨rfl, q1, rfl⟩) | (go_at_call 68; refine (ent_impl _ _ _ zs _ (HA.out.drewN _) HC.out hn).mono ?_; rintro e w' ⟨r, rfl, hr, n2, rfl⟩; have HR := Lib.hid hr; clear hr) | go_in)
  go_ret2
  exact ⟨_, rfl, HR.out, Drew.mk _ _⟩
set_option maxHeartbeats 1000000 in
theorem entO_impl' (a : Option Addr) (n cap : Nat) (zs : List Nat) (w : World) (ha : FRow w a n zs) (hm : n ≤ 1048576) (hr : rowB zs n = false) :
    Calls Try.prog 34 #[.slice a n cap] w fun e w' => e = .returned (.tuple #[.float .f32 0, .bool false]) ∧ Drew w w' := by
  have HA := Lib.hid ha
  clear ha
  go_enter Try.func34, Try.ntmps34
  go_wp2_with (first | (go_at_call 17; refine (row_impl _ _ _ zs _ HA.out hm).mono ?_; rintro e w' ⟨rfl, q1, rfl⟩) | go_in)
  go_ret2
  exact ⟨rfl, Drew.mk _ _⟩
set_option maxHeartbeats 2000000 in
theorem ent_walk (a : Option Addr) (n cap : Nat) (zs : List Nat) (w : World) (ha : FRow w a n zs) :
    Calls Try.prog 8 #[.slice a n cap] w fun e w' => e = .returned (.bool true) ∧ Below w.heap.size w w' := by
  by_cases hm : n ≤ 1048576
  · have HA := Lib.hid ha
    have hd : decide (1048576 < (n : Int)) = false := by simp; omega
    clear ha
    cases hb : rowB zs n with
    | true =>
      have HB := Lib.hid hb
      clear hb
      go_enter Try.func8, Try.ntmps8
      go_wp2_with (first | (go_at_call 16; refine (toF _ _ _ zs _ (by repeat (first | exact HA.out | refine FRow.drewN ?_ _ | refine FRow.alloc ?_ _)) hm).mono ?_; rintro e w2 ⟨rfl, rfl⟩) | (go_at_call 33; refine (entO_spec _ _ _ zs _ (FRow.new' HA.out.1 (by simp) _) hm HB.out).mono ?_; rintro e w' ⟨r, rfl, hr, q1, rfl⟩; have Hr := Lib.hid hr; clear hr) | (go_at_call 34; refine (entO_impl _ _ _ zs _ (FRow.new' HA.out.1 (by simp) _) hm HB.out).mono ?_; rintro e w' ⟨r2, rfl, hr, q2, rfl⟩; have Hr2 := Lib.hid hr; clear hr) | (go_at_call 32; refine (sameFloat_true _ _ (by rw [cres_wide, cres_wide, Hr.out, Hr2.out]) _).mono ?_; rintro e w2 ⟨rfl, n3, rfl⟩) | (go_at_call 18; refine (eqF _ _ _ _ _ zs _ (((FRow.new' HA.out.1 (by simp) _).drewN _).alloc _) (FRow.new' HA.out.1 (by simp) _) hm).mono ?_; rintro e w2 ⟨rfl, n4, rfl⟩) | go_in)
      go_ret
      exact ⟨rfl, by repeat (first | exact Below.refl _ _ | refine Below.drewN' ?_ _ | refine Below.alloc ?_ (by simp <;> omega) _)⟩
    | false =>
      have HB := Lib.hid hb
      clear hb
      go_enter Try.func8, Try.ntmps8
      go_wp2_with (first | (go_at_call 16; refine (toF _ _ _ zs _ (by repeat (first | exact HA.out | refine FRow.drewN ?_ _ | refine FRow.alloc ?_ _)) hm).mono ?_; rintro e w2 ⟨rfl, rfl⟩) | (go_at_call 33; refine (entO_spec' _ _ _ zs _ (FRow.new' HA.out.1 (by simp) _) hm HB.out).mono ?_; rintro e w' ⟨rfl, q1, rfl⟩) | (go_at_call 34; refine (entO_impl' _ _ _ zs _ (FRow.new' HA.out.1 (by simp) _) hm HB.out).mono ?_; rintro e w' ⟨rfl, q2, rfl⟩) | (go_at_call 32; refine (sameFloat_true _ _ (by rw [cres_wide, cres_wide]) _).mono ?_; rintro e w2 ⟨rfl, n3, rfl⟩) | (go_at_call 18; refine (eqF _ _ _ _ _ zs _ (((FRow.new' HA.out.1 (by simp) _).drewN _).alloc _) (FRow.new' HA.out.1 (by simp) _) hm).mono ?_; rintro e w2 ⟨rfl, n4, rfl⟩) | go_in)
      go_ret
      exact ⟨rfl, by repeat (first | exact Below.refl _ _ | refine Below.drewN' ?_ _ | refine Below.alloc ?_ (by simp <;> omega) _)⟩
  · go_enter Try.func8, Try.ntmps8
    go_wp2
    go_ret
    exact ⟨rfl, Below.refl _ _⟩
/-- What is not a chance of a surprise: both fail. -/
def surB (z : Nat) : Bool := (FloatKind.f32).format.order z 0 == some .gt && ((FloatKind.f32).format.order z 1065353216 == some .lt || (FloatKind.f32).format.order z 1065353216 == some .eq)
theorem sur_le {z : Nat} (h : surB z = true) : ∃ m i, (FloatKind.f32).decode z = .number false m i ∧ m ≠ 0 := by
  unfold surB at h
  rw [Bool.and_eq_true] at h
  obtain ⟨h1, h2⟩ := h
  have e1 : (FloatKind.f32).format.order z 0 = ((FloatKind.f32).decode z).order ((FloatKind.f32).decode 0) := rfl
  have e2 : (FloatKind.f32).format.order z 1065353216 = ((FloatKind.f32).decode z).order ((FloatKind.f32).decode one32) := rfl
  rw [e1, dec_032] at h1
  rw [e2, dec_one32] at h2
  cases hd : (FloatKind.f32).decode z with
  | nan => rw [hd] at h1; cases h1
  | infinity s => rw [hd] at h1 h2; cases s <;> simp [Ieee.Datum.order] at h1 h2
  | number s m i =>
    rw [hd, order_0] at h1
    have h1 : some (compare (Ieee.signed s m (i - min i (-149)).toNat) 0) = some .gt := by simpa using h1
    have h3 : 0 < Ieee.signed s m (i - min i (-149)).toNat := by
      injection h1 with h1
      have h4 : compareOfLessAndEq (Ieee.signed s m (i - min i (-149)).toNat) 0 = .gt := h1
      unfold compareOfLessAndEq at h4
      split at h4
      · cases h4
      · split at h4
        · cases h4
        · omega
    by_cases h0 : m = 0
    · rw [h0, signed_zero] at h3; omega
    · refine ⟨m, i, ?_, h0⟩
      cases s with
      | false => rfl
      | true =>
        have := signed_not false m (i - min i (-149)).toNat
        have e : Ieee.signed true m (i - min i (-149)).toNat = - Ieee.signed false m (i - min i (-149)).toNat := this
        rw [e, signed_false'] at h3
        generalize m * 2 ^ (i - min i (-149)).toNat = p at h3
        omega
def surV (z : Nat) : Option Nat := vop .sub .f32 (cls .f32 0) (bitsV z)
theorem surV_le {z : Nat} (h : surB z = true) : VLe .f32 45 (surV z) := by
  obtain ⟨m, i, hd, h0⟩ := sur_le h
  have hz : VLe .f32 0 (cls .f32 0) := ⟨0, cls_032, by rw [dec_032]; exact leN_of_log (.inl rfl)⟩
  exact (vsub_le hz (bitsV_le hd h0) ⟨by decide, by decide⟩).mono (by decide)
theorem sur_cls {l z : Nat} (h : cls .f32 l = bitsV z) (w : World) : cls .f32 (fres .sub .f32 0 l w) = surV z := by
  rw [fres_cls, h]; rfl
theorem sur_inf {z : Nat} (h : surB z = true) : (FloatKind.f32).decode z = .infinity false → z = 2139095040 := by
  obtain ⟨m, i, hd, _⟩ := sur_le h
  rw [hd]; intro e; cases e
/-- 'l02Share(x)' and not 0, as the model asks. -/
theorem sur_true {z : Nat} (h : surB z = true) : ((FloatKind.f32).format.order z 0 == some .gt) = true ∧ ((FloatKind.f32).format.order z 1065353216 == some .lt || (FloatKind.f32).format.order z 1065353216 == some .eq) = true := by
  unfold surB at h
  rw [Bool.and_eq_true] at h
  exact h
set_option maxHeartbeats 1000000 in
theorem sur_spec (z : Nat) (w : World) (h : surB z = true) : Calls Try.prog 30 #[.float .f32 z] w fun e w' => ∃ r, e = .returned (.tuple #[.float .f32 r, .bool true]) ∧ cls .f32 r = surV z ∧ Drew w w' := by
  have HB := Lib.hid h
  obtain ⟨h1, h2⟩ := sur_true h
  have h3 : (FloatKind.f32).format.order z 0 = some .gt := by simpa using h1
  clear h h1
  go_enter Try.func30, Try.ntmps30
  go_wp2_with (first | (go_at_call 65; refine (bits_spec z _).mono ?_; rintro e w' ⟨l, rfl, hl, n2, rfl⟩; have HL := Lib.hid hl; clear hl) | (go_at_call 64; refine (number_spec _ (le_fin (surV_le HB.out) (sur_cls HL.out _)) _).mono ?_; rintro e w' ⟨rfl, q3, rfl⟩) | go_in)
  go_ret2
  exact ⟨_, rfl, sur_cls HL.out _, Drew.mk _ _⟩
set_option maxHeartbeats 1000000 in
theorem sur_impl (z : Nat) (w : World) (h : surB z = true) : Calls Try.prog 31 #[.float .f32 z] w fun e w' => ∃ r, e = .returned (.tuple #[.float .f32 r, .bool true]) ∧ cls .f32 r = surV z ∧ Drew w w' := by
  have HB := Lib.hid h
  obtain ⟨h1, h2⟩ := sur_true h
  clear h
  go_enter Try.func31, Try.ntmps31
  go_wp2_with (first | (go_at_call 66; refine (bits_impl z (sur_inf HB.out) _).mono ?_; rintro e w' ⟨l, rfl, hl, n2, rfl⟩; have HL := Lib.hid hl; clear hl) | go_in)
  go_ret2
  exact ⟨_, rfl, sur_cls HL.out _, Drew.mk _ _⟩
set_option maxHeartbeats 1000000 in
theorem sur_spec' (z : Nat) (w : World) (h : surB z = false) : Calls Try.prog 30 #[.float .f32 z] w fun e w' => e = .returned (.tuple #[.float .f32 0, .bool false]) ∧ Drew w w' := by
  have HB := Lib.hid h
  cases h0 : (FloatKind.f32).format.order z 0 with
  | none =>
    clear h
    go_enter Try.func30, Try.ntmps30
    go_wp2
    go_ret2
    exact ⟨rfl, Drew.refl _⟩
  | some o =>
    cases o with
    | lt =>
      clear h
      go_enter Try.func30, Try.ntmps30
      go_wp2
      go_ret2
      exact ⟨rfl, Drew.refl _⟩
    | eq =>
      clear h
      cases hg : ((FloatKind.f32).format.order z 1065353216 == some .lt || (FloatKind.f32).format.order z 1065353216 == some .eq) with
      | true =>
        go_enter Try.func30, Try.ntmps30
        go_wp2
        go_ret2
        exact ⟨rfl, Drew.refl _⟩
      | false =>
        go_enter Try.func30, Try.ntmps30
        go_wp2
        go_ret2
        exact ⟨rfl, Drew.refl _⟩
    | gt =>
      have hg : ((FloatKind.f32).format.order z 1065353216 == some .lt || (FloatKind.f32).format.order z 1065353216 == some .eq) = false := by
        unfold surB at h
        rw [h0] at h
        simpa using h
      clear h
      go_enter Try.func30, Try.ntmps30
      go_wp2
      go_ret2
      exact ⟨rfl, Drew.refl _⟩
set_option maxHeartbeats 1000000 in
theorem sur_impl' (z : Nat) (w : World) (h : surB z = false) : Calls Try.prog 31 #[.float .f32 z] w fun e w' => e = .returned (.tuple #[.float .f32 0, .bool false]) ∧ Drew w w' := by
  cases h0 : ((FloatKind.f32).format.order z 0 == some .gt) with
  | false =>
    clear h
    go_enter Try.func31, Try.ntmps31
    go_wp2
    go_ret2
    exact ⟨rfl, Drew.refl _⟩
  | true =>
    have hg : ((FloatKind.f32).format.order z 1065353216 == some .lt || (FloatKind.f32).format.order z 1065353216 == some .eq) = false := by
      unfold surB at h
      rw [h0, Bool.true_and] at h
      exact h
    clear h
    go_enter Try.func31, Try.ntmps31
    go_wp2
    go_ret2
    exact ⟨rfl, Drew.refl _⟩
set_option maxHeartbeats 1000000 in
theorem sur_walk (z : Nat) (w : World) (_ : (Lit.float .f32 z).wf = true) : Calls Try.prog 7 #[.float .f32 z] w fun e w' => e = .returned (.bool true) ∧ Below w.heap.size w w' := by
  cases hb : surB z with
  | true =>
    have HB := Lib.hid hb
    clear hb
    go_enter Try.func7, Try.ntmps7
    go_wp2_with (first | (go_at_call 30; refine (sur_spec _ _ HB.out).mono ?_; rintro e w' ⟨r, rfl, hr, n, rfl⟩; have Hr := Lib.hid hr; clear hr) | (go_at_call 31; refine (sur_impl _ _ HB.out).mono ?_; rintro e w' ⟨r2, rfl, hr, n2, rfl⟩; have Hr2 := Lib.hid hr; clear hr) | (go_at_call 32; refine (sameFloat_true _ _ (by rw [cres_wide, cres_wide, Hr.out, Hr2.out]) _).mono ?_; rintro e w2 ⟨rfl, n3, rfl⟩) | go_in)
    go_ret
    exact ⟨rfl, (Drew.mk _ _).below⟩
  | false =>
    have HB := Lib.hid hb
    clear hb
    go_enter Try.func7, Try.ntmps7
    go_wp2_with (first | (go_at_call 30; refine (sur_spec' _ _ HB.out).mono ?_; rintro e w' ⟨rfl, n, rfl⟩) | (go_at_call 31; refine (sur_impl' _ _ HB.out).mono ?_; rintro e w' ⟨rfl, n2, rfl⟩) | (go_at_call 32; refine (sameFloat_true _ _ (by rw [cres_wide, cres_wide]) _).mono ?_; rintro e w2 ⟨rfl, n3, rfl⟩) | go_in)
    go_ret
    exact ⟨rfl, (Drew.mk _ _).below⟩
end Go.Proofs.Ytmklgnjacbcfeaa
