
/- Logarithms: the program's walk, and the laws. -/
import Derived.Test.YteikedgdegaeiaaFln
namespace Go.Proofs.Yteikedgdegaeiaa
open Go.Proofs.Yteikedgdegaeiaa.Flo Go.RowKit
attribute [local go_sem] call_from64 call_bits64
attribute [local go_sem] call_from32
attribute [local go_sem] call_bits32

theorem order_inf32 {x : Nat} {s : Bool} {m : Nat} {i : Int} (h : (FloatKind.f32).decode x = .number s m i) : (FloatKind.f32).format.order x 2139095040 = some .lt := by
  have h0 : (FloatKind.f32).format.read 2139095040 = .infinity false := by decide +kernel
  unfold FloatKind.decode at h
  unfold Ieee.Format.order
  rw [h, h0]; rfl

theorem inf_bits {x : Nat} (hx : x < 2 ^ 32) (h : (FloatKind.f32).decode x = .infinity false) : x = 2139095040 := by
  unfold FloatKind.decode FloatKind.format Ieee.Format.read at h
  dsimp only at h
  have h1 : Ieee.single.binade = 2 ^ 23 := rfl
  have h2 : Ieee.single.infRung = 2139095040 := rfl
  have h3 : Ieee.single.signWeight = 2 ^ 31 := rfl
  rw [h1, h2, h3] at h
  split at h
  · cases h
  · split at h
    · cases h
    · split at h
      · rename_i hr
        injection h with hs
        have : ¬ x / 2 ^ 31 % 2 = 1 := by simpa using hs
        omega
      · cases h

set_option maxHeartbeats 1000000 in
theorem logN_impl (x : Nat) (hx32 : (FloatKind.f32).decode x = .infinity false → x = 2139095040) (w : World) : Calls Try.prog 161 #[.float .f32 x] w fun e w' => ∃ r, e = .returned (.float .f32 r) ∧ cls .f32 r = logR x ∧ Drew w w' := by
  have hz := order_zero .f32 x
  have hinf := inf32
  cases hd : (FloatKind.f32).decode x with
  | nan s t =>
    have H := Lib.hid (logR_nan hd)
    have ho := order_nan (k := .f32) (x := x) (y := x) (by rw [hd]; rfl)
    rw [hd] at hz
    have hz2 : (FloatKind.f32).format.order x 0 = none := hz
    clear hz hd
    go_enter Try.func161, Try.ntmps161
    go_wp2
    go_ret
    exact ⟨_, rfl, cls_nan32.trans H.out.symm, Drew.refl _⟩
  | infinity s =>
    have ho := order_self (k := .f32) (x := x) (by rw [hd]; rfl)
    rw [hd] at hz
    have H := Lib.hid (logR_inf hd)
    cases s with
    | true =>
      have hz2 : (FloatKind.f32).format.order x 0 = some .lt := hz
      clear hz hd
      go_enter Try.func161, Try.ntmps161
      go_wp2
      go_ret
      exact ⟨_, rfl, cls_nan32.trans H.out.symm, Drew.refl _⟩
    | false =>
      have hz2 : (FloatKind.f32).format.order x 0 = some .gt := hz
      have he : (FloatKind.f32).format.order x 2139095040 = some .eq := by
        have h0 : (FloatKind.f32).format.read 2139095040 = .infinity false := by decide +kernel
        unfold FloatKind.decode at hd
        unfold Ieee.Format.order
        rw [hd, h0]; rfl
      have hx : Hid (cls .f32 x = some 2139095040) := Lib.hid (by
        rw [hx32 hd]; decide +kernel)
      clear hz hd
      go_enter Try.func161, Try.ntmps161
      go_wp2
      go_ret
      exact ⟨_, rfl, hx.out.trans H.out.symm, Drew.mk _ _⟩
  | number s m i =>
    have ho := order_self (k := .f32) (x := x) (by rw [hd]; rfl)
    have hi := order_inf32 hd
    by_cases h0 : m = 0
    · subst h0
      have H := Lib.hid (logR_zero hd)
      rw [hd] at hz
      have hz2 : (FloatKind.f32).format.order x 0 = some .eq := hz
      clear hz hd
      go_enter Try.func161, Try.ntmps161
      go_wp2
      go_ret
      exact ⟨_, rfl, (show cls .f32 (Op.negFloat .f32 2139095040) = some 4286578688 by decide +kernel).trans H.out.symm, Drew.mk _ _⟩
    · rw [hd, sgn_num h0] at hz
      cases s with
      | true =>
        have H := Lib.hid (logR_neg hd h0)
        have hz2 : (FloatKind.f32).format.order x 0 = some .lt := hz
        clear hz hd
        go_enter Try.func161, Try.ntmps161
        go_wp2
        go_ret
        exact ⟨_, rfl, cls_nan32.trans H.out.symm, Drew.refl _⟩
      | false =>
        have hz2 : (FloatKind.f32).format.order x 0 = some .gt := hz
        obtain ⟨y, X, hy, hp, hlo, hhi⟩ := pos_wide hd h0
        have H := Lib.hid (logR_pos hd h0 hy)
        have hc := cres_of hy
        have Hp := Lib.hid hp
        have HK := Lib.hid ((logW_le hp hlo hhi).okn (by decide))
        clear hd hz hy hp
        go_enter Try.func161, Try.ntmps161
        go_wp2_with (first | (go_at_call 187; refine (log_impl' y X Hp.out hlo hhi _).mono ?_; rintro e w' ⟨r, rfl, hr, n, rfl⟩; have Hr := Lib.hid hr; clear hr) | go_in)
        go_ret
        exact ⟨_, rfl, (narrow_eq Hr.out HK.out _).trans H.out.symm, Drew.mk _ _⟩
end Go.Proofs.Yteikedgdegaeiaa
