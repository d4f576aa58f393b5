/- Flushed numbers: the law. -/
import Derived.Test.YtgdcpohdejbhaaaFlb
namespace Go.Proofs.Ytgdcpohdejbhaaa
open Go.Proofs.Ytgdcpohdejbhaaa.Flo Go.RowKit
attribute [local go_sem] call_from64 call_bits64 call_from32 call_bits32

def flF (x : Nat) : Nat := if x % 2 ^ 31 < 2 ^ 23 then x / 2 ^ 31 % 2 * 2 ^ 31 else x
theorem dec_sign {y : Nat} {s : Bool} {m : Nat} {i : Int} (h : (FloatKind.f64).decode y = .number s m i) : (y / 2 ^ 63 % 2 == 1) = s := by
  unfold FloatKind.decode FloatKind.format Ieee.Format.read at h
  dsimp only at h
  have h3 : Ieee.double.signWeight = 2 ^ 63 := rfl
  rw [h3] at h
  split at h
  · injection h
  · split at h
    · injection h
    · split at h <;> cases h
theorem copy_bits (y : Nat) (hy : y < 2 ^ 64) : (bits .or .u64 (bits .andNot .u64 0 9223372036854775808) (bits .and .u64 (y : Int) 9223372036854775808)).toNat = y / 2 ^ 63 % 2 * 2 ^ 63 := by
  have h1 : bits .andNot .u64 0 9223372036854775808 = ((0 : Nat) : Int) := by decide +kernel
  have h2 : bits .and .u64 (y : Int) 9223372036854775808 = ((y / 2 ^ 63 % 2 * 2 ^ 63 : Nat) : Int) := by
    have h := u64_and_nat y 9223372036854775808 hy (by decide)
    rw [show y &&& 9223372036854775808 = y / 2 ^ 63 % 2 * 2 ^ 63 from nat_bit 63 y] at h
    exact h
  rw [h1, h2, u64_or_nat _ _ (by decide) (by omega), Nat.zero_or]
  exact Int.toNat_natCast _

theorem flush_spec (x : Nat) (hx : x < 2 ^ 32) (w : World) : Calls Try.prog 35 #[.float .f32 x] w fun e w' => (∃ r, e = .returned (.float .f32 r) ∧ cls .f32 r = cls .f32 (flF x)) ∧ w = w' := by
  have ha := and_bits hx
  by_cases hs : x % 2 ^ 31 < 2 ^ 23
  · have hb : bitsF x = x := by unfold bitsF; rw [dec_small hs]; rfl
    have hg := and_sign x (by omega)
    have hF : Hid (flF x = x / 2 ^ 31 % 2 * 2 ^ 31) := Lib.hid (if_pos hs)
    rw [decide_eq_true hs, hb] at ha
    have hn : ((x / 2 ^ 31 % 2 * 2 ^ 31 : Nat) : Int) < 4294967296 := by omega
    generalize x / 2 ^ 31 % 2 * 2 ^ 31 = z at *
    have Hb := Lib.hid hb
    clear hs hb
    go_enter Try.func35, Try.ntmps35
    go_wp2_with (first | (go_at_call 28; refine (bits_spec _ hx _).mono ?_; rintro e w' ⟨rfl, rfl⟩; rw [Hb.out]) | go_in)
    go_ret
    exact ⟨⟨_, rfl, by rw [hF.out]⟩, rfl⟩
  · have hF : Hid (flF x = x) := Lib.hid (if_neg hs)
    rw [decide_eq_false hs] at ha
    clear hs
    go_enter Try.func35, Try.ntmps35
    go_wp2_with (first | (go_at_call 28; refine (bits_spec _ hx _).mono ?_; rintro e w' ⟨rfl, rfl⟩) | go_in)
    go_ret
    exact ⟨⟨_, rfl, by rw [hF.out]⟩, rfl⟩
theorem flush_impl (x : Nat) (hx : x < 2 ^ 32) (w : World) : Calls Try.prog 24 #[.float .f32 x] w fun e w' => (∃ r, e = .returned (.float .f32 r) ∧ cls .f32 r = cls .f32 (flF x)) ∧ Drew w w' := by
  cases hs : subB x with
  | true =>
    have h2 : x % 2 ^ 31 < 2 ^ 23 ∧ x % 2 ^ 31 ≠ 0 := by unfold subB at hs; simpa using hs
    have H : Hid (∀ w2 w3 : World, cls .f32 (cres .f64 (bits .or .u64 (bits .andNot .u64 0 9223372036854775808) (bits .and .u64 ((cres .f32 x .f64 w2 : Nat) : Int) 9223372036854775808)).toNat .f32 w3) = cls .f32 (flF x)) := Lib.hid fun w2 w3 => by
      obtain ⟨y, hy, hd⟩ := wide_num (dec_small h2.1) h2.2
      have hsg := dec_sign hd
      rw [cres_of hy, copy_bits y (by rw [← cres_of hy default]; exact cres_lt64 _ _)]
      have hF : flF x = x / 2 ^ 31 % 2 * 2 ^ 31 := if_pos h2.1
      rw [hF]
      have hx2 : x / 2 ^ 31 % 2 = 0 ∨ x / 2 ^ 31 % 2 = 1 := by omega
      have hy2 : y / 2 ^ 63 % 2 = 0 ∨ y / 2 ^ 63 % 2 = 1 := by omega
      rcases hx2 with h | h <;> rcases hy2 with g | g <;> rw [h, g] at hsg ⊢
      · rw [show cls .f32 (cres .f64 (0 * 2 ^ 63) .f32 w3) = some 0 from by
          have e : floatToFloatBits .f64 (0 * 2 ^ 63) .f32 = some 0 := by decide +kernel
          unfold cres; rw [e]; show cls .f32 0 = some 0; decide +kernel]
        decide +kernel
      · exact absurd hsg (by decide)
      · exact absurd hsg (by decide)
      · rw [show cls .f32 (cres .f64 (1 * 2 ^ 63) .f32 w3) = some 2147483648 from by
          have e : floatToFloatBits .f64 (1 * 2 ^ 63) .f32 = some 2147483648 := by decide +kernel
          unfold cres; rw [e]; show cls .f32 2147483648 = some 2147483648; decide +kernel]
        decide +kernel
    clear h2
    go_enter Try.func24, Try.ntmps24
    go_wp2_with (first | (go_at_call 22; refine (sub_impl _ _).mono ?_; rintro e w' ⟨rfl, n, rfl⟩) | go_in)
    go_ret
    exact ⟨⟨_, rfl, H.out _ _⟩, Drew.mk _ _⟩
  | false =>
    have H : Hid (flF x = x) := Lib.hid (by
      unfold flF
      split
      · rename_i h
        have h0 : x % 2 ^ 31 = 0 := by
          unfold subB at hs
          rw [decide_eq_true h] at hs
          simpa using hs
        omega
      · rfl)
    go_enter Try.func24, Try.ntmps24
    go_wp2_with (first | (go_at_call 22; refine (sub_impl _ _).mono ?_; rintro e w' ⟨rfl, n, rfl⟩) | go_in)
    go_ret
    exact ⟨⟨_, rfl, by rw [H.out]⟩, Drew.mk _ _⟩
theorem flush_law (x : Nat) (w : World) (h : (Lit.float .f32 x).wf = true) : Calls Try.prog 9 #[.float .f32 x] w fun e w' => e = .returned (.bool true) ∧ Below w.heap.size w w' := by
  have hx := lt32 h
  clear h
  go_enter Try.func9, Try.ntmps9
  go_wp2_with (first | (go_at_call 24; refine (flush_impl _ hx _).mono ?_; rintro e w' ⟨⟨r2, rfl, hr2⟩, n, rfl⟩; have Hr2 := Lib.hid hr2; clear hr2) | (go_at_call 35; refine (flush_spec _ hx _).mono ?_; rintro e w' ⟨⟨r, rfl, hr⟩, rfl⟩; have Hr := Lib.hid hr; clear hr) | (go_at_call 18; refine (sameFloat_true _ _ (by rw [cres_wide, cres_wide, Hr.out, Hr2.out]) _).mono ?_; rintro e w2 ⟨rfl, n3, rfl⟩) | go_in)
  go_ret
  exact ⟨rfl, (Drew.mk _ _).below⟩
end Go.Proofs.Ytgdcpohdejbhaaa
