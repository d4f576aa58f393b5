/- Subnormal numbers: the laws. -/
import Derived.Test.YtgdcpohdejbhaaaFla
import Derived.Test.YtgdcpohdejbhaaaFln
namespace Go.Proofs.Ytgdcpohdejbhaaa
open Go.Proofs.Ytgdcpohdejbhaaa.Flo Go.RowKit
attribute [local go_sem] call_from64 call_bits64
attribute [local go_sem] call_from32
attribute [local go_sem] call_bits32

theorem i64_and_nat (a b : Nat) (ha : a < 4294967296) (hb : b < 4294967296) : bits .and .i64 (a : Int) (b : Int) = ((a &&& b : Nat) : Int) := by
  have hx : a &&& b < 2 ^ 32 := Nat.and_lt_two_pow _ (by omega)
  show IntKind.i64.wrap ((BitVec.ofInt 64 (a : Int) &&& BitVec.ofInt 64 (b : Int)).toNat : Int) = _
  rw [BitVec.toNat_and, ofInt_u64 a (by omega), ofInt_u64 b (by omega)]
  exact IntWalk.i64_in _ (by omega)
theorem and_mask (x : Nat) (hx : x < 4294967296) : bits .and .i64 (x : Int) 2139095040 = ((x % 2 ^ 31 / 2 ^ 23 * 2 ^ 23 : Nat) : Int) := by
  have h := i64_and_nat x 2139095040 hx (by decide)
  rw [show x &&& 2139095040 = x % 2 ^ 31 / 2 ^ 23 * 2 ^ 23 from nat_midmask 31 23 x (by decide)] at h
  exact h
theorem and_sign (x : Nat) (hx : x < 4294967296) : bits .and .i64 (x : Int) 2147483648 = ((x / 2 ^ 31 % 2 * 2 ^ 31 : Nat) : Int) := by
  have h := i64_and_nat x 2147483648 hx (by decide)
  rw [show x &&& 2147483648 = x / 2 ^ 31 % 2 * 2 ^ 31 from nat_bit 31 x] at h
  exact h

theorem dec_small {x : Nat} (h : x % 2 ^ 31 < 2 ^ 23) : (FloatKind.f32).decode x = .number (x / 2 ^ 31 % 2 == 1) (x % 2 ^ 31) (-149) := by
  show Ieee.single.read x = _
  unfold Ieee.Format.read
  have h3 : Ieee.single.signWeight = 2 ^ 31 := rfl
  have h1 : Ieee.single.binade = 2 ^ 23 := rfl
  rw [h3, h1]
  dsimp only
  rw [if_pos h]; rfl
/-- A number of more than the least places: its leading place. -/
theorem dec_large {x : Nat} (h : ¬ x % 2 ^ 31 < 2 ^ 23) : (∃ s m i, (FloatKind.f32).decode x = .number s m i ∧ m ≠ 0 ∧ -126 ≤ (m.log2 : Int) + i) ∨ (∃ s, (FloatKind.f32).decode x = .infinity s) ∨ ((FloatKind.f32).decode x).isNaN = true := by
  have h3 : Ieee.single.signWeight = 2 ^ 31 := rfl
  have h1 : Ieee.single.binade = 2 ^ 23 := rfl
  have hd : (FloatKind.f32).decode x = Ieee.single.read x := rfl
  rw [hd]
  unfold Ieee.Format.read
  rw [h3, h1]
  dsimp only
  rw [if_neg h]
  split
  · left
    refine ⟨_, _, _, rfl, by omega, ?_⟩
    have hl := (Nat.le_log2 (by omega : 2 ^ 23 + x % 2 ^ 31 % 2 ^ 23 ≠ 0)).2 (Nat.le_add_right (2 ^ 23) _)
    have : Ieee.single.leastPlace = -149 := rfl
    omega
  · split
    · right; left; exact ⟨_, rfl⟩
    · right; right; rfl

theorem dec_c126 : (FloatKind.f64).decode 4039728865751334912 = .number false (2 ^ 52) (-178) := by decide +kernel
theorem abs_lt {x : Nat} {s : Bool} {m : Nat} {i : Int} (h : (FloatKind.f32).decode x = .number s m i) (h0 : m ≠ 0) (w : World) :
    ((FloatKind.f64).format.order (cres .f32 x .f64 w % 2 ^ 63) 4039728865751334912 == some .lt) = decide ((m.log2 : Int) + i < -126) := by
  obtain ⟨y, hy, hd⟩ := wide_num h h0
  have hn := num32 h
  have hl := (Nat.log2_lt h0).2 hn.1
  rw [cres_of hy]
  have ha := decode_abs y
  rw [hd] at ha
  rw [order_num ha dec_c126, cmp_lt, signed_false, signed_false]
  refine decide_eq_decide.2 ?_
  rw [Int.ofNat_lt]
  have hlog := log2_shl_eq m (52 - m.log2) h0
  have hM0 : m <<< (52 - m.log2) ≠ 0 := by rw [Nat.shiftLeft_eq]; exact Nat.mul_ne_zero h0 (by have := Nat.two_pow_pos (52 - m.log2); omega)
  have h1 := log2_lt (m <<< (52 - m.log2))
  have h2 := Nat.log2_self_le hM0
  have he : m.log2 + (52 - m.log2) = 52 := by omega
  rw [hlog, he] at h1 h2
  generalize m <<< (52 - m.log2) = M at *
  generalize hI : i + (m.log2 : Int) - 52 = I
  constructor
  · intro hlt
    by_cases hc : (m.log2 : Int) + i < -126
    · exact hc
    · exfalso
      have : 2 ^ 52 * 2 ^ (-178 - min I (-178)).toNat ≤ M * 2 ^ (I - min I (-178)).toNat := Nat.mul_le_mul h2 (Nat.pow_le_pow_right (by omega) (by omega))
      omega
  · intro hc
    calc M * 2 ^ (I - min I (-178)).toNat < 2 ^ (52 + 1) * 2 ^ (I - min I (-178)).toNat := Nat.mul_lt_mul_of_pos_right h1 (Nat.two_pow_pos _)
      _ = 2 ^ (52 + 1 + (I - min I (-178)).toNat) := (Nat.pow_add ..).symm
      _ ≤ 2 ^ (52 + (-178 - min I (-178)).toNat) := Nat.pow_le_pow_right (by omega) (by omega)
      _ = _ := Nat.pow_add ..

/-- Subnormal: not a zero, and below the least number of full precision. -/
def subB (x : Nat) : Bool := decide (x % 2 ^ 31 < 2 ^ 23) && decide (x % 2 ^ 31 ≠ 0)

theorem abs_sub {x : Nat} (hx : x % 2 ^ 31 ≠ 0) (w : World) : ((FloatKind.f64).format.order (cres .f32 x .f64 w % 2 ^ 63) 4039728865751334912 == some .lt) = decide (x % 2 ^ 31 < 2 ^ 23) := by
  by_cases hs : x % 2 ^ 31 < 2 ^ 23
  · rw [abs_lt (dec_small hs) hx w]
    refine decide_eq_decide.2 ⟨fun _ => hs, fun _ => ?_⟩
    have := (Nat.log2_lt hx).2 hs
    omega
  · rw [decide_eq_false hs]
    rcases dec_large hs with ⟨s, m, i, hd, h0, hl⟩ | ⟨s, hd⟩ | hn
    · rw [abs_lt hd h0 w]; exact decide_eq_false (by omega)
    · rw [cres_of (wide_inf hd)]; cases s <;> decide +kernel
    · have hc := cls_none ((cres_wide x w).trans (wide_nan hn))
      have ha := decode_abs (cres .f32 x .f64 w)
      have : ((FloatKind.f64).decode (cres .f32 x .f64 w % 2 ^ 63)).isNaN = true := by
        rw [ha]
        cases hd : (FloatKind.f64).decode (cres .f32 x .f64 w) with
        | number => rw [hd] at hc; cases hc
        | infinity => rw [hd] at hc; cases hc
        | nan => rfl
      rw [order_nan this]; rfl

theorem ne_zero (x : Nat) : ((FloatKind.f32).format.order x 0 != some .eq) = decide (x % 2 ^ 31 ≠ 0) := by
  rw [order_zero]
  by_cases hs : x % 2 ^ 31 < 2 ^ 23
  · rw [dec_small hs]
    by_cases h0 : x % 2 ^ 31 = 0
    · rw [show sgn (.number (x / 2 ^ 31 % 2 == 1) (x % 2 ^ 31) (-149)) = some .eq from congrArg some (if_pos h0), decide_eq_false (by simpa using h0)]; rfl
    · rw [sgn_num h0, decide_eq_true h0]; cases (x / 2 ^ 31 % 2 == 1) <;> rfl
  · rw [decide_eq_true (by omega)]
    rcases dec_large hs with ⟨s, m, i, hd, h0, hl⟩ | ⟨s, hd⟩ | hn
    · rw [hd, sgn_num h0]; cases s <;> rfl
    · rw [hd]; cases s <;> rfl
    · cases hd : (FloatKind.f32).decode x with
      | number => rw [hd] at hn; cases hn
      | infinity => rw [hd] at hn; cases hn
      | nan => rfl

theorem sub_impl (x : Nat) (w : World) : Calls Try.prog 22 #[.float .f32 x] w fun e w' => e = .returned (.bool (subB x)) ∧ Drew w w' := by
  have hz := ne_zero x
  by_cases h0 : x % 2 ^ 31 = 0
  · have H : Hid (subB x = false) := Lib.hid (by unfold subB; rw [decide_eq_false (p := x % 2 ^ 31 ≠ 0) (by simpa using h0), Bool.and_false])
    rw [decide_eq_false (by simpa using h0)] at hz
    clear h0
    go_enter Try.func22, Try.ntmps22
    go_wp2
    go_ret
    exact ⟨ret_bool' H.out.symm, Drew.refl _⟩
  · rw [decide_eq_true h0] at hz
    have ha := fun w2 : World => Lib.hid (abs_sub h0 w2)
    have H : Hid (subB x = decide (x % 2 ^ 31 < 2 ^ 23)) := Lib.hid (by unfold subB; rw [decide_eq_true (p := x % 2 ^ 31 ≠ 0) h0, Bool.and_true])
    clear h0
    go_enter Try.func22, Try.ntmps22
    go_wp2_with (go_at_call 34; refine (abs_walk _ (cres_lt64 _ _) _).mono ?_; rintro e w' ⟨rfl, rfl⟩)
    go_ret
    exact ⟨ret_bool' ((ha _).out.trans H.out.symm), Drew.mk _ _⟩
theorem and_bits {x : Nat} (hx : x < 2 ^ 32) : (bits .and .i64 ((bitsF x : Nat) : Int) 2139095040 == 0) = decide (x % 2 ^ 31 < 2 ^ 23) := by
  rw [and_mask _ (by have := bitsF_lt hx; omega)]
  unfold bitsF
  split
  · rename_i hn
    have : ¬ x % 2 ^ 31 < 2 ^ 23 := fun hs => by rw [dec_small hs] at hn; cases hn
    rw [decide_eq_false this]; decide
  · rw [Bool.eq_iff_iff, beq_iff_eq, decide_eq_true_iff]
    constructor
    · intro h; omega
    · intro h; omega
theorem sub_spec (x : Nat) (hx : x < 2 ^ 32) (w : World) : Calls Try.prog 21 #[.float .f32 x] w fun e w' => e = .returned (.bool (subB x)) ∧ w = w' := by
  have hz := ne_zero x
  by_cases h0 : x % 2 ^ 31 = 0
  · have H : Hid (subB x = false) := Lib.hid (by unfold subB; rw [decide_eq_false (p := x % 2 ^ 31 ≠ 0) (by simpa using h0), Bool.and_false])
    rw [decide_eq_false (by simpa using h0)] at hz
    clear h0
    go_enter Try.func21, Try.ntmps21
    go_wp2
    go_ret
    exact ⟨ret_bool' H.out.symm, rfl⟩
  · rw [decide_eq_true h0] at hz
    have ha := Lib.hid (and_bits hx)
    have H : Hid (subB x = decide (x % 2 ^ 31 < 2 ^ 23)) := Lib.hid (by unfold subB; rw [decide_eq_true (p := x % 2 ^ 31 ≠ 0) h0, Bool.and_true])
    clear h0
    go_enter Try.func21, Try.ntmps21
    go_wp2_with (go_at_call 28; refine (bits_spec _ hx _).mono ?_; rintro e w' ⟨rfl, rfl⟩)
    go_ret
    exact ⟨ret_bool' (ha.out.trans H.out.symm), rfl⟩
theorem sub_law (x : Nat) (w : World) (h : (Lit.float .f32 x).wf = true) : Calls Try.prog 8 #[.float .f32 x] w fun e w' => e = .returned (.bool true) ∧ Below w.heap.size w w' := by
  have hx := lt32 h
  clear h
  go_enter Try.func8, Try.ntmps8
  go_wp2_with (first | (go_at_call 22; refine (sub_impl _ _).mono ?_; rintro e w' ⟨rfl, n, rfl⟩) | (go_at_call 21; refine (sub_spec _ hx _).mono ?_; rintro e w' ⟨rfl, rfl⟩) | go_in)
  go_ret
  exact ⟨rfl, (Drew.mk _ _).below⟩
end Go.Proofs.Ytgdcpohdejbhaaa
