/- Tenths of decibels: the law. -/
import Derived.Test.YtgdcpohdejbhaacFlp
namespace Go.Proofs.Ytgdcpohdejbhaac
open Go.Proofs.Ytgdcpohdejbhaac.Flo Go.RowKit

/-! ### The greatest integer that is not greater -/
def floorB (x : Nat) : Nat := (FloatKind.f64).encode (((FloatKind.f64).decode x).integral .down)

theorem down_le {s : Bool} {m : Nat} {i : Int} (h : leN 49 m i) : Ieee.Toward.down.cut s (m <<< i.toNat) (-i).toNat ≤ 2 ^ 50 := by
  have hq : m <<< i.toNat / 2 ^ (-i).toNat ≤ 2 ^ 49 := by
    have h1 := (floor_spec m i (-i).toNat (by omega)).1
    have h2 := h (-i).toNat (by omega) (by omega)
    have e : (49 + ((-i).toNat : Int)).toNat = 49 + (-i).toNat := by omega
    rw [e, Nat.pow_add] at h2
    exact Nat.le_of_mul_le_mul_right (Nat.le_trans h1 h2) (Nat.two_pow_pos _)
  have hz := cut_zero s (m <<< i.toNat) (-i).toNat
  unfold Ieee.Toward.cut at hz ⊢
  dsimp only at hz ⊢
  have hb : ∀ b : Bool, b.toNat ≤ 1 := by decide
  have := hb (s && m <<< i.toNat % 1 <<< min (-i).toNat ((m <<< i.toNat).log2 + 2) != 0)
  have hz2 : m <<< i.toNat / 1 <<< min (-i).toNat ((m <<< i.toNat).log2 + 2) = m <<< i.toNat / 2 ^ (-i).toNat := by simpa using hz
  rw [hz2]
  omega

theorem floor_le {x : Nat} (h : Le 49 ((FloatKind.f64).decode x)) : Le 50 ((FloatKind.f64).decode (floorB x)) := by
  cases hd : (FloatKind.f64).decode x with
  | number s m i =>
    rw [hd] at h
    unfold floorB
    rw [hd]
    refine write_le (k := .f64) (d := .number s _ 0) (leN_of 0 (by decide) (by decide) ?_) ⟨by decide, by decide⟩
    show Ieee.Toward.down.cut s (m <<< i.toNat) (-i).toNat * 2 ^ 0 ≤ 2 ^ 50
    rw [Nat.pow_zero, Nat.mul_one]; exact down_le h
  | infinity s => rw [hd] at h; exact h.elim
  | nan s t => rw [hd] at h; exact h.elim

theorem toInt_some {x : Nat} (h : Le 50 ((FloatKind.f64).decode x)) : floatToIntVal .f64 x .i64 = some (truncI x) ∧ -1125899906842624 ≤ truncI x ∧ truncI x ≤ 1125899906842624 := by
  cases hd : (FloatKind.f64).decode x with
  | number s m i =>
    rw [hd] at h
    have hq : m <<< i.toNat / 2 ^ (-i).toNat ≤ 2 ^ 50 := by
      have h1 := (floor_spec m i (-i).toNat (by omega)).1
      have h2 := h (-i).toNat (by omega) (by omega)
      have e : (50 + ((-i).toNat : Int)).toNat = 50 + (-i).toNat := by omega
      rw [e, Nat.pow_add] at h2
      exact Nat.le_of_mul_le_mul_right (Nat.le_trans h1 h2) (Nat.two_pow_pos _)
    have e : ((Ieee.Datum.number s m i).toInt .zero) = some (Ieee.signed s (m <<< i.toNat / 2 ^ (-i).toNat) 0) := by
      unfold Ieee.Datum.toInt Ieee.Datum.integral
      simp only [cut_zero]
    unfold floatToIntVal truncI
    rw [hd, e]
    generalize m <<< i.toNat / 2 ^ (-i).toNat = q at hq
    have hs := signed_natAbs s q 0
    rw [Nat.shiftLeft_zero] at hs
    simp only [Option.getD_some]
    have h1 : IntKind.i64.min = -9223372036854775808 := rfl
    have h2 : IntKind.i64.max = 9223372036854775807 := rfl
    rw [if_pos (by rw [h1, h2]; omega)]
    exact ⟨rfl, by omega, by omega⟩
  | infinity s => rw [hd] at h; exact h.elim
  | nan s t => rw [hd] at h; exact h.elim

theorem call_floor (x : Nat) (h : Le 49 ((FloatKind.f64).decode x)) (w : World) : (callFunc 78 #[.float .f64 x]).run Try.prog w = .ok (.value (.float .f64 (floorB x))) w := by
  rw [run_callFunc_extern Try.func78 (by kernel_rfl) (by kernel_rfl) (by kernel_rfl) (e := Extern.MathFloor.toIntegral "math.archFloor" .down) (by kernel_rfl)]
  have hr : (Extern.MathFloor.toIntegral "math.archFloor" .down #[.float .f64 x]).run Try.prog w = .ok (.float .f64 (floorB x)) w := by
    change Sem.run Try.prog (match (FloatKind.f64).decode x with
      | .nan s t =>
        if (FloatKind.f64).format.quiet t = t then pure (Value.float .f64 x) else
          (choose (.extern "math.Floor,Ceil,Trunc,RoundToEven.signallingNaN kept" 2) >>= fun kept =>
          pure (Value.float .f64 (if kept == 1 then x else (FloatKind.f64).encode (.nan s ((FloatKind.f64).format.quiet t)))))
      | d => pure (Value.float .f64 ((FloatKind.f64).encode (d.integral .down)))) w = _
    unfold floorB
    cases hd : (FloatKind.f64).decode x with
    | number s m i => rfl
    | infinity s => rfl
    | nan s t => rw [hd] at h; exact h.elim
  rw [hr]; rfl

def c43 : Nat := 4631308968768463603
theorem cls_c43 : cls .f64 c43 = some c43 := by decide +kernel
theorem le_c43 : VLe .f64 6 (some c43) := ⟨_, rfl, by rw [show (FloatKind.f64).decode c43 = .number false 6112151458964211 (-47) by decide +kernel]; exact leN_of 47 (by decide) (by decide) (by decide)⟩
def tenV (a : Option Nat) : Option Nat := vop .add .f64 (vop .mul .f64 a (some c43)) (some c05)
theorem tenV_le {a : Option Nat} (h : VLe .f64 42 a) : VLe .f64 49 (tenV a) :=
  (vadd_le (vmul_le h le_c43 ⟨by decide, by decide⟩) le_c05 ⟨by decide, by decide⟩).mono (by decide)
/-- The tenths of decibels of a power, of which y is the 64-bit one. -/
def tenN (y : Nat) : Int := truncI (floorB ((tenV (logW y)).getD 0))
theorem ten_cls {r y : Nat} (h : cls .f64 r = logW y) (w1 w2 : World) : cls .f64 (fres .add .f64 (fres .mul .f64 r 4631308968768463603 w1) 4602678819172646912 w2) = tenV (logW y) := by
  rw [fres_cls, fres_cls, h, show cls .f64 4631308968768463603 = some c43 from cls_c43, show cls .f64 4602678819172646912 = some c05 from cls_c05]; rfl
/-- The bits of the sum, and that its floor is told. -/
theorem ten_bits {r y : Nat} (hl : VLe .f64 42 (logW y)) (h : cls .f64 r = logW y) : ∃ b, tenV (logW y) = some b ∧ (∀ w1 w2, fres .add .f64 (fres .mul .f64 r 4631308968768463603 w1) 4602678819172646912 w2 = b) ∧ Le 49 ((FloatKind.f64).decode b) := by
  obtain ⟨b, hb, hle⟩ := tenV_le hl
  exact ⟨b, hb, fun w1 w2 => (cls_some ((ten_cls h w1 w2).trans hb)).1, hle⟩

set_option maxHeartbeats 1000000 in
theorem ten_impl (x : Nat) {m : Nat} {i : Int} (hd : (FloatKind.f32).decode x = .number false m i) (h0 : m ≠ 0) (w : World) :
    Calls Try.prog 18 #[.float .f32 x] w fun e w' => e = .returned (.tuple #[.int .i64 (tenN ((vwide (cls .f32 x)).getD 0)), .bool true]) ∧ Drew w w' := by
  obtain ⟨y, X, hy, hp, hlo, hhi⟩ := pos_wide hd h0
  rw [hy]
  have hz := order_zero .f32 x
  rw [hd, sgn_num h0] at hz
  have hz2 : (FloatKind.f32).format.order x 0 = some .gt := hz
  have hf : finD ((FloatKind.f32).decode x) = true := by rw [hd]; rfl
  have hc := cres_of hy
  have Hp := Lib.hid hp
  have HL := Lib.hid (logW_le hp hlo hhi)
  clear hd hz hy hp h0
  go_enter Try.func18, Try.ntmps18
  go_wp2_with (first | (go_at_call 51; refine (finite_walk _ _).mono ?_; rintro e w' ⟨rfl, n, rfl⟩) | (go_at_call 52; refine (log_impl' y X Hp.out hlo hhi _).mono ?_; rintro e w' ⟨r, rfl, hr, n2, rfl⟩; obtain ⟨b, hb, hbits, hle⟩ := ten_bits HL.out hr; have hfl := call_floor b hle; have hcv := fun w2 : World => run_convert_float_int (P := Try.prog) w2 22 2 .f64 .i64 (floorB b) (truncI (floorB b)) (by kernel_rfl) Try.underlying2 (toInt_some (floor_le hle)).1; have Hb := Lib.hid hb; clear hb hr hle) | go_in)
  go_ret2
  exact ⟨by unfold tenN; rw [show (some y).getD 0 = y from rfl, Hb.out]; rfl, Drew.mk _ _⟩
set_option maxHeartbeats 1000000 in
theorem ten_spec (x : Nat) {m : Nat} {i : Int} (hd : (FloatKind.f32).decode x = .number false m i) (h0 : m ≠ 0) (w : World) :
    Calls Try.prog 50 #[.float .f32 x] w fun e w' => e = .returned (.int .i64 (tenN ((vwide (cls .f32 x)).getD 0))) ∧ Drew w w' := by
  obtain ⟨y, X, hy, hp, hlo, hhi⟩ := pos_wide hd h0
  rw [hy]
  have hc := cres_of hy
  have Hp := Lib.hid hp
  have HL := Lib.hid (logW_le hp hlo hhi)
  clear hd hy hp h0
  go_enter Try.func50, Try.ntmps50
  go_wp2_with (first | (go_at_call 77; refine (log_spec' y X Hp.out hlo hhi _).mono ?_; rintro e w' ⟨r, rfl, hr, n2, rfl⟩; obtain ⟨b, hb, hbits, hle⟩ := ten_bits HL.out hr; have hfl := call_floor b hle; have hcv := fun w2 : World => run_convert_float_int (P := Try.prog) w2 22 2 .f64 .i64 (floorB b) (truncI (floorB b)) (by kernel_rfl) Try.underlying2 (toInt_some (floor_le hle)).1; have Hb := Lib.hid hb; clear hb hr hle) | go_in)
  go_ret
  exact ⟨by unfold tenN; rw [show (some y).getD 0 = y from rfl, Hb.out]; rfl, Drew.mk _ _⟩
set_option maxHeartbeats 1000000 in
theorem ten_law (x : Nat) (w : World) (_ : (Lit.float .f32 x).wf = true) : Calls Try.prog 4 #[.float .f32 x] w fun e w' => e = .returned (.bool true) ∧ Below w.heap.size w w' := by
  cases hf : finD ((FloatKind.f32).decode x) with
  | false =>
    go_enter Try.func4, Try.ntmps4
    go_wp2_with (first | (go_at_call 51; refine (finite_walk _ _).mono ?_; rintro e w' ⟨rfl, n, rfl⟩) | (go_at_call 49; refine (finite_spec _ _).mono ?_; rintro e w' ⟨rfl, n, rfl⟩) | go_in)
    go_ret
    exact ⟨rfl, (Drew.mk _ _).below⟩
  | true =>
    have hz := order_zero .f32 x
    cases hd : (FloatKind.f32).decode x with
    | infinity s => rw [hd] at hf; cases hf
    | nan s t => rw [hd] at hf; cases hf
    | number s m i =>
      by_cases hn : m = 0 ∨ s = true
      · have hle : ((FloatKind.f32).format.order x 0 == some .lt || (FloatKind.f32).format.order x 0 == some .eq) = true := by
          rw [hz, hd]
          by_cases h0 : m = 0
          · rw [show sgn (.number s m i) = some .eq from congrArg some (if_pos h0)]; rfl
          · rw [sgn_num h0, hn.resolve_left h0]; rfl
        clear hz hd hn
        go_enter Try.func4, Try.ntmps4
        go_wp2_with (first | (go_at_call 51; refine (finite_walk _ _).mono ?_; rintro e w' ⟨rfl, n, rfl⟩) | (go_at_call 49; refine (finite_spec _ _).mono ?_; rintro e w' ⟨rfl, n, rfl⟩) | go_in)
        go_ret
        exact ⟨rfl, (Drew.mk _ _).below⟩
      · have h0 : m ≠ 0 := fun h => hn (.inl h)
        obtain rfl : s = false := by cases s with
          | false => rfl
          | true => exact absurd (.inr rfl) hn
        have hle : (FloatKind.f32).format.order x 0 = some .gt := by rw [hz, hd, sgn_num h0]; rfl
        have Hd := Lib.hid hd
        clear hz hd hn
        go_enter Try.func4, Try.ntmps4
        go_wp2_with (first | (go_at_call 18; refine (ten_impl x Hd.out h0 _).mono ?_; rintro e w' ⟨rfl, n, rfl⟩) | (go_at_call 50; refine (ten_spec x Hd.out h0 _).mono ?_; rintro e w' ⟨rfl, n2, rfl⟩) | (go_at_call 49; refine (finite_spec _ _).mono ?_; rintro e w' ⟨rfl, n, rfl⟩) | go_in)
        go_ret
        exact ⟨rfl, (Drew.mk _ _).below⟩
end Go.Proofs.Ytgdcpohdejbhaac
