
/- Walks over the library's small functions on floats, and what is finite. -/
import Derived.Test.YteikedgdegaeiaaFlv
import Derived.Test.YteikedgdegaeiaaFlw
import Derived.Laws.BitsAllLaws
import Derived.Lib.Hide
namespace Go.Proofs.Yteikedgdegaeiaa
open Go.Proofs.Yteikedgdegaeiaa.Flo Go.RowKit

theorem call_bits64 (x : Nat) (w : World) : (callFunc 215 #[.float .f64 x]).run Try.prog w = .ok (.value (.int .u64 x)) w := by
  rw [run_callFunc_extern Try.func215 (by kernel_rfl) (by kernel_rfl) (by kernel_rfl) (e := Extern.MathFloatBits.float64bits) (by kernel_rfl)]
  rfl
attribute [local go_sem] call_bits64
theorem call_from64 (n : Int) (w : World) : (callFunc 214 #[.int .u64 n]).run Try.prog w = .ok (.value (.float .f64 n.toNat)) w := by
  rw [run_callFunc_extern Try.func214 (by kernel_rfl) (by kernel_rfl) (by kernel_rfl) (e := Extern.MathFloatBits.float64frombits) (by kernel_rfl)]
  rfl
attribute [local go_sem] call_from64
theorem call_bits32 (x : Nat) (w : World) : (callFunc 135 #[.float .f32 x]).run Try.prog w = .ok (.value (.int .u32 x)) w := by
  rw [run_callFunc_extern Try.func135 (by kernel_rfl) (by kernel_rfl) (by kernel_rfl) (e := Extern.MathFloatBits.float32bits) (by kernel_rfl)]
  rfl
theorem call_from32 (n : Int) (w : World) : (callFunc 206 #[.int .u32 n]).run Try.prog w = .ok (.value (.float .f32 n.toNat)) w := by
  rw [run_callFunc_extern Try.func206 (by kernel_rfl) (by kernel_rfl) (by kernel_rfl) (e := Extern.MathFloatBits.float32frombits) (by kernel_rfl)]
  rfl
theorem ret_float {k : FloatKind} {a b : Nat} (h : a = b) : Ending.returned (.float k a) = .returned (.float k b) := by rw [h]
theorem ret_bool' {a b : Bool} (h : a = b) : Ending.returned (.bool a) = .returned (.bool b) := by rw [h]
theorem abs_bits (x : Nat) (hx : x < 2 ^ 64) : (bits BinOp.andNot IntKind.u64 (x : Int) 9223372036854775808).toNat = x % 2 ^ 63 := by
  have h := u64_andNot_nat x 9223372036854775808 hx (by decide)
  have e : (18446744073709551615 - 9223372036854775808 : Nat) = 2 ^ 63 - 1 := by decide
  rw [e, Nat.and_two_pow_sub_one_eq_mod] at h
  have h2 : bits BinOp.andNot IntKind.u64 (x : Int) 9223372036854775808 = ((x % 2 ^ 63 : Nat) : Int) := h
  rw [h2]; exact Int.toNat_natCast _

theorem abs_walk (x : Nat) (hx : x < 2 ^ 64) (w : World) : Calls Try.prog 202 #[.float .f64 x] w fun e w' => e = .returned (.float .f64 (x % 2 ^ 63)) ∧ w = w' := by
  have h := Lib.hid (abs_bits x hx)
  clear hx
  go_enter Try.func202, Try.ntmps202
  go_wp2
  go_ret
  exact ⟨ret_float h.out, rfl⟩
def infB : Ieee.Datum → Bool
  | .infinity _ => true
  | _ => false
theorem isInf_walk (x : Nat) (hx : x < 2 ^ 64) (w : World) : Calls Try.prog 179 #[.float .f64 x, .int .i64 0] w fun e w' => e = .returned (.bool (infB ((FloatKind.f64).decode x))) ∧ w = w' := by
  have h := Lib.hid (order_max x)
  go_enter Try.func179, Try.ntmps179
  go_wp2_with (go_at_call 202; refine (abs_walk x hx _).mono ?_; rintro e w' ⟨rfl, rfl⟩)
  go_ret
  exact ⟨ret_bool' h.out, rfl⟩
theorem fin_walk (x : Nat) (hx : x < 2 ^ 64) (w : World) : Calls Try.prog 156 #[.float .f64 x] w fun e w' => e = .returned (.bool (finD ((FloatKind.f64).decode x))) ∧ w = w' := by
  cases hd : (FloatKind.f64).decode x with
  | number s m i =>
    have hi : infB ((FloatKind.f64).decode x) = false := by rw [hd]; rfl
    have ho := order_self (k := .f64) (x := x) (by rw [hd]; rfl)
    clear hd
    go_enter Try.func156, Try.ntmps156
    go_wp2_with (first | (go_at_call 179; refine (isInf_walk x hx _).mono ?_; rintro e w' ⟨rfl, rfl⟩) | go_in)
    go_ret
    exact ⟨rfl, rfl⟩
  | infinity s =>
    have hi : infB ((FloatKind.f64).decode x) = true := by rw [hd]; rfl
    clear hd
    go_enter Try.func156, Try.ntmps156
    go_wp2_with (first | (go_at_call 179; refine (isInf_walk x hx _).mono ?_; rintro e w' ⟨rfl, rfl⟩) | go_in)
    go_ret
    exact ⟨rfl, rfl⟩
  | nan s t =>
    have hi : infB ((FloatKind.f64).decode x) = false := by rw [hd]; rfl
    have ho := order_nan (k := .f64) (x := x) (y := x) (by rw [hd]; rfl)
    clear hd
    go_enter Try.func156, Try.ntmps156
    go_wp2_with (first | (go_at_call 179; refine (isInf_walk x hx _).mono ?_; rintro e w' ⟨rfl, rfl⟩) | go_in)
    go_ret
    exact ⟨rfl, rfl⟩

theorem cres_lt64 (b : Nat) (w : World) : cres .f32 b .f64 w < 2 ^ 64 := by
  unfold cres
  split
  · rename_i r h
    unfold floatToFloatBits at h
    rw [if_neg (by decide)] at h
    split at h
    · cases h
    · cases h; exact (FloatKind.f64).format.write_lt _
    · split at h
      · cases h
      · cases h; exact (FloatKind.f64).format.write_lt _
  · split
    · exact drawn_lt .f64 _
    · omega

/-- Whether a 32-bit number is finite, in either width. -/
theorem fin_wide (b : Nat) (w : World) : finD ((FloatKind.f64).decode (cres .f32 b .f64 w)) = finD ((FloatKind.f32).decode b) := by
  have h := cres_wide b w
  cases hb : cls .f32 b with
  | none =>
    rw [hb] at h
    have h1 := cls_none hb
    have h2 := cls_none h
    cases hd : (FloatKind.f32).decode b with
    | number s m i => rw [hd] at h1; cases h1
    | infinity s => rw [hd] at h1; cases h1
    | nan s t =>
      cases hd2 : (FloatKind.f64).decode (cres .f32 b .f64 w) with
      | number s m i => rw [hd2] at h2; cases h2
      | infinity s => rw [hd2] at h2; cases h2
      | nan s t => rfl
  | some x =>
    obtain ⟨rfl, hn⟩ := cls_some hb
    obtain ⟨r, hr⟩ := vwide_some hn
    rw [hb, hr] at h
    obtain ⟨e, _⟩ := cls_some h
    rw [e]
    unfold vwide floatToFloatBits at hr
    simp only [Option.bind_some] at hr
    rw [if_neg (by decide)] at hr
    cases hd : (FloatKind.f32).decode b with
    | nan s t => rw [hd] at hn; cases hn
    | infinity s =>
      rw [hd] at hr
      cases hr
      cases s <;> decide +kernel
    | number s m i =>
      have hw := write_le (k := .f64) (E := 128) (d := .number s m i) (by have := read32_bd b hd; rw [hd] at this; exact this.le) ⟨by decide, by decide⟩
      rw [hd] at hr
      dsimp only at hr
      split at hr
      · cases hr
      · cases hr
        unfold FloatKind.encode
        cases hd2 : (FloatKind.f64).decode ((FloatKind.f64).format.write (.number s m i)) with
        | number => rfl
        | infinity => rw [hd2] at hw; exact hw.elim
        | nan => rw [hd2] at hw; exact hw.elim
theorem finite_walk (x : Nat) (w : World) : Calls Try.prog 114 #[.float .f32 x] w fun e w' => e = .returned (.bool (finD ((FloatKind.f32).decode x))) ∧ Drew w w' := by
  have h := fun w => Lib.hid (fin_wide x w)
  go_enter Try.func114, Try.ntmps114
  go_wp2_with (go_at_call 156; refine (fin_walk _ (cres_lt64 _ _) _).mono ?_; rintro e w' ⟨rfl, rfl⟩)
  go_ret
  exact ⟨ret_bool' (h _).out, Drew.mk _ _⟩
theorem finite_spec (x : Nat) (w : World) : Calls Try.prog 91 #[.float .f32 x] w fun e w' => e = .returned (.bool (finD ((FloatKind.f32).decode x))) ∧ Drew w w' := by
  have h := fun w => Lib.hid (sub_self_bits .f32 x w)
  go_enter Try.func91, Try.ntmps91
  go_wp2
  go_ret
  exact ⟨ret_bool' (h _).out, Drew.mk _ _⟩
end Go.Proofs.Yteikedgdegaeiaa
