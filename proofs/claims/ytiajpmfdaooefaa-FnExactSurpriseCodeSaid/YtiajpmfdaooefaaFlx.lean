/- Walks over the library's small functions on floats, and what is finite. -/
import Derived.Test.YtiajpmfdaooefaaFlv
import Derived.Test.YtiajpmfdaooefaaFlw
import Derived.Laws.BitsAllLaws
import Derived.Lib.Hide
namespace Go.Proofs.Ytiajpmfdaooefaa
open Go.Proofs.Ytiajpmfdaooefaa.Flo Go.RowKit

theorem call_bits64 (x : Nat) (w : World) : (callFunc 148 #[.float .f64 x]).run Try.prog w = .ok (.value (.int .u64 x)) w := by
  rw [run_callFunc_extern Try.func148 (by kernel_rfl) (by kernel_rfl) (by kernel_rfl) (e := Extern.MathFloatBits.float64bits) (by kernel_rfl)]
  rfl
attribute [local go_sem] call_bits64
theorem call_from64 (n : Int) (w : World) : (callFunc 145 #[.int .u64 n]).run Try.prog w = .ok (.value (.float .f64 n.toNat)) w := by
  rw [run_callFunc_extern Try.func145 (by kernel_rfl) (by kernel_rfl) (by kernel_rfl) (e := Extern.MathFloatBits.float64frombits) (by kernel_rfl)]
  rfl
attribute [local go_sem] call_from64
theorem call_from32 (n : Int) (w : World) : (callFunc 142 #[.int .u32 n]).run Try.prog w = .ok (.value (.float .f32 n.toNat)) w := by
  rw [run_callFunc_extern Try.func142 (by kernel_rfl) (by kernel_rfl) (by kernel_rfl) (e := Extern.MathFloatBits.float32frombits) (by kernel_rfl)]
  rfl
theorem ret_float {k : FloatKind} {a b : Nat} (h : a = b) : Ending.returned (.float k a) = .returned (.float k b) := by rw [h]
theorem ret_bool' {a b : Bool} (h : a = b) : Ending.returned (.bool a) = .returned (.bool b) := by rw [h]
theorem abs_bits (x : Nat) (hx : x < 2 ^ 64) : (bits BinOp.andNot IntKind.u64 (x : Int) 9223372036854775808).toNat = x % 2 ^ 63 := by
  have h := u64_andNot_nat x 9223372036854775808 hx (by decide)
  have e : (18446744073709551615 - 9223372036854775808 : Nat) = 2 ^ 63 - 1 := by decide
  rw [e, Nat.and_two_pow_sub_one_eq_mod] at h
  have h2 : bits BinOp.andNot IntKind.u64 (x : Int) 9223372036854775808 = ((x % 2 ^ 63 : Nat) : Int) := h
  rw [h2]; exact Int.toNat_natCast _

theorem abs_walk (x : Nat) (hx : x < 2 ^ 64) (w : World) : Calls Try.prog 146 #[.float .f64 x] w fun e w' => e = .returned (.float .f64 (x % 2 ^ 63)) ∧ w = w' := by
  have h := Lib.hid (abs_bits x hx)
  clear hx
  go_enter Try.func146, Try.ntmps146
  go_wp2
  go_ret
  exact ⟨ret_float h.out, rfl⟩
def infB : Ieee.Datum → Bool
  | .infinity _ => true
  | _ => false
theorem isInf_walk (x : Nat) (hx : x < 2 ^ 64) (w : World) : Calls Try.prog 141 #[.float .f64 x, .int .i64 0] w fun e w' => e = .returned (.bool (infB ((FloatKind.f64).decode x))) ∧ w = w' := by
  have h := Lib.hid (order_max x)
  go_enter Try.func141, Try.ntmps141
  go_wp2_with (go_at_call 146; refine (abs_walk x hx _).mono ?_; rintro e w' ⟨rfl, rfl⟩)
  go_ret
  exact ⟨ret_bool' h.out, rfl⟩
theorem finite_spec (x : Nat) (w : World) : Calls Try.prog 100 #[.float .f32 x] w fun e w' => e = .returned (.bool (finD ((FloatKind.f32).decode x))) ∧ Drew w w' := by
  have h := fun w => Lib.hid (sub_self_bits .f32 x w)
  go_enter Try.func100, Try.ntmps100
  go_wp2
  go_ret
  exact ⟨ret_bool' (h _).out, Drew.mk _ _⟩
end Go.Proofs.Ytiajpmfdaooefaa
