/- Walks over the library's small functions on floats, and what is finite. -/
import Derived.Test.YtffamppflelflaaFlv
import Derived.Test.YtffamppflelflaaFlw
import Derived.Laws.BitsAllLaws
import Derived.Lib.Hide
namespace Go.Proofs.Ytffamppflelflaa
open Go.Proofs.Ytffamppflelflaa.Flo Go.RowKit

theorem call_bits32 (x : Nat) (w : World) : (callFunc 100 #[.float .f32 x]).run Try.prog w = .ok (.value (.int .u32 x)) w := by
  rw [run_callFunc_extern Try.func100 (by kernel_rfl) (by kernel_rfl) (by kernel_rfl) (e := Extern.MathFloatBits.float32bits) (by kernel_rfl)]
  rfl
theorem ret_float {k : FloatKind} {a b : Nat} (h : a = b) : Ending.returned (.float k a) = .returned (.float k b) := by rw [h]
theorem ret_bool' {a b : Bool} (h : a = b) : Ending.returned (.bool a) = .returned (.bool b) := by rw [h]
theorem finite_spec (x : Nat) (w : World) : Calls Try.prog 103 #[.float .f32 x] w fun e w' => e = .returned (.bool (finD ((FloatKind.f32).decode x))) ∧ Drew w w' := by
  have h := fun w => Lib.hid (sub_self_bits .f32 x w)
  go_enter Try.func103, Try.ntmps103
  go_wp2
  go_ret
  exact ⟨ret_bool' (h _).out, Drew.mk _ _⟩
end Go.Proofs.Ytffamppflelflaa
