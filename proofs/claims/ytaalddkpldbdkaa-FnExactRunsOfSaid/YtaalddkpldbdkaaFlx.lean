/- Walks over the library's small functions on floats, and what is finite. -/
import Derived.Test.YtaalddkpldbdkaaFlv
import Derived.Test.YtaalddkpldbdkaaFlw
import Derived.Laws.BitsAllLaws
import Derived.Lib.Hide
namespace Go.Proofs.Ytaalddkpldbdkaa
open Go.Proofs.Ytaalddkpldbdkaa.Flo Go.RowKit

theorem ret_float {k : FloatKind} {a b : Nat} (h : a = b) : Ending.returned (.float k a) = .returned (.float k b) := by rw [h]
theorem ret_bool' {a b : Bool} (h : a = b) : Ending.returned (.bool a) = .returned (.bool b) := by rw [h]
theorem finite_spec (x : Nat) (w : World) : Calls Try.prog 104 #[.float .f32 x] w fun e w' => e = .returned (.bool (finD ((FloatKind.f32).decode x))) ∧ Drew w w' := by
  have h := fun w => Lib.hid (sub_self_bits .f32 x w)
  go_enter Try.func104, Try.ntmps104
  go_wp2
  go_ret
  exact ⟨ret_bool' (h _).out, Drew.mk _ _⟩
end Go.Proofs.Ytaalddkpldbdkaa
