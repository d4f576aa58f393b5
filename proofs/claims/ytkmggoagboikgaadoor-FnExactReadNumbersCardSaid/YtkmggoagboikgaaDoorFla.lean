
/- Walks over the functions on the bits of 32-bit numbers, and the laws of them. -/
import Derived.Test.YtkmggoagboikgaaDoorMga
namespace Go.Proofs.YtkmggoagboikgaaDoor
open Go.Proofs.YtkmggoagboikgaaDoor.Flo Go.RowKit

attribute [local go_sem] call_bits32
attribute [local go_sem] call_from32

/-- The bits of a number: those of one not-a-number for each. -/
def bitsF (x : Nat) : Nat := if ((FloatKind.f32).decode x).isNaN then 2143289344 else x
theorem nan_or (x : Nat) : (((FloatKind.f32).format.order x x != some .eq) = true ∧ bitsF x = 2143289344) ∨ (((FloatKind.f32).format.order x x != some .eq) = false ∧ bitsF x = x) := by
  by_cases h : ((FloatKind.f32).decode x).isNaN = true
  · left; rw [order_nan h]; exact ⟨rfl, if_pos h⟩
  · right; rw [order_self (by simpa using h)]; exact ⟨rfl, if_neg h⟩
theorem bitsF_lt {x : Nat} (h : x < 2 ^ 32) : bitsF x < 2 ^ 32 := by unfold bitsF; split <;> omega
theorem ret_i64 {a b : Int} (h : a = b) : Ending.returned (.int .i64 a) = .returned (.int .i64 b) := by rw [h]

theorem bits_spec (x : Nat) (hx : x < 2 ^ 32) (w : World) : Calls Tryd.prog 28 #[.float .f32 x] w fun e w' => e = .returned (.int .i64 (bitsF x)) ∧ w = w' := by
  have hx2 : (x : Int) < 4294967296 := by omega
  rcases nan_or x with ⟨h1, h2⟩ | ⟨h1, h2⟩
  all_goals
    have H := Lib.hid h2
    clear h2 hx
    go_enter Tryd.func28, Tryd.ntmps28
    go_wp2
    go_ret
    exact ⟨ret_i64 (by rw [H.out]; try rfl), rfl⟩
theorem bits_impl (x : Nat) (hx : x < 2 ^ 32) (w : World) : Calls Tryd.prog 23 #[.float .f32 x] w fun e w' => e = .returned (.int .i64 (bitsF x)) ∧ w = w' := by
  have hx2 : (x : Int) < 4294967296 := by omega
  rcases nan_or x with ⟨h1, h2⟩ | ⟨h1, h2⟩
  all_goals
    have H := Lib.hid h2
    clear h2 hx
    go_enter Tryd.func23, Tryd.ntmps23
    go_wp2
    go_ret
    exact ⟨ret_i64 (by rw [H.out]; try rfl), rfl⟩
theorem lt32 {x : Nat} (h : (Lit.float .f32 x).wf = true) : x < 2 ^ 32 := by
  have h2 : x < 4294967296 := by simpa [Lit.wf] using h
  exact h2
end Go.Proofs.YtkmggoagboikgaaDoor
