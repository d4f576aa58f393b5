/- Walks over the functions on the bits of 32-bit numbers, and the laws of them. -/
import Derived.Test.YtgdcpohdejbhaaaFlx
namespace Go.Proofs.Ytgdcpohdejbhaaa
open Go.Proofs.Ytgdcpohdejbhaaa.Flo Go.RowKit

attribute [local go_sem] call_bits32
attribute [local go_sem] call_from32

/-- The bits of a number: those of one not-a-number for each. -/
def bitsF (x : Nat) : Nat := if ((FloatKind.f32).decode x).isNaN then 2143289344 else x
theorem nan_or (x : Nat) : (((FloatKind.f32).format.order x x != some .eq) = true ∧ bitsF x = 2143289344) ∨ (((FloatKind.f32).format.order x x != some .eq) = false ∧ bitsF x = x) := by
  by_cases h : ((FloatKind.f32).decode x).isNaN = true
  · left; rw [order_nan h]; exact ⟨rfl, if_pos h⟩
  · right; rw [order_self (by simpa using h)]; exact ⟨rfl, if_neg h⟩
theorem bitsF_lt {x : Nat} (h : x < 2 ^ 32) : bitsF x < 2 ^ 32 := by unfold bitsF; split <;> omega
theorem ret_i64 {a b : Int} (h : a = b) : Ending.returned (.int .i64 a) = .returned (.int .i64 b) := by rw [h]

theorem bits_spec (x : Nat) (hx : x < 2 ^ 32) (w : World) : Calls Try.prog 28 #[.float .f32 x] w fun e w' => e = .returned (.int .i64 (bitsF x)) ∧ w = w' := by
  have hx2 : (x : Int) < 4294967296 := by omega
  rcases nan_or x with ⟨h1, h2⟩ | ⟨h1, h2⟩
  all_goals
    have H := Lib.hid h2
    clear h2 hx
    go_enter Try.func28, Try.ntmps28
    go_wp2
    go_ret
    exact ⟨ret_i64 (by rw [H.out]; try rfl), rfl⟩
theorem bits_impl (x : Nat) (hx : x < 2 ^ 32) (w : World) : Calls Try.prog 15 #[.float .f32 x] w fun e w' => e = .returned (.int .i64 (bitsF x)) ∧ w = w' := by
  have hx2 : (x : Int) < 4294967296 := by omega
  rcases nan_or x with ⟨h1, h2⟩ | ⟨h1, h2⟩
  all_goals
    have H := Lib.hid h2
    clear h2 hx
    go_enter Try.func15, Try.ntmps15
    go_wp2
    go_ret
    exact ⟨ret_i64 (by rw [H.out]; try rfl), rfl⟩
theorem lt32 {x : Nat} (h : (Lit.float .f32 x).wf = true) : x < 2 ^ 32 := by
  have h2 : x < 4294967296 := by simpa [Lit.wf] using h
  exact h2
theorem bits_law (x : Nat) (w : World) (h : (Lit.float .f32 x).wf = true) : Calls Try.prog 5 #[.float .f32 x] w fun e w' => e = .returned (.bool true) ∧ Below w.heap.size w w' := by
  have hx := lt32 h
  clear h
  go_enter Try.func5, Try.ntmps5
  go_wp2_with (first | (go_at_call 15; refine (bits_impl _ hx _).mono ?_; rintro e w' ⟨rfl, rfl⟩) | (go_at_call 28; refine (bits_spec _ hx _).mono ?_; rintro e w' ⟨rfl, rfl⟩) | go_in)
  go_ret
  exact ⟨rfl, Below.refl _ _⟩
theorem same_law (x y : Nat) (w : World) (h : (Lit.float .f32 x).wf = true) (h2 : (Lit.float .f32 y).wf = true) : Calls Try.prog 3 #[.float .f32 x, .float .f32 y] w fun e w' => e = .returned (.bool true) ∧ Below w.heap.size w w' := by
  have hx := lt32 h
  have hy := lt32 h2
  clear h h2
  go_enter Try.func3, Try.ntmps3
  go_wp2_with (first | (go_at_call 15; refine (bits_impl _ (by assumption) _).mono ?_; rintro e w' ⟨rfl, rfl⟩) | (go_at_call 28; refine (bits_spec _ (by assumption) _).mono ?_; rintro e w' ⟨rfl, rfl⟩) | go_in)
  all_goals
    go_ret
    exact ⟨rfl, Below.refl _ _⟩
theorem finite_law (x : Nat) (w : World) (_ : (Lit.float .f32 x).wf = true) : Calls Try.prog 4 #[.float .f32 x] w fun e w' => e = .returned (.bool true) ∧ Below w.heap.size w w' := by
  go_enter Try.func4, Try.ntmps4
  go_wp2_with (first | (go_at_call 13; refine (finite_walk _ _).mono ?_; rintro e w' ⟨rfl, n, rfl⟩) | (go_at_call 26; refine (finite_spec _ _).mono ?_; rintro e w' ⟨rfl, n, rfl⟩) | go_in)
  go_ret
  exact ⟨rfl, (Drew.mk _ _).below⟩
theorem from_law (n : Int) (w : World) (_ : (Lit.int .i64 n).wf = true) : Calls Try.prog 6 #[.int .i64 n] w fun e w' => e = .returned (.bool true) ∧ Below w.heap.size w w' := by
  have hs := fun b : Nat => fun w2 : World => fun w3 : World => (cres_wide b w2).trans (cres_wide b w3).symm
  by_cases h0 : n < 0
  · go_enter Try.func6, Try.ntmps6
    go_wp2_with (first | (go_at_call 18; refine (sameFloat_true _ _ (hs ..) _).mono ?_; rintro e w2 ⟨rfl, n, rfl⟩) | go_in)
    go_ret
    exact ⟨rfl, (Drew.mk _ _).below⟩
  · by_cases h1 : n ≤ 4294967295
    · have h2 : decide (n ≤ 4294967295) = true := by simpa using h1
      go_enter Try.func6, Try.ntmps6
      go_wp2_with (first | (go_at_call 18; refine (sameFloat_true _ _ (hs ..) _).mono ?_; rintro e w2 ⟨rfl, n, rfl⟩) | go_in)
      go_ret
      exact ⟨rfl, (Drew.mk _ _).below⟩
    · have h2 : decide (n ≤ 4294967295) = false := by simpa using h1
      go_enter Try.func6, Try.ntmps6
      go_wp2_with (first | (go_at_call 18; refine (sameFloat_true _ _ (hs ..) _).mono ?_; rintro e w2 ⟨rfl, n, rfl⟩) | go_in)
      go_ret
      exact ⟨rfl, (Drew.mk _ _).below⟩
end Go.Proofs.Ytgdcpohdejbhaaa
