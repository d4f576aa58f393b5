/- Walks over small functions on floats. -/
import Derived.Test.YtgdcpohdejbhaacFlo
import Derived.Test.YtgdcpohdejbhaacChecked
import Derived.WalkKit
import Derived.WalkLawsBesides
namespace Go.Proofs.Ytgdcpohdejbhaac
open Go.Proofs.Ytgdcpohdejbhaac.Flo Go.RowKit

/-- At most some draws lie between two worlds. -/
def Drew (w w' : World) : Prop := ∃ n, w' = w.drewN n
theorem Drew.refl (w : World) : Drew w w := ⟨0, rfl⟩
theorem Drew.mk (w : World) (n : Nat) : Drew w (w.drewN n) := ⟨n, rfl⟩
theorem Drew.below {w w' : World} (h : Drew w w') : Below w.heap.size w w' := by
  obtain ⟨n, rfl⟩ := h
  exact (Below.refl _ _).trans ⟨rfl, rfl, rfl, Nat.le_refl _, fun _ _ => rfl⟩

/-- 'sameFloat' of two numbers that are the same up to which not-a-number. -/
theorem sameFloat_true (a b : Nat) (h : cls .f64 a = cls .f64 b) (w : World) :
    Calls Try.prog 21 #[.float .f64 a, .float .f64 b] w fun e w' => e = .returned (.bool true) ∧ Drew w w' := by
  cases ha : cls .f64 a with
  | none =>
    have h1 := order_nan (k := .f64) (y := a) (cls_none ha)
    have h2 := order_nan (k := .f64) (y := b) (cls_none (h ▸ ha))
    go_enter Try.func21, Try.ntmps21
    go_wp2
    go_ret
    exact ⟨rfl, Drew.refl _⟩
  | some x =>
    obtain ⟨rfl, hn⟩ := cls_some ha
    obtain ⟨rfl, _⟩ := cls_some (h ▸ ha)
    have h1 := order_self hn
    clear ha h
    by_cases h0 : (FloatKind.f64).format.order b 0 = some .eq
    · go_enter Try.func21, Try.ntmps21
      go_wp2
      go_ret
      exact ⟨by simp [order_cls, fres_cls], Drew.mk _ _⟩
    · have h3 : ((FloatKind.f64).format.order b 0 == some .eq) = false := by simpa using h0
      go_enter Try.func21, Try.ntmps21
      go_wp2
      go_ret
      exact ⟨rfl, Drew.refl _⟩

theorem call_sqrt (x : Nat) (w : World) : (callFunc 83 #[.float .f64 x]).run Try.prog w = .ok (.value (.float .f64 (sres x w))) (w.drewN (scnt x)) := by
  rw [run_callFunc_extern Try.func83 (by kernel_rfl) (by kernel_rfl) (by kernel_rfl) (e := Extern.MathSqrt.sqrt) (by kernel_rfl), run_sqrt_entry]
  rfl
attribute [local go_sem] call_sqrt

theorem root_law (x : Nat) (w : World) : Calls Try.prog 9 #[.float .f32 x] w fun e w' => e = .returned (.bool true) ∧ Drew w w' := by
  have h := fun w2 : World => fun w3 : World => fun w4 : World => fun w5 : World => fun w6 : World => fun w7 : World => fun w8 : World => fun w9 : World =>
    (cres_wide _ w2).trans ((congrArg vwide (narrow_eq ((sres_cls _ w3).trans (congrArg vsqrt (cres_wide x w4))) (vsqrt_wide_okn x) w5)).trans
      ((congrArg vwide (narrow_eq ((sres_cls _ w6).trans (congrArg vsqrt (cres_wide x w7))) (vsqrt_wide_okn x) w8)).symm.trans (cres_wide _ w9).symm))
  go_enter Try.func9, Try.ntmps9
  go_wp2_with (first | (go_at_call 21; refine (sameFloat_true _ _ (h ..) _).mono ?_; rintro e w2 ⟨rfl, n, rfl⟩) | go_in)
  go_ret
  exact ⟨rfl, Drew.mk _ _⟩
theorem root_walk (x : Nat) (w : World) (_ : (Lit.float .f32 x).wf = true) : Calls Try.prog 9 #[.float .f32 x] w fun e w' => e = .returned (.bool true) ∧ Below w.heap.size w w' :=
  (root_law x w).mono fun _ _ ⟨h, d⟩ => ⟨h, d.below⟩
end Go.Proofs.Ytgdcpohdejbhaac
