
/- Walks over small functions on floats. -/
import Derived.Test.YthkabonnclfhmaaDoorFlo
import Derived.Test.YthkabonnclfhmaaDoorChecked
import Derived.WalkKit
import Derived.WalkLawsBesides
namespace Go.Proofs.YthkabonnclfhmaaDoor
open Go.Proofs.YthkabonnclfhmaaDoor.Flo Go.RowKit

/-- At most some draws lie between two worlds. -/
def Drew (w w' : World) : Prop := ∃ n, w' = w.drewN n
theorem Drew.refl (w : World) : Drew w w := ⟨0, rfl⟩
theorem Drew.mk (w : World) (n : Nat) : Drew w (w.drewN n) := ⟨n, rfl⟩
theorem Drew.below {w w' : World} (h : Drew w w') : Below w.heap.size w w' := by
  obtain ⟨n, rfl⟩ := h
  exact (Below.refl _ _).trans ⟨rfl, rfl, rfl, Nat.le_refl _, fun _ _ => rfl⟩

/-- 'sameFloat' of two numbers that are the same up to which not-a-number. -/
theorem sameFloat_true (a b : Nat) (h : cls .f64 a = cls .f64 b) (w : World) :
    Calls Tryd.prog 75 #[.float .f64 a, .float .f64 b] w fun e w' => e = .returned (.bool true) ∧ Drew w w' := by
  cases ha : cls .f64 a with
  | none =>
    have h1 := order_nan (k := .f64) (y := a) (cls_none ha)
    have h2 := order_nan (k := .f64) (y := b) (cls_none (h ▸ ha))
    go_enter Tryd.func75, Tryd.ntmps75
    go_wp2
    go_ret
    exact ⟨rfl, Drew.refl _⟩
  | some x =>
    obtain ⟨rfl, hn⟩ := cls_some ha
    obtain ⟨rfl, _⟩ := cls_some (h ▸ ha)
    have h1 := order_self hn
    clear ha h
    by_cases h0 : (FloatKind.f64).format.order b 0 = some .eq
    · go_enter Tryd.func75, Tryd.ntmps75
      go_wp2
      go_ret
      exact ⟨by simp [order_cls, fres_cls], Drew.mk _ _⟩
    · have h3 : ((FloatKind.f64).format.order b 0 == some .eq) = false := by simpa using h0
      go_enter Tryd.func75, Tryd.ntmps75
      go_wp2
      go_ret
      exact ⟨rfl, Drew.refl _⟩


end Go.Proofs.YthkabonnclfhmaaDoor
