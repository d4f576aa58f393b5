
/- Walks over small functions on floats. -/
import Derived.Test.YtekbefmjifmnoaaFlo
import Derived.Test.YtekbefmjifmnoaaChecked
import Derived.WalkKit
import Derived.WalkLawsBesides
namespace Go.Proofs.Ytekbefmjifmnoaa
open Go.Proofs.Ytekbefmjifmnoaa.Flo Go.RowKit

/-- At most some draws lie between two worlds. -/
def Drew (w w' : World) : Prop := ∃ n, w' = w.drewN n
theorem Drew.refl (w : World) : Drew w w := ⟨0, rfl⟩
theorem Drew.mk (w : World) (n : Nat) : Drew w (w.drewN n) := ⟨n, rfl⟩
theorem Drew.below {w w' : World} (h : Drew w w') : Below w.heap.size w w' := by
  obtain ⟨n, rfl⟩ := h
  exact (Below.refl _ _).trans ⟨rfl, rfl, rfl, Nat.le_refl _, fun _ _ => rfl⟩

end Go.Proofs.Ytekbefmjifmnoaa
