
/- Texts, counts and shares: the functions that tell whether they are valid. -/
import Derived.Test.YthjijfghbchhpaaItv
namespace Go.Proofs.Ythjijfghbchhpaa
open Go.Proofs.Ythjijfghbchhpaa.Flo Go.RowKit

theorem two_cells (w : World) (x y : Value) (T : TypeId) : (w.alloc (.cells #[x, y] T)).cell? ⟨w.heap.size, 0, none⟩ = some x ∧ (w.alloc (.cells #[x, y] T)).cell? ⟨w.heap.size, 1, none⟩ = some y := by
  constructor <;> (rw [World.cell?_alloc_at _ _ _ _ rfl]; rfl)
theorem Drew.below2 {w w' : World} (h : Drew w w') : Below w.heap.size w w' := h.below
end Go.Proofs.Ythjijfghbchhpaa
