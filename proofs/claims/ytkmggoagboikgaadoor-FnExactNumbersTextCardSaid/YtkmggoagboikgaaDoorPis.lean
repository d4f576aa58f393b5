
/- Parities: ValidParity, the model's; a code, or none. -/
import Derived.Test.YtkmggoagboikgaaDoorPst
namespace Go.Proofs.YtkmggoagboikgaaDoor
open Go.Proofs.YtkmggoagboikgaaDoor.Flo Go.RowKit Go.Proofs.YtkmggoagboikgaaDoor.Pr

theorem Below.stepW {w w1 w2 : World} (h1 : Below w.heap.size w w1) (h2 : Below w1.heap.size w1 w2) : Below w.heap.size w w2 := Below.next h1 h2
end Go.Proofs.YtkmggoagboikgaaDoor
