
/- Parity: the laws' helpers. -/
import Derived.Test.YtkmggoagboikgaaDoorCob
namespace Go.Proofs.YtkmggoagboikgaaDoor
open Go.Proofs.YtkmggoagboikgaaDoor.Flo Go.RowKit

end Go.Proofs.YtkmggoagboikgaaDoor
