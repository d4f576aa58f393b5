
/- Parity: the laws' helpers. -/
import Derived.Test.YtnljabgkaelplaaDoorCob
namespace Go.Proofs.YtnljabgkaelplaaDoor
open Go.Proofs.YtnljabgkaelplaaDoor.Flo Go.RowKit

end Go.Proofs.YtnljabgkaelplaaDoor
