
/- The sine of turns: the law. -/
import Derived.Test.YthkabonnclfhmaaDoorFlt
namespace Go.Proofs.YthkabonnclfhmaaDoor
open Go.Proofs.YthkabonnclfhmaaDoor.Flo Go.RowKit

end Go.Proofs.YthkabonnclfhmaaDoor
