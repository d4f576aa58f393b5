
/- Sines of turns: the model's walk, and the law. -/
import Derived.Test.YthkabonnclfhmaaDoorFls
namespace Go.Proofs.YthkabonnclfhmaaDoor
open Go.Proofs.YthkabonnclfhmaaDoor.Flo Go.RowKit

end Go.Proofs.YthkabonnclfhmaaDoor
