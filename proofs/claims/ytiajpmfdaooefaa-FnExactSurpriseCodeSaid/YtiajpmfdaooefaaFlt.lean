/- Sines of turns: the model's walk, and the law. -/
import Derived.Test.YtiajpmfdaooefaaFls
namespace Go.Proofs.Ytiajpmfdaooefaa
open Go.Proofs.Ytiajpmfdaooefaa.Flo Go.RowKit

end Go.Proofs.Ytiajpmfdaooefaa
