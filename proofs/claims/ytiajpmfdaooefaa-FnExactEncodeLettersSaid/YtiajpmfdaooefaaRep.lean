/- strings.Repeat at a text of one letter. -/
import Derived.Test.YtiajpmfdaooefaaStx
import Derived.Test.YtiajpmfdaooefaaShf
namespace Go.Proofs.Ytiajpmfdaooefaa
open Go.Proofs.Ytiajpmfdaooefaa.Flo Go.RowKit

end Go.Proofs.Ytiajpmfdaooefaa
