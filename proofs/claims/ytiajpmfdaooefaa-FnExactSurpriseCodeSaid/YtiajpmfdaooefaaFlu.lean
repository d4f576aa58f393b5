/- The sine of turns: the law. -/
import Derived.Test.YtiajpmfdaooefaaFlt
namespace Go.Proofs.Ytiajpmfdaooefaa
open Go.Proofs.Ytiajpmfdaooefaa.Flo Go.RowKit

attribute [local go_sem] call_from64
end Go.Proofs.Ytiajpmfdaooefaa
