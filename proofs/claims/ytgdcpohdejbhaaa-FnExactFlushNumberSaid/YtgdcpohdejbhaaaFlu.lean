/- The sine of turns: the law. -/
import Derived.Test.YtgdcpohdejbhaaaFlt
namespace Go.Proofs.Ytgdcpohdejbhaaa
open Go.Proofs.Ytgdcpohdejbhaaa.Flo Go.RowKit

attribute [local go_sem] call_from64
end Go.Proofs.Ytgdcpohdejbhaaa
