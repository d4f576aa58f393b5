
/- The sine of turns: the law. -/
import Derived.Test.YteikedgdegaeiaaFlt
namespace Go.Proofs.Yteikedgdegaeiaa
open Go.Proofs.Yteikedgdegaeiaa.Flo Go.RowKit

attribute [local go_sem] call_from64
end Go.Proofs.Yteikedgdegaeiaa
