/- The sine of turns: the law. -/
import Derived.Test.YtopcmbcdmceieaaFlt
namespace Go.Proofs.Ytopcmbcdmceieaa
open Go.Proofs.Ytopcmbcdmceieaa.Flo Go.RowKit

attribute [local go_sem] call_from64
end Go.Proofs.Ytopcmbcdmceieaa
