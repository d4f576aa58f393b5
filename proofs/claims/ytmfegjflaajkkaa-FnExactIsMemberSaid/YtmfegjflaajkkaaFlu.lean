
/- The sine of turns: the law. -/
import Derived.Test.YtmfegjflaajkkaaFlt
namespace Go.Proofs.Ytmfegjflaajkkaa
open Go.Proofs.Ytmfegjflaajkkaa.Flo Go.RowKit

attribute [local go_sem] call_from64
end Go.Proofs.Ytmfegjflaajkkaa
