/- The sine of turns: the law. -/
import Derived.Test.YtcgdhicgpkoncaaFlt
namespace Go.Proofs.Ytcgdhicgpkoncaa
open Go.Proofs.Ytcgdhicgpkoncaa.Flo Go.RowKit

attribute [local go_sem] call_from64
end Go.Proofs.Ytcgdhicgpkoncaa
