/- The sine of turns: the law. -/
import Derived.Test.YtmklgnjacbcfeaaFlt
namespace Go.Proofs.Ytmklgnjacbcfeaa
open Go.Proofs.Ytmklgnjacbcfeaa.Flo Go.RowKit

attribute [local go_sem] call_from64
end Go.Proofs.Ytmklgnjacbcfeaa
