/- The sine of turns: the law. -/
import Derived.Test.YtkllihdfafomnaaFlt
namespace Go.Proofs.Ytkllihdfafomnaa
open Go.Proofs.Ytkllihdfafomnaa.Flo Go.RowKit

attribute [local go_sem] call_from64
end Go.Proofs.Ytkllihdfafomnaa
