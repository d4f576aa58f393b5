/- The sine of turns: the law. -/
import Derived.Test.YtbpmjgpfjlnlpaaFlt
namespace Go.Proofs.Ytbpmjgpfjlnlpaa
open Go.Proofs.Ytbpmjgpfjlnlpaa.Flo Go.RowKit

attribute [local go_sem] call_from64
end Go.Proofs.Ytbpmjgpfjlnlpaa
