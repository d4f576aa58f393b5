/- Sines of turns: the model's walk, and the law. -/
import Derived.Test.YtbpmjgpfjlnlpaaFls
namespace Go.Proofs.Ytbpmjgpfjlnlpaa
open Go.Proofs.Ytbpmjgpfjlnlpaa.Flo Go.RowKit

end Go.Proofs.Ytbpmjgpfjlnlpaa
