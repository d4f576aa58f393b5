/- Sines of turns: the model's walk, and the law. -/
import Derived.Test.YtcgdhicgpkoncaaFls
namespace Go.Proofs.Ytcgdhicgpkoncaa
open Go.Proofs.Ytcgdhicgpkoncaa.Flo Go.RowKit

end Go.Proofs.Ytcgdhicgpkoncaa
