/- Sines of turns: the model's walk, and the law. -/
import Derived.Test.YtkllihdfafomnaaFls
namespace Go.Proofs.Ytkllihdfafomnaa
open Go.Proofs.Ytkllihdfafomnaa.Flo Go.RowKit

end Go.Proofs.Ytkllihdfafomnaa
