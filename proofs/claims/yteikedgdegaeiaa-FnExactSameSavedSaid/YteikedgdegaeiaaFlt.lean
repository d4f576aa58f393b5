
/- Sines of turns: the model's walk, and the law. -/
import Derived.Test.YteikedgdegaeiaaFls
namespace Go.Proofs.Yteikedgdegaeiaa
open Go.Proofs.Yteikedgdegaeiaa.Flo Go.RowKit

end Go.Proofs.Yteikedgdegaeiaa
