
/- Sines of turns: the model's walk, and the law. -/
import Derived.Test.YthjijfghbchhpaaFls
namespace Go.Proofs.Ythjijfghbchhpaa
open Go.Proofs.Ythjijfghbchhpaa.Flo Go.RowKit

end Go.Proofs.Ythjijfghbchhpaa
