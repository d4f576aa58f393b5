
/- The sine of turns: the law. -/
import Derived.Test.YthjijfghbchhpaaFlt
namespace Go.Proofs.Ythjijfghbchhpaa
open Go.Proofs.Ythjijfghbchhpaa.Flo Go.RowKit

end Go.Proofs.Ythjijfghbchhpaa
