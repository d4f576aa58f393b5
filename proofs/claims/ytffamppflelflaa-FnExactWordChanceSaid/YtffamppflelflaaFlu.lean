/- The sine of turns: the law. -/
import Derived.Test.YtffamppflelflaaFlt
namespace Go.Proofs.Ytffamppflelflaa
open Go.Proofs.Ytffamppflelflaa.Flo Go.RowKit

end Go.Proofs.Ytffamppflelflaa
