/- Sines of turns: the model's walk, and the law. -/
import Derived.Test.YtffamppflelflaaFls
namespace Go.Proofs.Ytffamppflelflaa
open Go.Proofs.Ytffamppflelflaa.Flo Go.RowKit

end Go.Proofs.Ytffamppflelflaa
