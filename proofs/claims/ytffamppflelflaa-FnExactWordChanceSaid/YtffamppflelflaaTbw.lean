/- Tables: how one is opened; the laws of ValidTable and TableEntropy. -/
import Derived.Test.YtffamppflelflaaTbl
import Derived.Test.YtffamppflelflaaSlo
import Derived.Test.YtffamppflelflaaIro
import Derived.Deep.Strs
namespace Go.Proofs.Ytffamppflelflaa
open Go.Proofs.Ytffamppflelflaa.Flo Go.RowKit

end Go.Proofs.Ytffamppflelflaa
