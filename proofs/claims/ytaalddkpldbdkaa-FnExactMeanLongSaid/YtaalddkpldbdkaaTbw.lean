/- Tables: how one is opened; the laws of ValidTable and TableEntropy. -/
import Derived.Test.YtaalddkpldbdkaaTbl
import Derived.Test.YtaalddkpldbdkaaSlo
import Derived.Test.YtaalddkpldbdkaaIro
import Derived.Deep.Strs
namespace Go.Proofs.Ytaalddkpldbdkaa
open Go.Proofs.Ytaalddkpldbdkaa.Flo Go.RowKit

end Go.Proofs.Ytaalddkpldbdkaa
