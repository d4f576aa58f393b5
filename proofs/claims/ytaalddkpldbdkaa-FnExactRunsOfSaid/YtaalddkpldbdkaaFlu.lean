/- The sine of turns: the law. -/
import Derived.Test.YtaalddkpldbdkaaFlt
namespace Go.Proofs.Ytaalddkpldbdkaa
open Go.Proofs.Ytaalddkpldbdkaa.Flo Go.RowKit

end Go.Proofs.Ytaalddkpldbdkaa
