/- Sines of turns: the model's walk, and the law. -/
import Derived.Test.YtaalddkpldbdkaaFls
namespace Go.Proofs.Ytaalddkpldbdkaa
open Go.Proofs.Ytaalddkpldbdkaa.Flo Go.RowKit

end Go.Proofs.Ytaalddkpldbdkaa
