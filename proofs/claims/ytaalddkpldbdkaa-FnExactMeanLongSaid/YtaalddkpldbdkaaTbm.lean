/- Tables among what is the call's own: the laws' helpers. -/
import Derived.Test.YtaalddkpldbdkaaRpa
namespace Go.Proofs.Ytaalddkpldbdkaa
open Go.Proofs.Ytaalddkpldbdkaa.Flo Go.RowKit

end Go.Proofs.Ytaalddkpldbdkaa
