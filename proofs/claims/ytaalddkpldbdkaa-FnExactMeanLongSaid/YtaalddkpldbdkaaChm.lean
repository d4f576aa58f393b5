/- Channels: the laws' helpers. -/
import Derived.Test.YtaalddkpldbdkaaTbm
import Derived.Test.YtaalddkpldbdkaaTbw
import Derived.Test.YtaalddkpldbdkaaTuw
namespace Go.Proofs.Ytaalddkpldbdkaa
open Go.Proofs.Ytaalddkpldbdkaa.Flo Go.RowKit

end Go.Proofs.Ytaalddkpldbdkaa
