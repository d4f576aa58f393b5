/- Sines of turns: the model's walk, and the law. -/
import Derived.Test.YtmklgnjacbcfeaaFls
namespace Go.Proofs.Ytmklgnjacbcfeaa
open Go.Proofs.Ytmklgnjacbcfeaa.Flo Go.RowKit

end Go.Proofs.Ytmklgnjacbcfeaa
