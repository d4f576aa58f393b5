/- Sines of turns: the model's walk, and the law. -/
import Derived.Test.YtgdcpohdejbhaaaFls
namespace Go.Proofs.Ytgdcpohdejbhaaa
open Go.Proofs.Ytgdcpohdejbhaaa.Flo Go.RowKit

end Go.Proofs.Ytgdcpohdejbhaaa
