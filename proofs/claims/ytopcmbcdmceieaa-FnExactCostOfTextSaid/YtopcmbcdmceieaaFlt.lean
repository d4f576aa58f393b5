/- Sines of turns: the model's walk, and the law. -/
import Derived.Test.YtopcmbcdmceieaaFls
namespace Go.Proofs.Ytopcmbcdmceieaa
open Go.Proofs.Ytopcmbcdmceieaa.Flo Go.RowKit

end Go.Proofs.Ytopcmbcdmceieaa
