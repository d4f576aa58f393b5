
/- Sines of turns: the model's walk, and the law. -/
import Derived.Test.YtmfegjflaajkkaaFls
namespace Go.Proofs.Ytmfegjflaajkkaa
open Go.Proofs.Ytmfegjflaajkkaa.Flo Go.RowKit

end Go.Proofs.Ytmfegjflaajkkaa
