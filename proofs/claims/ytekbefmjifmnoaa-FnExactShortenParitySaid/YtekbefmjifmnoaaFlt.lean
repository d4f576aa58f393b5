
/- Sines of turns: the model's walk, and the law. -/
import Derived.Test.YtekbefmjifmnoaaFls
namespace Go.Proofs.Ytekbefmjifmnoaa
open Go.Proofs.Ytekbefmjifmnoaa.Flo Go.RowKit

end Go.Proofs.Ytekbefmjifmnoaa
