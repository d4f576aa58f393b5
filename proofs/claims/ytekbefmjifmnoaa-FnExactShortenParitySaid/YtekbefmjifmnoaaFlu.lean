
/- The sine of turns: the law. -/
import Derived.Test.YtekbefmjifmnoaaFlt
namespace Go.Proofs.Ytekbefmjifmnoaa
open Go.Proofs.Ytekbefmjifmnoaa.Flo Go.RowKit

end Go.Proofs.Ytekbefmjifmnoaa
