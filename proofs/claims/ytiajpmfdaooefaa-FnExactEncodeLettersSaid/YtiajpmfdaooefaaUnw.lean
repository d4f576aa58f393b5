/- UnaryOf: the functions and the law. -/
import Derived.Test.YtiajpmfdaooefaaRep
import Derived.Test.YtiajpmfdaooefaaIro
import Derived.Test.YtiajpmfdaooefaaCdv
namespace Go.Proofs.Ytiajpmfdaooefaa
open Go.Proofs.Ytiajpmfdaooefaa.Flo Go.RowKit

def okU (n : Int) : Bool := decide (1 ≤ n ∧ n ≤ 512)
theorem okU_out {n : Int} (h : okU n = true) : ∃ N : Nat, n = ((N + 1 : Nat) : Int) ∧ N < 512 := by
  have h := of_decide_eq_true h
  exact ⟨(n - 1).toNat, by omega, by omega⟩
theorem okU_no {n : Int} (h : okU n = false) : ¬ (1 ≤ n ∧ n ≤ 512) := of_decide_eq_false h
end Go.Proofs.Ytiajpmfdaooefaa
