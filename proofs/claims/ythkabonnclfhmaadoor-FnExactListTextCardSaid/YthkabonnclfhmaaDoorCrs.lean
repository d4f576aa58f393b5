
/- Two rows: covers, CrossEntropy. -/
import Derived.Test.YthkabonnclfhmaaDoorRwi
import Derived.Test.YthkabonnclfhmaaDoorLiv
namespace Go.Proofs.YthkabonnclfhmaaDoor
open Go.Proofs.YthkabonnclfhmaaDoor.Flo Go.RowKit

/-- Two rows of the same length. -/
def twoB (za zb : List Nat) (n m : Nat) : Bool := rowB za n && rowB zb m && decide (n = m)
theorem two_out {za zb : List Nat} {n m : Nat} (h : twoB za zb n m = true) : n = m ∧ n ≤ 32 ∧ chS za n = true ∧ chS zb n = true ∧ rowB za n = true ∧ rowB zb n = true := by
  unfold twoB at h
  rw [Bool.and_eq_true, Bool.and_eq_true] at h
  obtain ⟨⟨h1, h2⟩, h3⟩ := h
  have h3 := of_decide_eq_true h3
  subst h3
  refine ⟨rfl, ?_, (row_n h1).2, (row_n h2).2, h1, h2⟩
  unfold rowB at h1
  rw [Bool.and_eq_true] at h1
  exact (of_decide_eq_true h1.1).2
/-- No chance of b is 0 where that of a is not. -/
def covB (za zb : List Nat) (n : Nat) : Bool := decide (∀ k, k < n → (zeroB (za.getD k 0) || !zeroB (zb.getD k 0)) = true)
end Go.Proofs.YthkabonnclfhmaaDoor
