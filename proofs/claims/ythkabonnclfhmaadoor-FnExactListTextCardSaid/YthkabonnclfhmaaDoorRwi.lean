
/- IsRow and EntropyOf: the laws' walks. -/
import Derived.Test.YthkabonnclfhmaaDoorRwl
import Derived.Test.YthkabonnclfhmaaDoorSlg
namespace Go.Proofs.YthkabonnclfhmaaDoor
open Go.Proofs.YthkabonnclfhmaaDoor.Flo Go.RowKit

theorem row_n {zs : List Nat} {n : Nat} (h : rowB zs n = true) : n ≤ 64 ∧ chS zs n = true := by
  unfold rowB at h
  rw [Bool.and_eq_true] at h
  have := of_decide_eq_true h.1
  exact ⟨by omega, h.2⟩
end Go.Proofs.YthkabonnclfhmaaDoor
