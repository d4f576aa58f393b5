
/- IsRow and EntropyOf: the laws' walks. -/
import Derived.Test.YteikedgdegaeiaaRwl
import Derived.Test.YteikedgdegaeiaaSlg
namespace Go.Proofs.Yteikedgdegaeiaa
open Go.Proofs.Yteikedgdegaeiaa.Flo Go.RowKit

theorem row_n {zs : List Nat} {n : Nat} (h : rowB zs n = true) : n ≤ 64 ∧ chS zs n = true := by
  unfold rowB at h
  rw [Bool.and_eq_true] at h
  have := of_decide_eq_true h.1
  exact ⟨by omega, h.2⟩
end Go.Proofs.Yteikedgdegaeiaa
