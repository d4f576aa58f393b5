
/- Parities: ValidParity, the program's. -/
import Derived.Test.YtkmggoagboikgaaDoorPry
namespace Go.Proofs.YtkmggoagboikgaaDoor
open Go.Proofs.YtkmggoagboikgaaDoor.Flo Go.RowKit Go.Proofs.YtkmggoagboikgaaDoor.Pr

theorem woP_wide {zs : List Int} {n m : Nat} (h : woP zs n m) (hm : m ≤ 16) : woP zs n 16 := by
  intro k hk
  have h1 := h k hk
  have := (p2_16 hm).2
  have e : (2 : Int) ^ 16 = 65536 := by decide
  rw [e]
  omega
theorem wi_out {r : Int} (h : 1 ≤ r ∧ r ≤ 16) : wiB r = true := decide_eq_true h
theorem wi_no {r : Int} (h : ¬ (1 ≤ r ∧ r ≤ 16)) : wiB r = false := decide_eq_false h
end Go.Proofs.YtkmggoagboikgaaDoor
