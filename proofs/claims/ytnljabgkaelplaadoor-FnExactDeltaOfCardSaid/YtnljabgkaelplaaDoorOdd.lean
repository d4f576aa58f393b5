
/- The words that a word has an odd number of digits in common with. -/
import Derived.Test.YtnljabgkaelplaaDoorWgt
namespace Go.Proofs.YtnljabgkaelplaaDoor
open Go.Proofs.YtnljabgkaelplaaDoor.Flo Go.RowKit Go.Proofs.YtnljabgkaelplaaDoor.Pr

def od (z : Nat → Nat) (x : Nat) : Nat → Nat
  | 0 => 0
  | j + 1 => od z x j ||| (wt (z j &&& x) % 2) * 2 ^ j
theorem od_lt (z : Nat → Nat) (x : Nat) : ∀ j, od z x j < 2 ^ j
  | 0 => Nat.one_pos
  | j + 1 => by
    have h1 := od_lt z x j
    have h2 : (wt (z j &&& x) % 2) * 2 ^ j < 2 ^ (j + 1) := by
      have : wt (z j &&& x) % 2 ≤ 1 := by omega
      have := Nat.mul_le_mul_right (2 ^ j) this
      have := Nat.two_pow_pos j
      rw [Nat.pow_succ]; omega
    exact Nat.or_lt_two_pow (Nat.lt_of_lt_of_le h1 (Nat.pow_le_pow_right (by decide) (by omega))) h2
theorem od_yes {z : Nat → Nat} {x j : Nat} (h : wt (z j &&& x) % 2 = 1) : od z x (j + 1) = od z x j ||| 2 ^ j := by
  show od z x j ||| _ = _
  rw [h, Nat.one_mul]
theorem od_no {z : Nat → Nat} {x j : Nat} (h : ¬ wt (z j &&& x) % 2 = 1) : od z x (j + 1) = od z x j := by
  show od z x j ||| _ = _
  rw [show wt (z j &&& x) % 2 = 0 by omega, Nat.zero_mul, Nat.or_zero]
theorem od_congr {z z' : Nat → Nat} {x : Nat} : ∀ {n : Nat}, (∀ j, j < n → z j = z' j) → od z x n = od z' x n
  | 0, _ => rfl
  | n + 1, h => by
    show od z x n ||| _ = od z' x n ||| _
    rw [od_congr (n := n) (fun j hj => h j (by omega)), h n (by omega)]
theorem two_cast (j : Nat) : ((2 ^ j : Nat) : Int) = (2 : Int) ^ j := by rw [Int.natCast_pow]; rfl
end Go.Proofs.YtnljabgkaelplaaDoor
