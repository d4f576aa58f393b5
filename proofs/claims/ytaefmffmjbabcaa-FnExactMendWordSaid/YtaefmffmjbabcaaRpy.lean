
/- RepeatParity: the functions. -/
import Derived.Test.YtaefmffmjbabcaaPig
namespace Go.Proofs.Ytaefmffmjbabcaa
open Go.Proofs.Ytaefmffmjbabcaa.Flo Go.RowKit Go.Proofs.Ytaefmffmjbabcaa.Pr

/-- What is returned in a struct of two cells. -/
def YPost (r : Int) (n : Nat) (L : List Int) (w : World) (e : Ending) (w' : World) : Prop :=
  ∃ g cp, e = .returned (.tuple #[.agg #[.int .i64 r, .slice (some ⟨g, 0, none⟩) n cp], .bool true]) ∧ New w w' g (.il n L)
def YNone (w : World) (e : Ending) (w' : World) : Prop :=
  e = .returned (.tuple #[.agg #[.int .i64 0, .slice none 0 0], .bool false]) ∧ Below w.heap.size w w'
theorem rp_ok {m : Nat} (h1 : 1 ≤ m) (h2 : m ≤ 16) : paB (m : Int) [(2 : Int) ^ m - 1] 1 = true := by
  have hp := p2_16 h2
  have h2m : (2 : Int) ≤ 2 ^ m := by
    have : 2 ^ 1 ≤ 2 ^ m := Nat.pow_le_pow_right (by decide) h1
    have e : ((2 ^ m : Nat) : Int) = 2 ^ m := by rw [Int.natCast_pow]; rfl
    rw [← e]
    have : 2 ≤ 2 ^ m := this
    omega
  rw [pa_end (by omega) (by omega) (fun k hk => by
    obtain rfl : k = 0 := by omega
    rw [Int.toNat_natCast]
    show 0 ≤ (2 : Int) ^ m - 1 ∧ (2 : Int) ^ m - 1 < 2 ^ m
    omega)]
  refine decide_eq_true (fun k hk => ?_)
  obtain rfl : k = 0 := by omega
  show ((2 : Int) ^ m - 1).toNat ≠ 0
  omega
end Go.Proofs.Ytaefmffmjbabcaa
