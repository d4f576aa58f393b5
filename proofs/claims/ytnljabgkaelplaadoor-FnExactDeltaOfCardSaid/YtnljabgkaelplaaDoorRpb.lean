
/- RowPart: walks. -/
import Derived.Test.YtnljabgkaelplaaDoorRpa
namespace Go.Proofs.YtnljabgkaelplaaDoor
open Go.Proofs.YtnljabgkaelplaaDoor.Flo Go.RowKit

/-- Whether a table has a row part. -/
def okRP (r c : Int) (zs : List Nat) (n : Nat) : Bool := tabB r c zs n && rowV (rowsV zs c.toNat) r.toNat
theorem tab_nat {r c : Int} {zs : List Nat} {n : Nat} (h : tabB r c zs n = true) : ∃ R C : Nat, r = (R : Int) ∧ c = (C : Int) ∧ n = R * C ∧ (1 ≤ R ∧ R ≤ 8) ∧ (1 ≤ C ∧ C ≤ 8) := by
  obtain ⟨h1, h2, h3, _, _⟩ := tab_out h
  refine ⟨r.toNat, c.toNat, by omega, by omega, ?_, by omega, by omega⟩
  have e1 : r = (r.toNat : Int) := by omega
  have e2 : c = (c.toNat : Int) := by omega
  rw [e1, e2, ← Int.natCast_mul] at h3
  exact Int.ofNat.inj h3
theorem FRow.some {w : World} {a : Option Addr} {n : Nat} {zs : List Nat} (h : FRow w a n zs) (hn : 0 < n) : ∃ b off, a = Option.some ⟨b, off, none⟩ := by
  rcases h.2 with h0 | ⟨b, off, e, _⟩
  · omega
  · exact ⟨b, off, e⟩
end Go.Proofs.YtnljabgkaelplaaDoor
