/- JointOf: the functions. -/
import Derived.Test.YtffamppflelflaaThw
namespace Go.Proofs.Ytffamppflelflaa
open Go.Proofs.Ytffamppflelflaa.Flo Go.RowKit

/-- The products of a row and of what comes out. -/
def prodN (zr zc : List Nat) (C j : Nat) : Nat := (floatBits .mul .f32 (zr.getD (j / C) 0) (zc.getD j 0)).getD 0
def jointV (zr zc : List Nat) (C j : Nat) : Option Nat := cls .f32 (prodN zr zc C j)
theorem at_div' {i k C : Nat} (hk : k < C) : (i * C + k) / C = i := by
  rw [Nat.mul_comm, Nat.mul_add_div (by omega), Nat.div_eq_of_lt hk, Nat.add_zero]
theorem joint_op {zr zc : List Nat} {R C i k : Nat} (hr : rowB zr R = true) (hc : rowsB zc R C = true) (hi : i < R) (hk : k < C) : floatBits .mul .f32 (zr.getD i 0) (zc.getD (i * C + k) 0) = some (prodN zr zc C (i * C + k)) := by
  obtain ⟨p, hp, _⟩ := floatBits_pos (row_num hr hi).1 (row_num' hc hi hk).1 (row_num hr hi).2 (row_num' hc hi hk).2
  unfold prodN
  rw [at_div' hk, hp]; rfl
theorem rows_grown {w w' : World} {row : Option Nat} {g b off R C : Nat} (hg : w.grownBy w' row) (hne : some g ≠ row) (h : RowsAt w g b off R C) : RowsAt w' g b off R C :=
  ⟨Nat.lt_of_lt_of_le h.1 hg.size, fun i hi => by rw [World.cell?_of_block (a := ⟨g, i, none⟩) (hg.block g h.1 hne)]; exact h.2 i hi⟩
theorem rows_far' {w : World} {g b off R C : Nat} (h : RowsAt w g b off R C) {p : Addr} (hp : p.block ≠ g) (v : Value) : RowsAt (w.setCell p v) g b off R C :=
  ⟨by rw [World.size_setCell]; exact h.1, fun i hi => by rw [World.cell?_setCell_far _ _ _ _ hp]; exact h.2 i hi⟩
def okJo (r c : Int) (zc : List Nat) (n : Nat) (zr : List Nat) (m : Nat) : Bool := takeB r c zc n zr m && chV (jointV zr zc c.toNat) n
theorem tab_V2 {R C n : Nat} {zr : List Nat} {V : Nat → Option Nat} (hR : 1 ≤ R ∧ R ≤ 8) (hC : 1 ≤ C ∧ C ≤ 8) (hn : n = R * C) (h : ∀ i, i < n → cls .f32 (zr.getD i 0) = V i) : tabB (R : Int) (C : Int) zr n = chV V n :=
  tab_V hC hR (by rw [hn, Nat.mul_comm]) h
end Go.Proofs.Ytffamppflelflaa
