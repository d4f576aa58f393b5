
/- ValidDesk: the functions. -/
import Derived.Test.YtjlifbnenngijaaDoorDko
import Derived.Test.YtjlifbnenngijaaDoorBts
namespace Go.Proofs.YtjlifbnenngijaaDoor
open Go.Proofs.YtjlifbnenngijaaDoor.Flo Go.RowKit Go.Proofs.YtjlifbnenngijaaDoor.Pr

/-- The cells of a desk. -/
def Din (w : World) (p : Nat) (v0 v1 v2 v3 v4 : Value) : Prop :=
  p < w.heap.size ∧ w.cell? ⟨p, 0, none⟩ = some v0 ∧ w.cell? ⟨p, 1, none⟩ = some v1 ∧ w.cell? ⟨p, 2, none⟩ = some v2 ∧ w.cell? ⟨p, 3, none⟩ = some v3 ∧ w.cell? ⟨p, 4, none⟩ = some v4
theorem Din.below {w w' : World} {p : Nat} {v0 v1 v2 v3 v4 : Value} (h : Din w p v0 v1 v2 v3 v4) (hb : Below w.heap.size w w') : Din w' p v0 v1 v2 v3 v4 := by
  obtain ⟨hp, h0, h1, h2, h3, h4⟩ := h
  exact ⟨Nat.lt_of_lt_of_le hp hb.size, (hb.cell (p := ⟨p, 0, none⟩) hp).trans h0, (hb.cell (p := ⟨p, 1, none⟩) hp).trans h1, (hb.cell (p := ⟨p, 2, none⟩) hp).trans h2, (hb.cell (p := ⟨p, 3, none⟩) hp).trans h3, (hb.cell (p := ⟨p, 4, none⟩) hp).trans h4⟩
theorem Din.new (w : World) (v0 v1 v2 v3 v4 : Value) (T : TypeId) : Din (w.alloc (.cells #[v0, v1, v2, v3, v4] T)) w.heap.size v0 v1 v2 v3 v4 :=
  ⟨by simp, by rw [World.cell?_alloc_at _ _ _ _ rfl]; rfl, by rw [World.cell?_alloc_at _ _ _ _ rfl]; rfl, by rw [World.cell?_alloc_at _ _ _ _ rfl]; rfl, by rw [World.cell?_alloc_at _ _ _ _ rfl]; rfl, by rw [World.cell?_alloc_at _ _ _ _ rfl]; rfl⟩
def bsB (s : ByteArray) : Bool := decide (s.size ≤ 64) && bitsB s
def dkB (z1 : List Nat) (n1 : Nat) (z2 : List Int) (n2 : Nat) (r : Int) (z3 : List Int) (n3 : Nat) (s : ByteArray) : Bool := rowB z1 n1 && (codeB z2 n2 && (paB r z3 n3 && bsB s))
/-- A desk, its rows of the world. -/
structure DkIn (w : World) (a1 : Option Addr) (n1 : Nat) (z1 : List Nat) (a2 : Option Addr) (n2 : Nat) (z2 : List Int) (a3 : Option Addr) (n3 : Nat) (z3 : List Int) (s : ByteArray) : Prop where
  f1 : FRow w a1 n1 z1
  i2 : IRow w a2 n2 z2
  i3 : IRow w a3 n3 z3
  l1 : n1 ≤ 1048576
  l2 : n2 ≤ 1048576
  l3 : n3 ≤ 1048576
  ls : s.size ≤ 1048576
theorem DkIn.below {w w' : World} {a1 : Option Addr} {n1 : Nat} {z1 : List Nat} {a2 : Option Addr} {n2 : Nat} {z2 : List Int} {a3 : Option Addr} {n3 : Nat} {z3 : List Int} {s : ByteArray} (h : DkIn w a1 n1 z1 a2 n2 z2 a3 n3 z3 s) (hb : Below w.heap.size w w') : DkIn w' a1 n1 z1 a2 n2 z2 a3 n3 z3 s :=
  ⟨h.f1.below hb, h.i2.below hb, h.i3.below hb, h.l1, h.l2, h.l3, h.ls⟩
end Go.Proofs.YtjlifbnenngijaaDoor
