
/- Letters that come to the front: the functions on lists. -/
import Derived.Test.YthjijfghbchhpaaFri
namespace Go.Proofs.Ythjijfghbchhpaa
open Go.Proofs.Ythjijfghbchhpaa.Flo Go.RowKit

def letB (zs : List Int) (m : Nat) (n : Int) : Bool := decide (letP zs n m) && decide (m ≤ 512)
theorem okF_eq (zs : List Int) (m : Nat) (n : Int) : okF zs m n = (decide (1 ≤ n ∧ n ≤ 16) && letB zs m n) := by
  unfold okF letB
  rw [Bool.and_comm (decide (m ≤ 512))]
theorem own_drewN {w : World} {base : Nat} {e : TypeId} {v : Value} {n : Nat} {xs : List Value} (h : w.ownsRow base e 1 v n xs) (q : Nat) : (w.drewN q).ownsRow base e 1 v n xs := h
theorem cell_alc {w : World} {b i : Nat} {v : Value} (h : w.cell? ⟨b, i, none⟩ = some v) (hb : b < w.heap.size) (o : Obj) : (w.alloc o).cell? ⟨b, i, none⟩ = some v := (World.cell?_alloc_past _ _ _ hb).trans h
theorem cell_alq {w : World} {b i : Nat} {v : Value} (h : w.cell? ⟨b, i, none⟩ = some v) (hb : b < w.heap.size) (q : Nat) (o : Obj) : ((w.drewN q).alloc o).cell? ⟨b, i, none⟩ = some v := cell_alc (w := w.drewN q) h hb o
theorem own_rowF {w : World} {base : Nat} {e : TypeId} {g n cap : Nat} {S : List Int} (h : w.ownsRow base e 1 (.slice (some ⟨g, 0, none⟩) n cap) n (S.map (Value.int .i64))) : IRow w (some ⟨g, 0, none⟩) n S :=
  ⟨by simpa using h.1, .inr ⟨g, 0, rfl, (own_lt h).2, fun i hi => by rw [Nat.zero_add]; exact own_cell h hi⟩⟩
theorem Try.size64 : (Try.prog.info? 2).map (·.size) = some 1 := by kernel_rfl
end Go.Proofs.Ythjijfghbchhpaa
