
/- Sums of 32-bit numbers: walks. -/
import Derived.Test.YthkabonnclfhmaaDoorSlf
namespace Go.Proofs.YthkabonnclfhmaaDoor
open Go.Proofs.YthkabonnclfhmaaDoor.Flo Go.RowKit

/-- The class of the sum of the first k. -/
def vsum (zs : List Nat) : Nat → Option Nat
  | 0 => cls .f32 0
  | k + 1 => vop .add .f32 (vsum zs k) (cls .f32 (zs.getD k 0))
theorem FRow.new' {w : World} {zs : List Nat} {n b : Nat} (h : zs.length = n) (hb : b = w.heap.size) (e : TypeId) : FRow (w.alloc (.cells (fl zs) e)) (some ⟨b, 0, none⟩) n zs := by
  subst hb; exact FRow.new h e
theorem Below.drewN' {B : Nat} {a w : World} (h : Below B a w) (n : Nat) : Below B a (w.drewN n) := ⟨h.os, h.tape, h.output, h.size, h.block⟩
end Go.Proofs.YthkabonnclfhmaaDoor
