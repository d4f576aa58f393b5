
/- What is alive: the rows of numbers that a world holds, and the laws' helpers in these words. -/
import Derived.Test.YtekbefmjifmnoaaRww
import Derived.Test.YtekbefmjifmnoaaSlg
namespace Go.Proofs.Ytekbefmjifmnoaa
open Go.Proofs.Ytekbefmjifmnoaa.Flo Go.RowKit

/-- Slices and the numbers that they lead to. -/
def Live (w : World) (L : List (Option Addr × Nat × List Nat)) : Prop := ∀ r ∈ L, FRow w r.1 r.2.1 r.2.2
theorem Live.get {w : World} {L : List (Option Addr × Nat × List Nat)} {a : Option Addr} {n : Nat} {zs : List Nat} (h : Live w L) (hm : (a, n, zs) ∈ L) : FRow w a n zs := h _ hm
theorem Live.below {w w' : World} {L : List (Option Addr × Nat × List Nat)} (h : Live w L) (b : Below w.heap.size w w') : Live w' L := fun r hr => (h r hr).below b
theorem Live.nil (w : World) : Live w [] := fun _ h => nomatch h
theorem Live.cons {w : World} {L : List (Option Addr × Nat × List Nat)} {a : Option Addr} {n : Nat} {zs : List Nat} (h : Live w L) (hr : FRow w a n zs) : Live w ((a, n, zs) :: L) := by
  intro r hm
  cases hm with
  | head => exact hr
  | tail _ hm => exact h r hm
theorem Below.next {w w1 w2 : World} (h : Below w.heap.size w w1) (h2 : Below w1.heap.size w1 w2) : Below w.heap.size w w2 := h.trans (h2.mono h.size)

theorem Live.drewN {w : World} {L : List (Option Addr × Nat × List Nat)} (h : Live w L) (q : Nat) : Live (w.drewN q) L := h
theorem Below.ofDrewN {w w' : World} {q : Nat} (h : Below (w.drewN q).heap.size (w.drewN q) w') : Below w.heap.size w w' := Below.trans (Below.drewN' (Below.refl _ _) q) h

end Go.Proofs.Ytekbefmjifmnoaa
