
/- What the call has made, as facts that stay: rows of ints of one content. -/
import Derived.Test.YthkabonnclfhmaaDoorMgb
namespace Go.Proofs.YthkabonnclfhmaaDoor
open Go.Proofs.YthkabonnclfhmaaDoor.Flo Go.RowKit

theorem belowI (w : World) (o : Obj) : Below w.heap.size w (w.alloc o) := (Below.refl _ _).alloc (Nat.le_refl _) o
def IOwn (n : Nat) (zs : List Int) (w0 w : World) (L : List Nat) : Prop := Below w0.heap.size w0 w ∧ ∀ p ∈ L, IRow w (some ⟨p, 0, none⟩) n zs
theorem IOwn.nil (n : Nat) (zs : List Int) (w : World) : IOwn n zs w w [] := ⟨Below.refl _ _, (by intro r hr; cases hr)⟩
theorem IOwn.out {n : Nat} {zs : List Int} {w0 w : World} {L : List Nat} (h : IOwn n zs w0 w L) : Below w0.heap.size w0 w := h.1
theorem IOwn.below {n : Nat} {zs : List Int} {w0 w w' : World} {L : List Nat} (h : IOwn n zs w0 w L) (hb : Below w.heap.size w w') : IOwn n zs w0 w' L := ⟨Below.next h.1 hb, fun e he => (h.2 e he).below hb⟩
theorem IOwn.add {n : Nat} {zs : List Int} {w0 w : World} {L : List Nat} (h : IOwn n zs w0 w L) {p : Nat} (he : IRow w (some ⟨p, 0, none⟩) n zs) : IOwn n zs w0 w (p :: L) := ⟨h.1, fun x hx => by cases hx with
  | head => exact he
  | tail _ hx => exact h.2 x hx⟩
theorem IOwn.drewN {n : Nat} {zs : List Int} {w0 w : World} {L : List Nat} (h : IOwn n zs w0 w L) (q : Nat) : IOwn n zs w0 (w.drewN q) L := h.below (Below.drewN' (Below.refl _ _) q)
theorem IOwn.drew {n : Nat} {zs : List Int} {w0 w : World} {L : List Nat} (h : IOwn n zs w0 w L) : IOwn n zs w0 w.drew L := by rw [World.drew_is_drewN]; exact h.drewN 1
theorem toIO (a : Option Addr) (n cap : Nat) (zs : List Int) (w w0 : World) (L : List Nat) (h : IOwn n zs w0 w L) (ha : IRow w0 a n zs) (hn : n ≤ 1048576) :
    Calls Tryd.prog 20 #[.slice a n cap] w fun e w' => ∃ p, e = .returned (.slice (some ⟨p, 0, none⟩) n n) ∧ IOwn n zs w0 w' (p :: L) := by
  refine (toI a n cap zs w (ha.below h.1) hn).mono ?_
  rintro e w' ⟨he, rfl⟩
  exact ⟨_, he, (h.below (belowI _ _)).add (IRow.new ha.1 _)⟩
theorem eqIO (p q n cap capb : Nat) (zs : List Int) (w w0 : World) (L : List Nat) (h : IOwn n zs w0 w L) (h1 : p ∈ L) (h2 : q ∈ L) (hn : n ≤ 1048576) :
    Calls Tryd.prog 22 #[.slice (some ⟨p, 0, none⟩) n cap, .slice (some ⟨q, 0, none⟩) n capb] w fun e w' => e = .returned (.bool true) ∧ IOwn n zs w0 w' L := by
  refine (eqI _ _ n cap capb zs w (h.2 _ h1) (h.2 _ h2) hn).mono ?_
  rintro e w' ⟨he, hd⟩
  exact ⟨he, h.below hd.below⟩
end Go.Proofs.YthkabonnclfhmaaDoor
