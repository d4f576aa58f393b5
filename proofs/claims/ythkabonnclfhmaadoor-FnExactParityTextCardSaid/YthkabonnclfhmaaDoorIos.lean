
/- What the call has made, as facts that stay: structs with rows of ints of one content. -/
import Derived.Test.YthkabonnclfhmaaDoorMgb
import Derived.Test.YthkabonnclfhmaaDoorIow
import Derived.Test.YthkabonnclfhmaaDoorCdm
import Derived.Test.YthkabonnclfhmaaDoorCoy
namespace Go.Proofs.YthkabonnclfhmaaDoor
open Go.Proofs.YthkabonnclfhmaaDoor.Flo Go.RowKit

def BOwn (n : Nat) (zs : List Int) (w0 w : World) (L : List Nat) (B : List (Nat × List Value)) : Prop := IOwn n zs w0 w L ∧ ∀ r ∈ B, r.1 < w.heap.size ∧ ∀ i x, r.2[i]? = some x → w.cell? ⟨r.1, i, none⟩ = some x
theorem BOwn.nil (n : Nat) (zs : List Int) (w : World) : BOwn n zs w w [] [] := ⟨IOwn.nil _ _ _, (by intro r hr; cases hr)⟩
theorem BOwn.out {n : Nat} {zs : List Int} {w0 w : World} {L : List Nat} {B : List (Nat × List Value)} (h : BOwn n zs w0 w L B) : Below w0.heap.size w0 w := h.1.1
theorem BOwn.row {n : Nat} {zs : List Int} {w0 w : World} {L : List Nat} {B : List (Nat × List Value)} (h : BOwn n zs w0 w L B) {p : Nat} (hp : p ∈ L) : IRow w (some ⟨p, 0, none⟩) n zs := h.1.2 p hp
theorem BOwn.below {n : Nat} {zs : List Int} {w0 w w' : World} {L : List Nat} {B : List (Nat × List Value)} (h : BOwn n zs w0 w L B) (hb : Below w.heap.size w w') : BOwn n zs w0 w' L B :=
  ⟨h.1.below hb, fun r hr => ⟨Nat.lt_of_lt_of_le (h.2 r hr).1 hb.size, fun i x hx => by rw [hb.cell (p := ⟨r.1, i, none⟩) (h.2 r hr).1]; exact (h.2 r hr).2 i x hx⟩⟩
theorem BOwn.add {n : Nat} {zs : List Int} {w0 w : World} {L : List Nat} {B : List (Nat × List Value)} (h : BOwn n zs w0 w L B) {p : Nat} (he : IRow w (some ⟨p, 0, none⟩) n zs) : BOwn n zs w0 w (p :: L) B := ⟨h.1.add he, h.2⟩
theorem BOwn.drewN {n : Nat} {zs : List Int} {w0 w : World} {L : List Nat} {B : List (Nat × List Value)} (h : BOwn n zs w0 w L B) (q : Nat) : BOwn n zs w0 (w.drewN q) L B := h.below (Below.drewN' (Below.refl _ _) q)
theorem BOwn.drew {n : Nat} {zs : List Int} {w0 w : World} {L : List Nat} {B : List (Nat × List Value)} (h : BOwn n zs w0 w L B) : BOwn n zs w0 w.drew L B := by rw [World.drew_is_drewN]; exact h.drewN 1
theorem BOwn.box {n : Nat} {zs : List Int} {w0 w : World} {L : List Nat} {B : List (Nat × List Value)} (h : BOwn n zs w0 w L B) (l : List Value) (T : TypeId) : BOwn n zs w0 (w.alloc (.cells l.toArray T)) L ((w.heap.size, l) :: B) := by
  have h1 := h.below (belowI w (.cells l.toArray T))
  refine ⟨h1.1, fun r hr => ?_⟩
  cases hr with
  | head => exact ⟨by simp, fun i x hx => by rw [World.cell?_alloc_at _ _ _ _ rfl]; simpa using hx⟩
  | tail _ hr => exact h1.2 r hr
theorem BOwn.box1 {n : Nat} {zs : List Int} {w0 w : World} {L : List Nat} {B : List (Nat × List Value)} (h : BOwn n zs w0 w L B) (x : Value) (T : TypeId) : BOwn n zs w0 (w.alloc (.cells #[x] T)) L ((w.heap.size, [x]) :: B) := h.box [x] T
theorem BOwn.box2 {n : Nat} {zs : List Int} {w0 w : World} {L : List Nat} {B : List (Nat × List Value)} (h : BOwn n zs w0 w L B) (x y : Value) (T : TypeId) : BOwn n zs w0 (w.alloc (.cells #[x, y] T)) L ((w.heap.size, [x, y]) :: B) := h.box [x, y] T
/-- The cells of the structs, here and behind one block more. -/
def BF (w : World) : List (Nat × List Value) → Prop
  | [] => True
  | (p, [x]) :: r => (w.cell? ⟨p, 0, none⟩ = some x ∧ (∀ o, (w.alloc o).cell? ⟨p, 0, none⟩ = some x)) ∧ BF w r
  | (p, [x, y]) :: r => (w.cell? ⟨p, 0, none⟩ = some x ∧ w.cell? ⟨p, 1, none⟩ = some y ∧ (∀ o, (w.alloc o).cell? ⟨p, 0, none⟩ = some x) ∧ (∀ o, (w.alloc o).cell? ⟨p, 1, none⟩ = some y)) ∧ BF w r
  | _ :: r => BF w r
theorem bf_of {w : World} : ∀ {B : List (Nat × List Value)}, (∀ r ∈ B, r.1 < w.heap.size ∧ ∀ i x, r.2[i]? = some x → w.cell? ⟨r.1, i, none⟩ = some x) → BF w B
  | [], _ => trivial
  | (p, l) :: r, h => by
    have ih := bf_of (fun x hx => h x (.tail _ hx))
    obtain ⟨hp, hc⟩ := h _ (.head _)
    match l with
    | [] => exact ih
    | [x] => exact ⟨⟨hc 0 x rfl, fun o => (World.cell?_alloc_past _ _ _ hp).trans (hc 0 x rfl)⟩, ih⟩
    | [x, y] => exact ⟨⟨hc 0 x rfl, hc 1 y rfl, fun o => (World.cell?_alloc_past _ _ _ hp).trans (hc 0 x rfl), fun o => (World.cell?_alloc_past _ _ _ hp).trans (hc 1 y rfl)⟩, ih⟩
    | _ :: _ :: _ :: _ => exact ih
theorem BOwn.keep {n : Nat} {zs : List Int} {w0 w : World} {L : List Nat} {B : List (Nat × List Value)} (h : BOwn n zs w0 w L B) {P : Program} {f : FuncId} {args : Array Value} {E : Ending} (hc : Calls P f args w fun e w' => e = E ∧ Below w.heap.size w w') : Calls P f args w fun e w' => e = E ∧ BOwn n zs w0 w' L B := hc.mono fun _ _ q => ⟨q.1, h.below q.2⟩
theorem BOwn.facts {n : Nat} {zs : List Int} {w0 w : World} {L : List Nat} {B : List (Nat × List Value)} (h : BOwn n zs w0 w L B) : BF w B := bf_of h.2
theorem toCB (a : Option Addr) (n cap : Nat) (zs : List Int) (w w0 : World) (L : List Nat) (B : List (Nat × List Value)) (h : BOwn n zs w0 w L B) (ha : IRow w0 a n zs) (hn : n ≤ 1048576) :
    Calls Tryd.prog 37 #[.agg #[.slice a n cap]] w fun e w' => ∃ p, e = .returned (.agg #[.slice (some ⟨p, 0, none⟩) n n]) ∧ BOwn n zs w0 w' (p :: L) B := by
  refine (toCM a n cap zs w w [] (Mine.nil w) (ha.below h.out) hn).mono ?_
  rintro e w' ⟨p, he, hs⟩
  exact ⟨p, he, (h.below hs.out).add (hs.irow (by simp))⟩
set_option maxHeartbeats 2000000 in
theorem eqCB (p q n cap capb : Nat) (zs : List Int) (w w0 : World) (L : List Nat) (B : List (Nat × List Value)) (h : BOwn n zs w0 w L B) (h1 : p ∈ L) (h2 : q ∈ L) (hn : n ≤ 1048576) :
    Calls Tryd.prog 39 #[.agg #[.slice (some ⟨p, 0, none⟩) n cap], .agg #[.slice (some ⟨q, 0, none⟩) n capb]] w fun e w' => e = .returned (.bool true) ∧ BOwn n zs w0 w' L B := by
  have HA := Lib.hid (h.row h1)
  have HB := Lib.hid (h.row h2)
  have HS := Lib.hid h
  clear h1 h2 h
  go_enter Tryd.func39, Tryd.ntmps39
  go_wp2_with (first | (go_at_call 22; refine (eqI _ _ _ _ _ zs _ ((HA.out.alloc _).alloc _) ((HB.out.alloc _).alloc _) hn).mono ?_; rintro e w2 ⟨rfl, q, rfl⟩) | go_in)
  go_ret
  exact ⟨rfl, HS.out.below (by repeat (first | exact Below.refl _ _ | refine Below.drewN' ?_ _ | refine Below.alloc ?_ (by simp <;> omega) _))⟩
theorem toYB (r : Int) (a : Option Addr) (n cap : Nat) (zs : List Int) (w w0 : World) (L : List Nat) (B : List (Nat × List Value)) (h : BOwn n zs w0 w L B) (ha : IRow w0 a n zs) (hn : n ≤ 1048576) :
    Calls Tryd.prog 46 #[.agg #[.int .i64 r, .slice a n cap]] w fun e w' => ∃ p, e = .returned (.agg #[.int .i64 r, .slice (some ⟨p, 0, none⟩) n n]) ∧ BOwn n zs w0 w' (p :: L) B := by
  refine (toYM r a n cap zs w w [] (Mine.nil w) (ha.below h.out) hn).mono ?_
  rintro e w' ⟨p, he, hs⟩
  exact ⟨p, he, (h.below hs.out).add (hs.irow (by simp))⟩
set_option maxHeartbeats 2000000 in
theorem eqYB (r : Int) (p q n cap capb : Nat) (zs : List Int) (w w0 : World) (L : List Nat) (B : List (Nat × List Value)) (h : BOwn n zs w0 w L B) (h1 : p ∈ L) (h2 : q ∈ L) (hn : n ≤ 1048576) :
    Calls Tryd.prog 48 #[.agg #[.int .i64 r, .slice (some ⟨p, 0, none⟩) n cap], .agg #[.int .i64 r, .slice (some ⟨q, 0, none⟩) n capb]] w fun e w' => e = .returned (.bool true) ∧ BOwn n zs w0 w' L B := by
  have HA := Lib.hid (h.row h1)
  have HB := Lib.hid (h.row h2)
  have HS := Lib.hid h
  clear h1 h2 h
  go_enter Tryd.func48, Tryd.ntmps48
  go_wp2_with (first | (go_at_call 22; refine (eqI _ _ _ _ _ zs _ ((HA.out.alloc _).alloc _) ((HB.out.alloc _).alloc _) hn).mono ?_; rintro e w2 ⟨rfl, q, rfl⟩) | go_in)
  go_ret
  exact ⟨rfl, HS.out.below (by repeat (first | exact Below.refl _ _ | refine Below.drewN' ?_ _ | refine Below.alloc ?_ (by simp <;> omega) _))⟩
end Go.Proofs.YthkabonnclfhmaaDoor
