
/- What the call has made, as facts that stay. -/
import Derived.Test.YtmfegjflaajkkaaGrk
namespace Go.Proofs.Ytmfegjflaajkkaa
open Go.Proofs.Ytmfegjflaajkkaa.Flo Go.RowKit

/-- What has been made: a graph's copy, bits, a struct of two cells. -/
inductive OE
  | gr (p n : Nat) (Ln : Nat → Nat) (Z : Nat → List Int)
  | bx (p : Nat) (x y : Value)
  | bt (p n : Nat) (f : Nat → Bool)
def OE.ok (w : World) : OE → Prop
  | .gr p n Ln Z => GRow w (some ⟨p, 0, none⟩) n (gA p) Ln Ln Z
  | .bx p x y => Kin w p x y
  | .bt p n f => BRow w (some ⟨p, 0, none⟩) n f
theorem OE.ok.below {w w' : World} {e : OE} (h : e.ok w) (hb : Below w.heap.size w w') : e.ok w' := by
  cases e with
  | gr p n Ln Z => exact GRow.below h hb
  | bx p x y => exact Kin.below h hb
  | bt p n f => exact BRow.below h hb
def Own (w0 w : World) (L : List OE) : Prop := Below w0.heap.size w0 w ∧ ∀ e ∈ L, e.ok w
theorem Own.nil (w : World) : Own w w [] := ⟨Below.refl _ _, (by intro r hr; cases hr)⟩
theorem Own.out {w0 w : World} {L : List OE} (h : Own w0 w L) : Below w0.heap.size w0 w := h.1
theorem Own.below {w0 w w' : World} {L : List OE} (h : Own w0 w L) (hb : Below w.heap.size w w') : Own w0 w' L := ⟨Below.next h.1 hb, fun e he => (h.2 e he).below hb⟩
theorem Own.add {w0 w : World} {L : List OE} (h : Own w0 w L) {e : OE} (he : e.ok w) : Own w0 w (e :: L) := ⟨h.1, fun x hx => by cases hx with
  | head => exact he
  | tail _ hx => exact h.2 x hx⟩
theorem Own.drewN {w0 w : World} {L : List OE} (h : Own w0 w L) (q : Nat) : Own w0 (w.drewN q) L := h.below (Below.drewN' (Below.refl _ _) q)
theorem Own.drew {w0 w : World} {L : List OE} (h : Own w0 w L) : Own w0 w.drew L := by rw [World.drew_is_drewN]; exact h.drewN 1
theorem Own.box {w0 w : World} {L : List OE} (h : Own w0 w L) (x y : Value) (T : TypeId) : Own w0 (w.alloc (.cells #[x, y] T)) (.bx w.heap.size x y :: L) := (h.below (belowA _ _)).add (e := .bx w.heap.size x y) Kin.new
theorem Own.keep {w0 W : World} {L : List OE} {P : Program} {f : FuncId} {args : Array Value} {Q : Ending → World → Prop} (h : Own w0 W L) (c : Calls P f args W Q) : Calls P f args W (fun e w' => Q e w' ∧ Own w0 W L) := c.mono fun _ _ q => ⟨q, h⟩
theorem Own.gr {w0 w : World} {L : List OE} {p n : Nat} {Ln : Nat → Nat} {Z : Nat → List Int} (h : Own w0 w L) (hm : OE.gr p n Ln Z ∈ L) : GRow w (some ⟨p, 0, none⟩) n (gA p) Ln Ln Z := h.2 _ hm
theorem Own.bt {w0 w : World} {L : List OE} {p n : Nat} {f : Nat → Bool} (h : Own w0 w L) (hm : OE.bt p n f ∈ L) : BRow w (some ⟨p, 0, none⟩) n f := h.2 _ hm
/-- The cells of the structs, here and behind one block more. -/
def OFacts (w : World) : List OE → Prop
  | [] => True
  | .bx p x y :: L => (w.cell? ⟨p, 0, none⟩ = some x ∧ w.cell? ⟨p, 1, none⟩ = some y ∧ (∀ o, (w.alloc o).cell? ⟨p, 0, none⟩ = some x) ∧ (∀ o, (w.alloc o).cell? ⟨p, 1, none⟩ = some y)) ∧ OFacts w L
  | .gr _ _ _ _ :: L => OFacts w L
  | .bt _ _ _ :: L => OFacts w L
theorem ofacts_of {w : World} : ∀ {L : List OE}, (∀ e ∈ L, e.ok w) → OFacts w L
  | [], _ => trivial
  | e :: L, h => by
    have ih := ofacts_of (fun r hr => h r (.tail _ hr))
    have h0 := h e (.head _)
    cases e with
    | gr p n Ln Z => exact ih
    | bt p n f => exact ih
    | bx p x y =>
      obtain ⟨hp, h1, h2, _, _⟩ := h0
      exact ⟨⟨h1, h2, fun o => (World.cell?_alloc_past _ _ _ hp).trans h1, fun o => (World.cell?_alloc_past _ _ _ hp).trans h2⟩, ih⟩
theorem Own.facts {w0 w : World} {L : List OE} (h : Own w0 w L) : OFacts w L := ofacts_of h.2
theorem toGO (r : Int) (a : Option Addr) (n cap : Nat) (A : Nat → Option Addr) (Ln Cp : Nat → Nat) (Z : Nat → List Int) (w w0 : World) (L : List OE) (h : Own w0 w L) (ha : GRow w0 a n A Ln Cp Z) (hn : n + gtot Ln n ≤ 1048576) :
    Calls Try.prog 41 #[.agg #[.int .i64 r, .slice a n cap]] w fun e w' => ∃ p, e = .returned (.agg #[.int .i64 r, .slice (some ⟨p, 0, none⟩) n n]) ∧ Own w0 w' (.gr p n Ln Z :: L) := by
  refine (toG r a n cap A Ln Cp Z w (ha.below h.1) hn).mono ?_
  rintro e w' ⟨p, he, hg, hb⟩
  exact ⟨p, he, (h.below hb).add (e := .gr p n Ln Z) hg⟩
theorem toBO (a : Option Addr) (n cap : Nat) (f : Nat → Bool) (w w0 : World) (L : List OE) (h : Own w0 w L) (ha : BRow w0 a n f) (hn : n ≤ 1048576) :
    Calls Try.prog 27 #[.slice a n cap] w fun e w' => ∃ p, e = .returned (.slice (some ⟨p, 0, none⟩) n n) ∧ Own w0 w' (.bt p n f :: L) := by
  refine (toB a n cap f w (ha.below h.1) hn).mono ?_
  rintro e w' ⟨he, rfl⟩
  refine ⟨_, he, (h.below (belowA _ _)).add (e := .bt w.heap.size n f) (.inr ⟨w.heap.size, 0, rfl, by simp, fun i hi => ?_⟩)⟩
  rw [Nat.zero_add, World.cell?_alloc_at _ _ _ _ rfl]; exact mixB_get f hi
theorem eqGO (r : Int) (p q n cap capb : Nat) (Ln : Nat → Nat) (Z : Nat → List Int) (w w0 : World) (L : List OE) (h : Own w0 w L) (ha : OE.gr p n Ln Z ∈ L) (hb : OE.gr q n Ln Z ∈ L) (hn : n + gtot Ln n ≤ 1048576) :
    Calls Try.prog 43 #[.agg #[.int .i64 r, .slice (some ⟨p, 0, none⟩) n cap], .agg #[.int .i64 r, .slice (some ⟨q, 0, none⟩) n capb]] w fun e w' => e = .returned (.bool true) ∧ Own w0 w' L := by
  refine (eqG r _ _ n cap capb (gA p) (gA q) Ln Ln Ln Z w (h.gr ha) (h.gr hb) hn).mono ?_
  rintro e w' ⟨he, hd⟩
  exact ⟨he, h.below hd⟩
theorem eqBO (p q n cap capb : Nat) (f : Nat → Bool) (w w0 : World) (L : List OE) (h : Own w0 w L) (ha : OE.bt p n f ∈ L) (hb : OE.bt q n f ∈ L) (hn : n ≤ 1048576) :
    Calls Try.prog 29 #[.slice (some ⟨p, 0, none⟩) n cap, .slice (some ⟨q, 0, none⟩) n capb] w fun e w' => e = .returned (.bool true) ∧ Own w0 w' L := by
  refine (eqB _ _ n cap capb f w (h.bt ha) (h.bt hb) hn).mono ?_
  rintro e w' ⟨he, d⟩
  exact ⟨he, h.below d.below⟩
theorem szGO (r : Int) (a : Option Addr) (n cap : Nat) (left : Int) (A : Nat → Option Addr) (Ln Cp : Nat → Nat) (Z : Nat → List Int) (w w0 : World) (L : List OE) (h : Own w0 w L) (ha : GRow w0 a n A Ln Cp Z) (hx : n ≤ 9223372036854775807) (hy : ∀ k, k < n → Ln k ≤ 9223372036854775807) (hn : (n : Int) + gtot Ln n ≤ left) (hl : left ≤ 1048576) :
    Calls Try.prog 39 #[.agg #[.int .i64 r, .slice a n cap], .int .i64 left] w fun e w' => e = .returned (.int .i64 (left - n - gtot Ln n)) ∧ Own w0 w' L := by
  refine (szG r a n cap left A Ln Cp Z w (ha.below h.1) hx hy (by omega) hl).mono ?_
  rintro e w' ⟨he, hb⟩
  refine ⟨?_, h.below hb⟩
  rw [he]; unfold gzV; rw [if_pos hn]
theorem gz_yes {Ln : Nat → Nat} {n : Nat} {left : Int} (h : (n : Int) + gtot Ln n ≤ left) : gzV Ln n left = left - n - gtot Ln n := by unfold gzV; rw [if_pos h]
theorem gz_no {Ln : Nat → Nat} {n : Nat} {left : Int} (h : ¬ (n : Int) + gtot Ln n ≤ left) : gzV Ln n left = -1 := by unfold gzV; rw [if_neg h]
end Go.Proofs.Ytmfegjflaajkkaa
