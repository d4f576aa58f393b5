
/- What the call has made, as facts that stay: Saved. -/
import Derived.Test.YtnljabgkaelplaaSvw
namespace Go.Proofs.Ytnljabgkaelplaa
open Go.Proofs.Ytnljabgkaelplaa.Flo Go.RowKit

inductive SE
  | sv (p q n m : Nat) (f : Nat → Bool) (zs : List Nat)
  | bx (p : Nat) (x y z : Value)
def SE.ok (w : World) : SE → Prop
  | .sv p q n m f zs => BRow w (some ⟨p, 0, none⟩) n f ∧ FRow w (some ⟨q, 0, none⟩) m zs
  | .bx p x y z => p < w.heap.size ∧ w.cell? ⟨p, 0, none⟩ = some x ∧ w.cell? ⟨p, 1, none⟩ = some y ∧ w.cell? ⟨p, 2, none⟩ = some z
theorem SE.ok.below {w w' : World} {e : SE} (h : e.ok w) (hb : Below w.heap.size w w') : e.ok w' := by
  cases e with
  | sv p q n m f zs => exact ⟨h.1.below hb, h.2.below hb⟩
  | bx p x y z =>
    obtain ⟨h0, h1, h2, h3⟩ := h
    exact ⟨Nat.lt_of_lt_of_le h0 hb.size, by rw [hb.cell (p := ⟨p, 0, none⟩) h0]; exact h1, by rw [hb.cell (p := ⟨p, 1, none⟩) h0]; exact h2, by rw [hb.cell (p := ⟨p, 2, none⟩) h0]; exact h3⟩
def Owv (w0 w : World) (L : List SE) : Prop := Below w0.heap.size w0 w ∧ ∀ e ∈ L, e.ok w
theorem Owv.nil (w : World) : Owv w w [] := ⟨Below.refl _ _, (by intro r hr; cases hr)⟩
theorem Owv.out {w0 w : World} {L : List SE} (h : Owv w0 w L) : Below w0.heap.size w0 w := h.1
theorem Owv.below {w0 w w' : World} {L : List SE} (h : Owv w0 w L) (hb : Below w.heap.size w w') : Owv w0 w' L := ⟨Below.next h.1 hb, fun e he => (h.2 e he).below hb⟩
theorem Owv.add {w0 w : World} {L : List SE} (h : Owv w0 w L) {e : SE} (he : e.ok w) : Owv w0 w (e :: L) := ⟨h.1, fun x hx => by cases hx with
  | head => exact he
  | tail _ hx => exact h.2 x hx⟩
theorem Owv.drewN {w0 w : World} {L : List SE} (h : Owv w0 w L) (q : Nat) : Owv w0 (w.drewN q) L := h.below (Below.drewN' (Below.refl _ _) q)
theorem Owv.drew {w0 w : World} {L : List SE} (h : Owv w0 w L) : Owv w0 w.drew L := by rw [World.drew_is_drewN]; exact h.drewN 1
theorem Owv.box {w0 w : World} {L : List SE} (h : Owv w0 w L) (x y z : Value) (T : TypeId) : Owv w0 (w.alloc (.cells #[x, y, z] T)) (.bx w.heap.size x y z :: L) :=
  (h.below (belowA _ _)).add (e := .bx w.heap.size x y z) ⟨by simp, by rw [World.cell?_alloc_at _ _ _ _ rfl]; rfl, by rw [World.cell?_alloc_at _ _ _ _ rfl]; rfl, by rw [World.cell?_alloc_at _ _ _ _ rfl]; rfl⟩
/-- The cells of the structs, here and behind one block more. -/
def VFacts (w : World) : List SE → Prop
  | [] => True
  | .bx p x y z :: L => (w.cell? ⟨p, 0, none⟩ = some x ∧ w.cell? ⟨p, 1, none⟩ = some y ∧ w.cell? ⟨p, 2, none⟩ = some z ∧ (∀ o, (w.alloc o).cell? ⟨p, 0, none⟩ = some x) ∧ (∀ o, (w.alloc o).cell? ⟨p, 1, none⟩ = some y) ∧ (∀ o, (w.alloc o).cell? ⟨p, 2, none⟩ = some z)) ∧ VFacts w L
  | .sv _ _ _ _ _ _ :: L => VFacts w L
theorem vfacts_of {w : World} : ∀ {L : List SE}, (∀ e ∈ L, e.ok w) → VFacts w L
  | [], _ => trivial
  | e :: L, h => by
    have ih := vfacts_of (fun r hr => h r (.tail _ hr))
    have h0 := h e (.head _)
    cases e with
    | sv p q n m f zs => exact ih
    | bx p x y z =>
      obtain ⟨hp, h1, h2, h3⟩ := h0
      exact ⟨⟨h1, h2, h3, fun o => (World.cell?_alloc_past _ _ _ hp).trans h1, fun o => (World.cell?_alloc_past _ _ _ hp).trans h2, fun o => (World.cell?_alloc_past _ _ _ hp).trans h3⟩, ih⟩
theorem Owv.facts {w0 w : World} {L : List SE} (h : Owv w0 w L) : VFacts w L := vfacts_of h.2
theorem toVO (s : ByteArray) (a : Option Addr) (n cap : Nat) (f : Nat → Bool) (b : Option Addr) (m capb : Nat) (zs : List Nat) (w w0 : World) (L : List SE) (h : Owv w0 w L) (ha : BRow w0 a n f) (hb : FRow w0 b m zs) (hn : n ≤ 1048576) (hm : m ≤ 1048576) :
    Calls Try.prog 10 #[.agg #[.string s, .slice a n cap, .slice b m capb]] w fun e w' => ∃ p q, e = .returned (.agg #[.string s, .slice (some ⟨p, 0, none⟩) n n, .slice (some ⟨q, 0, none⟩) m m]) ∧ Owv w0 w' (.sv p q n m f zs :: L) := by
  refine (toV s a n cap f b m capb zs w (ha.below h.1) (hb.below h.1) hn hm).mono ?_
  rintro e w' ⟨p, q, he, h1, h2, h3⟩
  exact ⟨p, q, he, (h.below h3).add (e := .sv p q n m f zs) ⟨h1, h2⟩⟩
theorem eqVO (s : ByteArray) (p p2 q q2 n m cap cap2 capb capb2 : Nat) (f : Nat → Bool) (zs : List Nat) (w w0 : World) (L : List SE) (h : Owv w0 w L) (h1 : SE.sv p q n m f zs ∈ L) (h2 : SE.sv p2 q2 n m f zs ∈ L) (hn : n ≤ 1048576) (hm : m ≤ 1048576) :
    Calls Try.prog 12 #[.agg #[.string s, .slice (some ⟨p, 0, none⟩) n cap, .slice (some ⟨q, 0, none⟩) m capb], .agg #[.string s, .slice (some ⟨p2, 0, none⟩) n cap2, .slice (some ⟨q2, 0, none⟩) m capb2]] w fun e w' => e = .returned (.bool true) ∧ Owv w0 w' L := by
  refine (eqV s _ _ n cap cap2 f _ _ m capb capb2 zs w (h.2 _ h1).1 (h.2 _ h2).1 (h.2 _ h1).2 (h.2 _ h2).2 hn hm).mono ?_
  rintro e w' ⟨he, hb⟩
  exact ⟨he, h.below hb⟩
theorem szVO (s : ByteArray) (a : Option Addr) (n cap : Nat) (b : Option Addr) (m capb : Nat) (w w0 : World) (L : List SE) (h : Owv w0 w L) (hz : s.size + n + m ≤ 1048576) :
    Calls Try.prog 8 #[.agg #[.string s, .slice a n cap, .slice b m capb], .int .i64 1048576] w fun e w' => e = .returned (.int .i64 (1048576 - (s.size : Int) - n - m)) ∧ Owv w0 w' L := by
  refine (szV9 s a n cap b m capb w (by omega) (by omega) (by omega)).mono ?_
  rintro e w' ⟨he, hb⟩
  refine ⟨?_, h.below hb⟩
  rw [he]; unfold svV; rw [if_pos hz]
theorem vsO_impl (s : ByteArray) (p q n m cap capb : Nat) (f : Nat → Bool) (zs : List Nat) (w w0 : World) (L : List SE) (h : Owv w0 w L) (h1 : SE.sv p q n m f zs ∈ L) (hs : s.size ≤ 1048576) (hn : n ≤ 1048576) (hm : m ≤ 1048576) :
    Calls Try.prog 45 #[.agg #[.string s, .slice (some ⟨p, 0, none⟩) n cap, .slice (some ⟨q, 0, none⟩) m capb]] w fun e w' => e = .returned (.bool (svB s n zs m)) ∧ Owv w0 w' L :=
  (vs_impl s _ n cap _ m capb zs w hs (h.2 _ h1).2 hn hm).mono fun _ _ q => ⟨q.1, h.below q.2⟩
end Go.Proofs.Ytnljabgkaelplaa
