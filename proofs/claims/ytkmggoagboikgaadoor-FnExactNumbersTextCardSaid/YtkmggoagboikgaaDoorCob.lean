
/- Structs of an int and a row of ints: what the laws' helpers share. -/
import Derived.Test.YtkmggoagboikgaaDoorCdm
namespace Go.Proofs.YtkmggoagboikgaaDoor
open Go.Proofs.YtkmggoagboikgaaDoor.Flo Go.RowKit

theorem Mine.alloc2 {w0 w : World} {L : List (Nat × Ent)} (h : Mine w0 w L) (x y : Value) (T : TypeId) : Mine w0 (w.alloc (.cells #[x, y] T)) ((w.heap.size, .vs [x, y]) :: L) :=
  h.push ((Below.refl _ _).alloc (Nat.le_refl _) _) (Nat.le_refl _) (by simp) (Ent.vs_new w [x, y] T)
/-- The cells of the structs of two fields, here and behind one block more. -/
def Facts2 (w : World) : List (Nat × Ent) → Prop
  | [] => True
  | (p, .vs [x, y]) :: L => (w.cell? ⟨p, 0, none⟩ = some x ∧ w.cell? ⟨p, 1, none⟩ = some y ∧ (∀ o, (w.alloc o).cell? ⟨p, 0, none⟩ = some x) ∧ (∀ o, (w.alloc o).cell? ⟨p, 1, none⟩ = some y) ∧ w.frozen? ⟨p, 0, none⟩ = false ∧ w.frozen? ⟨p, 1, none⟩ = false) ∧ Facts2 w L
  | (_, .vs _) :: L => Facts2 w L
  | (_, .fl _ _) :: L => Facts2 w L
  | (_, .il _ _) :: L => Facts2 w L
  | (_, .cl _ _) :: L => Facts2 w L
  | (_, .gv _ _) :: L => Facts2 w L
theorem facts2_of {w : World} : ∀ {L : List (Nat × Ent)}, (∀ r ∈ L, r.1 < w.heap.size ∧ r.2.ok w r.1) → Facts2 w L
  | [], _ => trivial
  | (p, e) :: L, h => by
    have ih := facts2_of (fun r hr => h r (.tail _ hr))
    have h0 := h (p, e) (.head _)
    cases e with
    | fl n zs => exact ih
    | il n zs => exact ih
    | cl n V => exact ih
    | gv n f => exact ih
    | vs l =>
      match l with
      | [x, y] =>
        obtain ⟨hp, _, h4⟩ := h0
        have k0 := h4 0 (by decide : (0 : Nat) < 2)
        have k1 := h4 1 (by decide : (1 : Nat) < 2)
        exact ⟨⟨k0.1, k1.1, fun o => (World.cell?_alloc_past _ _ _ hp).trans k0.1, fun o => (World.cell?_alloc_past _ _ _ hp).trans k1.1, k0.2, k1.2⟩, ih⟩
      | [] => exact ih
      | [_] => exact ih
      | _ :: _ :: _ :: _ => exact ih
theorem Mine.facts2 {w0 w : World} {L : List (Nat × Ent)} (h : Mine w0 w L) : Facts2 w L := facts2_of fun r hr => (h.2.1 r hr).2
end Go.Proofs.YtkmggoagboikgaaDoor
