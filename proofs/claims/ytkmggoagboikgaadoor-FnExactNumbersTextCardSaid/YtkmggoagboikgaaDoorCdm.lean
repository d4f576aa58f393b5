
/- Codes: the laws' helpers. -/
import Derived.Test.YtkmggoagboikgaaDoorMgb
import Derived.Deep.Strs
import Derived.ChangeSame
namespace Go.Proofs.YtkmggoagboikgaaDoor
open Go.Proofs.YtkmggoagboikgaaDoor.Flo Go.RowKit

theorem Mine.alloc1 {w0 w : World} {L : List (Nat × Ent)} (h : Mine w0 w L) (x : Value) (T : TypeId) : Mine w0 (w.alloc (.cells #[x] T)) ((w.heap.size, .vs [x]) :: L) :=
  h.push ((Below.refl _ _).alloc (Nat.le_refl _) _) (Nat.le_refl _) (by simp) (Ent.vs_new w [x] T)
theorem belowA (w : World) (o : Obj) : Below w.heap.size w (w.alloc o) := (Below.refl _ _).alloc (Nat.le_refl _) o
/-- The cells of the structs of one field, here and behind one block more. -/
def Facts1 (w : World) : List (Nat × Ent) → Prop
  | [] => True
  | (p, .vs [x]) :: L => (w.cell? ⟨p, 0, none⟩ = some x ∧ (∀ o, (w.alloc o).cell? ⟨p, 0, none⟩ = some x) ∧ w.frozen? ⟨p, 0, none⟩ = false) ∧ Facts1 w L
  | (_, .vs _) :: L => Facts1 w L
  | (_, .fl _ _) :: L => Facts1 w L
  | (_, .il _ _) :: L => Facts1 w L
  | (_, .cl _ _) :: L => Facts1 w L
  | (_, .gv _ _) :: L => Facts1 w L
theorem facts1_of {w : World} : ∀ {L : List (Nat × Ent)}, (∀ r ∈ L, r.1 < w.heap.size ∧ r.2.ok w r.1) → Facts1 w L
  | [], _ => trivial
  | (p, e) :: L, h => by
    have ih := facts1_of (fun r hr => h r (.tail _ hr))
    have h0 := h (p, e) (.head _)
    cases e with
    | fl n zs => exact ih
    | il n zs => exact ih
    | cl n V => exact ih
    | gv n f => exact ih
    | vs l =>
      match l with
      | [x] =>
        obtain ⟨hp, _, h4⟩ := h0
        have k0 := h4 0 (by decide : (0 : Nat) < 1)
        exact ⟨⟨k0.1, fun o => (World.cell?_alloc_past _ _ _ hp).trans k0.1, k0.2⟩, ih⟩
      | [] => exact ih
      | _ :: _ :: _ => exact ih
theorem Mine.facts1 {w0 w : World} {L : List (Nat × Ent)} (h : Mine w0 w L) : Facts1 w L := facts1_of fun r hr => (h.2.1 r hr).2
theorem IRow.setCell {w : World} {a : Option Addr} {n : Nat} {zs : List Int} (h : IRow w a n zs) {p : Addr} (v : Value) (hp : ∀ b, a = some b → b.block ≠ p.block) : IRow (w.setCell p v) a n zs := by
  obtain ⟨hl, h⟩ := h
  refine ⟨hl, ?_⟩
  rcases h with h | ⟨b, off, ha, hb, hc⟩
  · exact .inl h
  · refine .inr ⟨b, off, ha, by rw [World.size_setCell]; exact hb, fun i hi => ?_⟩
    rw [World.cell?_setCell_other (h := fun e => hp _ ha (by first | exact congrArg Addr.block e | exact (congrArg Addr.block e).symm))]; exact hc i hi
theorem IRow.new' {w : World} {zs : List Int} {n p : Nat} (h : zs.length = n) (hp : p = w.heap.size) (e : TypeId) : IRow (w.alloc (.cells (il zs) e)) (some ⟨p, 0, none⟩) n zs := by
  subst hp; exact IRow.new h e
end Go.Proofs.YtkmggoagboikgaaDoor
