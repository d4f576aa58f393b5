
/- What the call has made: frozen cells, and structs that are stored anew. -/
import Derived.Test.YtjlifbnenngijaaDoorMgb
namespace Go.Proofs.YtjlifbnenngijaaDoor
open Go.Proofs.YtjlifbnenngijaaDoor.Flo Go.RowKit

def Frz (w : World) : List (Nat × Ent) → Prop
  | [] => True
  | (p, .vs [_, _, _]) :: L => (w.frozen? ⟨p, 0, none⟩ = false ∧ w.frozen? ⟨p, 1, none⟩ = false ∧ w.frozen? ⟨p, 2, none⟩ = false) ∧ Frz w L
  | (_, .vs _) :: L => Frz w L
  | (_, .fl _ _) :: L => Frz w L
  | (_, .il _ _) :: L => Frz w L
  | (_, .cl _ _) :: L => Frz w L
  | (_, .gv _ _) :: L => Frz w L
theorem frz_of {w : World} : ∀ {L : List (Nat × Ent)}, (∀ r ∈ L, r.2.ok w r.1) → Frz w L
  | [], _ => trivial
  | (p, e) :: L, h => by
    have ih := frz_of (fun r hr => h r (.tail _ hr))
    have h0 := h (p, e) (.head _)
    cases e with
    | fl n zs => exact ih
    | il n zs => exact ih
    | cl n V => exact ih
    | gv n f => exact ih
    | vs l =>
      match l with
      | [x, y, z] =>
        obtain ⟨_, h4⟩ := h0
        exact ⟨⟨(h4 0 (by decide : (0 : Nat) < 3)).2, (h4 1 (by decide : (1 : Nat) < 3)).2, (h4 2 (by decide : (2 : Nat) < 3)).2⟩, ih⟩
      | [] => exact ih
      | [_] => exact ih
      | [_, _] => exact ih
      | _ :: _ :: _ :: _ :: _ => exact ih
theorem Mine.frz {w0 w : World} {L : List (Nat × Ent)} (h : Mine w0 w L) : Frz w L := frz_of fun r hr => (h.2.1 r hr).2.2
theorem Mine.lt {w0 w : World} {L : List (Nat × Ent)} (h : Mine w0 w L) (p : Nat) (e : Ent) (hm : (p, e) ∈ L) : p < w.heap.size := (h.2.1 _ hm).2.1
theorem Mine.st3 {w0 w : World} {L : List (Nat × Ent)} {p : Nat} {x y z : Value} (h : Mine w0 w L) (x' y' z' : Value) (i : Nat) (hi : L[i]? = some (p, .vs [x, y, z])) :
    Mine w0 (((w.setCell ⟨p, 0, none⟩ x').setCell ⟨p, 1, none⟩ y').setCell ⟨p, 2, none⟩ z') (L.set i (p, .vs [x', y', z'])) := by
  have ho : (Ent.vs [x, y, z]).ok0 w p := (h.2.1 _ (List.mem_of_getElem? hi)).2.2
  have h0 := PM.start (.vs [x', y', z']) ho
  have h1 := h0.step (by decide : (0 : Nat) < 3) x' rfl
  have h2 := h1.step (by decide : (1 : Nat) < 3) y' rfl
  have h3 := h2.step (by decide : (2 : Nat) < 3) z' rfl
  exact h.mark (n := 3) hi rfl rfl trivial (fun _ _ h => h) h3
theorem Mine.part {w0 w : World} {L : List (Nat × Ent)} (h : Mine w0 w L) (L' : List (Nat × Ent)) (hs : ∀ r ∈ L', r ∈ L) (hn : (L.map (·.1)).Nodup → (L'.map (·.1)).Nodup) : Mine w0 w L' :=
  ⟨h.1, fun r hr => h.2.1 r (hs r hr), hn h.2.2⟩
end Go.Proofs.YtjlifbnenngijaaDoor
