
/- Mixtures: the model's and the program's. -/
import Derived.Test.YthkabonnclfhmaaDoorFrw
import Derived.Deep.RegionHeld3
import Derived.Deep.AppendLies
namespace Go.Proofs.YthkabonnclfhmaaDoor
open Go.Proofs.YthkabonnclfhmaaDoor.Flo Go.RowKit

/-- A number of a mixture. -/
def mixN (sh x y : Nat) : Nat := (vop .add .f32 (vop .mul .f32 (vop .sub .f32 (some one32) (cls .f32 sh)) (cls .f32 x)) (vop .mul .f32 (cls .f32 sh) (cls .f32 y))).getD 0
def mixL (sh : Nat) (za zb : List Nat) (n : Nat) : List Nat := (List.range n).map fun k => mixN sh (za.getD k 0) (zb.getD k 0)
theorem mixL_len (sh : Nat) (za zb : List Nat) (n : Nat) : (mixL sh za zb n).length = n := by simp [mixL]
theorem mixL_get (sh : Nat) (za zb : List Nat) {n k : Nat} (h : k < n) : (mixL sh za zb n).getD k 0 = mixN sh (za.getD k 0) (zb.getD k 0) := by
  simp [mixL, List.getD_eq_getElem?_getD, h]
theorem vle_some {E : Int} {a : Option Nat} (h : VLe .f32 E a) (hc : ∀ b, a = some b → cls .f32 b = some b) : ∃ b, a = some b ∧ cls .f32 b = some b := by
  obtain ⟨b, rfl, _⟩ := h
  exact ⟨b, rfl, hc b rfl⟩
theorem vop_some' {op : BinOp} {k : FloatKind} {a c : Option Nat} {b : Nat} (h : vop op k a c = some b) : cls k b = some b := by
  cases a with
  | none => cases h
  | some x => cases c with
    | none => cases h
    | some y => exact cls_of_not (floatBits_notNaN (op := op) (x := x) (y := y) h)
theorem cls_self {x : Nat} {E : Int} (h : VLe .f32 E (cls .f32 x)) : cls .f32 x = some x := by
  obtain ⟨b, hb, _⟩ := h
  obtain ⟨rfl, _⟩ := cls_some hb
  exact hb
/-- The operations of a mixture give numbers. -/
theorem mix_ops {sh x y : Nat} (hs : VLe .f32 0 (cls .f32 sh)) (hx : VLe .f32 1 (cls .f32 x)) (hy : VLe .f32 1 (cls .f32 y)) :
    ∃ p1 p2 p3, floatBits .sub .f32 1065353216 sh = some p1 ∧ floatBits .mul .f32 p1 x = some p2 ∧ floatBits .mul .f32 sh y = some p3 ∧ floatBits .add .f32 p2 p3 = some (mixN sh x y) ∧ VLe .f32 4 (cls .f32 (mixN sh x y)) := by
  have hone : VLe .f32 0 (cls .f32 one32) := by
    rw [cls_one32]
    exact ⟨_, rfl, by rw [dec_one32]; exact leN_of 23 (by decide) (by decide) (by decide)⟩
  have cs := cls_self hs
  have cx := cls_self hx
  have cy := cls_self hy
  have h1 := vsub_le hone hs (show Norm .f32 (max 0 0 + 1) from ⟨by decide, by decide⟩)
  have h2 := vmul_le h1 hx (show Norm .f32 (max 0 0 + 1 + 1) from ⟨by decide, by decide⟩)
  have h3 := vmul_le hs hy (show Norm .f32 (0 + 1) from ⟨by decide, by decide⟩)
  have h4 := vadd_le h2 h3 (show Norm .f32 (max (max 0 0 + 1 + 1) (0 + 1) + 1) from ⟨by decide, by decide⟩)
  obtain ⟨p1, e1, _⟩ := h1
  obtain ⟨p2, e2, _⟩ := h2
  obtain ⟨p3, e3, _⟩ := h3
  have h4' := h4
  obtain ⟨p4, e4, _⟩ := h4
  have hm : mixN sh x y = p4 := by
    unfold mixN
    rw [← cls_one32, e4]; rfl
  refine ⟨p1, p2, p3, ?_, ?_, ?_, ?_, ?_⟩
  · rw [cls_one32, cs] at e1; exact e1
  · rw [e1, cx] at e2; exact e2
  · rw [cs, cy] at e3; exact e3
  · rw [hm]; rw [e2, e3] at e4; exact e4
  · rw [hm, vop_some' e4]; rw [e4] at h4'; exact h4'.mono (by decide)

/-- What a row of the call's own is, as cells. -/
theorem own_row {w : World} {base : Nat} {e : TypeId} {v : Value} {n : Nat} {zs : List Nat} (h : w.ownsRow base e 1 v n (zs.map (Value.float .f32))) (hn : n ≠ 0) :
    ∃ g cap, v = .slice (some ⟨g, 0, none⟩) n cap ∧ base ≤ g ∧ g < w.heap.size ∧ FRow w (some ⟨g, 0, none⟩) n zs ∧ ∀ j, j < n → w.frozen? ⟨g, j, none⟩ = false := by
  obtain ⟨hl, h⟩ := h
  rcases h with ⟨_, h0⟩ | ⟨g, cap, cur, rfl, hg, hh, hnc, _, hcs, ht⟩
  · exact absurd h0 hn
  · have hlen : zs.length = n := by simpa using hl
    rw [Nat.mul_one] at ht hcs
    have hgl : g < w.heap.size := (Array.getElem?_eq_some_iff.1 hh).1
    have hcell : ∀ i, i < n → w.cell? ⟨g, i, none⟩ = cur[i]? := fun i hi => by
      unfold World.cell?
      rw [Array.getElem?_eq_getElem hgl] at hh
      injection hh with hh
      simp [hgl, hh]
    refine ⟨g, cap, rfl, hg, hgl, ⟨hlen, .inr ⟨g, 0, rfl, hgl, fun i hi => ?_⟩⟩, fun j hj => ?_⟩
    · rw [Nat.zero_add, hcell i hi]
      have h1 : cur[i]? = cur.toList[i]? := by simp
      rw [h1]
      have h2 : (cur.toList.take n)[i]? = cur.toList[i]? := by rw [List.getElem?_take]; simp [hi]
      rw [← h2, ht]
      rw [List.getElem?_map, List.getD_eq_getElem?_getD, List.getElem?_eq_getElem (by omega)]; rfl
    · unfold World.frozen?
      rw [Array.getElem?_eq_getElem hgl] at hh
      injection hh with hh
      simp [hgl, hh]
theorem mix_take (sh : Nat) (za zb : List Nat) {n k : Nat} (h : k < n) : ((mixL sh za zb n).take (k + 1)).map (Value.float .f32) = ((mixL sh za zb n).take k).map (Value.float .f32) ++ [.float .f32 (mixN sh (za.getD k 0) (zb.getD k 0))] := by
  have hl := mixL_len sh za zb n
  rw [List.take_succ_eq_append_getElem (by omega), List.map_append]
  have : (mixL sh za zb n)[k]'(by omega) = mixN sh (za.getD k 0) (zb.getD k 0) := by
    have := mixL_get sh za zb h
    rw [List.getD_eq_getElem?_getD, List.getElem?_eq_getElem (by omega)] at this
    exact this
  rw [← this]; rfl
theorem own_empty (w : World) (T : TypeId) : (w.alloc (.cells #[] T)).ownsRow w.heap.size T 1 (.slice (some ⟨w.heap.size, 0, none⟩) 0 0) 0 [] :=
  ⟨rfl, .inr ⟨w.heap.size, 0, #[], rfl, Nat.le_refl _, heap_alloc_new w _, Nat.le_refl _, Nat.zero_le _, rfl, rfl⟩⟩
theorem own_block {w : World} {base : Nat} {e : TypeId} {v : Value} {n : Nat} {xs : List Value} (h : w.ownsRow base e 1 v n xs) : ∀ k, v.ownBlock = some k → base ≤ k := by
  intro k hk
  rcases h.2 with ⟨rfl, _⟩ | ⟨g, cap, cur, rfl, hg, _⟩
  · cases hk
  · injection hk with hk
    subst hk; exact hg
end Go.Proofs.YthkabonnclfhmaaDoor
