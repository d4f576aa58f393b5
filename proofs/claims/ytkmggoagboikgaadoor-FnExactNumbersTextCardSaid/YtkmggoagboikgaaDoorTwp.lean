
/- (without floats) Structs of two cells in the making; rows of ints that are cloned, and into which is stored. -/
import Derived.Test.YtkmggoagboikgaaDoorCob
import Derived.Test.YtkmggoagboikgaaDoorTbl
import Derived.Deep.RegionLaw
namespace Go.Proofs.YtkmggoagboikgaaDoor
open Go.Proofs.YtkmggoagboikgaaDoor.Flo Go.RowKit

theorem IRow.cell' {w : World} {a : Option Addr} {n : Nat} {zs : List Int} (h : IRow w a n zs) {k : Nat} (hk : k < n) : ∃ b off, a = some ⟨b, off, none⟩ ∧ b < w.heap.size ∧ w.cell? ⟨b, off + k, none⟩ = some (.int .i64 (zs.getD k 0)) := by
  rcases h.2 with h0 | ⟨b, o, rfl, hb, hc⟩
  · omega
  · exact ⟨b, o, rfl, hb, hc k hk⟩
theorem val_i {a b : Int} (h : a = b) : Value.int .i64 a = .int .i64 b := by rw [h]
theorem own_cell {w : World} {base : Nat} {e : TypeId} {g n cap j : Nat} {S : List Int} (h : w.ownsRow base e 1 (.slice (some ⟨g, 0, none⟩) n cap) n (S.map (Value.int .i64))) (hj : j < n) : w.cell? ⟨g, j, none⟩ = some (.int .i64 (S.getD j 0)) := by
  have hl : S.length = n := by simpa using h.1
  rw [h.cellAt j (by omega), List.getElem?_map, List.getD_eq_getElem?_getD, List.getElem?_eq_getElem (by omega)]; rfl
theorem own_irowF {w : World} {base : Nat} {e : TypeId} {v : Value} {n : Nat} {zs : List Int} (h : w.ownsRow base e 1 v n (zs.map (Value.int .i64))) (hn : n ≠ 0) :
    ∃ g cap, v = .slice (some ⟨g, 0, none⟩) n cap ∧ base ≤ g ∧ g < w.heap.size ∧ IRow w (some ⟨g, 0, none⟩) n zs ∧ ∀ j, j < n → w.frozen? ⟨g, j, none⟩ = false := by
  obtain ⟨g, cap, rfl, hg, hgl⟩ := World.ownsRow.form h (by omega)
  have hl : zs.length = n := by simpa using h.1
  exact ⟨g, cap, rfl, hg, hgl, ⟨hl, .inr ⟨g, 0, rfl, hgl, fun i hi => by rw [Nat.zero_add]; exact own_cell h hi⟩⟩, fun j _ => h.frozenAt j⟩
/-- A struct of two cells. -/
def Kin (w : World) (p : Nat) (x y : Value) : Prop :=
  p < w.heap.size ∧ w.cell? ⟨p, 0, none⟩ = some x ∧ w.cell? ⟨p, 1, none⟩ = some y ∧ w.frozen? ⟨p, 0, none⟩ = false ∧ w.frozen? ⟨p, 1, none⟩ = false
theorem Kin.below {w w' : World} {p : Nat} {x y : Value} (h : Kin w p x y) (hb : Below w.heap.size w w') : Kin w' p x y := by
  obtain ⟨hp, h0, h1, f0, f1⟩ := h
  exact ⟨Nat.lt_of_lt_of_le hp hb.size, (hb.cell (p := ⟨p, 0, none⟩) hp).trans h0, (hb.cell (p := ⟨p, 1, none⟩) hp).trans h1, (hb.frozen (p := ⟨p, 0, none⟩) hp).trans f0, (hb.frozen (p := ⟨p, 1, none⟩) hp).trans f1⟩
theorem Kin.grown {w w' : World} {row : Option Nat} {p : Nat} {x y : Value} (hg : w.grownBy w' row) (hne : some p ≠ row) (h : Kin w p x y) : Kin w' p x y := by
  obtain ⟨hp, h0, h1, f0, f1⟩ := h
  have hb := hg.block p hp hne
  refine ⟨Nat.lt_of_lt_of_le hp hg.size, ?_, ?_, ?_, ?_⟩
  · rw [World.cell?_of_block (a := ⟨p, 0, none⟩) hb]; exact h0
  · rw [World.cell?_of_block (a := ⟨p, 1, none⟩) hb]; exact h1
  · rw [World.frozen?_of_block (a := ⟨p, 0, none⟩) hb]; exact f0
  · rw [World.frozen?_of_block (a := ⟨p, 1, none⟩) hb]; exact f1
theorem Kin.set {w : World} {p : Nat} {x y : Value} (h : Kin w p x y) (y' : Value) : Kin (w.setCell ⟨p, 1, none⟩ y') p x y' := by
  obtain ⟨hp, h0, h1, f0, f1⟩ := h
  refine ⟨by rw [World.size_setCell]; exact hp, ?_, ?_, ?_, ?_⟩
  · rw [World.cell?_setCell_other (h := fun e => by injection e with _ e2 _; exact absurd e2 (by decide))]; exact h0
  · rw [World.cell?_setCell_same (h := h1)]
  · rw [World.frozen?_setCell]; exact f0
  · rw [World.frozen?_setCell]; exact f1
theorem Kin.set0 {w : World} {p : Nat} {x y : Value} (h : Kin w p x y) (x' : Value) : Kin (w.setCell ⟨p, 0, none⟩ x') p x' y := by
  obtain ⟨hp, h0, h1, f0, f1⟩ := h
  refine ⟨by rw [World.size_setCell]; exact hp, ?_, ?_, ?_, ?_⟩
  · rw [World.cell?_setCell_same (h := h0)]
  · rw [World.cell?_setCell_other (h := fun e => by injection e with _ e2 _; exact absurd e2 (by decide))]; exact h1
  · rw [World.frozen?_setCell]; exact f0
  · rw [World.frozen?_setCell]; exact f1
theorem Kin.far {w : World} {p : Nat} {x y : Value} (h : Kin w p x y) {a : Addr} (ha : a.block ≠ p) (v' : Value) : Kin (w.setCell a v') p x y := by
  obtain ⟨hp, h0, h1, f0, f1⟩ := h
  refine ⟨by rw [World.size_setCell]; exact hp, ?_, ?_, ?_, ?_⟩
  · rw [World.cell?_setCell_other (h := fun e => ha (by rw [e]))]; exact h0
  · rw [World.cell?_setCell_other (h := fun e => ha (by rw [e]))]; exact h1
  · rw [World.frozen?_setCell]; exact f0
  · rw [World.frozen?_setCell]; exact f1
theorem Kin.put2 {w : World} {p : Nat} {x y : Value} (h : Kin w p x y) (x' y' : Value) : Kin ((w.setCell ⟨p, 0, none⟩ x').setCell ⟨p, 1, none⟩ y') p x' y' := (h.set0 x').set y'
/-- What a result in a struct of two cells is. -/
theorem Kin.res {w : World} {p : Nat} {x y : Value} (h : Kin w p x y) (x' y' : Value) : (w.setCell ⟨p, 0, none⟩ x').cell? ⟨p, 0, none⟩ = some x' ∧ ((w.setCell ⟨p, 0, none⟩ x').setCell ⟨p, 1, none⟩ y').cell? ⟨p, 1, none⟩ = some y' ∧ ((w.setCell ⟨p, 0, none⟩ x').setCell ⟨p, 1, none⟩ y').cell? ⟨p, 0, none⟩ = some x' :=
  ⟨(h.set0 x').2.1, ((h.set0 x').set y').2.2.1, ((h.set0 x').set y').2.1⟩
theorem Kin.new {w : World} {x y : Value} {T : TypeId} : Kin (w.alloc (.cells #[x, y] T)) w.heap.size x y :=
  ⟨by simp, by rw [World.cell?_alloc_at _ _ _ _ rfl]; rfl, by rw [World.cell?_alloc_at _ _ _ _ rfl]; rfl, World.frozen?_alloc_at _ _ _ _ rfl, World.frozen?_alloc_at _ _ _ _ rfl⟩
theorem Kin.new' {w : World} {p : Nat} {x y : Value} {T : TypeId} (hp : p = w.heap.size) : Kin (w.alloc (.cells #[x, y] T)) p x y := by subst hp; exact Kin.new
theorem Kin.drewN {w : World} {p : Nat} {x y : Value} (h : Kin w p x y) (q : Nat) : Kin (w.drewN q) p x y := h
/-- A row that the call owns, behind a store elsewhere. -/
theorem own_far {w : World} {base : Nat} {T : TypeId} {v : Value} {k : Nat} {xs : List Value} (h : w.ownsRow base T 1 v k xs) (a : Addr) (u : Value) (ha : a.block < base) : (w.setCell a u).ownsRow base T 1 v k xs := by
  obtain ⟨hl, h2⟩ := h
  refine ⟨hl, ?_⟩
  rcases h2 with h2 | ⟨g, cap, cur, e1, e2, e3, e4⟩
  · exact .inl h2
  · refine .inr ⟨g, cap, cur, e1, e2, ?_, e4⟩
    rw [Below.heap_setCell w a u g (by omega)]
    exact e3
theorem own_keep {w w' : World} {base : Nat} {T : TypeId} {v : Value} {k : Nat} {xs : List Value} (h : w.ownsRow base T 1 v k xs) (hb : Below w.heap.size w w') : w'.ownsRow base T 1 v k xs := by
  obtain ⟨hl, h2⟩ := h
  refine ⟨hl, ?_⟩
  rcases h2 with h2 | ⟨g, cap, cur, e1, e2, e3, e4⟩
  · exact .inl h2
  · refine .inr ⟨g, cap, cur, e1, e2, ?_, e4⟩
    rw [hb.block g (Array.getElem?_eq_some_iff.1 e3).1]
    exact e3
theorem irow_news {w : World} {b o m : Nat} {zs : List Int} (h : IRow w (some ⟨b, o, none⟩) m zs) : ∀ j u, (zs.map (Value.int .i64))[j]? = some u → w.cell? ((⟨b, o, none⟩ : Addr).add j) = some u := by
  intro j u hu
  have hj : j < zs.length := by have := (List.getElem?_eq_some_iff.1 hu).1; simpa using this
  have hadd : (⟨b, o, none⟩ : Addr).add j = ⟨b, o + j, none⟩ := by unfold Addr.add; split <;> simp_all
  rw [List.getElem?_map, List.getElem?_eq_getElem hj] at hu
  rcases h.2 with h0 | ⟨b1, o1, e, _, hc⟩
  · have := h.1; omega
  · injection e with e
    injection e with e1 e2
    subst e1; subst e2
    rw [hadd, hc j (by rw [← h.1]; exact hj), List.getD_eq_getElem?_getD, List.getElem?_eq_getElem hj]
    exact hu
theorem one_cellsI (zs : List Int) : ∀ u ∈ zs.map (Value.int .i64), u.oneCell' = true := by
  intro u hu
  obtain ⟨z, _, rfl⟩ := List.mem_map.1 hu
  simp [Value.oneCell']
/-- A block of ints of the call's own. -/
def ICl (w : World) (g n : Nat) (L : List Int) : Prop := g < w.heap.size ∧ Ent.ok w g (.il n L)
theorem ICl.below {w w' : World} {g n : Nat} {L : List Int} (h : ICl w g n L) (hb : Below w.heap.size w w') : ICl w' g n L := ⟨Nat.lt_of_lt_of_le h.1 hb.size, h.2.below h.1 hb⟩
theorem ICl.cell {w : World} {g n j : Nat} {L : List Int} (h : ICl w g n L) (hj : j < n) : w.cell? ⟨g, j, none⟩ = some (.int .i64 (L.getD j 0)) ∧ w.frozen? ⟨g, j, none⟩ = false := h.2.2 j hj
theorem ICl.len {w : World} {g n : Nat} {L : List Int} (h : ICl w g n L) : L.length = n := h.2.1
theorem getD_set (L : List Int) (j i : Nat) (x : Int) (hj : j < L.length) : (L.set j x).getD i 0 = if i = j then x else L.getD i 0 := by
  rw [List.getD_eq_getElem?_getD, List.getElem?_set]
  by_cases e : j = i
  · subst e; rw [if_pos rfl, if_pos rfl, if_pos hj]; rfl
  · rw [if_neg e, if_neg (fun h => e h.symm), List.getD_eq_getElem?_getD]
theorem ICl.put {w : World} {g n j : Nat} {L : List Int} (h : ICl w g n L) (hj : j < n) (x : Int) : ICl (w.setCell ⟨g, j, none⟩ (.int .i64 x)) g n (L.set j x) := by
  have hl := h.len
  refine ⟨by rw [World.size_setCell]; exact h.1, by show (L.set j x).length = n; simp [hl], fun i hi => ?_⟩
  have hi : i < n := hi
  show _ = some (Value.int .i64 ((L.set j x).getD i 0)) ∧ _
  rw [getD_set L j i x (by omega), World.frozen?_setCell]
  by_cases e : i = j
  · subst e
    rw [if_pos rfl, World.cell?_setCell_same (h := (h.cell hi).1)]
    exact ⟨rfl, (h.cell hi).2⟩
  · rw [if_neg e, World.cell?_setCell_other (h := fun e2 => e (by injection e2 with _ e3 _; exact e3.symm))]
    exact h.cell hi
theorem ICl.far {w : World} {g n : Nat} {L : List Int} (h : ICl w g n L) {a : Addr} (ha : a.block ≠ g) (v : Value) : ICl (w.setCell a v) g n L := by
  refine ⟨by rw [World.size_setCell]; exact h.1, h.2.1, fun i hi => ?_⟩
  have hi : i < n := hi
  rw [World.frozen?_setCell, World.cell?_setCell_other (h := fun e2 => ha (by rw [e2]))]
  exact h.cell hi
theorem ICl.row {w : World} {g n : Nat} {L : List Int} (h : ICl w g n L) : IRow w (some ⟨g, 0, none⟩) n L := ⟨h.len, .inr ⟨g, 0, rfl, h.1, fun i hi => by rw [Nat.zero_add]; exact (h.cell hi).1⟩⟩
theorem ICl.of {w0 w : World} {g n : Nat} {L : List Int} (h : New w0 w g (.il n L)) : ICl w g n L := ⟨h.2.1, h.2.2.1⟩
theorem ICl.own {w : World} {base : Nat} {T : TypeId} {g n cap : Nat} {L : List Int} (h : w.ownsRow base T 1 (.slice (some ⟨g, 0, none⟩) n cap) n (L.map (Value.int .i64))) (hn : n ≠ 0) : ICl w g n L ∧ base ≤ g := by
  obtain ⟨g2, cp, e, hg, hgl, hir, hfz⟩ := own_irowF h hn
  injection e with e1 e2 e3
  injection e1 with e1
  injection e1 with e1
  subst e1
  exact ⟨⟨hgl, Ent.il_ok hir hfz⟩, hg⟩
theorem ICl.new {w0 w : World} {g n : Nat} {L : List Int} (h : ICl w g n L) (hg : w0.heap.size ≤ g) (hb : Below w0.heap.size w0 w) : New w0 w g (.il n L) := ⟨hg, h.1, h.2, hb⟩
end Go.Proofs.YtkmggoagboikgaaDoor
