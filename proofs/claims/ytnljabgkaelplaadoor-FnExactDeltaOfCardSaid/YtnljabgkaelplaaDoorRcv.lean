
/- Rows told by classes alone; rows of a table; collected numbers. -/
import Derived.Test.YtnljabgkaelplaaDoorMgb
import Derived.Test.YtnljabgkaelplaaDoorTbl
namespace Go.Proofs.YtnljabgkaelplaaDoor
open Go.Proofs.YtnljabgkaelplaaDoor.Flo Go.RowKit

theorem Tab.drewN {w : World} {b : Nat} {r c : Int} {a : Option Addr} {n cap : Nat} (h : Tab w b r c a n cap) (q : Nat) : Tab (w.drewN q) b r c a n cap := h
/-- Some not-a-number. -/
def nan32 : Nat := 2143289344
theorem cls_nan32q : cls .f32 nan32 = none := by decide +kernel
theorem cls_repr (z : Nat) : cls .f32 ((cls .f32 z).getD nan32) = cls .f32 z := by
  cases h : cls .f32 z with
  | none => exact cls_nan32q
  | some b => obtain ⟨rfl, _⟩ := cls_some h; exact h
theorem leastB_cls {x y : Nat} (h : cls .f32 x = cls .f32 y) : leastB x = leastB y := by
  cases hx : cls .f32 x with
  | some b =>
    rw [hx] at h
    obtain ⟨rfl, _⟩ := cls_some hx
    obtain ⟨e, _⟩ := cls_some h.symm
    rw [e]
  | none =>
    rw [hx] at h
    have nn : ∀ z, cls .f32 z = none → leastB z = false := fun z hz => by
      unfold cls at hz
      split at hz
      · rename_i hn
        unfold leastB
        cases hd : (FloatKind.f32).decode z with
        | nan s t => rfl
        | number => rw [hd] at hn; cases hn
        | infinity => rw [hd] at hn; cases hn
      · cases hz
    rw [nn x hx, nn y h.symm]
theorem vsum_cls {za zb : List Nat} : ∀ n, (∀ i, i < n → cls .f32 (za.getD i 0) = cls .f32 (zb.getD i 0)) → Flo.vsum za n = Flo.vsum zb n
  | 0, _ => rfl
  | n + 1, h => by
    show vop .add .f32 (Flo.vsum za n) _ = vop .add .f32 (Flo.vsum zb n) _
    rw [vsum_cls n (fun i hi => h i (by omega)), h n (by omega)]
theorem chS_cls {za zb : List Nat} {n : Nat} (h : ∀ i, i < n → cls .f32 (za.getD i 0) = cls .f32 (zb.getD i 0)) : chS za n = chS zb n := by
  unfold chS
  rw [vsum_cls n h]
  have : (∀ k, k < n → leastB (za.getD k 0) = true) ↔ ∀ k, k < n → leastB (zb.getD k 0) = true :=
    ⟨fun g k hk => by rw [← leastB_cls (h k hk)]; exact g k hk, fun g k hk => by rw [leastB_cls (h k hk)]; exact g k hk⟩
  rw [decide_eq_decide.2 this]
def repV (V : Nat → Option Nat) (n : Nat) : List Nat := (List.range n).map fun i => (V i).getD nan32
theorem repV_get (V : Nat → Option Nat) {n i : Nat} (h : i < n) : (repV V n).getD i 0 = (V i).getD nan32 := by
  simp [repV, List.getD_eq_getElem?_getD, h]
/-- A row, of classes. -/
def rowV (V : Nat → Option Nat) (n : Nat) : Bool := rowB (repV V n) n
def chV (V : Nat → Option Nat) (n : Nat) : Bool := chS (repV V n) n
theorem rowB_V {zs : List Nat} {V : Nat → Option Nat} {n : Nat} (h : ∀ i, i < n → cls .f32 (zs.getD i 0) = V i) : rowB zs n = rowV V n := by
  unfold rowV rowB
  rw [chS_cls (fun i hi => by rw [repV_get V hi, ← h i hi, cls_repr])]
theorem chS_V {zs : List Nat} {V : Nat → Option Nat} {n : Nat} (h : ∀ i, i < n → cls .f32 (zs.getD i 0) = V i) : chS zs n = chV V n := by
  unfold chV
  rw [chS_cls (fun i hi => by rw [repV_get V hi, ← h i hi, cls_repr])]
theorem rowV_n {V : Nat → Option Nat} {n : Nat} (h : rowV V n = true) : n ≠ 0 ∧ n ≤ 32 := by
  unfold rowV rowB at h
  rw [Bool.and_eq_true] at h
  have := of_decide_eq_true h.1
  omega
/-- No row holds a bad number. -/
theorem rowV_bad {V : Nat → Option Nat} {n k : Nat} (hk : k < n) (hV : ∃ z, cls .f32 z = V k) (hb : Bad (V k)) : rowV V n = false := by
  unfold rowV rowB
  have : chS (repV V n) n = false := by
    rw [← ch_eq]
    unfold chB
    have hz : cls .f32 ((repV V n).getD k 0) = V k := by
      obtain ⟨z, hz⟩ := hV
      rw [repV_get V hk, ← hz, cls_repr]
    rw [bad_not_near (vsum_bad (by rw [hz]; exact hb) n hk)]
    simp
  rw [this]; simp

/-- A part of a list. -/
def sub (zs : List Nat) (i c : Nat) : List Nat := (zs.drop (i * c)).take c
theorem sub_get (zs : List Nat) (i c : Nat) {j : Nat} (h : j < c) : (sub zs i c).getD j 0 = zs.getD (i * c + j) 0 := by
  unfold sub
  simp only [List.getD_eq_getElem?_getD]
  rw [List.getElem?_take, if_pos h, List.getElem?_drop]
theorem FRow.part {w : World} {b off n : Nat} {zs : List Nat} (h : FRow w (some ⟨b, off, none⟩) n zs) {i c : Nat} (hi : i * c + c ≤ n) (hc : 0 < c) : FRow w (some ⟨b, off + i * c, none⟩) c (sub zs i c) := by
  obtain ⟨hl, h⟩ := h
  refine ⟨?_, ?_⟩
  · unfold sub; rw [List.length_take, List.length_drop]; omega
  · rcases h with h | ⟨b', off', e, hb, hcell⟩
    · omega
    · injection e with e
      injection e with e1 e2
      subst e1; subst e2
      refine .inr ⟨b, off + i * c, rfl, hb, fun j hj => ?_⟩
      rw [sub_get zs i c hj, Nat.add_assoc]
      exact hcell _ (by omega)
/-- The sums of the rows of a table. -/
def rowsV (zs : List Nat) (c : Nat) (i : Nat) : Option Nat := Flo.vsum (sub zs i c) c

/-- Numbers that have been collected by append. -/
def Got (w : World) (base : Nat) (T : TypeId) (v : Value) (k : Nat) (V : Nat → Option Nat) : Prop :=
  ∃ zs : List Nat, (∀ i, i < k → cls .f32 (zs.getD i 0) = V i) ∧ w.ownsRow base T 1 v k (zs.map (Value.float .f32))
theorem Got.nil (w : World) (base : Nat) (T : TypeId) (V : Nat → Option Nat) : Got w base T (.slice none 0 0) 0 V := ⟨[], (by intro i hi; omega), World.ownsRow_nil _ _ _ _⟩
theorem Got.empty (w : World) (T : TypeId) (V : Nat → Option Nat) : Got (w.alloc (.cells #[] T)) w.heap.size T (.slice (some ⟨w.heap.size, 0, none⟩) 0 0) 0 V := ⟨[], (by intro i hi; omega), own_empty w T⟩
theorem Got.len {w : World} {base : Nat} {T : TypeId} {v : Value} {k : Nat} {zs : List Nat} (h : w.ownsRow base T 1 v k (zs.map (Value.float .f32))) : zs.length = k := by simpa using h.1
theorem Got.step {w : World} {base : Nat} {T : TypeId} {v : Value} {k z : Nat} {V : Nat → Option Nat} {zs : List Nat} (hz : ∀ i, i < k → cls .f32 (zs.getD i 0) = V i) (hl : zs.length = k) (hv : cls .f32 z = V k)
    (h : w.ownsRow base T 1 v (k + 1) (zs.map (Value.float .f32) ++ [.float .f32 z])) : Got w base T v (k + 1) V := by
  refine ⟨zs ++ [z], fun i hi => ?_, by simpa using h⟩
  by_cases e : i < k
  · rw [List.getD_eq_getElem?_getD, List.getElem?_append_left (by omega), ← List.getD_eq_getElem?_getD]; exact hz i e
  · obtain rfl : i = k := by omega
    rw [List.getD_eq_getElem?_getD, List.getElem?_append_right (by omega), hl, Nat.sub_self]
    exact hv
theorem Got.block {w : World} {base : Nat} {T : TypeId} {v : Value} {k : Nat} {V : Nat → Option Nat} (h : Got w base T v k V) : ∀ j, v.ownBlock = some j → base ≤ j := by
  obtain ⟨_, _, h⟩ := h
  exact own_block h
theorem Got.drewN {w : World} {base : Nat} {T : TypeId} {v : Value} {k : Nat} {V : Nat → Option Nat} (h : Got w base T v k V) (q : Nat) : Got (w.drewN q) base T v k V := by
  obtain ⟨zs, h1, h2⟩ := h
  exact ⟨zs, h1, h2⟩
theorem Got.keep {w w' : World} {base : Nat} {T : TypeId} {v : Value} {k : Nat} {V : Nat → Option Nat} (h : Got w base T v k V) (hb : Below w.heap.size w w') : Got w' base T v k V := by
  obtain ⟨zs, h1, hl, h2⟩ := h
  refine ⟨zs, h1, hl, ?_⟩
  rcases h2 with h2 | ⟨g, cap, cur, e1, e2, e3, e4⟩
  · exact .inl h2
  · refine .inr ⟨g, cap, cur, e1, e2, ?_, e4⟩
    rw [hb.block g (Array.getElem?_eq_some_iff.1 e3).1]
    exact e3
theorem Got.mono {w : World} {base base' : Nat} {T : TypeId} {v : Value} {k : Nat} {V : Nat → Option Nat} (h : Got w base T v k V) (hb : base' ≤ base) : Got w base' T v k V := by
  obtain ⟨zs, h1, hl, h2⟩ := h
  refine ⟨zs, h1, hl, ?_⟩
  rcases h2 with h2 | ⟨g, cap, cur, e1, e2, e3⟩
  · exact .inl h2
  · exact .inr ⟨g, cap, cur, e1, Nat.le_trans hb e2, e3⟩
theorem Got.fin {w w' : World} {T : TypeId} {v : Value} {n : Nat} {V : Nat → Option Nat} (h : Got w' w.heap.size T v n V) (hn : n ≠ 0) :
    ∃ g cap zs, v = .slice (some ⟨g, 0, none⟩) n cap ∧ w.heap.size ≤ g ∧ g < w'.heap.size ∧ FRow w' (some ⟨g, 0, none⟩) n zs ∧ (∀ i, i < n → cls .f32 (zs.getD i 0) = V i) ∧ Ent.ok w' g (.cl n V) := by
  obtain ⟨zs, h1, h2⟩ := h
  obtain ⟨g, cap, rfl, hg, hgl, hr, hf⟩ := own_row h2 hn
  exact ⟨g, cap, zs, rfl, hg, hgl, hr, h1, zs, h1, Ent.fl_ok hr hf⟩
end Go.Proofs.YtnljabgkaelplaaDoor
