
/- Rows of any values that append collects. -/
import Derived.Test.YtkmggoagboikgaaDoorMgb
import Derived.Test.YtkmggoagboikgaaDoorBoo
import Derived.Deep.AppendLies
namespace Go.Proofs.YtkmggoagboikgaaDoor
open Go.Proofs.YtkmggoagboikgaaDoor.Flo Go.RowKit

theorem Drew.trans {w w1 w2 : World} (h : Drew w w1) (g : Drew w1 w2) : Drew w w2 := by
  obtain ⟨a, rfl⟩ := h; obtain ⟨b, rfl⟩ := g; exact ⟨a + b, World.drewN_drewN _ _ _⟩
/-- A slice of the call's own that holds the first k values of a row. -/
def Gat (w : World) (base : Nat) (T : TypeId) (v : Value) (k : Nat) (f : Nat → Value) : Prop := w.ownsRow base T 1 v k ((List.range k).map f)
theorem Gat.nil (w : World) (base : Nat) (T : TypeId) (f : Nat → Value) : Gat w base T (.slice none 0 0) 0 f := World.ownsRow_nil _ _ _ _
theorem Gat.empty (w : World) (T : TypeId) (f : Nat → Value) : Gat (w.alloc (.cells #[] T)) w.heap.size T (.slice (some ⟨w.heap.size, 0, none⟩) 0 0) 0 f := own_empty w T
theorem Gat.step {w : World} {base : Nat} {T : TypeId} {v : Value} {k : Nat} {f : Nat → Value} {x : Value} (h : w.ownsRow base T 1 v (k + 1) ((List.range k).map f ++ [x])) (e : x = f k) : Gat w base T v (k + 1) f := by
  unfold Gat; rw [List.range_succ, List.map_append, List.map_singleton, ← e]; exact h
theorem Gat.step2 {w : World} {base : Nat} {T : TypeId} {v : Value} {k : Nat} {f : Nat → Value} {x y : Value} (h : w.ownsRow base T 1 v (k + 2) ((List.range k).map f ++ [x, y])) (e : x = f k) (e2 : y = f (k + 1)) : Gat w base T v (k + 2) f := by
  unfold Gat
  rw [List.range_succ, List.range_succ, List.map_append, List.map_append, List.map_singleton, List.map_singleton, ← e, ← e2, List.append_assoc]; exact h
theorem Gat.block {w : World} {base : Nat} {T : TypeId} {v : Value} {k : Nat} {f : Nat → Value} (h : Gat w base T v k f) : ∀ j, v.ownBlock = some j → base ≤ j := own_block h
theorem Gat.drewN {w : World} {base : Nat} {T : TypeId} {v : Value} {k : Nat} {f : Nat → Value} (h : Gat w base T v k f) (q : Nat) : Gat (w.drewN q) base T v k f := h
theorem own_keepG {w w' : World} {base : Nat} {T : TypeId} {v : Value} {k : Nat} {xs : List Value} (h : w.ownsRow base T 1 v k xs) (hb : Below w.heap.size w w') : w'.ownsRow base T 1 v k xs := by
  obtain ⟨hl, h2⟩ := h
  refine ⟨hl, ?_⟩
  rcases h2 with h2 | ⟨g, cap, cur, e1, e2, e3, e4⟩
  · exact .inl h2
  · refine .inr ⟨g, cap, cur, e1, e2, ?_, e4⟩
    rw [hb.block g (Array.getElem?_eq_some_iff.1 e3).1]
    exact e3
theorem own_monoG {w : World} {base base' : Nat} {T : TypeId} {v : Value} {k : Nat} {xs : List Value} (h : w.ownsRow base T 1 v k xs) (hb : base' ≤ base) : w.ownsRow base' T 1 v k xs := by
  obtain ⟨hl, h2⟩ := h
  refine ⟨hl, ?_⟩
  rcases h2 with h2 | ⟨g, cap, cur, e1, e2, e3⟩
  · exact .inl h2
  · exact .inr ⟨g, cap, cur, e1, Nat.le_trans hb e2, e3⟩
theorem Gat.keep {w w' : World} {base : Nat} {T : TypeId} {v : Value} {k : Nat} {f : Nat → Value} (h : Gat w base T v k f) (hb : Below w.heap.size w w') : Gat w' base T v k f := own_keepG h hb
theorem Gat.mono {w : World} {base base' : Nat} {T : TypeId} {v : Value} {k : Nat} {f : Nat → Value} (h : Gat w base T v k f) (hb : base' ≤ base) : Gat w base' T v k f := own_monoG h hb
theorem Gat.congr {w : World} {base : Nat} {T : TypeId} {v : Value} {k : Nat} {f g : Nat → Value} (h : Gat w base T v k f) (e : ∀ i, i < k → f i = g i) : Gat w base T v k g := by
  unfold Gat at *
  have : (List.range k).map f = (List.range k).map g := List.map_congr_left (fun i hi => e i (List.mem_range.1 hi))
  rw [← this]; exact h
/-- Where it lies. -/
theorem Gat.fin {w : World} {base : Nat} {T : TypeId} {v : Value} {n : Nat} {f : Nat → Value} (h : Gat w base T v n f) (hn : n ≠ 0) :
    ∃ g cap, v = .slice (some ⟨g, 0, none⟩) n cap ∧ base ≤ g ∧ g < w.heap.size ∧ Ent.ok w g (.gv n f) := by
  obtain ⟨hl, h⟩ := h
  rcases h with ⟨_, h0⟩ | ⟨g, cap, cur, rfl, hg, hh, hnc, _, hcs, ht⟩
  · exact absurd h0 hn
  · rw [Nat.mul_one] at ht hcs
    have hgl : g < w.heap.size := (Array.getElem?_eq_some_iff.1 hh).1
    refine ⟨g, cap, rfl, hg, hgl, trivial, fun i hi => ⟨?_, ?_⟩⟩
    · have hi : i < n := hi
      unfold World.cell?
      have hh2 := hh
      rw [Array.getElem?_eq_getElem hgl] at hh2
      injection hh2 with hh2
      have h1 : cur[i]? = cur.toList[i]? := by simp
      have h2 : (cur.toList.take n)[i]? = cur.toList[i]? := by rw [List.getElem?_take]; simp [hi]
      have h3 : cur[i]? = some (f i) := by
        rw [h1, ← h2, ht, List.getElem?_map, List.getElem?_range hi]; rfl
      simp [hgl, hh2, h3, Ent.cell]
    · unfold World.frozen?
      rw [Array.getElem?_eq_getElem hgl] at hh
      injection hh with hh
      simp [hgl, hh]
/-- Its form, also where it is empty. -/
theorem Gat.form {w : World} {base : Nat} {T : TypeId} {v : Value} {n : Nat} {f : Nat → Value} (h : Gat w base T v n f) : ∃ a cap, v = .slice a n cap ∧ (n = 0 ∨ ∃ g, a = some ⟨g, 0, none⟩ ∧ base ≤ g ∧ g < w.heap.size ∧ ∀ i, i < n → w.cell? ⟨g, 0 + i, none⟩ = some (f i)) := by
  by_cases hn : n = 0
  · subst hn
    rcases h.2 with ⟨rfl, _⟩ | ⟨g, cap, cur, rfl, _⟩
    · exact ⟨none, 0, rfl, .inl rfl⟩
    · exact ⟨_, cap, rfl, .inl rfl⟩
  · obtain ⟨g, cap, rfl, h1, h2, h3⟩ := h.fin hn
    exact ⟨_, cap, rfl, .inr ⟨g, rfl, h1, h2, fun i hi => by rw [Nat.zero_add]; exact (h3.2 i hi).1⟩⟩
theorem Gat.brow {w : World} {base : Nat} {T : TypeId} {v : Value} {n : Nat} {f : Nat → Bool} (h : Gat w base T v n (fun i => .bool (f i))) : ∃ a cap, v = .slice a n cap ∧ BRow w a n f := by
  obtain ⟨a, cap, e, hh⟩ := h.form
  refine ⟨a, cap, e, ?_⟩
  rcases hh with hh | ⟨g, rfl, _, h2, h3⟩
  · exact .inl hh
  · exact .inr ⟨g, 0, rfl, h2, h3⟩
theorem Gat.new {w w' : World} {T : TypeId} {v : Value} {n : Nat} {f : Nat → Value} (h : Gat w' w.heap.size T v n f) (hb : Below w.heap.size w w') (hn : n ≠ 0) : ∃ g cp, v = .slice (some ⟨g, 0, none⟩) n cp ∧ New w w' g (.gv n f) := by
  obtain ⟨g, cap, rfl, h1, h2, h3⟩ := h.fin hn
  exact ⟨g, cap, rfl, h1, h2, h3, hb⟩
theorem Gat.zero {w' : World} {base : Nat} {T : TypeId} {v : Value} {f : Nat → Value} (h : Gat w' base T v 0 f) : ∃ b cp, v = .slice b 0 cp := by
  obtain ⟨a, cap, rfl, _⟩ := h.form
  exact ⟨a, cap, rfl⟩
/-- What a function answers that tells a row of values, or fails. -/
def GPost (B : Bool) (T : TypeId) (n : Nat) (f : Nat → Value) (w : World) (e : Ending) (w' : World) : Prop :=
  (B = true ∧ (∃ v, e = .returned (.tuple #[v, .bool true]) ∧ Gat w' w.heap.size T v n f) ∧ Below w.heap.size w w') ∨ (B = false ∧ e = .returned (.tuple #[.slice none 0 0, .bool false]) ∧ Below w.heap.size w w')
theorem GPost.yes {B : Bool} {T : TypeId} {n : Nat} {f : Nat → Value} {w : World} {e : Ending} {w' : World} (h : GPost B T n f w e w') (hB : B = true) (h0 : n ≠ 0) : ∃ g cp, e = .returned (.tuple #[.slice (some ⟨g, 0, none⟩) n cp, .bool true]) ∧ New w w' g (.gv n f) := by
  rcases h with ⟨_, ⟨v, h1, h2⟩, hb⟩ | ⟨h1, _⟩
  · obtain ⟨g, cp, rfl, h3⟩ := h2.new hb h0
    exact ⟨g, cp, h1, h3⟩
  · rw [hB] at h1; cases h1
theorem GPost.zero {B : Bool} {T : TypeId} {n : Nat} {f : Nat → Value} {w : World} {e : Ending} {w' : World} (h : GPost B T n f w e w') (hB : B = true) (h0 : n = 0) : ∃ b cp, e = .returned (.tuple #[.slice b 0 cp, .bool true]) ∧ Below w.heap.size w w' := by
  rcases h with ⟨_, ⟨v, h1, h2⟩, hb⟩ | ⟨h1, _⟩
  · subst h0
    obtain ⟨b, cp, rfl⟩ := h2.zero
    exact ⟨b, cp, h1, hb⟩
  · rw [hB] at h1; cases h1
theorem GPost.no {B : Bool} {T : TypeId} {n : Nat} {f : Nat → Value} {w : World} {e : Ending} {w' : World} (h : GPost B T n f w e w') (hB : B = false) : e = .returned (.tuple #[.slice none 0 0, .bool false]) ∧ Below w.heap.size w w' := by
  rcases h with ⟨h1, _⟩ | ⟨_, h⟩
  · rw [hB] at h1; cases h1
  · exact h
/-- Rows of numbers: of exact bits, as classes. -/
theorem gv_cl {w : World} {p n : Nat} {Z : Nat → Nat} (h : Ent.ok w p (.gv n (fun i => .float .f32 (Z i)))) : Ent.ok w p (.cl n (fun i => cls .f32 (Z i))) := by
  refine ⟨(List.range n).map Z, fun i hi => ?_, by simp [Ent.len], fun i hi => ?_⟩
  · simp [List.getD_eq_getElem?_getD, hi]
  · have hi : i < n := hi
    have h0 := h.2 i hi
    refine ⟨?_, h0.2⟩
    rw [h0.1]
    simp [Ent.cell, List.getD_eq_getElem?_getD, hi]
theorem New.cl {w w' : World} {g n : Nat} {Z : Nat → Nat} (h : New w w' g (.gv n (fun i => .float .f32 (Z i)))) : New w w' g (.cl n (fun i => cls .f32 (Z i))) := ⟨h.1, h.2.1, gv_cl h.2.2.1, h.2.2.2⟩
theorem eqMz (a b : Option Addr) (cap capb : Nat) (w w0 : World) (L : List (Nat × Ent)) (h : Mine w0 w L) :
    Calls Tryd.prog 8 #[.slice a 0 cap, .slice b 0 capb] w fun e w' => e = .returned (.bool true) ∧ Mine w0 w' L := by
  refine (eqF a b 0 cap capb [] w ⟨rfl, .inl rfl⟩ ⟨rfl, .inl rfl⟩ (Nat.zero_le _)).mono ?_
  rintro e w' ⟨he, d⟩
  exact ⟨he, h.below d.below⟩
theorem markFz (a : Option Addr) (cap : Nat) (k0 : Int) (w : World) : Calls Tryd.prog 11 #[.slice a 0 cap, .int .i64 k0] w fun e w' => e = .returned (.int .i64 k0) ∧ w = w' := by
  go_enter Tryd.func11, Tryd.ntmps11
  go_wp2
  refine wp_loop_rounds 1 ?_
  rw [rounds_succ]
  go_wp2
  go_ret
  exact ⟨rfl, rfl⟩
theorem heldFz (a : Option Addr) (cap : Nat) (k0 : Int) (w : World) : Calls Tryd.prog 12 #[.slice a 0 cap, .int .i64 k0] w fun e w' => e = .returned (.int .i64 k0) ∧ w = w' := by
  go_enter Tryd.func12, Tryd.ntmps12
  go_wp2
  refine wp_loop_rounds 1 ?_
  rw [rounds_succ]
  go_wp2
  go_ret
  exact ⟨rfl, rfl⟩
end Go.Proofs.YtkmggoagboikgaaDoor
