/- Turned tables: walks. -/
import Derived.Test.YtaalddkpldbdkaaRpb
import Derived.Deep.RegionLaw
namespace Go.Proofs.Ytaalddkpldbdkaa
open Go.Proofs.Ytaalddkpldbdkaa.Flo Go.RowKit

/-- The chances of a turned table. -/
def turnV (zs : List Nat) (R C : Nat) (j : Nat) : Option Nat := cls .f32 (zs.getD ((j % R) * C + j / R) 0)
theorem turn_at (zs : List Nat) {R C k i : Nat} (hi : i < R) : turnV zs R C (k * R + i) = cls .f32 (zs.getD (i * C + k) 0) := by
  unfold turnV
  rw [Nat.mul_comm k R, Nat.mul_add_mod, Nat.mod_eq_of_lt hi, Nat.mul_add_div (by omega), Nat.div_eq_of_lt hi, Nat.add_zero]
/-- A struct of a table in the making. -/
def Tin (w : World) (p : Nat) (r c : Int) (v : Value) : Prop :=
  p < w.heap.size ∧ w.cell? ⟨p, 0, none⟩ = some (.int .i64 r) ∧ w.cell? ⟨p, 1, none⟩ = some (.int .i64 c) ∧ w.cell? ⟨p, 2, none⟩ = some v ∧ w.frozen? ⟨p, 0, none⟩ = false ∧ w.frozen? ⟨p, 1, none⟩ = false ∧ w.frozen? ⟨p, 2, none⟩ = false
theorem Tin.below {w w' : World} {p : Nat} {r c : Int} {v : Value} (h : Tin w p r c v) (hb : Below w.heap.size w w') : Tin w' p r c v := by
  obtain ⟨hp, h0, h1, h2, f0, f1, f2⟩ := h
  exact ⟨Nat.lt_of_lt_of_le hp hb.size, (hb.cell (p := ⟨p, 0, none⟩) hp).trans h0, (hb.cell (p := ⟨p, 1, none⟩) hp).trans h1, (hb.cell (p := ⟨p, 2, none⟩) hp).trans h2, (hb.frozen (p := ⟨p, 0, none⟩) hp).trans f0, (hb.frozen (p := ⟨p, 1, none⟩) hp).trans f1, (hb.frozen (p := ⟨p, 2, none⟩) hp).trans f2⟩
theorem Tin.grown {w w' : World} {row : Option Nat} {p : Nat} {r c : Int} {v : Value} (hg : w.grownBy w' row) (hne : some p ≠ row) (h : Tin w p r c v) : Tin w' p r c v := by
  obtain ⟨hp, h0, h1, h2, f0, f1, f2⟩ := h
  have hb := hg.block p hp hne
  refine ⟨Nat.lt_of_lt_of_le hp hg.size, ?_, ?_, ?_, ?_, ?_, ?_⟩
  · rw [World.cell?_of_block (a := ⟨p, 0, none⟩) hb]; exact h0
  · rw [World.cell?_of_block (a := ⟨p, 1, none⟩) hb]; exact h1
  · rw [World.cell?_of_block (a := ⟨p, 2, none⟩) hb]; exact h2
  · rw [World.frozen?_of_block (a := ⟨p, 0, none⟩) hb]; exact f0
  · rw [World.frozen?_of_block (a := ⟨p, 1, none⟩) hb]; exact f1
  · rw [World.frozen?_of_block (a := ⟨p, 2, none⟩) hb]; exact f2
theorem Tin.set {w : World} {p : Nat} {r c : Int} {v : Value} (h : Tin w p r c v) (v' : Value) : Tin (w.setCell ⟨p, 2, none⟩ v') p r c v' := by
  obtain ⟨hp, h0, h1, h2, f0, f1, f2⟩ := h
  refine ⟨by rw [World.size_setCell]; exact hp, ?_, ?_, ?_, ?_, ?_, ?_⟩
  · rw [World.cell?_setCell_other (h := fun e => by injection e with _ e2 _; exact absurd e2 (by decide))]; exact h0
  · rw [World.cell?_setCell_other (h := fun e => by injection e with _ e2 _; exact absurd e2 (by decide))]; exact h1
  · rw [World.cell?_setCell_same (h := h2)]
  · rw [World.frozen?_setCell]; exact f0
  · rw [World.frozen?_setCell]; exact f1
  · rw [World.frozen?_setCell]; exact f2
theorem Tin.far {w : World} {p : Nat} {r c : Int} {v : Value} (h : Tin w p r c v) {a : Addr} (ha : a.block ≠ p) (v' : Value) : Tin (w.setCell a v') p r c v := by
  obtain ⟨hp, h0, h1, h2, f0, f1, f2⟩ := h
  refine ⟨by rw [World.size_setCell]; exact hp, ?_, ?_, ?_, ?_, ?_, ?_⟩
  · rw [World.cell?_setCell_other (h := fun e => ha (by rw [e]))]; exact h0
  · rw [World.cell?_setCell_other (h := fun e => ha (by rw [e]))]; exact h1
  · rw [World.cell?_setCell_other (h := fun e => ha (by rw [e]))]; exact h2
  · rw [World.frozen?_setCell]; exact f0
  · rw [World.frozen?_setCell]; exact f1
  · rw [World.frozen?_setCell]; exact f2
theorem Got.setCell {w : World} {base : Nat} {T : TypeId} {v : Value} {k : Nat} {V : Nat → Option Nat} (h : Got w base T v k V) (a : Addr) (u : Value) (ha : a.block < base) : Got (w.setCell a u) base T v k V := by
  obtain ⟨zs, h1, hl, h2⟩ := h
  refine ⟨zs, h1, hl, ?_⟩
  rcases h2 with h2 | ⟨g, cap, cur, e1, e2, e3, e4⟩
  · exact .inl h2
  · refine .inr ⟨g, cap, cur, e1, e2, ?_, e4⟩
    rw [Below.heap_setCell w a u g (by omega)]
    exact e3
theorem Got.form {w : World} {base : Nat} {T : TypeId} {v : Value} {n : Nat} {V : Nat → Option Nat} (h : Got w base T v n V) (hn : 0 < n) : ∃ g cap, v = .slice (some ⟨g, 0, none⟩) n cap ∧ n ≤ cap := by
  obtain ⟨zs, h1, hl, h2⟩ := h
  rcases h2 with ⟨_, h2⟩ | ⟨g, cap, cur, rfl, _, _, h3, _⟩
  · omega
  · exact ⟨g, cap, rfl, h3⟩
theorem Tin.put3 {w : World} {p : Nat} {r c : Int} {v : Value} (h : Tin w p r c v) (x y z : Value) :
    (w.setCell ⟨p, 0, none⟩ x).cell? ⟨p, 0, none⟩ = some x ∧ ((w.setCell ⟨p, 0, none⟩ x).setCell ⟨p, 1, none⟩ y).cell? ⟨p, 1, none⟩ = some y ∧ (((w.setCell ⟨p, 0, none⟩ x).setCell ⟨p, 1, none⟩ y).setCell ⟨p, 2, none⟩ z).cell? ⟨p, 2, none⟩ = some z := by
  obtain ⟨hp, h0, h1, h2, _⟩ := h
  refine ⟨World.cell?_setCell_same _ _ _ h0, ?_, ?_⟩
  · refine World.cell?_setCell_same _ _ _ (?_ : _ = some (.int .i64 c))
    rw [World.cell?_setCell_other (h := fun e => by injection e with _ e2 _; exact absurd e2 (by decide))]; exact h1
  · refine World.cell?_setCell_same _ _ _ (?_ : _ = some v)
    rw [World.cell?_setCell_other (h := fun e => by injection e with _ e2 _; exact absurd e2 (by decide)), World.cell?_setCell_other (h := fun e => by injection e with _ e2 _; exact absurd e2 (by decide))]; exact h2
theorem Tin.new {w : World} {r c : Int} {v : Value} {T : TypeId} : Tin (w.alloc (.cells #[.int .i64 r, .int .i64 c, v] T)) w.heap.size r c v :=
  ⟨by simp, by rw [World.cell?_alloc_at _ _ _ _ rfl]; rfl, by rw [World.cell?_alloc_at _ _ _ _ rfl]; rfl, by rw [World.cell?_alloc_at _ _ _ _ rfl]; rfl, World.frozen?_alloc_at _ _ _ _ rfl, World.frozen?_alloc_at _ _ _ _ rfl, World.frozen?_alloc_at _ _ _ _ rfl⟩
theorem Tin.new' {w : World} {p : Nat} {r c : Int} {v : Value} {T : TypeId} (hp : p = w.heap.size) : Tin (w.alloc (.cells #[.int .i64 r, .int .i64 c, v] T)) p r c v := by subst hp; exact Tin.new
theorem row_cell2 {w : World} {b o n : Nat} {zs : List Nat} (h : FRow w (some ⟨b, o, none⟩) n zs) {k : Nat} (hk : k < n) : w.cell? ⟨b, o + k, none⟩ = some (.float .f32 (zs.getD k 0)) := by
  rcases h.2 with h0 | ⟨b1, o1, e, _, hc⟩
  · omega
  · injection e with e
    injection e with e1 e2
    subst e1; subst e2
    exact hc k hk
theorem mul_in {R C n i k : Nat} (hn : n = R * C) (hi : i < R) (hk : k < C) : i * C + k < n := by
  have : i * C + C ≤ n := by rw [hn, ← Nat.succ_mul]; exact Nat.mul_le_mul_right _ hi
  omega
end Go.Proofs.Ytaalddkpldbdkaa
