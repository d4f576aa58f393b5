/- TurnTable, ColumnPart: the functions. -/
import Derived.Test.YtaalddkpldbdkaaTuw
namespace Go.Proofs.Ytaalddkpldbdkaa
open Go.Proofs.Ytaalddkpldbdkaa.Flo Go.RowKit

theorem Tab.tin {w : World} {r c : Int} {a : Option Addr} {n cap : Nat} {T : TypeId} : Tin (w.alloc (.cells #[.int .i64 r, .int .i64 c, .slice a n cap] T)) w.heap.size r c (.slice a n cap) := Tin.new
theorem Tin.tab {w : World} {p : Nat} {r c : Int} {a : Option Addr} {n cap : Nat} (h : Tin w p r c (.slice a n cap)) : Tab w p r c a n cap := ⟨h.1, h.2.1, h.2.2.1, h.2.2.2.1⟩
theorem Ent.ok.set {w : World} {g : Nat} {e : Ent} (h : e.ok w g) {a : Addr} (ha : a.block ≠ g) (u : Value) : e.ok (w.setCell a u) g :=
  h.same fun _ => ⟨World.cell?_setCell_far _ _ _ _ ha, World.frozen?_setCell _ _ _ _⟩
theorem Tin.drewN {w : World} {p : Nat} {r c : Int} {v : Value} (h : Tin w p r c v) (q : Nat) : Tin (w.drewN q) p r c v := h
theorem Got.fin' {w w' : World} {T : TypeId} {g n cap : Nat} {V : Nat → Option Nat} (h : Got w' w.heap.size T (.slice (some ⟨g, 0, none⟩) n cap) n V) (hn : n ≠ 0) :
    ∃ zs, w.heap.size ≤ g ∧ g < w'.heap.size ∧ FRow w' (some ⟨g, 0, none⟩) n zs ∧ (∀ i, i < n → cls .f32 (zs.getD i 0) = V i) ∧ Ent.ok w' g (.cl n V) := by
  obtain ⟨g', cap', zs, e, h1, h2, h3, h4, h5⟩ := h.fin hn
  injection e with e1 e2 e3
  injection e1 with e1
  injection e1 with e1
  subst e1
  exact ⟨zs, h1, h2, h3, h4, h5⟩
theorem tab_V {R C n : Nat} {zr : List Nat} {V : Nat → Option Nat} (hR : 1 ≤ R ∧ R ≤ 8) (hC : 1 ≤ C ∧ C ≤ 8) (hn : n = R * C) (h : ∀ i, i < n → cls .f32 (zr.getD i 0) = V i) : tabB (C : Int) (R : Int) zr n = chV V n := by
  unfold tabB
  rw [decide_eq_true (by omega), decide_eq_true (by omega), decide_eq_true (by rw [hn, Nat.mul_comm]; exact Int.natCast_mul C R), chS_V h]
  rfl
def okT (r c : Int) (zs : List Nat) (n : Nat) : Bool := tabB r c zs n && chV (turnV zs r.toNat c.toNat) n
theorem okT_n {r c : Int} {zs : List Nat} {n : Nat} (h : okT r c zs n = true) : n ≤ 1048576 := by
  unfold okT at h
  rw [Bool.and_eq_true] at h
  have := (tab_out h.1).2.2.2.2
  omega
end Go.Proofs.Ytaalddkpldbdkaa
