
/- Slices of 32-bit numbers: the laws' own helpers. -/
import Derived.Test.YtekbefmjifmnoaaFlw
import Derived.Deep.OwnRows
import Derived.Lib.Hide
import Derived.Deep.RegionWith
namespace Go.Proofs.Ytekbefmjifmnoaa
open Go.Proofs.Ytekbefmjifmnoaa.Flo Go.RowKit

/-- A slice value of n numbers: the cells that it leads to hold them. -/
def FRow (w : World) (a : Option Addr) (n : Nat) (zs : List Nat) : Prop :=
  zs.length = n ∧ (n = 0 ∨ ∃ b off, a = some ⟨b, off, none⟩ ∧ b < w.heap.size ∧ ∀ i, i < n → w.cell? ⟨b, off + i, none⟩ = some (.float .f32 (zs.getD i 0)))
/-- The numbers as cells. -/
def fl (zs : List Nat) : Array Value := (zs.map (Value.float .f32)).toArray
/-- The cells of a copy, of which k are done. -/
def mix (zs : List Nat) (k n : Nat) : Array Value := ((zs.map (Value.float .f32)).take k ++ List.replicate (n - k) (Value.float .f32 0)).toArray
theorem made_eq (n : Nat) : madeCells #[Value.float .f32 0] n = Array.replicate n (Value.float .f32 0) := by
  apply Array.ext
  · simp [madeCells]
  · intro i h1 h2
    simp [madeCells, Nat.mod_one]
theorem mix_zero (zs : List Nat) (n : Nat) : mix zs 0 n = madeCells #[Value.float .f32 0] n := by
  rw [made_eq]
  unfold mix
  simp
theorem mix_all (zs : List Nat) (n : Nat) (h : zs.length = n) : mix zs n n = fl zs := by
  unfold mix fl
  rw [List.take_of_length_le (by simp; omega)]; simp
theorem mix_set (zs : List Nat) (k n : Nat) (hk : k < n) (h : zs.length = n) : (mix zs k n).setIfInBounds k (.float .f32 (zs.getD k 0)) = mix zs (k + 1) n := by
  unfold mix
  apply Array.ext'
  have hz : zs.getD k 0 = zs[k]'(by omega) := by rw [List.getD_eq_getElem?_getD, List.getElem?_eq_getElem (by omega)]; rfl
  have hn : n - k = (n - (k + 1)) + 1 := by omega
  simp only [Array.toList_setIfInBounds]
  rw [hz, hn, List.replicate_succ, List.set_append_right _ _ (by simp; omega)]
  have hl : k - ((zs.map (Value.float .f32)).take k).length = 0 := by simp; omega
  rw [hl, List.set_cons_zero, List.take_succ_eq_append_getElem (by simp; omega)]
  simp
theorem mix_size (zs : List Nat) (k n : Nat) (hk : k ≤ n) (h : zs.length = n) : (mix zs k n).size = n := by
  unfold mix; simp; omega
/-- Where a slice's cells are, in a world with a block more. -/
theorem FRow.alloc {w : World} {a : Option Addr} {n : Nat} {zs : List Nat} (h : FRow w a n zs) (o : Obj) : FRow (w.alloc o) a n zs := by
  obtain ⟨hl, h⟩ := h
  refine ⟨hl, ?_⟩
  rcases h with h | ⟨b, off, ha, hb, hc⟩
  · exact .inl h
  · refine .inr ⟨b, off, ha, by simp; omega, fun i hi => ?_⟩
    rw [World.cell?_alloc_past _ _ _ hb]; exact hc i hi
theorem FRow.new {w : World} {zs : List Nat} {n : Nat} (h : zs.length = n) (e : TypeId) : FRow (w.alloc (.cells (fl zs) e)) (some ⟨w.heap.size, 0, none⟩) n zs := by
  refine ⟨h, .inr ⟨w.heap.size, 0, rfl, by simp, fun i hi => ?_⟩⟩
  rw [World.cell?_alloc_at _ _ _ _ rfl]
  unfold fl
  have hz : zs.getD i 0 = zs[i]'(by omega) := by rw [List.getD_eq_getElem?_getD, List.getElem?_eq_getElem (by omega)]; rfl
  rw [hz]
  simp
theorem FRow.drewN {w : World} {a : Option Addr} {n : Nat} {zs : List Nat} (h : FRow w a n zs) (q : Nat) : FRow (w.drewN q) a n zs := h

end Go.Proofs.Ytekbefmjifmnoaa
