
/- Rows of bytes that the call makes, and their texts. -/
import Derived.Test.YtkmggoagboikgaaDoorStx
import Derived.Test.YtkmggoagboikgaaDoorMgb
import Derived.Laws.BytesString
import Derived.Laws.BytesArg
import Derived.Laws.Cells
import Derived.Lib.UnsafeStr
namespace Go.Proofs.YtkmggoagboikgaaDoor
open Go.Proofs.YtkmggoagboikgaaDoor.Flo Go.RowKit

/-- A row of n bytes, the first of which are these. -/
def byC (l : List UInt8) (n : Nat) : Array Value := (Lib.byteCells l ++ List.replicate (n - l.length) (Value.int .u8 0)).toArray
theorem byC_zero (n : Nat) : byC [] n = madeCells #[Value.int .u8 0] n := by
  have e : madeCells #[Value.int .u8 0] n = Array.replicate n (Value.int .u8 0) := by
    apply Array.ext
    · simp [madeCells]
    · intro i h1 h2
      simp [madeCells, Nat.mod_one]
  rw [e]
  simp [byC, Lib.byteCells]
theorem byC_size {l : List UInt8} {n : Nat} (h : l.length ≤ n) : (byC l n).size = n := by
  simp [byC, Lib.byteCells]; omega
theorem byC_put {l : List UInt8} {n k : Nat} (c : UInt8) (hk : l.length = k) (h : k < n) : (byC l n).setIfInBounds k (.int .u8 (c.toNat : Int)) = byC (l ++ [c]) n := by
  subst hk
  apply Array.ext'
  unfold byC
  simp only [Array.toList_setIfInBounds]
  have hn : n - l.length = (n - (l ++ [c]).length) + 1 := by simp; omega
  rw [hn, List.replicate_succ, List.set_append_right _ _ (by simp [Lib.byteCells])]
  have hl : l.length - (Lib.byteCells l).length = 0 := by simp [Lib.byteCells]
  rw [hl, List.set_cons_zero]
  simp [Lib.byteCells]
theorem store_byte (P : Program) (W : World) (l : List UInt8) (n k : Nat) (T : TypeId) (c : UInt8) (m : Mode) (hk : l.length = k) (h : k < n) :
    (store ⟨W.heap.size, k, none⟩ (.int .u8 (c.toNat : Int)) m).run P (W.alloc (.cells (byC l n) T)) = .ok () (W.alloc (.cells (byC (l ++ [c]) n) T)) := by
  have hs : k < (byC l n).size := by rw [byC_size (by omega)]; exact h
  have h1 : (W.alloc (.cells (byC l n) T)).cell? ⟨W.heap.size, k, none⟩ = some ((byC l n)[k]'hs) := by
    rw [World.cell?_alloc_at _ _ _ _ rfl]; exact Array.getElem?_eq_getElem hs
  have h2 : (W.alloc (.cells (byC l n) T)).frozen? ⟨W.heap.size, k, none⟩ = false := World.frozen?_alloc_at _ _ _ _ rfl
  have h3 : (W.alloc (.cells (byC l n) T)).setCell ⟨W.heap.size, k, none⟩ (.int .u8 (c.toNat : Int)) = W.alloc (.cells (byC (l ++ [c]) n) T) := by
    rw [World.setCell_alloc_at (byC l n) T _ k _ rfl, byC_put c hk h]
  rw [run_store _ _ _ _ _ rfl, h1, h2]
  simp only [Bool.false_eq_true, if_false]
  rw [h3]
/-- The text of a row of bytes. -/
theorem text_cells {P : Program} (W : World) (src dst e : TypeId) (b off n cap : Nat) (l : List UInt8) (hs : P.underlying src = some (.slice e)) (he : P.underlying e = some (.int .u8)) (hd : P.underlying dst = some .string)
    (hl : l.length = n) (h : ∀ j, j < n → W.cell? ⟨b, off + j, none⟩ = some (.int .u8 ((l.getD j 0).toNat : Int))) :
    (convert src dst (.slice (some ⟨b, off, none⟩) n cap)).run P W = .ok (.string (txB l)) W := by
  rw [run_convert_bytes_string W src dst e _ _ _ hs he hd]
  have h2 : (loadCells ⟨b, off, none⟩ n).run P W = .ok ((l.map fun c => (c.toNat : Int)).map (Value.int .u8)).toArray W := by
    rw [run_loadCells W ⟨b, off, none⟩ n (fun j => .int .u8 ((l.getD j 0).toNat : Int)) (fun j hj => by
      rw [show (⟨b, off, none⟩ : Addr).add j = ⟨b, off + j, none⟩ by unfold Addr.add; split <;> simp_all]
      exact h j hj)]
    congr 2
    apply List.ext_getElem
    · simp [hl]
    · intro i h1 h2
      simp at h1 h2
      simp [List.getD_eq_getElem?_getD, h2]
  rw [run_bytesToString W _ _ _ _ h2, foldl_push_bytes]
  congr 2
  unfold txB
  simp [Function.comp_def]
theorem text_made {P : Program} (W : World) (src dst e T : TypeId) (n cap : Nat) (l : List UInt8) (hs : P.underlying src = some (.slice e)) (he : P.underlying e = some (.int .u8)) (hd : P.underlying dst = some .string) (hl : l.length = n) :
    (convert src dst (.slice (some ⟨W.heap.size, 0, none⟩) n cap)).run P (W.alloc (.cells (byC l n) T)) = .ok (.string (txB l)) (W.alloc (.cells (byC l n) T)) := by
  refine text_cells _ src dst e _ 0 n cap l hs he hd hl fun j hj => ?_
  rw [World.cell?_alloc_at _ _ _ _ rfl]
  simp [byC, Lib.byteCells, List.getD_eq_getElem?_getD, show j < l.length by omega]
  rw [List.getElem?_append_left (by simp; omega)]
  simp [show j < l.length by omega]
theorem Tryd.info8 : (Tryd.prog.info? 5).map (fun i => (i.zero, i.size, i.bytes)) = some (some (.int .u8 0), 1, 1) := by kernel_rfl
end Go.Proofs.YtkmggoagboikgaaDoor
