
/- Parities: ValidParity, the model's; a code, or none. -/
import Derived.Test.YtkmggoagboikgaaDoorPis
namespace Go.Proofs.YtkmggoagboikgaaDoor
open Go.Proofs.YtkmggoagboikgaaDoor.Flo Go.RowKit Go.Proofs.YtkmggoagboikgaaDoor.Pr

theorem own_monoB {w : World} {base base' : Nat} {T : TypeId} {v : Value} {k : Nat} {xs : List Value} (h : w.ownsRow base T 1 v k xs) (hb : base' ≤ base) : w.ownsRow base' T 1 v k xs := by
  obtain ⟨hl, h2⟩ := h
  refine ⟨hl, ?_⟩
  rcases h2 with h2 | ⟨g, cap, cur, e1, e2, e3⟩
  · exact .inl h2
  · exact .inr ⟨g, cap, cur, e1, Nat.le_trans hb e2, e3⟩
theorem own_empty2 (w : World) (o : Obj) (T : TypeId) : ((w.alloc o).alloc (.cells #[] T)).ownsRow w.heap.size T 1 (.slice (some ⟨w.heap.size + 1, 0, none⟩) 0 0) 0 [] := by
  have h := own_empty (w.alloc o) T
  rw [show (w.alloc o).heap.size = w.heap.size + 1 by simp] at h
  exact own_monoB h (by omega)
end Go.Proofs.YtkmggoagboikgaaDoor
