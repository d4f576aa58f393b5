
/- Rows of chances: walks of IsRow in the model and in the program. -/
import Derived.Test.YthkabonnclfhmaaDoorRwv
import Derived.Test.YthkabonnclfhmaaDoorFlx
import Derived.Test.YthkabonnclfhmaaDoorSlf
namespace Go.Proofs.YthkabonnclfhmaaDoor
open Go.Proofs.YthkabonnclfhmaaDoor.Flo Go.RowKit

theorem FRow.below {w w' : World} {a : Option Addr} {n : Nat} {zs : List Nat} (h : FRow w a n zs) (hb : Below w.heap.size w w') : FRow w' a n zs := by
  obtain ⟨hl, h⟩ := h
  refine ⟨hl, ?_⟩
  rcases h with h | ⟨b, off, ha, hb2, hc⟩
  · exact .inl h
  · refine .inr ⟨b, off, ha, Nat.lt_of_lt_of_le hb2 hb.size, fun i hi => ?_⟩
    rw [hb.cell (p := ⟨b, off + i, none⟩) hb2]; exact hc i hi
theorem Drew.row {w w' : World} {a : Option Addr} {n : Nat} {zs : List Nat} (d : Drew w w') (h : FRow w a n zs) : FRow w' a n zs := by
  obtain ⟨q, rfl⟩ := d; exact h
theorem ret_bool2 {a b : Bool} (h : a = b) : Ending.returned (.bool a) = .returned (.bool b) := by rw [h]
theorem FRow.cell {w : World} {a : Option Addr} {n : Nat} {zs : List Nat} (h : FRow w a n zs) {k : Nat} (hk : k < n) : ∃ b off, a = some ⟨b, off, none⟩ ∧ w.cell? ⟨b, off + k, none⟩ = some (.float .f32 (zs.getD k 0)) := by
  rcases h.2 with h0 | ⟨b, o, rfl, _, hc⟩
  · omega
  · exact ⟨b, o, rfl, hc k hk⟩

theorem notAll {p : Nat → Bool} {n k : Nat} (hk : k < n) (h : p k = false) : decide (∀ j, j < n → p j = true) = false := by
  refine decide_eq_false fun H => ?_
  rw [H k hk] at h; cases h
theorem isAll {p : Nat → Bool} {n : Nat} (h : ∀ j, j < n → p j = true) : decide (∀ j, j < n → p j = true) = true := decide_eq_true h


theorem sub_ge {r : Nat} {s : Option Nat} (h : cls .f32 r = s) (w : World) : ((FloatKind.f32).format.order (fres .sub .f32 r 1065353216 w) 3129152111 == some .gt || (FloatKind.f32).format.order (fres .sub .f32 r 1065353216 w) 3129152111 == some .eq) = ge32 (vop .sub .f32 s (some one32)) (some m001) := by
  unfold ge32
  rw [order_cls, fres_cls, h, ← cls_one32, ← cls_m001]; rfl
theorem sub_le {r : Nat} {s : Option Nat} (h : cls .f32 r = s) (w : World) : ((FloatKind.f32).format.order (fres .sub .f32 r 1065353216 w) 981668463 == some .lt || (FloatKind.f32).format.order (fres .sub .f32 r 1065353216 w) 981668463 == some .eq) = le32 (vop .sub .f32 s (some one32)) (some c001) := by
  unfold le32
  rw [order_cls, fres_cls, h, ← cls_one32, ← cls_c001]; rfl
theorem sub_le' {r : Nat} {s : Option Nat} (h : cls .f32 r = s) (w : World) : ((FloatKind.f32).format.order (fres .sub .f32 1065353216 r w) 981668463 == some .lt || (FloatKind.f32).format.order (fres .sub .f32 1065353216 r w) 981668463 == some .eq) = le32 (vop .sub .f32 (some one32) s) (some c001) := by
  unfold le32
  rw [order_cls, fres_cls, h, ← cls_one32, ← cls_c001]; rfl

def rowB (zs : List Nat) (n : Nat) : Bool := decide (1 ≤ n ∧ n ≤ 32) && chS zs n
end Go.Proofs.YthkabonnclfhmaaDoor
