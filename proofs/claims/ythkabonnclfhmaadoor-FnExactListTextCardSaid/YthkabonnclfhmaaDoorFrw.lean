
/- FarOfRows: walks and law. -/
import Derived.Test.YthkabonnclfhmaaDoorFrv
import Derived.Test.YthkabonnclfhmaaDoorLiv
namespace Go.Proofs.YthkabonnclfhmaaDoor
open Go.Proofs.YthkabonnclfhmaaDoor.Flo Go.RowKit

def farT (za zb : List Nat) (k : Nat) : Option Nat := some (farN (za.getD k 0) (zb.getD k 0))
def sumT (T : Nat → Option Nat) : Nat → Option Nat
  | 0 => cls .f32 0
  | k + 1 => vop .add .f32 (sumT T k) (T k)
def farV (za zb : List Nat) (n : Nat) : Option Nat := vop .mul .f32 (some 1056964608) (sumT (farT za zb) n)
theorem half_cls {r : Nat} {a : Option Nat} (h : cls .f32 r = a) (w : World) : cls .f32 (fres .mul .f32 1056964608 r w) = vop .mul .f32 (some 1056964608) a := by
  rw [fres_cls, h]; exact congrArg (fun x => vop .mul .f32 x a) (show cls .f32 1056964608 = some 1056964608 by decide +kernel)
theorem fres_some {op : BinOp} {k : FloatKind} {x y r : Nat} (h : floatBits op k x y = some r) (w : World) : fres op k x y w = r := by unfold fres; rw [h]
theorem fcnt_some {op : BinOp} {k : FloatKind} {x y r : Nat} (h : floatBits op k x y = some r) : fcnt op k x y = 0 := by unfold fcnt; rw [h]; rfl
theorem size_pos {x : Nat} (h : (FloatKind.f32).format.order x 0 = some .gt) : ((FloatKind.f32).format.order x 0 == some .lt || (FloatKind.f32).format.order x 0 == some .eq) = false := by rw [h]; rfl
/-- All differences. -/
def farL (za zb : List Nat) (n : Nat) : List Nat := (List.range n).map fun k => farN (za.getD k 0) (zb.getD k 0)
theorem farL_len (za zb : List Nat) (n : Nat) : (farL za zb n).length = n := by simp [farL]
theorem farL_get (za zb : List Nat) {n k : Nat} (h : k < n) : (farL za zb n).getD k 0 = farN (za.getD k 0) (zb.getD k 0) := by
  simp [farL, List.getD_eq_getElem?_getD, h]
theorem far_sum {za zb : List Nat} {n : Nat} (h : ∀ k, k < n → cls .f32 (farN (za.getD k 0) (zb.getD k 0)) = some (farN (za.getD k 0) (zb.getD k 0))) : ∀ k, k ≤ n → Flo.vsum (farL za zb n) k = sumT (farT za zb) k := by
  intro k
  induction k with
  | zero => intro _; rfl
  | succ k ih =>
    intro hk
    show vop .add .f32 (Flo.vsum (farL za zb n) k) (cls .f32 ((farL za zb n).getD k 0)) = vop .add .f32 (sumT (farT za zb) k) (farT za zb k)
    rw [ih (by omega), farL_get za zb (show k < n by omega), h k (by omega)]; rfl
theorem store_at (P : Program) (W : World) (cs : Array Value) (T : TypeId) (b k x Q : Nat) (m : Mode) (hb : b = W.heap.size) (hk : k < cs.size) :
    (store ⟨b, k, none⟩ (.float .f32 x) m).run P ((W.alloc (.cells cs T)).drewN Q) = .ok () ((W.alloc (.cells (cs.setIfInBounds k (.float .f32 x)) T)).drewN Q) := by
  have h1 : ((W.alloc (.cells cs T)).drewN Q).cell? ⟨b, k, none⟩ = some (cs[k]'hk) := by
    show (W.alloc (.cells cs T)).cell? ⟨b, k, none⟩ = _
    rw [World.cell?_alloc_at _ _ _ _ hb]; exact Array.getElem?_eq_getElem hk
  have h2 : ((W.alloc (.cells cs T)).drewN Q).frozen? ⟨b, k, none⟩ = false := World.frozen?_alloc_at _ _ _ _ hb
  have h3 : ((W.alloc (.cells cs T)).drewN Q).setCell ⟨b, k, none⟩ (.float .f32 x) = (W.alloc (.cells (cs.setIfInBounds k (.float .f32 x)) T)).drewN Q := by
    rw [← World.setCell_alloc_at cs T b k _ hb]; rfl
  rw [run_store _ _ _ _ _ rfl, h1, h2]
  simp only [Bool.false_eq_true, if_false]
  rw [h3]
end Go.Proofs.YthkabonnclfhmaaDoor
