
/- Parts of tables: walks. -/
import Derived.Test.YtnljabgkaelplaaDoorRcv
namespace Go.Proofs.YtnljabgkaelplaaDoor
open Go.Proofs.YtnljabgkaelplaaDoor.Flo Go.RowKit

/-- The quotients of numbers and a whole. -/
def quoV (zs : List Nat) (y : Nat) (i : Nat) : Option Nat := vop .quo .f32 (cls .f32 (zs.getD i 0)) (cls .f32 y)
theorem mix_put (zs : List Nat) (k n z : Nat) (hk : k < n) (h : zs.length = n) : (mix zs k n).setIfInBounds k (.float .f32 z) = mix (zs.set k z) (k + 1) n := by
  have e1 : mix zs k n = mix (zs.set k z) k n := by
    unfold mix
    rw [← List.map_take, ← List.map_take, List.take_set_of_le (by omega)]
  have e2 : (zs.set k z).getD k 0 = z := by rw [List.getD_eq_getElem?_getD, List.getElem?_set_self (by omega)]; rfl
  have := mix_set (zs.set k z) k n hk (by rw [List.length_set]; exact h)
  rw [e2] at this
  rw [e1, this]
theorem set_cls {zq : List Nat} {k z n : Nat} {V : Nat → Option Nat} (h : ∀ i, i < k → cls .f32 (zq.getD i 0) = V i) (hz : cls .f32 z = V k) (hl : zq.length = n) (hk : k < n) : ∀ i, i < k + 1 → cls .f32 ((zq.set k z).getD i 0) = V i := by
  intro i hi
  by_cases e : i = k
  · subst e
    rw [List.getD_eq_getElem?_getD, List.getElem?_set_self (by omega)]; exact hz
  · rw [List.getD_eq_getElem?_getD, List.getElem?_set_ne (fun e2 => e e2.symm), ← List.getD_eq_getElem?_getD]; exact h i (by omega)
end Go.Proofs.YtnljabgkaelplaaDoor
