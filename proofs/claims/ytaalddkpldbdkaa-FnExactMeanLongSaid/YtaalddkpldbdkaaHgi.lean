/- Channels: those that are given; classes. -/
import Derived.Test.YtaalddkpldbdkaaChv
namespace Go.Proofs.Ytaalddkpldbdkaa
open Go.Proofs.Ytaalddkpldbdkaa.Flo Go.RowKit

/-- A share: from 0 to 1. -/
def shareH (x : Nat) : Bool := ((FloatKind.f32).format.order x 0 == some .gt || (FloatKind.f32).format.order x 0 == some .eq) && ((FloatKind.f32).format.order x 1065353216 == some .lt || (FloatKind.f32).format.order x 1065353216 == some .eq)
theorem shH_true {x : Nat} (h : shareH x = true) : ((FloatKind.f32).format.order x 0 == some .gt || (FloatKind.f32).format.order x 0 == some .eq) = true ∧ ((FloatKind.f32).format.order x 1065353216 == some .lt || (FloatKind.f32).format.order x 1065353216 == some .eq) = true := by
  unfold shareH at h
  rw [Bool.and_eq_true] at h
  exact h
theorem shH_false {x : Nat} (h : shareH x = false) : ((FloatKind.f32).format.order x 0 == some .gt || (FloatKind.f32).format.order x 0 == some .eq) = false ∨ (((FloatKind.f32).format.order x 0 == some .gt || (FloatKind.f32).format.order x 0 == some .eq) = true ∧ ((FloatKind.f32).format.order x 1065353216 == some .lt || (FloatKind.f32).format.order x 1065353216 == some .eq) = false) := by
  unfold shareH at h
  cases h1 : ((FloatKind.f32).format.order x 0 == some .gt || (FloatKind.f32).format.order x 0 == some .eq) with
  | false => exact .inl rfl
  | true => rw [h1, Bool.true_and] at h; exact .inr ⟨rfl, h⟩
/-- All rows are rows, of classes. -/
def rowsVB (V : Nat → Option Nat) (R C : Nat) : Bool := decide (∀ i, i < R → rowV (fun k => V (i * C + k)) C = true)
def chanVB (V : Nat → Option Nat) (R C : Nat) : Bool := decide (1 ≤ R ∧ R ≤ 8) && (decide (1 ≤ C ∧ C ≤ 8) && rowsVB V R C)
theorem chan_V {R C : Nat} {zr : List Nat} {V : Nat → Option Nat} (h : ∀ i, i < R * C → cls .f32 (zr.getD i 0) = V i) : chanB (R : Int) (C : Int) zr (R * C) = chanVB V R C := by
  have e : rowsB zr R C = rowsVB V R C := by
    unfold rowsB rowsVB
    refine decide_eq_decide.2 ⟨fun g i hi => ?_, fun g i hi => ?_⟩
    · rw [← g i hi]; exact (rowB_V (fun k hk => by rw [sub_get _ _ _ hk]; exact h _ (mul_in rfl hi hk))).symm
    · rw [← g i hi]; exact rowB_V (fun k hk => by rw [sub_get _ _ _ hk]; exact h _ (mul_in rfl hi hk))
  unfold chanB chanVB
  have e1 : decide (1 ≤ (R : Int) ∧ (R : Int) ≤ 8) = decide (1 ≤ R ∧ R ≤ 8) := decide_eq_decide.2 (by omega)
  have e2 : decide (1 ≤ (C : Int) ∧ (C : Int) ≤ 8) = decide (1 ≤ C ∧ C ≤ 8) := decide_eq_decide.2 (by omega)
  rw [e1, e2, decide_eq_true (Int.natCast_mul R C)]
  rw [Bool.true_and, ← e]
  rfl
theorem Got.fin'' {w : World} {base : Nat} {T : TypeId} {g n cap : Nat} {V : Nat → Option Nat} (h : Got w base T (.slice (some ⟨g, 0, none⟩) n cap) n V) (hn : n ≠ 0) :
    ∃ zs, base ≤ g ∧ g < w.heap.size ∧ FRow w (some ⟨g, 0, none⟩) n zs ∧ (∀ i, i < n → cls .f32 (zs.getD i 0) = V i) ∧ Ent.ok w g (.cl n V) := by
  obtain ⟨zs, h1, h2⟩ := h
  obtain ⟨g', cap', e, hg, hgl, hr, hf⟩ := own_row h2 hn
  injection e with e1 e2 e3
  injection e1 with e1
  injection e1 with e1
  subst e1
  exact ⟨zs, hg, hgl, hr, h1, zs, h1, Ent.fl_ok hr hf⟩
end Go.Proofs.Ytaalddkpldbdkaa
