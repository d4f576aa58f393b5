
/- CrossEntropy: its terms, the walks, the law. -/
import Derived.Test.YthkabonnclfhmaaDoorCrs
namespace Go.Proofs.YthkabonnclfhmaaDoor
open Go.Proofs.YthkabonnclfhmaaDoor.Flo Go.RowKit

theorem cov_at {za zb : List Nat} {n : Nat} (h : covB za zb n = true) {k : Nat} (hk : k < n) (hz : zeroB (za.getD k 0) = false) : zeroB (zb.getD k 0) = false := by
  unfold covB at h
  have := of_decide_eq_true h k hk
  rw [hz, Bool.false_or] at this
  simpa using this
/-- A chance that is not 0: its bits are a number. -/
theorem ch_bits {zs : List Nat} {n : Nat} (h : chS zs n = true) {k : Nat} (hk : k < n) (hz : zeroB (zs.getD k 0) = false) : VLe .f32 44 (bitsV (zs.getD k 0)) := by
  obtain ⟨s, m, i, hd, hs, _⟩ := ch_each h hk
  rcases num_order _ hd hs with ⟨_, h1⟩ | ⟨rfl, h0, _⟩
  · unfold zeroB at hz; rw [h1] at hz; cases hz
  · exact bitsV_le hd h0
theorem ch_inf {zs : List Nat} {n : Nat} (h : chS zs n = true) {k : Nat} (hk : k < n) : (FloatKind.f32).decode (zs.getD k 0) = .infinity false → zs.getD k 0 = 2139095040 := by
  obtain ⟨s, m, i, hd, _⟩ := ch_each h hk
  rw [hd]; intro e; cases e
theorem ch_le {zs : List Nat} {n : Nat} (h : chS zs n = true) {k : Nat} (hk : k < n) : VLe .f32 1 (cls .f32 (zs.getD k 0)) := by
  obtain ⟨_, _, _, _, _, h⟩ := ch_each h hk; exact h
/-- What is returned: 0 where it fails. -/
def ansV (b : Bool) (v : Option Nat) : Option Nat := if b then v else cls .f32 0
theorem ret_fb {r : Nat} {b c : Bool} (h : b = c) : Ending.returned (.tuple #[.float .f32 r, .bool b]) = .returned (.tuple #[.float .f32 r, .bool c]) := by rw [h]
theorem le_032 : VLe .f32 0 (cls .f32 0) := ⟨0, cls_032, by rw [dec_032]; exact leN_of_log (.inl rfl)⟩

/-- A term of a cross entropy. -/
def crossT (za zb : List Nat) (k : Nat) : Option Nat := vop .mul .f32 (cls .f32 (za.getD k 0)) (bitsV (zb.getD k 0))
def crossV (za zb : List Nat) (n : Nat) : Option Nat := vop .sub .f32 (cls .f32 0) (vterms za (crossT za zb) n)
theorem crossV_le {za zb : List Nat} {n : Nat} (hca : chS za n = true) (hcb : chS zb n = true) (hcv : covB za zb n = true) (hn : n ≤ 32) : VLe .f32 127 (crossV za zb n) := by
  have hT : ∀ k, k < n → zeroB (za.getD k 0) = false → VLe .f32 45 (crossT za zb k) := fun k hk hz =>
    vmul_le (ch_le hca hk) (ch_bits hcb hk (cov_at hcv hk hz)) ⟨by decide, by decide⟩
  have hS := vterms_le (zs := za) (n := n) (by decide : (0:Int) ≤ 45) (by omega) hT n (Nat.le_refl _)
  exact (vsub_le le_032 hS ⟨by omega, by omega⟩).mono (by omega)
def okX (za zb : List Nat) (n m : Nat) : Bool := twoB za zb n m && covB za zb n
end Go.Proofs.YthkabonnclfhmaaDoor
