
/- GivenRow: plain facts and walks. -/
import Derived.Test.YtnljabgkaelplaaDoorRpb
namespace Go.Proofs.YtnljabgkaelplaaDoor
open Go.Proofs.YtnljabgkaelplaaDoor.Flo Go.RowKit

/-- A quotient by zero is no number. -/
theorem quo_zero (x : Nat) {y : Nat} {s : Bool} {i : Int} (hy : (FloatKind.f32).decode y = .number s 0 i) : Bad (vop .quo .f32 (cls .f32 x) (cls .f32 y)) := by
  rw [vop_cls]
  show Bad ((((FloatKind.f32).decode x).quotient ((FloatKind.f32).format.fractionBits + 2) ((FloatKind.f32).decode y)).map (FloatKind.f32).format.write)
  rw [hy]
  cases (FloatKind.f32).decode x with
  | nan => exact .inl rfl
  | infinity t => exact .inr ⟨_, t ^^ s, rfl, by cases t <;> cases s <;> decide +kernel⟩
  | number t m j =>
    simp only [Ieee.Datum.quotient, if_true]
    by_cases h0 : m = 0
    · rw [if_pos h0]; exact .inl rfl
    · rw [if_neg h0]; exact .inr ⟨_, t ^^ s, rfl, by cases t <;> cases s <;> decide +kernel⟩
def aboveB (z : Nat) : Bool := finD ((FloatKind.f32).decode z) && (FloatKind.f32).format.order z 0 == some .gt
theorem not_above {y : Nat} (hp : PosD ((FloatKind.f32).decode y)) (hf : finD ((FloatKind.f32).decode y) = true) (ha : aboveB y = false) : ∃ s i, (FloatKind.f32).decode y = .number s 0 i := by
  unfold aboveB at ha
  rw [hf, Bool.true_and] at ha
  have e1 : (FloatKind.f32).format.order y 0 = ((FloatKind.f32).decode y).order (.number false 0 (-149)) := by rw [← dec_032]; rfl
  rw [e1] at ha
  cases hd : (FloatKind.f32).decode y with
  | nan => rw [hd] at hf; cases hf
  | infinity s => rw [hd] at hf; cases hf
  | number s m i =>
    rw [hd] at ha hp
    rw [order_0, posD_signed hp] at ha
    refine ⟨s, i, ?_⟩
    by_cases h0 : m = 0
    · rw [h0]
    · exfalso
      have hpos : 0 < m * 2 ^ (i - min i (-149)).toNat := Nat.mul_pos (by omega) (Nat.two_pow_pos _)
      generalize m * 2 ^ (i - min i (-149)).toNat = v at ha hpos
      have : compare ((v : Nat) : Int) 0 = .gt := by
        rw [Int.compare_eq_gt]; omega
      rw [this] at ha
      cases ha
theorem part_le {zs : List Nat} {n i c : Nat} (hc : chS zs n = true) (hin : i * c + c ≤ n) (hc8 : c ≤ 8) : ∀ k, k ≤ c → VLe .f32 (2 + k) (Flo.vsum (sub zs i c) k) := by
  intro k
  induction k with
  | zero => intro _; exact le_032.mono (by omega)
  | succ k ih =>
    intro hk
    have h1 := ih (by omega)
    have h2 : VLe .f32 1 (cls .f32 ((sub zs i c).getD k 0)) := by rw [sub_get zs i c (by omega)]; exact ch_le hc (by omega)
    exact (vadd_le h1 h2 ⟨by omega, by omega⟩).mono (by omega)
theorem ch_least {zs : List Nat} {n : Nat} (hc : chS zs n = true) {k : Nat} (hk : k < n) : leastB (zs.getD k 0) = true := by
  unfold chS at hc
  rw [Bool.and_eq_true] at hc
  exact of_decide_eq_true hc.1 k hk
theorem part_pos {zs : List Nat} {n i c : Nat} (hc : chS zs n = true) (hin : i * c + c ≤ n) : VPos .f32 (Flo.vsum (sub zs i c) c) :=
  vsum_pos c (fun k hk => by rw [sub_get zs i c hk]; exact ch_least hc (by omega))
/-- The sum of a part is a number that is not negative. -/
theorem part_num {zs : List Nat} {n i c : Nat} (hc : chS zs n = true) (hin : i * c + c ≤ n) (hc8 : c ≤ 8) : ∃ y, rowsV zs c i = some y ∧ cls .f32 y = some y ∧ PosD ((FloatKind.f32).decode y) ∧ finD ((FloatKind.f32).decode y) = true := by
  obtain ⟨y, hy, hp⟩ := part_pos hc hin
  have hle := part_le hc hin hc8 c (Nat.le_refl _)
  obtain ⟨y', hy', hl⟩ := hle
  have e : y' = y := by rw [hy] at hy'; injection hy' with h; exact h.symm
  subst e
  have hfin : finD ((FloatKind.f32).decode y') = true := by
    cases hd : (FloatKind.f32).decode y' with
    | number => rfl
    | infinity => rw [hd] at hl; exact hl.elim
    | nan => rw [hd] at hl; exact hl.elim
  refine ⟨y', hy, cls_of_not (by cases hd : (FloatKind.f32).decode y' with
    | number => rfl
    | infinity => rfl
    | nan => rw [hd] at hfin; cases hfin), hp, hfin⟩
/-- The chances of a row of a table. -/
def givV (zs : List Nat) (i c k : Nat) : Option Nat := vop .quo .f32 (cls .f32 ((sub zs i c).getD k 0)) (rowsV zs c i)
def okGR (r c : Int) (zs : List Nat) (n : Nat) (i : Int) : Bool := tabB r c zs n && (decide (0 ≤ i ∧ i < r) && rowV (givV zs i.toNat c.toNat) c.toNat)
theorem above_row {zs : List Nat} {i c y : Nat} (hy : rowsV zs c i = some y) (hcy : cls .f32 y = some y) (hp : PosD ((FloatKind.f32).decode y)) (hf : finD ((FloatKind.f32).decode y) = true) (hc : 0 < c) (hrow : rowV (givV zs i c) c = true) : aboveB y = true := by
  cases ha : aboveB y with
  | true => rfl
  | false =>
    obtain ⟨s, j, hd⟩ := not_above hp hf ha
    have hb : Bad (givV zs i c 0) := by
      unfold givV
      rw [hy, ← hcy]
      exact quo_zero _ hd
    have hV : ∃ z, cls .f32 z = givV zs i c 0 := by
      unfold givV
      rw [hy, ← hcy, vop_cls]
      cases h : floatBits .quo .f32 ((sub zs i c).getD 0 0) y with
      | none => exact ⟨nan32, cls_nan32q⟩
      | some b => exact ⟨b, cls_of_not (floatBits_notNaN h)⟩
    rw [rowV_bad hc hV hb] at hrow
    cases hrow
theorem row_cell {w : World} {b o n : Nat} {zs : List Nat} (h : FRow w (some ⟨b, o, none⟩) n zs) {k : Nat} (hk : k < n) : w.cell? ⟨b, o + k, none⟩ = some (.float .f32 (zs.getD k 0)) := by
  rcases h.2 with h0 | ⟨b1, o1, e, _, hc⟩
  · omega
  · injection e with e
    injection e with e1 e2
    subst e1; subst e2
    exact hc k hk
end Go.Proofs.YtnljabgkaelplaaDoor
