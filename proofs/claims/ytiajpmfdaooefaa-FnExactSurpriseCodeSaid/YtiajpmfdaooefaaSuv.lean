/- How long a word of a surprise is: both ways of telling it. -/
import Derived.Test.YtiajpmfdaooefaaDec
import Derived.Test.YtiajpmfdaooefaaRwi
import Derived.KernelRfl
namespace Go.Proofs.Ytiajpmfdaooefaa.Su
open Go.Proofs.Ytiajpmfdaooefaa.Flo Go.Proofs.Ytiajpmfdaooefaa Go.RowKit

def truncF (y : Nat) : Int := (((FloatKind.f32).decode y).toInt .zero).getD 0
def ltK (k : Int) (y : Nat) : Bool := (FloatKind.f32).format.order (floatOfInt .f32 k) y == some .lt
def LI (y : Nat) : Int := max (if ltK (truncF y) y then truncF y + 1 else truncF y) 1
def LS (y : Nat) : Nat := fkF (fun j => !(ltK ((j : Int) + 1) y)) 199 + 1
theorem fk_ge {p : Nat → Bool} {b : Nat} (h : ∀ j, j < b → p j = false) : ∀ n, b ≤ n → b ≤ fkF p n
  | 0, hb => by omega
  | n + 1, hb => by
    by_cases e : b ≤ n
    · have := fk_ge h n e
      unfold fkF
      split
      · exact this
      · split <;> omega
    · obtain rfl : b = n + 1 := by omega
      rw [fk_no h]
      exact Nat.le_refl _
def chkB (k : Nat) : Bool := match (FloatKind.f32).decode (floatOfInt .f32 (k : Int)) with
  | .number false n j => decide (j ≤ 0) && (n == k * 2 ^ (-j).toNat)
  | _ => false
theorem chk_all : (List.range 256).all chkB = true := by kernel_rfl
theorem chk_one {k : Nat} (h : k < 256) : ∃ n j, (FloatKind.f32).decode (floatOfInt .f32 (k : Int)) = .number false n j ∧ j ≤ 0 ∧ n = k * 2 ^ (-j).toNat := by
  have h1 := List.all_eq_true.1 chk_all k (List.mem_range.2 h)
  unfold chkB at h1
  split at h1
  · next n j e =>
    rw [Bool.and_eq_true] at h1
    exact ⟨n, j, e, of_decide_eq_true h1.1, eq_of_beq h1.2⟩
  · cases h1
theorem cmp_lt (a b : Int) : ((some (compare a b) == some Ordering.lt) = true) ↔ a < b := by
  have e : compare a b = compareOfLessAndEq a b := rfl
  rw [e]
  unfold compareOfLessAndEq
  by_cases h : a < b
  · rw [if_pos h]; simp [h]
  · rw [if_neg h]
    split <;> simp [h]
/-- A small integer against a number: it is less. -/
theorem ltK_iff {y k m : Nat} {i : Int} (hk : k < 256) (hd : (FloatKind.f32).decode y = .number false m i) : ltK (k : Int) y = true ↔ k * 2 ^ (-i).toNat < m * 2 ^ i.toNat := by
  obtain ⟨n, j, e, hj, hn⟩ := chk_one hk
  have h1 : (FloatKind.f32).format.order (floatOfInt .f32 (k : Int)) y = ((FloatKind.f32).decode (floatOfInt .f32 (k : Int))).order ((FloatKind.f32).decode y) := rfl
  unfold ltK
  rw [h1, e, hd]
  have h2 : (Ieee.Datum.number false n j).order (.number false m i) = some (compare (Ieee.signed false n (j - min j i).toNat) (Ieee.signed false m (i - min j i).toNat)) := by simp only [Ieee.Datum.order]
  rw [h2, cmp_lt, signed_false', signed_false', hn, Nat.mul_assoc, ← Nat.pow_add]
  have e1 : (-j).toNat + (j - min j i).toNat = (- min j i).toNat := by omega
  rw [e1]
  by_cases hi : 0 ≤ i
  · have e2 : (i - min j i).toNat = i.toNat + (- min j i).toNat := by omega
    have e3 : (-i).toNat = 0 := by omega
    rw [e2, e3, Nat.pow_add, ← Nat.mul_assoc, Nat.pow_zero, Nat.mul_one]
    have hp : 0 < 2 ^ (- min j i).toNat := Nat.pow_pos (by decide)
    constructor
    · intro h
      exact Nat.lt_of_mul_lt_mul_right (by exact_mod_cast h)
    · intro h
      exact_mod_cast (Nat.mul_lt_mul_right hp).2 h
  · have e2 : (- min j i).toNat = (-i).toNat + (i - min j i).toNat := by omega
    have e3 : i.toNat = 0 := by omega
    rw [e2, e3, Nat.pow_add, ← Nat.mul_assoc, Nat.pow_zero, Nat.mul_one]
    have hp : 0 < 2 ^ (i - min j i).toNat := Nat.pow_pos (by decide)
    constructor
    · intro h
      exact Nat.lt_of_mul_lt_mul_right (by exact_mod_cast h)
    · intro h
      exact_mod_cast (Nat.mul_lt_mul_right hp).2 h
/-- A small integer against a number that is none greater than 0. -/
theorem ltK_neg {y k m : Nat} {i : Int} (hk : k < 256) (hd : (FloatKind.f32).decode y = .number true m i) : ltK (k : Int) y = false := by
  obtain ⟨n, j, e, hj, hn⟩ := chk_one hk
  have h1 : (FloatKind.f32).format.order (floatOfInt .f32 (k : Int)) y = ((FloatKind.f32).decode (floatOfInt .f32 (k : Int))).order ((FloatKind.f32).decode y) := rfl
  have h2 : (Ieee.Datum.number false n j).order (.number true m i) = some (compare (Ieee.signed false n (j - min j i).toNat) (Ieee.signed true m (i - min j i).toNat)) := by simp only [Ieee.Datum.order]
  unfold ltK
  rw [h1, e, hd, h2, Bool.eq_false_iff]
  intro h
  have h3 := (cmp_lt _ _).1 h
  have e4 : Ieee.signed true m (i - min j i).toNat = - Ieee.signed false m (i - min j i).toNat := signed_not false m _
  rw [e4, signed_false', signed_false'] at h3
  omega
theorem ltK_def (k : Int) (y : Nat) : ltK k y = ((FloatKind.f32).format.order (floatOfInt .f32 k) y == some .lt) := rfl
attribute [irreducible] ltK
theorem trunc_eq {y m : Nat} {s : Bool} {i : Int} (hd : (FloatKind.f32).decode y = .number s m i) : truncF y = Ieee.signed s (m * 2 ^ i.toNat / 2 ^ (-i).toNat) 0 := by
  unfold truncF
  rw [hd]
  unfold Ieee.Datum.toInt Ieee.Datum.integral
  simp only [cut_zero, Option.getD_some, Nat.shiftLeft_eq]
theorem trunc_lt {m : Nat} {i : Int} (h : leN 45 m i) : m * 2 ^ i.toNat / 2 ^ (-i).toNat ≤ 2 ^ 45 := by
  have h1 := h (-i).toNat (by omega) (by omega)
  have e1 : (i + ((-i).toNat : Int)).toNat = i.toNat := by omega
  have e2 : ((45 : Int) + ((-i).toNat : Int)).toNat = 45 + (-i).toNat := by omega
  rw [e1, e2, Nat.pow_add] at h1
  exact Nat.div_le_of_le_mul (by rw [Nat.mul_comm (2 ^ (-i).toNat)]; exact h1)
theorem trunc_some {y : Nat} (h : Le 45 ((FloatKind.f32).decode y)) : floatToIntVal .f32 y .i64 = some (truncF y) ∧ -35184372088832 ≤ truncF y ∧ truncF y ≤ 35184372088832 := by
  cases hd : (FloatKind.f32).decode y with
  | number s m i =>
    rw [hd] at h
    have hf := trunc_lt h
    have e : (((FloatKind.f32).decode y).toInt .zero) = some (truncF y) := by
      rw [trunc_eq hd, hd]
      unfold Ieee.Datum.toInt Ieee.Datum.integral
      simp only [cut_zero, Nat.shiftLeft_eq]
    have hs := signed_natAbs s (m * 2 ^ i.toNat / 2 ^ (-i).toNat) 0
    rw [Nat.shiftLeft_zero, ← trunc_eq hd] at hs
    have hb : -35184372088832 ≤ truncF y ∧ truncF y ≤ 35184372088832 := by
      generalize m * 2 ^ i.toNat / 2 ^ (-i).toNat = q at hf hs
      have : (2 : Nat) ^ 45 = 35184372088832 := rfl
      omega
    refine ⟨?_, hb⟩
    unfold floatToIntVal
    rw [e]
    have h1 : IntKind.i64.min = -9223372036854775808 := rfl
    have h2 : IntKind.i64.max = 9223372036854775807 := rfl
    simp only []
    rw [if_pos]
    rw [h1, h2]
    omega
  | infinity s => rw [hd] at h; cases h
  | nan s t => rw [hd] at h; cases h
theorem LI_1 (y : Nat) : 1 ≤ LI y := by unfold LI; omega
set_option maxHeartbeats 2000000 in
/-- Both ways tell the same, but where both are too long for a word. -/
theorem long_same {y : Nat} (h : Le 45 ((FloatKind.f32).decode y)) : (33 ≤ LS y ∧ 33 ≤ LI y) ∨ (LS y : Int) = LI y := by
  cases hd : (FloatKind.f32).decode y with
  | number s m i =>
    cases s with
    | true =>
      right
      have h1 : LS y = 1 := by
        unfold LS
        have h0 : ltK (((0 : Nat) : Int) + 1) y = false := by rw [show (((0 : Nat) : Int) + 1) = ((1 : Nat) : Int) from rfl]; exact ltK_neg (by omega) hd
        rw [fk_yes (k := 0) (p := fun j => !(ltK ((j : Int) + 1) y)) (by simp only [h0, Bool.not_false]) (by intro j hj; omega) (by omega)]
      have h2 : truncF y ≤ 0 := by
        rw [trunc_eq hd]
        have e4 : Ieee.signed true (m * 2 ^ i.toNat / 2 ^ (-i).toNat) 0 = - Ieee.signed false (m * 2 ^ i.toNat / 2 ^ (-i).toNat) 0 := signed_not false _ _
        rw [e4, signed_false']
        omega
      rw [h1]
      unfold LI
      split <;> omega
    | false =>
      have hT := trunc_eq hd
      rw [signed_false', Nat.pow_zero, Nat.mul_one] at hT
      have hlt : ∀ k : Nat, k < 256 → (ltK (k : Int) y = true ↔ k * 2 ^ (-i).toNat < m * 2 ^ i.toNat) := fun k hk => ltK_iff hk hd
      have hp : 0 < 2 ^ (-i).toNat := Nat.pow_pos (by decide)
      generalize m * 2 ^ i.toNat = M at hT hlt
      generalize 2 ^ (-i).toNat = D at hT hlt hp
      obtain ⟨T, hTe⟩ : ∃ T, T = M / D := ⟨_, rfl⟩
      rw [← hTe] at hT
      have hd1 : T * D ≤ M := by rw [hTe]; exact Nat.div_mul_le_self M D
      have hd2 : M < (T + 1) * D := by
        have h1 := Nat.div_add_mod M D
        have h2 := Nat.mod_lt M hp
        rw [hTe, Nat.add_mul, Nat.one_mul, Nat.mul_comm (M / D) D]
        omega
      have hmon : ∀ a b : Nat, a < b → a * D < b * D := fun a b h => (Nat.mul_lt_mul_right hp).2 h
      have hmon2 : ∀ a b : Nat, a ≤ b → a * D ≤ b * D := fun a b h => Nat.mul_le_mul_right _ h
      by_cases hs : T ≤ 100
      · right
        obtain ⟨c, hc, hc1, hc2⟩ : ∃ c : Nat, LI y = ((c + 1 : Nat) : Int) ∧ ¬ (c + 1) * D < M ∧ (c = 0 ∨ c * D < M) ∧ c ≤ 100 := by
          unfold LI
          rw [hT]
          by_cases hl : T * D < M
          · rw [if_pos ((hlt T (by omega)).2 hl)]
            exact ⟨T, by omega, by omega, .inr hl, hs⟩
          · rw [if_neg (fun e => hl ((hlt T (by omega)).1 e))]
            cases T with
            | zero => exact ⟨0, by omega, by have := hmon2 0 (0 + 1) (by omega); omega, .inl rfl, by omega⟩
            | succ t => exact ⟨t, by omega, hl, .inr (Nat.lt_of_lt_of_le (hmon t (t + 1) (by omega)) hd1), by omega⟩
        rw [hc]
        have hf : fkF (fun j => !(ltK ((j : Int) + 1) y)) 199 = c := fk_yes (by
            have := hlt (c + 1) (by omega)
            have h2 : ltK ((c + 1 : Nat) : Int) y = false := by
              rw [Bool.eq_false_iff]
              exact fun e => hc1 (this.1 e)
            show (!(ltK ((c : Int) + 1) y)) = true
            rw [show ((c : Int) + 1) = ((c + 1 : Nat) : Int) from by omega, h2]; rfl) (fun j hj => by
            have h3 : (j + 1) * D < M := by
              rcases hc2.1 with h0 | h0
              · omega
              · exact Nat.lt_of_le_of_lt (hmon2 (j + 1) c (by omega)) h0
            have h2 := (hlt (j + 1) (by omega)).2 h3
            show (!(ltK ((j : Int) + 1) y)) = false
            rw [show ((j : Int) + 1) = ((j + 1 : Nat) : Int) from by omega, h2]; rfl) (by omega)
        unfold LS
        rw [hf]
      · left
        constructor
        · unfold LS
          have := fk_ge (p := fun j => !(ltK ((j : Int) + 1) y)) (b := 50) (fun j hj => by
            have h3 : (j + 1) * D < M := Nat.lt_of_lt_of_le (hmon (j + 1) T (by omega)) hd1
            have h2 := (hlt (j + 1) (by omega)).2 h3
            show (!(ltK ((j : Int) + 1) y)) = false
            rw [show ((j : Int) + 1) = ((j + 1 : Nat) : Int) from by omega, h2]; rfl) 199 (by omega)
          omega
        · unfold LI
          rw [hT]
          split <;> omega
  | infinity s => rw [hd] at h; exact (show False from h).elim
  | nan s t => rw [hd] at h; exact (show False from h).elim
end Go.Proofs.Ytiajpmfdaooefaa.Su
