
/- Types: plain facts on how many words there are; no program. -/
import Derived.WalkKit
namespace Go.Proofs.YtjlifbnenngijaaDoor.Ctv

/-- T + i over i, one step after another. -/
def chF (T : Nat) : Nat → Nat
  | 0 => 1
  | i + 1 => chF T i * (T + i + 1) / (i + 1)
theorem chF_small : ∀ T : Fin 31, ∀ i : Fin 8, chF T.1 i.1 ≤ 100000000 := by decide +kernel
theorem chF_exact : ∀ T : Fin 21, ∀ i : Fin 20, (chF T.1 i.1 * (T.1 + i.1 + 1)) % (i.1 + 1) = 0 := by decide +kernel
theorem chF_bound : ∀ j : Fin 8, ∀ T : Fin 21, ∀ i : Fin 21, T.1 + i.1 ≤ 20 → chF T.1 i.1 * j.1 ^ T.1 ≤ (j.1 + 1) ^ (T.1 + i.1) := by decide +kernel
theorem chF_zero : ∀ i : Fin 31, chF 0 i.1 = 1 := by decide +kernel
theorem pow_top : ∀ j : Fin 9, ∀ t : Fin 20, (j.1) ^ t.1 * 20 < 2 ^ 62 := by decide +kernel
theorem pow_all : ∀ j : Fin 9, ∀ t : Fin 21, (j.1) ^ t.1 < 2 ^ 62 := by decide +kernel

/-- The sum of the first k counts. -/
def totN (zs : List Int) : Nat → Nat
  | 0 => 0
  | k + 1 => totN zs k + (zs.getD k 0).toNat
/-- How many words have the first k counts. -/
def wrd (zs : List Int) : Nat → Nat
  | 0 => 1
  | k + 1 => wrd zs k * chF (totN zs k) (zs.getD k 0).toNat
theorem totN_mono (zs : List Int) (k : Nat) : totN zs k ≤ totN zs (k + 1) := Nat.le_add_right _ _
theorem totN_le (zs : List Int) {k n : Nat} (h : k ≤ n) : totN zs k ≤ totN zs n := by
  induction n with
  | zero => rw [Nat.le_zero.1 h]; exact Nat.le_refl _
  | succ n ih =>
    by_cases e : k = n + 1
    · rw [e]; exact Nat.le_refl _
    · exact Nat.le_trans (ih (by omega)) (totN_mono zs n)

theorem wrd_le (zs : List Int) : ∀ k, k ≤ 8 → totN zs k ≤ 20 → wrd zs k ≤ k ^ totN zs k := by
  intro k
  induction k with
  | zero => intro _ _; exact Nat.le_refl _
  | succ k ih =>
    intro hk ht
    have h1 := ih (by omega) (Nat.le_trans (totN_mono zs k) ht)
    have e : totN zs (k + 1) = totN zs k + (zs.getD k 0).toNat := rfl
    have e2 : wrd zs (k + 1) = wrd zs k * chF (totN zs k) (zs.getD k 0).toNat := rfl
    rw [e] at ht
    rw [e, e2]
    generalize (zs.getD k 0).toNat = i at ht ⊢
    generalize totN zs k = T at ht h1 ⊢
    have h2 : chF T i * k ^ T ≤ (k + 1) ^ (T + i) := chF_bound ⟨k, by omega⟩ ⟨T, by omega⟩ ⟨i, by omega⟩ ht
    calc wrd zs k * chF T i ≤ k ^ T * chF T i := Nat.mul_le_mul_right _ h1
      _ = chF T i * k ^ T := Nat.mul_comm ..
      _ ≤ _ := h2

/-- One step: the quotient is exact, and nothing is too great. -/
theorem step {P T i k : Nat} (hP : P ≤ k ^ T) (hk : k < 8) (ht : T + i < 20) :
    P * chF T i * (T + i + 1) / (i + 1) = P * chF T (i + 1) ∧ P * chF T i * (T + i + 1) < 2 ^ 62 ∧ P * chF T (i + 1) < 2 ^ 62 := by
  have hx : (chF T i * (T + i + 1)) % (i + 1) = 0 := chF_exact ⟨T, by omega⟩ ⟨i, by omega⟩
  have hb : ∀ j, T + j ≤ 20 → P * chF T j ≤ (k + 1) ^ (T + j) := fun j hj => by
    have h2 : chF T j * k ^ T ≤ (k + 1) ^ (T + j) := chF_bound ⟨k, by omega⟩ ⟨T, by omega⟩ ⟨j, by omega⟩ hj
    calc P * chF T j ≤ k ^ T * chF T j := Nat.mul_le_mul_right _ hP
      _ = chF T j * k ^ T := Nat.mul_comm ..
      _ ≤ _ := h2
  refine ⟨?_, ?_, ?_⟩
  · rw [Nat.mul_assoc, Nat.mul_div_assoc _ (Nat.dvd_of_mod_eq_zero hx)]; rfl
  · have h1 := hb i (by omega)
    have h3 : (k + 1) ^ (T + i) * 20 < 2 ^ 62 := pow_top ⟨k + 1, by omega⟩ ⟨T + i, ht⟩
    have h4 : P * chF T i * (T + i + 1) ≤ (k + 1) ^ (T + i) * 20 := Nat.mul_le_mul h1 (by omega)
    omega
  · have h1 := hb (i + 1) (by omega)
    have h3 : (k + 1) ^ (T + (i + 1)) < 2 ^ 62 := pow_all ⟨k + 1, by omega⟩ ⟨T + (i + 1), by omega⟩
    omega
theorem one_le {T i : Nat} (ht : T + i ≤ 20) : chF T i < 2 ^ 40 := by
  have h2 : chF T i * 1 ^ T ≤ (1 + 1) ^ (T + i) := chF_bound ⟨1, by omega⟩ ⟨T, by omega⟩ ⟨i, by omega⟩ ht
  have h3 : (1 + 1) ^ (T + i) ≤ 2 ^ 20 := Nat.pow_le_pow_right (by omega) ht
  rw [Nat.one_pow, Nat.mul_one] at h2
  omega
end Go.Proofs.YtjlifbnenngijaaDoor.Ctv
