
/- Texts and counts: when they are valid. -/
import Derived.Test.YtaefmffmjbabcaaFrx
import Derived.Test.YtaefmffmjbabcaaSmv
import Derived.Test.YtaefmffmjbabcaaCob
namespace Go.Proofs.Ytaefmffmjbabcaa
open Go.Proofs.Ytaefmffmjbabcaa.Flo Go.RowKit

/-- A text. -/
def itB (zs : List Int) (m : Nat) (n : Int) : Bool := decide (2 ≤ n ∧ n ≤ 16) && (decide (m ≤ 64) && decide (letP zs n m))
theorem it_out {zs : List Int} {m : Nat} {n : Int} (h : itB zs m n = true) : (2 ≤ n ∧ n ≤ 16) ∧ m ≤ 64 ∧ letP zs n m := by
  unfold itB at h
  rw [Bool.and_eq_true, Bool.and_eq_true] at h
  exact ⟨of_decide_eq_true h.1, of_decide_eq_true h.2.1, of_decide_eq_true h.2.2⟩
theorem it_n {zs : List Int} {m : Nat} {n : Int} (h : ¬ (2 ≤ n ∧ n ≤ 16)) : itB zs m n = false := by unfold itB; rw [decide_eq_false h]; rfl
theorem it_m {zs : List Int} {m : Nat} {n : Int} (h : ¬ m ≤ 64) : itB zs m n = false := by unfold itB; rw [decide_eq_false h]; simp
theorem it_k {zs : List Int} {m k : Nat} {n : Int} (hk : k < m) (h : ¬ (0 ≤ zs.getD k 0 ∧ zs.getD k 0 < n)) : itB zs m n = false := by
  unfold itB; rw [decide_eq_false (p := letP zs n m) (fun e => h (e k hk))]; simp
theorem it_all {zs : List Int} {m : Nat} {n : Int} (h1 : 2 ≤ n ∧ n ≤ 16) (h2 : m ≤ 64) (h3 : letP zs n m) : itB zs m n = true := by
  unfold itB; rw [decide_eq_true h1, decide_eq_true h2, decide_eq_true h3]; rfl
theorem it_let {zs : List Int} {m : Nat} {n : Int} (h1 : 2 ≤ n ∧ n ≤ 16) (h2 : m ≤ 64) : itB zs m n = letB zs m n := by
  unfold itB letB
  rw [decide_eq_true h1, decide_eq_true h2, decide_eq_true (show m ≤ 512 by omega)]
  simp
/-- Parts: from 1 to 16384, of as many letters as texts can have. -/
def ptP (zs : List Int) (n : Nat) : Prop := ∀ k, k < n → 1 ≤ zs.getD k 0 ∧ zs.getD k 0 ≤ 16384
instance (zs : List Int) (n : Nat) : Decidable (ptP zs n) := inferInstanceAs (Decidable (∀ k, k < n → 1 ≤ zs.getD k 0 ∧ zs.getD k 0 ≤ 16384))
def ptB (zs : List Int) (n : Nat) : Bool := decide (2 ≤ n ∧ n ≤ 16) && decide (ptP zs n)
theorem pt_out {zs : List Int} {n : Nat} (h : ptB zs n = true) : (2 ≤ n ∧ n ≤ 16) ∧ ptP zs n := by
  unfold ptB at h
  rw [Bool.and_eq_true] at h
  exact ⟨of_decide_eq_true h.1, of_decide_eq_true h.2⟩
theorem pt_k {zs : List Int} {n k : Nat} (hk : k < n) (h : ¬ (1 ≤ zs.getD k 0 ∧ zs.getD k 0 ≤ 16384)) : ptB zs n = false := by
  unfold ptB; rw [decide_eq_false (p := ptP zs n) (fun e => h (e k hk))]; simp
theorem pt_end {zs : List Int} {n : Nat} (h : ptP zs n) : ptB zs n = decide (2 ≤ n ∧ n ≤ 16) := by
  unfold ptB; rw [decide_eq_true h]; simp
theorem pt_cnt {zs : List Int} {n : Nat} (h : ptB zs n = true) : cntB zs n = true := by
  obtain ⟨h1, h2⟩ := pt_out h
  rw [cnt_end (fun k hk => by have := h2 k hk; omega)]
  exact decide_eq_true (by omega)
theorem tot_ge {zs : List Int} {n : Nat} (h : ptP zs n) : ∀ m, m ≤ n → ∀ k, k < m → 0 ≤ tot zs m ∧ zs.getD k 0 ≤ tot zs m
  | 0, _, k, hk => by omega
  | m + 1, hm, k, hk => by
    have e : tot zs (m + 1) = tot zs m + zs.getD m 0 := rfl
    have h1 := (h m (by omega)).1
    have h0 : 0 ≤ tot zs m := by
      cases m with
      | zero => exact Int.le_refl _
      | succ j => exact (tot_ge h (j + 1) (by omega) 0 (by omega)).1
    rw [e]
    by_cases hkm : k < m
    · have := (tot_ge h m (by omega) k hkm).2
      omega
    · obtain rfl : k = m := by omega
      omega
/-- Counts. -/
def coB (r : Int) (zs : List Int) (n : Nat) : Bool := decide ((n : Int) = r) && (ptB zs n && decide (tot zs n ≤ 16384))
theorem co_out {r : Int} {zs : List Int} {n : Nat} (h : coB r zs n = true) : (n : Int) = r ∧ (2 ≤ n ∧ n ≤ 16) ∧ ptP zs n ∧ tot zs n ≤ 16384 := by
  unfold coB at h
  rw [Bool.and_eq_true, Bool.and_eq_true] at h
  obtain ⟨h1, h2⟩ := pt_out h.2.1
  exact ⟨of_decide_eq_true h.1, h1, h2, of_decide_eq_true h.2.2⟩
theorem co_pt {r : Int} {zs : List Int} {n : Nat} (h : coB r zs n = true) : ptB zs n = true := by
  unfold coB at h
  rw [Bool.and_eq_true, Bool.and_eq_true] at h
  exact h.2.1
theorem co_r {r : Int} {zs : List Int} {n : Nat} (h : ¬ (n : Int) = r) : coB r zs n = false := by unfold coB; rw [decide_eq_false h]; rfl
theorem co_p {r : Int} {zs : List Int} {n : Nat} (h : ptB zs n = false) : coB r zs n = false := by unfold coB; rw [h]; simp
theorem co_n {r : Int} {zs : List Int} {n : Nat} (h : ¬ (2 ≤ r ∧ r ≤ 16)) : coB r zs n = false := by
  by_cases e : (n : Int) = r
  · unfold coB ptB; rw [decide_eq_false (p := 2 ≤ n ∧ n ≤ 16) (by omega)]; simp
  · exact co_r e
theorem co_end {r : Int} {zs : List Int} {n : Nat} (h1 : (n : Int) = r) (h2 : ptB zs n = true) : coB r zs n = decide (tot zs n ≤ 16384) := by
  unfold coB; rw [decide_eq_true h1, h2]; simp
theorem co_all {r : Int} {zs : List Int} {n : Nat} (h1 : (n : Int) = r) (h2 : 2 ≤ n ∧ n ≤ 16) (h3 : ptP zs n) (h4 : tot zs n ≤ 16384) : coB r zs n = true := by
  rw [co_end h1 (by rw [pt_end h3]; exact decide_eq_true h2)]
  exact decide_eq_true h4
/-- Shares. -/
def shP (zs : List Int) (n : Nat) : Prop := ∀ k, k < n → 1 ≤ zs.getD k 0 ∧ zs.getD k 0 ≤ 256
instance (zs : List Int) (n : Nat) : Decidable (shP zs n) := inferInstanceAs (Decidable (∀ k, k < n → 1 ≤ zs.getD k 0 ∧ zs.getD k 0 ≤ 256))
def stB (p : Int) (zs : List Int) (n : Nat) : Bool := decide (1 ≤ p ∧ p ≤ 8) && (decide (2 ≤ n ∧ n ≤ 16) && (decide (shP zs n) && decide (tot zs n = 2 ^ p.toNat)))
theorem p2_8 {p : Int} (h : 1 ≤ p ∧ p ≤ 8) : (2 : Int) ^ p.toNat ≤ 256 ∧ 2 ≤ (2 : Int) ^ p.toNat := by
  have h1 : p.toNat = 1 ∨ p.toNat = 2 ∨ p.toNat = 3 ∨ p.toNat = 4 ∨ p.toNat = 5 ∨ p.toNat = 6 ∨ p.toNat = 7 ∨ p.toNat = 8 := by omega
  rcases h1 with e | e | e | e | e | e | e | e <;> rw [e] <;> decide
theorem st_out {p : Int} {zs : List Int} {n : Nat} (h : stB p zs n = true) : (1 ≤ p ∧ p ≤ 8) ∧ (2 ≤ n ∧ n ≤ 16) ∧ shP zs n ∧ tot zs n = 2 ^ p.toNat := by
  unfold stB at h
  rw [Bool.and_eq_true, Bool.and_eq_true, Bool.and_eq_true] at h
  exact ⟨of_decide_eq_true h.1, of_decide_eq_true h.2.1, of_decide_eq_true h.2.2.1, of_decide_eq_true h.2.2.2⟩
theorem st_p {p : Int} {zs : List Int} {n : Nat} (h : ¬ (1 ≤ p ∧ p ≤ 8)) : stB p zs n = false := by unfold stB; rw [decide_eq_false h]; rfl
theorem st_n {p : Int} {zs : List Int} {n : Nat} (h : ¬ (2 ≤ n ∧ n ≤ 16)) : stB p zs n = false := by unfold stB; rw [decide_eq_false h]; simp
theorem st_k {p : Int} {zs : List Int} {n k : Nat} (hk : k < n) (h : ¬ (1 ≤ zs.getD k 0 ∧ zs.getD k 0 ≤ 256)) : stB p zs n = false := by
  unfold stB; rw [decide_eq_false (p := shP zs n) (fun e => h (e k hk))]; simp
theorem st_end {p : Int} {zs : List Int} {n : Nat} (h1 : 1 ≤ p ∧ p ≤ 8) (h2 : 2 ≤ n ∧ n ≤ 16) (h3 : shP zs n) : stB p zs n = decide (tot zs n = 2 ^ p.toNat) := by
  unfold stB; rw [decide_eq_true h1, decide_eq_true h2, decide_eq_true h3]; simp
theorem st_pt {p : Int} {zs : List Int} {n : Nat} (h1 : 1 ≤ p ∧ p ≤ 8) : stB p zs n = (ptB zs n && decide (tot zs n = 2 ^ p.toNat)) := by
  cases e : ptB zs n with
  | false =>
    rw [Bool.false_and]
    by_cases h2 : 2 ≤ n ∧ n ≤ 16
    · have h3 : ¬ shP zs n := fun h => by
        have : ptB zs n = true := by rw [pt_end (fun k hk => by have := h k hk; omega)]; exact decide_eq_true h2
        rw [e] at this; cases this
      unfold stB
      rw [decide_eq_false h3]; simp
    · exact st_n h2
  | true =>
    rw [Bool.true_and]
    obtain ⟨h2, h3⟩ := pt_out e
    by_cases ht : tot zs n = 2 ^ p.toNat
    · rw [st_end h1 h2 (fun k hk => by
        have := (tot_ge h3 n (Nat.le_refl _) k hk).2
        have h5 := h3 k hk
        have h6 := p2_8 h1
        omega)]
    · unfold stB
      rw [decide_eq_false ht]; simp
end Go.Proofs.Ytaefmffmjbabcaa
