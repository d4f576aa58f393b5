
/- Numbers of Fibonacci and their digits: plain facts. -/
import Derived.Test.YtaefmffmjbabcaaStx
set_option linter.unusedVariables false
namespace Go.Proofs.Ytaefmffmjbabcaa.Fb
open Go.Proofs.Ytaefmffmjbabcaa.Flo

def fb : Nat → Nat
  | 0 => 1
  | 1 => 2
  | k + 2 => fb k + fb (k + 1)
theorem fb_pos : ∀ k, 1 ≤ fb k ∧ 1 ≤ fb (k + 1)
  | 0 => ⟨by decide, by decide⟩
  | k + 1 => ⟨(fb_pos k).2, by show 1 ≤ fb k + fb (k + 1); have := fb_pos k; omega⟩
theorem fb_lt (k : Nat) : fb k < fb (k + 1) := by
  cases k with
  | zero => decide
  | succ k => show fb (k + 1) < fb k + fb (k + 1); have := (fb_pos k).1; omega
theorem fb_mono {i j : Nat} (h : i ≤ j) : fb i ≤ fb j := by
  induction j with
  | zero => obtain rfl : i = 0 := by omega
            exact Nat.le_refl _
  | succ j ih =>
    by_cases e : i = j + 1
    · subst e; exact Nat.le_refl _
    · exact Nat.le_trans (ih (by omega)) (Nat.le_of_lt (fb_lt j))
theorem fb_29 : 1000000 < fb 29 := by decide +kernel
theorem fb_31 {k : Nat} (h : k ≤ 31) : fb k ≤ 4000000 := Nat.le_trans (fb_mono h) (by decide +kernel)
/-- How many numbers are at most n. -/
theorem k_ex {n : Nat} (h1 : 1 ≤ n) (h2 : n ≤ 1000000) : ∃ K, 1 ≤ K ∧ K ≤ 29 ∧ (∀ k, k < K → fb k ≤ n) ∧ n < fb K := by
  have : ∀ m, n < fb m → ∃ K, K ≤ m ∧ (∀ k, k < K → fb k ≤ n) ∧ n < fb K := by
    intro m
    induction m with
    | zero => intro h; exact ⟨0, Nat.le_refl _, fun k hk => by omega, h⟩
    | succ m ih =>
      intro h
      by_cases h3 : n < fb m
      · obtain ⟨K, hK, hk, hn⟩ := ih h3; exact ⟨K, by omega, hk, hn⟩
      · exact ⟨m + 1, Nat.le_refl _, fun k hk => Nat.le_trans (fb_mono (by omega : k ≤ m)) (by omega), h⟩
  obtain ⟨K, hK, hk, hn⟩ := this 29 (by have := fb_29; omega)
  refine ⟨K, ?_, hK, hk, hn⟩
  rcases Nat.eq_zero_or_pos K with e | e
  · subst e; have : fb 0 = 1 := rfl; omega
  · exact e
/-- What is left of n behind j numbers, the greatest first. -/
def rs (n K : Nat) : Nat → Nat
  | 0 => n
  | j + 1 => if fb (K - 1 - j) ≤ rs n K j then rs n K j - fb (K - 1 - j) else rs n K j
theorem rs_le (n K : Nat) : ∀ j, rs n K j ≤ n
  | 0 => Nat.le_refl _
  | j + 1 => by unfold rs; have := rs_le n K j; split <;> omega
/-- The digit of number i. -/
def dg (n K i : Nat) : UInt8 := if fb i ≤ rs n K (K - 1 - i) then 49 else 48
/-- The digits from number i on. -/
def dgL (n K j : Nat) : List UInt8 := (List.range j).map fun t => dg n K (K - j + t)
theorem dgL_len (n K j : Nat) : (dgL n K j).length = j := by simp [dgL]
theorem dgL_on {n K j : Nat} (h : j < K) : dgL n K (j + 1) = dg n K (K - 1 - j) :: dgL n K j := by
  unfold dgL
  rw [List.range_succ_eq_map, List.map_cons, List.map_map]
  have e1 : K - (j + 1) + 0 = K - 1 - j := by omega
  rw [e1]
  congr 1
  apply List.map_congr_left
  intro t ht
  have := List.mem_range.1 ht
  show dg n K (K - (j + 1) + (t + 1)) = dg n K (K - j + t)
  congr 1; omega
theorem dg_yes {n K j : Nat} (h : j < K) (hl : fb (K - 1 - j) ≤ rs n K j) : dg n K (K - 1 - j) = 49 ∧ rs n K (j + 1) = rs n K j - fb (K - 1 - j) := by
  refine ⟨?_, by show (if _ then _ else _) = _; rw [if_pos hl]⟩
  unfold dg
  rw [show K - 1 - (K - 1 - j) = j by omega, if_pos hl]
theorem dg_no {n K j : Nat} (h : j < K) (hl : ¬ fb (K - 1 - j) ≤ rs n K j) : dg n K (K - 1 - j) = 48 ∧ rs n K (j + 1) = rs n K j := by
  refine ⟨?_, by show (if _ then _ else _) = _; rw [if_neg hl]⟩
  unfold dg
  rw [show K - 1 - (K - 1 - j) = j by omega, if_neg hl]
/-- The digits of the program behind j numbers: what is not known yet is 0. -/
def dp (n K j i : Nat) : UInt8 := if i = K then 49 else if K - j ≤ i then dg n K i else 48
theorem dp_yes {n K j : Nat} (h : j < K) (hl : fb (K - 1 - j) ≤ rs n K j) (i : Nat) (hi : i < K + 1) : (if i = K - 1 - j then 49 else dp n K j i) = dp n K (j + 1) i := by
  unfold dp
  by_cases e : i = K - 1 - j
  · subst e
    rw [if_pos rfl, if_neg (by omega), if_pos (by omega), (dg_yes h hl).1]
  · rw [if_neg e]
    by_cases e2 : i = K
    · rw [if_pos e2, if_pos e2]
    · rw [if_neg e2, if_neg e2]
      by_cases e3 : K - j ≤ i
      · rw [if_pos e3, if_pos (by omega)]
      · rw [if_neg e3, if_neg (by omega)]
theorem dp_no {n K j : Nat} (h : j < K) (hl : ¬ fb (K - 1 - j) ≤ rs n K j) (i : Nat) (hi : i < K + 1) : dp n K j i = dp n K (j + 1) i := by
  unfold dp
  by_cases e2 : i = K
  · rw [if_pos e2, if_pos e2]
  · rw [if_neg e2, if_neg e2]
    by_cases e3 : K - j ≤ i
    · rw [if_pos e3, if_pos (by omega)]
    · rw [if_neg e3]
      by_cases e4 : K - (j + 1) ≤ i
      · rw [if_pos e4]
        have : i = K - 1 - j := by omega
        rw [this, (dg_no h hl).1]
      · rw [if_neg e4]
theorem dp_last (n K : Nat) : (List.range (K + 1)).map (dp n K K) = dgL n K K ++ [49] := by
  rw [List.range_succ, List.map_append]
  congr 1
  · unfold dgL
    apply List.map_congr_left
    intro i hi
    have := List.mem_range.1 hi
    unfold dp
    rw [if_neg (by omega), if_pos (by omega)]
    congr 1; omega
  · show [dp n K K K] = [49]
    unfold dp
    rw [if_pos rfl]
theorem dp_first (n K : Nat) : repL 48 K ++ [49] = (List.range (K + 1)).map (dp n K 0) := by
  rw [List.range_succ, List.map_append]
  congr 1
  · unfold repL
    apply List.ext_getElem
    · simp
    · intro i h1 h2
      simp at h1 h2 ⊢
      unfold dp
      rw [if_neg (by omega), if_neg (by omega)]
  · show [49] = [dp n K 0 K]
    unfold dp
    rw [if_pos rfl]
/-- The numbers as ints. -/
def fbL (k : Nat) : List Int := (List.range k).map fun i : Nat => (fb i : Int)
theorem fbL_len (k : Nat) : (fbL k).length = k := by simp [fbL]
theorem fbL_on (k : Nat) : fbL (k + 1) = fbL k ++ [(fb k : Int)] := by unfold fbL; rw [List.range_succ, List.map_append]; rfl
theorem fbL_at {k i : Nat} (h : i < k) : (fbL k).getD i 0 = (fb i : Int) := by simp [fbL, List.getD_eq_getElem?_getD, h]
end Go.Proofs.Ytaefmffmjbabcaa.Fb
