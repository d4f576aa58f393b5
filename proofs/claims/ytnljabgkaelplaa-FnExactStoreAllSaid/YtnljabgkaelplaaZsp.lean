
/- Plain Lean: the bytes of what is saved. -/
import Derived.Test.YtnljabgkaelplaaStx
namespace Go.Proofs.Ytnljabgkaelplaa.Zs

/-- The value of the first k bits. -/
def bv (g : Nat → Bool) : Nat → Nat
  | 0 => 0
  | k + 1 => bv g k + if g k = true then 2 ^ k else 0
theorem bv_lt (g : Nat → Bool) : ∀ k, bv g k < 2 ^ k
  | 0 => Nat.one_pos
  | k + 1 => by
    have := bv_lt g k
    unfold bv
    rw [Nat.pow_succ]
    split <;> omega
theorem two_add_or {k b : Nat} (h : b < 2 ^ k) : 2 ^ k + b = 2 ^ k ||| b := by
  have := Nat.two_pow_add_eq_or_of_lt h 1
  rwa [Nat.mul_one] at this
theorem bv_bit (g : Nat → Bool) : ∀ k i, (bv g k).testBit i = (decide (i < k) && g i)
  | 0, i => by show (0 : Nat).testBit i = _; rw [Nat.zero_testBit]; simp
  | k + 1, i => by
    have ih := bv_bit g k i
    have hl := bv_lt g k
    unfold bv
    cases hg : g k with
    | false =>
      rw [if_neg (by decide), Nat.add_zero, ih]
      by_cases h : i = k
      · subst h; rw [hg]; simp
      · have e : decide (i < k + 1) = decide (i < k) := decide_eq_decide.2 (by omega)
        rw [e]
    | true =>
      rw [if_pos rfl, Nat.add_comm, two_add_or hl, Nat.testBit_or, Nat.testBit_two_pow, ih]
      by_cases h : i = k
      · subst h; rw [hg]; simp
      · have e : decide (i < k + 1) = decide (i < k) := decide_eq_decide.2 (by omega)
        rw [e, decide_eq_false (fun e : k = i => h e.symm), Bool.false_or]
/-- Byte j of n bits. -/
def gb (f : Nat → Bool) (n j : Nat) : Nat → Bool := fun k => decide (8 * j + k < n) && f (8 * j + k)
def bb (f : Nat → Bool) (n j : Nat) : Nat := bv (gb f n j) 8
theorem bb_lt (f : Nat → Bool) (n j : Nat) : bb f n j < 256 := bv_lt _ 8
theorem bb_zero (f : Nat → Bool) (j : Nat) : bb f 0 j = 0 := by
  apply Nat.eq_of_testBit_eq
  intro i
  unfold bb
  rw [bv_bit, Nat.zero_testBit]
  simp [gb]
theorem bb_other (f : Nat → Bool) (m j : Nat) (h : j ≠ m / 8 ∨ f m = false) : bb f (m + 1) j = bb f m j := by
  apply Nat.eq_of_testBit_eq
  intro i
  unfold bb
  rw [bv_bit, bv_bit]
  by_cases hi : i < 8
  · have : gb f (m + 1) j i = gb f m j i := by
      unfold gb
      by_cases e : 8 * j + i = m
      · rcases h with h | h
        · exact absurd (by omega) h
        · rw [e, h]; simp
      · have e2 : decide (8 * j + i < m + 1) = decide (8 * j + i < m) := decide_eq_decide.2 (by omega)
        rw [e2]
    rw [this]
  · rw [decide_eq_false hi]; simp
theorem bb_put (f : Nat → Bool) (m : Nat) (h : f m = true) : bb f m (m / 8) ||| 2 ^ (m % 8) = bb f (m + 1) (m / 8) := by
  apply Nat.eq_of_testBit_eq
  intro i
  unfold bb
  rw [Nat.testBit_or, Nat.testBit_two_pow, bv_bit, bv_bit]
  by_cases hi : i < 8
  · unfold gb
    by_cases e : m % 8 = i
    · have e1 : 8 * (m / 8) + i = m := by omega
      rw [e1, h, decide_eq_true e, decide_eq_true hi]
      simp
    · have e2 : decide (8 * (m / 8) + i < m + 1) = decide (8 * (m / 8) + i < m) := decide_eq_decide.2 (by omega)
      rw [e2, decide_eq_false e, Bool.or_false]
  · have e : ¬ m % 8 = i := by omega
    rw [decide_eq_false e, decide_eq_false hi]
    simp
/-- The model's way: from the highest bit on. -/
def hr (g : Nat → Bool) : Nat → Nat
  | 0 => 0
  | c + 1 => 2 * hr g c + if g (7 - c) = true then 1 else 0
theorem hr_bit (g : Nat → Bool) : ∀ c i, c ≤ 8 → (hr g c).testBit i = (decide (i < c) && g (8 - c + i))
  | 0, i, _ => by show (0 : Nat).testBit i = _; rw [Nat.zero_testBit]; simp
  | c + 1, i, hc => by
    have ih := fun i => hr_bit g c i (by omega)
    unfold hr
    cases i with
    | zero =>
      have e1 : 8 - (c + 1) + 0 = 7 - c := by omega
      rw [e1]
      cases g (7 - c)
      · simp
      · simp
    | succ i =>
      rw [Nat.testBit_succ]
      have e2 : (2 * hr g c + if g (7 - c) = true then 1 else 0) / 2 = hr g c := by split <;> omega
      have e3 : 8 - (c + 1) + (i + 1) = 8 - c + i := by omega
      rw [e2, ih, e3]
      have e4 : decide (i + 1 < c + 1) = decide (i < c) := decide_eq_decide.2 (by omega)
      rw [e4]
theorem hr_lt (g : Nat → Bool) : ∀ c, hr g c < 2 ^ c
  | 0 => Nat.one_pos
  | c + 1 => by
    have := hr_lt g c
    unfold hr
    rw [Nat.pow_succ]
    split <;> omega
theorem hr_bb (f : Nat → Bool) (n j : Nat) : hr (gb f n j) 8 = bb f n j := by
  apply Nat.eq_of_testBit_eq
  intro i
  unfold bb
  rw [bv_bit, hr_bit _ 8 i (by omega)]
  simp
/-- The bytes of n bits; of numbers, k bytes each, the least first. -/
def blF (f : Nat → Bool) (n : Nat) : Nat → List UInt8
  | 0 => []
  | j + 1 => blF f n j ++ [UInt8.ofNat (bb f n j)]
def bl (f : Nat → Bool) (n : Nat) : List UInt8 := blF f n ((n + 7) / 8)
theorem blF_len (f : Nat → Bool) (n : Nat) : ∀ j, (blF f n j).length = j
  | 0 => rfl
  | j + 1 => by show (blF f n j ++ [_]).length = _; rw [List.length_append, blF_len f n j]; rfl
theorem blF_get (f : Nat → Bool) (n : Nat) : ∀ j i, i < j → (blF f n j).getD i 0 = UInt8.ofNat (bb f n i)
  | j + 1, i, h => by
    show (blF f n j ++ [_]).getD i 0 = _
    rw [List.getD_eq_getElem?_getD]
    by_cases e : i < j
    · rw [List.getElem?_append_left (by rw [blF_len]; exact e), ← List.getD_eq_getElem?_getD]
      exact blF_get f n j i e
    · obtain rfl : i = j := by omega
      rw [List.getElem?_append_right (by rw [blF_len]; omega), blF_len]
      simp
theorem bl_len (f : Nat → Bool) (n : Nat) : (bl f n).length = (n + 7) / 8 := blF_len f n _
def nb (x : Nat) : Nat → List UInt8
  | 0 => []
  | k + 1 => nb x k ++ [UInt8.ofNat (x / 256 ^ k)]
theorem nb_len (x : Nat) : ∀ k, (nb x k).length = k
  | 0 => rfl
  | k + 1 => by show (nb x k ++ [_]).length = _; rw [List.length_append, nb_len x k]; rfl
def sb (x : Nat → Nat) : Nat → List UInt8
  | 0 => []
  | k + 1 => sb x k ++ nb (x k) 4
theorem sb_len (x : Nat → Nat) : ∀ k, (sb x k).length = 4 * k
  | 0 => rfl
  | k + 1 => by show (sb x k ++ nb (x k) 4).length = _; rw [List.length_append, sb_len x k, nb_len]; omega
def pre (nm : List UInt8) (f : Nat → Bool) (n : Nat) (x : Nat → Nat) (m : Nat) : List UInt8 :=
  [83, 70, 84, 49] ++ [UInt8.ofNat nm.length] ++ nm ++ [UInt8.ofNat n] ++ bl f n ++ [UInt8.ofNat m] ++ sb x m
def all (nm : List UInt8) (f : Nat → Bool) (n : Nat) (x : Nat → Nat) (m : Nat) (c : Nat) : List UInt8 := pre nm f n x m ++ nb c 2
theorem pre_len (nm : List UInt8) (f : Nat → Bool) (n : Nat) (x : Nat → Nat) (m : Nat) : (pre nm f n x m).length = 7 + nm.length + (n + 7) / 8 + 4 * m := by
  unfold pre bl
  simp only [List.length_append, List.length_cons, List.length_nil, blF_len, sb_len]
  omega
end Go.Proofs.Ytnljabgkaelplaa.Zs
