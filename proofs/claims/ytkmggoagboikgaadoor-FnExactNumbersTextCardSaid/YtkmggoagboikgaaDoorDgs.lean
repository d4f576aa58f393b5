
/- Plain Lean: the places of a word's digits that are 1, in order; sums of rows that a message tells. -/
import Derived.Lib.TrailingZeros
namespace Go.Proofs.YtkmggoagboikgaaDoor.Pr

/-- The places of the digits of a word that are 1, from p on: f digits are looked at. -/
def dg (n : Nat) : (f p : Nat) → p + f = n → Nat → List (Fin n)
  | 0, _, _, _ => []
  | f + 1, p, h, x => if x % 2 = 1 then ⟨p, by omega⟩ :: dg n f (p + 1) (by omega) (x / 2) else dg n f (p + 1) (by omega) (x / 2)
/-- .. of a word of n digits. -/
def dgs (n x : Nat) : List (Fin n) := dg n n 0 (Nat.zero_add n) x
theorem dg_zero (n : Nat) : ∀ f p h, dg n f p h 0 = []
  | 0, _, _ => rfl
  | f + 1, p, h => by
    unfold dg
    rw [if_neg (by decide)]
    exact dg_zero n f (p + 1) (by omega)
theorem dg_nil (n : Nat) : ∀ f p h x, x < 2 ^ f → dg n f p h x = [] → x = 0
  | 0, _, _, x, hx, _ => by have : x < 1 := hx; omega
  | f + 1, p, h, x, hx, he => by
    unfold dg at he
    by_cases h1 : x % 2 = 1
    · rw [if_pos h1] at he; cases he
    · rw [if_neg h1] at he
      have := dg_nil n f (p + 1) (by omega) (x / 2) (by rw [Nat.pow_succ] at hx; omega) he
      omega
theorem dg_len (n : Nat) : ∀ f p h x, (dg n f p h x).length ≤ f
  | 0, _, _, _ => Nat.le_refl _
  | f + 1, p, h, x => by
    have := dg_len n f (p + 1) (by omega) (x / 2)
    unfold dg
    split
    · rw [List.length_cons]; omega
    · omega
/-- A word without its lowest digit that is 1. -/
def clw (x : Nat) : Nat := x &&& (x - 1)
theorem and_even_odd (y : Nat) : (2 * y + 1) &&& (2 * y) = 2 * y := by
  apply Nat.eq_of_testBit_eq
  intro i
  rw [Nat.testBit_and]
  cases i with
  | zero => simp
  | succ i =>
    rw [Nat.testBit_succ, Nat.testBit_succ, show (2 * y + 1) / 2 = y by omega, show 2 * y / 2 = y by omega, Bool.and_self]
theorem and_even_pred (y : Nat) (h : 0 < y) : (2 * y) &&& (2 * y - 1) = 2 * (y &&& (y - 1)) := by
  apply Nat.eq_of_testBit_eq
  intro i
  rw [Nat.testBit_and]
  cases i with
  | zero => simp
  | succ i =>
    rw [Nat.testBit_succ, Nat.testBit_succ, Nat.testBit_succ, show (2 * y - 1) / 2 = y - 1 by omega, show 2 * y / 2 = y by omega, show 2 * (y &&& (y - 1)) / 2 = y &&& (y - 1) by omega, Nat.testBit_and]
theorem clw_odd {x : Nat} (h : x % 2 = 1) : clw x = 2 * (x / 2) := by
  have := and_even_odd (x / 2)
  unfold clw
  rw [show 2 * (x / 2) + 1 = x by omega, show 2 * (x / 2) = x - 1 by omega] at this
  rw [this]; omega
theorem clw_even {x : Nat} (h : x % 2 = 0) (h0 : 0 < x) : clw x = 2 * clw (x / 2) := by
  have := and_even_pred (x / 2) (by omega)
  rw [show 2 * (x / 2) = x by omega] at this
  exact this
theorem clw_lt {x : Nat} (h : x ≠ 0) : clw x < x := Nat.lt_of_le_of_lt Nat.and_le_right (by omega)
/-- The first of a word's places; and those behind it. -/
theorem dg_cons (n : Nat) : ∀ f g p h x, x ≠ 0 → x < 2 ^ f → f ≤ g → ∃ i : Fin n, i.val = p + Lib.ctzFrom g x ∧ dg n f p h x = i :: dg n f p h (clw x)
  | 0, _, _, _, x, h0, hx, _ => by have : x < 1 := hx; omega
  | f + 1, 0, _, _, x, h0, hx, hg => by omega
  | f + 1, g + 1, p, h, x, h0, hx, hg => by
    by_cases h1 : x % 2 = 1
    · refine ⟨⟨p, by omega⟩, ?_, ?_⟩
      · unfold Lib.ctzFrom; rw [if_pos h1]; rfl
      · have hc := clw_odd h1
        unfold dg
        rw [if_pos h1, if_neg (by omega), hc, show 2 * (x / 2) / 2 = x / 2 by omega]
    · have hc := clw_even (x := x) (by omega) (by omega)
      obtain ⟨i, hi, he⟩ := dg_cons n f g (p + 1) (by omega) (x / 2) (by omega) (by rw [Nat.pow_succ] at hx; omega) (by omega)
      refine ⟨i, ?_, ?_⟩
      · unfold Lib.ctzFrom; rw [if_neg h1, hi]; omega
      · unfold dg
        rw [if_neg h1, if_neg (by omega), hc, he, show 2 * clw (x / 2) / 2 = clw (x / 2) by omega]
theorem dgs_cons {n x : Nat} (h0 : x ≠ 0) (hx : x < 2 ^ n) (hn : n ≤ 64) : ∃ i : Fin n, i.val = Lib.ctz 64 x ∧ dgs n x = i :: dgs n (clw x) := by
  obtain ⟨i, hi, he⟩ := dg_cons n n 64 0 (Nat.zero_add n) x h0 hx hn
  refine ⟨i, ?_, he⟩
  unfold Lib.ctz; rw [if_neg h0, hi, Nat.zero_add]
theorem clw_le (x : Nat) : clw x ≤ x := Nat.and_le_left
/-- What a walk over the places makes, told digit by digit. -/
def rdg {β : Type} (n : Nat) (g : β → Fin n → β) (s : β) (f p : Nat) (h : p + f = n) (x : Nat) : β := (dg n f p h x).foldl g s
theorem rdg_zero {β : Type} {n : Nat} (g : β → Fin n → β) (s : β) (p : Nat) (h : p + 0 = n) (x : Nat) : rdg n g s 0 p h x = s := rfl
theorem rdg_yes {β : Type} {n : Nat} (g : β → Fin n → β) (s : β) (f p : Nat) (h : p + (f + 1) = n) (x : Nat) (h1 : x % 2 = 1) : rdg n g s (f + 1) p h x = rdg n g (g s ⟨p, by omega⟩) f (p + 1) (by omega) (x / 2) := by
  unfold rdg; rw [dg, if_pos h1]; rfl
theorem rdg_no {β : Type} {n : Nat} (g : β → Fin n → β) (s : β) (f p : Nat) (h : p + (f + 1) = n) (x : Nat) (h1 : ¬ x % 2 = 1) : rdg n g s (f + 1) p h x = rdg n g s f (p + 1) (by omega) (x / 2) := by
  unfold rdg; rw [dg, if_neg h1]
/-- The sum of the rows that a message tells. -/
def ew (z : Nat → Nat) (n x : Nat) : Nat := (dgs n x).foldl (fun s i => s ^^^ z i.val) 0
theorem ew_lt {z : Nat → Nat} {n m : Nat} (hz : ∀ i, i < n → z i < 2 ^ m) (x : Nat) : ew z n x < 2 ^ m := by
  unfold ew
  have : ∀ (l : List (Fin n)) (s : Nat), s < 2 ^ m → l.foldl (fun s i => s ^^^ z i.val) s < 2 ^ m := by
    intro l
    induction l with
    | nil => intro s hs; exact hs
    | cons i l ih => intro s hs; exact ih _ (Nat.xor_lt_two_pow hs (hz i.val i.isLt))
  exact this _ 0 (Nat.two_pow_pos m)
/-- The model's way: digit by digit; j digits are done. -/
def mw (z : Nat → Nat) (n x j s : Nat) : Nat := if h : j ≤ n then rdg n (fun s i => s ^^^ z i.val) s (n - j) j (by omega) (x / 2 ^ j) else 0
theorem mw_start (z : Nat → Nat) (n x : Nat) : mw z n x 0 0 = ew z n x := by
  unfold mw
  rw [dif_pos (Nat.zero_le _)]
  unfold rdg ew dgs
  simp
theorem rdg_cast {β : Type} {n : Nat} (g : β → Fin n → β) (s : β) {f f' p : Nat} (e : f = f') (h : p + f = n) (x : Nat) : rdg n g s f p h x = rdg n g s f' p (by omega) x := by subst e; rfl
theorem mw_yes {z : Nat → Nat} {n x j s : Nat} (hj : j < n) (hb : x.testBit j = true) : mw z n x j s = mw z n x (j + 1) (s ^^^ z j) := by
  rw [Nat.testBit_eq_decide_div_mod_eq] at hb
  have h1 := of_decide_eq_true hb
  unfold mw
  rw [dif_pos (Nat.le_of_lt hj), dif_pos (Nat.succ_le_of_lt hj), rdg_cast _ _ (show n - j = (n - (j + 1)) + 1 by omega), rdg_yes _ _ _ _ _ _ h1, Nat.pow_succ, ← Nat.div_div_eq_div_mul]
theorem mw_no {z : Nat → Nat} {n x j s : Nat} (hj : j < n) (hb : x.testBit j = false) : mw z n x j s = mw z n x (j + 1) s := by
  rw [Nat.testBit_eq_decide_div_mod_eq] at hb
  have h1 := of_decide_eq_false hb
  unfold mw
  rw [dif_pos (Nat.le_of_lt hj), dif_pos (Nat.succ_le_of_lt hj), rdg_cast _ _ (show n - j = (n - (j + 1)) + 1 by omega), rdg_no _ _ _ _ _ _ h1, Nat.pow_succ, ← Nat.div_div_eq_div_mul]
theorem mw_end (z : Nat → Nat) (n x s : Nat) : mw z n x n s = s := by
  unfold mw
  rw [dif_pos (Nat.le_refl _), rdg_cast _ _ (show n - n = 0 by omega)]
  rfl
end Go.Proofs.YtkmggoagboikgaaDoor.Pr
