
/- Plain Lean: the word that has the digits of a drop's places. -/
import Derived.Test.YtnljabgkaelplaaDoorDgs
namespace Go.Proofs.YtnljabgkaelplaaDoor.Pr

def nx (s : Nat) : Nat := (1664525 * s + 1013904223) % 4294967296
def dw (s n : Nat) : Nat := s * n / 4294967296
theorem nx_lt (s : Nat) : nx s < 4294967296 := Nat.mod_lt _ (by decide)
theorem dw_lt {s n : Nat} (hs : s < 4294967296) (hn : 0 < n) : dw s n < n := by
  unfold dw
  generalize 4294967296 = M at hs ⊢
  apply Nat.div_lt_of_lt_mul
  exact Nat.mul_lt_mul_of_lt_of_le hs (Nat.le_refl n) hn
/-- The first place that is not taken, from a on around; f steps at most. -/
def fdr (n : Nat) (T : Nat → Bool) : Nat → Nat → Nat
  | 0, a => a
  | f + 1, a => if T a = true then fdr n T f ((a + 1) % n) else a
def dist (n a p : Nat) : Nat := if a ≤ p then p - a else p + n - a
theorem step_mod {n a : Nat} (ha : a < n) : (a + 1) % n = if a + 1 = n then 0 else a + 1 := by
  split
  · next h => rw [h, Nat.mod_self]
  · exact Nat.mod_eq_of_lt (by omega)
theorem dist_step {n a p : Nat} (ha : a < n) (hp : p < n) (h : a ≠ p) : dist n ((a + 1) % n) p + 1 = dist n a p := by
  rw [step_mod ha]
  unfold dist
  split <;> split <;> (try split) <;> omega
theorem fdr_lt {n : Nat} {T : Nat → Bool} (hn : 0 < n) : ∀ f a, a < n → fdr n T f a < n
  | 0, _, h => h
  | f + 1, a, h => by
    unfold fdr
    split
    · exact fdr_lt hn f _ (Nat.mod_lt _ hn)
    · exact h
theorem fdr_free {n : Nat} {T : Nat → Bool} {p : Nat} (hp : p < n) (hT : T p = false) : ∀ f a, a < n → dist n a p < f → T (fdr n T f a) = false
  | 0, _, _, h => absurd h (Nat.not_lt_zero _)
  | f + 1, a, ha, h => by
    unfold fdr
    by_cases h1 : T a = true
    · rw [if_pos h1]
      have hne : a ≠ p := fun e => by rw [e, hT] at h1; cases h1
      have := dist_step ha hp hne
      exact fdr_free hp hT f _ (Nat.mod_lt _ (by omega)) (by omega)
    · rw [if_neg h1]
      exact Bool.eq_false_iff.mpr h1
theorem dist_lt {n a p : Nat} (ha : a < n) (hp : p < n) : dist n a p < n := by
  unfold dist; split <;> omega
/-- On the way to the place P: at a, which is taken, another step; at a, which is free, a is P. -/
def DWay (n : Nat) (T : Nat → Bool) (P a : Nat) : Prop := a < n ∧ ∃ f, fdr n T f a = P
theorem DWay.step {n P a : Nat} {T : Nat → Bool} (h : DWay n T P a) (hP : T P = false) (hPn : P < n) (ha : T a = true) : DWay n T P ((a + 1) % n) ∧ dist n ((a + 1) % n) P < dist n a P := by
  obtain ⟨h1, f, h2⟩ := h
  have hne : a ≠ P := fun e => by rw [e, hP] at ha; cases ha
  have hd := dist_step h1 hPn hne
  refine ⟨⟨Nat.mod_lt _ (by omega), ?_⟩, by omega⟩
  cases f with
  | zero => exact absurd h2 hne
  | succ f => unfold fdr at h2; rw [if_pos ha] at h2; exact ⟨f, h2⟩
theorem DWay.stop {n P a : Nat} {T : Nat → Bool} (h : DWay n T P a) (ha : T a = false) : a = P := by
  obtain ⟨_, f, h2⟩ := h
  cases f with
  | zero => exact h2
  | succ f => unfold fdr at h2; rw [if_neg (by rw [ha]; decide)] at h2; exact h2
/-- How many of the first n digits are 1. -/
def cn (w : Nat) : Nat → Nat
  | 0 => 0
  | n + 1 => cn w n + if w.testBit n = true then 1 else 0
theorem cn_full {w : Nat} : ∀ n, (∀ p, p < n → w.testBit p = true) → cn w n = n
  | 0, _ => rfl
  | n + 1, h => by
    unfold cn
    rw [cn_full n (fun p hp => h p (by omega)), if_pos (h n (by omega))]
theorem cn_or (w P : Nat) : ∀ n, cn (w ||| 2 ^ P) n ≤ cn w n + if P < n then 1 else 0
  | 0 => by simp [cn]
  | n + 1 => by
    have ih := cn_or w P n
    have hb : (w ||| 2 ^ P).testBit n = (w.testBit n || decide (P = n)) := by rw [Nat.testBit_or, Nat.testBit_two_pow]
    unfold cn
    rw [hb]
    by_cases h : P = n
    · rw [if_neg (by omega)] at ih
      rw [if_pos (show P < n + 1 by omega)]
      rw [decide_eq_true h, Bool.or_true, if_pos rfl]
      split <;> omega
    · have e : decide (P = n) = false := decide_eq_false h
      rw [e, Bool.or_false]
      by_cases hl : P < n
      · rw [if_pos hl] at ih; rw [if_pos (show P < n + 1 by omega)]; omega
      · rw [if_neg hl] at ih; rw [if_neg (show ¬ P < n + 1 by omega)]; omega
theorem cn_zero : ∀ n, cn 0 n = 0
  | 0 => rfl
  | n + 1 => by unfold cn; rw [cn_zero n, Nat.zero_testBit]; rfl
/-- One round, and j rounds: the seed and the word. -/
def pl (n W t : Nat) : Nat := fdr n W.testBit n (dw (nx t) n)
def sj (s : Nat) : Nat → Nat
  | 0 => nx s
  | j + 1 => nx (sj s j)
def wj (n s : Nat) : Nat → Nat
  | 0 => 0
  | j + 1 => wj n s j ||| 2 ^ pl n (wj n s j) (sj s j)
theorem sj_zero (s : Nat) : sj s 0 = nx s := rfl
theorem sj_succ (s j : Nat) : sj s (j + 1) = nx (sj s j) := rfl
theorem wj_zero (n s : Nat) : wj n s 0 = 0 := rfl
theorem wj_succ (n s j : Nat) : wj n s (j + 1) = wj n s j ||| 2 ^ pl n (wj n s j) (sj s j) := rfl
theorem sj_lt (s : Nat) : ∀ j, sj s j < 4294967296
  | 0 => nx_lt _
  | j + 1 => by rw [sj_succ]; exact nx_lt _
theorem pl_lt {n : Nat} (hn : 0 < n) (W t : Nat) : pl n W t < n := fdr_lt hn _ _ (dw_lt (nx_lt _) hn)
theorem wj_lt {n : Nat} (hn : 0 < n) (s : Nat) : ∀ j, wj n s j < 2 ^ n
  | 0 => Nat.two_pow_pos n
  | j + 1 => by rw [wj_succ]; exact Nat.or_lt_two_pow (wj_lt hn s j) (Nat.pow_lt_pow_right (by decide) (pl_lt hn _ _))
theorem wj_cn {n : Nat} (s : Nat) : ∀ j, cn (wj n s j) n ≤ j
  | 0 => by rw [wj_zero, cn_zero]; exact Nat.le_refl _
  | j + 1 => by
    have := wj_cn (n := n) s j
    have h2 := cn_or (wj n s j) (pl n (wj n s j) (sj s j)) n
    rw [wj_succ]
    split at h2 <;> omega
theorem wj_free {n s j : Nat} (hj : j < n) : (wj n s j).testBit (pl n (wj n s j) (sj s j)) = false := by
  have hn : 0 < n := by omega
  have hc := wj_cn (n := n) s j
  generalize wj n s j = W at hc ⊢
  generalize sj s j = t
  have : ∃ p, p < n ∧ W.testBit p = false := by
    apply Classical.byContradiction
    intro h
    have := cn_full (w := W) n (fun p hp => by
      cases hb : W.testBit p with
      | true => rfl
      | false => exact absurd ⟨p, hp, hb⟩ h)
    omega
  obtain ⟨p, hp, hT⟩ := this
  exact fdr_free hp hT n _ (dw_lt (nx_lt _) hn) (dist_lt (dw_lt (nx_lt _) hn) hp)
theorem pl_way {n : Nat} (hn : 0 < n) (W t : Nat) : DWay n W.testBit (pl n W t) (dw (nx t) n) := ⟨dw_lt (nx_lt _) hn, n, rfl⟩
theorem DWay.congr {n P a : Nat} {T U : Nat → Bool} (h : DWay n T P a) (e : ∀ p, p < n → T p = U p) : DWay n U P a := by
  obtain ⟨h1, f, h2⟩ := h
  refine ⟨h1, f, ?_⟩
  rw [← h2]
  have : ∀ f a, a < n → fdr n U f a = fdr n T f a := by
    intro f
    induction f with
    | zero => intro a _; rfl
    | succ f ih =>
      intro a ha
      unfold fdr
      rw [e a ha]
      split
      · exact ih _ (Nat.mod_lt _ (by omega))
      · rfl
  exact this f a h1
/-- How many rounds: the least k with k * p at least n. -/
def ks (n p : Nat) : Nat := (n + p - 1) / p
theorem ks_lt {n p k : Nat} (hp : 0 < p) : k < ks n p ↔ k * p < n := by
  unfold ks
  rw [Nat.lt_iff_add_one_le, Nat.le_div_iff_mul_le hp, Nat.add_mul]
  omega
theorem ks_le {n p : Nat} (hp : 0 < p) (hn : 0 < n) : 1 ≤ ks n p ∧ ks n p ≤ n := by
  have h1 := (ks_lt (n := n) (k := 0) hp).2 (by omega)
  refine ⟨h1, ?_⟩
  apply Nat.le_of_not_lt
  intro h
  have := (ks_lt (n := n) (k := n) hp).1 h
  have h2 := Nat.le_mul_of_pos_right n hp
  omega
def wk (n s : Nat) : Nat := ks n (dw (nx s) n + 1)
/-- The word of a drop. -/
def wdr (n s : Nat) : Nat := wj n s (wk n s)
theorem wdr_eq (n s : Nat) : wdr n s = wj n s (wk n s) := by unfold wdr; exact Eq.refl _
theorem wk_le {n : Nat} (hn : 0 < n) (s : Nat) : 1 ≤ wk n s ∧ wk n s ≤ n := ks_le (by omega) hn
theorem wdr_lt {n : Nat} (hn : 0 < n) (s : Nat) : wdr n s < 2 ^ n := by rw [wdr_eq]; exact wj_lt hn s (wk n s)
theorem wj_ne (n s j : Nat) : wj n s (j + 1) ≠ 0 := by
  rw [wj_succ]
  generalize wj n s j = W
  generalize pl n W (sj s j) = P
  intro h
  have h2 : (W ||| 2 ^ P).testBit P = true := by rw [Nat.testBit_or, Nat.testBit_two_pow, decide_eq_true rfl, Bool.or_true]
  rw [h, Nat.zero_testBit] at h2
  cases h2
theorem wdr_ne {n : Nat} (hn : 0 < n) (s : Nat) : wdr n s ≠ 0 := by
  have h := (wk_le hn s).1
  rw [wdr_eq]
  generalize wk n s = K at h
  cases K with
  | zero => exact absurd h (by decide)
  | succ k => exact wj_ne n s k
/-- The places of a word as a list: what the model collects. -/
def plc (w : Nat) : Nat → List Int
  | 0 => []
  | j + 1 => if w.testBit j = true then plc w j ++ [(j : Int)] else plc w j
theorem plc_len (w : Nat) : ∀ j, (plc w j).length ≤ j
  | 0 => Nat.le_refl _
  | j + 1 => by
    have := plc_len w j
    unfold plc
    split
    · rw [List.length_append]; simp; omega
    · omega
def ints {n : Nat} (l : List (Fin n)) : List Int := l.map (fun i => (i.val : Int))
theorem dg_step (n f p : Nat) (h : p + (f + 1) = n) (x : Nat) : dg n (f + 1) p h x = if x % 2 = 1 then ⟨p, by omega⟩ :: dg n f (p + 1) (by omega) (x / 2) else dg n f (p + 1) (by omega) (x / 2) := by
  rw [dg]
theorem dg_plc (n w : Nat) : ∀ f p h, plc w p ++ ints (dg n f p h (w / 2 ^ p)) = plc w n
  | 0, p, h => by
    have : p = n := by omega
    subst this
    show plc w p ++ [] = _
    rw [List.append_nil]
  | f + 1, p, h => by
    have ih := dg_plc n w f (p + 1) (by omega)
    have hb : w.testBit p = decide (w / 2 ^ p % 2 = 1) := Nat.testBit_eq_decide_div_mod_eq
    rw [← ih, dg_step, Nat.div_div_eq_div_mul, ← Nat.pow_succ]
    by_cases h1 : w / 2 ^ p % 2 = 1
    · have e : plc w (p + 1) = plc w p ++ [(p : Int)] := by
        show (if w.testBit p = true then plc w p ++ [(p : Int)] else plc w p) = _
        rw [if_pos (by rw [hb]; exact decide_eq_true h1)]
      rw [if_pos h1, e, List.append_assoc]
      rfl
    · have e : plc w (p + 1) = plc w p := by
        show (if w.testBit p = true then plc w p ++ [(p : Int)] else plc w p) = _
        rw [if_neg (by rw [hb]; simpa using h1)]
      rw [if_neg h1, e]
theorem dgs_plc (n w : Nat) : ints (dgs n w) = plc w n := by
  have := dg_plc n w n 0 (Nat.zero_add n)
  rw [Nat.pow_zero, Nat.div_one] at this
  exact this
theorem ints_snoc {n : Nat} (l : List (Fin n)) (i : Fin n) : ints (l ++ [i]) = ints l ++ [(i.val : Int)] := by simp [ints]
end Go.Proofs.YtnljabgkaelplaaDoor.Pr
