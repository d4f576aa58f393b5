
/- Parities: combinations of rows, and the two ways to tell that none is a sum of others. -/
import Derived.Test.YtkmggoagboikgaaDoorTwp
namespace Go.Proofs.YtkmggoagboikgaaDoor.Pr

theorem lt_of_bit {n m : Nat} (t : Nat) (hn : n.testBit t = false) (hm : m.testBit t = true) (h : ∀ j, t < j → n.testBit j = m.testBit j) : n < m := by
  have e : n / 2 ^ (t + 1) = m / 2 ^ (t + 1) := by
    apply Nat.eq_of_testBit_eq
    intro i
    rw [Nat.testBit_div_two_pow, Nat.testBit_div_two_pow]
    exact h _ (by omega)
  rw [Nat.testBit_eq_decide_div_mod_eq] at hn hm
  have hn := of_decide_eq_false hn
  have hm := of_decide_eq_true hm
  rw [Nat.pow_succ, ← Nat.div_div_eq_div_mul, ← Nat.div_div_eq_div_mul] at e
  have : n / 2 ^ t < m / 2 ^ t := by omega
  exact Nat.lt_of_div_lt_div this

/-- A word less the greatest digit of another one. -/
theorem min_xor {a b : Nat} (hb : b ≠ 0) : min a (a ^^^ b) = if a.testBit b.log2 then a ^^^ b else a := by
  have hup : ∀ j, b.log2 < j → (a ^^^ b).testBit j = a.testBit j := by
    intro j hj
    rw [Nat.testBit_xor, Nat.testBit_lt_two_pow (x := b) (i := j) (by rw [← Nat.log2_lt hb]; exact hj)]
    simp
  have hat : (a ^^^ b).testBit b.log2 = !a.testBit b.log2 := by
    rw [Nat.testBit_xor, Nat.testBit_log2 hb]; simp
  cases h : a.testBit b.log2 with
  | true =>
    have : a ^^^ b < a := lt_of_bit b.log2 (by rw [hat, h]; rfl) h hup
    simp; omega
  | false =>
    have : a < a ^^^ b := lt_of_bit b.log2 h (by rw [hat, h]; rfl) (fun j hj => (hup j hj).symm)
    simp; omega

/-- A combination of the first rows. -/
def comb (c : Nat → Bool) (r : Nat → Nat) : Nat → Nat
  | 0 => 0
  | n + 1 => comb c r n ^^^ (if c n then r n else 0)
def upd {α : Type} (f : Nat → α) (j : Nat) (x : α) : Nat → α := fun i => if i = j then x else f i
theorem upd_at {α : Type} (f : Nat → α) (j : Nat) (x : α) : upd f j x j = x := by simp [upd]
theorem upd_ne {α : Type} (f : Nat → α) {j i : Nat} (x : α) (h : i ≠ j) : upd f j x i = f i := by simp [upd, h]
/-- No combination but the empty one is 0. -/
def Indep (r : Nat → Nat) (n : Nat) : Prop := ∀ c, comb c r n = 0 → ∀ i, i < n → c i = false

theorem comb_congr {c c' : Nat → Bool} {r r' : Nat → Nat} : ∀ {n : Nat}, (∀ i, i < n → c i = c' i ∧ r i = r' i) → comb c r n = comb c' r' n
  | 0, _ => rfl
  | n + 1, h => by
    show comb c r n ^^^ _ = comb c' r' n ^^^ _
    rw [comb_congr (n := n) (fun i hi => h i (by omega)), (h n (by omega)).1, (h n (by omega)).2]
theorem comb_none (r : Nat → Nat) : ∀ n, comb (fun _ => false) r n = 0
  | 0 => rfl
  | n + 1 => by show comb _ r n ^^^ _ = 0; rw [comb_none r n]; simp
theorem comb_updr {c : Nat → Bool} {r : Nat → Nat} {j : Nat} {x : Nat} : ∀ {n : Nat}, j < n → comb c (upd r j x) n = comb c r n ^^^ (if c j then r j ^^^ x else 0)
  | n + 1, h => by
    show comb c (upd r j x) n ^^^ _ = (comb c r n ^^^ _) ^^^ _
    by_cases e : j = n
    · subst e
      rw [comb_congr (c' := c) (r' := r) (fun i hi => ⟨rfl, upd_ne _ _ (by omega)⟩), upd_at]
      cases c j <;> simp [Nat.xor_assoc]
      rw [← Nat.xor_assoc (r j), Nat.xor_self, Nat.zero_xor]
    · rw [comb_updr (n := n) (by omega), upd_ne _ _ (by omega)]
      simp only [Nat.xor_assoc]
      rw [Nat.xor_comm (if c j = true then r j ^^^ x else 0)]
theorem comb_updc {c : Nat → Bool} {r : Nat → Nat} {k : Nat} {b : Bool} : ∀ {n : Nat}, k < n → comb (upd c k b) r n = comb c r n ^^^ (if (c k ^^ b) then r k else 0)
  | n + 1, h => by
    show comb (upd c k b) r n ^^^ _ = (comb c r n ^^^ _) ^^^ _
    by_cases e : k = n
    · subst e
      rw [comb_congr (c' := c) (r' := r) (fun i hi => ⟨upd_ne _ _ (by omega), rfl⟩), upd_at]
      cases c k <;> cases b <;> simp [Nat.xor_assoc]
    · rw [comb_updc (n := n) (by omega), upd_ne _ _ (by omega)]
      simp only [Nat.xor_assoc]
      rw [Nat.xor_comm (if (c k ^^ b) = true then r k else 0)]
theorem indep_congr {r r' : Nat → Nat} {n : Nat} (h : ∀ i, i < n → r i = r' i) : Indep r n → Indep r' n := by
  intro H c hc
  exact H c (by rw [comb_congr (c' := c) (r' := r') (fun i hi => ⟨rfl, h i hi⟩)]; exact hc)
theorem indep_add1 {r : Nat → Nat} {n j k : Nat} (hj : j < n) (hk : k < n) (hjk : j ≠ k) (H : Indep r n) : Indep (upd r j (r j ^^^ r k)) n := by
  intro c hc
  have e : comb c (upd r j (r j ^^^ r k)) n = comb (upd c k (c k ^^ c j)) r n := by
    rw [comb_updr hj, comb_updc hk]
    congr 1
    cases c j <;> cases c k <;> simp
    all_goals rw [← Nat.xor_assoc, Nat.xor_self, Nat.zero_xor]
  have h := H _ (e ▸ hc)
  have hcj : c j = false := by have := h j hj; rwa [upd_ne _ _ hjk] at this
  intro i hi
  by_cases e2 : i = k
  · subst e2
    have := h i hi
    rw [upd_at, hcj] at this
    simpa using this
  · have := h i hi
    rwa [upd_ne _ _ e2] at this
theorem indep_add {r : Nat → Nat} {n j k : Nat} (hj : j < n) (hk : k < n) (hjk : j ≠ k) : Indep (upd r j (r j ^^^ r k)) n ↔ Indep r n := by
  refine ⟨fun H => ?_, indep_add1 hj hk hjk⟩
  refine indep_congr (fun i hi => ?_) (indep_add1 hj hk hjk H)
  by_cases e : i = j
  · subst e
    rw [upd_at, upd_at, upd_ne _ _ hjk.symm, Nat.xor_assoc, Nat.xor_self, Nat.xor_zero]
  · rw [upd_ne _ _ e, upd_ne _ _ e]
theorem indep_swap1 {r : Nat → Nat} {n a k : Nat} (ha : a < n) (hk : k < n) (H : Indep r n) : Indep (upd (upd r a (r k)) k (r a)) n := by
  by_cases hak : a = k
  · subst hak
    refine indep_congr (fun i hi => ?_) H
    by_cases e : i = a
    · subst e; rw [upd_at]
    · rw [upd_ne _ _ e, upd_ne _ _ e]
  · intro c hc
    have e : comb c (upd (upd r a (r k)) k (r a)) n = comb (upd (upd c a (c k)) k (c a)) r n := by
      rw [comb_updr hk, comb_updr ha, comb_updc hk, comb_updc ha, upd_ne _ _ (Ne.symm hak), upd_ne _ _ (Ne.symm hak), Nat.xor_assoc, Nat.xor_assoc]
      congr 1
      cases c a <;> cases c k <;> simp
      · rw [Nat.xor_comm]
      · rw [Nat.xor_comm (r k) (r a), Nat.xor_self]
    have h := H _ (e ▸ hc)
    intro i hi
    by_cases e2 : i = k
    · subst e2
      have := h a ha
      rw [upd_ne _ _ hak, upd_at] at this
      exact this
    · by_cases e3 : i = a
      · subst e3
        have := h k hk
        rwa [upd_at] at this
      · have := h i hi
        rwa [upd_ne _ _ e2, upd_ne _ _ e3] at this
theorem indep_swap {r : Nat → Nat} {n a k : Nat} (ha : a < n) (hk : k < n) : Indep (upd (upd r a (r k)) k (r a)) n ↔ Indep r n := by
  refine ⟨fun H => ?_, indep_swap1 ha hk⟩
  refine indep_congr (fun i hi => ?_) (indep_swap1 ha hk H)
  by_cases hak : a = k
  · subst hak
    by_cases e : i = a
    · subst e; rw [upd_at, upd_at]
    · rw [upd_ne _ _ e, upd_ne _ _ e, upd_ne _ _ e, upd_ne _ _ e]
  · by_cases e : i = k
    · subst e; rw [upd_at, upd_ne _ _ hak, upd_at]
    · by_cases e3 : i = a
      · subst e3; rw [upd_ne _ _ e, upd_at, upd_at]
      · rw [upd_ne _ _ e, upd_ne _ _ e3, upd_ne _ _ e, upd_ne _ _ e3]
theorem indep_zero {r : Nat → Nat} {n k : Nat} (hk : k < n) (h : r k = 0) : ¬ Indep r n := by
  intro H
  have := H (upd (fun _ => false) k true) (by rw [comb_updc hk, comb_none, h]; rfl) k hk
  rw [upd_at] at this
  exact absurd this (by decide)
theorem comb_off {c : Nat → Bool} {r : Nat → Nat} {p : Nat} : ∀ {n : Nat}, (∀ i, i < n → (r i).testBit p = false ∨ c i = false) → (comb c r n).testBit p = false
  | 0, _ => Nat.zero_testBit p
  | n + 1, h => by
    show (comb c r n ^^^ _).testBit p = false
    rw [Nat.testBit_xor, comb_off (n := n) (fun i hi => h i (by omega))]
    rcases h n (by omega) with e | e
    · cases c n <;> simp [e]
    · rw [e]; simp
theorem comb_on {c : Nat → Bool} {r : Nat → Nat} {p j : Nat} (hp : (r j).testBit p = true) : ∀ {n : Nat}, j < n → (∀ i, i < n → i ≠ j → (r i).testBit p = false ∨ c i = false) → (comb c r n).testBit p = c j
  | n + 1, hj, h => by
    show (comb c r n ^^^ _).testBit p = c j
    rw [Nat.testBit_xor]
    by_cases e : j = n
    · subst e
      rw [comb_off (fun i hi => h i (by omega) (by omega))]
      cases c j <;> simp [hp]
    · rw [comb_on hp (n := n) (by omega) (fun i hi hne => h i (by omega) hne)]
      rcases h n (by omega) (by omega) with e2 | e2
      · cases c n <;> simp [e2]
      · rw [e2]; simp
/-- Rows in steps. -/
theorem indep_steps {r : Nat → Nat} {n : Nat} (piv : Nat → Nat) (h1 : ∀ j, j < n → (r j).testBit (piv j) = true) (h2 : ∀ j, j < n → ∀ i, i < n → j < i → (r i).testBit (piv j) = false) : Indep r n := by
  intro c hc
  have : ∀ m, m ≤ n → ∀ i, i < m → c i = false := by
    intro m
    induction m with
    | zero => intro _ i hi; omega
    | succ m ih =>
      intro hm i hi
      by_cases e : i = m
      · subst e
        have h := comb_on (c := c) (h1 i (by omega)) (show i < n by omega) (fun k hk hne => by
          by_cases hki : k < i
          · exact .inr (ih (by omega) k hki)
          · exact .inl (h2 i (by omega) k hk (by omega)))
        rw [hc, Nat.zero_testBit] at h
        exact h.symm
      · exact ih (by omega) i (by omega)
  exact this n (Nat.le_refl _)

/-! The program's way: words less the greatest digits of those before. -/
def rdx (f : Nat → Nat) (w : Nat) : Nat → Nat
  | 0 => w
  | j + 1 => min (rdx f w j) (rdx f w j ^^^ f j)
def lefts (z : Nat → Nat) : Nat → List Nat
  | 0 => []
  | k + 1 => lefts z k ++ [rdx (fun i => (lefts z k).getD i 0) (z k) k]
def lf (z : Nat → Nat) (k : Nat) : Nat := rdx (fun i => (lefts z k).getD i 0) (z k) k
theorem lefts_len (z : Nat → Nat) : ∀ k, (lefts z k).length = k
  | 0 => rfl
  | k + 1 => by show (lefts z k ++ [_]).length = _; rw [List.length_append, lefts_len z k]; rfl
theorem lefts_get (z : Nat → Nat) : ∀ k i, i < k → (lefts z k).getD i 0 = lf z i
  | k + 1, i, h => by
    show (lefts z k ++ [lf z k]).getD i 0 = _
    rw [List.getD_eq_getElem?_getD]
    by_cases e : i < k
    · rw [List.getElem?_append_left (by rw [lefts_len]; exact e), ← List.getD_eq_getElem?_getD]
      exact lefts_get z k i e
    · obtain rfl : i = k := by omega
      rw [List.getElem?_append_right (by rw [lefts_len]; omega), lefts_len]
      simp
theorem rdx_congr {f g : Nat → Nat} {w : Nat} : ∀ {j : Nat}, (∀ i, i < j → f i = g i) → rdx f w j = rdx g w j
  | 0, _ => rfl
  | j + 1, h => by show min (rdx f w j) (rdx f w j ^^^ f j) = _; rw [rdx_congr (j := j) (fun i hi => h i (by omega)), h j (by omega)]; rfl
theorem lf_eq (z : Nat → Nat) (k : Nat) : lf z k = rdx (lf z) (z k) k := rdx_congr (fun i hi => lefts_get z k i hi)

def mixV (f z : Nat → Nat) (k : Nat) : Nat → Nat := fun i => if i < k then f i else z i
theorem inner {f z : Nat → Nat} {n k : Nat} (hk : k < n) (hf : ∀ i, i < k → f i ≠ 0) (hs : ∀ j i, j < i → i < k → (f i).testBit (f j).log2 = false) :
    ∀ j, j ≤ k → (Indep (upd (mixV f z k) k (rdx f (z k) j)) n ↔ Indep (mixV f z k) n) ∧ ∀ j', j' < j → (rdx f (z k) j).testBit (f j').log2 = false := by
  intro j
  induction j with
  | zero =>
    intro _
    refine ⟨?_, fun j' h => by omega⟩
    have : upd (mixV f z k) k (rdx f (z k) 0) = mixV f z k := by
      funext i
      by_cases e : i = k
      · subst e; rw [upd_at]; simp [mixV, rdx]
      · rw [upd_ne _ _ e]
    rw [this]
  | succ j ih =>
    intro hj
    obtain ⟨h1, h2⟩ := ih (by omega)
    have e : rdx f (z k) (j + 1) = if (rdx f (z k) j).testBit (f j).log2 then rdx f (z k) j ^^^ f j else rdx f (z k) j := min_xor (hf j (by omega))
    rw [e]
    generalize rdx f (z k) j = x at h1 h2
    cases hx : x.testBit (f j).log2 with
    | false =>
      simp only [Bool.false_eq_true, if_false]
      refine ⟨h1, fun j' hj' => ?_⟩
      by_cases e2 : j' = j
      · subst e2; exact hx
      · exact h2 j' (by omega)
    | true =>
      simp only [if_true]
      refine ⟨?_, fun j' hj' => ?_⟩
      · rw [← h1, ← indep_add (r := upd (mixV f z k) k x) (j := k) (k := j) hk (by omega) (by omega)]
        have : upd (upd (mixV f z k) k x) k (upd (mixV f z k) k x k ^^^ upd (mixV f z k) k x j) = upd (mixV f z k) k (x ^^^ f j) := by
          funext i
          by_cases e2 : i = k
          · subst e2; rw [upd_at, upd_at, upd_at, upd_ne _ _ (by omega)]; simp [mixV, show j < i by omega]
          · rw [upd_ne _ _ e2, upd_ne _ _ e2, upd_ne _ _ e2]
        rw [this]
      · rw [Nat.testBit_xor]
        by_cases e2 : j' = j
        · subst e2; rw [hx, Nat.testBit_log2 (hf j' (by omega))]; rfl
        · rw [h2 j' (by omega), hs j' j (by omega) (by omega)]; rfl
theorem outer {f z : Nat → Nat} {n : Nat} (hfz : ∀ k, k < n → f k = rdx f (z k) k) : ∀ k, k ≤ n → (∀ i, i < k → f i ≠ 0) → (Indep (mixV f z k) n ↔ Indep z n) ∧ ∀ j i, j < i → i < k → (f i).testBit (f j).log2 = false := by
  intro k
  induction k with
  | zero =>
    intro _ _
    refine ⟨?_, fun j i _ h => by omega⟩
    have : mixV f z 0 = z := by funext i; simp [mixV]
    rw [this]
  | succ k ih =>
    intro hk hnz
    obtain ⟨h1, h2⟩ := ih (by omega) (fun i hi => hnz i (by omega))
    obtain ⟨h3, h4⟩ := inner (f := f) (z := z) (n := n) (k := k) (by omega) (fun i hi => hnz i (by omega)) h2 k (Nat.le_refl _)
    rw [← hfz k (by omega)] at h3 h4
    refine ⟨?_, fun j i hji hi => ?_⟩
    · rw [← h1, ← h3]
      have : upd (mixV f z k) k (f k) = mixV f z (k + 1) := by
        funext i
        by_cases e : i = k
        · subst e; rw [upd_at]; simp [mixV]
        · rw [upd_ne _ _ e]
          simp only [mixV]
          by_cases e2 : i < k
          · rw [if_pos e2, if_pos (by omega)]
          · rw [if_neg e2, if_neg (by omega)]
      rw [this]
    · by_cases e : i = k
      · subst e; exact h4 j hji
      · exact h2 j i hji (by omega)
theorem apart_iff (z : Nat → Nat) (n : Nat) : (∀ k, k < n → lf z k ≠ 0) ↔ Indep z n := by
  have hfz : ∀ k, k < n → lf z k = rdx (lf z) (z k) k := fun k _ => lf_eq z k
  constructor
  · intro h
    obtain ⟨h1, h2⟩ := outer hfz n (Nat.le_refl _) h
    rw [← h1]
    have hf : Indep (lf z) n := indep_steps (fun j => (lf z j).log2) (fun j hj => Nat.testBit_log2 (h j hj)) (fun j _ i hi hji => h2 j i hji hi)
    exact indep_congr (fun i hi => by simp [mixV, hi]) hf
  · intro h
    have : ∀ m, m ≤ n → ∀ k, k < m → lf z k ≠ 0 := by
      intro m
      induction m with
      | zero => intro _ k hk; omega
      | succ m ih =>
        intro hm k hk
        by_cases e : k = m
        · subst e
          intro h0
          obtain ⟨h1, h2⟩ := outer hfz k (by omega) (ih (by omega))
          obtain ⟨h3, _⟩ := inner (f := lf z) (z := z) (n := n) (k := k) (by omega) (ih (by omega)) h2 k (Nat.le_refl _)
          rw [← lf_eq, h0] at h3
          exact indep_zero (k := k) (by omega) (upd_at _ _ _) (h3.2 (h1.2 h))
        · exact ih (by omega) k (by omega)
    exact this n (Nat.le_refl _)

/-! The model's way: rows in steps. -/
def fnd (r : Nat → Nat) (i n : Nat) : Nat → Nat
  | 0 => n
  | m + 1 => if (r (n - (m + 1))).testBit i then n - (m + 1) else fnd r i n m
def swp (r : Nat → Nat) (k a : Nat) : Nat → Nat := upd (upd r a (r k)) k (r a)
def clr (r : Nat → Nat) (k i j : Nat) : Nat → Nat := fun x => if x < j ∧ x ≠ k ∧ (r x).testBit i = true then r x ^^^ r k else r x
structure Ech where
  f : Nat → Nat
  k : Nat
def stp (n i : Nat) (s : Ech) : Ech := if fnd s.f i n (n - s.k) < n then ⟨clr (swp s.f s.k (fnd s.f i n (n - s.k))) s.k i n, s.k + 1⟩ else s
def ech (z : Nat → Nat) (wide n : Nat) : Nat → Ech
  | 0 => ⟨z, 0⟩
  | b + 1 => stp n (wide - 1 - b) (ech z wide n b)
theorem fnd_le (r : Nat → Nat) (i n : Nat) : ∀ m, m ≤ n → fnd r i n m ≤ n ∧ n - m ≤ fnd r i n m
  | 0, _ => ⟨Nat.le_refl _, by simp [fnd]⟩
  | m + 1, h => by
    unfold fnd
    have := fnd_le r i n m (by omega)
    split <;> omega
theorem fnd_hit (r : Nat → Nat) (i n : Nat) : ∀ m, m ≤ n → fnd r i n m < n → (r (fnd r i n m)).testBit i = true
  | 0, _, h => by simp [fnd] at h
  | m + 1, hm, h => by
    unfold fnd at h ⊢
    split
    · assumption
    · rename_i e
      rw [if_neg e] at h
      exact fnd_hit r i n m (by omega) h
theorem fnd_miss (r : Nat → Nat) (i n : Nat) : ∀ m, m ≤ n → ∀ j, n - m ≤ j → j < fnd r i n m → (r j).testBit i = false
  | 0, _, j, h1, h2 => by simp [fnd] at h2; omega
  | m + 1, hm, j, h1, h2 => by
    unfold fnd at h2
    split at h2
    · omega
    · rename_i e
      by_cases hj : j = n - (m + 1)
      · subst hj; simpa using e
      · exact fnd_miss r i n m (by omega) j (by omega) h2
theorem clr_indep {r : Nat → Nat} {n k i : Nat} (hk : k < n) : ∀ j, j ≤ n → (Indep (clr r k i j) n ↔ Indep r n)
  | 0, _ => by
    have : clr r k i 0 = r := by funext x; simp [clr]
    rw [this]
  | j + 1, hj => by
    rw [← clr_indep (r := r) (i := i) hk j (by omega)]
    by_cases h : j ≠ k ∧ (r j).testBit i = true
    · have : clr r k i (j + 1) = upd (clr r k i j) j (clr r k i j j ^^^ clr r k i j k) := by
        funext x
        by_cases e : x = j
        · subst e; rw [upd_at]; simp [clr, h]
        · rw [upd_ne _ _ e]
          simp only [clr]
          have : (x < j + 1 ∧ x ≠ k ∧ (r x).testBit i = true) ↔ (x < j ∧ x ≠ k ∧ (r x).testBit i = true) := by
            constructor
            · rintro ⟨h1, h2⟩; exact ⟨by omega, h2⟩
            · rintro ⟨h1, h2⟩; exact ⟨by omega, h2⟩
          simp only [this]
      rw [this, indep_add (by omega) hk h.1]
    · have : clr r k i (j + 1) = clr r k i j := by
        funext x
        simp only [clr]
        have : (x < j + 1 ∧ x ≠ k ∧ (r x).testBit i = true) ↔ (x < j ∧ x ≠ k ∧ (r x).testBit i = true) := by
          constructor
          · rintro ⟨h1, h2⟩
            refine ⟨?_, h2⟩
            by_cases e : x = j
            · subst e; exact absurd h2 h
            · omega
          · rintro ⟨h1, h2⟩; exact ⟨by omega, h2⟩
        simp only [this]
      rw [this]
/-- What holds when the digits from i0 on are done. -/
structure EchOk (z : Nat → Nat) (wide n i0 : Nat) (s : Ech) (piv : Nat → Nat) : Prop where
  le : s.k ≤ n
  ind : Indep s.f n ↔ Indep z n
  on : ∀ j, j < s.k → (s.f j).testBit (piv j) = true ∧ i0 ≤ piv j
  off : ∀ j, j < s.k → ∀ x, x < n → x ≠ j → (s.f x).testBit (piv j) = false
  low : ∀ j, s.k ≤ j → j < n → ∀ p, i0 ≤ p → (s.f j).testBit p = false
  word : ∀ j, j < n → s.f j < 2 ^ wide
theorem stp_ok {z : Nat → Nat} {wide n i : Nat} {s : Ech} {piv : Nat → Nat} (H : EchOk z wide n (i + 1) s piv) : ∃ piv', EchOk z wide n i (stp n i s) piv' := by
  obtain ⟨hle, hind, hon, hoff, hlow, hword⟩ := H
  have f1 := fnd_le s.f i n (n - s.k) (by omega)
  have f2 := fnd_hit s.f i n (n - s.k) (by omega)
  have f3 := fnd_miss s.f i n (n - s.k) (by omega)
  unfold stp
  by_cases h : fnd s.f i n (n - s.k) < n
  · rw [if_pos h]
    have f2 := f2 h
    generalize fnd s.f i n (n - s.k) = a at f1 f2 f3 h
    have ha : s.k ≤ a := by omega
    obtain ⟨f, k⟩ := s
    simp only at hle hind hon hoff hlow hword f1 f2 f3 h ha ⊢
    have hk : k < n := by omega
    -- the rows that changed places
    have sk : swp f k a k = f a := upd_at _ _ _
    have slow : ∀ x, x < k → swp f k a x = f x := fun x hx => by unfold swp; rw [upd_ne _ _ (by omega), upd_ne _ _ (by omega)]
    have sup : ∀ x, k ≤ x → x < n → ∃ y, k ≤ y ∧ y < n ∧ swp f k a x = f y := by
      intro x h1 h2
      by_cases e : x = k
      · subst e; exact ⟨a, ha, h, sk⟩
      · by_cases e2 : x = a
        · subst e2; exact ⟨k, Nat.le_refl _, hk, by unfold swp; rw [upd_ne _ _ e, upd_at]⟩
        · exact ⟨x, h1, h2, by unfold swp; rw [upd_ne _ _ e, upd_ne _ _ e2]⟩
    have soff : ∀ j, j < k → ∀ x, x < n → x ≠ j → (swp f k a x).testBit (piv j) = false := by
      intro j hj x hx hne
      by_cases e : x < k
      · rw [slow x e]; exact hoff j hj x hx hne
      · obtain ⟨y, h1, h2, h3⟩ := sup x (by omega) hx
        rw [h3]; exact hoff j hj y h2 (by omega)
    have sword : ∀ x, x < n → swp f k a x < 2 ^ wide := by
      intro x hx
      by_cases e : x < k
      · rw [slow x e]; exact hword x hx
      · obtain ⟨y, h1, h2, h3⟩ := sup x (by omega) hx
        rw [h3]; exact hword y h2
    have sind : Indep (swp f k a) n ↔ Indep f n := by
      unfold swp; exact indep_swap h hk
    have sbit : (swp f k a k).testBit i = true := by rw [sk]; exact f2
    have sl : ∀ x, k ≤ x → x < n → ∀ p, i + 1 ≤ p → (swp f k a x).testBit p = false := by
      intro x h1 h2 p hp
      obtain ⟨y, h3, h4, h5⟩ := sup x h1 h2
      rw [h5]; exact hlow y h3 h4 p hp
    generalize swp f k a = g at slow soff sword sind sbit sl
    refine ⟨upd piv k i, hk, (clr_indep hk n (Nat.le_refl _)).trans (sind.trans hind), ?_, ?_, ?_, ?_⟩
    · intro j hj
      by_cases e : j = k
      · subst e
        rw [upd_at]
        exact ⟨by simp [clr, sbit], Nat.le_refl _⟩
      · have hjk : j < k := by have : j < k + 1 := hj; omega
        rw [upd_ne _ _ e]
        have h0 := hon j hjk
        refine ⟨?_, by omega⟩
        simp only [clr]
        split
        · rw [Nat.testBit_xor, slow j hjk, h0.1, soff j hjk k hk (by omega)]; rfl
        · rw [slow j hjk]; exact h0.1
    · intro j hj x hx hne
      by_cases e : j = k
      · subst e
        rw [upd_at]
        simp only [clr]
        cases hb : (g x).testBit i with
        | true => rw [if_pos ⟨hx, hne, rfl⟩, Nat.testBit_xor, hb, sbit]; rfl
        | false => rw [if_neg (by simp)]; exact hb
      · have hjk : j < k := by have : j < k + 1 := hj; omega
        rw [upd_ne _ _ e]
        simp only [clr]
        split
        · rw [Nat.testBit_xor, soff j hjk x hx hne, soff j hjk k hk (by omega)]; rfl
        · exact soff j hjk x hx hne
    · intro j hj hjn p hp
      have hj : k + 1 ≤ j := hj
      simp only [clr]
      by_cases e : p = i
      · subst e
        cases hb : (g j).testBit p with
        | true => rw [if_pos ⟨hjn, by omega, rfl⟩, Nat.testBit_xor, hb, sbit]; rfl
        | false => rw [if_neg (by simp)]; exact hb
      · split
        · rw [Nat.testBit_xor, sl j (by omega) hjn p (by omega), sl k (Nat.le_refl _) hk p (by omega)]; rfl
        · exact sl j (by omega) hjn p (by omega)
    · intro j hj
      simp only [clr]
      split
      · exact Nat.xor_lt_two_pow (sword j hj) (sword k hk)
      · exact sword j hj
  · rw [if_neg h]
    refine ⟨piv, hle, hind, fun j hj => ⟨(hon j hj).1, by have := (hon j hj).2; omega⟩, hoff, ?_, hword⟩
    intro j h1 h2 p hp
    by_cases e : p = i
    · subst e; exact f3 j (by omega) (by omega)
    · exact hlow j h1 h2 p (by omega)
theorem ech_ok {z : Nat → Nat} {wide n : Nat} (hz : ∀ j, j < n → z j < 2 ^ wide) : ∀ b, b ≤ wide → ∃ piv, EchOk z wide n (wide - b) (ech z wide n b) piv
  | 0, _ => ⟨fun _ => 0, Nat.zero_le _, Iff.rfl, fun j hj => absurd hj (Nat.not_lt_zero _), fun j hj => absurd hj (Nat.not_lt_zero _), fun j _ hj p hp => Nat.testBit_lt_two_pow (Nat.lt_of_lt_of_le (hz j hj) (Nat.pow_le_pow_right (by decide) (by omega))), hz⟩
  | b + 1, hb => by
    obtain ⟨piv, H⟩ := ech_ok hz b (by omega)
    have : wide - b = wide - 1 - b + 1 := by omega
    rw [this] at H
    obtain ⟨piv', H'⟩ := stp_ok H
    exact ⟨piv', by rw [show wide - (b + 1) = wide - 1 - b by omega]; exact H'⟩
theorem rank_iff {z : Nat → Nat} {wide n : Nat} (hz : ∀ j, j < n → z j < 2 ^ wide) : (ech z wide n wide).k = n ↔ Indep z n := by
  obtain ⟨piv, H⟩ := ech_ok hz wide (Nat.le_refl _)
  rw [Nat.sub_self] at H
  rw [← H.ind]
  constructor
  · intro h
    refine indep_steps piv (fun j hj => (H.on j (by omega)).1) (fun j hj i hi hji => H.off j (by omega) i hi (by omega))
  · intro h
    have := H.le
    apply Nat.le_antisymm this
    apply Nat.le_of_not_lt
    intro hlt
    refine indep_zero hlt ?_ h
    apply Nat.eq_of_testBit_eq
    intro p
    rw [H.low _ (Nat.le_refl _) hlt p (Nat.zero_le _), Nat.zero_testBit]
end Go.Proofs.YtkmggoagboikgaaDoor.Pr
