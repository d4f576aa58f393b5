
/- Polynomials over a prime: two ways to the value of the one that goes through given places. -/
set_option linter.unusedVariables false
namespace Go.Proofs.Ytaefmffmjbabcaa.Pol
/-- Both numbers are the same over p. -/
def Eqp (p a b : Int) : Prop := ∃ c : Int, a - b = p * c
theorem Eqp.rfl' {p a : Int} : Eqp p a a := ⟨0, by omega⟩
theorem Eqp.of_eq {p a b : Int} (h : a = b) : Eqp p a b := ⟨0, by omega⟩
theorem Eqp.symm {p a b : Int} (h : Eqp p a b) : Eqp p b a := by
  obtain ⟨c, h⟩ := h; exact ⟨-c, by grind⟩
theorem Eqp.trans {p a b d : Int} (h : Eqp p a b) (k : Eqp p b d) : Eqp p a d := by
  obtain ⟨c, h⟩ := h; obtain ⟨e, k⟩ := k; exact ⟨c + e, by grind⟩
theorem Eqp.add {p a b d e : Int} (h : Eqp p a b) (k : Eqp p d e) : Eqp p (a + d) (b + e) := by
  obtain ⟨c, h⟩ := h; obtain ⟨f, k⟩ := k; exact ⟨c + f, by grind⟩
theorem Eqp.mul {p a b d e : Int} (h : Eqp p a b) (k : Eqp p d e) : Eqp p (a * d) (b * e) := by
  obtain ⟨c, h⟩ := h; obtain ⟨f, k⟩ := k; exact ⟨c * d + b * f, by grind⟩
theorem Eqp.emod {p : Int} (a : Int) : Eqp p (a % p) a := ⟨-(a / p), by have := Int.mul_ediv_add_emod a p; grind⟩
theorem Eqp.iff_emod {p a b : Int} : Eqp p a b ↔ a % p = b % p := by
  constructor
  · rintro ⟨c, h⟩
    rw [show a = b + p * c by omega]
    exact Int.add_mul_emod_self_left ..
  · intro h
    exact (Eqp.emod a).symm.trans ((Eqp.of_eq h).trans (Eqp.emod b))
/-- Functions that are polynomials of n terms over p. -/
def PF (p : Int) : Nat → (Int → Int) → Prop
  | 0, f => ∀ x, Eqp p (f x) 0
  | n + 1, f => ∃ c g, PF p n g ∧ ∀ x, Eqp p (f x) (c + x * g x)
theorem PF.congr {p : Int} : ∀ {n : Nat} {f g : Int → Int}, PF p n f → (∀ x, Eqp p (g x) (f x)) → PF p n g
  | 0, f, g, h, e => fun x => (e x).trans (h x)
  | n + 1, f, g, ⟨c, q, hq, hx⟩, e => ⟨c, q, hq, fun x => (e x).trans (hx x)⟩
theorem PF.zero {p : Int} : ∀ n, PF p n (fun _ => 0)
  | 0 => fun _ => Eqp.rfl'
  | n + 1 => ⟨0, fun _ => 0, PF.zero n, fun x => ⟨0, by grind⟩⟩
theorem PF.const {p : Int} (n : Nat) (c : Int) : PF p (n + 1) (fun _ => c) := ⟨c, fun _ => 0, PF.zero n, fun x => ⟨0, by grind⟩⟩
theorem PF.up {p : Int} : ∀ {n : Nat} {f : Int → Int}, PF p n f → PF p (n + 1) f
  | 0, f, h => ⟨0, fun _ => 0, PF.zero 0, fun x => (h x).trans (Eqp.of_eq (by grind))⟩
  | n + 1, f, ⟨c, g, hg, hx⟩ => ⟨c, g, hg.up, hx⟩
theorem PF.mono {p : Int} {n m : Nat} {f : Int → Int} (h : PF p n f) (hm : n ≤ m) : PF p m f := by
  obtain ⟨k, rfl⟩ := Nat.exists_eq_add_of_le hm
  clear hm
  induction k with
  | zero => exact h
  | succ k ih => exact ih.up
theorem PF.add {p : Int} (a : Int) : ∀ {n : Nat} {f g : Int → Int}, PF p n f → PF p n g → PF p n (fun x => f x + a * g x)
  | 0, f, g, h, k => fun x => ((h x).add ((Eqp.rfl' (a := a)).mul (k x))).trans (Eqp.of_eq (by grind))
  | n + 1, f, g, ⟨c, q, hq, hx⟩, ⟨d, r, hr, hy⟩ => ⟨c + a * d, fun x => q x + a * r x, PF.add a hq hr, fun x => ((hx x).add ((Eqp.rfl' (a := a)).mul (hy x))).trans (Eqp.of_eq (by grind))⟩
theorem PF.scale {p : Int} (a : Int) {n : Nat} {f : Int → Int} (h : PF p n f) : PF p n (fun x => a * f x) :=
  (PF.add a (PF.zero n) h).congr fun x => Eqp.of_eq (by grind)
theorem PF.mulx {p : Int} {n : Nat} {f : Int → Int} (h : PF p n f) : PF p (n + 1) (fun x => x * f x) := ⟨0, f, h, fun x => Eqp.of_eq (by grind)⟩
theorem PF.root {p : Int} (a : Int) {n : Nat} {f : Int → Int} (h : PF p n f) : PF p (n + 1) (fun x => (x - a) * f x) :=
  (PF.add (-a) h.mulx h.up).congr fun x => Eqp.of_eq (by grind)
/-- f less its value at a is a product with x - a. -/
theorem PF.part {p : Int} (a : Int) : ∀ {n : Nat} {f : Int → Int}, PF p (n + 1) f → ∃ g, PF p n g ∧ ∀ x, Eqp p (f x - f a) ((x - a) * g x)
  | 0, f, ⟨c, g, hg, hx⟩ => ⟨g, hg, fun x => by
      obtain ⟨u, hu⟩ := hx x; obtain ⟨v, hv⟩ := hx a; obtain ⟨s, hs⟩ := hg x; obtain ⟨t, ht⟩ := hg a
      exact ⟨u - v + a * s - a * t, by grind⟩⟩
  | n + 1, f, ⟨c, g, hg, hx⟩ => by
      obtain ⟨h, hh, hy⟩ := PF.part a hg
      refine ⟨fun x => g x + a * h x, PF.add a hg hh.up, fun x => ?_⟩
      obtain ⟨u, hu⟩ := hx x; obtain ⟨v, hv⟩ := hx a; obtain ⟨s, hs⟩ := hy x
      exact ⟨u - v + a * s, by grind⟩
/-- p is a prime, in the words that are needed. -/
def Prm (p : Int) : Prop := ∀ a b, Eqp p (a * b) 0 → Eqp p a 0 ∨ Eqp p b 0
/-- A polynomial of n terms that is 0 at n places is 0 all over. -/
theorem PF.roots {p : Int} (hp : Prm p) : ∀ {n : Nat} {f : Int → Int} (r : Nat → Int), PF p n f → (∀ i j, i < j → j < n → ¬ Eqp p (r j - r i) 0) → (∀ i, i < n → Eqp p (f (r i)) 0) → ∀ x, Eqp p (f x) 0
  | 0, f, r, h, _, _ => h
  | n + 1, f, r, h, hd, hz => fun x => by
      obtain ⟨g, hg, hx⟩ := PF.part (r 0) h
      have hg0 : ∀ x, Eqp p (g x) 0 := PF.roots hp (fun i => r (i + 1)) hg (fun i j hij hj => hd (i + 1) (j + 1) (by omega) (by omega)) (fun i hi => by
        have h1 := hx (r (i + 1))
        have h2 : Eqp p ((r (i + 1) - r 0) * g (r (i + 1))) 0 := by
          obtain ⟨u, hu⟩ := h1; obtain ⟨v, hv⟩ := hz (i + 1) (by omega); obtain ⟨s, hs⟩ := hz 0 (by omega)
          exact ⟨v - s - u, by grind⟩
        rcases hp _ _ h2 with h3 | h3
        · exact absurd h3 (hd 0 (i + 1) (by omega) (by omega))
        · exact h3)
      obtain ⟨u, hu⟩ := hx x; obtain ⟨v, hv⟩ := hz 0 (by omega); obtain ⟨s, hs⟩ := hg0 x
      exact ⟨u + v + (x - r 0) * s, by grind⟩
/-- Two that agree at n places agree all over. -/
theorem PF.agree {p : Int} (hp : Prm p) {n : Nat} {f g : Int → Int} (r : Nat → Int) (hf : PF p n f) (hg : PF p n g) (hd : ∀ i j, i < j → j < n → ¬ Eqp p (r j - r i) 0) (hz : ∀ i, i < n → Eqp p (f (r i)) (g (r i))) (x : Int) : Eqp p (f x) (g x) := by
  obtain ⟨c, hc⟩ := PF.roots hp r (PF.add (-1) hf hg) hd (fun i hi => by obtain ⟨c, hc⟩ := hz i hi; exact ⟨c, by grind⟩) x
  exact ⟨c, by grind⟩
/-- Horner's way, r rounds from the highest of n terms on. -/
def ho (p : Int) (t : Nat → Int) (x : Int) (n : Nat) : Nat → Int
  | 0 => 0
  | r + 1 => (ho p t x n r * x + t (n - 1 - r)) % p
/-- The value of n terms. -/
def pv : Nat → (Nat → Int) → Int → Int
  | 0, _, _ => 0
  | n + 1, t, x => t 0 + x * pv n (fun k => t (k + 1)) x
theorem ho_in {p : Int} (hp : 0 < p) (t : Nat → Int) (x : Int) (n r : Nat) : 0 ≤ ho p t x n r ∧ ho p t x n r < p := by
  cases r with
  | zero => exact ⟨Int.le_refl 0, hp⟩
  | succ r => exact ⟨Int.emod_nonneg _ (by omega), Int.emod_lt_of_pos _ hp⟩
theorem ho_shift (p : Int) (t : Nat → Int) (x : Int) (n : Nat) : ∀ r, r ≤ n → ho p t x (n + 1) r = ho p (fun k => t (k + 1)) x n r
  | 0, _ => rfl
  | r + 1, h => by
    show (ho p t x (n + 1) r * x + t (n + 1 - 1 - r)) % p = (ho p (fun k => t (k + 1)) x n r * x + t (n - 1 - r + 1)) % p
    rw [ho_shift p t x n r (by omega), show n + 1 - 1 - r = n - 1 - r + 1 by omega]
theorem ho_pv (p : Int) (x : Int) : ∀ (n : Nat) (t : Nat → Int), Eqp p (ho p t x n n) (pv n t x)
  | 0, t => Eqp.rfl'
  | n + 1, t => by
    show Eqp p ((ho p t x (n + 1) n * x + t (n + 1 - 1 - n)) % p) (t 0 + x * pv n (fun k => t (k + 1)) x)
    rw [ho_shift p t x n n (Nat.le_refl _), show n + 1 - 1 - n = 0 by omega]
    refine (Eqp.emod _).trans ?_
    obtain ⟨c, hc⟩ := ho_pv p x n (fun k => t (k + 1))
    exact ⟨c * x, by grind⟩
/-- Terms that are 0 count for nothing. -/
theorem ho_pad {p : Int} (t : Nat → Int) (x : Int) (m : Nat) (n : Nat) (hm : m ≤ n) (h0 : ∀ k, m ≤ k → k < n → t k = 0) : ho p t x n n = ho p t x m m := by
  have h1 : ∀ r, r ≤ n - m → ho p t x n r = 0 := by
    intro r
    induction r with
    | zero => intro _; rfl
    | succ r ih =>
      intro h
      show (ho p t x n r * x + t (n - 1 - r)) % p = 0
      rw [ih (by omega), h0 _ (by omega) (by omega)]
      simp
  have h2 : ∀ r, r ≤ m → ho p t x n (n - m + r) = ho p t x m r := by
    intro r
    induction r with
    | zero => intro _; rw [Nat.add_zero]; exact h1 _ (Nat.le_refl _)
    | succ r ih =>
      intro h
      show (ho p t x n (n - m + r) * x + t (n - 1 - (n - m + r))) % p = (ho p t x m r * x + t (m - 1 - r)) % p
      rw [ih (by omega), show n - 1 - (n - m + r) = m - 1 - r by omega]
  have := h2 m (Nat.le_refl _)
  rwa [Nat.sub_add_cancel hm] at this
theorem ho_congr {p : Int} {t u : Nat → Int} (x : Int) (n : Nat) (h : ∀ k, k < n → t k = u k) : ∀ r, r ≤ n → ho p t x n r = ho p u x n r
  | 0, _ => rfl
  | r + 1, hr => by
    show (ho p t x n r * x + t (n - 1 - r)) % p = (ho p u x n r * x + u (n - 1 - r)) % p
    rw [ho_congr x n h r (by omega), h _ (by omega)]
theorem pv_PF (p : Int) : ∀ (m n : Nat) (t : Nat → Int), (∀ k, m ≤ k → k < n → t k = 0) → PF p m (fun x => pv n t x)
  | 0, 0, t, _ => fun x => Eqp.rfl'
  | 0, n + 1, t, h => fun x => by
    have h1 := pv_PF p 0 n (fun k => t (k + 1)) (fun k hk hn => h (k + 1) (by omega) (by omega)) x
    have h2 := h 0 (by omega) (by omega)
    obtain ⟨c, hc⟩ := h1
    exact ⟨x * c, by show t 0 + x * pv n (fun k => t (k + 1)) x - 0 = _; grind⟩
  | m + 1, 0, t, _ => PF.zero _
  | m + 1, n + 1, t, h => ⟨t 0, fun x => pv n (fun k => t (k + 1)) x, pv_PF p m n _ (fun k hk hn => h (k + 1) (by omega) (by omega)), fun x => Eqp.rfl'⟩
theorem pv_add (p b : Int) (x : Int) : ∀ (n : Nat) (t u s : Nat → Int), (∀ k, k < n → Eqp p (s k) (t k + b * u k)) → Eqp p (pv n s x) (pv n t x + b * pv n u x)
  | 0, t, u, s, _ => Eqp.of_eq (by simp [pv])
  | n + 1, t, u, s, h => by
    obtain ⟨c, hc⟩ := pv_add p b x n (fun k => t (k + 1)) (fun k => u (k + 1)) (fun k => s (k + 1)) (fun k hk => h (k + 1) (by omega))
    obtain ⟨d, hd⟩ := h 0 (by omega)
    exact ⟨d + x * c, by show s 0 + x * pv n (fun k => s (k + 1)) x - (t 0 + x * pv n (fun k => t (k + 1)) x + b * (u 0 + x * pv n (fun k => u (k + 1)) x)) = _; grind⟩
/-- The product with x, without the term that is too high. -/
theorem pv_shift (x : Int) : ∀ (n : Nat) (t : Nat → Int), (∀ k, k + 1 = n → t k = 0) → pv n (fun k => if k = 0 then 0 else t (k - 1)) x = x * pv n t x
  | 0, t, _ => by simp [pv]
  | n + 1, t, h => by
    have e : ∀ (n : Nat) (t : Nat → Int), t n = 0 → pv (n + 1) t x = pv n t x := by
      intro n
      induction n with
      | zero => intro t h; simp [pv, h]
      | succ n ih => intro t h; show t 0 + x * pv (n + 1) (fun k => t (k + 1)) x = t 0 + x * pv n (fun k => t (k + 1)) x; rw [ih (fun k => t (k + 1)) h]
    rw [e n t (h n rfl)]
    show (if 0 = 0 then 0 else t (0 - 1)) + x * pv n (fun k => if k + 1 = 0 then 0 else t (k + 1 - 1)) x = x * pv n t x
    have e2 : (fun k => if k + 1 = 0 then 0 else t (k + 1 - 1)) = t := by funext k; simp
    rw [e2]; simp
/-- The product of x less each of the first i numbers. -/
def pr (z : Nat → Int) (x : Int) : Nat → Int
  | 0 => 1
  | i + 1 => (x - z i) * pr z x i
theorem pr_zero (z : Nat → Int) {i j : Nat} (h : j < i) : pr z (z j) i = 0 := by
  induction i with
  | zero => omega
  | succ i ih =>
    show (z j - z i) * pr z (z j) i = 0
    by_cases e : j = i
    · subst e; simp
    · rw [ih (by omega)]; simp
theorem pr_ne {p : Int} (hp : Prm p) (h1 : ¬ Eqp p 1 0) (z : Nat → Int) (x : Int) : ∀ i, (∀ j, j < i → ¬ Eqp p (x - z j) 0) → ¬ Eqp p (pr z x i) 0
  | 0, _ => h1
  | i + 1, h => fun k => by
    rcases hp _ _ k with k | k
    · exact h i (by omega) k
    · exact pr_ne hp h1 z x i (fun j hj => h j (by omega)) k
/-- **The way of the program**: what holds behind i places. -/
structure Nwt (p : Int) (ps vs : Nat → Int) (i : Nat) (th no : Nat → Int) : Prop where
  tin : ∀ k, k < 8 → 0 ≤ th k ∧ th k < p
  nin : ∀ k, k < 8 → 0 ≤ no k ∧ no k < p
  top : ∀ k, i ≤ k → k < 8 → th k = 0
  deg : ∀ k, i < k → k < 8 → no k = 0
  val : i ≤ 7 → ∀ x, Eqp p (pv 8 no x) (pr ps x i)
  hit : ∀ j, j < i → Eqp p (pv 8 th (ps j)) (vs j)
theorem Nwt.start {p : Int} (hp : 1 < p) (ps vs : Nat → Int) : Nwt p ps vs 0 (fun _ => 0) (fun k => if k = 0 then 1 else 0) where
  tin := fun k _ => ⟨Int.le_refl 0, by show (0 : Int) < p; omega⟩
  nin := fun k _ => by by_cases h : k = 0 <;> simp [h] <;> omega
  top := fun k _ _ => rfl
  deg := fun k h _ => by simp; omega
  val := fun _ x => Eqp.of_eq (by simp [pv, pr])
  hit := fun j h => by omega
theorem Nwt.step {p : Int} (hp : 1 < p) {ps vs : Nat → Int} {i : Nat} {th no : Nat → Int} (h : Nwt p ps vs i th no) (hi : i < 8) (b : Int)
    (hb : Eqp p (b * pv 8 no (ps i)) (vs i - pv 8 th (ps i))) :
    Nwt p ps vs (i + 1) (fun k => (th k + b * no k) % p) (fun k => ((if k = 0 then 0 else no (k - 1)) - ps i * no k) % p) where
  tin := fun k _ => ⟨Int.emod_nonneg _ (by omega), Int.emod_lt_of_pos _ (by omega)⟩
  nin := fun k _ => ⟨Int.emod_nonneg _ (by omega), Int.emod_lt_of_pos _ (by omega)⟩
  top := fun k hk h8 => by
    show (th k + b * no k) % p = 0
    rw [h.top k (by omega) h8, h.deg k (by omega) h8]; simp
  deg := fun k hk h8 => by
    show ((if k = 0 then 0 else no (k - 1)) - ps i * no k) % p = 0
    rw [if_neg (by omega), h.deg k (by omega) h8, h.deg (k - 1) (by omega) (by omega)]; simp
  val := fun h7 x => by
    have e1 := pv_shift x 8 no (fun k hk => h.deg k (by omega) (by omega))
    have e2 := pv_add p (-(ps i)) x 8 (fun k => if k = 0 then 0 else no (k - 1)) no (fun k => ((if k = 0 then 0 else no (k - 1)) - ps i * no k) % p) (fun k _ => (Eqp.emod _).trans (Eqp.of_eq (by grind)))
    refine e2.trans ?_
    rw [e1]
    obtain ⟨c, hc⟩ := h.val (by omega) x
    exact ⟨(x - ps i) * c, by show _ - (x - ps i) * pr ps x i = _; grind⟩
  hit := fun j hj => by
    have e2 := pv_add p b (ps j) 8 th no (fun k => (th k + b * no k) % p) (fun k _ => Eqp.emod _)
    refine e2.trans ?_
    by_cases e : j = i
    · subst e
      obtain ⟨c, hc⟩ := hb
      exact ⟨c, by grind⟩
    · obtain ⟨c, hc⟩ := h.val (by omega) (ps j)
      rw [pr_zero ps (show j < i by omega)] at hc
      obtain ⟨d, hd⟩ := h.hit j (by omega)
      exact ⟨d + b * c, by grind⟩
/-- **The way of the model.** -/
def ab (p : Int) (ps vs : Nat → Int) (i : Nat) (x : Int) : Nat → Int
  | 0 => vs i
  | k + 1 => if k = i then ab p ps vs i x k else ab p ps vs i x k * ((x - ps k + p) % p) % p
def be (p : Int) (ps : Nat → Int) (i : Nat) : Nat → Int
  | 0 => 1
  | k + 1 => if k = i then be p ps i k else be p ps i k * ((ps i - ps k + p) % p) % p
/-- The least number whose product with x is 1. -/
def iv (p x : Int) : Int := (((List.range p.toNat).find? fun y : Nat => x * (y : Int) % p == 1).getD 0 : Nat)
def lg (p : Int) (ps vs : Nat → Int) (n : Nat) (x : Int) : Nat → Int
  | 0 => 0
  | i + 1 => (lg p ps vs n x i + ab p ps vs i x n * iv p (be p ps i n)) % p
/-- The product of x less all numbers but one. -/
def px (z : Nat → Int) (i : Nat) (x : Int) : Nat → Int
  | 0 => 1
  | k + 1 => if k = i then px z i x k else (x - z k) * px z i x k
theorem ab_px (p : Int) (ps vs : Nat → Int) (i : Nat) (x : Int) : ∀ k, Eqp p (ab p ps vs i x k) (vs i * px ps i x k)
  | 0 => Eqp.of_eq (by simp [ab, px])
  | k + 1 => by
    unfold ab px
    by_cases e : k = i
    · rw [if_pos e, if_pos e]; exact ab_px p ps vs i x k
    · rw [if_neg e, if_neg e]
      refine (Eqp.emod _).trans (((ab_px p ps vs i x k).mul (Eqp.emod _)).trans ⟨vs i * px ps i x k, by grind⟩)
theorem be_px (p : Int) (ps : Nat → Int) (i : Nat) : ∀ k, Eqp p (be p ps i k) (px ps i (ps i) k)
  | 0 => Eqp.of_eq (by simp [be, px])
  | k + 1 => by
    unfold be px
    by_cases e : k = i
    · rw [if_pos e, if_pos e]; exact be_px p ps i k
    · rw [if_neg e, if_neg e]
      refine (Eqp.emod _).trans (((be_px p ps i k).mul (Eqp.emod _)).trans ⟨px ps i (ps i) k, by grind⟩)
theorem px_PF (p : Int) (z : Nat → Int) (i : Nat) : ∀ k, PF p (if k ≤ i then k + 1 else k) (fun x => px z i x k)
  | 0 => by simpa [px] using PF.const (p := p) 0 1
  | k + 1 => by
    have ih := px_PF p z i k
    by_cases e : k = i
    · subst e
      rw [if_pos (Nat.le_refl _)] at ih
      rw [if_neg (by omega)]
      exact ih.congr fun x => Eqp.of_eq (by simp [px])
    · have h2 := (PF.root (z k) ih).congr (g := fun x => px z i x (k + 1)) fun x => Eqp.of_eq (by simp [px, e])
      by_cases hk : k ≤ i
      · rw [if_pos hk] at h2; rw [if_pos (by omega)]; exact h2
      · rw [if_neg hk] at h2; rw [if_neg (by omega)]; exact h2
theorem px_zero (z : Nat → Int) {i j k : Nat} (h : j < k) (hn : j ≠ i) : px z i (z j) k = 0 := by
  induction k with
  | zero => omega
  | succ k ih =>
    unfold px
    by_cases e : k = i
    · rw [if_pos e]; exact ih (by omega)
    · rw [if_neg e]
      by_cases e2 : j = k
      · subst e2; simp
      · rw [ih (by omega)]; simp
theorem px_ne {p : Int} (hp : Prm p) (h1 : ¬ Eqp p 1 0) (z : Nat → Int) (i : Nat) (x : Int) : ∀ k, (∀ j, j < k → j ≠ i → ¬ Eqp p (x - z j) 0) → ¬ Eqp p (px z i x k) 0
  | 0, _ => h1
  | k + 1, h => fun q => by
    unfold px at q
    by_cases e : k = i
    · rw [if_pos e] at q; exact px_ne hp h1 z i x k (fun j hj hn => h j (by omega) hn) q
    · rw [if_neg e] at q
      rcases hp _ _ q with q | q
      · exact h k (by omega) e q
      · exact px_ne hp h1 z i x k (fun j hj hn => h j (by omega) hn) q
theorem lg_PF {p : Int} (ps vs : Nat → Int) (n : Nat) : ∀ i, i ≤ n → PF p n (fun x => lg p ps vs n x i)
  | 0, _ => PF.zero _
  | i + 1, h => by
    have h1 := px_PF p ps i n
    rw [if_neg (by omega)] at h1
    have h2 := PF.add (vs i * iv p (be p ps i n)) (lg_PF ps vs n i (by omega)) h1
    refine h2.congr fun x => (Eqp.emod _).trans ?_
    obtain ⟨c, hc⟩ := ab_px p ps vs i x n
    exact ⟨c * iv p (be p ps i n), by grind⟩
theorem lg_hit {p : Int} (ps vs : Nat → Int) (n : Nat) {j : Nat} (hj : j < n) (hinv : Eqp p (be p ps j n * iv p (be p ps j n)) 1) : ∀ i, i ≤ n → Eqp p (lg p ps vs n (ps j) i) (if j < i then vs j else 0)
  | 0, _ => by simpa using Eqp.of_eq (by simp [lg])
  | i + 1, h => by
    have ih := lg_hit ps vs n hj hinv i (by omega)
    refine (Eqp.emod _).trans ?_
    have ha := ab_px p ps vs i (ps j) n
    by_cases e : i = j
    · subst e
      rw [if_neg (by omega)] at ih
      rw [if_pos (by omega)]
      have hb := be_px p ps i n
      obtain ⟨a, ha⟩ := ha; obtain ⟨b, hb⟩ := hb; obtain ⟨c, hc⟩ := ih; obtain ⟨d, hd⟩ := hinv
      exact ⟨c + a * iv p (be p ps i n) - vs i * b * iv p (be p ps i n) + vs i * d, by grind⟩
    · rw [px_zero ps hj (fun k => e k.symm)] at ha
      have h3 : (if j < i + 1 then vs j else 0) = (if j < i then vs j else 0) := by
        by_cases q : j < i
        · rw [if_pos q, if_pos (by omega)]
        · rw [if_neg q, if_neg (by omega)]
      rw [h3]
      obtain ⟨a, ha⟩ := ha; obtain ⟨c, hc⟩ := ih
      exact ⟨c + a * iv p (be p ps i n), by grind⟩
/-- The primes of the chapter. -/
def prs : List Int := [7, 11, 13, 17, 31, 127, 257]
set_option maxRecDepth 100000 in
theorem inv_all : ∀ p ∈ [7, 11, 13, 17, 31, 127, 257], ∀ x, x < p → 0 < x → ∃ y, y < p ∧ x * y % p = 1 := by decide +kernel
theorem inv_of {p : Int} (hp : p ∈ prs) {x : Int} (h0 : ¬ Eqp p x 0) : ∃ y : Nat, (y : Int) < p ∧ x * (y : Int) % p = 1 := by
  have hp0 : 0 < p := by simp [prs] at hp; omega
  obtain ⟨q, hq⟩ : ∃ q : Nat, p = q := ⟨p.toNat, by omega⟩
  have hx1 := Int.emod_nonneg x (show p ≠ 0 by omega)
  have hx2 := Int.emod_lt_of_pos x hp0
  obtain ⟨r, hr⟩ : ∃ r : Nat, x % p = r := ⟨(x % p).toNat, by omega⟩
  have hr0 : 0 < r := by
    rcases Nat.eq_zero_or_pos r with e | e
    · exact absurd (Eqp.iff_emod.2 (show x % p = 0 % p by rw [hr, e]; simp)) h0
    · exact e
  have hqm : q ∈ [7, 11, 13, 17, 31, 127, 257] := by simp [prs] at hp; simp; omega
  obtain ⟨y, hy1, hy2⟩ := inv_all q hqm r (by omega) hr0
  refine ⟨y, by omega, ?_⟩
  rw [Int.mul_emod, hr, hq]
  rw [← Int.natCast_emod, ← Int.natCast_mul, ← Int.natCast_emod]
  have : r * (y % q) % q = 1 := by rw [Nat.mul_mod, Nat.mod_mod, ← Nat.mul_mod]; exact hy2
  exact_mod_cast this
theorem prm_of {p : Int} (hp : p ∈ prs) : Prm p := fun a b h => by
  by_cases ha : Eqp p a 0
  · exact .inl ha
  · right
    obtain ⟨y, _, hy⟩ := inv_of hp ha
    obtain ⟨c, hc⟩ := h
    have h1 : Eqp p (a * y) 1 := (Eqp.emod _).symm.trans (Eqp.of_eq hy)
    obtain ⟨d, hd⟩ := h1
    exact ⟨c * y - b * d, by grind⟩
theorem one_ne {p : Int} (hp : p ∈ prs) : ¬ Eqp p 1 0 := fun h => by
  have := Eqp.iff_emod.1 h
  simp [prs] at hp
  rcases hp with rfl | rfl | rfl | rfl | rfl | rfl | rfl <;> simp at this
/-- What the inverse is. -/
theorem iv_ok {p x : Int} (hp : p ∈ prs) (h0 : ¬ Eqp p x 0) : Eqp p (x * iv p x) 1 ∧ 0 ≤ iv p x ∧ iv p x < p ∧ x * iv p x % p = 1 ∧ ∀ y : Nat, (y : Int) < iv p x → x * (y : Int) % p ≠ 1 := by
  obtain ⟨y, hy1, hy2⟩ := inv_of hp h0
  unfold iv
  cases hf : (List.range p.toNat).find? fun y : Nat => x * (y : Int) % p == 1 with
  | none =>
    rw [List.find?_eq_none] at hf
    exact absurd hy2 (by simpa using hf y (List.mem_range.2 (by omega)))
  | some q =>
    have h1 := List.find?_some hf
    have h2 := List.mem_of_find?_eq_some hf
    rw [List.mem_range] at h2
    have h3 : x * (q : Int) % p = 1 := by simpa using h1
    refine ⟨(Eqp.emod _).symm.trans (Eqp.of_eq h3), by simp, by simp; omega, h3, fun z hz => ?_⟩
    have hz2 : z < q := by simpa using hz
    rw [List.find?_range_eq_some] at hf
    exact by simpa using hf.2.2 z hz2
/-- **Both ways go to the same value.** -/
theorem both {p : Int} (hp : p ∈ prs) {ps vs : Nat → Int} {n : Nat} {th no : Nat → Int} (hn : n ≤ 8) (h : Nwt p ps vs n th no) (hin : ∀ i, i < n → 0 ≤ ps i ∧ ps i < p) (hd : ∀ i j, i < j → j < n → ps j ≠ ps i) (x : Int) :
    ho p th x 8 8 = lg p ps vs n x n := by
  have hp0 : 1 < p := by simp [prs] at hp; omega
  have hdp : ∀ i j, i < n → j < n → i ≠ j → ¬ Eqp p (ps j - ps i) 0 := fun i j hi hj hij ⟨c, hc⟩ => by
    have h1 := hin i hi
    have h2 := hin j hj
    have h3 : c = 0 := by
      rcases Int.lt_trichotomy c 0 with q | q | q
      · have : p * c ≤ p * (-1) := Int.mul_le_mul_of_nonneg_left (by omega) (by omega)
        omega
      · exact q
      · have : p * 1 ≤ p * c := Int.mul_le_mul_of_nonneg_left (by omega) (by omega)
        omega
    subst h3
    rcases Nat.lt_or_gt_of_ne hij with q | q
    · exact hd i j q hj (by omega)
    · exact hd j i q hi (by omega)
  have hbe : ∀ j, j < n → ¬ Eqp p (be p ps j n) 0 := fun j hj k =>
    px_ne (prm_of hp) (one_ne hp) ps j (ps j) n (fun i hi hij => hdp i j hi hj hij) ((be_px p ps j n).symm.trans k)
  have e : Eqp p (ho p th x 8 8) (lg p ps vs n x n) := by
    refine (ho_pv p x 8 th).trans (PF.agree (prm_of hp) ps (pv_PF p n 8 th h.top) (lg_PF ps vs n n (Nat.le_refl _)) (fun i j hij hj => hdp i j (by omega) hj (by omega)) (fun i hi => ?_) x)
    refine (h.hit i hi).trans (Eqp.symm ?_)
    have := lg_hit ps vs n hi (iv_ok hp (hbe i hi)).1 n (Nat.le_refl _)
    rwa [if_pos hi] at this
  have h1 := ho_in (show 0 < p by omega) th x 8 8
  have h2 : 0 ≤ lg p ps vs n x n ∧ lg p ps vs n x n < p := by
    cases n with
    | zero => exact ⟨Int.le_refl 0, by show (0 : Int) < p; omega⟩
    | succ n => exact ⟨Int.emod_nonneg _ (by omega), Int.emod_lt_of_pos _ (by omega)⟩
  have h3 := Eqp.iff_emod.1 e
  rwa [Int.emod_eq_of_lt h1.1 h1.2, Int.emod_eq_of_lt h2.1 h2.2] at h3
end Go.Proofs.Ytaefmffmjbabcaa.Pol
