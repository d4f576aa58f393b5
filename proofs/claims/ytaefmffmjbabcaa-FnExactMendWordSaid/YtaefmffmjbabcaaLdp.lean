
/- Leaders: the least word of each syndrome, in two orders. -/
set_option linter.unusedVariables false
namespace Go.Proofs.Ytaefmffmjbabcaa.LdX
/-- v is the least word of P with the syndrome s, by weight and then by number; -1: there is none. -/
def Lst (wt syn : Nat → Nat) (P : Nat → Prop) (s : Nat) (v : Int) : Prop :=
  (v = -1 ∧ ∀ x, P x → syn x ≠ s) ∨ ∃ x : Nat, v = (x : Int) ∧ P x ∧ syn x = s ∧ ∀ y, P y → syn y = s → wt x < wt y ∨ (wt x = wt y ∧ x ≤ y)
theorem lst_one {wt syn : Nat → Nat} {P : Nat → Prop} {s : Nat} {v u : Int} (h : Lst wt syn P s v) (k : Lst wt syn P s u) : v = u := by
  rcases h with ⟨rfl, h⟩ | ⟨x, rfl, hx, hs, h⟩ <;> rcases k with ⟨rfl, k⟩ | ⟨y, rfl, hy, ht, k⟩
  · rfl
  · exact absurd ht (h y hy)
  · exact absurd hs (k x hx)
  · have h1 := h y hy ht
    have h2 := k x hx hs
    have : x = y := by omega
    rw [this]
theorem lst_congr {wt syn : Nat → Nat} {P Q : Nat → Prop} {s : Nat} {v : Int} (e : ∀ x, P x ↔ Q x) (h : Lst wt syn P s v) : Lst wt syn Q s v := by
  rcases h with ⟨h0, h⟩ | ⟨x, h0, hx, hs, h⟩
  · exact .inl ⟨h0, fun x hx => h x ((e x).2 hx)⟩
  · exact .inr ⟨x, h0, (e x).1 hx, hs, fun y hy => h y ((e y).2 hy)⟩
/-- The model: words by number. -/
def ldM (wt syn : Nat → Nat) : Nat → Nat → Int
  | 0, _ => -1
  | m + 1, s => if syn m = s ∧ (ldM wt syn m s < 0 ∨ wt m < wt (ldM wt syn m s).toNat) then (m : Int) else ldM wt syn m s
theorem ldM_lst (wt syn : Nat → Nat) : ∀ m s, Lst wt syn (fun x => x < m) s (ldM wt syn m s)
  | 0, s => .inl ⟨rfl, fun x hx => absurd hx (Nat.not_lt_zero _)⟩
  | m + 1, s => by
    have ih := ldM_lst wt syn m s
    unfold ldM
    by_cases hc : syn m = s ∧ (ldM wt syn m s < 0 ∨ wt m < wt (ldM wt syn m s).toNat)
    · rw [if_pos hc]
      refine .inr ⟨m, rfl, Nat.lt_succ_self _, hc.1, fun y hy hs => ?_⟩
      rcases Nat.lt_or_ge y m with h | h
      · rcases ih with ⟨h0, h1⟩ | ⟨x, h0, hx, hsx, h1⟩
        · exact absurd hs (h1 y h)
        · rw [h0] at hc
          have h2 := h1 y h hs
          have h3 : wt m < wt x := by
            rcases hc.2 with h4 | h4
            · omega
            · simpa using h4
          omega
      · have : y = m := by omega
        subst this
        exact .inr ⟨rfl, Nat.le_refl _⟩
    · rw [if_neg hc]
      rcases ih with ⟨h0, h1⟩ | ⟨x, h0, hx, hsx, h1⟩
      · refine .inl ⟨h0, fun y hy hs => ?_⟩
        rcases Nat.lt_or_ge y m with h | h
        · exact h1 y h hs
        · have : y = m := by omega
          subst this
          exact hc ⟨hs, .inl (by rw [h0]; decide)⟩
      · refine .inr ⟨x, h0, Nat.lt_succ_of_lt hx, hsx, fun y hy hs => ?_⟩
        rcases Nat.lt_or_ge y m with h | h
        · exact h1 y h hs
        · have : y = m := by omega
          subst this
          rw [h0] at hc
          have h2 : ¬ wt y < wt x := fun h4 => hc ⟨hs, .inr (by simpa using h4)⟩
          omega
theorem ldM_in (wt syn : Nat → Nat) (m s : Nat) : -1 ≤ ldM wt syn m s ∧ ldM wt syn m s < m := by
  rcases ldM_lst wt syn m s with ⟨h0, _⟩ | ⟨x, h0, hx, _⟩ <;> rw [h0]
  · omega
  · have : x < m := hx
    omega
/-- The words that the program has seen: all of less weight, and those of weight q below m. -/
def Seen (wt : Nat → Nat) (N q m x : Nat) : Prop := x < N ∧ (wt x < q ∨ (wt x = q ∧ x < m))
/-- One word more. -/
def stp (syn : Nat → Nat) (F : Nat → Int) (x : Nat) (s : Nat) : Int := if s = syn x ∧ F s = -1 then (x : Int) else F s
theorem seen_zero (wt : Nat → Nat) (N x : Nat) : ¬ Seen wt N 0 0 x := fun h => by have := h.2; omega
theorem seen_next (wt : Nat → Nat) (N q x : Nat) : Seen wt N q N x ↔ Seen wt N (q + 1) 0 x := by
  unfold Seen
  constructor
  · rintro ⟨h, k⟩; exact ⟨h, by omega⟩
  · rintro ⟨h, k⟩; exact ⟨h, by omega⟩
theorem seen_all (wt : Nat → Nat) {N w x : Nat} (hw : ∀ x, x < N → wt x ≤ w) : Seen wt N (w + 1) 0 x ↔ x < N := by
  unfold Seen
  constructor
  · exact fun h => h.1
  · exact fun h => ⟨h, .inl (by have := hw x h; omega)⟩
theorem seen_no {wt : Nat → Nat} {N q m x : Nat} (hq : wt m ≠ q) : Seen wt N q m x ↔ Seen wt N q (m + 1) x := by
  unfold Seen
  constructor
  · rintro ⟨h, k⟩; exact ⟨h, by omega⟩
  · rintro ⟨h, k⟩
    refine ⟨h, ?_⟩
    rcases k with k | ⟨k1, k2⟩
    · exact .inl k
    · have : x ≠ m := fun e => hq (by rw [← e]; exact k1)
      exact .inr ⟨k1, by omega⟩
theorem stp_lst {wt syn : Nat → Nat} {N q m : Nat} {F : Nat → Int} (hm : m < N) (hq : wt m = q) (h : ∀ s, Lst wt syn (Seen wt N q m) s (F s)) (s : Nat) : Lst wt syn (Seen wt N q (m + 1)) s (stp syn F m s) := by
  have hs1 : ∀ x, Seen wt N q (m + 1) x → Seen wt N q m x ∨ x = m := fun x hx => by
    unfold Seen at hx ⊢
    rcases hx with ⟨h1, h2 | ⟨h2, h3⟩⟩
    · exact .inl ⟨h1, .inl h2⟩
    · by_cases e : x = m
      · exact .inr e
      · exact .inl ⟨h1, .inr ⟨h2, by omega⟩⟩
  have hs2 : ∀ x, Seen wt N q m x → Seen wt N q (m + 1) x := fun x hx => by unfold Seen at hx ⊢; exact ⟨hx.1, by omega⟩
  unfold stp
  by_cases hc : s = syn m ∧ F s = -1
  · rw [if_pos hc]
    have ih := h s
    rw [hc.2] at ih
    rcases ih with ⟨_, h1⟩ | ⟨x, h0, _⟩
    · refine .inr ⟨m, rfl, ⟨hm, .inr ⟨hq, Nat.lt_succ_self _⟩⟩, hc.1.symm, fun y hy hsy => ?_⟩
      rcases hs1 y hy with h2 | rfl
      · exact absurd hsy (h1 y h2)
      · exact .inr ⟨rfl, Nat.le_refl _⟩
    · omega
  · rw [if_neg hc]
    rcases h s with ⟨h0, h1⟩ | ⟨x, h0, hx, hsx, h1⟩
    · refine .inl ⟨h0, fun y hy hsy => ?_⟩
      rcases hs1 y hy with h2 | rfl
      · exact h1 y h2 hsy
      · exact hc ⟨hsy.symm, h0⟩
    · refine .inr ⟨x, h0, hs2 x hx, hsx, fun y hy hsy => ?_⟩
      rcases hs1 y hy with h2 | rfl
      · exact h1 y h2 hsy
      · have := hx.2
        omega
/-- All syndromes have been found: what comes later changes nothing. -/
theorem lst_early {wt syn : Nat → Nat} {N q m s : Nat} {v : Int} (h : Lst wt syn (Seen wt N q m) s v) (hv : v ≠ -1) : Lst wt syn (fun x => x < N) s v := by
  rcases h with ⟨h0, _⟩ | ⟨x, h0, hx, hsx, h1⟩
  · exact absurd h0 hv
  · refine .inr ⟨x, h0, hx.1, hsx, fun y hy hsy => ?_⟩
    by_cases hs : Seen wt N q m y
    · exact h1 y hs hsy
    · have h2 := hx.2
      have h3 : ¬ (wt y < q ∨ (wt y = q ∧ y < m)) := fun k => hs ⟨hy, k⟩
      omega
/-- How many syndromes below M have no leader. -/
def mis (F : Nat → Int) : Nat → Nat
  | 0 => 0
  | M + 1 => mis F M + if F M = -1 then 1 else 0
theorem mis_none : ∀ M, mis (fun _ => -1) M = M
  | 0 => rfl
  | M + 1 => by show mis (fun _ => -1) M + _ = _; rw [mis_none M]; simp
theorem mis_zero {F : Nat → Int} : ∀ {M : Nat}, mis F M = 0 → ∀ s, s < M → F s ≠ -1
  | M + 1, h, s, hs => by
    have h1 : mis F M + (if F M = -1 then 1 else 0) = 0 := h
    rcases Nat.lt_or_ge s M with h2 | h2
    · exact mis_zero (M := M) (by omega) s h2
    · have : s = M := by omega
      subst this
      intro e
      rw [if_pos e] at h1
      omega
theorem mis_stp {syn : Nat → Nat} {F : Nat → Int} {x : Nat} : ∀ {M : Nat}, syn x < M → F (syn x) = -1 → mis (stp syn F x) M + 1 = mis F M
  | M + 1, hs, h0 => by
    have same : ∀ K, K ≤ syn x → mis (stp syn F x) K = mis F K := by
      intro K
      induction K with
      | zero => intro _; rfl
      | succ K ih =>
        intro hK
        show mis (stp syn F x) K + _ = mis F K + _
        rw [ih (by omega)]
        have e : stp syn F x K = F K := by unfold stp; rw [if_neg (by intro h; omega)]
        rw [e]
    show mis (stp syn F x) M + (if stp syn F x M = -1 then 1 else 0) + 1 = mis F M + (if F M = -1 then 1 else 0)
    rcases Nat.lt_or_ge (syn x) M with h2 | h2
    · have ih := mis_stp (M := M) h2 h0
      have e : stp syn F x M = F M := by unfold stp; rw [if_neg (by intro h; omega)]
      rw [e]
      omega
    · have e : syn x = M := by omega
      rw [same M (by omega)]
      have e2 : stp syn F x M = (x : Int) := by unfold stp; rw [if_pos ⟨e.symm, by rw [← e]; exact h0⟩]
      rw [e2, if_neg (by omega), ← e, if_pos h0]
end Go.Proofs.Ytaefmffmjbabcaa.LdX
