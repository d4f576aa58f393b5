
/- RecoverJournal: plain facts. -/
import Derived.Test.YthkabonnclfhmaaDoorJow
import Derived.Lib.Strings
namespace Go.Proofs.YthkabonnclfhmaaDoor
open Go.Proofs.YthkabonnclfhmaaDoor.Dcn Go.Lib

theorem itoa_free (n : Int) (d : UInt8) (hd : d.toNat < 45) : ∀ x ∈ itoa n, x ≠ d := by
  have h (u : Nat) : ∀ x ∈ decDigits u, x ≠ d := fun x hx e => by
    have := dec_digit u x hx
    subst e
    omega
  intro x hx
  by_cases hn : n < 0
  · obtain ⟨u, rfl⟩ : ∃ u : Nat, n = -(u : Int) := ⟨n.natAbs, by omega⟩
    rw [itoa_neg u (by omega)] at hx
    rcases List.mem_cons.1 hx with rfl | hx
    · intro e
      have h45 : (45 : UInt8).toNat = 45 := rfl
      rw [← e] at hd
      omega
    · exact h u x hx
  · obtain ⟨u, rfl⟩ : ∃ u : Nat, n = (u : Int) := ⟨n.toNat, by omega⟩
    rw [itoa_nonneg] at hx
    exact h u x hx
theorem split_uniq {c : UInt8} : ∀ {u a v b : List UInt8}, (∀ x ∈ u, x ≠ c) → (∀ x ∈ a, x ≠ c) → u ++ c :: v = a ++ c :: b → u = a ∧ v = b
  | [], [], v, b, _, _, h => by simp at h; exact ⟨rfl, h⟩
  | [], y :: a, v, b, _, ha, h => by
    simp at h
    exact absurd h.1.symm (ha y (List.mem_cons_self ..))
  | x :: u, [], v, b, hu, _, h => by
    simp at h
    exact absurd h.1 (hu x (List.mem_cons_self ..))
  | x :: u, y :: a, v, b, hu, ha, h => by
    simp at h
    obtain ⟨rfl, h⟩ := h
    obtain ⟨rfl, rfl⟩ := split_uniq (fun z hz => hu z (List.mem_cons_of_mem _ hz)) (fun z hz => ha z (List.mem_cons_of_mem _ hz)) h
    exact ⟨rfl, rfl⟩
/-- The first line of a text, and the text of its entry. -/
def jF (r : List UInt8) : List UInt8 := (cut r [10]).1
def jL (r : List UInt8) : List UInt8 := (cut (jF r) [32]).2.1
/-- One entry of a journal at the beginning of a text: its line, and what is behind it. -/
def jst (c : Int) (r : List UInt8) : Option (List UInt8 × List UInt8) :=
  if (cut r [10]).2.2 = true ∧ (cut (jF r) [32]).2.2 = true ∧ (cut (jF r) [32]).1 = itoa (chk c (jL r)) then some (jL r, (cut r [10]).2.1) else none
theorem jst_no1 {c : Int} {r : List UInt8} (h : ∀ x ∈ r, x ≠ 10) : jst c r = none := by
  unfold jst
  rw [if_neg]
  rw [cut_free h]
  simp
theorem jst_no2 {c : Int} {a b : List UInt8} (ha : ∀ x ∈ a, x ≠ 10) (h : ∀ x ∈ a, x ≠ 32) : jst c (a ++ 10 :: b) = none := by
  unfold jst
  rw [if_neg]
  unfold jF
  rw [cut_at ha]
  simp [cut_free h]
theorem jst_yes {c : Int} {bf l b : List UInt8} (ha : ∀ x ∈ bf ++ 32 :: l, x ≠ 10) (h : ∀ x ∈ bf, x ≠ 32) : jst c ((bf ++ 32 :: l) ++ 10 :: b) = if bf = itoa (chk c l) then some (l, b) else none := by
  unfold jst jL jF
  rw [cut_at ha]
  simp [cut_at h]
theorem jL_free {r : List UInt8} (h : ∀ x ∈ r, x ≠ 10) : jF r = r := by unfold jF; rw [cut_free h]
theorem jF_at {a b : List UInt8} (ha : ∀ x ∈ a, x ≠ 10) : jF (a ++ 10 :: b) = a := by unfold jF; rw [cut_at ha]
theorem hp_out {r p : List UInt8} (h : hasPrefix r p = true) : r = p ++ trimPrefix r p := by
  unfold trimPrefix
  rw [if_pos h]
  unfold hasPrefix at h
  rw [List.isPrefixOf_iff_prefix] at h
  obtain ⟨t, rfl⟩ := h
  simp
theorem hp_in (p t : List UInt8) : hasPrefix (p ++ t) p = true := by
  unfold hasPrefix
  rw [List.isPrefixOf_iff_prefix]
  exact ⟨t, rfl⟩
/-- What the program asks is what an entry is. -/
theorem jst_prog (c : Int) (r : List UInt8) : jst c r = if hasPrefix r (jE (chk c (jL r)) (jL r)) = true then some (jL r, trimPrefix r (jE (chk c (jL r)) (jL r))) else none := by
  have hi10 : ∀ d : Int, ∀ x ∈ itoa d, x ≠ 10 := fun d => itoa_free d 10 (by decide)
  have hi32 : ∀ d : Int, ∀ x ∈ itoa d, x ≠ 32 := fun d => itoa_free d 32 (by decide)
  have hen : ∀ (d : Int) (l t : List UInt8), jE d l ++ t = (itoa d ++ 32 :: l) ++ 10 :: t := fun d l t => by unfold jE; simp
  rcases split_first 10 r with h | ⟨a, b, rfl, ha⟩
  · rw [jst_no1 h, if_neg]
    intro hp
    have e := hp_out hp
    rw [hen] at e
    exact h 10 (by rw [e]; simp) rfl
  · rcases split_first 32 a with h2 | ⟨bf, l, rfl, hb⟩
    · rw [jst_no2 ha h2, if_neg]
      intro hp
      have e := hp_out hp
      have hL : jL (a ++ 10 :: b) = [] := by unfold jL; rw [jF_at ha, cut_free h2]
      rw [hL, hen] at e
      have := split_uniq (c := 10) ha (fun x hx => by
        rcases List.mem_append.1 hx with hx | hx
        · exact hi10 _ x hx
        · simp at hx; subst hx; decide) e
      exact h2 32 (by rw [this.1]; simp) rfl
    · have hL : jL ((bf ++ 32 :: l) ++ 10 :: b) = l := by unfold jL; rw [jF_at ha, cut_at hb]
      rw [jst_yes ha hb, hL]
      by_cases e : bf = itoa (chk c l)
      · have hp : hasPrefix ((bf ++ 32 :: l) ++ 10 :: b) (jE (chk c l) l) = true := by
          rw [e, ← hen]; exact hp_in _ _
        rw [if_pos e, if_pos hp]
        have e2 := hp_out hp
        rw [e, ← hen] at e2
        rw [e, ← hen]
        rw [← List.append_cancel_left e2]
      · rw [if_neg e, if_neg]
        intro hp
        have e2 := hp_out hp
        rw [hen] at e2
        have hl : ∀ x ∈ l, x ≠ 10 := fun x hx => ha x (List.mem_append_right _ (List.mem_cons_of_mem _ hx))
        have := split_uniq (c := 10) ha (fun x hx => by
          rcases List.mem_append.1 hx with hx | hx
          · exact hi10 _ x hx
          · rcases List.mem_cons.1 hx with rfl | hx
            · decide
            · exact hl x hx) e2
        exact e (split_uniq (c := 32) hb (hi32 _) this.1).1
theorem jst_short {c : Int} {r l b : List UInt8} (h : jst c r = some (l, b)) : b.length < r.length := by
  rcases split_first 10 r with h2 | ⟨a, b2, rfl, ha⟩
  · rw [jst_no1 h2] at h; cases h
  · unfold jst at h
    rw [cut_at ha] at h
    split at h
    · injection h with h; injection h with _ h; subst h; simp; omega
    · cases h
/-- The lines of the longest journal at the beginning of a text, and what is behind it. -/
def jrec : Nat → Int → List UInt8 → List (List UInt8) × List UInt8
  | 0, _, r => ([], r)
  | m + 1, c, r => match jst c r with
    | some (l, b) => (l :: (jrec m (chk c l) b).1, (jrec m (chk c l) b).2)
    | none => ([], r)
def jX (t : List UInt8) : List (List UInt8) := (jrec t.length 0 t).1
def jR (t : List UInt8) : List UInt8 := (jrec t.length 0 t).2
/-- Where the recovering stands: k lines are found, the check number is c, r is left. -/
structure JSt (t : List UInt8) (k : Nat) (c : Int) (r : List UInt8) : Prop where
  run : ∃ m, r.length ≤ m ∧ jrec m c r = ((jX t).drop k, jR t)
  bd : 0 ≤ c ∧ c < 65003
  len : k + r.length ≤ t.length
theorem JSt.start (t : List UInt8) : JSt t 0 0 t := ⟨⟨t.length, Nat.le_refl _, rfl⟩, by omega, by omega⟩
theorem JSt.step {t : List UInt8} {k : Nat} {c : Int} {r l b : List UInt8} (h : JSt t k c r) (hs : jst c r = some (l, b)) : (jX t).getD k [] = l ∧ k < (jX t).length ∧ JSt t (k + 1) (chk c l) b := by
  obtain ⟨⟨m, hm, hr⟩, hb, hl⟩ := h
  have hsh := jst_short hs
  obtain ⟨m, rfl⟩ : ∃ m', m = m' + 1 := ⟨m - 1, by omega⟩
  have hr : (l :: (jrec m (chk c l) b).1, (jrec m (chk c l) b).2) = ((jX t).drop k, jR t) := by
    rw [jrec, hs] at hr; exact hr
  have h1 : l :: (jrec m (chk c l) b).1 = (jX t).drop k := (Prod.mk.inj hr).1
  have h2 : (jrec m (chk c l) b).2 = jR t := (Prod.mk.inj hr).2
  have hk : k < (jX t).length := by
    have := congrArg List.length h1
    simp at this; omega
  rw [List.drop_eq_getElem_cons hk] at h1
  injection h1 with h3 h4
  refine ⟨by rw [List.getD_eq_getElem?_getD, List.getElem?_eq_getElem hk]; exact h3.symm, hk, ⟨m, by omega, ?_⟩, chk_bd c hb.1 hb.2 l, by omega⟩
  rw [← h4, ← h2]
theorem JSt.stop {t : List UInt8} {k : Nat} {c : Int} {r : List UInt8} (h : JSt t k c r) (hs : jst c r = none) (hk : k ≤ (jX t).length) : k = (jX t).length ∧ r = jR t := by
  obtain ⟨⟨m, hm, hr⟩, _, _⟩ := h
  have e : jrec m c r = ([], r) := by
    cases m with
    | zero => rfl
    | succ m => rw [jrec, hs]
  rw [e] at hr
  have h1 : [] = (jX t).drop k := (Prod.mk.inj hr).1
  have h2 : r = jR t := (Prod.mk.inj hr).2
  have := congrArg List.length h1
  simp at this
  exact ⟨by omega, h2⟩
end Go.Proofs.YthkabonnclfhmaaDoor
