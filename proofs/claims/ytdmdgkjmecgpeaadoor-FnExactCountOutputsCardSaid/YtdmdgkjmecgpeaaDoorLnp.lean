
/- Lines of a text: plain facts. -/
import Derived.Test.YtdmdgkjmecgpeaaDoorCut
import Derived.Lib.Strings
namespace Go.Proofs.YtdmdgkjmecgpeaaDoor
open Go.Lib

theorem lastD_of {X : List (List UInt8)} (h : X ≠ []) (a b : List UInt8) : X.getLastD a = X.getLastD b := by
  cases X with
  | nil => exact absurd rfl h
  | cons x t => rw [List.getLastD_cons, List.getLastD_cons]
/-- The last part of a text. -/
def lp (c : UInt8) (l : List UInt8) : List UInt8 := (cutL c l).getLastD []
theorem lp_other {c x : UInt8} (hx : x ≠ c) : ∀ l, lp c (l ++ [x]) ≠ []
  | [] => by unfold lp; rw [List.nil_append, cutL_other hx (r := []) (a := []) (t := []) rfl]; simp
  | y :: l => by
    have ih := lp_other hx l
    unfold lp at ih ⊢
    rw [List.cons_append]
    by_cases hy : y = c
    · subst hy
      rw [cutL_mark]
      rw [List.getLastD_cons]; exact ih
    · cases e : cutL c (l ++ [x]) with
      | nil => exact absurd e (cutL_ne c _)
      | cons h t =>
        rw [cutL_other hy e, List.getLastD_cons]
        rw [e, List.getLastD_cons] at ih
        by_cases ht : t = []
        · subst ht; simp
        · rw [lastD_of ht (y :: h) h]; exact ih
theorem lp_mark (c : UInt8) : ∀ l, lp c (l ++ [c]) = []
  | [] => by unfold lp; rw [List.nil_append, cutL_mark]; rfl
  | y :: l => by
    have ih := lp_mark c l
    unfold lp at ih ⊢
    rw [List.cons_append]
    by_cases hy : y = c
    · subst hy
      rw [cutL_mark, List.getLastD_cons]; exact ih
    · cases e : cutL c (l ++ [c]) with
      | nil => exact absurd e (cutL_ne c _)
      | cons h t =>
        rw [cutL_other hy e, List.getLastD_cons]
        rw [e, List.getLastD_cons] at ih
        have ht : t ≠ [] := fun h0 => by
          have h1 := cutL_len c (l ++ [c])
          rw [e, h0] at h1
          simp at h1
        rw [lastD_of ht (y :: h) h]; exact ih
theorem lp_nil (c : UInt8) : lp c [] = [] := rfl
theorem lp_get {c : UInt8} {l : List UInt8} {m : Nat} (h : (cutL c l).length = m + 1) : (cutL c l).getD m [] = lp c l := by
  unfold lp
  rw [List.getLastD_eq_getLast?, List.getLast?_eq_getElem?, h, List.getD_eq_getElem?_getD]; rfl
theorem lp_suffix (c : UInt8) (l : List UInt8) : hasSuffix l [c] = true → lp c l = [] := fun h => by
  unfold hasSuffix at h
  rw [List.isSuffixOf_iff_suffix] at h
  obtain ⟨t, rfl⟩ := h
  exact lp_mark c t
theorem lp_none {c : UInt8} {l : List UInt8} (hl : l ≠ []) (h : hasSuffix l [c] = false) : lp c l ≠ [] := by
  obtain ⟨t, x, rfl⟩ : ∃ t x, l = t ++ [x] := ⟨l.dropLast, l.getLast hl, (List.dropLast_concat_getLast hl).symm⟩
  refine lp_other (fun e => ?_) t
  subst e
  have h2 : hasSuffix (t ++ [x]) [x] = true := by
    unfold hasSuffix
    rw [List.isSuffixOf_iff_suffix]
    exact ⟨t, rfl⟩
  rw [h] at h2; cases h2
end Go.Proofs.YtdmdgkjmecgpeaaDoor
