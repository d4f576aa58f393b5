
/- Plain Lean: insertion into a sorted list; the sorted list is one. -/
import Derived.Test.YtjlifbnenngijaaDoorWgi
set_option linter.unusedVariables false
namespace Go.Proofs.YtjlifbnenngijaaDoor.Pr

def srt (L : List Int) : List Int := L.mergeSort fun x y => decide (x ≤ y)
theorem srt_perm (L : List Int) : (srt L).Perm L := List.mergeSort_perm _ _
theorem srt_len (L : List Int) : (srt L).length = L.length := (srt_perm L).length_eq
theorem srt_le (L : List Int) : List.Pairwise (· ≤ ·) (srt L) := by
  have := List.pairwise_mergeSort (le := fun x y : Int => decide (x ≤ y)) (by intro a b c h1 h2; simp at *; omega) (by intro a b; simp; omega) L
  simpa [srt] using this
theorem eq_sorted : ∀ {l1 l2 : List Int}, l1.Perm l2 → l1.Pairwise (· ≤ ·) → l2.Pairwise (· ≤ ·) → l1 = l2
  | [], l2, hp, _, _ => hp.nil_eq
  | a :: l1, [], hp, _, _ => absurd hp.length_eq (by simp)
  | a :: l1, b :: l2, hp, h1, h2 => by
    have ha : a ∈ b :: l2 := hp.subset (List.mem_cons_self ..)
    have hb : b ∈ a :: l1 := hp.symm.subset (List.mem_cons_self ..)
    rw [List.pairwise_cons] at h1 h2
    have e : a = b := by
      rcases List.mem_cons.1 ha with rfl | ha'
      · rfl
      · rcases List.mem_cons.1 hb with rfl | hb'
        · rfl
        · have h3 := h1.1 b hb'
          have h4 := h2.1 a ha'
          omega
    subst e
    rw [eq_sorted hp.cons_inv h1.2 h2.2]
def insA (M : List Int) (x : Int) (k : Nat) : List Int := M.take k ++ x :: M.drop k
theorem insA_len {M : List Int} {x : Int} {k : Nat} (h : k ≤ M.length) : (insA M x k).length = M.length + 1 := by unfold insA; simp; omega
theorem insA_end (M : List Int) (x : Int) : insA M x M.length = M ++ [x] := by unfold insA; simp
theorem insA_at {M : List Int} {x : Int} {k : Nat} (h : k ≤ M.length) : (insA M x k).getD k 0 = x := by
  unfold insA
  rw [List.getD_eq_getElem?_getD, List.getElem?_append_right (by simp; omega)]
  simp [Nat.min_eq_left h]
theorem insA_pred {M : List Int} {x : Int} {k : Nat} (h1 : 1 ≤ k) (h : k ≤ M.length) : (insA M x k).getD (k - 1) 0 = M.getD (k - 1) 0 := by
  unfold insA
  rw [List.getD_eq_getElem?_getD, List.getElem?_append_left (by simp; omega), List.getD_eq_getElem?_getD, List.getElem?_take]
  rw [if_pos (by omega)]
theorem parts {M : List Int} {k : Nat} (h1 : 1 ≤ k) (h : k ≤ M.length) : ∃ A B m, M = A ++ m :: B ∧ A.length = k - 1 ∧ m = M.getD (k - 1) 0 := by
  refine ⟨M.take (k - 1), M.drop k, M.getD (k - 1) 0, ?_, by simp; omega, rfl⟩
  have e : M.drop (k - 1) = M.getD (k - 1) 0 :: M.drop k := by
    rw [List.drop_eq_getElem_cons (show k - 1 < M.length by omega), show k - 1 + 1 = k by omega, List.getD_eq_getElem?_getD, List.getElem?_eq_getElem (by omega)]
    rfl
  rw [← e, List.take_append_drop]
theorem insA_swap {M : List Int} {x : Int} {k : Nat} (h1 : 1 ≤ k) (h : k ≤ M.length) : ((insA M x k).set k (M.getD (k - 1) 0)).set (k - 1) x = insA M x (k - 1) := by
  obtain ⟨A, B, m, hM, hA, hm⟩ := parts h1 h
  rw [← hm]
  have hk : k = A.length + 1 := by omega
  have e1 : insA M x k = A ++ m :: x :: B := by
    unfold insA
    rw [hM, hk]
    simp [List.take_append, List.drop_append, List.take_of_length_le (Nat.le_succ A.length), List.drop_of_length_le (Nat.le_succ A.length)]
  have e2 : insA M x (k - 1) = A ++ x :: m :: B := by
    unfold insA
    rw [hM, hk]
    simp
  rw [e1, e2, hk]
  simp
theorem insA_perm (M : List Int) (x : Int) (k : Nat) : (insA M x k).Perm (M ++ [x]) := by
  unfold insA
  have h1 : (M.take k ++ x :: M.drop k).Perm (x :: (M.take k ++ M.drop k)) := List.perm_middle
  rw [List.take_append_drop] at h1
  exact h1.trans (List.perm_append_singleton x M).symm
theorem insA_sorted {M : List Int} {x : Int} {k : Nat} (hM : M.Pairwise (· ≤ ·)) (hk : k ≤ M.length) (hlo : k = 0 ∨ M.getD (k - 1) 0 ≤ x) (hhi : ∀ j, k ≤ j → j < M.length → x < M.getD j 0) : (insA M x k).Pairwise (· ≤ ·) := by
  have hM2 := hM
  rw [← List.take_append_drop k M, List.pairwise_append] at hM2
  obtain ⟨ha, hb, hab⟩ := hM2
  have hxb : ∀ b ∈ M.drop k, x ≤ b := by
    intro b hb2
    obtain ⟨j, hj, rfl⟩ := List.mem_iff_getElem.1 hb2
    have hj2 : k + j < M.length := by rw [List.length_drop] at hj; omega
    have := hhi (k + j) (by omega) hj2
    rw [List.getD_eq_getElem?_getD, List.getElem?_eq_getElem hj2] at this
    rw [List.getElem_drop]
    exact Int.le_of_lt this
  have hax : ∀ a ∈ M.take k, a ≤ x := by
    intro a ha2
    rcases hlo with h0 | hlo
    · subst h0; simp at ha2
    · obtain ⟨i, hi, rfl⟩ := List.mem_iff_getElem.1 ha2
      rw [List.length_take] at hi
      rw [List.getElem_take]
      have hi2 : i < M.length := by omega
      have hk1 : k - 1 < M.length := by omega
      rw [List.getD_eq_getElem?_getD, List.getElem?_eq_getElem hk1] at hlo
      have hlo : M[k - 1] ≤ x := hlo
      by_cases e : i = k - 1
      · subst e; exact hlo
      · have := (List.pairwise_iff_getElem.1 hM) i (k - 1) hi2 hk1 (by omega)
        omega
  unfold insA
  rw [List.pairwise_append, List.pairwise_cons]
  refine ⟨ha, ⟨hxb, hb⟩, fun a ha2 b hb2 => ?_⟩
  rcases List.mem_cons.1 hb2 with rfl | hb3
  · exact hax a ha2
  · exact hab a ha2 b hb3
theorem srt_snoc {L : List Int} {x : Int} {k : Nat} (hk : k ≤ (srt L).length) (hlo : k = 0 ∨ (srt L).getD (k - 1) 0 ≤ x) (hhi : ∀ j, k ≤ j → j < (srt L).length → x < (srt L).getD j 0) : insA (srt L) x k = srt (L ++ [x]) :=
  eq_sorted ((insA_perm _ x k).trans (((srt_perm L).append_right [x]).trans (srt_perm (L ++ [x])).symm)) (insA_sorted (srt_le L) hk hlo hhi) (srt_le _)
/-- The near words among the first k. -/
def nf (z : Nat → Nat) (n x f : Nat) : Nat → List Int
  | 0 => []
  | k + 1 => if wt (ew z n k ^^^ x) ≤ f then nf z n x f k ++ [((ew z n k : Nat) : Int)] else nf z n x f k
theorem nf_len (z : Nat → Nat) (n x f : Nat) : ∀ k, (nf z n x f k).length ≤ k
  | 0 => Nat.le_refl _
  | k + 1 => by
    have := nf_len z n x f k
    unfold nf
    split
    · rw [List.length_append]; simp; omega
    · omega
theorem nf_yes {z : Nat → Nat} {n x f k : Nat} (h : wt (ew z n k ^^^ x) ≤ f) : nf z n x f (k + 1) = nf z n x f k ++ [((ew z n k : Nat) : Int)] := by show (if _ then _ else _) = _; rw [if_pos h]
theorem nf_no {z : Nat → Nat} {n x f k : Nat} (h : ¬ wt (ew z n k ^^^ x) ≤ f) : nf z n x f (k + 1) = nf z n x f k := by show (if _ then _ else _) = _; rw [if_neg h]
def np (z : Nat → Nat) (n x f : Nat) {N : Nat} (pre : List (Fin N)) : List Int := (pre.filter fun y => decide (wt (ew z n y.val ^^^ x) ≤ f)).map fun y => ((ew z n y.val : Nat) : Int)
theorem np_yes {z : Nat → Nat} {n x f N : Nat} (pre : List (Fin N)) {y : Fin N} (h : wt (ew z n y.val ^^^ x) ≤ f) : np z n x f (pre ++ [y]) = np z n x f pre ++ [((ew z n y.val : Nat) : Int)] := by unfold np; simp [h]
theorem np_no {z : Nat → Nat} {n x f N : Nat} (pre : List (Fin N)) {y : Fin N} (h : ¬ wt (ew z n y.val ^^^ x) ≤ f) : np z n x f (pre ++ [y]) = np z n x f pre := by unfold np; simp [h]
theorem np_len {z : Nat → Nat} {n x f N : Nat} (pre : List (Fin N)) : (np z n x f pre).length ≤ pre.length := by unfold np; rw [List.length_map]; exact List.length_filter_le _ _
theorem np_up (z : Nat → Nat) (n x f N : Nat) : ∀ k, k ≤ N → np z n x f (Go.Proofs.YtjlifbnenngijaaDoor.upF N k) = nf z n x f k
  | 0, _ => rfl
  | k + 1, h => by
    have hk : k < N := by omega
    have ih := np_up z n x f N k (by omega)
    rw [Go.Proofs.YtjlifbnenngijaaDoor.upF_succ hk]
    by_cases e : wt (ew z n k ^^^ x) ≤ f
    · have h1 := np_yes (z := z) (n := n) (x := x) (f := f) (Go.Proofs.YtjlifbnenngijaaDoor.upF N k) (y := ⟨k, hk⟩) e
      have h2 := nf_yes (z := z) (n := n) (x := x) (f := f) (k := k) e
      rw [h1, h2, ih]
    · have h1 := np_no (z := z) (n := n) (x := x) (f := f) (Go.Proofs.YtjlifbnenngijaaDoor.upF N k) (y := ⟨k, hk⟩) e
      have h2 := nf_no (z := z) (n := n) (x := x) (f := f) (k := k) e
      rw [h1, h2, ih]
end Go.Proofs.YtjlifbnenngijaaDoor.Pr
