
/- A text cut at its first mark: plain facts. -/
import Derived.Test.YthkabonnclfhmaaDoorCut
import Derived.Test.YthkabonnclfhmaaDoorDcn
namespace Go.Proofs.YthkabonnclfhmaaDoor
open Go.Lib Go.Proofs.YthkabonnclfhmaaDoor.Dcn

theorem split_first (c : UInt8) : ∀ l : List UInt8, (∀ x ∈ l, x ≠ c) ∨ ∃ a b, l = a ++ c :: b ∧ ∀ x ∈ a, x ≠ c
  | [] => .inl (by simp)
  | x :: r => by
    by_cases h : x = c
    · subst h
      exact .inr ⟨[], r, rfl, by simp⟩
    · rcases split_first c r with h2 | ⟨a, b, rfl, ha⟩
      · refine .inl (fun y hy => ?_)
        rcases List.mem_cons.1 hy with rfl | hy
        · exact h
        · exact h2 y hy
      · refine .inr ⟨x :: a, b, rfl, fun y hy => ?_⟩
        rcases List.mem_cons.1 hy with rfl | hy
        · exact h
        · exact ha y hy
theorem index_free (c : UInt8) : ∀ l : List UInt8, (∀ x ∈ l, x ≠ c) → index l [c] = -1
  | [], _ => by rw [index_one]; rfl
  | x :: r, h => by
    have ih := index_free c r (fun y hy => h y (List.mem_cons_of_mem _ hy))
    have hp : ([c] : List UInt8).isPrefixOf (x :: r) = false := by simp [List.isPrefixOf, Ne.symm (h x (List.mem_cons_self ..))]
    rw [index, hp, ih]; simp
theorem index_at (c : UInt8) (b : List UInt8) : ∀ a : List UInt8, (∀ x ∈ a, x ≠ c) → index (a ++ c :: b) [c] = a.length
  | [], _ => by rw [List.nil_append, index]; simp [List.isPrefixOf]
  | x :: a, h => by
    have ih := index_at c b a (fun y hy => h y (List.mem_cons_of_mem _ hy))
    have hp : ([c] : List UInt8).isPrefixOf (x :: (a ++ c :: b)) = false := by simp [List.isPrefixOf, Ne.symm (h x (List.mem_cons_self ..))]
    rw [List.cons_append, index, hp, ih]
    have : ((a.length : Int) == -1) = false := by simp <;> omega
    rw [this]; simp
theorem cut_free {c : UInt8} {l : List UInt8} (h : ∀ x ∈ l, x ≠ c) : cut l [c] = (l, [], false) := by
  unfold cut
  rw [index_free c l h, if_neg (by omega)]
theorem cut_at {c : UInt8} {a b : List UInt8} (h : ∀ x ∈ a, x ≠ c) : cut (a ++ c :: b) [c] = (a, b, true) := by
  unfold cut
  rw [index_at c b a h, if_pos (by omega)]
  simp
theorem itoa_chars (n : Int) : ∀ x ∈ itoa n, x ≠ 59 := by
  have h (u : Nat) : ∀ x ∈ decDigits u, x ≠ 59 := fun x hx e => by
    have := dec_digit u x hx
    subst e
    have h59 : (59 : UInt8).toNat = 59 := rfl
    omega
  intro x hx
  by_cases hn : n < 0
  · obtain ⟨u, rfl⟩ : ∃ u : Nat, n = -(u : Int) := ⟨n.natAbs, by omega⟩
    rw [itoa_neg u (by omega)] at hx
    rcases List.mem_cons.1 hx with rfl | hx
    · decide
    · exact h u x hx
  · obtain ⟨u, rfl⟩ : ∃ u : Nat, n = (u : Int) := ⟨n.toNat, by omega⟩
    rw [itoa_nonneg] at hx
    exact h u x hx
theorem cutL_mem {c d : UInt8} (h : d ≠ c) : ∀ l : List UInt8, d ∈ l → ∃ p ∈ cutL c l, d ∈ p
  | [], hl => absurd hl List.not_mem_nil
  | x :: r, hl => by
    by_cases hx : x = c
    · subst hx
      rw [cutL_mark]
      rcases List.mem_cons.1 hl with e | hl
      · exact absurd e h
      · obtain ⟨p, hp, hd⟩ := cutL_mem h r hl
        exact ⟨p, List.mem_cons_of_mem _ hp, hd⟩
    · cases e : cutL c r with
      | nil => exact absurd e (cutL_ne c r)
      | cons a t =>
        rw [cutL_other hx e]
        rcases List.mem_cons.1 hl with rfl | hl
        · exact ⟨_, List.mem_cons_self .., List.mem_cons_self ..⟩
        · obtain ⟨p, hp, hd⟩ := cutL_mem h r hl
          rw [e] at hp
          rcases List.mem_cons.1 hp with rfl | hp
          · exact ⟨_, List.mem_cons_self .., List.mem_cons_of_mem _ hd⟩
          · exact ⟨p, List.mem_cons_of_mem _ hp, hd⟩
/-- How a text is cut in two at its first mark. -/
theorem cut_cases (c : UInt8) (l : List UInt8) : (cut l [c] = (l, [], false) ∧ cutL c l = [l]) ∨ (∃ a b, a.length + b.length < l.length ∧ cut l [c] = (a, b, true) ∧ cutL c l = a :: cutL c b) := by
  rcases split_first c l with h | ⟨a, b, rfl, ha⟩
  · exact .inl ⟨cut_free h, cutL_end h⟩
  · exact .inr ⟨a, b, by simp <;> omega, cut_at ha, cutL_seg ha b⟩
/-- Behind the first mark there is another one, or the rest is the last part. -/
theorem cut_rest (c : UInt8) (b : List UInt8) : cutL c b = [b] ∨ (c ∈ b ∧ 2 ≤ (cutL c b).length) := by
  by_cases h : c ∈ b
  · exact .inr ⟨h, by rw [cutL_len]; have := List.count_pos_iff.2 h; omega⟩
  · exact .inl (cutL_end (fun x hx e => h (e ▸ hx)))
end Go.Proofs.YthkabonnclfhmaaDoor
