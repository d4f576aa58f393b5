/- Two rows: covers, CrossEntropy. -/
import Derived.Test.YtcgdhicgpkoncaaRwi
import Derived.Test.YtcgdhicgpkoncaaLiv
namespace Go.Proofs.Ytcgdhicgpkoncaa
open Go.Proofs.Ytcgdhicgpkoncaa.Flo Go.RowKit

/-- Two rows of the same length. -/
def twoB (za zb : List Nat) (n m : Nat) : Bool := rowB za n && rowB zb m && decide (n = m)
theorem two_out {za zb : List Nat} {n m : Nat} (h : twoB za zb n m = true) : n = m ∧ n ≤ 32 ∧ chS za n = true ∧ chS zb n = true ∧ rowB za n = true ∧ rowB zb n = true := by
  unfold twoB at h
  rw [Bool.and_eq_true, Bool.and_eq_true] at h
  obtain ⟨⟨h1, h2⟩, h3⟩ := h
  have h3 := of_decide_eq_true h3
  subst h3
  refine ⟨rfl, ?_, (row_n h1).2, (row_n h2).2, h1, h2⟩
  unfold rowB at h1
  rw [Bool.and_eq_true] at h1
  exact (of_decide_eq_true h1.1).2
set_option maxHeartbeats 1000000 in
theorem two_spec (a b : Option Addr) (n m cap capb : Nat) (za zb : List Nat) (w : World) (ha : FRow w a n za) (hb : FRow w b m zb) (hn : n ≤ 1048576) (hm : m ≤ 1048576) :
    Calls Try.prog 52 #[.slice a n cap, .slice b m capb] w fun e w' => e = .returned (.bool (twoB za zb n m)) ∧ Drew w w' := by
  have HA := Lib.hid ha
  have HB := Lib.hid hb
  clear ha hb
  cases h1 : rowB za n with
  | false =>
    have HR : Hid (twoB za zb n m = false) := Lib.hid (by unfold twoB; rw [h1]; rfl)
    go_enter Try.func52, Try.ntmps52
    go_wp2_with (first | (go_at_call 81; refine (row_spec _ _ _ za _ HA.out hn).mono ?_; rintro e w' ⟨rfl, q1, rfl⟩) | go_in)
    go_ret
    exact ⟨ret_bool2 HR.out.symm, Drew.mk _ _⟩
  | true =>
    cases h2 : rowB zb m with
    | false =>
      have HR : Hid (twoB za zb n m = false) := Lib.hid (by unfold twoB; rw [h1, h2]; rfl)
      go_enter Try.func52, Try.ntmps52
      go_wp2_with (first | (go_at_call 81; ((with_reducible refine (row_spec a n cap za _ HA.out hn).mono ?_); rintro e w' ⟨rfl, q1, rfl⟩)) | (go_at_call 81; ((with_reducible refine (row_spec b m capb zb _ (HB.out.drewN _) hm).mono ?_); rintro e w' ⟨rfl, q1, rfl⟩)) | go_in)
      go_ret
      exact ⟨ret_bool2 HR.out.symm, Drew.mk _ _⟩
    | true =>
      by_cases he : n = m
      · subst he
        have HR : Hid (twoB za zb n n = true) := Lib.hid (by unfold twoB; rw [h1, h2]; simp)
        go_enter Try.func52, Try.ntmps52
        go_wp2_with (first | (go_at_call 81; ((with_reducible refine (row_spec a n cap za _ HA.out hn).mono ?_); rintro e w' ⟨rfl, q1, rfl⟩)) | (go_at_call 81; ((with_reducible refine (row_spec b n capb zb _ (HB.out.drewN _) hn).mono ?_); rintro e w' ⟨rfl, q1, rfl⟩)) | go_in)
        go_ret
        exact ⟨ret_bool2 HR.out.symm, Drew.mk _ _⟩
      · have hne : ((n : Int) == m) = false := by simp; omega
        have HR : Hid (twoB za zb n m = false) := Lib.hid (by unfold twoB; rw [decide_eq_false he, Bool.and_false])
        go_enter Try.func52, Try.ntmps52
        go_wp2_with (first | (go_at_call 81; ((with_reducible refine (row_spec a n cap za _ HA.out hn).mono ?_); rintro e w' ⟨rfl, q1, rfl⟩)) | (go_at_call 81; ((with_reducible refine (row_spec b m capb zb _ (HB.out.drewN _) hm).mono ?_); rintro e w' ⟨rfl, q1, rfl⟩)) | go_in)
        go_ret
        exact ⟨ret_bool2 HR.out.symm, Drew.mk _ _⟩
set_option maxHeartbeats 1000000 in
theorem two_impl (a b : Option Addr) (n m cap capb : Nat) (za zb : List Nat) (w : World) (ha : FRow w a n za) (hb : FRow w b m zb) (hn : n ≤ 1048576) (hm : m ≤ 1048576) :
    Calls Try.prog 56 #[.slice a n cap, .slice b m capb] w fun e w' => e = .returned (.bool (twoB za zb n m)) ∧ Drew w w' := by
  have HA := Lib.hid ha
  have HB := Lib.hid hb
  clear ha hb
  by_cases he : n = m
  · subst he
    cases h1 : rowB za n with
    | false =>
      have HR : Hid (twoB za zb n n = false) := Lib.hid (by unfold twoB; rw [h1]; rfl)
      go_enter Try.func56, Try.ntmps56
      go_wp2_with (first | (go_at_call 83; refine (row_impl _ _ _ za _ HA.out hn).mono ?_; rintro e w' ⟨rfl, q1, rfl⟩) | go_in)
      go_ret
      exact ⟨ret_bool2 HR.out.symm, Drew.mk _ _⟩
    | true =>
      have HR : Hid (twoB za zb n n = rowB zb n) := Lib.hid (by unfold twoB; rw [h1]; simp)
      go_enter Try.func56, Try.ntmps56
      go_wp2_with (first | (go_at_call 83; ((with_reducible refine (row_impl a n cap za _ HA.out hn).mono ?_); rintro e w' ⟨rfl, q1, rfl⟩)) | (go_at_call 83; ((with_reducible refine (row_impl b n capb zb _ (HB.out.drewN _) hn).mono ?_); rintro e w' ⟨rfl, q1, rfl⟩)) | go_in)
      go_ret
      exact ⟨ret_bool2 HR.out.symm, Drew.mk _ _⟩
  · have hne : ((n : Int) == m) = false := by simp; omega
    have HR : Hid (twoB za zb n m = false) := Lib.hid (by unfold twoB; rw [decide_eq_false he, Bool.and_false])
    go_enter Try.func56, Try.ntmps56
    go_wp2
    go_ret
    exact ⟨ret_bool2 HR.out.symm, Drew.refl _⟩
/-- No chance of b is 0 where that of a is not. -/
def covB (za zb : List Nat) (n : Nat) : Bool := decide (∀ k, k < n → (zeroB (za.getD k 0) || !zeroB (zb.getD k 0)) = true)
end Go.Proofs.Ytcgdhicgpkoncaa
