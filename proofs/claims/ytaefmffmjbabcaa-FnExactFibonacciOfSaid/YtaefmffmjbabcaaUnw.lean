
/- UnaryOf: the functions and the law. -/
import Derived.Test.YtaefmffmjbabcaaRep
import Derived.Test.YtaefmffmjbabcaaMgb
import Derived.Test.YtaefmffmjbabcaaCdv
namespace Go.Proofs.Ytaefmffmjbabcaa
open Go.Proofs.Ytaefmffmjbabcaa.Flo Go.RowKit

def okU (n : Int) : Bool := decide (1 ≤ n ∧ n ≤ 512)
theorem okU_out {n : Int} (h : okU n = true) : ∃ N : Nat, n = ((N + 1 : Nat) : Int) ∧ N < 512 := by
  have h := of_decide_eq_true h
  exact ⟨(n - 1).toNat, by omega, by omega⟩
theorem okU_no {n : Int} (h : okU n = false) : ¬ (1 ≤ n ∧ n ≤ 512) := of_decide_eq_false h
set_option maxHeartbeats 1000000 in
theorem isc_impl (n : Int) (w : World) : Calls Try.prog 97 #[.int .i64 n] w fun e w' => e = .returned (.bool (decide (1 ≤ n ∧ n ≤ 1000000))) ∧ w = w' := by
  by_cases h1 : 1 ≤ n
  · by_cases h2 : n ≤ 1000000
    · have HF : Hid (decide (1 ≤ n ∧ n ≤ 1000000) = true) := Lib.hid (decide_eq_true ⟨h1, h2⟩)
      have d1 : decide (1 ≤ n) = true := decide_eq_true h1
      have d2 : decide (n ≤ 1000000) = true := decide_eq_true h2
      go_enter Try.func97, Try.ntmps97
      go_wp2
      go_ret
      first | exact ⟨ret_bool2 HF.out.symm, rfl⟩ | exact ⟨rfl, rfl⟩
    · have HF : Hid (decide (1 ≤ n ∧ n ≤ 1000000) = false) := Lib.hid (decide_eq_false (fun e => h2 e.2))
      have d1 : decide (1 ≤ n) = true := decide_eq_true h1
      have d2 : decide (n ≤ 1000000) = false := decide_eq_false h2
      go_enter Try.func97, Try.ntmps97
      go_wp2
      go_ret
      first | exact ⟨ret_bool2 HF.out.symm, rfl⟩ | exact ⟨rfl, rfl⟩
  · have HF : Hid (decide (1 ≤ n ∧ n ≤ 1000000) = false) := Lib.hid (decide_eq_false (fun e => h1 e.1))
    have d1 : decide (1 ≤ n) = false := decide_eq_false h1
    go_enter Try.func97, Try.ntmps97
    go_wp2
    go_ret
    first | exact ⟨ret_bool2 HF.out.symm, rfl⟩ | exact ⟨rfl, rfl⟩
theorem isc_yes (n : Int) (w : World) (h : 1 ≤ n ∧ n ≤ 1000000) : Calls Try.prog 97 #[.int .i64 n] w fun e w' => e = .returned (.bool true) ∧ w = w' :=
  (isc_impl n w).mono fun _ _ hh => by rw [decide_eq_true h] at hh; exact hh
theorem isc_no (n : Int) (w : World) (h : ¬ (1 ≤ n ∧ n ≤ 1000000)) : Calls Try.prog 97 #[.int .i64 n] w fun e w' => e = .returned (.bool false) ∧ w = w' :=
  (isc_impl n w).mono fun _ _ hh => by rw [decide_eq_false h] at hh; exact hh
end Go.Proofs.Ytaefmffmjbabcaa
