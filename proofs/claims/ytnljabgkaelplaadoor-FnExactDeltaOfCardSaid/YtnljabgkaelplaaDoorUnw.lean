
/- UnaryOf: the functions and the law. -/
import Derived.Test.YtnljabgkaelplaaDoorRep
import Derived.Test.YtnljabgkaelplaaDoorMgb
import Derived.Test.YtnljabgkaelplaaDoorCdv
namespace Go.Proofs.YtnljabgkaelplaaDoor
open Go.Proofs.YtnljabgkaelplaaDoor.Flo Go.RowKit

def okU (n : Int) : Bool := decide (1 ≤ n ∧ n ≤ 512)
theorem okU_out {n : Int} (h : okU n = true) : ∃ N : Nat, n = ((N + 1 : Nat) : Int) ∧ N < 512 := by
  have h := of_decide_eq_true h
  exact ⟨(n - 1).toNat, by omega, by omega⟩
theorem okU_no {n : Int} (h : okU n = false) : ¬ (1 ≤ n ∧ n ≤ 512) := of_decide_eq_false h
set_option maxHeartbeats 1000000 in
theorem isc_impl (n : Int) (w : World) : Calls Tryd.prog 53 #[.int .i64 n] w fun e w' => e = .returned (.bool (decide (1 ≤ n ∧ n ≤ 1000000))) ∧ w = w' := by
  by_cases h1 : 1 ≤ n
  · by_cases h2 : n ≤ 1000000
    · have HF : Hid (decide (1 ≤ n ∧ n ≤ 1000000) = true) := Lib.hid (decide_eq_true ⟨h1, h2⟩)
      have d1 : decide (1 ≤ n) = true := decide_eq_true h1
      have d2 : decide (n ≤ 1000000) = true := decide_eq_true h2
      go_enter Tryd.func53, Tryd.ntmps53
      go_wp2
      go_ret
      first | exact ⟨ret_bool2 HF.out.symm, rfl⟩ | exact ⟨rfl, rfl⟩
    · have HF : Hid (decide (1 ≤ n ∧ n ≤ 1000000) = false) := Lib.hid (decide_eq_false (fun e => h2 e.2))
      have d1 : decide (1 ≤ n) = true := decide_eq_true h1
      have d2 : decide (n ≤ 1000000) = false := decide_eq_false h2
      go_enter Tryd.func53, Tryd.ntmps53
      go_wp2
      go_ret
      first | exact ⟨ret_bool2 HF.out.symm, rfl⟩ | exact ⟨rfl, rfl⟩
  · have HF : Hid (decide (1 ≤ n ∧ n ≤ 1000000) = false) := Lib.hid (decide_eq_false (fun e => h1 e.1))
    have d1 : decide (1 ≤ n) = false := decide_eq_false h1
    go_enter Tryd.func53, Tryd.ntmps53
    go_wp2
    go_ret
    first | exact ⟨ret_bool2 HF.out.symm, rfl⟩ | exact ⟨rfl, rfl⟩
theorem isc_yes (n : Int) (w : World) (h : 1 ≤ n ∧ n ≤ 1000000) : Calls Tryd.prog 53 #[.int .i64 n] w fun e w' => e = .returned (.bool true) ∧ w = w' :=
  (isc_impl n w).mono fun _ _ hh => by rw [decide_eq_true h] at hh; exact hh
theorem isc_no (n : Int) (w : World) (h : ¬ (1 ≤ n ∧ n ≤ 1000000)) : Calls Tryd.prog 53 #[.int .i64 n] w fun e w' => e = .returned (.bool false) ∧ w = w' :=
  (isc_impl n w).mono fun _ _ hh => by rw [decide_eq_false h] at hh; exact hh
set_option maxRecDepth 100000 in
set_option maxHeartbeats 2000000 in
theorem un_impl (N : Nat) (w : World) (hN : N < 512) :
    Calls Tryd.prog 87 #[.int .i64 ((N + 1 : Nat) : Int)] w fun e w' => e = .returned (.tuple #[.string (txB (unaL N)), .bool true]) ∧ Below w.heap.size w w' := by
  have hw : IntKind.i64.wrap (((N + 1 : Nat) : Int) - 1) = (N : Int) := by rw [IntWalk.i64_in _ (by omega)]; omega
  have hadd : ∀ w : World, (Op.stringOp .add (txB (repL 49 N)) ⟨#[48]⟩).run Tryd.prog w = .ok (.string (txB (unaL N))) w := fun w => run_tx Tryd.prog _ [48] (by rw [repL_len]; simp; omega) w
  have hd : decide (512 < ((N + 1 : Nat) : Int)) = false := decide_eq_false (by omega)
  generalize txB (unaL N) = U at hadd
  go_enter Tryd.func87, Tryd.ntmps87
  go_wp2_with (first | (go_at_call 53; refine (isc_yes _ _ (by omega)).mono ?_; rintro e w' ⟨rfl, rfl⟩) | (go_at_call 55; refine (rep1 49 N _ (by omega)).mono ?_; rintro e w2 ⟨rfl, hb⟩; have HB := Lib.hid hb; clear hb) | go_in)
  go_ret2
  exact ⟨rfl, HB.out⟩
set_option maxRecDepth 100000 in
set_option maxHeartbeats 2000000 in
theorem un_impl' (n : Int) (w : World) (h : okU n = false) :
    Calls Tryd.prog 87 #[.int .i64 n] w fun e w' => e = .returned (.tuple #[.string ⟨#[]⟩, .bool false]) ∧ Below w.heap.size w w' := by
  have h := okU_no h
  by_cases h1 : 1 ≤ n ∧ n ≤ 1000000
  · have hd : decide (512 < n) = true := decide_eq_true (by omega)
    have H1 := Lib.hid h1
    clear h h1
    go_enter Tryd.func87, Tryd.ntmps87
    go_wp2_with (first | (go_at_call 53; refine (isc_yes _ _ H1.out).mono ?_; rintro e w' ⟨rfl, rfl⟩) | go_in)
    go_ret2
    exact ⟨rfl, Below.refl _ _⟩
  · have H1 := Lib.hid h1
    clear h h1
    go_enter Tryd.func87, Tryd.ntmps87
    go_wp2_with (first | (go_at_call 53; refine (isc_no _ _ H1.out).mono ?_; rintro e w' ⟨rfl, rfl⟩) | go_in)
    go_ret2
    exact ⟨rfl, Below.refl _ _⟩
end Go.Proofs.YtnljabgkaelplaaDoor
