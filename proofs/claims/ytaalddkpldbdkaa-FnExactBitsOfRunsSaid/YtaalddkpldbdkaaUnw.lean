/- UnaryOf: the functions and the law. -/
import Derived.Test.YtaalddkpldbdkaaRep
import Derived.Test.YtaalddkpldbdkaaIro
import Derived.Test.YtaalddkpldbdkaaCdv
namespace Go.Proofs.Ytaalddkpldbdkaa
open Go.Proofs.Ytaalddkpldbdkaa.Flo Go.RowKit

def okU (n : Int) : Bool := decide (1 ≤ n ∧ n ≤ 512)
theorem okU_out {n : Int} (h : okU n = true) : ∃ N : Nat, n = ((N + 1 : Nat) : Int) ∧ N < 512 := by
  have h := of_decide_eq_true h
  exact ⟨(n - 1).toNat, by omega, by omega⟩
theorem okU_no {n : Int} (h : okU n = false) : ¬ (1 ≤ n ∧ n ≤ 512) := of_decide_eq_false h
set_option maxHeartbeats 1000000 in
theorem isc_impl (n : Int) (w : World) : Calls Try.prog 67 #[.int .i64 n] w fun e w' => e = .returned (.bool (decide (1 ≤ n ∧ n ≤ 1000000))) ∧ w = w' := by
  by_cases h1 : 1 ≤ n
  · by_cases h2 : n ≤ 1000000
    · have HF : Hid (decide (1 ≤ n ∧ n ≤ 1000000) = true) := Lib.hid (decide_eq_true ⟨h1, h2⟩)
      have d1 : decide (1 ≤ n) = true := decide_eq_true h1
      have d2 : decide (n ≤ 1000000) = true := decide_eq_true h2
      go_enter Try.func67, Try.ntmps67
      go_wp2
      go_ret
      first | exact ⟨ret_bool2 HF.out.symm, rfl⟩ | exact ⟨rfl, rfl⟩
    · have HF : Hid (decide (1 ≤ n ∧ n ≤ 1000000) = false) := Lib.hid (decide_eq_false (fun e => h2 e.2))
      have d1 : decide (1 ≤ n) = true := decide_eq_true h1
      have d2 : decide (n ≤ 1000000) = false := decide_eq_false h2
      go_enter Try.func67, Try.ntmps67
      go_wp2
      go_ret
      first | exact ⟨ret_bool2 HF.out.symm, rfl⟩ | exact ⟨rfl, rfl⟩
  · have HF : Hid (decide (1 ≤ n ∧ n ≤ 1000000) = false) := Lib.hid (decide_eq_false (fun e => h1 e.1))
    have d1 : decide (1 ≤ n) = false := decide_eq_false h1
    go_enter Try.func67, Try.ntmps67
    go_wp2
    go_ret
    first | exact ⟨ret_bool2 HF.out.symm, rfl⟩ | exact ⟨rfl, rfl⟩
theorem isc_yes (n : Int) (w : World) (h : 1 ≤ n ∧ n ≤ 1000000) : Calls Try.prog 67 #[.int .i64 n] w fun e w' => e = .returned (.bool true) ∧ w = w' :=
  (isc_impl n w).mono fun _ _ hh => by rw [decide_eq_true h] at hh; exact hh
theorem isc_no (n : Int) (w : World) (h : ¬ (1 ≤ n ∧ n ≤ 1000000)) : Calls Try.prog 67 #[.int .i64 n] w fun e w' => e = .returned (.bool false) ∧ w = w' :=
  (isc_impl n w).mono fun _ _ hh => by rw [decide_eq_false h] at hh; exact hh
set_option maxRecDepth 100000 in
set_option maxHeartbeats 2000000 in
theorem un_spec (N : Nat) (w : World) (hN : N < 512) :
    Calls Try.prog 30 #[.int .i64 ((N + 1 : Nat) : Int)] w fun e w' => e = .returned (.tuple #[.string (txB (unaL N)), .bool true]) ∧ w = w' := by
  have hw : IntKind.i64.wrap (((N + 1 : Nat) : Int) - 1) = (N : Int) := by rw [IntWalk.i64_in _ (by omega)]; omega
  have hadd : ∀ w : World, (Op.stringOp .add (txB (repL 49 N)) ⟨#[48]⟩).run Try.prog w = .ok (.string (txB (unaL N))) w := fun w => run_tx Try.prog _ [48] (by rw [repL_len]; simp; omega) w
  have hd : decide (((txB (unaL N)).size : Int) ≤ 512) = true := decide_eq_true (by rw [txB_size, unaL_len]; omega)
  generalize txB (unaL N) = U at hadd hd
  go_enter Try.func30, Try.ntmps30
  go_wp2_with (first | (go_at_call 69; (first | ((with_reducible refine (in_true 0 0 20 _ (by omega) (by omega)).mono ?_); rintro e w' ⟨rfl, rfl⟩) | ((with_reducible refine (in_true _ 1 1000000 _ (by omega) (by omega)).mono ?_); rintro e w' ⟨rfl, rfl⟩))) | (go_at_call 70; refine (same_spec 49 N _ (by omega)).mono ?_; rintro e w' ⟨rfl, rfl⟩) | go_in)
  go_ret2
  exact ⟨rfl, rfl⟩
set_option maxRecDepth 100000 in
set_option maxHeartbeats 2000000 in
theorem un_spec' (n : Int) (w : World) (h : okU n = false) :
    Calls Try.prog 30 #[.int .i64 n] w fun e w' => e = .returned (.tuple #[.string ⟨#[]⟩, .bool false]) ∧ w = w' := by
  have h := okU_no h
  by_cases h1 : 1 ≤ n ∧ n ≤ 1000000
  · have hd : decide (512 < n) = true := decide_eq_true (by omega)
    have H1 := Lib.hid h1
    clear h h1
    go_enter Try.func30, Try.ntmps30
    go_wp2_with (first | (go_at_call 69; (first | ((with_reducible refine (in_true 0 0 20 _ (by omega) (by omega)).mono ?_); rintro e w' ⟨rfl, rfl⟩) | ((with_reducible refine (in_true n 1 1000000 _ H1.out.1 H1.out.2).mono ?_); rintro e w' ⟨rfl, rfl⟩))) | go_in)
    go_ret2
    exact ⟨rfl, rfl⟩
  · have H1 := Lib.hid h1
    clear h h1
    go_enter Try.func30, Try.ntmps30
    go_wp2_with (first | (go_at_call 69; refine (in_false n 1 1000000 _ H1.out).mono ?_; rintro e w' ⟨rfl, rfl⟩) | go_in)
    go_ret2
    exact ⟨rfl, rfl⟩
set_option maxRecDepth 100000 in
set_option maxHeartbeats 2000000 in
theorem un_impl (N : Nat) (w : World) (hN : N < 512) :
    Calls Try.prog 31 #[.int .i64 ((N + 1 : Nat) : Int)] w fun e w' => e = .returned (.tuple #[.string (txB (unaL N)), .bool true]) ∧ Below w.heap.size w w' := by
  have hw : IntKind.i64.wrap (((N + 1 : Nat) : Int) - 1) = (N : Int) := by rw [IntWalk.i64_in _ (by omega)]; omega
  have hadd : ∀ w : World, (Op.stringOp .add (txB (repL 49 N)) ⟨#[48]⟩).run Try.prog w = .ok (.string (txB (unaL N))) w := fun w => run_tx Try.prog _ [48] (by rw [repL_len]; simp; omega) w
  have hd : decide (512 < ((N + 1 : Nat) : Int)) = false := decide_eq_false (by omega)
  generalize txB (unaL N) = U at hadd
  go_enter Try.func31, Try.ntmps31
  go_wp2_with (first | (go_at_call 67; refine (isc_yes _ _ (by omega)).mono ?_; rintro e w' ⟨rfl, rfl⟩) | (go_at_call 68; refine (rep1 49 N _ (by omega)).mono ?_; rintro e w2 ⟨rfl, hb⟩; have HB := Lib.hid hb; clear hb) | go_in)
  go_ret2
  exact ⟨rfl, HB.out⟩
set_option maxRecDepth 100000 in
set_option maxHeartbeats 2000000 in
theorem un_impl' (n : Int) (w : World) (h : okU n = false) :
    Calls Try.prog 31 #[.int .i64 n] w fun e w' => e = .returned (.tuple #[.string ⟨#[]⟩, .bool false]) ∧ Below w.heap.size w w' := by
  have h := okU_no h
  by_cases h1 : 1 ≤ n ∧ n ≤ 1000000
  · have hd : decide (512 < n) = true := decide_eq_true (by omega)
    have H1 := Lib.hid h1
    clear h h1
    go_enter Try.func31, Try.ntmps31
    go_wp2_with (first | (go_at_call 67; refine (isc_yes _ _ H1.out).mono ?_; rintro e w' ⟨rfl, rfl⟩) | go_in)
    go_ret2
    exact ⟨rfl, Below.refl _ _⟩
  · have H1 := Lib.hid h1
    clear h h1
    go_enter Try.func31, Try.ntmps31
    go_wp2_with (first | (go_at_call 67; refine (isc_no _ _ H1.out).mono ?_; rintro e w' ⟨rfl, rfl⟩) | go_in)
    go_ret2
    exact ⟨rfl, Below.refl _ _⟩
set_option maxRecDepth 100000 in
set_option maxHeartbeats 2000000 in
theorem una_walk (n : Int) (w : World) (_ : (Lit.int .i64 n).wf = true) :
    Calls Try.prog 7 #[.int .i64 n] w fun e w' => e = .returned (.bool true) ∧ Below w.heap.size w w' := by
  cases hok : okU n with
  | true =>
    obtain ⟨N, rfl, hN⟩ := okU_out hok
    clear hok
    go_enter Try.func7, Try.ntmps7
    go_wp2_with (first | (go_at_call 30; refine (un_spec N _ hN).mono ?_; rintro e w' ⟨rfl, rfl⟩) | (go_at_call 31; refine (un_impl N _ hN).mono ?_; rintro e w2 ⟨rfl, hb⟩; have HB := Lib.hid hb; clear hb) | go_in)
    go_ret
    exact ⟨rfl, HB.out⟩
  | false =>
    have HK := Lib.hid hok
    clear hok
    go_enter Try.func7, Try.ntmps7
    go_wp2_with (first | (go_at_call 30; refine (un_spec' n _ HK.out).mono ?_; rintro e w' ⟨rfl, rfl⟩) | (go_at_call 31; refine (un_impl' n _ HK.out).mono ?_; rintro e w2 ⟨rfl, hb⟩; have HB := Lib.hid hb; clear hb) | go_in)
    go_ret
    exact ⟨rfl, HB.out⟩
end Go.Proofs.Ytaalddkpldbdkaa
