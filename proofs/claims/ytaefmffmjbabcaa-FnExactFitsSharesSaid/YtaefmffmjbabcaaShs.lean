
/- Shares: the model's smaller functions. -/
import Derived.Test.YtaefmffmjbabcaaShu
set_option linter.unusedVariables false
namespace Go.Proofs.Ytaefmffmjbabcaa
open Go.Proofs.Ytaefmffmjbabcaa.Flo Go.RowKit

def nuB (p : Int) (zs : List Int) (n : Nat) : Bool := decide (letP zs p n) && decide (1 ≤ n ∧ n ≤ 8)
set_option maxRecDepth 100000 in
set_option maxHeartbeats 8000000 in
theorem pr_spec (p : Int) (w : World) : Calls Try.prog 65 #[.int .i64 p] w fun e w' => e = .returned (.bool (prB p)) ∧ Below w.heap.size w w' := by
  rcases pr_cases p with h | ⟨hb, h1, h2, h3, h4, h5, h6, h7⟩
  · rcases h with rfl | rfl | rfl | rfl | rfl | rfl | rfl
    all_goals
      go_enter Try.func65, Try.ntmps65
      go_wp2
      refine wp_loop_rounds 8 ?_
      repeat (rw [rounds_succ]; go_wp2)
      go_ret
      exact ⟨rfl, below_alloc _ _⟩
  · rw [hb]
    have d1 : ((7 : Int) == p) = false := by simpa using fun h => h1 h.symm
    have d2 : ((11 : Int) == p) = false := by simpa using fun h => h2 h.symm
    have d3 : ((13 : Int) == p) = false := by simpa using fun h => h3 h.symm
    have d4 : ((17 : Int) == p) = false := by simpa using fun h => h4 h.symm
    have d5 : ((31 : Int) == p) = false := by simpa using fun h => h5 h.symm
    have d6 : ((127 : Int) == p) = false := by simpa using fun h => h6 h.symm
    have d7 : ((257 : Int) == p) = false := by simpa using fun h => h7 h.symm
    clear hb h1 h2 h3 h4 h5 h6 h7
    go_enter Try.func65, Try.ntmps65
    go_wp2
    refine wp_loop_rounds 8 ?_
    repeat (rw [rounds_succ]; go_wp2)
    go_ret
    exact ⟨rfl, below_alloc _ _⟩
set_option maxRecDepth 100000 in
set_option maxHeartbeats 8000000 in
theorem nu_spec (p : Int) (a : Option Addr) (n cap : Nat) (zs : List Int) (w : World) (h : IRow w a n zs) (hn : n ≤ 2097152) : Calls Try.prog 66 #[.slice a n cap, .int .i64 1, .int .i64 8, .int .i64 p] w fun e w' => e = .returned (.bool (nuB p zs n)) ∧ w = w' := by
  have HA := Lib.hid h
  clear h
  go_enter Try.func66, Try.ntmps66
  go_wp2
  go_loop [9] (fun iv => ∃ k : Nat, k ≤ n ∧ Hid (letP zs p k) ∧ iv = .int .i64 k) (fun iv => n - (intOf iv).toNat)
  case atStart => exact ⟨0, by omega, Lib.hid (by intro j hj; omega), rfl⟩
  case round =>
    obtain ⟨k, hk, HL, rfl⟩ := hrel
    by_cases hlt : k < n
    · obtain ⟨b1, o1, rfl, _, hck1⟩ := HA.out.cell' hlt
      by_cases hc0 : 0 ≤ zs.getD k 0
      · by_cases hc1 : zs.getD k 0 < p
        · have HN : Hid (letP zs p (k + 1)) := Lib.hid (fun j hj => by
            by_cases e : j < k
            · exact HL.out j e
            · obtain rfl : j = k := by omega
              exact ⟨hc0, hc1⟩)
          generalize zs.getD k 0 = c at hck1 hc0 hc1
          have d1 : decide (c < 0) = false := decide_eq_false (by omega)
          have d2 : decide (p ≤ c) = false := decide_eq_false (by omega)
          go_wp2
          go_round
          case rel => exact ⟨k + 1, by omega, HN, by go_num⟩
          case measure => simp [intOf]; omega
        · have HF : Hid (nuB p zs n = false) := Lib.hid (by
            unfold nuB
            rw [decide_eq_false (fun q => hc1 (q k hlt).2), Bool.false_and])
          generalize zs.getD k 0 = c at hck1 hc0 hc1
          have d1 : decide (c < 0) = false := decide_eq_false (by omega)
          have d2 : decide (p ≤ c) = true := decide_eq_true (by omega)
          go_wp2
          go_ret
          exact ⟨ret_bool2 HF.out.symm, rfl⟩
      · have HF : Hid (nuB p zs n = false) := Lib.hid (by
          unfold nuB
          rw [decide_eq_false (fun q => hc0 (q k hlt).1), Bool.false_and])
        generalize zs.getD k 0 = c at hck1 hc0
        have d1 : decide (c < 0) = true := decide_eq_true (by omega)
        go_wp2
        go_ret
        exact ⟨ret_bool2 HF.out.symm, rfl⟩
    · obtain rfl : k = n := by omega
      by_cases h1 : 1 ≤ k
      · by_cases h8 : k ≤ 8
        · have HF : Hid (nuB p zs k = true) := Lib.hid (by
            unfold nuB
            rw [decide_eq_true HL.out, decide_eq_true ⟨h1, h8⟩]; rfl)
          have d1 : decide ((1 : Int) ≤ (k : Int)) = true := decide_eq_true (by omega)
          have d2 : decide ((k : Int) ≤ 8) = true := decide_eq_true (by omega)
          go_wp2
          go_ret
          exact ⟨ret_bool2 HF.out.symm, rfl⟩
        · have HF : Hid (nuB p zs k = false) := Lib.hid (by
            unfold nuB
            rw [decide_eq_false (fun q : 1 ≤ k ∧ k ≤ 8 => h8 q.2), Bool.and_false])
          have d1 : decide ((1 : Int) ≤ (k : Int)) = true := decide_eq_true (by omega)
          have d2 : decide ((k : Int) ≤ 8) = false := decide_eq_false (by omega)
          go_wp2
          go_ret
          exact ⟨ret_bool2 HF.out.symm, rfl⟩
      · have HF : Hid (nuB p zs k = false) := Lib.hid (by
          unfold nuB
          rw [decide_eq_false (fun q : 1 ≤ k ∧ k ≤ 8 => h1 q.1), Bool.and_false])
        have d1 : decide ((1 : Int) ≤ (k : Int)) = false := decide_eq_false (by omega)
        go_wp2
        go_ret
        exact ⟨ret_bool2 HF.out.symm, rfl⟩
set_option maxRecDepth 100000 in
set_option maxHeartbeats 8000000 in
theorem va_spec (p x : Int) (a : Option Addr) (n cap : Nat) (zs : List Int) (w : World) (h : IRow w a n zs) (hn : n ≤ 8) (hp : 7 ≤ p ∧ p ≤ 257) (hx : 0 ≤ x ∧ x ≤ 257) (hz : letP zs p n) :
    Calls Try.prog 68 #[.int .i64 p, .slice a n cap, .int .i64 x] w fun e w' => e = .returned (.int .i64 (Pol.ho p (fun k => zs.getD k 0) x n n)) ∧ w = w' := by
  have HA := Lib.hid h
  have HZ := Lib.hid hz
  obtain ⟨hp1, hp2⟩ := hp
  obtain ⟨hx1, hx2⟩ := hx
  clear h hz
  go_enter Try.func68, Try.ntmps68
  go_wp2
  go_loop [7, 8] (fun v iv => ∃ m : Nat, m ≤ n ∧ v = .int .i64 (Pol.ho p (fun k => zs.getD k 0) x n m) ∧ iv = .int .i64 ((n : Int) - 1 - (m : Int))) (fun _ iv => (intOf iv + 1).toNat)
  case atStart => exact ⟨0, by omega, rfl, by simp⟩
  case round =>
    obtain ⟨m, hm, rfl, rfl⟩ := hrel
    by_cases hlt : m < n
    · obtain ⟨i, hi⟩ : ∃ i : Nat, i = n - 1 - m := ⟨_, rfl⟩
      have hii : (n : Int) - 1 - (m : Int) = (i : Int) := by omega
      have hin : i < n := by omega
      obtain ⟨b1, o1, rfl, _, hck1⟩ := HA.out.cell' hin
      obtain ⟨h0, h1⟩ := HZ.out i hin
      have HS : Hid (Pol.ho p (fun k => zs.getD k 0) x n (m + 1) = (Pol.ho p (fun k => zs.getD k 0) x n m * x + zs.getD i 0) % p) := Lib.hid (by rw [hi]; rfl)
      obtain ⟨hv0, hv1⟩ := Pol.ho_in (show 0 < p by omega) (fun k => zs.getD k 0) x n m
      have hm0 : 0 ≤ Pol.ho p (fun k => zs.getD k 0) x n m * x := Int.mul_nonneg hv0 hx1
      have hm1 : Pol.ho p (fun k => zs.getD k 0) x n m * x ≤ 257 * 257 := Int.mul_le_mul (by omega) hx2 hx1 (by omega)
      generalize Pol.ho p (fun k => zs.getD k 0) x n m = v at hv0 hv1 hm0 hm1 HS ⊢
      generalize zs.getD i 0 = z at h0 h1 HS hck1
      have e1 : IntKind.i64.wrap (v * x) = v * x := IntWalk.i64_in _ (by omega)
      have e2 : IntKind.i64.wrap (v * x + z) = v * x + z := IntWalk.i64_in _ (by omega)
      have e3 : (v * x + z).tmod p = (v * x + z) % p := Int.tmod_eq_emod_of_nonneg (by omega)
      have hpn : (p == 0) = false := by simpa using (show ¬ p = 0 by omega)
      have HI : Hid ((i : Int) = (n : Int) - 1 - (m : Int)) := Lib.hid hii.symm
      rw [hii]
      clear hii hi
      go_wp2
      go_round
      case rel => exact ⟨m + 1, by omega, by rw [HS.out], by have := HI.out; congr 1; omega⟩
      case measure => simp [intOf]
    · obtain rfl : m = n := by omega
      go_wp2
      go_ret
      exact ⟨rfl, rfl⟩
end Go.Proofs.Ytaefmffmjbabcaa
