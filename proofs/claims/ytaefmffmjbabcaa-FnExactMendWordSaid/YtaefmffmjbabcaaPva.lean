
/- Parities: ValidParity, the program's. -/
import Derived.Test.YtaefmffmjbabcaaPry
namespace Go.Proofs.Ytaefmffmjbabcaa
open Go.Proofs.Ytaefmffmjbabcaa.Flo Go.RowKit Go.Proofs.Ytaefmffmjbabcaa.Pr

theorem woP_wide {zs : List Int} {n m : Nat} (h : woP zs n m) (hm : m ≤ 16) : woP zs n 16 := by
  intro k hk
  have h1 := h k hk
  have := (p2_16 hm).2
  have e : (2 : Int) ^ 16 = 65536 := by decide
  rw [e]
  omega
theorem wi_out {r : Int} (h : 1 ≤ r ∧ r ≤ 16) : wiB r = true := decide_eq_true h
theorem wi_no {r : Int} (h : ¬ (1 ≤ r ∧ r ≤ 16)) : wiB r = false := decide_eq_false h
set_option maxRecDepth 100000 in
set_option maxHeartbeats 4000000 in
theorem vp_impl (r : Int) (a : Option Addr) (n cap : Nat) (zs : List Int) (w : World) (h : IRow w a n zs) (hn : n ≤ 1048576) :
    Calls Try.prog 149 #[.agg #[.int .i64 r, .slice a n cap]] w fun e w' => e = .returned (.bool (paB r zs n)) ∧ Below w.heap.size w w' := by
  have HA := Lib.hid (h.alloc (.cells #[.int .i64 r, .slice a n cap] 28))
  clear h
  by_cases h1 : 1 ≤ r ∧ r ≤ 16
  · have H1 := Lib.hid (wi_out h1)
    have H1' := Lib.hid h1
    obtain ⟨m, rfl⟩ : ∃ m : Nat, r = (m : Int) := ⟨r.toNat, by omega⟩
    have hm16 : m ≤ 16 := by omega
    clear h1
    by_cases h2 : 1 ≤ n
    · by_cases h3 : n ≤ 8
      · have d1 : decide ((n : Int) < 1) = false := decide_eq_false (by omega)
        have d2 : decide (8 < (n : Int)) = false := decide_eq_false (by omega)
        go_enter Try.func149, Try.ntmps149
        go_wp2_with (first | (go_at_call 172; refine (wide_impl (m : Int) _).mono ?_; rw [H1.out]; rintro e w' ⟨rfl, hw⟩; have hw := hw.symm; subst hw) | fail)
        go_loop [24] (fun iv => ∃ k : Nat, k ≤ n ∧ Hid (woP zs k m) ∧ iv = .int .i64 k) (fun iv => n - (intOf iv).toNat)
        case atStart => exact ⟨0, by omega, Lib.hid (by intro j hj; omega), rfl⟩
        case round =>
          obtain ⟨k, hk, HL, rfl⟩ := hrel
          by_cases hlt : k < n
          · obtain ⟨b1, o1, rfl, _, hck1⟩ := HA.out.cell' hlt
            cases hc : woB (zs.getD k 0) m with
            | true =>
              have HN : Hid (woP zs (k + 1) m) := Lib.hid (fun j hj => by
                by_cases e : j < k
                · exact HL.out j e
                · obtain rfl : j = k := by omega
                  exact of_decide_eq_true hc)
              generalize zs.getD k 0 = c at hck1 hc
              have HC := Lib.hid hc
              clear hc
              go_wp2_with (first | (go_at_call 113; refine (word_impl c m _ hm16).mono ?_; rw [HC.out]; rintro e w' ⟨rfl, hw⟩; have hw := hw.symm; subst hw) | fail)
              go_round
              case rel => exact ⟨k + 1, by omega, HN, by go_num⟩
              case measure => simp [intOf]; omega
            | false =>
              have HF : Hid (paB (m : Int) zs n = false) := Lib.hid (pa_k hlt (by rw [Int.toNat_natCast]; exact of_decide_eq_false hc))
              generalize zs.getD k 0 = c at hck1 hc
              have HC := Lib.hid hc
              clear hc
              go_wp2_with (first | (go_at_call 113; refine (word_impl c m _ hm16).mono ?_; rw [HC.out]; rintro e w' ⟨rfl, hw⟩; have hw := hw.symm; subst hw) | fail)
              go_ret
              exact ⟨ret_bool2 HF.out.symm, belowA _ _⟩
          · obtain rfl : k = n := by omega
            have HF : Hid (paB (m : Int) zs k = decide (apP (zN zs) k)) := Lib.hid (pa_end H1'.out ⟨h2, h3⟩ (by rw [Int.toNat_natCast]; exact HL.out))
            go_wp2_with (first | (go_at_call 173; refine (ap_impl a k _ zs _ HA.out h3 (woP_wide HL.out hm16)).mono ?_; rintro e w' ⟨rfl, hb⟩; have HB := Lib.hid (Below.ofAlloc hb); clear hb) | fail)
            go_ret
            exact ⟨ret_bool2 HF.out.symm, HB.out⟩
      · have HF := Lib.hid (pa_n (r := (m : Int)) (zs := zs) (n := n) (fun e => h3 e.2))
        have d1 : decide ((n : Int) < 1) = false := decide_eq_false (by omega)
        have d2 : decide (8 < (n : Int)) = true := decide_eq_true (by omega)
        go_enter Try.func149, Try.ntmps149
        go_wp2_with (first | (go_at_call 172; refine (wide_impl (m : Int) _).mono ?_; rw [H1.out]; rintro e w' ⟨rfl, hw⟩; have hw := hw.symm; subst hw) | fail)
        go_ret
        exact ⟨ret_bool2 HF.out.symm, belowA _ _⟩
    · have HF := Lib.hid (pa_n (r := (m : Int)) (zs := zs) (n := n) (fun e => h2 e.1))
      have d1 : decide ((n : Int) < 1) = true := decide_eq_true (by omega)
      go_enter Try.func149, Try.ntmps149
      go_wp2_with (first | (go_at_call 172; refine (wide_impl (m : Int) _).mono ?_; rw [H1.out]; rintro e w' ⟨rfl, hw⟩; have hw := hw.symm; subst hw) | fail)
      go_ret
      exact ⟨ret_bool2 HF.out.symm, belowA _ _⟩
  · have HF := Lib.hid (pa_r (zs := zs) (n := n) h1)
    have H1 := Lib.hid (wi_no h1)
    clear h1
    go_enter Try.func149, Try.ntmps149
    go_wp2_with (first | (go_at_call 172; refine (wide_impl r _).mono ?_; rw [H1.out]; rintro e w' ⟨rfl, hw⟩; have hw := hw.symm; subst hw) | fail)
    go_ret
    exact ⟨ret_bool2 HF.out.symm, belowA _ _⟩
end Go.Proofs.Ytaefmffmjbabcaa
