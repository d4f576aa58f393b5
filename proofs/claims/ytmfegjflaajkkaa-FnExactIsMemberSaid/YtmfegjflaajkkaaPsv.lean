
/- Sets of numbers, and places. -/
import Derived.Test.YtmfegjflaajkkaaLsw
import Derived.Test.YtmfegjflaajkkaaPry
import Derived.Deep.QuietTactic
import Derived.BigQuiet
namespace Go.Proofs.Ytmfegjflaajkkaa
open Go.Proofs.Ytmfegjflaajkkaa.Flo Go.RowKit Go.Proofs.Ytmfegjflaajkkaa.Pr

/-- The least number that may come next. -/
def loI (zs : List Int) : Nat → Int
  | 0 => 0
  | k + 1 => zs.getD k 0 + 1
def seP (zs : List Int) (N : Int) (n : Nat) : Prop := ∀ k, k < n → loI zs k ≤ zs.getD k 0 ∧ zs.getD k 0 < N
instance (zs : List Int) (N : Int) (n : Nat) : Decidable (seP zs N n) := inferInstanceAs (Decidable (∀ k, k < n → loI zs k ≤ zs.getD k 0 ∧ zs.getD k 0 < N))
/-- Is it a set of numbers below N? -/
def seB (zs : List Int) (N : Int) (n : Nat) : Bool := decide (seP zs N n)
theorem se_k {zs : List Int} {N : Int} {n k : Nat} (hk : k < n) (h : ¬ (loI zs k ≤ zs.getD k 0 ∧ zs.getD k 0 < N)) : seB zs N n = false := decide_eq_false (fun e => h (e k hk))
theorem se_lo {zs : List Int} {N : Int} (hN : 0 ≤ N) : ∀ {n k : Nat}, seP zs N n → k ≤ n → 0 ≤ loI zs k ∧ loI zs k ≤ N ∧ (k : Int) ≤ loI zs k
  | _, 0, _, _ => ⟨Int.le_refl _, hN, Int.le_refl _⟩
  | n, k + 1, h, hk => by
    have h1 := se_lo hN (k := k) h (by omega)
    have h2 := h k (by omega)
    show 0 ≤ zs.getD k 0 + 1 ∧ zs.getD k 0 + 1 ≤ N ∧ ((k + 1 : Nat) : Int) ≤ zs.getD k 0 + 1
    omega
theorem se_len {zs : List Int} {N : Int} {n : Nat} (hN : 0 ≤ N) (h : seP zs N n) : (n : Int) ≤ N := by
  have := se_lo hN h (Nat.le_refl n); omega
theorem se_nn {zs : List Int} {N : Int} {n k : Nat} (hN : 0 ≤ N) (h : seP zs N n) (hk : k < n) : 0 ≤ zs.getD k 0 ∧ zs.getD k 0 < N := by
  have h1 := se_lo hN h (k := k) (by omega)
  have h2 := h k hk
  omega
theorem se_on {zs : List Int} {N : Int} {k : Nat} (h : seP zs N k) (h2 : loI zs k ≤ zs.getD k 0 ∧ zs.getD k 0 < N) : seP zs N (k + 1) := fun j hj => by
  by_cases e : j < k
  · exact h j e
  · obtain rfl : j = k := by omega
    exact h2
set_option maxRecDepth 100000 in
set_option maxHeartbeats 2000000 in
theorem set_impl (a : Option Addr) (n cap : Nat) (zs : List Int) (N : Int) (w : World) (h : IRow w a n zs) (hn : n ≤ 1048576) (hN : 0 ≤ N) (hN2 : N ≤ 1099511627776) :
    Calls Try.prog 76 #[.slice a n cap, .int .i64 N] w fun e w' => e = .returned (.bool (seB zs N n)) ∧ w = w' := by
  have HA := Lib.hid h
  clear h
  go_enter Try.func76, Try.ntmps76
  go_wp2
  go_loop [5, 10] (fun lv iv => ∃ k : Nat, k ≤ n ∧ lv = .int .i64 (loI zs k) ∧ iv = .int .i64 k ∧ Hid (seP zs N k)) (fun _ iv => n - (intOf iv).toNat)
  case atStart => exact ⟨0, by omega, rfl, rfl, Lib.hid (by intro j hj; omega)⟩
  case round =>
    obtain ⟨k, hk, rfl, rfl, HL⟩ := hrel
    by_cases hlt : k < n
    · obtain ⟨b1, o1, rfl, _, hck⟩ := HA.out.cell' hlt
      have hlo := se_lo hN HL.out (Nat.le_refl k)
      by_cases h1 : loI zs k ≤ zs.getD k 0
      · by_cases h2 : zs.getD k 0 < N
        · have HN := Lib.hid (se_on HL.out ⟨h1, h2⟩)
          have HLO : Hid (loI zs (k + 1) = zs.getD k 0 + 1) := Lib.hid rfl
          have d1 : decide (zs.getD k 0 < loI zs k) = false := decide_eq_false (by omega)
          have d2 : decide (N ≤ zs.getD k 0) = false := decide_eq_false (by omega)
          generalize zs.getD k 0 = c at hck HLO d1 d2 h1 h2
          generalize loI zs k = l at hlo d1 h1
          have hw : IntKind.i64.wrap (c + 1) = c + 1 := IntWalk.i64_in _ (by omega)
          go_wp2
          go_round
          case rel => exact ⟨k + 1, by omega, by rw [HLO.out], by go_num, HN⟩
          case measure => simp [intOf]; omega
        · have HF := Lib.hid (se_k (N := N) hlt (fun e => h2 e.2))
          have d1 : decide (zs.getD k 0 < loI zs k) = false := decide_eq_false (by omega)
          have d2 : decide (N ≤ zs.getD k 0) = true := decide_eq_true (by omega)
          generalize zs.getD k 0 = c at hck d1 d2 h1 h2
          generalize loI zs k = l at hlo d1 h1
          go_wp2
          go_ret
          exact ⟨ret_bool2 HF.out.symm, rfl⟩
      · have HF := Lib.hid (se_k (N := N) hlt (fun e => h1 e.1))
        have d1 : decide (zs.getD k 0 < loI zs k) = true := decide_eq_true (by omega)
        generalize zs.getD k 0 = c at hck d1 h1
        generalize loI zs k = l at hlo d1 h1
        go_wp2
        go_ret
        exact ⟨ret_bool2 HF.out.symm, rfl⟩
    · obtain rfl : k = n := by omega
      have HF : Hid (seB zs N k = true) := Lib.hid (decide_eq_true HL.out)
      have hlo := se_lo hN HL.out (Nat.le_refl k)
      generalize loI zs k = l at hlo
      go_wp2
      go_ret
      exact ⟨ret_bool2 HF.out.symm, rfl⟩
/-- Are they places of a power? -/
def pzB (p : Int) (zs : List Int) (n : Nat) : Bool := decide (0 ≤ p ∧ p ≤ 5) && seB zs (2 ^ p.toNat) n
theorem pz_out {p : Int} {zs : List Int} {n : Nat} (h : pzB p zs n = true) : (0 ≤ p ∧ p ≤ 5) ∧ seP zs (2 ^ p.toNat) n := by
  unfold pzB at h; rw [Bool.and_eq_true] at h; exact ⟨of_decide_eq_true h.1, of_decide_eq_true h.2⟩
theorem pz_no {p : Int} {zs : List Int} {n : Nat} (h : ¬ (0 ≤ p ∧ p ≤ 5)) : pzB p zs n = false := by unfold pzB; rw [decide_eq_false h]; rfl
theorem pz_in {p : Nat} {zs : List Int} {n : Nat} (h : p ≤ 5) : pzB (p : Int) zs n = seB zs (2 ^ p) n := by unfold pzB; rw [decide_eq_true (show 0 ≤ (p : Int) ∧ (p : Int) ≤ 5 by omega), Int.toNat_natCast, Bool.true_and]
set_option maxHeartbeats 2000000 in
theorem pz_impl (p : Int) (a : Option Addr) (n cap : Nat) (zs : List Int) (w : World) (h : IRow w a n zs) (hn : n ≤ 1048576) :
    Calls Try.prog 89 #[.int .i64 p, .slice a n cap] w fun e w' => e = .returned (.bool (pzB p zs n)) ∧ w = w' := by
  by_cases h1 : 0 ≤ p ∧ p ≤ 5
  · obtain ⟨m, rfl⟩ : ∃ m : Nat, p = (m : Int) := ⟨p.toNat, by omega⟩
    have hmin : min m 64 = m := by omega
    obtain ⟨hp0, hp1⟩ := p2_16 (m := m) (by omega)
    have hwr : IntKind.i64.wrap ((2 : Int) ^ m) = 2 ^ m := IntWalk.i64_in _ (by omega)
    have HS := Lib.hid (set_impl a n cap zs (2 ^ m) w h hn (by omega) (by omega))
    have HP := Lib.hid (sp_true (m : Int) w h1)
    rw [pz_in (by omega)]
    clear h h1
    generalize seB zs (2 ^ m) n = b at HS ⊢
    go_enter Try.func89, Try.ntmps89
    go_wp2_with (first | (go_at_call 87; refine HP.out.mono ?_; rintro e w' ⟨rfl, hw⟩; subst hw) | (go_at_call 76; refine HS.out.mono ?_; rintro e w' ⟨rfl, hw⟩; subst hw) | fail)
    go_ret
    exact ⟨rfl, rfl⟩
  · have HP := Lib.hid (sp_false p w h1)
    have HF := Lib.hid (pz_no (zs := zs) (n := n) h1)
    clear h h1
    go_enter Try.func89, Try.ntmps89
    go_wp2_with (first | (go_at_call 87; refine HP.out.mono ?_; rintro e w' ⟨rfl, hw⟩; subst hw) | fail)
    go_ret
    exact ⟨ret_bool2 HF.out.symm, rfl⟩
set_option maxRecDepth 100000 in
set_option maxHeartbeats 4000000 in
theorem pz_spec (p : Int) (a : Option Addr) (n cap : Nat) (zs : List Int) (w : World) (h : IRow w a n zs) (hn : n ≤ 1048576) :
    Calls Try.prog 88 #[.int .i64 p, .slice a n cap] w fun e w' => e = .returned (.bool (pzB p zs n)) ∧ Drew w w' := by
  have HA := Lib.hid h
  clear h
  by_cases h1 : 0 ≤ p ∧ p ≤ 5
  · have H1 := Lib.hid h1
    obtain ⟨m, rfl⟩ : ∃ m : Nat, p = (m : Int) := ⟨p.toNat, by omega⟩
    have hmin : min m 64 = m := by omega
    obtain ⟨hp0, hp1⟩ := p2_16 (m := m) (by omega)
    have hwu : IntKind.u64.wrap (m : Int) = (m : Int) := IntWalk.u64_in _ (by omega)
    have hwr : IntKind.i64.wrap ((2 : Int) ^ m) = 2 ^ m := IntWalk.i64_in _ (by omega)
    have hw2 : IntKind.i64.wrap ((2 : Int) ^ m - 1) = 2 ^ m - 1 := IntWalk.i64_in _ (by omega)
    rw [pz_in (by omega)]
    have hN0 : (0 : Int) ≤ 2 ^ m := by omega
    have HN0 := Lib.hid hN0
    clear h1
    go_enter Try.func88, Try.ntmps88
    go_wp2_with (first | (go_at_call 91; refine (in_true (m : Int) 0 5 _ H1.out.1 H1.out.2).mono ?_; rintro e w' ⟨rfl, hw⟩; have hw := hw.symm; subst hw) | fail)
    go_loopw [11] (fun iv w' => ∃ (k : Nat) (wr : World), k ≤ n ∧ iv = .int .i64 k ∧ wr = w' ∧ Hid (seP zs (2 ^ m) k) ∧ Hid (Drew w wr)) (fun iv _ => n - (intOf iv).toNat)
    case atStart => exact ⟨0, _, by omega, rfl, rfl, Lib.hid (by intro j hj; omega), Lib.hid ⟨0, rfl⟩⟩
    case round =>
      obtain ⟨k, wr, hk, rfl, rfl, HL, HD⟩ := hrel
      by_cases hlt : k < n
      · obtain ⟨b1, o1, rfl, _, hck⟩ := (HA.out.below HD.out.below).cell' hlt
        have hlo := se_lo HN0.out HL.out (Nat.le_refl k)
        by_cases hr : 0 ≤ zs.getD k 0 ∧ zs.getD k 0 ≤ 2 ^ m - 1
        · have HR := Lib.hid hr
          by_cases h0 : k = 0
          · have HNX := Lib.hid (se_on HL.out (⟨by rw [show loI zs k = 0 by rw [h0]; rfl]; exact hr.1, by have := hr.2; omega⟩ : loI zs k ≤ zs.getD k 0 ∧ zs.getD k 0 < 2 ^ m))
            have hk0 : decide ((0 : Int) < (k : Int)) = false := decide_eq_false (by omega)
            have hk0' : decide (0 < k) = false := decide_eq_false (by omega)
            have hk0'' : (k == 0) = true := by simp [h0]
            clear hr h0
            generalize zs.getD k 0 = c at hck HR
            go_wp2
            go_quiet ((go_at_call 91; with_reducible exact Calls.quiet_of_same (in_true c 0 (2 ^ m - 1) _ HR.out.1 HR.out.2)))
            go_wp2
            exact ⟨⟨k + 1, _, by omega, by first | rfl | go_num | (congr 1), rfl, HNX, Lib.hid (HD.out.trans (by first | exact Drew.mk _ _ | exact ⟨_, rfl⟩))⟩, by show n - ((k : Int) + 1).toNat < n - (k : Int).toNat; omega⟩
          · obtain ⟨j, hj⟩ : ∃ j, k = j + 1 := ⟨k - 1, by omega⟩
            obtain ⟨b2, o2, e2, _, hck2⟩ := (HA.out.below HD.out.below).cell' (show j < n by omega)
            injection e2 with e2
            injection e2 with e2 e3
            subst e2; subst e3
            have HLO : Hid (loI zs k = zs.getD j 0 + 1) := Lib.hid (by rw [hj]; rfl)
            have hkj : (k : Int) - 1 = (j : Int) := by omega
            have hk0 : decide ((0 : Int) < (k : Int)) = true := decide_eq_true (by omega)
            have hk0' : decide (0 < k) = true := decide_eq_true (by omega)
            have hjn : j < n := by omega
            by_cases hc : zs.getD k 0 ≤ zs.getD j 0
            · have HF := Lib.hid (se_k (N := 2 ^ m) hlt (fun e => by have := e.1; rw [HLO.out] at this; omega))
              have dc : decide (zs.getD k 0 ≤ zs.getD j 0) = true := decide_eq_true hc
              clear hr hc hj
              generalize zs.getD k 0 = c at hck HR dc
              generalize zs.getD j 0 = d at hck2 dc
              go_wp2
              go_quiet ((go_at_call 91; with_reducible exact Calls.quiet_of_same (in_true c 0 (2 ^ m - 1) _ HR.out.1 HR.out.2)))
              go_wp2
              go_ret
              exact ⟨ret_bool2 HF.out.symm, HD.out.trans (by first | exact Drew.mk _ _ | exact ⟨_, rfl⟩)⟩
            · have HNX := Lib.hid (se_on HL.out (⟨by rw [HLO.out]; omega, by have := hr.2; omega⟩ : loI zs k ≤ zs.getD k 0 ∧ zs.getD k 0 < 2 ^ m))
              have dc : decide (zs.getD k 0 ≤ zs.getD j 0) = false := decide_eq_false hc
              clear hr hc hj
              generalize zs.getD k 0 = c at hck HR dc
              generalize zs.getD j 0 = d at hck2 dc
              go_wp2
              go_quiet ((go_at_call 91; with_reducible exact Calls.quiet_of_same (in_true c 0 (2 ^ m - 1) _ HR.out.1 HR.out.2)))
              go_wp2
              exact ⟨⟨k + 1, _, by omega, by first | rfl | go_num | (congr 1), rfl, HNX, Lib.hid (HD.out.trans (by first | exact Drew.mk _ _ | exact ⟨_, rfl⟩))⟩, by show n - ((k : Int) + 1).toNat < n - (k : Int).toNat; omega⟩
        · have HF := Lib.hid (se_k (N := 2 ^ m) hlt (fun e => hr ⟨Int.le_trans hlo.1 e.1, Int.le_sub_one_of_lt e.2⟩))
          have HR := Lib.hid hr
          clear hr
          generalize zs.getD k 0 = c at hck HR
          go_wp2
          go_quiet ((go_at_call 91; with_reducible exact Calls.quiet_of_same (in_false c 0 (2 ^ m - 1) _ HR.out)))
          go_wp2
          go_ret
          exact ⟨ret_bool2 HF.out.symm, HD.out.trans (by first | exact Drew.mk _ _ | exact ⟨_, rfl⟩)⟩
      · obtain rfl : k = n := by omega
        have HF : Hid (seB zs (2 ^ m) k = true) := Lib.hid (decide_eq_true HL.out)
        go_wp2
        go_ret
        exact ⟨ret_bool2 HF.out.symm, HD.out⟩
  · have HF := Lib.hid (pz_no (zs := zs) (n := n) h1)
    have H1 := Lib.hid h1
    clear h1
    go_enter Try.func88, Try.ntmps88
    go_wp2_with (first | (go_at_call 91; refine (in_false p 0 5 _ H1.out).mono ?_; rintro e w' ⟨rfl, hw⟩; have hw := hw.symm; subst hw) | fail)
    go_ret
    exact ⟨ret_bool2 HF.out.symm, ⟨0, rfl⟩⟩
end Go.Proofs.Ytmfegjflaajkkaa
