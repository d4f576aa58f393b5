/- ValidShares: the functions. -/
import Derived.Test.YtopcmbcdmceieaaItw
import Derived.Test.YtopcmbcdmceieaaTwo
namespace Go.Proofs.Ytopcmbcdmceieaa
open Go.Proofs.Ytopcmbcdmceieaa.Flo Go.RowKit

theorem tot_256 {zs : List Int} {n : Nat} (h : shP zs n) : ∀ k, k ≤ n → 0 ≤ tot zs k ∧ tot zs k ≤ 256 * (k : Int) := by
  intro k
  induction k with
  | zero => intro _; exact ⟨Int.le_refl _, by show (0 : Int) ≤ _; omega⟩
  | succ k ih =>
    intro hk
    have h1 := ih (by omega)
    have h2 := h k (by omega)
    have e : tot zs (k + 1) = tot zs k + zs.getD k 0 := rfl
    rw [e]
    omega
set_option maxRecDepth 100000 in
set_option maxHeartbeats 4000000 in
theorem sh_spec (p : Nat) (r : Int) (a : Option Addr) (n cap : Nat) (zs : List Int) (w : World) (h : IRow w a n zs) (hn : n ≤ 1048576) (h0 : w.cell? ⟨p, 0, none⟩ = some (.int .i64 r)) (hp : w.cell? ⟨p, 1, none⟩ = some (.slice a n cap)) :
    Calls Try.prog 73 #[.pointer (some ⟨p, 0, none⟩)] w fun e w' => e = .returned (.bool (stB r zs n)) ∧ w = w' := by
  have HA := Lib.hid h
  clear h
  by_cases h1 : 1 ≤ r ∧ r ≤ 8
  · have H1 := Lib.hid h1
    obtain ⟨m, rfl⟩ : ∃ m : Nat, r = (m : Int) := ⟨r.toNat, by omega⟩
    by_cases h2 : 2 ≤ n
    · by_cases h3 : n ≤ 16
      · have d1 : decide ((n : Int) < 2) = false := decide_eq_false (by omega)
        have d2 : decide (16 < (n : Int)) = false := decide_eq_false (by omega)
        go_enter Try.func73, Try.ntmps73
        go_wp2_with (first | (go_at_call 69; refine (in_true (m : Int) 1 8 _ H1.out.1 H1.out.2).mono ?_; rintro e w' ⟨rfl, hw⟩; have hw := hw.symm; subst hw) | go_in)
        go_loop [4, 30] (fun sv iv => ∃ k : Nat, k ≤ n ∧ Hid (shP zs k) ∧ sv = .int .i64 (tot zs k) ∧ iv = .int .i64 k) (fun _ iv => n - (intOf iv).toNat)
        case atStart => exact ⟨0, by omega, Lib.hid (by intro j hj; omega), rfl, rfl⟩
        case round =>
          obtain ⟨k, hk, HL, rfl, rfl⟩ := hrel
          by_cases hlt : k < n
          · obtain ⟨b1, o1, rfl, _, hck1⟩ := HA.out.cell' hlt
            by_cases hc : 1 ≤ zs.getD k 0 ∧ zs.getD k 0 ≤ 256
            · have HN : Hid (shP zs (k + 1)) := Lib.hid (fun j hj => by
                by_cases e : j < k
                · exact HL.out j e
                · obtain rfl : j = k := by omega
                  exact hc)
              have HT1 : Hid (tot zs (k + 1) = tot zs k + zs.getD k 0) := Lib.hid rfl
              have hb := tot_256 HL.out k (Nat.le_refl _)
              have HC := Lib.hid hc
              obtain ⟨hc0, hc1⟩ := hc
              generalize zs.getD k 0 = c at hck1 HC HT1 hc0 hc1
              generalize tot zs k = T at hb HT1
              go_wp2_with (first | (go_at_call 69; refine (in_true c 1 256 _ HC.out.1 HC.out.2).mono ?_; rintro e w' ⟨rfl, hw⟩; have hw := hw.symm; subst hw) | go_in)
              go_round
              case rel => exact ⟨k + 1, by omega, HN, val_i HT1.out.symm, by go_num⟩
              case measure => simp [intOf]; omega
            · have HF := Lib.hid (st_k (p := (m : Int)) hlt hc)
              have HC := Lib.hid hc
              clear hc
              generalize zs.getD k 0 = c at hck1 HC
              go_wp2_with (first | (go_at_call 69; refine (in_false c 1 256 _ HC.out).mono ?_; rintro e w' ⟨rfl, hw⟩; have hw := hw.symm; subst hw) | go_in)
              go_ret
              exact ⟨ret_bool2 HF.out.symm, rfl⟩
          · obtain rfl : k = n := by omega
            have HF : Hid (stB (m : Int) zs k = (tot zs k == 2 ^ m)) := Lib.hid (by rw [st_end H1.out ⟨h2, h3⟩ HL.out, Int.toNat_natCast]; rfl)
            have hp2 := p2_8 H1.out
            rw [Int.toNat_natCast] at hp2
            have hm8 : m ≤ 8 := by have := H1.out; omega
            have hmin : min m 64 = m := by omega
            go_wp2
            go_ret
            exact ⟨ret_bool2 HF.out.symm, rfl⟩
      · have HF := Lib.hid (st_n (p := (m : Int)) (zs := zs) (n := n) (fun e => h3 e.2))
        have d1 : decide ((n : Int) < 2) = false := decide_eq_false (by omega)
        have d2 : decide (16 < (n : Int)) = true := decide_eq_true (by omega)
        go_enter Try.func73, Try.ntmps73
        go_wp2_with (first | (go_at_call 69; refine (in_true (m : Int) 1 8 _ H1.out.1 H1.out.2).mono ?_; rintro e w' ⟨rfl, hw⟩; have hw := hw.symm; subst hw) | go_in)
        go_ret
        exact ⟨ret_bool2 HF.out.symm, rfl⟩
    · have HF := Lib.hid (st_n (p := (m : Int)) (zs := zs) (n := n) (fun e => h2 e.1))
      have d1 : decide ((n : Int) < 2) = true := decide_eq_true (by omega)
      go_enter Try.func73, Try.ntmps73
      go_wp2_with (first | (go_at_call 69; refine (in_true (m : Int) 1 8 _ H1.out.1 H1.out.2).mono ?_; rintro e w' ⟨rfl, hw⟩; have hw := hw.symm; subst hw) | go_in)
      go_ret
      exact ⟨ret_bool2 HF.out.symm, rfl⟩
  · have HF := Lib.hid (st_p (zs := zs) (n := n) h1)
    have H1 := Lib.hid h1
    clear h1
    go_enter Try.func73, Try.ntmps73
    go_wp2_with (first | (go_at_call 69; refine (in_false r 1 8 _ H1.out).mono ?_; rintro e w' ⟨rfl, hw⟩; have hw := hw.symm; subst hw) | go_in)
    go_ret
    exact ⟨ret_bool2 HF.out.symm, rfl⟩
set_option maxHeartbeats 2000000 in
theorem vst_spec (r : Int) (a : Option Addr) (n cap : Nat) (zs : List Int) (w : World) (h : IRow w a n zs) (hn : n ≤ 1048576) :
    Calls Try.prog 38 #[.agg #[.int .i64 r, .slice a n cap]] w fun e w' => e = .returned (.bool (stB r zs n)) ∧ Below w.heap.size w w' := by
  have HA := Lib.hid (h.alloc (.cells #[.int .i64 r, .slice a n cap] 48))
  have HC := Lib.hid (two_cells w (.int .i64 r) (.slice a n cap) 48)
  clear h
  go_enter Try.func38, Try.ntmps38
  go_wp2_with (first | (go_at_call 73; refine (sh_spec _ r a n cap zs _ HA.out hn HC.out.1 HC.out.2).mono ?_; rintro e w' ⟨rfl, hw⟩; have hw := hw.symm; subst hw) | go_in)
  go_ret
  exact ⟨rfl, belowA _ _⟩
set_option maxHeartbeats 1000000 in
theorem ip_true (n : Int) (w : World) (h : 1 ≤ n ∧ n ≤ 8) : Calls Try.prog 74 #[.int .i64 n] w fun e w' => e = .returned (.bool true) ∧ w = w' := by
  have d1 : decide (1 ≤ n) = true := decide_eq_true h.1
  have d2 : decide (n ≤ 8) = true := decide_eq_true h.2
  clear h
  go_enter Try.func74, Try.ntmps74
  go_wp2
  go_ret
  exact ⟨rfl, rfl⟩
set_option maxHeartbeats 1000000 in
theorem ip_false (n : Int) (w : World) (h : ¬ (1 ≤ n ∧ n ≤ 8)) : Calls Try.prog 74 #[.int .i64 n] w fun e w' => e = .returned (.bool false) ∧ w = w' := by
  by_cases h1 : 1 ≤ n
  · have d1 : decide (1 ≤ n) = true := decide_eq_true h1
    have d2 : decide (n ≤ 8) = false := decide_eq_false (fun e => h ⟨h1, e⟩)
    clear h h1
    go_enter Try.func74, Try.ntmps74
    go_wp2
    go_ret
    exact ⟨rfl, rfl⟩
  · have d1 : decide (1 ≤ n) = false := decide_eq_false h1
    clear h h1
    go_enter Try.func74, Try.ntmps74
    go_wp2
    go_ret
    exact ⟨rfl, rfl⟩
set_option maxRecDepth 100000 in
set_option maxHeartbeats 8000000 in
theorem vst_impl (r : Int) (a : Option Addr) (n cap : Nat) (zs : List Int) (w : World) (h : IRow w a n zs) (hn : n ≤ 1048576) :
    Calls Try.prog 40 #[.agg #[.int .i64 r, .slice a n cap]] w fun e w' => e = .returned (.bool (stB r zs n)) ∧ Below w.heap.size w w' := by
  have HA := Lib.hid (h.alloc (.cells #[.int .i64 r, .slice a n cap] 48))
  clear h
  by_cases h1 : 1 ≤ r ∧ r ≤ 8
  · have H1 := Lib.hid h1
    obtain ⟨m, rfl⟩ : ∃ m : Nat, r = (m : Int) := ⟨r.toNat, by omega⟩
    cases hpt : ptB zs n with
    | true =>
      have HF : Hid (stB (m : Int) zs n = (tot zs n == 2 ^ m)) := Lib.hid (by rw [st_pt H1.out, hpt, Int.toNat_natCast]; rfl)
      have HPT := Lib.hid hpt
      have HCN := Lib.hid (pt_cnt hpt)
      have hp2 := p2_8 H1.out
      rw [Int.toNat_natCast] at hp2
      have hm8 : m ≤ 8 := by have := H1.out; omega
      have hmin : min m 64 = m := by omega
      have hwr : IntKind.i64.wrap ((2 : Int) ^ m) = 2 ^ m := IntWalk.i64_in _ (by omega)
      clear hpt
      go_enter Try.func40, Try.ntmps40
      go_wp2
      go_region_with (first | (go_at_call 74; refine (ip_true _ _ H1.out).mono ?_; rintro e w' ⟨rfl, hw⟩; have hw := hw.symm; subst hw) | (go_at_call 62; refine (pt_impl a n _ zs _ (by first | exact HA.out | exact HA.out.drewN _) hn).mono ?_; rw [HPT.out]; rintro e w' ⟨rfl, hw⟩; have hw := hw.symm; subst hw) | (go_at_call 63; refine (tot_impl a n _ zs _ (by first | exact HA.out | exact HA.out.drewN _) HCN.out).mono ?_; rintro e w' ⟨rfl, hw⟩; have hw := hw.symm; subst hw))
      all_goals
        go_wp2
        go_ret
        exact ⟨ret_bool2 (by first | exact HF.out.symm | (rw [hwr]; exact HF.out.symm)), by repeat (first | exact belowA _ _ | refine Below.drew ?_ | refine Below.drewN' ?_ _)⟩
    | false =>
      have HF := Lib.hid (st_pt (zs := zs) (n := n) H1.out)
      have HPT := Lib.hid hpt
      have HB : Hid (stB (m : Int) zs n = false) := Lib.hid (by rw [HF.out, hpt]; rfl)
      clear hpt HF
      go_enter Try.func40, Try.ntmps40
      go_wp2
      (first | go_region_with (first | (go_at_call 74; refine (ip_true _ _ H1.out).mono ?_; rintro e w' ⟨rfl, hw⟩; have hw := hw.symm; subst hw) | (go_at_call 62; refine (pt_impl a n _ zs _ (by first | exact HA.out | exact HA.out.drewN _) hn).mono ?_; rw [HPT.out]; rintro e w' ⟨rfl, hw⟩; have hw := hw.symm; subst hw)) | fail)
      all_goals
        go_wp2
        go_ret
        exact ⟨ret_bool2 HB.out.symm, by repeat (first | exact belowA _ _ | refine Below.drew ?_ | refine Below.drewN' ?_ _)⟩
  · have HF := Lib.hid (st_p (zs := zs) (n := n) h1)
    have H1 := Lib.hid h1
    clear h1
    go_enter Try.func40, Try.ntmps40
    go_wp2
    (first | go_region_with (go_at_call 74; refine (ip_false _ _ H1.out).mono ?_; rintro e w' ⟨rfl, hw⟩; have hw := hw.symm; subst hw) | fail)
    all_goals
      go_wp2
      go_ret
      exact ⟨ret_bool2 HF.out.symm, by repeat (first | exact belowA _ _ | refine Below.drew ?_ | refine Below.drewN' ?_ _)⟩
end Go.Proofs.Ytopcmbcdmceieaa
