/- Letters that are merged, undone: where too little is asked for. -/
import Derived.Test.YtbpmjgpfjlnlpaaUms
namespace Go.Proofs.Ytbpmjgpfjlnlpaa
open Go.Proofs.Ytbpmjgpfjlnlpaa.Flo Go.RowKit

def UNone (w : World) (e : Ending) (w' : World) : Prop := e = .returned (.tuple #[.slice none 0 0, .bool false]) ∧ Below w.heap.size w w'
theorem tdiv2 (q : Nat) : ((q : Int)).tdiv 2 = ((q / 2 : Nat) : Int) := by rw [Int.tdiv_eq_ediv_of_nonneg (by omega)]; omega
theorem tmod2 (q : Nat) : ((q : Int)).tmod 2 = ((q % 2 : Nat) : Int) := by rw [Int.tmod_eq_emod_of_nonneg (by omega)]; omega
set_option maxRecDepth 100000 in
set_option maxHeartbeats 4000000 in
theorem umI1 (a : Option Addr) (m cap : Nat) (zs : List Int) (b : Option Addr) (q : Nat) (rs : List Int) (x : Int) (w : World) (_ : IRow w a m zs) (_ : IRow w b q rs) (_ : m ≤ 1048576) (_ : q ≤ 1048576) (hx : ¬ (2 ≤ x ∧ x ≤ 16)) : Calls Try.prog 37 #[.slice a m cap, .slice b q q, .int .i64 x] w (UNone w) := by
  have hqd := tdiv2 q
  have HX := Lib.hid hx
  generalize q / 2 = T at hqd
  clear hx
  go_enter Try.func37, Try.ntmps37
  go_wp2_with (first | (go_at_call 88; refine (as_false _ _ HX.out).mono ?_; rintro e w' ⟨rfl, hw⟩; subst hw) | fail)
  go_ret2
  exact ⟨rfl, Below.refl _ _⟩
set_option maxRecDepth 100000 in
set_option maxHeartbeats 4000000 in
theorem umI2 (a : Option Addr) (m cap : Nat) (zs : List Int) (b : Option Addr) (q : Nat) (rs : List Int) (x : Int) (w : World) (_ : IRow w a m zs) (hb : IRow w b q rs) (_ : m ≤ 1048576) (hq1 : q ≤ 1048576) (hx : 2 ≤ x ∧ x ≤ 16) (hru : ruB rs x q = false) : Calls Try.prog 37 #[.slice a m cap, .slice b q q, .int .i64 x] w (UNone w) := by
  have HB := Lib.hid hb
  have hqd := tdiv2 q
  clear hb
  have HX := Lib.hid hx
  have HRU := Lib.hid hru
  generalize q / 2 = T at hqd
  clear hx hru
  go_enter Try.func37, Try.ntmps37
  go_wp2_with (first | (go_at_call 88; refine (as_true _ _ HX.out).mono ?_; rintro e w' ⟨rfl, rfl⟩) | (go_at_call 89; refine (ru_impl b q q rs x _ HB.out hq1 HX.out).mono ?_; rw [HRU.out]; rintro e w' ⟨rfl, rfl⟩) | fail)
  go_ret2
  exact ⟨rfl, Below.refl _ _⟩
set_option maxRecDepth 100000 in
set_option maxHeartbeats 4000000 in
theorem umI3 (a : Option Addr) (m cap : Nat) (zs : List Int) (b : Option Addr) (q : Nat) (rs : List Int) (x : Int) (w : World) (_ : IRow w a m zs) (hb : IRow w b q rs) (hm1 : m ≤ 1048576) (hq1 : q ≤ 1048576) (hx : 2 ≤ x ∧ x ≤ 16) (hru : ruB rs x q = true) (hm : ¬ m ≤ 64) : Calls Try.prog 37 #[.slice a m cap, .slice b q q, .int .i64 x] w (UNone w) := by
  have HB := Lib.hid hb
  have hqd := tdiv2 q
  clear hb
  have HX := Lib.hid hx
  have HRU := Lib.hid hru
  have d64 : decide (64 < (m : Int)) = true := decide_eq_true (by omega)
  generalize q / 2 = T at hqd
  clear hx hru
  go_enter Try.func37, Try.ntmps37
  go_wp2_with (first | (go_at_call 88; refine (as_true _ _ HX.out).mono ?_; rintro e w' ⟨rfl, rfl⟩) | (go_at_call 89; refine (ru_impl b q q rs x _ HB.out hq1 HX.out).mono ?_; rw [HRU.out]; rintro e w' ⟨rfl, rfl⟩) | fail)
  go_ret2
  exact ⟨rfl, Below.refl _ _⟩
set_option maxRecDepth 100000 in
set_option maxHeartbeats 4000000 in
theorem umI4 (a : Option Addr) (m cap : Nat) (zs : List Int) (b : Option Addr) (q : Nat) (rs : List Int) (x : Int) (w : World) (ha : IRow w a m zs) (hb : IRow w b q rs) (_ : m ≤ 1048576) (hq1 : q ≤ 1048576) (hx : 2 ≤ x ∧ x ≤ 16) (hru : ruB rs x q = true) (hm : m ≤ 64) (hz : letB zs m (x + ((q / 2 : Nat) : Int)) = false) : Calls Try.prog 37 #[.slice a m cap, .slice b q q, .int .i64 x] w (UNone w) := by
  have HA := Lib.hid ha
  have HB := Lib.hid hb
  have hqd := tdiv2 q
  clear ha hb
  have HX := Lib.hid hx
  have HRU := Lib.hid hru
  have d64 : decide (64 < (m : Int)) = false := decide_eq_false (by omega)
  have HLB := Lib.hid hz
  have hT : q / 2 ≤ 1048576 := by omega
  generalize q / 2 = T at hqd HLB hT
  obtain ⟨hx1, hx2⟩ := hx
  clear hru hz
  go_enter Try.func37, Try.ntmps37
  go_wp2_with (first | (go_at_call 88; refine (as_true _ _ HX.out).mono ?_; rintro e w' ⟨rfl, rfl⟩) | (go_at_call 89; refine (ru_impl b q q rs x _ HB.out hq1 HX.out).mono ?_; rw [HRU.out]; rintro e w' ⟨rfl, rfl⟩) | (go_at_call 90; refine (al_impl a m cap zs _ _ HA.out (by omega)).mono ?_; rw [HLB.out]; rintro e w' ⟨rfl, rfl⟩) | fail)
  go_ret2
  exact ⟨rfl, Below.refl _ _⟩
theorem umIN (a : Option Addr) (m cap : Nat) (zs : List Int) (b : Option Addr) (q : Nat) (rs : List Int) (x : Int) (w : World) (ha : IRow w a m zs) (hb : IRow w b q rs) (hm1 : m ≤ 1048576) (hq1 : q ≤ 1048576) (hok : umA zs m rs q x = false) : Calls Try.prog 37 #[.slice a m cap, .slice b q q, .int .i64 x] w (UNone w) := by
  by_cases hx : 2 ≤ x ∧ x ≤ 16
  · cases hru : ruB rs x q with
    | false => exact umI2 a m cap zs b q rs x w ha hb hm1 hq1 hx hru
    | true =>
      by_cases hm : m ≤ 64
      · refine umI4 a m cap zs b q rs x w ha hb hm1 hq1 hx hru hm ?_
        unfold umA at hok
        rw [decide_eq_true hx, hru, decide_eq_true hm, Bool.true_and, Bool.true_and, Bool.true_and] at hok
        unfold letB
        rw [hok]; rfl
      · exact umI3 a m cap zs b q rs x w ha hb hm1 hq1 hx hru hm
  · exact umI1 a m cap zs b q rs x w ha hb hm1 hq1 hx
set_option maxRecDepth 100000 in
set_option maxHeartbeats 4000000 in
theorem umS1 (a : Option Addr) (m cap : Nat) (zs : List Int) (b : Option Addr) (q : Nat) (rs : List Int) (x : Int) (w : World) (_ : IRow w a m zs) (_ : IRow w b q rs) (_ : m ≤ 1048576) (_ : q ≤ 1048576) (hx : ¬ (2 ≤ x ∧ x ≤ 16)) : Calls Try.prog 36 #[.slice a m cap, .slice b q q, .int .i64 x] w (UNone w) := by
  have hqd := tdiv2 q
  have HX := Lib.hid hx
  generalize q / 2 = T at hqd
  clear hx
  go_enter Try.func36, Try.ntmps36
  go_wp2_with (first | (go_at_call 84; refine (l5_false _ _ HX.out).mono ?_; rintro e w' ⟨rfl, hw⟩; subst hw) | fail)
  go_ret2
  exact ⟨rfl, Below.refl _ _⟩
set_option maxRecDepth 100000 in
set_option maxHeartbeats 4000000 in
theorem umS2 (a : Option Addr) (m cap : Nat) (zs : List Int) (b : Option Addr) (q : Nat) (rs : List Int) (x : Int) (w : World) (_ : IRow w a m zs) (_ : IRow w b q rs) (_ : m ≤ 1048576) (_ : q ≤ 1048576) (hx : 2 ≤ x ∧ x ≤ 16) (hq : ¬ q % 2 = 0) : Calls Try.prog 36 #[.slice a m cap, .slice b q q, .int .i64 x] w (UNone w) := by
  have hqd := tdiv2 q
  have hrm : ((q : Int)).tmod 2 = 1 := by rw [tmod2]; omega
  have HX := Lib.hid hx
  generalize q / 2 = T at hqd
  clear hx
  go_enter Try.func36, Try.ntmps36
  go_wp2_with (first | (go_at_call 84; refine (l5_true _ _ HX.out).mono ?_; rintro e w' ⟨rfl, hw⟩; subst hw) | fail)
  go_ret2
  exact ⟨rfl, Below.refl _ _⟩
set_option maxRecDepth 100000 in
set_option maxHeartbeats 4000000 in
theorem umS3 (a : Option Addr) (m cap : Nat) (zs : List Int) (b : Option Addr) (q : Nat) (rs : List Int) (x : Int) (w : World) (_ : IRow w a m zs) (_ : IRow w b q rs) (_ : m ≤ 1048576) (hq1 : q ≤ 1048576) (hx : 2 ≤ x ∧ x ≤ 16) (hq : q % 2 = 0) (hq2 : ¬ q ≤ 16) : Calls Try.prog 36 #[.slice a m cap, .slice b q q, .int .i64 x] w (UNone w) := by
  have hqd := tdiv2 q
  have hrm : ((q : Int)).tmod 2 = 0 := by rw [tmod2]; omega
  have HX := Lib.hid hx
  have d8 : decide (8 < ((q / 2 : Nat) : Int)) = true := decide_eq_true (by omega)
  have hT : q / 2 ≤ 1048576 := by omega
  generalize q / 2 = T at hqd d8 hT
  clear hx hq
  go_enter Try.func36, Try.ntmps36
  go_wp2_with (first | (go_at_call 84; refine (l5_true _ _ HX.out).mono ?_; rintro e w' ⟨rfl, hw⟩; subst hw) | fail)
  go_ret2
  exact ⟨rfl, Below.refl _ _⟩
set_option maxRecDepth 100000 in
set_option maxHeartbeats 4000000 in
theorem umS4 (a : Option Addr) (m cap : Nat) (zs : List Int) (b : Option Addr) (q : Nat) (rs : List Int) (x : Int) (w : World) (_ : IRow w a m zs) (_ : IRow w b q rs) (hm1 : m ≤ 1048576) (_ : q ≤ 1048576) (hx : 2 ≤ x ∧ x ≤ 16) (hq : q % 2 = 0) (hq2 : q ≤ 16) (hm : ¬ m ≤ 64) : Calls Try.prog 36 #[.slice a m cap, .slice b q q, .int .i64 x] w (UNone w) := by
  have hqd := tdiv2 q
  have hrm : ((q : Int)).tmod 2 = 0 := by rw [tmod2]; omega
  have HX := Lib.hid hx
  have d8 : decide (8 < ((q / 2 : Nat) : Int)) = false := decide_eq_false (by omega)
  have d64 : decide (64 < (m : Int)) = true := decide_eq_true (by omega)
  have hT : q / 2 ≤ 8 := by omega
  generalize q / 2 = T at hqd d8 hT
  clear hx hq
  go_enter Try.func36, Try.ntmps36
  go_wp2_with (first | (go_at_call 84; refine (l5_true _ _ HX.out).mono ?_; rintro e w' ⟨rfl, hw⟩; subst hw) | fail)
  go_ret2
  exact ⟨rfl, Below.refl _ _⟩
set_option maxRecDepth 100000 in
set_option maxHeartbeats 8000000 in
theorem umS5 (a : Option Addr) (m cap : Nat) (zs : List Int) (b : Option Addr) (q : Nat) (rs : List Int) (x : Int) (w : World) (ha : IRow w a m zs) (hb : IRow w b q rs) (_ : m ≤ 1048576) (_ : q ≤ 1048576) (hx : 2 ≤ x ∧ x ≤ 16) (hq : q % 2 = 0) (hq2 : q ≤ 16) (hm : m ≤ 64) (hno : ¬ (letP zs (x + ((q / 2 : Nat) : Int)) m ∧ ruP rs x q)) : Calls Try.prog 36 #[.slice a m cap, .slice b q q, .int .i64 x] w (UNone w) := by
  have HA := Lib.hid ha
  have HB := Lib.hid hb
  have hqd := tdiv2 q
  have hrm : ((q : Int)).tmod 2 = 0 := by rw [tmod2]; omega
  have HX := Lib.hid hx
  have d8 : decide (8 < ((q / 2 : Nat) : Int)) = false := decide_eq_false (by omega)
  have d64 : decide (64 < (m : Int)) = false := decide_eq_false (by omega)
  have hT : q / 2 ≤ 8 := by omega
  have HNO := Lib.hid hno
  clear ha hb hno hq
  generalize q / 2 = T at hqd d8 hT HNO
  have hwT : IntKind.i64.wrap (x + (T : Int)) = x + (T : Int) := IntWalk.i64_in _ (by omega)
  have hwT2 : IntKind.i64.wrap (x + (T : Int) - 1) = x + (T : Int) - 1 := IntWalk.i64_in _ (by omega)
  obtain ⟨hx1, hx2⟩ := hx
  go_enter Try.func36, Try.ntmps36
  go_wp2_with (first | (go_at_call 84; refine (l5_true _ _ HX.out).mono ?_; rintro e w' ⟨rfl, hw⟩; subst hw) | fail)
  go_loop [38] (fun iv => ∃ k : Nat, k ≤ m ∧ Hid (letP zs (x + (T : Int)) k) ∧ iv = .int .i64 k) (fun iv => m - (intOf iv).toNat)
  case atStart => exact ⟨0, by omega, Lib.hid (by intro j hj; omega), rfl⟩
  case round =>
    obtain ⟨k, hk, HZ, rfl⟩ := hrel
    by_cases hlt : k < m
    · obtain ⟨b1, o1, rfl, _, hck1⟩ := HA.out.cell' hlt
      by_cases hc : 0 ≤ zs.getD k 0 ∧ zs.getD k 0 < x + (T : Int)
      · have HZN : Hid (letP zs (x + (T : Int)) (k + 1)) := Lib.hid (fun j hj => by
          by_cases e : j < k
          · exact HZ.out j e
          · obtain rfl : j = k := by omega
            exact hc)
        have HC : Hid (0 ≤ zs.getD k 0 ∧ zs.getD k 0 ≤ x + (T : Int) - 1) := Lib.hid (by omega)
        clear hc
        generalize zs.getD k 0 = c at hck1 HC
        go_wp2_with (first | (go_at_call 80; with_reducible refine (in_true c 0 (x + (T : Int) - 1) _ HC.out.1 HC.out.2).mono ?_; rintro e w' ⟨rfl, hw⟩; subst hw) | fail)
        go_round
        case rel => exact ⟨k + 1, by omega, HZN, by go_num⟩
        case measure => simp [intOf]; omega
      · have HC : Hid (¬ (0 ≤ zs.getD k 0 ∧ zs.getD k 0 ≤ x + (T : Int) - 1)) := Lib.hid (by omega)
        clear hc
        generalize zs.getD k 0 = c at hck1 HC
        go_wp2_with (first | (go_at_call 80; with_reducible refine (in_false c 0 (x + (T : Int) - 1) _ HC.out).mono ?_; rintro e w' ⟨rfl, hw⟩; subst hw) | fail)
        go_ret2
        exact ⟨rfl, Below.refl _ _⟩
    · obtain rfl : m = k := by omega
      go_wp2
      go_loop [54] (fun iv => ∃ k : Nat, k ≤ q ∧ Hid (ruP rs x k) ∧ iv = .int .i64 k) (fun iv => q - (intOf iv).toNat)
      case atStart => exact ⟨0, by omega, Lib.hid (by intro j hj; omega), rfl⟩
      case round =>
        obtain ⟨k2, hk2, HRP, rfl⟩ := hrel
        by_cases hlt : k2 < q
        · obtain ⟨b1, o1, rfl, _, hck1⟩ := HB.out.cell' hlt
          have hqd2 := tdiv2 k2
          have hkh : k2 / 2 ≤ 8 := by omega
          by_cases hc : 0 ≤ rs.getD k2 0 ∧ rs.getD k2 0 < x + ((k2 / 2 : Nat) : Int)
          · have HRN : Hid (ruP rs x (k2 + 1)) := Lib.hid (fun j hj => by
              by_cases e : j < k2
              · exact HRP.out j e
              · obtain rfl : j = k2 := by omega
                exact hc)
            have HC : Hid (0 ≤ rs.getD k2 0 ∧ rs.getD k2 0 ≤ x + ((k2 / 2 : Nat) : Int) - 1) := Lib.hid (by omega)
            clear hc
            generalize rs.getD k2 0 = c at hck1 HC
            generalize k2 / 2 = kh at hqd2 hkh HC
            have hw3 : IntKind.i64.wrap (x + (kh : Int)) = x + (kh : Int) := IntWalk.i64_in _ (by omega)
            have hw4 : IntKind.i64.wrap (x + (kh : Int) - 1) = x + (kh : Int) - 1 := IntWalk.i64_in _ (by omega)
            go_wp2_with (first | (go_at_call 80; with_reducible refine (in_true c 0 (x + (kh : Int) - 1) _ HC.out.1 HC.out.2).mono ?_; rintro e w' ⟨rfl, hw⟩; subst hw) | fail)
            go_round
            case rel => exact ⟨k2 + 1, by omega, HRN, by go_num⟩
            case measure => simp [intOf]; omega
          · have HC : Hid (¬ (0 ≤ rs.getD k2 0 ∧ rs.getD k2 0 ≤ x + ((k2 / 2 : Nat) : Int) - 1)) := Lib.hid (by omega)
            clear hc
            generalize rs.getD k2 0 = c at hck1 HC
            generalize k2 / 2 = kh at hqd2 hkh HC
            have hw3 : IntKind.i64.wrap (x + (kh : Int)) = x + (kh : Int) := IntWalk.i64_in _ (by omega)
            have hw4 : IntKind.i64.wrap (x + (kh : Int) - 1) = x + (kh : Int) - 1 := IntWalk.i64_in _ (by omega)
            go_wp2_with (first | (go_at_call 80; with_reducible refine (in_false c 0 (x + (kh : Int) - 1) _ HC.out).mono ?_; rintro e w' ⟨rfl, hw⟩; subst hw) | fail)
            go_ret2
            exact ⟨rfl, Below.refl _ _⟩
        · obtain rfl : q = k2 := by omega
          exact (HNO.out ⟨HZ.out, HRP.out⟩).elim
theorem umSN (a : Option Addr) (m cap : Nat) (zs : List Int) (b : Option Addr) (q : Nat) (rs : List Int) (x : Int) (w : World) (ha : IRow w a m zs) (hb : IRow w b q rs) (hm1 : m ≤ 1048576) (hq1 : q ≤ 1048576) (hok : umA zs m rs q x = false) : Calls Try.prog 36 #[.slice a m cap, .slice b q q, .int .i64 x] w (UNone w) := by
  by_cases hx : 2 ≤ x ∧ x ≤ 16
  · by_cases hq : q % 2 = 0
    · by_cases hq2 : q ≤ 16
      · by_cases hm : m ≤ 64
        · refine umS5 a m cap zs b q rs x w ha hb hm1 hq1 hx hq hq2 hm (fun hno => ?_)
          unfold umA ruB at hok
          rw [decide_eq_true hx, decide_eq_true (⟨hq, hq2⟩ : q % 2 = 0 ∧ q ≤ 16), decide_eq_true hm, decide_eq_true hno.1, decide_eq_true hno.2] at hok
          cases hok
        · exact umS4 a m cap zs b q rs x w ha hb hm1 hq1 hx hq hq2 hm
      · exact umS3 a m cap zs b q rs x w ha hb hm1 hq1 hx hq hq2
    · exact umS2 a m cap zs b q rs x w ha hb hm1 hq1 hx hq
  · exact umS1 a m cap zs b q rs x w ha hb hm1 hq1 hx
end Go.Proofs.Ytbpmjgpfjlnlpaa
