/- Types: the laws of CountTypes and WordsOfType. -/
import Derived.Test.YtkllihdfafomnaaCty
import Derived.Test.YtkllihdfafomnaaSlg
namespace Go.Proofs.Ytkllihdfafomnaa
open Go.Proofs.Ytkllihdfafomnaa.Flo Go.RowKit Go.Proofs.Ytkllihdfafomnaa.Ctv

theorem IRow.new' {w : World} {zs : List Int} {n b : Nat} (h : zs.length = n) (hb : b = w.heap.size) (e : TypeId) : IRow (w.alloc (.cells (il zs) e)) (some ⟨b, 0, none⟩) n zs := by
  subst hb; exact IRow.new h e
theorem ret_ib {a b : Int} {c d : Bool} (h : a = b) (h2 : c = d) : Ending.returned (.tuple #[.int .i64 a, .bool c]) = .returned (.tuple #[.int .i64 b, .bool d]) := by rw [h, h2]
/-- The counts of a type. -/
def tyB (zs : List Int) (n : Nat) : Bool := decide (1 ≤ n ∧ n ≤ 8) && decide ((∀ k, k < n → 0 ≤ zs.getD k 0) ∧ totN zs n ≤ 20)
def tyV (zs : List Int) (n : Nat) : Int := if tyB zs n then (wrd zs n : Nat) else 0
theorem ty_out {zs : List Int} {n : Nat} (h : tyB zs n = true) : (1 ≤ n ∧ n ≤ 8) ∧ (∀ k, k < n → 0 ≤ zs.getD k 0) ∧ totN zs n ≤ 20 := by
  unfold tyB at h
  rw [Bool.and_eq_true] at h
  exact ⟨of_decide_eq_true h.1, of_decide_eq_true h.2⟩
theorem ty_len {zs : List Int} {n : Nat} (h : ¬ (1 ≤ n ∧ n ≤ 8)) : tyB zs n = false := by
  unfold tyB; rw [decide_eq_false h]; rfl
theorem ty_neg {zs : List Int} {n k : Nat} (hk : k < n) (h : zs.getD k 0 < 0) : tyB zs n = false := by
  unfold tyB
  rw [decide_eq_false (p := (∀ k, k < n → 0 ≤ zs.getD k 0) ∧ totN zs n ≤ 20) (fun H => by have := H.1 k hk; omega), Bool.and_false]
theorem ty_sum {zs : List Int} {n : Nat} (h : 20 < totN zs n) : tyB zs n = false := by
  unfold tyB
  rw [decide_eq_false (p := (∀ k, k < n → 0 ≤ zs.getD k 0) ∧ totN zs n ≤ 20) (fun H => by have := H.2; omega), Bool.and_false]
theorem ty_big {zs : List Int} {n k : Nat} (hk : k < n) (h : (20 : Int) - totN zs k < zs.getD k 0) : tyB zs n = false := by
  refine ty_sum ?_
  have h1 := totN_le zs (show k + 1 ≤ n by omega)
  have h2 : totN zs (k + 1) = totN zs k + (zs.getD k 0).toNat := rfl
  omega
theorem ty_yes {zs : List Int} {n : Nat} (h1 : 1 ≤ n) (h2 : n ≤ 8) (h3 : ∀ k, k < n → 0 ≤ zs.getD k 0) (h4 : totN zs n ≤ 20) : tyB zs n = true := by
  unfold tyB
  rw [decide_eq_true (⟨h1, h2⟩ : 1 ≤ n ∧ n ≤ 8), decide_eq_true (⟨h3, h4⟩ : (∀ k, k < n → 0 ≤ zs.getD k 0) ∧ totN zs n ≤ 20)]; rfl
theorem ty_steps {zs : List Int} {n : Nat} (h : tyB zs n = true) : StepsOk zs n := by
  obtain ⟨⟨_, hn⟩, hp, ht⟩ := ty_out h
  intro k hk i hi
  have h1 := totN_le zs (show k + 1 ≤ n by omega)
  have h2 : totN zs (k + 1) = totN zs k + (zs.getD k 0).toNat := rfl
  have hP := wrd_le zs k (by omega) (by omega)
  exact Ctv.step hP (by omega) (by omega)

set_option maxHeartbeats 2000000 in
theorem words_impl (a : Option Addr) (n cap : Nat) (zs : List Int) (w : World) (h : IRow w a n zs) (hn : n ≤ 1048576) :
    Calls Try.prog 98 #[.slice a n cap] w fun e w' => e = .returned (.tuple #[.int .i64 (tyV zs n), .bool (tyB zs n)]) ∧ w = w' := by
  have HA := Lib.hid h
  have HV : Hid (tyB zs n = false → tyV zs n = 0) := Lib.hid (fun h => by unfold tyV; rw [h]; rfl)
  clear h
  by_cases h1 : 1 ≤ n
  · by_cases h2 : n ≤ 8
    · go_enter Try.func98, Try.ntmps98
      go_wp2
      go_loop [4, 17] (fun rv iv => ∃ k : Nat, k ≤ n ∧ Hid (∀ j, j < k → 0 ≤ zs.getD j 0) ∧ totN zs k ≤ 20 ∧ rv = .int .i64 (20 - (totN zs k : Nat)) ∧ iv = .int .i64 k) (fun _ iv => n - (intOf iv).toNat)
      case atStart => exact ⟨0, by omega, Lib.hid (by intro j hj; omega), Nat.zero_le _, rfl, rfl⟩
      case round =>
        obtain ⟨k, hk, HL, ht, rfl, rfl⟩ := hrel
        by_cases hlt : k < n
        · obtain ⟨b1, o1, rfl, hck1⟩ := HA.out.cell hlt
          have HT1 : Hid (totN zs (k + 1) = totN zs k + (zs.getD k 0).toNat) := Lib.hid rfl
          by_cases hc0 : zs.getD k 0 < 0
          · have HR := Lib.hid (ty_neg hlt hc0)
            generalize zs.getD k 0 = c at hck1 hc0
            generalize totN zs k = T at ht
            go_wp2
            go_ret2
            exact ⟨ret_ib (HV.out HR.out).symm HR.out.symm, rfl⟩
          · by_cases hc1 : (20 : Int) - totN zs k < zs.getD k 0
            · have HR := Lib.hid (ty_big hlt hc1)
              generalize zs.getD k 0 = c at hck1 hc0 hc1
              generalize totN zs k = T at ht hc1
              go_wp2
              go_ret2
              exact ⟨ret_ib (HV.out HR.out).symm HR.out.symm, rfl⟩
            · have HZ : Hid (0 ≤ zs.getD k 0) := Lib.hid (by omega)
              generalize hcc : zs.getD k 0 = c at hck1 hc0 hc1 HT1
              have HCC := Lib.hid hcc
              generalize totN zs k = T at ht hc1 HT1
              clear hcc
              go_wp2
              go_round
              case rel => exact ⟨k + 1, by omega, Lib.hid (fun j hj => by by_cases e : j = k; exact e ▸ HZ.out; exact HL.out j (by omega)), by rw [HT1.out]; omega, val_i64 (by rw [HT1.out]; omega), by go_num⟩
              case measure => simp [intOf]; omega
        · obtain rfl : k = n := by omega
          have hty := ty_yes h1 h2 HL.out ht
          have HR := Lib.hid hty
          have HW : Hid (tyV zs k = (wrd zs k : Nat)) := Lib.hid (by unfold tyV; rw [hty]; rfl)
          clear hty
          go_wp2_with (first | (go_at_call 117; refine (arr_impl _ _ _ zs _ HA.out (by omega) HL.out (by omega) (ty_steps HR.out)).mono ?_; rintro e w' ⟨rfl, rfl⟩) | go_in)
          go_ret2
          exact ⟨ret_ib HW.out.symm HR.out.symm, rfl⟩
    · have HR := Lib.hid (ty_len (zs := zs) (show ¬ (1 ≤ n ∧ n ≤ 8) by omega))
      go_enter Try.func98, Try.ntmps98
      go_wp2
      go_ret2
      exact ⟨ret_ib (HV.out HR.out).symm HR.out.symm, rfl⟩
  · have HR := Lib.hid (ty_len (zs := zs) (show ¬ (1 ≤ n ∧ n ≤ 8) by omega))
    go_enter Try.func98, Try.ntmps98
    go_wp2
    go_ret2
    exact ⟨ret_ib (HV.out HR.out).symm HR.out.symm, rfl⟩
set_option maxHeartbeats 2000000 in
theorem total_spec (a : Option Addr) (n cap : Nat) (zs : List Int) (w : World) (h : IRow w a n zs) (hn : n ≤ 8) (hp : ∀ k, k < n → 0 ≤ zs.getD k 0 ∧ zs.getD k 0 ≤ 20) :
    Calls Try.prog 54 #[.slice a n cap] w fun e w' => e = .returned (.int .i64 (totN zs n : Nat)) ∧ w = w' := by
  have HA := Lib.hid h
  have HP := Lib.hid hp
  clear h hp
  go_enter Try.func54, Try.ntmps54
  go_wp2
  go_loop [3, 4] (fun sv iv => ∃ k : Nat, k ≤ n ∧ totN zs k ≤ 20 * k ∧ sv = .int .i64 (totN zs k : Nat) ∧ iv = .int .i64 k) (fun _ iv => n - (intOf iv).toNat)
  case atStart => exact ⟨0, by omega, Nat.zero_le _, rfl, rfl⟩
  case round =>
    obtain ⟨k, hk, hb, rfl, rfl⟩ := hrel
    by_cases hlt : k < n
    · obtain ⟨b1, o1, rfl, hck1⟩ := HA.out.cell hlt
      have HT1 : Hid (totN zs (k + 1) = totN zs k + (zs.getD k 0).toNat) := Lib.hid rfl
      obtain ⟨hc0, hc1⟩ := HP.out k hlt
      generalize zs.getD k 0 = c at hck1 hc0 hc1 HT1
      generalize totN zs k = T at hb HT1
      go_wp2
      go_round
      case rel => exact ⟨k + 1, by omega, by rw [HT1.out]; omega, val_i64 (by rw [HT1.out]; omega), by go_num⟩
      case measure => simp [intOf]; omega
    · obtain rfl : k = n := by omega
      go_wp2
      go_ret
      exact ⟨rfl, rfl⟩
set_option maxHeartbeats 2000000 in
theorem type_spec (a : Option Addr) (n cap : Nat) (zs : List Int) (w : World) (h : IRow w a n zs) (hn : n ≤ 1048576) :
    Calls Try.prog 96 #[.slice a n cap] w fun e w' => e = .returned (.bool (tyB zs n)) ∧ w = w' := by
  have HA := Lib.hid h
  clear h
  go_enter Try.func96, Try.ntmps96
  go_wp2
  go_loop [3] (fun iv => ∃ k : Nat, k ≤ n ∧ Hid (∀ j, j < k → 0 ≤ zs.getD j 0 ∧ zs.getD j 0 ≤ 20) ∧ iv = .int .i64 k) (fun iv => n - (intOf iv).toNat)
  case atStart => exact ⟨0, by omega, Lib.hid (by intro j hj; omega), rfl⟩
  case round =>
    obtain ⟨k, hk, HL, rfl⟩ := hrel
    by_cases hlt : k < n
    · obtain ⟨b1, o1, rfl, hck1⟩ := HA.out.cell hlt
      by_cases hc0 : zs.getD k 0 < 0
      · have HR := Lib.hid (ty_neg hlt hc0)
        generalize zs.getD k 0 = c at hck1 hc0
        have hd : decide (0 ≤ c) = false := by simp; omega
        go_wp2
        go_ret
        exact ⟨ret_bool2 HR.out.symm, rfl⟩
      · by_cases hc1 : 20 < zs.getD k 0
        · have HR := Lib.hid (ty_big hlt (show (20 : Int) - totN zs k < zs.getD k 0 by omega))
          generalize zs.getD k 0 = c at hck1 hc0 hc1
          have hd : decide (0 ≤ c) = true := by simp; omega
          have hd2 : decide (c ≤ 20) = false := by simp; omega
          go_wp2
          go_ret
          exact ⟨ret_bool2 HR.out.symm, rfl⟩
        · have HZ : Hid (0 ≤ zs.getD k 0 ∧ zs.getD k 0 ≤ 20) := Lib.hid (by omega)
          generalize hcc : zs.getD k 0 = c at hck1 hc0 hc1
          have HCC := Lib.hid hcc
          clear hcc
          have hd : decide (0 ≤ c) = true := by simp; omega
          have hd2 : decide (c ≤ 20) = true := by simp; omega
          go_wp2
          go_round
          case rel => exact ⟨k + 1, by omega, Lib.hid (fun j hj => by by_cases e : j = k; exact e ▸ HZ.out; exact HL.out j (by omega)), by go_num⟩
          case measure => simp [intOf]; omega
    · obtain rfl : k = n := by omega
      by_cases h1 : 1 ≤ k
      · have hd1 : decide (1 ≤ (k : Int)) = true := by simp; omega
        by_cases h2 : k ≤ 8
        · have hd2 : decide ((k : Int) ≤ 8) = true := by simp; omega
          have HR : Hid (decide (((totN zs k : Nat) : Int) ≤ 20) = tyB zs k) := Lib.hid (by
            by_cases h4 : totN zs k ≤ 20
            · rw [ty_yes h1 h2 (fun j hj => (HL.out j hj).1) h4]; simp; omega
            · rw [ty_sum (by omega)]; simp; omega)
          go_wp2_with (first | (go_at_call 54; refine (total_spec _ _ _ zs _ HA.out h2 HL.out).mono ?_; rintro e w' ⟨rfl, rfl⟩) | go_in)
          go_ret
          exact ⟨ret_bool2 HR.out, rfl⟩
        · have hd2 : decide ((k : Int) ≤ 8) = false := by simp; omega
          have HR := Lib.hid (ty_len (zs := zs) (show ¬ (1 ≤ k ∧ k ≤ 8) by omega))
          go_wp2
          go_ret
          exact ⟨ret_bool2 HR.out.symm, rfl⟩
      · have hd1 : decide (1 ≤ (k : Int)) = false := by simp; omega
        have HR := Lib.hid (ty_len (zs := zs) (show ¬ (1 ≤ k ∧ k ≤ 8) by omega))
        go_wp2
        go_ret
        exact ⟨ret_bool2 HR.out.symm, rfl⟩
set_option maxHeartbeats 2000000 in
theorem words_spec (a : Option Addr) (n cap : Nat) (zs : List Int) (w : World) (h : IRow w a n zs) (hty : tyB zs n = true) :
    Calls Try.prog 97 #[.slice a n cap] w fun e w' => e = .returned (.int .i64 (wrd zs n : Nat)) ∧ w = w' := by
  have HA := Lib.hid h
  obtain ⟨⟨h1, h2⟩, hp, ht⟩ := ty_out hty
  have HP := Lib.hid hp
  have HT := Lib.hid ht
  clear h hp ht hty
  go_enter Try.func97, Try.ntmps97
  go_wp2
  go_loop [3, 4, 5] (fun ov tv iv => ∃ k : Nat, k ≤ n ∧ ov = .int .i64 (wrd zs k : Nat) ∧ tv = .int .i64 (totN zs k : Nat) ∧ iv = .int .i64 k) (fun _ _ iv => n - (intOf iv).toNat)
  case atStart => exact ⟨0, by omega, rfl, rfl, rfl⟩
  case round =>
    obtain ⟨k, hk, rfl, rfl, rfl⟩ := hrel
    by_cases hlt : k < n
    · obtain ⟨b1, o1, rfl, hck1⟩ := HA.out.cell hlt
      obtain ⟨c, hc⟩ : ∃ c : Nat, zs.getD k 0 = c := ⟨(zs.getD k 0).toNat, by have := HP.out k hlt; omega⟩
      have hT1 : totN zs (k + 1) = totN zs k + c := by
        have : totN zs (k + 1) = totN zs k + (zs.getD k 0).toNat := rfl
        rw [this, hc]; simp
      have hW1 : wrd zs (k + 1) = wrd zs k * chF (totN zs k) c := by
        have : wrd zs (k + 1) = wrd zs k * chF (totN zs k) (zs.getD k 0).toNat := rfl
        rw [this, hc]; simp
      have hT20 : totN zs k + c ≤ 20 := by rw [← hT1]; exact Nat.le_trans (totN_le zs (by omega)) HT.out
      have hWle : wrd zs k * chF (totN zs k) c < 2 ^ 62 := by
        rw [← hW1]
        refine Nat.lt_of_le_of_lt (wrd_le zs (k + 1) (by omega) (by omega)) ?_
        exact pow_all ⟨k + 1, by omega⟩ ⟨totN zs (k + 1), by omega⟩
      have HT1 := Lib.hid hT1
      have HW1 := Lib.hid hW1
      have HC : Hid (∀ i, i < c → chF (totN zs k) i * (totN zs k + i + 1) < 2 ^ 62) := Lib.hid (fun i hi => by
        have a1 := one_le (T := totN zs k) (i := i) (by omega)
        have a2 : chF (totN zs k) i * (totN zs k + i + 1) ≤ 2 ^ 40 * 21 := Nat.mul_le_mul (by omega) (by omega)
        omega)
      rw [hc] at hck1
      clear hT1 hW1 hc
      generalize totN zs k = T at HT1 HW1 HC hT20 hWle
      have hb0 : 0 ≤ ((wrd zs k : Nat) : Int) * ((chF T c : Nat) : Int) ∧ ((wrd zs k : Nat) : Int) * ((chF T c : Nat) : Int) < 4611686018427387904 := by
        rw [← Int.natCast_mul]; omega
      have HM : Hid (((wrd zs k : Nat) : Int) * ((chF T c : Nat) : Int) = ((wrd zs (k + 1) : Nat) : Int)) := Lib.hid (by rw [HW1.out, Int.natCast_mul])
      obtain ⟨hb1, hb2⟩ := hb0
      clear hWle
      generalize ((wrd zs k : Nat) : Int) = X at hb1 hb2 HM
      go_wp2_with (first | (go_at_call 116; refine (choose_spec T c _ (by omega) (by omega) HC.out).mono ?_; rintro e w' ⟨rfl, rfl⟩) | go_in)
      all_goals
        go_round
        case rel => exact ⟨k + 1, by omega, val_i64 HM.out, val_i64 (by rw [HT1.out]; rfl), by go_num⟩
        case measure => simp [intOf]; omega
    · obtain rfl : k = n := by omega
      go_wp2
      go_ret
      exact ⟨rfl, rfl⟩
end Go.Proofs.Ytkllihdfafomnaa
