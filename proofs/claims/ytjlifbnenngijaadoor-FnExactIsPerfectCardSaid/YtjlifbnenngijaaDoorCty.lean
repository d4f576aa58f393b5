
/- Types: CountTypes and WordsOfType: walks and laws. -/
import Derived.Test.YtjlifbnenngijaaDoorMgb
import Derived.Test.YtjlifbnenngijaaDoorCtv
namespace Go.Proofs.YtjlifbnenngijaaDoor
open Go.Proofs.YtjlifbnenngijaaDoor.Flo Go.RowKit Go.Proofs.YtjlifbnenngijaaDoor.Ctv

theorem ret_i64 {a b : Int} (h : a = b) : Ending.returned (.int .i64 a) = .returned (.int .i64 b) := by rw [h]
theorem val_i64 {a b : Int} (h : a = b) : Value.int .i64 a = .int .i64 b := by rw [h]
theorem IRow.cell {w : World} {a : Option Addr} {n : Nat} {zs : List Int} (h : IRow w a n zs) {k : Nat} (hk : k < n) : ∃ b off, a = some ⟨b, off, none⟩ ∧ w.cell? ⟨b, off + k, none⟩ = some (.int .i64 (zs.getD k 0)) := by
  rcases h.2 with h0 | ⟨b, o, rfl, _, hc⟩
  · omega
  · exact ⟨b, o, rfl, hc k hk⟩
/-- One step of a product, as the program computes it. -/
theorem step_int {P C D T i : Nat} (h : P * C * (T + i + 1) / (i + 1) = P * D) : ((P * C : Nat) : Int) * (((T + i : Nat) : Int) + 1) / ((i : Int) + 1) = ((P * D : Nat) : Int) := by
  have e : ((P * C : Nat) : Int) * (((T + i : Nat) : Int) + 1) = ((P * C * (T + i + 1) : Nat) : Int) := by
    rw [Int.natCast_mul (P * C) (T + i + 1)]; rfl
  rw [e, show ((i : Int) + 1) = ((i + 1 : Nat) : Int) from rfl, ← Int.natCast_ediv, h]
theorem step_lt {P C T i : Nat} (h : P * C * (T + i + 1) < 2 ^ 62) : 0 ≤ ((P * C : Nat) : Int) * (((T + i : Nat) : Int) + 1) ∧ ((P * C : Nat) : Int) * (((T + i : Nat) : Int) + 1) < 4611686018427387904 := by
  have e : ((P * C : Nat) : Int) * (((T + i : Nat) : Int) + 1) = ((P * C * (T + i + 1) : Nat) : Int) := by
    rw [Int.natCast_mul (P * C) (T + i + 1)]; rfl
  rw [e]
  omega

/-- Every step of an arrangement is exact, and nothing is too great. -/
def StepsOk (zs : List Int) (n : Nat) : Prop := ∀ k, k < n → ∀ i : Nat, (i : Int) < zs.getD k 0 →
  wrd zs k * chF (totN zs k) i * (totN zs k + i + 1) / (i + 1) = wrd zs k * chF (totN zs k) (i + 1) ∧ wrd zs k * chF (totN zs k) i * (totN zs k + i + 1) < 2 ^ 62 ∧ wrd zs k * chF (totN zs k) (i + 1) < 2 ^ 62
set_option maxHeartbeats 2000000 in
theorem arr_impl (a : Option Addr) (n cap : Nat) (zs : List Int) (w : World) (h : IRow w a n zs) (hn : n ≤ 64) (hp : ∀ k, k < n → 0 ≤ zs.getD k 0) (ht : totN zs n ≤ 1000) (H : StepsOk zs n) :
    Calls Tryd.prog 65 #[.slice a n cap] w fun e w' => e = .returned (.int .i64 (wrd zs n)) ∧ w = w' := by
  have HA := Lib.hid h
  have HP := Lib.hid hp
  have HT := Lib.hid ht
  have HS := Lib.hid H
  clear h hp H ht
  go_enter Tryd.func65, Tryd.ntmps65
  go_wp2
  go_loop [3, 4, 10] (fun av tv iv => ∃ k : Nat, k ≤ n ∧ av = .int .i64 (wrd zs k : Nat) ∧ tv = .int .i64 (totN zs k : Nat) ∧ iv = .int .i64 k) (fun _ _ iv => n - (intOf iv).toNat)
  case atStart => exact ⟨0, by omega, rfl, rfl, rfl⟩
  case round =>
    obtain ⟨k, hk, rfl, rfl, rfl⟩ := hrel
    by_cases hlt : k < n
    · obtain ⟨b1, o1, rfl, hck1⟩ := HA.out.cell hlt
      have hc0 := HP.out k hlt
      have hTk : totN zs (k + 1) ≤ 1000 := Nat.le_trans (totN_le zs (by omega)) HT.out
      have HT1 : Hid (totN zs (k + 1) = totN zs k + (zs.getD k 0).toNat) := Lib.hid rfl
      have HW1 : Hid (wrd zs (k + 1) = wrd zs k * chF (totN zs k) (zs.getD k 0).toNat) := Lib.hid rfl
      have HK := Lib.hid (HS.out k hlt)
      have hTc : totN zs k + (zs.getD k 0).toNat ≤ 1000 := by rw [← HT1.out]; exact hTk
      have HW0 : Hid (wrd zs k = wrd zs k * chF (totN zs k) 0) := Lib.hid (Nat.mul_one _).symm
      clear hTk HS
      generalize zs.getD k 0 = c at hck1 hc0 HT1 HW1 HK hTc
      generalize wrd zs k = P at HW1 HK HW0
      generalize totN zs k = T at HT1 HW1 HK hTc HW0
      go_wp2
      go_loop [3, 4, 15] (fun av tv iv => ∃ i : Nat, (i : Int) ≤ c ∧ av = .int .i64 (P * chF T i : Nat) ∧ tv = .int .i64 (T + i : Nat) ∧ iv = .int .i64 i) (fun _ _ iv => c.toNat - (intOf iv).toNat)
      case atStart => exact ⟨0, hc0, val_i64 (congrArg _ HW0.out), rfl, rfl⟩
      case round =>
        obtain ⟨i, hi, rfl, rfl, rfl⟩ := hrel
        by_cases hlt2 : (i : Int) < c
        · obtain ⟨h1, h2, h3⟩ := HK.out i hlt2
          have H1 := Lib.hid (step_int h1)
          obtain ⟨b0, b2⟩ := step_lt h2
          clear h1 h2 h3
          have hTi : ((T + i : Nat) : Int) + 1 ≤ 1001 := by omega
          have hTi0 : 0 ≤ ((T + i : Nat) : Int) := by omega
          have HTi : Hid (((T + i : Nat) : Int) + 1 = ((T + (i + 1) : Nat) : Int)) := Lib.hid (by omega)
          generalize ((T + i : Nat) : Int) = Y at H1 b0 b2 hTi hTi0 HTi
          generalize ((P * chF T i : Nat) : Int) = X at H1 b0 b2
          go_wp2
          go_round
          case rel => exact ⟨i + 1, by omega, val_i64 H1.out, val_i64 HTi.out, by go_num⟩
          case measure => simp [intOf]; omega
        · have e : (i : Int) = c := by omega
          have HE : Hid (i = c.toNat) := Lib.hid (by omega)
          go_wp2
          go_round
          case rel => exact ⟨k + 1, by omega, val_i64 (congrArg _ (by rw [HE.out]; exact HW1.out.symm)), val_i64 (congrArg _ (by rw [HE.out]; exact HT1.out.symm)), by go_num⟩
          case measure => simp [intOf]; omega
    · obtain rfl : k = n := by omega
      go_wp2
      go_ret
      exact ⟨rfl, rfl⟩
end Go.Proofs.YtjlifbnenngijaaDoor
