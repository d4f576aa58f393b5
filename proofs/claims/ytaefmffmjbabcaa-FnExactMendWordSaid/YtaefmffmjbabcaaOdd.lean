
/- The words that a word has an odd number of digits in common with. -/
import Derived.Test.YtaefmffmjbabcaaWgt
namespace Go.Proofs.Ytaefmffmjbabcaa
open Go.Proofs.Ytaefmffmjbabcaa.Flo Go.RowKit Go.Proofs.Ytaefmffmjbabcaa.Pr

def od (z : Nat → Nat) (x : Nat) : Nat → Nat
  | 0 => 0
  | j + 1 => od z x j ||| (wt (z j &&& x) % 2) * 2 ^ j
theorem od_lt (z : Nat → Nat) (x : Nat) : ∀ j, od z x j < 2 ^ j
  | 0 => Nat.one_pos
  | j + 1 => by
    have h1 := od_lt z x j
    have h2 : (wt (z j &&& x) % 2) * 2 ^ j < 2 ^ (j + 1) := by
      have : wt (z j &&& x) % 2 ≤ 1 := by omega
      have := Nat.mul_le_mul_right (2 ^ j) this
      have := Nat.two_pow_pos j
      rw [Nat.pow_succ]; omega
    exact Nat.or_lt_two_pow (Nat.lt_of_lt_of_le h1 (Nat.pow_le_pow_right (by decide) (by omega))) h2
theorem od_yes {z : Nat → Nat} {x j : Nat} (h : wt (z j &&& x) % 2 = 1) : od z x (j + 1) = od z x j ||| 2 ^ j := by
  show od z x j ||| _ = _
  rw [h, Nat.one_mul]
theorem od_no {z : Nat → Nat} {x j : Nat} (h : ¬ wt (z j &&& x) % 2 = 1) : od z x (j + 1) = od z x j := by
  show od z x j ||| _ = _
  rw [show wt (z j &&& x) % 2 = 0 by omega, Nat.zero_mul, Nat.or_zero]
theorem od_congr {z z' : Nat → Nat} {x : Nat} : ∀ {n : Nat}, (∀ j, j < n → z j = z' j) → od z x n = od z' x n
  | 0, _ => rfl
  | n + 1, h => by
    show od z x n ||| _ = od z' x n ||| _
    rw [od_congr (n := n) (fun j hj => h j (by omega)), h n (by omega)]
theorem two_cast (j : Nat) : ((2 ^ j : Nat) : Int) = (2 : Int) ^ j := by rw [Int.natCast_pow]; rfl
set_option maxRecDepth 100000 in
set_option maxHeartbeats 2000000 in
theorem od_impl2 (a : Option Addr) (n cap : Nat) (zs : List Int) (x : Nat) (w : World) (h : IRow w a n zs) (hn : n ≤ 16) (hz : woP zs n 16) (hx : x < 65536) :
    Calls Try.prog 60 #[.slice a n cap, .int .i64 (x : Int)] w fun e w' => e = .returned (.int .i64 (od (zN zs) x n : Int)) ∧ w = w' := by
  have HA := Lib.hid h
  have HZ := Lib.hid hz
  clear h hz
  go_enter Try.func60, Try.ntmps60
  go_wp2
  go_loop [5, 10] (fun sv jv => ∃ j : Nat, j ≤ n ∧ sv = .int .i64 (od (zN zs) x j : Int) ∧ jv = .int .i64 j) (fun _ jv => n - (intOf jv).toNat)
  case atStart => exact ⟨0, by omega, rfl, rfl⟩
  case round =>
    obtain ⟨j, hj, rfl, rfl⟩ := hrel
    by_cases hlt : j < n
    · obtain ⟨b1, o1, rfl, hblt, hck⟩ := HA.out.cell' hlt
      obtain ⟨hzk, hzl⟩ := zN_at HZ.out hlt
      rw [hzk] at hck
      have hod := od_lt (zN zs) x j
      have hp : 2 ^ j ≤ 2 ^ 15 := Nat.pow_le_pow_right (by decide) (by omega)
      have HY := fun h => od_yes (z := zN zs) (x := x) (j := j) h
      have HN := fun h => od_no (z := zN zs) (x := x) (j := j) h
      have hand := b_and (zN zs j) x (by omega) (by omega)
      have hal : zN zs j &&& x < 65536 := Nat.lt_of_le_of_lt Nat.and_le_right hx
      have hor := b_or (od (zN zs) x j) (2 ^ j) (by omega) (by omega)
      have hcast := two_cast j
      have hmin : min j 64 = j := by omega
      clear hzk
      generalize hS1 : od (zN zs) x (j + 1) = S' at HY HN
      generalize od (zN zs) x j = S at HY HN hor hod ⊢
      have HS1 := Lib.hid hS1
      clear hS1
      generalize hP : 2 ^ j = P at HY hor hcast hod hp
      have hwp : IntKind.i64.wrap ((2 : Int) ^ j) = (P : Int) := by rw [← hcast]; exact IntWalk.i64_in _ (by omega)
      generalize hQ : S ||| P = Q at HY hor
      generalize zN zs j = y at hck hand hal HY HN hzl
      generalize y &&& x = v at hand hal HY HN
      have HV := Lib.hid hal
      clear hP hQ hcast
      by_cases ho : wt v % 2 = 1
      · have HO : Hid (odB v = true) := Lib.hid (decide_eq_true ho)
        have HS := Lib.hid (HY ho)
        clear HY HN ho
        go_wp2_with (first | (go_at_call 118; refine (od_impl v _ HV.out).mono ?_; rw [HO.out]; rintro e w' ⟨rfl, hw⟩; subst hw) | fail)
        go_round
        case rel => exact ⟨j + 1, by omega, val_i (by rw [HS1.out, HS.out]), by go_num⟩
        case measure => simp [intOf]; omega
      · have HO : Hid (odB v = false) := Lib.hid (decide_eq_false ho)
        have HS := Lib.hid (HN ho)
        clear HY HN ho
        go_wp2_with (first | (go_at_call 118; refine (od_impl v _ HV.out).mono ?_; rw [HO.out]; rintro e w' ⟨rfl, hw⟩; subst hw) | fail)
        go_round
        case rel => exact ⟨j + 1, by omega, val_i (by rw [HS1.out, HS.out]), by go_num⟩
        case measure => simp [intOf]; omega
    · obtain rfl : j = n := by omega
      go_wp2
      go_ret
      exact ⟨rfl, rfl⟩
end Go.Proofs.Ytaefmffmjbabcaa
