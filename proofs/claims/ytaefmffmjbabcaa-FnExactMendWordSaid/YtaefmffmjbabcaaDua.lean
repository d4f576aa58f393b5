
/- DualOf: greatest digits. -/
import Derived.Test.YtaefmffmjbabcaaEch
import Derived.Test.YtaefmffmjbabcaaShf
namespace Go.Proofs.Ytaefmffmjbabcaa
open Go.Proofs.Ytaefmffmjbabcaa.Flo Go.RowKit Go.Proofs.Ytaefmffmjbabcaa.Pr

theorem bitLenAux_log : ∀ f x, x ≠ 0 → x < 2 ^ f → Lib.bitLenAux f x = x.log2 + 1
  | 0, x, h, hx => by have : x < 1 := hx; omega
  | f + 1, x, h, hx => by
    show (if x = 0 then 0 else 1 + Lib.bitLenAux f (x / 2)) = _
    rw [if_neg h]
    by_cases h2 : x / 2 = 0
    · have : x = 1 := by omega
      subst this
      have e : ∀ g, Lib.bitLenAux g 0 = 0 := fun g => by cases g <;> rfl
      rw [show 1 / 2 = 0 from rfl, e]; decide
    · rw [bitLenAux_log f (x / 2) h2 (by rw [Nat.pow_succ] at hx; omega)]
      rw [Nat.log2_def x, if_pos (by omega)]
      omega
theorem bitLen_log {x : Nat} (h : x ≠ 0) (hx : x < 65536) : Lib.bitLen x = x.log2 + 1 :=
  bitLenAux_log 64 x h (Nat.lt_of_lt_of_le hx (by decide))
theorem log_lt {x : Nat} (h : x ≠ 0) (hx : x < 65536) : x.log2 < 16 := (Nat.log2_lt h).2 hx
theorem pow16 {j : Nat} (h : j < 16) : 2 ^ j < 65536 := by
  have : 2 ^ j ≤ 2 ^ 15 := Nat.pow_le_pow_right (by decide) (by omega)
  omega
set_option maxHeartbeats 1000000 in
theorem hi_impl (x : Nat) (w : World) (h0 : x ≠ 0) (hx : x < 65536) : Calls Try.prog 112 #[.int .i64 (x : Int)] w fun e w' => e = .returned (.int .i64 ((2 ^ x.log2 : Nat) : Int)) ∧ w = w' := by
  have hw1 : IntKind.u64.wrap (x : Int) = (x : Int) := by rw [IntKind.wrap_u64]; omega
  have HL : Hid (∀ w2 : World, Calls Try.prog 153 #[.int .u64 (x : Int)] w2 fun e w' => e = .returned (.int .i64 ((x.log2 + 1 : Nat) : Int)) ∧ w2 = w') := Lib.hid (fun w2 => (Try.bits_Len64 (x : Int) w2 (by omega) (by omega)).mono fun e w' ⟨h1, h2⟩ => ⟨by rw [h1, Int.toNat_natCast, bitLen_log h0 hx], h2.symm⟩)
  have hl := log_lt h0 hx
  have hp := pow16 hl
  have hcast : ((2 ^ x.log2 : Nat) : Int) = (2 : Int) ^ x.log2 := by rw [Int.natCast_pow]; rfl
  generalize x.log2 = L at HL hl hp hcast ⊢
  have hmin : min L 64 = L := by omega
  have hwl : IntKind.i64.wrap (((L + 1 : Nat) : Int) - 1) = (L : Int) := by rw [IntWalk.i64_in _ (by omega)]; omega
  generalize 2 ^ L = P at hp hcast ⊢
  have hwp : IntKind.i64.wrap ((2 : Int) ^ L) = (P : Int) := by rw [← hcast]; exact IntWalk.i64_in _ (by omega)
  clear hcast
  have hwl2 : IntKind.i64.wrap ((L : Int) + 1 - 1) = (L : Int) := by rw [IntWalk.i64_in _ (by omega)]; omega
  go_enter Try.func112, Try.ntmps112
  go_wp2_with (first | (go_at_call 153; (with_reducible refine (HL.out _).mono ?_); rintro e w' ⟨rfl, hw⟩; subst hw) | fail)
  go_ret
  exact ⟨rfl, rfl⟩
set_option maxRecDepth 100000 in
set_option maxHeartbeats 1000000 in
theorem top_spec (x : Nat) (w : World) (h0 : x ≠ 0) (hx : x < 65536) : Calls Try.prog 147 #[.int .i64 (x : Int)] w fun e w' => e = .returned (.int .i64 (x.log2 : Int)) ∧ w = w' := by
  have hl := log_lt h0 hx
  have HLE : Hid (∀ k, k ≤ x.log2 ↔ 2 ^ k ≤ x) := Lib.hid (fun k => Nat.le_log2 h0)
  generalize x.log2 = L at hl HLE ⊢
  go_enter Try.func147, Try.ntmps147
  go_wp2
  go_loop [3] (fun kv => ∃ k : Nat, k ≤ L ∧ kv = .int .i64 (k : Int)) (fun kv => L - (intOf kv).toNat)
  case atStart => exact ⟨0, by omega, rfl⟩
  case round =>
    obtain ⟨k, hk, rfl⟩ := hrel
    have hwk : IntKind.i64.wrap ((k : Int) + 1) = (k : Int) + 1 := IntWalk.i64_in _ (by omega)
    have hwu : IntKind.u64.wrap ((k : Int) + 1) = (k : Int) + 1 := by rw [IntKind.wrap_u64]; omega
    have hmin : min (k + 1) 64 = k + 1 := by omega
    have hq : (x : Int) / 2 ^ (k + 1) = ((x / 2 ^ (k + 1) : Nat) : Int) := by rw [Int.natCast_ediv]; congr 1
    have hpos : 0 < 2 ^ (k + 1) := Nat.two_pow_pos _
    by_cases hlt : k < L
    · have h1 : 2 ^ (k + 1) ≤ x := (HLE.out (k + 1)).1 (by omega)
      have h2 : 0 < x / 2 ^ (k + 1) := Nat.div_pos h1 hpos
      have d1 : decide ((0 : Int) < (x : Int) / 2 ^ (k + 1)) = true := decide_eq_true (by rw [hq]; omega)
      clear hq h1 h2 hpos
      go_wp2
      go_round
      case rel => exact ⟨k + 1, by omega, by go_num⟩
      case measure => simp [intOf]; omega
    · have hkl : k = L := by omega
      have h1 : ¬ 2 ^ (k + 1) ≤ x := fun e => by have := (HLE.out (k + 1)).2 e; omega
      have h2 : x / 2 ^ (k + 1) = 0 := Nat.div_eq_of_lt (by omega)
      have d1 : decide ((0 : Int) < (x : Int) / 2 ^ (k + 1)) = false := decide_eq_false (by rw [hq, h2]; decide)
      subst hkl
      clear hq h1 h2 hpos
      go_wp2
      go_ret
      exact ⟨rfl, rfl⟩
/-- The greatest digits of rows, together. -/
def tpF (f : Nat → Nat) : Nat → Nat
  | 0 => 0
  | j + 1 => tpF f j ||| 2 ^ (f j).log2
/-- The word of the dual code with a digit. -/
def dwF (f : Nat → Nat) (k : Nat) : Nat → Nat
  | 0 => 2 ^ k
  | j + 1 => if (f j).testBit k then dwF f k j ||| 2 ^ (f j).log2 else dwF f k j
def dlF (f : Nat → Nat) (t n : Nat) : Nat → List Int
  | 0 => []
  | k + 1 => if t.testBit k then dlF f t n k else dlF f t n k ++ [((dwF f k n : Nat) : Int)]
theorem tpF_lt {f : Nat → Nat} : ∀ {n : Nat}, (∀ j, j < n → f j ≠ 0 ∧ f j < 65536) → tpF f n < 2 ^ 16
  | 0, _ => by show 0 < 65536; decide
  | n + 1, h => Nat.or_lt_two_pow (tpF_lt (n := n) (fun j hj => h j (by omega))) (pow16 (log_lt (h n (by omega)).1 (h n (by omega)).2))
theorem dwF_lt {f : Nat → Nat} {k : Nat} (hk : k < 16) : ∀ {n : Nat}, (∀ j, j < n → f j ≠ 0 ∧ f j < 65536) → dwF f k n < 2 ^ 16
  | 0, _ => pow16 hk
  | n + 1, h => by
    have ih := dwF_lt hk (n := n) (fun j hj => h j (by omega))
    show (if _ then _ else _) < _
    split
    · exact Nat.or_lt_two_pow ih (pow16 (log_lt (h n (by omega)).1 (h n (by omega)).2))
    · exact ih
theorem dlF_len (f : Nat → Nat) (t n : Nat) : ∀ k, (dlF f t n k).length ≤ k
  | 0 => Nat.le_refl _
  | k + 1 => by
    have := dlF_len f t n k
    show (if _ then _ else _ : List Int).length ≤ _
    split
    · omega
    · rw [List.length_append]; simp; omega
/-- The rows in steps of a valid code are not 0. -/
theorem ech_pos {m : Nat} {zs : List Int} {n : Nat} (h : paB (m : Int) zs n = true) : ∀ j, j < n → (ech (zN zs) m n m).f j ≠ 0 ∧ (ech (zN zs) m n m).f j < 65536 := by
  obtain ⟨h1, h2, h3, h4⟩ := pa_out h
  rw [Int.toNat_natCast] at h3
  have hr := pa_rank (r := (m : Int)) (zs := zs) h1 h2 (by rw [Int.toNat_natCast]; exact h3)
  rw [Int.toNat_natCast, h] at hr
  have hk : (ech (zN zs) m n m).k = n := of_decide_eq_true hr.symm
  obtain ⟨piv, H⟩ := ech_ok (z := zN zs) (wide := m) (n := n) (fun j hj => (zN_at h3 hj).2) m (Nat.le_refl _)
  intro j hj
  refine ⟨fun h0 => ?_, (ech_at (fun j hj => (zN_at h3 hj).2) (by omega) (Nat.le_refl _)).2 j hj⟩
  have := (H.on j (by omega)).1
  rw [h0, Nat.zero_testBit] at this
  exact absurd this (by decide)
end Go.Proofs.Ytaefmffmjbabcaa
