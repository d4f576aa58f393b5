
/- Binary digits as texts: the functions. -/
import Derived.Test.YtnljabgkaelplaaDoorByt
import Derived.Test.YtnljabgkaelplaaDoorCdv
namespace Go.Proofs.YtnljabgkaelplaaDoor
open Go.Proofs.YtnljabgkaelplaaDoor.Flo Go.RowKit

/-- The last binary digits of a number. -/
def digL (X : Nat) : Nat → List UInt8
  | 0 => []
  | k + 1 => (if X / 2 ^ k % 2 = 1 then 49 else 48) :: digL X k
theorem digL_len (X : Nat) : ∀ k, (digL X k).length = k
  | 0 => rfl
  | k + 1 => by simp [digL, digL_len X k]
theorem and_one (n : Nat) (h : n < 2 ^ 63) : bits .and .i64 (n : Int) 1 = ((n % 2 : Nat) : Int) := by
  have e : bits .and .i64 (n : Int) 1 = IntKind.i64.wrap (((BitVec.ofInt 64 (n : Int)) &&& (BitVec.ofInt 64 1)).toNat : Int) := rfl
  rw [e, BitVec.toNat_and, BitVec.ofInt_natCast, BitVec.toNat_ofNat]
  have e2 : (BitVec.ofInt 64 1).toNat = 1 := by decide
  rw [e2, Nat.mod_eq_of_lt (by omega), Nat.and_one_is_mod]
  exact IntWalk.i64_in _ (by omega)
theorem shr_nat (X i : Nat) (h : i ≤ 64) : (X : Int) / 2 ^ min (i : Int).toNat 64 = ((X / 2 ^ i : Nat) : Int) := by
  rw [Int.toNat_natCast, Nat.min_eq_left h]
  norm_cast
theorem half_lt (X i : Nat) (h : X < 2 ^ 63) : X / 2 ^ i < 2 ^ 63 := Nat.lt_of_le_of_lt (Nat.div_le_self _ _) h
theorem dig_on {X k : Nat} {o L : List UInt8} {c : UInt8} (h : o ++ digL X (k + 1) = L) (hc : (if X / 2 ^ k % 2 = 1 then (49 : UInt8) else 48) = c) : (o ++ [c]) ++ digL X k = L := by
  rw [← h, ← hc]
  simp [digL]
set_option maxRecDepth 100000 in
set_option maxHeartbeats 2000000 in
theorem dig_spec (X M : Nat) (w : World) (hX : X < 2 ^ 63) (hM : M ≤ 60) :
    Calls Tryd.prog 103 #[.int .i64 (X : Int), .int .i64 (M : Int)] w fun e w' => e = .returned (.string (txB (digL X M))) ∧ w = w' := by
  have HX := Lib.hid hX
  clear hX
  have hw0 : IntKind.i64.wrap ((M : Int) - 1) = (M : Int) - 1 := IntWalk.i64_in _ (by omega)
  go_enter Tryd.func103, Tryd.ntmps103
  go_wp2
  go_loop [5, 6] (fun ov iv => ∃ (j : Nat) (o : List UInt8), j ≤ M ∧ o.length + j = M ∧ ov = .string (txB o) ∧ Hid (o ++ digL X j = digL X M) ∧ iv = .int .i64 ((j : Int) - 1)) (fun _ iv => (intOf iv + 1).toNat)
  case atStart => exact ⟨M, [], by omega, by simp, rfl, Lib.hid rfl, rfl⟩
  case round =>
    obtain ⟨j, o, hj, hl, rfl, HO, rfl⟩ := hrel
    by_cases h0 : j = 0
    · subst h0
      have HE : Hid (txB (digL X M) = txB o) := Lib.hid (by rw [← HO.out]; simp [digL])
      go_wp2
      go_ret
      exact ⟨ret_str1 HE.out.symm, rfl⟩
    · obtain ⟨i, rfl⟩ : ∃ i, j = i + 1 := ⟨j - 1, by omega⟩
      have e1 : ((i + 1 : Nat) : Int) - 1 = (i : Int) := by omega
      rw [e1]
      have hs1 : bits .and .i64 ((X : Int) / 2 ^ i) 1 = ((X / 2 ^ i % 2 : Nat) : Int) := by
        rw [← and_one (X / 2 ^ i) (half_lt X i HX.out)]; norm_cast
      have hr0 : ∀ w : World, (Op.stringOp .add (txB o) ⟨#[48]⟩).run Tryd.prog w = .ok (.string (txB (o ++ [48]))) w := fun w => run_tx Tryd.prog _ [48] (by simp; omega) w
      have hr1 : ∀ w : World, (Op.stringOp .add (txB o) ⟨#[49]⟩).run Tryd.prog w = .ok (.string (txB (o ++ [49]))) w := fun w => run_tx Tryd.prog _ [49] (by simp; omega) w
      by_cases hp : X / 2 ^ i % 2 = 1
      · have hb : (bits .and .i64 ((X : Int) / 2 ^ i) 1 == 1) = true := by rw [hs1, hp]; rfl
        have HN := Lib.hid (dig_on (c := 49) HO.out (by rw [if_pos hp]))
        clear e1 h0 hs1 hp
        go_wp2
        go_round
        case rel => exact ⟨i, o ++ [49], by omega, by simp; omega, rfl, HN, rfl⟩
        case measure => simp [intOf]
      · have hb : (bits .and .i64 ((X : Int) / 2 ^ i) 1 == 1) = false := by
          rw [hs1]
          have : X / 2 ^ i % 2 = 0 := by omega
          rw [this]; rfl
        have HN := Lib.hid (dig_on (c := 48) HO.out (by rw [if_neg hp]))
        clear e1 h0 hs1 hp
        go_wp2
        go_round
        case rel => exact ⟨i, o ++ [48], by omega, by simp; omega, rfl, HN, rfl⟩
        case measure => simp [intOf]
/-- A digit of a number, from the first one on. -/
def digC (X : Nat) (j : Nat) : UInt8 := if X / 2 ^ j % 2 = 1 then 49 else 48
def digU (X M : Nat) : Nat → List UInt8
  | 0 => []
  | i + 1 => digU X M i ++ [digC X (M - (i + 1))]
theorem digU_len (X M : Nat) : ∀ i, (digU X M i).length = i
  | 0 => rfl
  | i + 1 => by simp [digU, digU_len X M i]
theorem digU_eq (X M : Nat) : ∀ i, i ≤ M → digU X M i ++ digL X (M - i) = digL X M
  | 0, _ => by simp [digU]
  | i + 1, h => by
    have e : M - i = (M - (i + 1)) + 1 := by omega
    rw [← digU_eq X M i (by omega), e]
    simp [digU, digL, digC]
theorem digU_all (X M : Nat) : digU X M M = digL X M := by
  have := digU_eq X M M (Nat.le_refl _)
  simpa [digL] using this
theorem digC_val (X j : Nat) : ((digC X j).toNat : Int) = 48 + (X : Int) / 2 ^ j % 2 := by
  have e : (X : Int) / 2 ^ j % 2 = ((X / 2 ^ j % 2 : Nat) : Int) := by norm_cast
  rw [e]
  unfold digC
  by_cases h : X / 2 ^ j % 2 = 1
  · rw [if_pos h, h]; rfl
  · rw [if_neg h]
    have : X / 2 ^ j % 2 = 0 := by omega
    rw [this]; rfl
set_option maxRecDepth 100000 in
set_option maxHeartbeats 2000000 in
theorem dig_impl (X M : Nat) (w : World) (hX : X < 2 ^ 63) (hM : M ≤ 60) :
    Calls Tryd.prog 130 #[.int .i64 (X : Int), .int .i64 (M : Int)] w fun e w' => e = .returned (.string (txB (digL X M))) ∧ Below w.heap.size w w' := by
  have hmk := fun w2 : World => run_make_row' (P := Tryd.prog) 90 5 (.int .u8 0) 1 Tryd.underlying90 Tryd.info8 rfl .i64 .i64 M (by omega) (by omega) w2
  have HX := Lib.hid hX
  clear hX
  have hw0 : IntKind.i64.wrap ((M : Int) - 1) = (M : Int) - 1 := IntWalk.i64_in _ (by omega)
  go_enter Tryd.func130, Tryd.ntmps130
  go_wp2
  clear hmk
  go_loopw [11] (fun iv w' => ∃ k : Nat, k ≤ M ∧ iv = .int .i64 k ∧ w' = w.alloc (.cells (byC (digU X M k) M) 5)) (fun iv _ => M - (intOf iv).toNat)
  case atStart => exact ⟨0, by omega, rfl, by rw [← byC_zero]; rfl⟩
  case round =>
    obtain ⟨k, hk, rfl, rfl⟩ := hrel
    by_cases hlt : k < M
    · have hsize : (byC (digU X M k) M).size = M := byC_size (by rw [digU_len]; omega)
      obtain ⟨j, hj⟩ : ∃ j, j = M - (k + 1) := ⟨_, rfl⟩
      have hw1 : IntKind.i64.wrap ((M : Int) - 1 - (k : Int)) = (j : Int) := by rw [IntWalk.i64_in _ (by omega)]; omega
      have hs1 : bits .and .i64 ((X : Int) / 2 ^ j) 1 = (X : Int) / 2 ^ j % 2 := by
        have e : (X : Int) / 2 ^ j % 2 = ((X / 2 ^ j % 2 : Nat) : Int) := by norm_cast
        rw [e, ← and_one (X / 2 ^ j) (half_lt X j HX.out)]; norm_cast
      have HU : Hid (digU X M (k + 1) = digU X M k ++ [digC X j]) := Lib.hid (by rw [hj]; rfl)
      have hj64 : j ≤ 60 := by omega
      clear hj
      go_wp2
      exact ⟨⟨k + 1, by omega, by first | rfl | go_num | (congr 1), by rw [HU.out, ← byC_put (digC X j) (digU_len X M k) hlt, digC_val]⟩, by show M - ((k : Int) + 1).toNat < M - (k : Int).toNat; omega⟩
    · obtain rfl : k = M := by omega
      have htx := text_made (P := Tryd.prog) w 90 9 5 5 k k (digU X k k) Tryd.underlying90 Tryd.underlying5 Tryd.underlying9 (digU_len X k k)
      rw [digU_all] at htx ⊢
      go_wp2
      go_ret
      exact ⟨rfl, below_alloc _ _⟩
end Go.Proofs.YtnljabgkaelplaaDoor
