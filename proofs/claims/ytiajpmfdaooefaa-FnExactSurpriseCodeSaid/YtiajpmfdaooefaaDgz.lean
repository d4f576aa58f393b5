/- Binary digits of any number as texts: the functions. -/
import Derived.Test.YtiajpmfdaooefaaByt
import Derived.Test.YtiajpmfdaooefaaCdv
namespace Go.Proofs.Ytiajpmfdaooefaa
open Go.Proofs.Ytiajpmfdaooefaa.Flo Go.RowKit

/-- The last binary digit of a number. -/
def bitI (X : Int) : Nat := (BitVec.ofInt 64 X).toNat % 2
theorem and_bit (X : Int) : bits .and .i64 X 1 = (bitI X : Int) := by
  have e : bits .and .i64 X 1 = IntKind.i64.wrap (((BitVec.ofInt 64 X) &&& (BitVec.ofInt 64 1)).toNat : Int) := rfl
  rw [e, BitVec.toNat_and]
  have e2 : (BitVec.ofInt 64 1).toNat = 1 := by decide
  rw [e2, Nat.and_one_is_mod]
  exact IntWalk.i64_in _ (by have := Nat.mod_lt (BitVec.ofInt 64 X).toNat (show 0 < 2 by omega); omega)
theorem bitI_cases (X : Int) : bitI X = 0 ∨ bitI X = 1 := by unfold bitI; omega
def dgC (X : Int) (j : Nat) : UInt8 := if bitI (X / 2 ^ j) = 1 then 49 else 48
theorem dgC_val (X : Int) (j : Nat) : ((dgC X j).toNat : Int) = 48 + (bitI (X / 2 ^ j) : Int) := by
  unfold dgC
  rcases bitI_cases (X / 2 ^ j) with h | h <;> rw [h] <;> rfl
/-- The last binary digits of a number. -/
def dgL (X : Int) : Nat → List UInt8
  | 0 => []
  | k + 1 => dgC X k :: dgL X k
theorem dgL_len (X : Int) : ∀ k, (dgL X k).length = k
  | 0 => rfl
  | k + 1 => by simp [dgL, dgL_len X k]
theorem dgL_bits (X : Int) : ∀ k c, c ∈ dgL X k → c = 48 ∨ c = 49
  | 0, c, h => by simp [dgL] at h
  | k + 1, c, h => by
    unfold dgL at h
    rcases List.mem_cons.1 h with h | h
    · subst h
      unfold dgC
      split
      · exact .inr rfl
      · exact .inl rfl
    · exact dgL_bits X k c h
theorem dg_on {X : Int} {k : Nat} {o L : List UInt8} {c : UInt8} (h : o ++ dgL X (k + 1) = L) (hc : dgC X k = c) : (o ++ [c]) ++ dgL X k = L := by
  rw [← h, ← hc]
  simp [dgL]
def dgU (X : Int) (M : Nat) : Nat → List UInt8
  | 0 => []
  | i + 1 => dgU X M i ++ [dgC X (M - (i + 1))]
theorem dgU_len (X : Int) (M : Nat) : ∀ i, (dgU X M i).length = i
  | 0 => rfl
  | i + 1 => by simp [dgU, dgU_len X M i]
theorem dgU_eq (X : Int) (M : Nat) : ∀ i, i ≤ M → dgU X M i ++ dgL X (M - i) = dgL X M
  | 0, _ => by simp [dgU]
  | i + 1, h => by
    have e : M - i = (M - (i + 1)) + 1 := by omega
    rw [← dgU_eq X M i (by omega), e]
    simp [dgU, dgL]
theorem dgU_all (X : Int) (M : Nat) : dgU X M M = dgL X M := by
  have := dgU_eq X M M (Nat.le_refl _)
  simpa [dgL] using this
set_option maxRecDepth 100000 in
set_option maxHeartbeats 2000000 in
theorem dg_spec (X : Int) (M : Nat) (w : World) (hM : M ≤ 60) :
    Calls Try.prog 102 #[.int .i64 X, .int .i64 (M : Int)] w fun e w' => e = .returned (.string (txB (dgL X M))) ∧ w = w' := by
  have hw0 : IntKind.i64.wrap ((M : Int) - 1) = (M : Int) - 1 := IntWalk.i64_in _ (by omega)
  go_enter Try.func102, Try.ntmps102
  go_wp2
  go_loop [5, 6] (fun ov iv => ∃ (j : Nat) (o : List UInt8), j ≤ M ∧ o.length + j = M ∧ ov = .string (txB o) ∧ Hid (o ++ dgL X j = dgL X M) ∧ iv = .int .i64 ((j : Int) - 1)) (fun _ iv => (intOf iv + 1).toNat)
  case atStart => exact ⟨M, [], by omega, by simp, rfl, Lib.hid rfl, rfl⟩
  case round =>
    obtain ⟨j, o, hj, hl, rfl, HO, rfl⟩ := hrel
    by_cases h0 : j = 0
    · subst h0
      have HE : Hid (txB (dgL X M) = txB o) := Lib.hid (by rw [← HO.out]; simp [dgL])
      go_wp2
      go_ret
      exact ⟨ret_str1 HE.out.symm, rfl⟩
    · obtain ⟨i, rfl⟩ : ∃ i, j = i + 1 := ⟨j - 1, by omega⟩
      have e1 : ((i + 1 : Nat) : Int) - 1 = (i : Int) := by omega
      rw [e1]
      have hr0 : ∀ w : World, (Op.stringOp .add (txB o) ⟨#[48]⟩).run Try.prog w = .ok (.string (txB (o ++ [48]))) w := fun w => run_tx Try.prog _ [48] (by simp; omega) w
      have hr1 : ∀ w : World, (Op.stringOp .add (txB o) ⟨#[49]⟩).run Try.prog w = .ok (.string (txB (o ++ [49]))) w := fun w => run_tx Try.prog _ [49] (by simp; omega) w
      by_cases hp : bitI (X / 2 ^ i) = 1
      · have hb : (bits .and .i64 (X / 2 ^ i) 1 == 1) = true := by rw [and_bit, hp]; rfl
        have HN := Lib.hid (dg_on (c := 49) HO.out (if_pos hp))
        clear e1 h0 hp
        go_wp2
        go_round
        case rel => exact ⟨i, o ++ [49], by omega, by simp; omega, rfl, HN, rfl⟩
        case measure => simp [intOf]
      · have hb : (bits .and .i64 (X / 2 ^ i) 1 == 1) = false := by rw [and_bit, (bitI_cases _).resolve_right hp]; rfl
        have HN := Lib.hid (dg_on (c := 48) HO.out (if_neg hp))
        clear e1 h0 hp
        go_wp2
        go_round
        case rel => exact ⟨i, o ++ [48], by omega, by simp; omega, rfl, HN, rfl⟩
        case measure => simp [intOf]
set_option maxRecDepth 100000 in
set_option maxHeartbeats 2000000 in
theorem dg_impl (X : Int) (M : Nat) (w : World) (hM : M ≤ 60) :
    Calls Try.prog 106 #[.int .i64 X, .int .i64 (M : Int)] w fun e w' => e = .returned (.string (txB (dgL X M))) ∧ Below w.heap.size w w' := by
  have hmk := fun w2 : World => run_make_row' (P := Try.prog) 106 5 (.int .u8 0) 1 Try.underlying106 Try.info8 rfl .i64 .i64 M (by omega) (by omega) w2
  have hw0 : IntKind.i64.wrap ((M : Int) - 1) = (M : Int) - 1 := IntWalk.i64_in _ (by omega)
  go_enter Try.func106, Try.ntmps106
  go_wp2
  clear hmk
  go_loopw [11] (fun iv w' => ∃ k : Nat, k ≤ M ∧ iv = .int .i64 k ∧ w' = w.alloc (.cells (byC (dgU X M k) M) 5)) (fun iv _ => M - (intOf iv).toNat)
  case atStart => exact ⟨0, by omega, rfl, by rw [← byC_zero]; rfl⟩
  case round =>
    obtain ⟨k, hk, rfl, rfl⟩ := hrel
    by_cases hlt : k < M
    · have hsize : (byC (dgU X M k) M).size = M := byC_size (by rw [dgU_len]; omega)
      obtain ⟨j, hj⟩ : ∃ j, j = M - (k + 1) := ⟨_, rfl⟩
      have hw1 : IntKind.i64.wrap ((M : Int) - 1 - (k : Int)) = (j : Int) := by rw [IntWalk.i64_in _ (by omega)]; omega
      have hs1 := and_bit (X / 2 ^ j)
      have hbc := bitI_cases (X / 2 ^ j)
      have HV := Lib.hid (dgC_val X j)
      have hb2 : bitI (X / 2 ^ j) ≤ 1 := by omega
      clear hbc
      have HU : Hid (dgU X M (k + 1) = dgU X M k ++ [dgC X j]) := Lib.hid (by rw [hj]; rfl)
      have hj64 : j ≤ 60 := by omega
      clear hj
      generalize bitI (X / 2 ^ j) = bt at hs1 HV hb2
      go_wp2
      exact ⟨⟨k + 1, by omega, by first | rfl | go_num | (congr 1), by rw [HU.out, ← byC_put (dgC X j) (dgU_len X M k) hlt, HV.out]⟩, by show M - ((k : Int) + 1).toNat < M - (k : Int).toNat; omega⟩
    · obtain rfl : k = M := by omega
      have htx := text_made (P := Try.prog) w 106 9 5 5 k k (dgU X k k) Try.underlying106 Try.underlying5 Try.underlying9 (dgU_len X k k)
      rw [dgU_all] at htx ⊢
      go_wp2
      go_ret
      exact ⟨rfl, below_alloc _ _⟩
end Go.Proofs.Ytiajpmfdaooefaa
