
/- Texts that are made of one letter, and of digits: the functions. -/
import Derived.Test.YtnljabgkaelplaaDoorMga
import Derived.Test.YtnljabgkaelplaaDoorMgb
import Derived.Laws.Concat
import Derived.Lib.Repeat
namespace Go.Proofs.YtnljabgkaelplaaDoor
open Go.Proofs.YtnljabgkaelplaaDoor.Flo Go.RowKit

/-- A text of these bytes. -/
def txB (l : List UInt8) : ByteArray := ⟨l.toArray⟩
theorem txB_size (l : List UInt8) : (txB l).size = l.length := by show l.toArray.size = _; simp
theorem txB_app (a b : List UInt8) : txB a ++ txB b = txB (a ++ b) := ByteArray.mk_append_mk a b
theorem run_tx (P : Program) (a b : List UInt8) (h : a.length + b.length ≤ 1073741824) (w : World) : (Op.stringOp .add (txB a) (txB b)).run P w = .ok (.string (txB (a ++ b))) w := by
  rw [run_string_add_sum w _ _ (by rw [txB_size, txB_size]; omega), txB_app]
/-- A letter so many times. -/
def repL (c : UInt8) (n : Nat) : List UInt8 := List.replicate n c
theorem repL_len (c : UInt8) (n : Nat) : (repL c n).length = n := by simp [repL]
theorem repL_on (c : UInt8) (n : Nat) : repL c n ++ [c] = repL c (n + 1) := by unfold repL; rw [List.replicate_succ']
theorem repeatL_rep (c : UInt8) : ∀ n, Lib.repeatL [c] n = repL c n
  | 0 => rfl
  | n + 1 => by
    show [c] ++ Lib.repeatL [c] n = List.replicate (n + 1) c
    rw [repeatL_rep c n]; rfl
theorem ret_str {a b : ByteArray} {x y : Bool} (h : a = b) (k : x = y) : Ending.returned (.tuple #[.string a, .bool x]) = .returned (.tuple #[.string b, .bool y]) := by rw [h, k]
theorem ret_str1 {a b : ByteArray} (h : a = b) : Ending.returned (.string a) = .returned (.string b) := by rw [h]
set_option maxHeartbeats 2000000 in
theorem same_spec (c : UInt8) (M : Nat) (w : World) (hM : M ≤ 1048575) :
    Calls Tryd.prog 100 #[.string ⟨#[c]⟩, .int .i64 (M : Int)] w fun e w' => e = .returned (.string (txB (repL c M))) ∧ w = w' := by
  go_enter Tryd.func100, Tryd.ntmps100
  go_wp2
  go_loop [5, 1] (fun ov iv => ∃ k j : Nat, k + j = M ∧ ov = .string (txB (repL c k)) ∧ iv = .int .i64 (j : Int)) (fun _ iv => (intOf iv).toNat)
  case atStart => exact ⟨0, M, by omega, rfl, rfl⟩
  case round =>
    obtain ⟨k, j, hkj, rfl, rfl⟩ := hrel
    have hadd : ∀ w : World, k < 1048575 → (Op.stringOp .add (txB (repL c k)) ⟨#[c]⟩).run Tryd.prog w = .ok (.string (txB (repL c (k + 1)))) w := fun w hk => by
      rw [← repL_on]
      exact run_tx Tryd.prog _ [c] (by rw [repL_len]; simp; omega) w
    by_cases hj : j = 0
    · subst hj
      obtain rfl : k = M := by omega
      clear hadd
      go_wp2
      go_ret
      exact ⟨rfl, rfl⟩
    · obtain ⟨i, rfl⟩ : ∃ i, j = i + 1 := ⟨j - 1, by omega⟩
      have hadd2 := fun w => hadd w (by omega)
      have hw : IntKind.i64.wrap (((i + 1 : Nat) : Int) - 1) = (i : Int) := by
        rw [IntWalk.i64_in _ (by omega)]; omega
      clear hadd hj
      go_wp2
      go_round
      case rel => exact ⟨k + 1, i, by omega, rfl, by first | rfl | go_num⟩
      case measure => simp [intOf]
/-- A number in unary. -/
def unaL (N : Nat) : List UInt8 := repL 49 N ++ [48]
theorem unaL_len (N : Nat) : (unaL N).length = N + 1 := by simp [unaL, repL_len]
end Go.Proofs.YtnljabgkaelplaaDoor
