
/- Texts that are made of one letter, and of digits: the functions. -/
import Derived.Test.YtkmggoagboikgaaDoorMga
import Derived.Test.YtkmggoagboikgaaDoorMgb
import Derived.Laws.Concat
import Derived.Lib.Repeat
namespace Go.Proofs.YtkmggoagboikgaaDoor
open Go.Proofs.YtkmggoagboikgaaDoor.Flo Go.RowKit

/-- A text of these bytes. -/
def txB (l : List UInt8) : ByteArray := ⟨l.toArray⟩
theorem txB_size (l : List UInt8) : (txB l).size = l.length := by show l.toArray.size = _; simp
theorem txB_app (a b : List UInt8) : txB a ++ txB b = txB (a ++ b) := ByteArray.mk_append_mk a b
theorem run_tx (P : Program) (a b : List UInt8) (h : a.length + b.length ≤ 1073741824) (w : World) : (Op.stringOp .add (txB a) (txB b)).run P w = .ok (.string (txB (a ++ b))) w := by
  rw [run_string_add_sum w _ _ (by rw [txB_size, txB_size]; omega), txB_app]
/-- A letter so many times. -/
def repL (c : UInt8) (n : Nat) : List UInt8 := List.replicate n c
theorem repL_len (c : UInt8) (n : Nat) : (repL c n).length = n := by simp [repL]
theorem repL_on (c : UInt8) (n : Nat) : repL c n ++ [c] = repL c (n + 1) := by unfold repL; rw [List.replicate_succ']
theorem repeatL_rep (c : UInt8) : ∀ n, Lib.repeatL [c] n = repL c n
  | 0 => rfl
  | n + 1 => by
    show [c] ++ Lib.repeatL [c] n = List.replicate (n + 1) c
    rw [repeatL_rep c n]; rfl
theorem ret_str {a b : ByteArray} {x y : Bool} (h : a = b) (k : x = y) : Ending.returned (.tuple #[.string a, .bool x]) = .returned (.tuple #[.string b, .bool y]) := by rw [h, k]
theorem ret_str1 {a b : ByteArray} (h : a = b) : Ending.returned (.string a) = .returned (.string b) := by rw [h]
/-- A number in unary. -/
def unaL (N : Nat) : List UInt8 := repL 49 N ++ [48]
theorem unaL_len (N : Nat) : (unaL N).length = N + 1 := by simp [unaL, repL_len]
end Go.Proofs.YtkmggoagboikgaaDoor
