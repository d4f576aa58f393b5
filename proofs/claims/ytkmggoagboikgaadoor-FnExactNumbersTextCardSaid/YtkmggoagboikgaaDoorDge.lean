
/- Iterators: the places of a word's digits; the sum of rows that a message tells. -/
import Derived.RangeFuncNested
import Derived.RangeFuncBound
import Derived.RangeFuncCalls
import Derived.RangeFuncLeaves
import Derived.Shelf.Abstract
import Derived.Shelf.RegionOpen
import Derived.WalkKit
import Derived.OwnWalkIn
import Derived.TacticsInMore
import Derived.LoopNIn
import Derived.LoopIn
import Derived.Lib.LaidTab
import Derived.Lib.AppendIntMem
import Derived.Laws.Bits64b
import Derived.Test.YtkmggoagboikgaaDoorDgs
import Derived.Test.YtkmggoagboikgaaDoorWgt
namespace Go.Proofs.YtkmggoagboikgaaDoor
open Go.Proofs.YtkmggoagboikgaaDoor.Flo Go.RowKit Go.Shelf Go.Proofs.YtkmggoagboikgaaDoor.Pr
attribute [local go_sem] Oper.semAt_some

def dbZ : List Int := Lib.deBruijn64tab.map fun k => ((k : Nat) : Int)
/-- The library's table of de Bruijn is as it is laid, from here on. -/
def Db (w0 : World) : Prop := Lib.TabBelow Tryd.prog w0.heap.size w0 "math/bits.deBruijn64tab" .u8 dbZ
theorem Db.of {w0 : World} (h : Lib.TabIs Tryd.prog w0 "math/bits.deBruijn64tab" .u8 dbZ) : Db w0 := Lib.tabBelow_of_tabIs h
theorem dbZ_at {i k : Nat} (h : Lib.deBruijn64tab.getD i 0 = k) (hi : i < 64) : dbZ.getD i 0 = (k : Int) := by
  have hl : Lib.deBruijn64tab.length = 64 := by decide
  unfold dbZ
  rw [← h, List.getD_eq_getElem?_getD, List.getD_eq_getElem?_getD, List.getElem?_map, List.getElem?_eq_getElem (by omega)]
  rfl
theorem tz_key (x a : Nat) (hx : x < 18446744073709551616) (hlow : x &&& (18446744073709551616 - x) = a) (hx0 : x ≠ 0) :
    IntKind.u64.wrap (bits BinOp.and IntKind.u64 (x : Int) (IntKind.u64.wrap (-(x : Int))) * 285870213051353865) / 288230376151711744 = ((a * 285870213051353865 % 18446744073709551616 / 288230376151711744 : Nat) : Int) := by
  have e1 : IntKind.u64.wrap (-(x : Int)) = ((18446744073709551616 - x : Nat) : Int) := by rw [IntKind.wrap_u64]; omega
  rw [e1, bits_and_u64_nat x _ hx (by omega), hlow, IntKind.wrap_u64]
  omega
set_option maxHeartbeats 1000000 in
theorem tz_core (x k idx : Nat) (w : World) (hx0 : ((x : Int) == 0) = false)
    (key : IntKind.u64.wrap (bits BinOp.and IntKind.u64 (x : Int) (IntKind.u64.wrap (-(x : Int))) * 285870213051353865) / 288230376151711744 = (idx : Int))
    (hi : idx < 64) (hk : k < 64) (hcell : w.cell? ⟨4, idx, none⟩ = some (.int .u8 k)) :
    Calls Tryd.prog 70 #[.int .u64 x] w fun e w' => e = .returned (.int .i64 k) ∧ w = w' := by
  go_enter Tryd.func70, Tryd.ntmps70
  go_wp2_with (simp only [key])
  go_ret
  exact ⟨rfl, rfl⟩
theorem tz_lib (x : Nat) (hx : x < 18446744073709551616) (h0 : x ≠ 0) (w0 w : World) (hp : Db w0) (hb : Below w0.heap.size w0 w) :
    Calls Tryd.prog 70 #[.int .u64 x] w fun e w' => e = .returned (.int .i64 (Lib.ctz 64 x : Nat)) ∧ w = w' := by
  obtain ⟨hlow, hk⟩ := Lib.lowest_bit 64 x h0 hx
  obtain ⟨hi, htab⟩ := Lib.deBruijn64_at _ hk
  have hl64 : dbZ.length = 64 := by decide
  have hcell := (hp w hb).cell (g := 4) (by kernel_rfl) _ (Nat.lt_of_lt_of_eq hi hl64.symm)
  rw [dbZ_at htab hi] at hcell
  exact tz_core x _ _ w (by simp; omega) (tz_key x _ hx hlow h0) hi hk hcell
end Go.Proofs.YtkmggoagboikgaaDoor
