
/- Iterators: the places of a word's digits; the sum of rows that a message tells. -/
import Derived.RangeFuncNested
import Derived.RangeFuncBound
import Derived.RangeFuncCalls
import Derived.RangeFuncLeaves
import Derived.Shelf.Abstract
import Derived.Shelf.RegionOpen
import Derived.WalkKit
import Derived.OwnWalkIn
import Derived.TacticsInMore
import Derived.LoopNIn
import Derived.LoopIn
import Derived.Lib.LaidTab
import Derived.Lib.AppendIntMem
import Derived.Laws.Bits64b
import Derived.Test.YtnljabgkaelplaaDoorDgs
import Derived.Test.YtnljabgkaelplaaDoorWgt
namespace Go.Proofs.YtnljabgkaelplaaDoor
open Go.Proofs.YtnljabgkaelplaaDoor.Flo Go.RowKit Go.Shelf Go.Proofs.YtnljabgkaelplaaDoor.Pr
attribute [local go_sem] Oper.semAt_some

def dbZ : List Int := Lib.deBruijn64tab.map fun k => ((k : Nat) : Int)
/-- The library's table of de Bruijn is as it is laid, from here on. -/
def Db (w0 : World) : Prop := Lib.TabBelow Tryd.prog w0.heap.size w0 "math/bits.deBruijn64tab" .u8 dbZ
theorem Db.of {w0 : World} (h : Lib.TabIs Tryd.prog w0 "math/bits.deBruijn64tab" .u8 dbZ) : Db w0 := Lib.tabBelow_of_tabIs h
theorem dbZ_at {i k : Nat} (h : Lib.deBruijn64tab.getD i 0 = k) (hi : i < 64) : dbZ.getD i 0 = (k : Int) := by
  have hl : Lib.deBruijn64tab.length = 64 := by decide
  unfold dbZ
  rw [← h, List.getD_eq_getElem?_getD, List.getD_eq_getElem?_getD, List.getElem?_map, List.getElem?_eq_getElem (by omega)]
  rfl
theorem tz_key (x a : Nat) (hx : x < 18446744073709551616) (hlow : x &&& (18446744073709551616 - x) = a) (hx0 : x ≠ 0) :
    IntKind.u64.wrap (bits BinOp.and IntKind.u64 (x : Int) (IntKind.u64.wrap (-(x : Int))) * 285870213051353865) / 288230376151711744 = ((a * 285870213051353865 % 18446744073709551616 / 288230376151711744 : Nat) : Int) := by
  have e1 : IntKind.u64.wrap (-(x : Int)) = ((18446744073709551616 - x : Nat) : Int) := by rw [IntKind.wrap_u64]; omega
  rw [e1, bits_and_u64_nat x _ hx (by omega), hlow, IntKind.wrap_u64]
  omega
set_option maxHeartbeats 1000000 in
theorem tz_core (x k idx : Nat) (w : World) (hx0 : ((x : Int) == 0) = false)
    (key : IntKind.u64.wrap (bits BinOp.and IntKind.u64 (x : Int) (IntKind.u64.wrap (-(x : Int))) * 285870213051353865) / 288230376151711744 = (idx : Int))
    (hi : idx < 64) (hk : k < 64) (hcell : w.cell? ⟨0, idx, none⟩ = some (.int .u8 k)) :
    Calls Tryd.prog 72 #[.int .u64 x] w fun e w' => e = .returned (.int .i64 k) ∧ w = w' := by
  go_enter Tryd.func72, Tryd.ntmps72
  go_wp2_with (simp only [key])
  go_ret
  exact ⟨rfl, rfl⟩
theorem tz_lib (x : Nat) (hx : x < 18446744073709551616) (h0 : x ≠ 0) (w0 w : World) (hp : Db w0) (hb : Below w0.heap.size w0 w) :
    Calls Tryd.prog 72 #[.int .u64 x] w fun e w' => e = .returned (.int .i64 (Lib.ctz 64 x : Nat)) ∧ w = w' := by
  obtain ⟨hlow, hk⟩ := Lib.lowest_bit 64 x h0 hx
  obtain ⟨hi, htab⟩ := Lib.deBruijn64_at _ hk
  have hl64 : dbZ.length = 64 := by decide
  have hcell := (hp w hb).cell (g := 0) (by kernel_rfl) _ (Nat.lt_of_lt_of_eq hi hl64.symm)
  rw [dbZ_at htab hi] at hcell
  exact tz_core x _ _ w (by simp; omega) (tz_key x _ hx hlow h0) hi hk hcell
set_option maxHeartbeats 1000000 in
theorem ix_impl (x : Int) (w : World) : Calls Tryd.prog 45 #[.int .i64 x] w fun e w' => e = .returned (.func (.func 71) #[] #[.pointer (some ⟨w.heap.size, 0, none⟩)]) ∧ w' = w.alloc (.cells #[.int .i64 x] 2) := by
  go_enter Tryd.func45, Tryd.ntmps45
  go_wp2
  go_ret
  exact ⟨rfl, rfl⟩
set_option maxRecDepth 100000 in
set_option maxHeartbeats 4000000 in
theorem ix_stops (k Bw n x : Nat) (hx : x < 2 ^ n) (hn : n ≤ 16) (w0 w : World) (hp : Db w0) (hb : Below w0.heap.size w0 w) (hB : Bw < w.heap.size) (hc : w.cell? ⟨Bw, 0, none⟩ = some (.int .i64 (x : Int))) :
    SeqStopsK Fence.wide k Tryd.prog 71 #[.pointer (some ⟨Bw, 0, none⟩)] (fun i : Fin n => #[Value.int .i64 (i.val : Int)]) (Below w0.heap.size) (fun ys => ys = dgs n x) (fun pre => ∃ rest, dgs n x = pre ++ rest) 16 w := fun l J Jx W hW _ _ hY h0 => by
  have hc' := (hW.cell (p := ⟨Bw, 0, none⟩) hB).trans hc
  have hb' := hb.trans (hW.mono hb.size)
  have hp16 : 2 ^ n ≤ 2 ^ 16 := Nat.pow_le_pow_right (by decide) hn
  have hx16 : x < 65536 := by omega
  have hwx : IntKind.u64.wrap (x : Int) = (x : Int) := by rw [IntKind.wrap_u64]; omega
  have HB := Lib.hid hb'
  have HX := Lib.hid hx
  clear hc hB hW hb hb' hx
  refine callsIn_of_wp Tryd.func71 rfl trivial ?_ rfl
  simp only [Tryd.ntmps71, List.size_toArray, List.length_cons, List.length_nil, Nat.reduceAdd, Nat.reduceSub, Array.replicate_succ, Array.replicate_zero, List.push_toArray, List.append_toArray, List.nil_append, List.cons_append]
  gi_wp2
  gi_loopw [3] (fun rv wr => ∃ (pre : List (Fin n)) (y : Nat), y < 65536 ∧ rv = .int .u64 (y : Int) ∧ Hid (dgs n x = pre ++ dgs n y) ∧ Hid (y < 2 ^ n) ∧ J pre wr ∧ Hid (Below w0.heap.size w0 wr))
    (fun rv _ => (intOf rv).toNat)
  case atStart => exact ⟨[], x, hx16, rfl, Lib.hid rfl, HX, h0, HB⟩
  case round =>
    obtain ⟨pre, y, hy, rfl, HD, HY2, hJ, HW⟩ := hrel
    by_cases hz : y = 0
    · subst hz
      gi_wp2
      go_end0
      exact ⟨⟨_, rfl⟩, .inl ⟨pre, by have := HD.out; rw [this]; unfold dgs; rw [dg_zero, List.append_nil], hJ⟩⟩
    · obtain ⟨i, hi, hcons⟩ := dgs_cons hz HY2.out (by omega)
      have hne : ((y : Int) == 0) = false := by simp; omega
      have hne' : ((y : Int) != 0) = true := by simp; omega
      have hlen : pre.length < 16 := by
        have h1 := dg_len n n 0 (Nat.zero_add n) x
        have h2 := congrArg List.length HD.out
        rw [hcons, List.length_append, List.length_cons] at h2
        unfold dgs at h2
        omega
      obtain ⟨fn, tmps, assign, body, hy1, hR⟩ := hY pre i wr hJ hlen
      (try dsimp only at hy1)
      rw [hi] at hy1
      have hcl := clw_lt hz
      have hwy : IntKind.u64.wrap ((y : Int) - 1) = ((y - 1 : Nat) : Int) := by rw [IntKind.wrap_u64]; omega
      have hand : bits .and .u64 (y : Int) ((y - 1 : Nat) : Int) = ((clw y : Nat) : Int) := bits_and_u64_nat y (y - 1) (by omega) (by omega)
      have HT : Hid (∀ n2, CallsIn Fence.wide n2 Tryd.prog 72 #[.int .u64 (y : Int)] wr fun e w' => e = .returned (.int .i64 (Lib.ctz 64 y : Nat)) ∧ wr = w') := Lib.hid (fun n2 => callsIn_wide.2 (tz_lib y (by omega) hz w0 wr hp HW.out))
      have HD2 : Hid (dgs n x = (pre ++ [i]) ++ dgs n (clw y)) := Lib.hid (by rw [HD.out, hcons, List.append_assoc]; rfl)
      have HC2 : Hid (clw y < 2 ^ n) := Lib.hid (by have := HY2.out; omega)
      have hcl2 : clw y < 65536 := by omega
      have HDn : Hid (∃ rest, dgs n x = (pre ++ [i]) ++ rest) := Lib.hid ⟨_, HD2.out⟩
      generalize hcy : clw y = c at hcl hand HD2 HC2 hcl2
      generalize hpy : y - 1 = y1 at hwy hand
      clear hz hi hcons hlen hcy hpy
      have hFW : ∀ f, Fence.wide.fn f := fun _ => trivial
      have hFD : Fence.wide.depth.isSome = false := rfl
      gi_wp2_with (first | (gi_at_call 72; (with_reducible refine (HT.out _).mono ?_); rintro e w' ⟨rfl, hw⟩; subst hw) | fail)
      refine hR.mono ?_
      rintro e W3 (⟨rfl, hJ3, hk3⟩ | ⟨rfl, hJx3⟩)
      · have HW3 := Lib.hid (HW.out.trans hk3)
        gi_wp2
        go_roundw
        case rel => exact ⟨pre ++ [i], c, hcl2, rfl, HD2, HC2, hJ3, HW3⟩
        case measure => simp [intOf]; omega
      · gi_wp2
        refine bodyPost_ret (results_none rfl _ _ _) rfl ?_
        exact ⟨⟨_, rfl⟩, .inr ⟨pre ++ [i], HDn.out, hJx3⟩⟩
end Go.Proofs.YtnljabgkaelplaaDoor
