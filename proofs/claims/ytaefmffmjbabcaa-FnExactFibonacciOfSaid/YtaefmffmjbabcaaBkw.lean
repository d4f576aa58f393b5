
/- slices.Backward over a row of ints: the iterator's contract. -/
import Derived.Test.YtaefmffmjbabcaaMgb
import Derived.RangeFuncNested
import Derived.RangeFuncBound
import Derived.RangeFuncCalls
import Derived.RangeFuncLeaves
import Derived.Shelf.Abstract
import Derived.Shelf.RegionOpen
import Derived.WalkKit
import Derived.OwnWalkIn
import Derived.TacticsInMore
import Derived.LoopNIn
import Derived.LoopIn
import Derived.Sort.QuietIn
import Derived.Sort.QuietTacIn
set_option linter.unusedVariables false
namespace Go.Proofs.Ytaefmffmjbabcaa
open Go.Proofs.Ytaefmffmjbabcaa.Flo Go.RowKit Go.Shelf
attribute [local go_sem] Oper.semAt_some

namespace Bk
/-- The last m numbers below N, the greatest first. -/
def dnF (N m : Nat) : List (Fin N) := (List.finRange N).reverse.take m
theorem dnF_zero (N : Nat) : dnF N 0 = [] := rfl
theorem dnF_succ {N m : Nat} (h : m < N) : dnF N (m + 1) = dnF N m ++ [⟨N - 1 - m, by omega⟩] := by
  unfold dnF
  rw [List.take_succ_eq_append_getElem (by simpa using h)]
  simp [List.getElem_reverse]
theorem dnF_len {N m : Nat} (h : m ≤ N) : (dnF N m).length = m := by unfold dnF; simp [h]
/-- What lay below n₀ lies as it lay, and so does the block B. -/
def KpB (n₀ B : Nat) (W W' : World) : Prop := Below n₀ W W' ∧ W'.heap[B]? = W.heap[B]?
theorem KpB.refl (n₀ B : Nat) (W : World) : KpB n₀ B W W := ⟨Below.refl _ _, rfl⟩
theorem kpB_t {n₀ B : Nat} {X Y Z : World} (h : KpB n₀ B X Y) (k : KpB n₀ B Y Z) : KpB n₀ B X Z := ⟨h.1.trans k.1, k.2.trans h.2⟩
theorem kpB_b {n₀ B : Nat} {w : World} (hn : n₀ ≤ w.heap.size) (hB : B < w.heap.size) (W : World) (l : Nat) (o o' : Obj) (hl : w.heap.size ≤ l) (h : W.heap[l]? = some o) (h1 : o.isCells = false) (h2 : o.isWalk = false) : KpB n₀ B W (W.putObj l o') :=
  ⟨belowK_b hn W l o o' hl h h1 h2, World.putObj_heap_other (by omega)⟩
theorem KpB.cell {n₀ B : Nat} {W W' : World} (h : KpB n₀ B W W') (j : Nat) : W'.cell? ⟨B, j, none⟩ = W.cell? ⟨B, j, none⟩ := World.cell?_of_block (a := ⟨B, j, none⟩) h.2
theorem grown_below {A B : World} (h : Below A.heap.size A B) : A.grownBy B none := ⟨h.os, h.tape, h.output, h.size, fun k hk _ => h.block k hk⟩
theorem KpB.of_below {n₀ B : Nat} {W W' : World} (h : Below W.heap.size W W') (hn : n₀ ≤ W.heap.size) (hB : B < W.heap.size) : KpB n₀ B W W' := ⟨h.mono hn, h.block B hB⟩
theorem KpB.set {n₀ B q j : Nat} {W W' : World} (h : KpB n₀ B W W') (hq : n₀ ≤ q) (hn : q ≠ B) (v : Value) : KpB n₀ B W (W'.setCell ⟨q, j, none⟩ v) := by
  refine ⟨h.1.setCell (p := ⟨q, j, none⟩) hq v, Eq.trans ?_ h.2⟩
  simp [World.setCell, Array.getElem?_modify, hn]
theorem row_at {w : World} {b1 o1 n : Nat} {zs : List Int} (h : IRow w (some ⟨b1, o1, none⟩) n zs) {i : Nat} (hi : i < n) : b1 < w.heap.size ∧ w.cell? ⟨b1, o1 + i, none⟩ = some (.int .i64 (zs.getD i 0)) := by
  rcases h.2 with h0 | ⟨b, o, e, hb, hc⟩
  · omega
  · injection e with e
    injection e with e1 e2
    subst e1; subst e2
    exact ⟨hb, hc i hi⟩
end Bk
set_option maxHeartbeats 1000000 in
theorem bw_impl (a : Option Addr) (n cap : Nat) (w : World) : Calls Try.prog 100 #[.slice a n cap] w fun e w' => e = .returned (.func (.func 141) #[] #[.pointer (some ⟨w.heap.size, 0, none⟩)]) ∧ w' = w.alloc (.cells #[.slice a n cap] 22) := by
  go_enter Try.func100, Try.ntmps100
  go_wp2
  go_ret
  exact ⟨rfl, rfl⟩
set_option maxRecDepth 100000 in
set_option maxHeartbeats 4000000 in
theorem bw_stops (k Bp n₀ b1 o1 cap N : Nat) (zs : List Int) (w : World) (hn0 : n₀ ≤ w.heap.size) (hB : Bp < w.heap.size) (hc : w.cell? ⟨Bp, 0, none⟩ = some (.slice (some ⟨b1, o1, none⟩) N cap))
    (h : IRow w (some ⟨b1, o1, none⟩) N zs) (hb1 : b1 < n₀) (hN : N ≤ 1048576) :
    SeqStopsK Fence.wide k Try.prog 141 #[.pointer (some ⟨Bp, 0, none⟩)] (fun m : Fin N => #[Value.int .i64 (m.val : Int), Value.int .i64 (zs.getD m.val 0)]) (Bk.KpB n₀ Bp) (fun ys => ys = Bk.dnF N N) (fun pre => ∃ m, m ≤ N ∧ pre = Bk.dnF N m) N w := fun l J Jx W hW hJa _ hY h0 => by
  have hc' := (hW.cell (p := ⟨Bp, 0, none⟩) hB).trans hc
  have HA := Lib.hid (h.below hW)
  have hBW : Bp < W.heap.size := Nat.lt_of_lt_of_le hB hW.size
  have hnW : n₀ ≤ W.heap.size := Nat.le_trans hn0 hW.size
  have hFW : ∀ f, Fence.wide.fn f := fun _ => trivial
  have hFD : Fence.wide.depth.isSome = false := rfl
  have hmx : Try.prog.follows .mixedOrders = true := by kernel_rfl
  clear hc hB hW h
  refine callsIn_of_wp Try.func141 rfl trivial ?_ rfl
  simp only [Try.ntmps141, List.size_toArray, List.length_cons, List.length_nil, Nat.reduceAdd, Nat.reduceSub, Array.replicate_succ, Array.replicate_zero, List.push_toArray, List.append_toArray, List.nil_append, List.cons_append]
  gi_wp2
  gi_loopw [3] (fun iv wr => ∃ m : Nat, m ≤ N ∧ iv = .int .i64 ((N : Int) - 1 - (m : Int)) ∧ J (Bk.dnF N m) wr ∧ Hid (Bk.KpB n₀ Bp W wr)) (fun iv _ => (intOf iv + 1).toNat)
  case atStart => exact ⟨0, Nat.zero_le _, by simp, h0, Lib.hid (Bk.KpB.refl _ _ _)⟩
  case round =>
    obtain ⟨m, hm, rfl, hJ, HK⟩ := hrel
    by_cases hlt : m < N
    · have hck := (HK.out.cell 0).trans hc'
      obtain ⟨i, hi⟩ : ∃ i : Nat, i = N - 1 - m := ⟨_, rfl⟩
      have hii : (N : Int) - 1 - (m : Int) = (i : Int) := by omega
      have hiN : i < N := by omega
      have hcz : wr.cell? ⟨b1, o1 + i, none⟩ = some (.int .i64 (zs.getD i 0)) := by
        rw [HK.out.1.cell (p := ⟨b1, o1 + i, none⟩) hb1]
        exact (Bk.row_at HA.out hiN).2
      have HU : Hid (Bk.dnF N (m + 1) = Bk.dnF N m ++ [⟨i, hiN⟩]) := Lib.hid (by rw [Bk.dnF_succ hlt]; simp [hi])
      have HY := Lib.hid (fun w2 (hb : Below wr.heap.size wr w2) => hY (Bk.dnF N m) ⟨i, hiN⟩ w2 (hJa _ _ _ none hJ (Bk.grown_below hb) (fun r e => by cases e)) (by rw [Bk.dnF_len hm]; exact hlt))
      have HN : Hid ((i : Int) = (N : Int) - 1 - (m : Int)) := Lib.hid hii.symm
      rw [hii]
      clear hii hi
      replace HY := HY.out
      dsimp only at HY
      generalize zs.getD i 0 = z at hcz HY
      obtain ⟨fn, tmps, assign, body, hy1, hR⟩ := HY _ (Below.refl _ _)
      try dsimp only at hy1
      clear HY
      gi_wp2
      refine hR.mono ?_
      rintro e W3 (⟨rfl, hJ3, hk3⟩ | ⟨rfl, hJx3⟩)
      · have HK3 := Lib.hid (Bk.kpB_t HK.out hk3)
        gi_wp2
        go_roundw
        case rel => exact ⟨m + 1, hlt, by rw [HN.out]; congr 1; omega, by rw [HU.out]; exact hJ3, HK3⟩
        case measure => simp [intOf]
      · gi_wp2
        refine bodyPost_ret (results_none rfl _ _ _) rfl ?_
        exact ⟨⟨_, rfl⟩, .inr ⟨Bk.dnF N (m + 1), ⟨m + 1, hlt, rfl⟩, by rw [HU.out]; exact hJx3⟩⟩
    · obtain rfl : m = N := by omega
      gi_wp2
      go_end0
      exact ⟨⟨_, rfl⟩, .inl ⟨_, rfl, hJ⟩⟩
end Go.Proofs.Ytaefmffmjbabcaa
