
/- Iterators: all words of a weight. -/
import Derived.Test.YtaefmffmjbabcaaWgt
import Derived.RangeFuncNested
import Derived.RangeFuncBound
import Derived.RangeFuncCalls
import Derived.RangeFuncLeaves
import Derived.Shelf.Abstract
import Derived.Shelf.RegionOpen
import Derived.WalkKit
import Derived.OwnWalkIn
import Derived.TacticsInMore
import Derived.LoopNIn
import Derived.LoopIn
import Derived.Sort.QuietIn
import Derived.Sort.QuietTacIn
set_option linter.unusedVariables false
namespace Go.Proofs.Ytaefmffmjbabcaa
open Go.Proofs.Ytaefmffmjbabcaa.Flo Go.RowKit Go.Shelf Go.Proofs.Ytaefmffmjbabcaa.Pr
attribute [local go_sem] Oper.semAt_some

/-- The words of weight q among the first m numbers below N. -/
def wsF (N q m : Nat) : List (Fin N) := ((List.finRange N).take m).filter fun y => wt y.val == q
theorem wsF_zero (N q : Nat) : wsF N q 0 = [] := rfl
theorem wsF_yes {N q m : Nat} (h : m < N) (hq : wt m = q) : wsF N q (m + 1) = wsF N q m ++ [⟨m, h⟩] := by
  unfold wsF
  rw [List.take_succ_eq_append_getElem (by simpa using h), List.filter_append]
  simp [hq]
theorem wsF_no {N q m : Nat} (h : m < N) (hq : wt m ≠ q) : wsF N q (m + 1) = wsF N q m := by
  unfold wsF
  rw [List.take_succ_eq_append_getElem (by simpa using h), List.filter_append]
  simp [hq]
theorem wsF_len {N q m : Nat} (h : m ≤ N) : (wsF N q m).length ≤ m := by
  unfold wsF
  refine Nat.le_trans (List.length_filter_le _ _) ?_
  simp; omega
/-- What lay below n₀ lies as it lay, and so do the two blocks from B on. -/
def KpT (n₀ B : Nat) (W W' : World) : Prop := Below n₀ W W' ∧ W'.heap[B]? = W.heap[B]? ∧ W'.heap[B + 1]? = W.heap[B + 1]?
theorem KpT.refl (n₀ B : Nat) (W : World) : KpT n₀ B W W := ⟨Below.refl _ _, rfl, rfl⟩
theorem kpT_t {n₀ B : Nat} {X Y Z : World} (h : KpT n₀ B X Y) (k : KpT n₀ B Y Z) : KpT n₀ B X Z := ⟨h.1.trans k.1, k.2.1.trans h.2.1, k.2.2.trans h.2.2⟩
theorem kpT_b {n₀ B : Nat} {w : World} (hn : n₀ ≤ w.heap.size) (hB : B + 1 < w.heap.size) (W : World) (l : Nat) (o o' : Obj) (hl : w.heap.size ≤ l) (h : W.heap[l]? = some o) (h1 : o.isCells = false) (h2 : o.isWalk = false) : KpT n₀ B W (W.putObj l o') :=
  ⟨belowK_b hn W l o o' hl h h1 h2, World.putObj_heap_other (by omega), World.putObj_heap_other (by omega)⟩
set_option maxHeartbeats 1000000 in
theorem ww_impl (a b : Int) (w : World) : Calls Try.prog 59 #[.int .i64 a, .int .i64 b] w fun e w' => e = .returned (.func (.func 116) #[] #[.pointer (some ⟨w.heap.size, 0, none⟩), .pointer (some ⟨w.heap.size + 1, 0, none⟩)]) ∧ w' = (w.alloc (.cells #[.int .i64 a] 2)).alloc (.cells #[.int .i64 b] 2) := by
  go_enter Try.func59, Try.ntmps59
  go_wp2
  go_ret
  exact ⟨rfl, rfl⟩
set_option maxRecDepth 100000 in
set_option maxHeartbeats 4000000 in
theorem ww_stops (k B n₀ m q N : Nat) (w : World) (hn0 : n₀ ≤ w.heap.size) (hB : B + 1 < w.heap.size) (hc : w.cell? ⟨B, 0, none⟩ = some (.int .i64 (m : Int))) (hq : w.cell? ⟨B + 1, 0, none⟩ = some (.int .i64 (q : Int))) (hm : m ≤ 16) (hN : 2 ^ m = N) :
    SeqStopsK Fence.wide k Try.prog 116 #[.pointer (some ⟨B, 0, none⟩), .pointer (some ⟨B + 1, 0, none⟩)] (fun y : Fin N => #[Value.int .i64 (y.val : Int)]) (KpT n₀ B) (fun ys => ys = wsF N q N) (fun pre => ∃ m, m ≤ N ∧ pre = wsF N q m) N w := fun l J Jx W hW hJa _ hY h0 => by
  have hc' := (hW.cell (p := ⟨B, 0, none⟩) (show B < w.heap.size by omega)).trans hc
  have hq' := (hW.cell (p := ⟨B + 1, 0, none⟩) hB).trans hq
  have hp16 : 2 ^ m ≤ 2 ^ 16 := Nat.pow_le_pow_right (by decide) hm
  have hN16 : N ≤ 65536 := by omega
  have hmin : min m 64 = m := by omega
  have hwu : IntKind.u64.wrap (m : Int) = (m : Int) := by rw [IntKind.wrap_u64]; omega
  have hwp : IntKind.i64.wrap ((2 : Int) ^ m) = (N : Int) := by
    have e : (2 : Int) ^ m = (N : Int) := by rw [← hN]; simp
    rw [e]; exact IntWalk.i64_in _ (by omega)
  have hFW : ∀ f, Fence.wide.fn f := fun _ => trivial
  have hFD : Fence.wide.depth.isSome = false := rfl
  have hmx : Try.prog.follows .mixedOrders = true := by kernel_rfl
  clear hc hq hB hW hN hp16
  refine callsIn_of_wp Try.func116 rfl trivial ?_ rfl
  simp only [Try.ntmps116, List.size_toArray, List.length_cons, List.length_nil, Nat.reduceAdd, Nat.reduceSub, Array.replicate_succ, Array.replicate_zero, List.push_toArray, List.append_toArray, List.nil_append, List.cons_append]
  gi_wp2
  clear hmin hwu hwp
  gi_loopw [7] (fun iv wr => ∃ i : Nat, i ≤ N ∧ iv = .int .i64 (i : Int) ∧ J (wsF N q i) wr ∧ Hid (KpT n₀ B W wr)) (fun iv _ => N - (intOf iv).toNat)
  case atStart => exact ⟨0, Nat.zero_le _, rfl, h0, Lib.hid (KpT.refl _ _ _)⟩
  case round =>
    obtain ⟨i, hi, rfl, hJ, HK⟩ := hrel
    by_cases hlt : i < N
    · have hck := (World.cell?_of_block (a := ⟨B, 0, none⟩) HK.out.2.1).trans hc'
      have hcq := (World.cell?_of_block (a := ⟨B + 1, 0, none⟩) HK.out.2.2).trans hq'
      have HS : Hid (∀ n2 (w3 : World), CallsIn Fence.wide n2 Try.prog 117 #[.int .i64 (i : Int)] w3 fun e w' => e = .returned (.int .i64 (wt i : Int)) ∧ w3 = w') := Lib.hid (fun n2 w3 => callsIn_wide.2 (wo_impl i w3 (by omega)))
      have hle := wsF_len (q := q) hi
      by_cases hwq : wt i = q
      · have HU := Lib.hid (wsF_yes hlt hwq)
        have hb : ((wt i : Int) == (q : Int)) = true := by rw [hwq]; simp
        have HJ2 := Lib.hid (fun w2 (hb : Below wr.heap.size wr w2) => hY (wsF N q i) ⟨i, hlt⟩ w2 (hJa _ _ _ none hJ ⟨hb.os, hb.tape, hb.output, hb.size, fun k hk _ => hb.block k hk⟩ (fun r e => by cases e)) (by omega))
        rw [hwq] at HS
        clear hwq hle
        gi_wp2
        obtain ⟨fn, tmps, assign, body, hy1, hR⟩ := HJ2.out _ (Below.drew (Below.refl _ wr))
        try dsimp only at hy1
        have HR := Lib.hid (hR.mono (R' := fun e W3 => ∃ bv : Bool, e = .returned (.bool bv) ∧ ((bv = true ∧ J (wsF N q i ++ [⟨i, hlt⟩]) W3 ∧ KpT n₀ B wr.drew W3) ∨ (bv = false ∧ Jx (wsF N q i ++ [⟨i, hlt⟩]) W3))) (by
          rintro e W3 (⟨rfl, hJ3, hk3⟩ | ⟨rfl, hJx3⟩)
          · exact ⟨true, rfl, .inl ⟨rfl, hJ3, hk3⟩⟩
          · exact ⟨false, rfl, .inr ⟨rfl, hJx3⟩⟩))
        clear hR
        gi_region_with_o (first | (gi_at_call 117; (with_reducible refine (HS.out _ _).mono ?_); rintro e w' ⟨rfl, hw⟩; subst hw) | (refine HR.out.mono ?_; rintro e W3 ⟨bv, rfl, hd⟩; have HD := Lib.hid hd; clear hd) | fail)
        all_goals
          rcases HD.out with ⟨rfl, hJ3, hk3⟩ | ⟨rfl, hJx3⟩
          · have HK4 := Lib.hid (kpT_t (kpT_t HK.out ⟨Below.drew (Below.refl _ _), rfl, rfl⟩) hk3)
            gi_wp2
            refine ⟨⟨i + 1, hlt, by simp, by rw [HU.out]; exact hJ3, HK4⟩, ?_⟩
            show N - ((i : Int) + 1).toNat < N - (i : Int).toNat
            omega
          · gi_wp2
            refine bodyPost_ret (results_none rfl _ _ _) rfl ?_
            exact ⟨⟨_, rfl⟩, .inr ⟨wsF N q (i + 1), ⟨i + 1, hlt, rfl⟩, by rw [HU.out]; exact hJx3⟩⟩
      · have HU := Lib.hid (wsF_no hlt hwq)
        have hb : ((wt i : Int) == (q : Int)) = false := by simpa using (show ¬ (wt i : Int) = (q : Int) by omega)
        have hb2 : (wt i == q) = false := by simpa using hwq
        have hb3 : decide ((wt i : Int) = (q : Int)) = false := decide_eq_false (by omega)
        have hb4 : decide (wt i = q) = false := decide_eq_false hwq
        generalize wt i = p at HS hb hb2 hb3 hb4 hwq
        have HS2 : Hid (∀ (n2 n3 : Nat), CallsIn Fence.wide n2 Try.prog 117 #[.int .i64 (i : Int)] (wr.drewN n3) fun e w' => e = .returned (.int .i64 (p : Int)) ∧ w' = wr.drewN n3) := Lib.hid (fun n2 n3 => (HS.out n2 _).mono (fun _ _ h => ⟨h.1, h.2.symm⟩))
        gi_wp2
        gi_quiet (first | (gi_at_call 117; with_reducible exact CallsIn.quiet_of_same (HS2.out _ _)) | fail)
        gi_wp2
        refine ⟨⟨i + 1, hlt, by simp, by rw [HU.out]; exact hJa _ _ _ none hJ ⟨rfl, rfl, rfl, Nat.le_refl _, fun _ _ _ => rfl⟩ (fun r e => by cases e), Lib.hid (kpT_t HK.out ⟨⟨rfl, rfl, rfl, Nat.le_refl _, fun _ _ => rfl⟩, rfl, rfl⟩)⟩, ?_⟩
        show N - ((i : Int) + 1).toNat < N - (i : Int).toNat
        omega
    · obtain rfl : i = N := by omega
      gi_wp2
      go_end0
      exact ⟨⟨_, rfl⟩, .inl ⟨_, rfl, hJ⟩⟩
end Go.Proofs.Ytaefmffmjbabcaa
