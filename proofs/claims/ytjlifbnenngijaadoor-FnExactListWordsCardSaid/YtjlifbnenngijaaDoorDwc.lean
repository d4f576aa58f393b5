
/- Iterators: all messages of a code, each with its word. -/
import Derived.Test.YtjlifbnenngijaaDoorDgo
set_option linter.unusedVariables false
namespace Go.Proofs.YtjlifbnenngijaaDoor
open Go.Proofs.YtjlifbnenngijaaDoor.Flo Go.RowKit Go.Shelf Go.Proofs.YtjlifbnenngijaaDoor.Pr
attribute [local go_sem] Oper.semAt_some

/-- The first m numbers below N. -/
def upF (N m : Nat) : List (Fin N) := (List.finRange N).take m
theorem upF_zero (N : Nat) : upF N 0 = [] := rfl
theorem upF_succ {N m : Nat} (h : m < N) : upF N (m + 1) = upF N m ++ [⟨m, h⟩] := by
  unfold upF
  rw [List.take_succ_eq_append_getElem (by simpa using h)]
  simp
theorem upF_len {N m : Nat} (h : m ≤ N) : (upF N m).length = m := by unfold upF; simp [h]
/-- What lay below n₀ lies as it lay, and so does the block B. -/
def KpB (n₀ B : Nat) (W W' : World) : Prop := Below n₀ W W' ∧ W'.heap[B]? = W.heap[B]?
theorem KpB.refl (n₀ B : Nat) (W : World) : KpB n₀ B W W := ⟨Below.refl _ _, rfl⟩
theorem kpB_t {n₀ B : Nat} {X Y Z : World} (h : KpB n₀ B X Y) (k : KpB n₀ B Y Z) : KpB n₀ B X Z := ⟨h.1.trans k.1, k.2.trans h.2⟩
theorem kpB_b {n₀ B : Nat} {w : World} (hn : n₀ ≤ w.heap.size) (hB : B < w.heap.size) (W : World) (l : Nat) (o o' : Obj) (hl : w.heap.size ≤ l) (h : W.heap[l]? = some o) (h1 : o.isCells = false) (h2 : o.isWalk = false) : KpB n₀ B W (W.putObj l o') :=
  ⟨belowK_b hn W l o o' hl h h1 h2, World.putObj_heap_other (by omega)⟩
theorem KpB.cell {n₀ B : Nat} {W W' : World} (h : KpB n₀ B W W') (j : Nat) : W'.cell? ⟨B, j, none⟩ = W.cell? ⟨B, j, none⟩ := World.cell?_of_block (a := ⟨B, j, none⟩) h.2
theorem grown_below {A B : World} (h : Below A.heap.size A B) : A.grownBy B none := ⟨h.os, h.tape, h.output, h.size, fun k hk _ => h.block k hk⟩
theorem KpB.of_below {n₀ B : Nat} {W W' : World} (h : Below W.heap.size W W') (hn : n₀ ≤ W.heap.size) (hB : B < W.heap.size) : KpB n₀ B W W' := ⟨h.mono hn, h.block B hB⟩
set_option maxHeartbeats 1000000 in
theorem wc_impl (v : Value) (hv : ∃ r a n cap, v = .agg #[.int .i64 r, .slice a n cap]) (w : World) : Calls Tryd.prog 57 #[v] w fun e w' => e = .returned (.func (.func 77) #[] #[.pointer (some ⟨w.heap.size, 0, none⟩)]) ∧ ∃ r a n cap, v = .agg #[.int .i64 r, .slice a n cap] ∧ w' = w.alloc (.cells #[.int .i64 r, .slice a n cap] 24) := by
  obtain ⟨r, a, n, cap, rfl⟩ := hv
  go_enter Tryd.func57, Tryd.ntmps57
  go_wp2
  go_ret
  exact ⟨rfl, r, a, n, cap, rfl, rfl⟩
theorem wc_impl2 (r : Int) (a : Option Addr) (n cap : Nat) (w : World) : Calls Tryd.prog 57 #[.agg #[.int .i64 r, .slice a n cap]] w fun e w' => e = .returned (.func (.func 77) #[] #[.pointer (some ⟨w.heap.size, 0, none⟩)]) ∧ w' = w.alloc (.cells #[.int .i64 r, .slice a n cap] 24) := by
  refine (wc_impl _ ⟨r, a, n, cap, rfl⟩ w).mono ?_
  rintro e w' ⟨he, r1, a1, n1, cap1, h1, h2⟩
  injection h1 with h1
  simp only [Array.mk.injEq, List.cons.injEq, Value.int.injEq, true_and, Value.slice.injEq, and_true] at h1
  obtain ⟨rfl, rfl, rfl, rfl⟩ := h1
  exact ⟨he, h2⟩
set_option maxRecDepth 100000 in
set_option maxHeartbeats 4000000 in
theorem wc_stops (k Bp n₀ b1 o1 n cap N : Nat) (zs : List Int) (w0 w : World) (hp : Db w0) (hb : Below w0.heap.size w0 w) (h0n : w0.heap.size ≤ n₀) (hn0 : n₀ ≤ w.heap.size) (hB : Bp < w.heap.size) (hc : w.cell? ⟨Bp, 1, none⟩ = some (.slice (some ⟨b1, o1, none⟩) n cap))
    (h : IRow w (some ⟨b1, o1, none⟩) n zs) (hb1 : b1 < n₀) (hn : n ≤ 8) (hz : woP zs n 16) (hN : 2 ^ n = N) :
    SeqStopsK Fence.wide k Tryd.prog 77 #[.pointer (some ⟨Bp, 0, none⟩)] (fun m : Fin N => #[Value.int .i64 (m.val : Int), Value.int .i64 (ew (zN zs) n m.val : Int)]) (KpB n₀ Bp) (fun ys => ys = upF N N) (fun pre => ∃ m, m ≤ N ∧ pre = upF N m) N w := fun l J Jx W hW hJa _ hY h0 => by
  have hc' := (hW.cell (p := ⟨Bp, 1, none⟩) hB).trans hc
  have hp8 : 2 ^ n ≤ 2 ^ 8 := Nat.pow_le_pow_right (by decide) hn
  have hN8 : N ≤ 256 := by omega
  have HA := Lib.hid (h.below hW)
  have HZ := Lib.hid hz
  have HN := Lib.hid hN
  have HB := Lib.hid (hb.trans (hW.mono hb.size))
  have hBW : Bp < W.heap.size := Nat.lt_of_lt_of_le hB hW.size
  have hnW : n₀ ≤ W.heap.size := Nat.le_trans hn0 hW.size
  have hmin : min n 64 = n := by omega
  have hwu : IntKind.u64.wrap (n : Int) = (n : Int) := by rw [IntKind.wrap_u64]; omega
  have hwp : IntKind.i64.wrap ((2 : Int) ^ n) = (N : Int) := by
    have e : (2 : Int) ^ n = (N : Int) := by rw [← hN]; simp
    rw [e]; exact IntWalk.i64_in _ (by omega)
  have hFW : ∀ f, Fence.wide.fn f := fun _ => trivial
  have hFD : Fence.wide.depth.isSome = false := rfl
  clear hc hB hW hb h hz hN hp8
  refine callsIn_of_wp Tryd.func77 rfl trivial ?_ rfl
  simp only [Tryd.ntmps77, List.size_toArray, List.length_cons, List.length_nil, Nat.reduceAdd, Nat.reduceSub, Array.replicate_succ, Array.replicate_zero, List.push_toArray, List.append_toArray, List.nil_append, List.cons_append]
  gi_wp2
  clear hmin hwu hwp
  gi_loopw [8] (fun iv wr => ∃ m : Nat, m ≤ N ∧ iv = .int .i64 (m : Int) ∧ J (upF N m) wr ∧ Hid (KpB n₀ Bp W wr)) (fun iv _ => N - (intOf iv).toNat)
  case atStart => exact ⟨0, Nat.zero_le _, rfl, h0, Lib.hid (KpB.refl _ _ _)⟩
  case round =>
    obtain ⟨m, hm, rfl, hJ, HK⟩ := hrel
    by_cases hlt : m < N
    · have hck := (HK.out.cell 1).trans hc'
      have hwr : Below w0.heap.size w0 wr := HB.out.trans (HK.out.1.mono h0n)
      have hBr : Bp < wr.heap.size := Nat.lt_of_lt_of_le hBW HK.out.1.size
      have hnr : n₀ ≤ wr.heap.size := Nat.le_trans hnW HK.out.1.size
      have hA : IRow wr (some ⟨b1, o1, none⟩) n zs := by
        refine ⟨HA.out.1, .inr ⟨b1, o1, rfl, by omega, fun i hi => ?_⟩⟩
        rw [HK.out.1.cell (p := ⟨b1, o1 + i, none⟩) hb1]
        exact (irow_at HA.out hi).2
      have hx : m < 2 ^ n := by rw [HN.out]; exact hlt
      have HS : Hid (∀ n2, CallsIn Fence.wide n2 Tryd.prog 54 #[.slice (some ⟨b1, o1, none⟩) n cap, .int .i64 (m : Int)] wr fun e w' => e = .returned (.int .i64 (ew (zN zs) n m : Int)) ∧ Below wr.heap.size wr w') := Lib.hid (fun n2 => callsIn_wide.2 (so_impl b1 o1 n cap zs m w0 wr hp hwr hA (by omega) HZ.out hx))
      have HU := Lib.hid (upF_succ hlt)
      have HJA := Lib.hid hJa
      have HY := Lib.hid (fun w2 (hb : Below wr.heap.size wr w2) => hY (upF N m) ⟨m, hlt⟩ w2 (hJa _ _ _ none hJ (grown_below hb) (fun r e => by cases e)) (by rw [upF_len hm]; exact hlt))
      clear hA hx hwr
      gi_wp2_with (first | (gi_at_call 54; (with_reducible refine (HS.out _).mono ?_); rintro e w2 ⟨rfl, hb⟩; (have HK2 := Lib.hid (kpB_t HK.out (KpB.of_below hb hnr hBr))); obtain ⟨fn, tmps, assign, body, hy1, hR⟩ := HY.out _ hb; (try dsimp only at hy1); clear hb) | fail)
      refine hR.mono ?_
      rintro e W3 (⟨rfl, hJ3, hk3⟩ | ⟨rfl, hJx3⟩)
      · have HK3 := Lib.hid (kpB_t HK2.out hk3)
        gi_wp2
        go_roundw
        case rel => exact ⟨m + 1, hlt, by simp, by rw [HU.out]; exact hJ3, HK3⟩
        case measure => simp [intOf]; omega
      · gi_wp2
        refine bodyPost_ret (results_none rfl _ _ _) rfl ?_
        exact ⟨⟨_, rfl⟩, .inr ⟨upF N (m + 1), ⟨m + 1, hlt, rfl⟩, by rw [HU.out]; exact hJx3⟩⟩
    · obtain rfl : m = N := by omega
      gi_wp2
      go_end0
      exact ⟨⟨_, rfl⟩, .inl ⟨_, rfl, hJ⟩⟩
end Go.Proofs.YtjlifbnenngijaaDoor
