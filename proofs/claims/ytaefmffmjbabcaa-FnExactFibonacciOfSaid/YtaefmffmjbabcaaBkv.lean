
/- slices.Backward over a row of ints, where the body keeps nothing but the row and the iterator's own box. -/
import Derived.Test.YtaefmffmjbabcaaBkw
set_option linter.unusedVariables false
namespace Go.Proofs.Ytaefmffmjbabcaa
open Go.Proofs.Ytaefmffmjbabcaa.Flo Go.RowKit Go.Shelf
attribute [local go_sem] Oper.semAt_some

/-- The blocks g and B lie as they lay. -/
def KpG (g B : Nat) (W W' : World) : Prop := W.heap.size ≤ W'.heap.size ∧ W'.heap[g]? = W.heap[g]? ∧ W'.heap[B]? = W.heap[B]?
theorem KpG.refl (g B : Nat) (W : World) : KpG g B W W := ⟨Nat.le_refl _, rfl, rfl⟩
theorem kpG_t {g B : Nat} {X Y Z : World} (h : KpG g B X Y) (k : KpG g B Y Z) : KpG g B X Z := ⟨Nat.le_trans h.1 k.1, k.2.1.trans h.2.1, k.2.2.trans h.2.2⟩
theorem kpG_b {g B : Nat} {w : World} (hg : g < w.heap.size) (hB : B < w.heap.size) (W : World) (l : Nat) (o o' : Obj) (hl : w.heap.size ≤ l) (h : W.heap[l]? = some o) (h1 : o.isCells = false) (h2 : o.isWalk = false) : KpG g B W (W.putObj l o') :=
  ⟨(grownBy_putObj' W l o').size, World.putObj_heap_other (by omega), World.putObj_heap_other (by omega)⟩
theorem KpG.set {g B q j : Nat} {W W' : World} (h : KpG g B W W') (h1 : q ≠ g) (h2 : q ≠ B) (v : Value) : KpG g B W (W'.setCell ⟨q, j, none⟩ v) := by
  refine ⟨by rw [World.size_setCell]; exact h.1, Eq.trans ?_ h.2.1, Eq.trans ?_ h.2.2⟩
  · exact Below.heap_setCell _ _ _ _ (fun e => h1 (Eq.symm e))
  · exact Below.heap_setCell _ _ _ _ (fun e => h2 (Eq.symm e))
set_option maxRecDepth 100000 in
set_option maxHeartbeats 4000000 in
theorem bw_stops2 (k Bp b1 o1 cap N : Nat) (zs : List Int) (w : World) (hB : Bp < w.heap.size) (hc : w.cell? ⟨Bp, 0, none⟩ = some (.slice (some ⟨b1, o1, none⟩) N cap))
    (h : IRow w (some ⟨b1, o1, none⟩) N zs) (hb1 : b1 < w.heap.size) (hN : N ≤ 1048576) :
    SeqStopsK Fence.wide k Try.prog 141 #[.pointer (some ⟨Bp, 0, none⟩)] (fun m : Fin N => #[Value.int .i64 (m.val : Int), Value.int .i64 (zs.getD m.val 0)]) (KpG b1 Bp) (fun ys => ys = Bk.dnF N N) (fun pre => ∃ m, m ≤ N ∧ pre = Bk.dnF N m) N w := fun l J Jx W hW hJa _ hY h0 => by
  have hc' := (hW.cell (p := ⟨Bp, 0, none⟩) hB).trans hc
  have HA := Lib.hid (h.below hW)
  have hBW : Bp < W.heap.size := Nat.lt_of_lt_of_le hB hW.size
  have hFW : ∀ f, Fence.wide.fn f := fun _ => trivial
  have hFD : Fence.wide.depth.isSome = false := rfl
  have hmx : Try.prog.follows .mixedOrders = true := by kernel_rfl
  clear hc hB hW h
  refine callsIn_of_wp Try.func141 rfl trivial ?_ rfl
  simp only [Try.ntmps141, List.size_toArray, List.length_cons, List.length_nil, Nat.reduceAdd, Nat.reduceSub, Array.replicate_succ, Array.replicate_zero, List.push_toArray, List.append_toArray, List.nil_append, List.cons_append]
  gi_wp2
  gi_loopw [3] (fun iv wr => ∃ m : Nat, m ≤ N ∧ iv = .int .i64 ((N : Int) - 1 - (m : Int)) ∧ J (Bk.dnF N m) wr ∧ Hid (KpG b1 Bp W wr)) (fun iv _ => (intOf iv + 1).toNat)
  case atStart => exact ⟨0, Nat.zero_le _, by simp, h0, Lib.hid (KpG.refl _ _ _)⟩
  case round =>
    obtain ⟨m, hm, rfl, hJ, HK⟩ := hrel
    by_cases hlt : m < N
    · have hck := (World.cell?_of_block (a := ⟨Bp, 0, none⟩) HK.out.2.2).trans hc'
      obtain ⟨i, hi⟩ : ∃ i : Nat, i = N - 1 - m := ⟨_, rfl⟩
      have hii : (N : Int) - 1 - (m : Int) = (i : Int) := by omega
      have hiN : i < N := by omega
      have hcz : wr.cell? ⟨b1, o1 + i, none⟩ = some (.int .i64 (zs.getD i 0)) := by
        exact (World.cell?_of_block (a := ⟨b1, o1 + i, none⟩) HK.out.2.1).trans (Bk.row_at HA.out hiN).2
      have HU : Hid (Bk.dnF N (m + 1) = Bk.dnF N m ++ [⟨i, hiN⟩]) := Lib.hid (by rw [Bk.dnF_succ hlt]; simp [hi])
      have HY := Lib.hid (fun w2 (hb : Below wr.heap.size wr w2) => hY (Bk.dnF N m) ⟨i, hiN⟩ w2 (hJa _ _ _ none hJ (Bk.grown_below hb) (fun r e => by cases e)) (by rw [Bk.dnF_len hm]; exact hlt))
      have HN : Hid ((i : Int) = (N : Int) - 1 - (m : Int)) := Lib.hid hii.symm
      rw [hii]
      clear hii hi
      replace HY := HY.out
      dsimp only at HY
      generalize zs.getD i 0 = z at hcz HY
      obtain ⟨fn, tmps, assign, body, hy1, hR⟩ := HY _ (Below.refl _ _)
      try dsimp only at hy1
      clear HY
      gi_wp2
      refine hR.mono ?_
      rintro e W3 (⟨rfl, hJ3, hk3⟩ | ⟨rfl, hJx3⟩)
      · have HK3 := Lib.hid (kpG_t HK.out hk3)
        gi_wp2
        go_roundw
        case rel => exact ⟨m + 1, hlt, by rw [HN.out]; congr 1; omega, by rw [HU.out]; exact hJ3, HK3⟩
        case measure => simp [intOf]
      · gi_wp2
        refine bodyPost_ret (results_none rfl _ _ _) rfl ?_
        exact ⟨⟨_, rfl⟩, .inr ⟨Bk.dnF N (m + 1), ⟨m + 1, hlt, rfl⟩, by rw [HU.out]; exact hJx3⟩⟩
    · obtain rfl : m = N := by omega
      gi_wp2
      go_end0
      exact ⟨⟨_, rfl⟩, .inl ⟨_, rfl, hJ⟩⟩
end Go.Proofs.Ytaefmffmjbabcaa
