
/- The sum of rows that a message tells: the program. -/
import Derived.Test.YtjlifbnenngijaaDoorDge
namespace Go.Proofs.YtjlifbnenngijaaDoor
open Go.Proofs.YtjlifbnenngijaaDoor.Flo Go.RowKit Go.Shelf Go.Proofs.YtjlifbnenngijaaDoor.Pr
attribute [local go_sem] Oper.semAt_some

def sx (z : Nat → Nat) {n : Nat} (l : List (Fin n)) : Nat := l.foldl (fun s i => s ^^^ z i.val) 0
theorem sx_snoc (z : Nat → Nat) {n : Nat} (l : List (Fin n)) (i : Fin n) : sx z (l ++ [i]) = sx z l ^^^ z i.val := by unfold sx; rw [List.foldl_append]; rfl
theorem sx_lt {z : Nat → Nat} {n m : Nat} (hz : ∀ i, i < n → z i < 2 ^ m) (l : List (Fin n)) : sx z l < 2 ^ m := by
  unfold sx
  have : ∀ (l : List (Fin n)) (s : Nat), s < 2 ^ m → l.foldl (fun s i => s ^^^ z i.val) s < 2 ^ m := by
    intro l
    induction l with
    | nil => intro s hs; exact hs
    | cons i l ih => intro s hs; exact ih _ (Nat.xor_lt_two_pow hs (hz i.val i.isLt))
  exact this l 0 (Nat.two_pow_pos m)
theorem irow_at {w : World} {b1 o1 n : Nat} {zs : List Int} (h : IRow w (some ⟨b1, o1, none⟩) n zs) {i : Nat} (hi : i < n) : b1 < w.heap.size ∧ w.cell? ⟨b1, o1 + i, none⟩ = some (.int .i64 (zs.getD i 0)) := by
  obtain ⟨b, o, e, hb, hc⟩ := h.cell' hi
  injection e with e
  injection e with e1 e2
  subst e1; subst e2
  exact ⟨hb, hc⟩
set_option maxRecDepth 100000 in
set_option maxHeartbeats 4000000 in
theorem so_impl (b1 o1 n cap : Nat) (zs : List Int) (x : Nat) (w0 w : World) (hp : Db w0) (hb : Below w0.heap.size w0 w) (h : IRow w (some ⟨b1, o1, none⟩) n zs) (hn : n ≤ 16) (hz : woP zs n 16) (hx : x < 2 ^ n) :
    Calls Tryd.prog 54 #[.slice (some ⟨b1, o1, none⟩) n cap, .int .i64 (x : Int)] w fun e w' => e = .returned (.int .i64 (ew (zN zs) n x : Int)) ∧ Below w.heap.size w w' := by
  refine (callsIn_wide (n := 6)).1 ?_
  have hFW : ∀ f, Fence.wide.fn f := fun _ => trivial
  have hFD : Fence.wide.depth.isSome = false := rfl
  have HA := Lib.hid h
  have HZ := Lib.hid hz
  have HX := Lib.hid hx
  have HB := Lib.hid hb
  clear h hz hx hb
  refine callsIn_of_wp_marks Tryd.func54 rfl trivial ?_ rfl
  simp only [Tryd.ntmps54, List.size_toArray, List.length_cons, List.length_nil, Nat.reduceAdd, Nat.reduceSub, Array.replicate_succ, Array.replicate_zero, List.push_toArray, List.append_toArray, List.nil_append, List.cons_append]
  gi_wp2_with (first | (gi_at_call 73; (with_reducible refine (callsIn_wide.2 (ix_impl (x : Int) _)).mono ?_); rintro e w' ⟨rfl, rfl⟩) | fail)
  have bR := ((Boxed.new w 22 (.slice (some ⟨b1, o1, none⟩) n cap)).alloc (.cells #[.int .i64 0] 2)).alloc (.cells #[.int .i64 (x : Int)] 2)
  have bS := (Boxed.new (w.alloc (.cells #[.slice (some ⟨b1, o1, none⟩) n cap] 22)) 2 (.int .i64 0)).alloc (.cells #[.int .i64 (x : Int)] 2)
  have bX := Boxed.new ((w.alloc (.cells #[.slice (some ⟨b1, o1, none⟩) n cap] 22)).alloc (.cells #[.int .i64 0] 2)) 2 (.int .i64 (x : Int))
  simp only [World.size_alloc] at bS bX
  have hB0 : Below w.heap.size w (((w.alloc (.cells #[.slice (some ⟨b1, o1, none⟩) n cap] 22)).alloc (.cells #[.int .i64 0] 2)).alloc (.cells #[.int .i64 (x : Int)] 2)) := (((Below.refl _ w).alloc (Nat.le_refl _) _).alloc (by simp) _).alloc (by simp; omega) _
  have hsz : (((w.alloc (.cells #[.slice (some ⟨b1, o1, none⟩) n cap] 22)).alloc (.cells #[.int .i64 0] 2)).alloc (.cells #[.int .i64 (x : Int)] 2)).heap.size = w.heap.size + 3 := by simp
  obtain ⟨W0, hW0⟩ : ∃ W0, (((w.alloc (.cells #[.slice (some ⟨b1, o1, none⟩) n cap] 22)).alloc (.cells #[.int .i64 0] 2)).alloc (.cells #[.int .i64 (x : Int)] 2)) = W0 := ⟨_, rfl⟩
  rw [hW0] at bR bS bX hB0 hsz ⊢
  clear hW0
  have hb00 : Below w0.heap.size w0 W0 := HB.out.trans (hB0.mono HB.out.size)
  have hle := HB.out.size
  refine wpIn_rangeFunc_ownG rfl (by decide) (gf := 81) (lb := #[.pointer (some ⟨w.heap.size + 1 + 1, 0, none⟩)]) rfl trivial (enters_of Tryd.func81 (by kernel_rfl) rfl)
    (ix_stops 5 (w.heap.size + 1 + 1) n x HX.out hn w0 W0 hp hb00 (by omega) bX.cell) belowK_t (belowK_b (by omega)) (Below.refl _ _) (fun _ => rfl)
    (fun pre W => (Boxed W (w.heap.size + 1) 2 (.int .i64 (sx (zN zs) pre : Int)) ∧ Boxed W w.heap.size 22 (.slice (some ⟨b1, o1, none⟩) n cap)) ∧ Below w.heap.size w W)
    (fun _ _ _ => False)
    (OwnFrom.and (OwnFrom.and (Own.from (boxed_own _ _ _) _) (Own.from (boxed_own _ _ _) _)) (ownFrom_below (Nat.le_refl _) (by omega)))
    (fun _ _ _ _ _ hs _ _ => hs)
    ⟨⟨bS, bR⟩, hB0⟩
    (fun i => { tmps := #[.slice (some ⟨b1, o1, none⟩) n cap, .int .i64 (x : Int), .pointer (some ⟨w.heap.size, 0, none⟩), undef, .int .i64 0, .pointer (some ⟨w.heap.size + 1, 0, none⟩), .int .i64 (i.val : Int), .int .i64 (x : Int), .func (.func 81) #[] #[.pointer (some ⟨w.heap.size + 1 + 1, 0, none⟩)], .int .i64 (i.val : Int), undef, undef, undef, undef, undef, undef, undef], defers := [] }) ?assign ?body ?done ?stop
  case assign =>
    intro l i W K hK
    gi_wp2
    exact hK
  case body =>
    rintro l pre i W ⟨⟨bS1, bR1⟩, hB1⟩ _
    have hi := i.isLt
    obtain ⟨hb1, hck⟩ := irow_at HA.out hi
    obtain ⟨hzk, hzl⟩ := zN_at HZ.out hi
    rw [hzk] at hck
    have hck2 : W.cell? ⟨b1, o1 + i.val, none⟩ = some (.int .i64 (zN zs i.val : Int)) := (hB1.cell (p := ⟨b1, o1 + i.val, none⟩) hb1).trans hck
    have hsl := sx_lt (z := zN zs) (fun j hj => (zN_at HZ.out hj).2) pre
    have hx := b_xor (sx (zN zs) pre) (zN zs i.val) (by omega) (by omega)
    have cS := bS1.cell
    have fS := bS1.frozen
    have cR := bR1.cell
    have HS1 := Lib.hid (sx_snoc (zN zs) pre i)
    clear hzk hck
    have hmx : Tryd.prog.follows .mixedOrders = true := by kernel_rfl
    gi_wp2
    gi_region_with_o (fail)
    all_goals gi_wp2
    all_goals (try go_bits)
    all_goals exact ⟨((KeepsOthers.setCell _ _ _).trans (KeepsOthers.drew _)).from _, ((Below.refl w0.heap.size W).setCell (p := ⟨w.heap.size + 1, 0, none⟩) (Nat.le_succ_of_le hle) _).drew, ⟨(show Boxed (W.setCell ⟨w.heap.size + 1, 0, none⟩ _) (w.heap.size + 1) 2 _ from by rw [HS1.out]; exact bS1.set _), (show Boxed (W.setCell ⟨w.heap.size + 1, 0, none⟩ _) w.heap.size 22 _ from bR1.other (by omega) _)⟩, (hB1.setCell (p := ⟨w.heap.size + 1, 0, none⟩) (Nat.le_succ _) _).drew⟩
  case done =>
    rintro D ys W hD rfl ⟨⟨bS1, bR1⟩, hB1⟩ hK
    have cS := bS1.cell
    gi_wp2
    refine ⟨by simp, .inl ⟨_, _, rfl, run_takeDeferred hK, ?_⟩⟩
    exact ⟨_, results_tmp rfl _ _ _, rfl, hB1.trans (belowK_b (w := w) (Nat.le_refl _) W D _ _ (by omega) hK rfl rfl)⟩
  case stop =>
    rintro D c pre W _ _ h _
    exact h.elim
end Go.Proofs.YtjlifbnenngijaaDoor
