
/- How many words of a code have each weight: the program. -/
import Derived.Test.YtjlifbnenngijaaDoorWgm
set_option linter.unusedVariables false
namespace Go.Proofs.YtjlifbnenngijaaDoor
open Go.Proofs.YtjlifbnenngijaaDoor.Flo Go.RowKit Go.Shelf Go.Proofs.YtjlifbnenngijaaDoor.Pr
attribute [local go_sem] Oper.semAt_some

/-- A block of ints, told whole. -/
def Rwd (W : World) (g : Nat) (t : TypeId) (L : List Int) : Prop := W.heap[g]? = some (.cells (L.map (Value.int .i64)).toArray t (0, 0))
theorem Rwd.lt {W : World} {g : Nat} {t : TypeId} {L : List Int} (h : Rwd W g t L) : g < W.heap.size := (Array.getElem?_eq_some_iff.1 h).1
theorem Rwd.kept {W W' : World} {row : Option Nat} {g : Nat} {t : TypeId} {L : List Int} (h : Rwd W g t L) (hg : W.grownBy W' row) (hne : some g ≠ row) : Rwd W' g t L := (hg.block g h.lt hne).trans h
theorem Rwd.alloc {W : World} {g : Nat} {t : TypeId} {L : List Int} (h : Rwd W g t L) (o : Obj) : Rwd (W.alloc o) g t L := h.kept (World.grownBy_alloc W o none) (by simp)
theorem Rwd.below {W W' : World} {g : Nat} {t : TypeId} {L : List Int} (h : Rwd W g t L) (hb : Below W.heap.size W W') : Rwd W' g t L := (hb.block g h.lt).trans h
theorem Rwd.cell {W : World} {g : Nat} {t : TypeId} {L : List Int} (h : Rwd W g t L) {j : Nat} (hj : j < L.length) : W.cell? ⟨g, j, none⟩ = some (.int .i64 (L.getD j 0)) := by
  simp [World.cell?, show W.heap[g]? = _ from h, hj]
theorem Rwd.frozen {W : World} {g : Nat} {t : TypeId} {L : List Int} (h : Rwd W g t L) (j : Nat) : W.frozen? ⟨g, j, none⟩ = false := by simp [World.frozen?, show W.heap[g]? = _ from h]
theorem Rwd.set {W : World} {g : Nat} {t : TypeId} {L : List Int} (h : Rwd W g t L) (j : Nat) (x : Int) : Rwd (W.setCell ⟨g, j, none⟩ (.int .i64 x)) g t (L.set j x) := by
  obtain ⟨hlt, hk⟩ := Array.getElem?_eq_some_iff.1 h
  show (W.heap.modify g _)[g]? = _
  rw [Array.getElem?_eq_getElem (by rw [Array.size_modify]; exact hlt), Array.getElem_modify_self, hk]
  simp [List.map_set]
theorem grownBy_setCellJ (W : World) (b j : Nat) (v : Value) : W.grownBy (W.setCell ⟨b, j, none⟩ v) (some b) :=
  ⟨rfl, rfl, rfl, (KeepsWalks.setCell W _ v).size, fun k _ hk => Below.heap_setCell _ _ _ k (fun e => hk (by rw [e]))⟩
theorem Rwd.other {W : World} {g B : Nat} {t : TypeId} {L : List Int} (h : Rwd W g t L) (hne : g ≠ B) (j : Nat) (u : Value) : Rwd (W.setCell ⟨B, j, none⟩ u) g t L := h.kept (grownBy_setCellJ W B j u) (fun e => hne (by cases e; rfl))
theorem boxed_otherJ {W : World} {B B' : Nat} {t : TypeId} {v : Value} (h : Boxed W B t v) (hne : B ≠ B') (j : Nat) (u : Value) : Boxed (W.setCell ⟨B', j, none⟩ u) B t v := h.kept (grownBy_setCellJ W B' j u) (fun e => hne (by cases e; rfl))
theorem rwd_own {β : Type} (g : Nat) (t : TypeId) (f : β → List Int) : Own (fun s W => Rwd W g t (f s)) := fun s X Y row hs hg hrow =>
  hs.kept hg (fun e' => by obtain ⟨o, ho, hc⟩ := hrow g e'.symm; rw [show X.heap[g]? = _ from hs] at ho; cases ho; cases hc)
theorem Rwd.icl {W : World} {g n : Nat} {t : TypeId} {L : List Int} (h : Rwd W g t L) (hn : L.length = n) : ICl W g n L := ⟨h.lt, hn, fun i hi => ⟨h.cell (by show i < L.length; rw [hn]; exact hi), h.frozen i⟩⟩
theorem rwd_made (w : World) (n : Nat) (T : TypeId) : Rwd (w.alloc (.cells (madeCells #[Value.int .i64 0] n) T)) w.heap.size T (List.replicate n 0) := by
  unfold Rwd
  rw [World.alloc_heap_new, made_eq6]
  simp
theorem rwd_putObj {W : World} {g l : Nat} {t : TypeId} {L : List Int} {o : Obj} (o' : Obj) (h : Rwd W g t L) (hl : W.heap[l]? = some o) (ho : o.isCells = false) : Rwd (W.putObj l o') g t L :=
  h.kept (grownBy_putObj' W l o') (fun e => by cases e; rw [show W.heap[g]? = _ from h] at hl; cases hl; cases ho)
/-- How many of some words have the weight j. -/
def cwl (z : Nat → Nat) (n : Nat) {N : Nat} (pre : List (Fin N)) (j : Nat) : Nat := (pre.filter fun y => wt (ew z n y.val) == j).length
theorem cwl_snoc (z : Nat → Nat) (n : Nat) {N : Nat} (pre : List (Fin N)) (y : Fin N) (j : Nat) : cwl z n (pre ++ [y]) j = cwl z n pre j + if wt (ew z n y.val) = j then 1 else 0 := by
  unfold cwl
  rw [List.filter_append, List.length_append]
  by_cases e : wt (ew z n y.val) = j
  · rw [if_pos e]; simp [e]
  · rw [if_neg e]; simp [e]
theorem cwl_le (z : Nat → Nat) (n : Nat) {N : Nat} (pre : List (Fin N)) (j : Nat) : cwl z n pre j ≤ pre.length := List.length_filter_le _ _
theorem cwl_up (z : Nat → Nat) (n N j : Nat) : ∀ k, k ≤ N → cwl z n (upF N k) j = cw z n k j
  | 0, _ => rfl
  | k + 1, h => by
    rw [upF_succ (show k < N by omega), cwl_snoc, cwl_up z n N j k (by omega)]
    rfl
def clL (z : Nat → Nat) (n m : Nat) {N : Nat} (pre : List (Fin N)) : List Int := (List.range (m + 1)).map fun j => ((cwl z n pre j : Nat) : Int)
theorem clL_len (z : Nat → Nat) (n m : Nat) {N : Nat} (pre : List (Fin N)) : (clL z n m pre).length = m + 1 := by unfold clL; simp
theorem clL_get (z : Nat → Nat) (n m : Nat) {N : Nat} (pre : List (Fin N)) {j : Nat} (h : j < m + 1) : (clL z n m pre).getD j 0 = ((cwl z n pre j : Nat) : Int) := by
  unfold clL
  rw [List.getD_eq_getElem?_getD]
  simp [h]
theorem clL_nil (z : Nat → Nat) (n m N : Nat) : clL z n m ([] : List (Fin N)) = List.replicate (m + 1) 0 := by
  apply List.ext_getElem
  · simp [clL]
  · intro i h1 h2
    simp [clL, cwl]
theorem clL_set (z : Nat → Nat) (n m : Nat) {N : Nat} (pre : List (Fin N)) (y : Fin N) (h : wt (ew z n y.val) < m + 1) : (clL z n m pre).set (wt (ew z n y.val)) ((cwl z n pre (wt (ew z n y.val)) + 1 : Nat) : Int) = clL z n m (pre ++ [y]) := by
  apply List.ext_getElem
  · simp [clL]
  · intro i h1 h2
    simp only [clL, List.getElem_set, List.getElem_map, List.getElem_range, cwl_snoc]
    by_cases e : wt (ew z n y.val) = i
    · rw [if_pos e, if_pos e, e]
    · rw [if_neg e, if_neg e, Nat.add_zero]
theorem clL_up (z : Nat → Nat) (n m N : Nat) : clL z n m (upF N N) = cL z n m N := by
  unfold clL cL
  simp only [cwl_up z n N _ N (Nat.le_refl _)]
set_option maxRecDepth 100000 in
set_option maxHeartbeats 4000000 in
theorem wg_implNo (r : Int) (a : Option Addr) (n cap : Nat) (zs : List Int) (w0 w : World) (hp : Db w0) (hb0 : Below w0.heap.size w0 w) (h : IRow w a n zs) (hn : n ≤ 1048576) (hok : paB r zs n = false) : Calls Tryd.prog 31 #[.agg #[.int .i64 r, .slice a n cap]] w fun e w' => e = .returned (.tuple #[.slice none 0 0, .bool false]) ∧ Below w.heap.size w w' := by
  have HC := Lib.hid (Kin.new (w := w) (x := .int .i64 r) (y := .slice a n cap) (T := 24))
  have HA := Lib.hid (h.alloc (.cells #[.int .i64 r, .slice a n cap] 24))
  have HIS : Hid (Calls Tryd.prog 52 #[.agg #[.int .i64 r, .slice a n cap]] (w.alloc (.cells #[.int .i64 r, .slice a n cap] 24)) fun e w' => e = .returned (.bool false) ∧ Below (w.alloc (.cells #[.int .i64 r, .slice a n cap] 24)).heap.size (w.alloc (.cells #[.int .i64 r, .slice a n cap] 24)) w') := Lib.hid (by have := vp_impl r a n cap zs (w.alloc (.cells #[.int .i64 r, .slice a n cap] 24)) (h.alloc _) hn; rw [hok] at this; exact this)
  clear h hok
  refine (callsIn_wide (n := 6)).1 ?_
  have hFW : ∀ f, Fence.wide.fn f := fun _ => trivial
  have hFD : Fence.wide.depth.isSome = false := rfl
  refine callsIn_of_wp_marks Tryd.func31 rfl trivial ?_ rfl
  simp only [Tryd.ntmps31, List.size_toArray, List.length_cons, List.length_nil, Nat.reduceAdd, Nat.reduceSub, Array.replicate_succ, Array.replicate_zero, List.push_toArray, List.append_toArray, List.nil_append, List.cons_append]
  gi_wp2_with fail
  refine (callsIn_wide.2 HIS.out).mono ?_
  rintro e w2 ⟨rfl, hb⟩
  have HB := Lib.hid (Below.next (below_alloc _ _ : Below w.heap.size w (w.alloc (.cells #[.int .i64 r, .slice a n cap] 24))) hb)
  gi_wp2
  exact ⟨.tuple #[.slice none 0 0, .bool false], by simp [results, Tryd.f31, go_sem], rfl, HB.out⟩
set_option maxRecDepth 100000 in
set_option maxHeartbeats 4000000 in
theorem wg_implYesC (r : Int) (a : Option Addr) (n cap : Nat) (zs : List Int) (w0 w : World) (hp : Db w0) (hb0 : Below w0.heap.size w0 w) (h : IRow w a n zs) (hn : n ≤ 1048576) (hok : paB r zs n = true) : Calls Tryd.prog 31 #[.agg #[.int .i64 r, .slice a n cap]] w fun e w' => ∃ g, e = .returned (.tuple #[.slice (some ⟨g, 0, none⟩) (wgN r) (wgN r), .bool true]) ∧ New w w' g (.il (wgN r) (wgL r zs n)) := by
  obtain ⟨⟨hr1, hr2⟩, ⟨hn1, hn8⟩, hwz, _⟩ := pa_out hok
  obtain ⟨m, rfl⟩ : ∃ m : Nat, r = (m : Int) := ⟨r.toNat, by omega⟩
  unfold wgN wgL
  rw [Int.toNat_natCast] at hwz ⊢
  have hm16 : m ≤ 16 := by omega
  obtain ⟨b1, o1, rfl⟩ := irow_some h hn1
  have hbw := (irow_at h hn1).1
  obtain ⟨N, hN⟩ : ∃ N, 2 ^ n = N := ⟨_, rfl⟩
  have hp8 : 2 ^ n ≤ 2 ^ 8 := Nat.pow_le_pow_right (by decide) hn8
  have hN8 : N ≤ 256 := by omega
  have HN := Lib.hid hN
  have HB00 := Lib.hid hb0
  have HZ := Lib.hid (woP_wide hwz hm16)
  have HWT := Lib.hid (fun y => wt_pow (ew_lt (z := zN zs) (n := n) (m := m) (fun i hi => (zN_at hwz hi).2) y))
  have HE16 := Lib.hid (fun y => (ew_lt (z := zN zs) (n := n) (m := 16) (fun i hi => (zN_at (woP_wide hwz hm16) hi).2) y))
  have HC := Lib.hid (Kin.new (w := w) (x := .int .i64 (m : Int)) (y := .slice (some ⟨b1, o1, none⟩) n cap) (T := 24))
  have HA := Lib.hid (h.alloc (.cells #[.int .i64 (m : Int), .slice (some ⟨b1, o1, none⟩) n cap] 24))
  have HIS : Hid (Calls Tryd.prog 52 #[.agg #[.int .i64 (m : Int), .slice (some ⟨b1, o1, none⟩) n cap]] (w.alloc (.cells #[.int .i64 (m : Int), .slice (some ⟨b1, o1, none⟩) n cap] 24)) fun e w' => e = .returned (.bool true) ∧ Below (w.alloc (.cells #[.int .i64 (m : Int), .slice (some ⟨b1, o1, none⟩) n cap] 24)).heap.size (w.alloc (.cells #[.int .i64 (m : Int), .slice (some ⟨b1, o1, none⟩) n cap] 24)) w') := Lib.hid (by have := vp_impl (m : Int) (some ⟨b1, o1, none⟩) n cap zs (w.alloc (.cells #[.int .i64 (m : Int), .slice (some ⟨b1, o1, none⟩) n cap] 24)) (h.alloc _) hn; rw [hok] at this; exact this)
  obtain ⟨M, hM⟩ : ∃ M, M = m + 1 := ⟨_, rfl⟩
  have hwm : IntKind.i64.wrap ((m : Int) + 1) = (M : Int) := by rw [IntWalk.i64_in _ (by omega)]; omega
  have hmM : (m : Int) + 1 = (M : Int) := by omega
  have hmk := fun w9 : World => run_make_row' (P := Tryd.prog) 22 2 (.int .i64 0) 8 Tryd.underlying22 Tryd.info64 rfl .i64 .i64 M (by omega) (by omega) w9
  have HM := Lib.hid hM
  rw [hN]
  rw [← hM]
  clear h hok hwz hN hp8 hb0 hM
  refine (callsIn_wide (n := 6)).1 ?_
  have hFW : ∀ f, Fence.wide.fn f := fun _ => trivial
  have hFD : Fence.wide.depth.isSome = false := rfl
  refine callsIn_of_wp_marks Tryd.func31 rfl trivial ?_ rfl
  simp only [Tryd.ntmps31, List.size_toArray, List.length_cons, List.length_nil, Nat.reduceAdd, Nat.reduceSub, Array.replicate_succ, Array.replicate_zero, List.push_toArray, List.append_toArray, List.nil_append, List.cons_append]
  gi_wp2_with fail
  refine (callsIn_wide.2 HIS.out).mono ?_
  rintro e w2 ⟨rfl, hb⟩
  have hB2 : Below w.heap.size w w2 := Below.next (below_alloc _ _ : Below w.heap.size w (w.alloc (.cells #[.int .i64 (m : Int), .slice (some ⟨b1, o1, none⟩) n cap] 24))) hb
  have HK2 := Lib.hid (HC.out.below hb)
  have HA2 := Lib.hid (HA.out.below hb)
  have hk0 := HK2.out.2.1
  have hk1 := HK2.out.2.2.1
  have hs2 : w.heap.size + 1 ≤ w2.heap.size := by have := hb.size; simpa using this
  have hs3 : w.heap.size < w2.heap.size := by omega
  have hs4 : w.heap.size < w2.heap.size + 1 := by omega
  clear hb
  gi_wp2_with (first | (gi_at_call 57; (with_reducible refine (callsIn_wide.2 (wc_impl2 (m : Int) _ n cap _)).mono ?_); rintro e w' ⟨rfl, rfl⟩) | fail)
  clear hwm hmM hmk
  have rG := ((rwd_made w2 M 2).alloc (.cells #[.slice (some ⟨w2.heap.size, 0, none⟩) M M] 22)).alloc (.cells #[.int .i64 (m : Int), .slice (some ⟨b1, o1, none⟩) n cap] 24)
  have bW := (Boxed.new (w2.alloc (.cells (madeCells #[Value.int .i64 0] M) 2)) 22 (.slice (some ⟨w2.heap.size, 0, none⟩) M M)).alloc (.cells #[.int .i64 (m : Int), .slice (some ⟨b1, o1, none⟩) n cap] 24)
  have hc3 : (((w2.alloc (.cells (madeCells #[Value.int .i64 0] M) 2)).alloc (.cells #[.slice (some ⟨w2.heap.size, 0, none⟩) M M] 22)).alloc (.cells #[.int .i64 (m : Int), .slice (some ⟨b1, o1, none⟩) n cap] 24)).cell? ⟨w2.heap.size + 1 + 1, 1, none⟩ = some (.slice (some ⟨b1, o1, none⟩) n cap) := by
    have := (Kin.new (w := ((w2.alloc (.cells (madeCells #[Value.int .i64 0] M) 2)).alloc (.cells #[.slice (some ⟨w2.heap.size, 0, none⟩) M M] 22))) (x := .int .i64 (m : Int)) (y := .slice (some ⟨b1, o1, none⟩) n cap) (T := 24)).2.2.1
    simpa using this
  have hB3 : Below w.heap.size w (((w2.alloc (.cells (madeCells #[Value.int .i64 0] M) 2)).alloc (.cells #[.slice (some ⟨w2.heap.size, 0, none⟩) M M] 22)).alloc (.cells #[.int .i64 (m : Int), .slice (some ⟨b1, o1, none⟩) n cap] 24)) := Below.next (Below.next (Below.next hB2 (below_alloc _ _)) (below_alloc _ _)) (below_alloc _ _)
  have HA3 := Lib.hid (((HA2.out.alloc (.cells (madeCells #[Value.int .i64 0] M) 2)).alloc (.cells #[.slice (some ⟨w2.heap.size, 0, none⟩) M M] 22)).alloc (.cells #[.int .i64 (m : Int), .slice (some ⟨b1, o1, none⟩) n cap] 24))
  have hsz3 : (((w2.alloc (.cells (madeCells #[Value.int .i64 0] M) 2)).alloc (.cells #[.slice (some ⟨w2.heap.size, 0, none⟩) M M] 22)).alloc (.cells #[.int .i64 (m : Int), .slice (some ⟨b1, o1, none⟩) n cap] 24)).heap.size = w2.heap.size + 3 := by simp
  simp only [World.size_alloc] at bW
  clear hk0 hk1 HK2 HA2 HC HA HIS
  generalize (((w2.alloc (.cells (madeCells #[Value.int .i64 0] M) 2)).alloc (.cells #[.slice (some ⟨w2.heap.size, 0, none⟩) M M] 22)).alloc (.cells #[.int .i64 (m : Int), .slice (some ⟨b1, o1, none⟩) n cap] 24)) = W0 at rG bW hc3 hB3 HA3 hsz3 ⊢
  have hb03 : Below w0.heap.size w0 W0 := HB00.out.trans (hB3.mono HB00.out.size)
  have hgo : w.heap.size ≤ w2.heap.size := by omega
  generalize w2.heap.size = g at rG bW hc3 hsz3 hgo ⊢
  refine wpIn_rangeFunc_ownG rfl (by decide) (gf := 77) (lb := #[.pointer (some ⟨g + 1 + 1, 0, none⟩)]) rfl trivial (enters_of Tryd.func77 (by kernel_rfl) rfl)
    (wc_stops 5 (g + 1 + 1) w.heap.size b1 o1 n cap N zs w0 W0 hp hb03 HB00.out.size (by omega) (by omega) hc3 HA3.out hbw hn8 HZ.out HN.out) kpB_t (kpB_b (by omega) (by omega)) (Below.refl _ _) (fun _ => rfl)
    (fun pre W => (Boxed W (g + 1) 22 (.slice (some ⟨g, 0, none⟩) M M) ∧ Rwd W g 2 (clL (zN zs) n m pre)) ∧ Below w.heap.size w W)
    (fun _ _ _ => False)
    (OwnFrom.and (OwnFrom.and (Own.from (boxed_own _ _ _) _) (Own.from (rwd_own _ _ _) _)) (ownFrom_below (Nat.le_refl _) (by omega)))
    (fun _ _ _ _ _ hs _ _ => hs)
    ⟨⟨bW, by rw [clL_nil, ← HM.out]; exact rG⟩, hB3⟩
    (fun y => { tmps := #[.agg #[.int .i64 (m : Int), .slice (some ⟨b1, o1, none⟩) n cap], .pointer (some ⟨w.heap.size, 0, none⟩), .slice none 0 0, .bool false, .pointer (some ⟨g + 1, 0, none⟩), undef, .int .i64 (ew (zN zs) n y.val : Int), .agg #[.int .i64 (m : Int), .slice (some ⟨b1, o1, none⟩) n cap], .bool true, .bool false, .pointer (some ⟨w.heap.size, 0, none⟩), .int .i64 (m : Int), .int .i64 (M : Int), .slice (some ⟨g, 0, none⟩) M M, .agg #[.int .i64 (m : Int), .slice (some ⟨b1, o1, none⟩) n cap], .func (.func 77) #[] #[.pointer (some ⟨g + 1 + 1, 0, none⟩)], .int .i64 (y.val : Int), .int .i64 (ew (zN zs) n y.val : Int), undef, undef, undef, undef, undef, undef, undef, undef], defers := [] }) ?assign ?body ?done ?stop
  case assign =>
    intro l y W K hK
    gi_wp2
    exact hK
  case body =>
    rintro l pre y W ⟨⟨bW4, rG4⟩, hB4⟩ hlen
    have hmx : Tryd.prog.follows .mixedOrders = true := by kernel_rfl
    have cW := bW4.cell
    have hwt := HWT.out y.val
    have hwM : wt (ew (zN zs) n y.val) < M := by have := HM.out; omega
    have hc1 := rG4.cell (j := wt (ew (zN zs) n y.val)) (by rw [clL_len, ← HM.out]; exact hwM)
    rw [clL_get (zN zs) n m pre (by have := HM.out; omega)] at hc1
    have hf1 := rG4.frozen (wt (ew (zN zs) n y.val))
    have hle := cwl_le (zN zs) n pre (wt (ew (zN zs) n y.val))
    have HS : Hid ((clL (zN zs) n m pre).set (wt (ew (zN zs) n y.val)) (((cwl (zN zs) n pre (wt (ew (zN zs) n y.val)) + 1 : Nat) : Int)) = clL (zN zs) n m (pre ++ [y])) := Lib.hid (clL_set (zN zs) n m pre y (by have := HM.out; omega))
    have HWO : Hid (∀ n2 (w3 : World), CallsIn Fence.wide n2 Tryd.prog 44 #[.int .i64 (ew (zN zs) n y.val : Int)] w3 fun e w' => e = .returned (.int .i64 (wt (ew (zN zs) n y.val) : Int)) ∧ w3 = w') := Lib.hid (fun n2 w3 => callsIn_wide.2 (wo_impl _ w3 (HE16.out y.val)))
    generalize cwl (zN zs) n pre (wt (ew (zN zs) n y.val)) = c at hc1 hle HS
    generalize hqq : wt (ew (zN zs) n y.val) = q at hwt hwM hc1 hf1 HS HWO
    clear hqq
    generalize ew (zN zs) n y.val = E at HWO
    have hwc : IntKind.i64.wrap ((c : Int) + 1) = ((c + 1 : Nat) : Int) := by rw [IntWalk.i64_in _ (by omega)]; omega
    have hcn : (c : Int) + 1 = ((c + 1 : Nat) : Int) := by omega
    have HP := Lib.hid (rG4.set q ((c + 1 : Nat) : Int))
    rw [HS.out] at HP
    have HBX := Lib.hid (boxed_otherJ bW4 (show g + 1 ≠ g by omega) q (.int .i64 ((c + 1 : Nat) : Int)))
    have hb1 : c + 1 ≤ 1000 := by omega
    generalize c + 1 = c1 at hwc hcn HP HBX hb1
    have hw64 : IntKind.i64.wrap (c1 : Int) = (c1 : Int) := IntWalk.i64_in _ (by omega)
    have hw65 : wrap64 (c1 : Int) = (c1 : Int) := by unfold wrap64; omega
    clear HS hlen
    gi_wp2
    gi_region_with_o (gi_at_call 44; (with_reducible refine (CallsIn.inRound l (HWO.out _ _)).mono ?_); rintro e w' ⟨rfl, hw⟩; subst hw)
    all_goals gi_wp2
    all_goals (try go_bits)
    all_goals exact ⟨((KeepsOthers.setCell _ _ _).trans (KeepsOthers.drew _)).from _, ⟨((Below.refl w.heap.size W).setCell (p := ⟨g, q, none⟩) hgo _).drew, (show (W.setCell ⟨g, q, none⟩ _).heap[g + 1 + 1]? = _ from Below.heap_setCell _ _ _ _ (fun e => by have e2 : g + 1 + 1 = g := e; omega))⟩, ⟨(show Boxed (W.setCell ⟨g, q, none⟩ _) _ _ _ from HBX.out), (show Rwd (W.setCell ⟨g, q, none⟩ _) _ _ _ from HP.out)⟩, (hB4.setCell (p := ⟨g, q, none⟩) hgo _).drew⟩
  case done =>
    rintro D ys W hD rfl ⟨⟨bW4, rG4⟩, hB4⟩ hK
    have cW := bW4.cell
    have HRG : Hid (Rwd W g 2 (cL (zN zs) n m N)) := Lib.hid (by rw [← clL_up]; exact rG4)
    have HML := Lib.hid (show (cL (zN zs) n m N).length = M by rw [cL_len, HM.out])
    clear rG4
    gi_wp2
    refine ⟨by simp, .inl ⟨_, _, rfl, run_takeDeferred hK, ?_⟩⟩
    refine ⟨.tuple #[.slice (some ⟨g, 0, none⟩) M M, .bool true], by simp [results, Tryd.f31, go_sem], g, rfl, hgo, ?_, ?_⟩
    · exact (rwd_putObj _ HRG.out hK rfl).lt
    · exact ⟨((rwd_putObj _ HRG.out hK rfl).icl HML.out).2, hB4.trans (belowK_b (w := w) (Nat.le_refl _) W D _ _ (by omega) hK rfl rfl)⟩
  case stop =>
    rintro D c pre W _ _ h _
    exact h.elim
theorem wg_implYes (r : Int) (a : Option Addr) (n cap : Nat) (zs : List Int) (w0 w : World) (hp : Db w0) (hb0 : Below w0.heap.size w0 w) (h : IRow w a n zs) (hn : n ≤ 1048576) (hok : paB r zs n = true) : Calls Tryd.prog 31 #[.agg #[.int .i64 r, .slice a n cap]] w fun e w' => ∃ g cp, e = .returned (.tuple #[.slice (some ⟨g, 0, none⟩) (wgN r) cp, .bool true]) ∧ New w w' g (.il (wgN r) (wgL r zs n)) :=
  (wg_implYesC r a n cap zs w0 w hp hb0 h hn hok).mono fun _ _ ⟨g, h1, h2⟩ => ⟨g, _, h1, h2⟩
end Go.Proofs.YtjlifbnenngijaaDoor
