/- Leaders: the program. -/
import Derived.Test.YtaefmffmjbabcaaLds
import Derived.Test.YtaefmffmjbabcaaRpm
import Derived.Test.YtaefmffmjbabcaaLvm
import Derived.Test.YtaefmffmjbabcaaWow6
import Derived.Test.YtaefmffmjbabcaaDud
import Derived.Scope
set_option linter.unusedVariables false
namespace Go.Proofs.Ytaefmffmjbabcaa
open Go.Proofs.Ytaefmffmjbabcaa.Flo Go.RowKit Go.Shelf Go.Proofs.Ytaefmffmjbabcaa.Pr
attribute [local go_sem] Oper.semAt_some

theorem wtF_pow8 : ∀ (f m x : Nat), x < 2 ^ m → wtF f x ≤ m
  | 0, _, _, _ => Nat.zero_le _
  | f + 1, 0, x, h => by
    have : x = 0 := by have : x < 1 := h; omega
    subst this; rw [wtF_zero]; exact Nat.le_refl _
  | f + 1, m + 1, x, h => by
    have := wtF_pow8 f m (x / 2) (by rw [Nat.pow_succ] at h; omega)
    show x % 2 + wtF f (x / 2) ≤ m + 1
    omega
theorem wt_pow8 {m x : Nat} (h : x < 2 ^ m) : wt x ≤ m := wtF_pow8 16 m x h
/-- A block with n ints in it, that may be written. -/
def Rip (W : World) (g n : Nat) (f : Nat → Int) : Prop := (∃ o, W.heap[g]? = some o ∧ o.isCells = true) ∧ ∀ i, i < n → W.cell? ⟨g, i, none⟩ = some (.int .i64 (f i)) ∧ W.frozen? ⟨g, i, none⟩ = false
theorem Rip.lt {W : World} {g n : Nat} {f : Nat → Int} (h : Rip W g n f) : g < W.heap.size := by obtain ⟨⟨o, ho, _⟩, _⟩ := h; exact (Array.getElem?_eq_some_iff.1 ho).1
theorem Rip.block {W W' : World} {g n : Nat} {f : Nat → Int} (h : Rip W g n f) (hb : W'.heap[g]? = W.heap[g]?) : Rip W' g n f := by
  refine ⟨by rw [hb]; exact h.1, fun i hi => ⟨(World.cell?_of_block (a := ⟨g, i, none⟩) hb).trans (h.2 i hi).1, ?_⟩⟩
  have : W'.frozen? ⟨g, i, none⟩ = W.frozen? ⟨g, i, none⟩ := by simp only [World.frozen?, hb]
  exact this.trans (h.2 i hi).2
theorem Rip.kept {W W' : World} {row : Option Nat} {g n : Nat} {f : Nat → Int} (h : Rip W g n f) (hg : W.grownBy W' row) (hne : some g ≠ row) : Rip W' g n f := h.block (hg.block g h.lt hne)
theorem Rip.alloc {W : World} {g n : Nat} {f : Nat → Int} (h : Rip W g n f) (o : Obj) : Rip (W.alloc o) g n f := h.kept (World.grownBy_alloc W o none) (by simp)
theorem Rip.below {W W' : World} {g n : Nat} {f : Nat → Int} (h : Rip W g n f) (hb : Below W.heap.size W W') : Rip W' g n f := h.block (hb.block g h.lt)
theorem grownBy_setCellL (W : World) (b j : Nat) (v : Value) : W.grownBy (W.setCell ⟨b, j, none⟩ v) (some b) :=
  ⟨rfl, rfl, rfl, (KeepsWalks.setCell W _ v).size, fun k _ hk => Below.heap_setCell _ _ _ k (fun e => hk (by rw [e]))⟩
theorem Rip.other {W : World} {g n B : Nat} {f : Nat → Int} (h : Rip W g n f) (hne : g ≠ B) (j : Nat) (u : Value) : Rip (W.setCell ⟨B, j, none⟩ u) g n f := h.kept (grownBy_setCellL W B j u) (fun e => hne (by cases e; rfl))
theorem boxedL_other {W : World} {B B' : Nat} {t : TypeId} {v : Value} (h : Boxed W B t v) (hne : B ≠ B') (j : Nat) (u : Value) : Boxed (W.setCell ⟨B', j, none⟩ u) B t v := h.kept (grownBy_setCellL W B' j u) (fun e => hne (by cases e; rfl))
theorem Rip.set {W : World} {g n j : Nat} {f : Nat → Int} (h : Rip W g n f) (v : Int) : Rip (W.setCell ⟨g, j, none⟩ (.int .i64 v)) g n (fun i => if i = j then v else f i) := by
  refine ⟨?_, fun i hi => ⟨?_, by rw [World.frozen?_setCell]; exact (h.2 i hi).2⟩⟩
  · obtain ⟨o, ho, hc⟩ := h.1
    cases o <;> simp_all [World.setCell, Array.getElem?_modify, Obj.isCells]
  · show _ = some (Value.int .i64 (if i = j then v else f i))
    by_cases e : i = j
    · subst e
      rw [World.cell?_setCell_same (h := (h.2 i hi).1), if_pos rfl]
    · rw [World.cell?_setCell_other (h := fun e2 => e (by injection e2 with _ e3 _; exact e3.symm)), if_neg e]; exact (h.2 i hi).1
theorem Rip.congr {W : World} {g n : Nat} {f f2 : Nat → Int} (h : Rip W g n f) (e : ∀ i, i < n → f i = f2 i) : Rip W g n f2 := ⟨h.1, fun i hi => by rw [← e i hi]; exact h.2 i hi⟩
theorem rip_own {β : Type} (g n : Nat) (f : β → Nat → Int) : Own (fun s W => Rip W g n (f s)) := fun s X Y row hs hg hrow =>
  hs.kept hg (fun e' => by obtain ⟨o, ho, hc⟩ := hrow g e'.symm; obtain ⟨o2, ho2, hc2⟩ := hs.1; rw [ho2] at ho; cases ho; rw [hc2] at hc; cases hc)
theorem Rip.of {W : World} {g n : Nat} {L : List Int} (h : ICl W g n L) (hn : 1 ≤ n) : Rip W g n (fun s => L.getD s 0) := by
  refine ⟨?_, fun i hi => h.cell hi⟩
  have h0 := (h.cell (show 0 < n by omega)).1
  have hl := h.1
  refine ⟨W.heap[g], Array.getElem?_eq_getElem hl, ?_⟩
  unfold World.cell? at h0
  rw [Array.getElem?_eq_getElem hl] at h0
  cases ho : W.heap[g] <;> simp_all [Obj.isCells]
/-- A block that stays as it is. -/
theorem fix_own {β : Type} (b : Nat) (o : Obj) (hc : o.isCells = true) : Own (fun (_ : β) (W : World) => W.heap[b]? = some o) := fun s X Y row hs hg hrow => by
  refine (hg.block b (Array.getElem?_eq_some_iff.1 hs).1 (fun e' => ?_)).trans hs
  obtain ⟨o2, ho2, hc2⟩ := hrow b e'.symm
  rw [hs] at ho2
  cases ho2
  rw [hc] at hc2
  cases hc2
theorem ownFrom_marks {β : Type} {B : Nat} {Ds : List Nat} (h : ∀ E, E ∈ Ds → E < B) : OwnFrom B (fun (_ : β) W => ∀ E, E ∈ Ds → W.heap[E]? = some (.deferred (some []))) := fun s X Y row hs hg hr E hE =>
  (hg.block E (Array.getElem?_eq_some_iff.1 (hs E hE)).1 (fun e => absurd (hr E e.symm).1 (by have := h E hE; omega))).trans (hs E hE)
/-- The blocks that stay as they are. -/
def LdFx (p1 p4 g p6 : Nat) (o1 o4 og o6 : Obj) (W : World) : Prop := W.heap[p1]? = some o1 ∧ W.heap[p4]? = some o4 ∧ W.heap[g]? = some og ∧ W.heap[p6]? = some o6
theorem LdFx.own {β : Type} {p1 p4 g p6 : Nat} {o1 o4 og o6 : Obj} (h1 : o1.isCells = true) (h4 : o4.isCells = true) (hg : og.isCells = true) (h6 : o6.isCells = true) : Own (fun (_ : β) W => LdFx p1 p4 g p6 o1 o4 og o6 W) := fun s X Y row hs hgr hrow =>
  ⟨fix_own p1 o1 h1 s X Y row hs.1 hgr hrow, fix_own p4 o4 h4 s X Y row hs.2.1 hgr hrow, fix_own g og hg s X Y row hs.2.2.1 hgr hrow, fix_own p6 o6 h6 s X Y row hs.2.2.2 hgr hrow⟩
theorem LdFx.below {p1 p4 g p6 : Nat} {o1 o4 og o6 : Obj} {W W' : World} (h : LdFx p1 p4 g p6 o1 o4 og o6 W) (hb : Below W.heap.size W W') : LdFx p1 p4 g p6 o1 o4 og o6 W' :=
  ⟨(hb.block p1 (Array.getElem?_eq_some_iff.1 h.1).1).trans h.1, (hb.block p4 (Array.getElem?_eq_some_iff.1 h.2.1).1).trans h.2.1, (hb.block g (Array.getElem?_eq_some_iff.1 h.2.2.1).1).trans h.2.2.1, (hb.block p6 (Array.getElem?_eq_some_iff.1 h.2.2.2).1).trans h.2.2.2⟩
theorem LdFx.set {p1 p4 g p6 : Nat} {o1 o4 og o6 : Obj} {W : World} (h : LdFx p1 p4 g p6 o1 o4 og o6 W) {b : Nat} (h1 : p1 ≠ b) (h4 : p4 ≠ b) (hg : g ≠ b) (h6 : p6 ≠ b) (j : Nat) (v : Value) : LdFx p1 p4 g p6 o1 o4 og o6 (W.setCell ⟨b, j, none⟩ v) :=
  ⟨(Below.heap_setCell _ _ _ p1 h1).trans h.1, (Below.heap_setCell _ _ _ p4 h4).trans h.2.1, (Below.heap_setCell _ _ _ g hg).trans h.2.2.1, (Below.heap_setCell _ _ _ p6 h6).trans h.2.2.2⟩
theorem cells_of_cell {W : World} {b i : Nat} {v : Value} (h0 : W.cell? ⟨b, i, none⟩ = some v) : ∃ o, W.heap[b]? = some o ∧ o.isCells = true := by
  unfold World.cell? at h0
  cases ho : W.heap[b]? with
  | none => simp_all
  | some o => cases o <;> simp_all [Obj.isCells]
theorem Rip.not_open {W : World} {g n B : Nat} {f : Nat → Int} {Ds : List Nat} (h : Rip W g n f) (ho : Lvm.Open B W Ds) : g ∉ Ds := fun hm => by
  obtain ⟨o, h1, h2⟩ := h.1
  have h3 := (ho.2 g hm).2
  rw [h1] at h3
  cases h3
  cases h2
theorem range_at {M s : Nat} {F : Nat → Int} (h : s < M) : ((List.range M).map F).getD s 0 = F s := by simp [List.getD_eq_getElem?_getD, h]
theorem rip_new {w W : World} {g M : Nat} {F : Nat → Int} (h : Rip W g M F) (hg : w.heap.size ≤ g) (hb : Below w.heap.size w W) : New w W g (.il M ((List.range M).map F)) :=
  ⟨hg, h.lt, ⟨(by show ((List.range M).map F).length = M; simp), fun i hi => ⟨(h.2 i hi).1.trans (congrArg (fun z => some (Value.int .i64 z)) (range_at (show i < M from hi)).symm), (h.2 i hi).2⟩⟩, hb⟩
theorem mis_le (F : Nat → Int) : ∀ M, LdX.mis F M ≤ M
  | 0 => Nat.le_refl _
  | M + 1 => by
    have := mis_le F M
    show LdX.mis F M + (if F M = -1 then 1 else 0) ≤ M + 1
    split <;> omega
theorem stp_no {syn : Nat → Nat} {F : Nat → Int} {x : Nat} (h : F (syn x) ≠ -1) : LdX.stp syn F x = F := by
  funext s
  unfold LdX.stp
  rw [if_neg (fun e => h (by rw [← e.1]; exact e.2))]
/-- The leaders behind some words. -/
def imF (syn : Nat → Nat) (F : Nat → Int) {N : Nat} (l : List (Fin N)) : Nat → Int := l.foldl (fun F x => LdX.stp syn F x.val) F
theorem imF_snoc (syn : Nat → Nat) (F : Nat → Int) {N : Nat} (l : List (Fin N)) (x : Fin N) : imF syn F (l ++ [x]) = LdX.stp syn (imF syn F l) x.val := by unfold imF; rw [List.foldl_append]; rfl
theorem imF_lst {syn : Nat → Nat} {F : Nat → Int} {N q : Nat} (h : ∀ s, LdX.Lst wt syn (LdX.Seen wt N q 0) s (F s)) : ∀ m, m ≤ N → ∀ s, LdX.Lst wt syn (LdX.Seen wt N q m) s (imF syn F (wsF N q m) s)
  | 0, _ => h
  | m + 1, hm => by
    have ih := imF_lst h m (by omega)
    by_cases hq : wt m = q
    · rw [wsF_yes (show m < N by omega) hq]
      intro s
      rw [imF_snoc]
      exact LdX.stp_lst (show m < N by omega) hq ih s
    · rw [wsF_no (show m < N by omega) hq]
      intro s
      exact LdX.lst_congr (fun x => LdX.seen_no hq) (ih s)
set_option maxRecDepth 100000 in
set_option maxHeartbeats 8000000 in
theorem lo_implY (r : Int) (a : Option Addr) (n cap : Nat) (zs : List Int) (w : World) (h : IRow w a n zs) (hn : n ≤ 1048576) (hok : duB r zs n = true) :
    Calls Try.prog 16 #[.agg #[.int .i64 r, .slice a n cap]] w fun e w' => ∃ g L, e = .returned (.tuple #[.slice (some ⟨g, 0, none⟩) (2 ^ (duL r zs n).length) (2 ^ (duL r zs n).length), .bool true]) ∧ New w w' g (.il (2 ^ (duL r zs n).length) L) ∧ ∀ s, s < 2 ^ (duL r zs n).length → L.getD s 0 = LdX.ldM wt (fun x => od (zN (duL r zs n)) x (duL r zs n).length) (2 ^ r.toNat) s := by
  obtain ⟨⟨hr1, hr2⟩, ⟨hn1, hn8⟩, hwz, _⟩ := pa_out (duB_out hok).2
  obtain ⟨wd, rfl⟩ : ∃ m : Nat, r = (m : Int) := ⟨r.toNat, by omega⟩
  rw [Int.toNat_natCast] at hwz ⊢
  have hw16 : wd ≤ 16 := by omega
  have HDU := Lib.hid (du_implYes (wd : Int) a n cap zs _ (h.alloc (.cells #[.int .i64 (wd : Int), .slice a n cap] 28)) hn hok)
  have HK0 := Lib.hid (Kin.new (w := w) (x := .int .i64 (wd : Int)) (y := .slice a n cap) (T := 28))
  clear h hok
  generalize hD : duL (wd : Int) zs n = D at *
  have HZ := Lib.hid (woP_wide hwz hw16)
  generalize hd : D.length = d at *
  clear hD hwz hd
  obtain ⟨M, hMM⟩ : ∃ M, M = 2 ^ d := ⟨_, rfl⟩
  obtain ⟨N, hNN⟩ : ∃ N, N = 2 ^ wd := ⟨_, rfl⟩
  rw [← hMM, ← hNN]
  have hp8 : M ≤ 256 := by rw [hMM]; exact Nat.pow_le_pow_right (by decide) hn8
  have hp16 : N ≤ 65536 := by rw [hNN]; exact Nat.pow_le_pow_right (by decide) hw16
  have hpos : 1 ≤ M := by rw [hMM]; exact Nat.one_le_two_pow
  have HSL : Hid (∀ x, od (zN D) x d < M) := Lib.hid (fun x => by rw [hMM]; exact od_lt _ _ _)
  have hM9 : M = 1 ∨ M = 2 ∨ M = 4 ∨ M = 8 ∨ M = 16 ∨ M = 32 ∨ M = 64 ∨ M = 128 ∨ M = 256 := by
    rw [hMM]
    have : d = 0 ∨ d = 1 ∨ d = 2 ∨ d = 3 ∨ d = 4 ∨ d = 5 ∨ d = 6 ∨ d = 7 ∨ d = 8 := by omega
    rcases this with rfl | rfl | rfl | rfl | rfl | rfl | rfl | rfl | rfl <;> decide
  have hwpM : IntKind.i64.wrap ((2 : Int) ^ d) = (M : Int) := by
    have e : (2 : Int) ^ d = (M : Int) := by rw [hMM]; simp
    rw [e]; exact IntWalk.i64_in _ (by omega)
  have hwu1 : IntKind.u64.wrap (d : Int) = (d : Int) := by rw [IntKind.wrap_u64]; omega
  have hmin1 : min d 64 = d := by omega
  have HWT : Hid (∀ x, x < N → wt x ≤ wd) := Lib.hid (fun x hx => wt_pow8 (by rw [← hNN]; exact hx))
  have HSY : Hid (∀ (x cp : Nat) (b : Nat) w2, x < 65536 → IRow w2 (some ⟨b, 0, none⟩) d D → Calls Try.prog 60 #[.slice (some ⟨b, 0, none⟩) d cp, .int .i64 (x : Int)] w2 fun e w' => e = .returned (.int .i64 (od (zN D) x d : Int)) ∧ w2 = w') := Lib.hid (fun x cp b w2 hx hh => od_impl2 _ d cp D x w2 hh (by omega) HZ.out hx)
  generalize hsyn : (fun x => od (zN D) x d) = syn
  have hsy : ∀ x, od (zN D) x d = syn x := fun x => by rw [← hsyn]
  simp only [hsy] at HSL HSY
  have HNN := Lib.hid hNN
  clear hMM hNN hsyn hsy HZ
  refine (callsIn_wide (n := 6)).1 ?_
  have hFW : ∀ f, Fence.wide.fn f := fun _ => trivial
  have hFD : Fence.wide.depth.isSome = false := rfl
  have hmx : Try.prog.follows .mixedOrders = true := by kernel_rfl
  refine callsIn_of_wp_marks Try.func16 rfl trivial ?_ rfl
  simp only [Try.ntmps16, List.size_toArray, List.length_cons, List.length_nil, Nat.reduceAdd, Nat.reduceSub, Array.replicate_succ, Array.replicate_zero, List.push_toArray, List.append_toArray, List.nil_append, List.cons_append]
  have hk0 := HK0.out
  gi_wp2
  refine wpIn_wide.2 (wp_scope_straight ((wpIn_wide (n := 6)).1 ?_))
  gi_wp2_with fail
  refine (callsIn_wide.2 HDU.out).mono ?_
  rintro e w2 ⟨g, cp, rfl, hnew⟩
  have HNW := Lib.hid hnew
  have HK2 := Lib.hid ((HK0.out.below hnew.2.2.2).below (below_alloc w2 (.cells #[.int .i64 (wd : Int), .slice (some ⟨g, 0, none⟩) d cp] 28)))
  clear hnew HDU HK0 hk0
  have HKD := Lib.hid (Kin.new (w := w2) (x := .int .i64 (wd : Int)) (y := .slice (some ⟨g, 0, none⟩) d cp) (T := 28))
  have hRM := repeat_implM (w2.heap.size + 1) M ((w2.alloc (.cells #[.int .i64 (wd : Int), .slice (some ⟨g, 0, none⟩) d cp] 28)).alloc (.cells #[.int .i64 (-1)] 2)) (by have := heap_alloc_new (w2.alloc (.cells #[.int .i64 (wd : Int), .slice (some ⟨g, 0, none⟩) d cp] 28)) (.cells #[.int .i64 (-1)] 2); rw [World.size_alloc] at this; unfold World.cell?; rw [this]; rfl) hpos hM9
  gi_wp2_with fail
  refine (callsIn_wide.2 hRM).mono ?_
  rintro e w4 ⟨gl, rfl, hnew⟩
  have HNL := Lib.hid hnew
  have hB4 := ((below_alloc w2 (.cells #[.int .i64 (wd : Int), .slice (some ⟨g, 0, none⟩) d cp] 28)).trans ((below_alloc (w2.alloc (.cells #[.int .i64 (wd : Int), .slice (some ⟨g, 0, none⟩) d cp] 28)) (.cells #[.int .i64 (-1)] 2)).mono (by simp only [World.size_alloc]; omega)))
  have HB4 := Lib.hid (hB4.trans (hnew.2.2.2.mono (by simp only [World.size_alloc]; omega)))
  have HKD4 := Lib.hid ((HKD.out.below (below_alloc _ (.cells #[.int .i64 (-1)] 2))).below hnew.2.2.2)
  have HKP4 := Lib.hid ((HK2.out.below (below_alloc _ (.cells #[.int .i64 (-1)] 2))).below hnew.2.2.2)
  have hsz4 : w2.heap.size + 2 ≤ w4.heap.size := by have := hnew.2.2.2.size; simpa using this
  have hsz2 : w.heap.size + 1 ≤ w2.heap.size := by have := HNW.out.2.2.2.size; simpa using this
  have hk0 := HKP4.out.2.1
  have hk1 : w.heap.size < w4.heap.size := by omega
  have hk2 : w.heap.size < w4.heap.size + 1 := by omega
  have hwd1 : IntKind.i64.wrap ((wd : Int) + 1) = (wd : Int) + 1 := IntWalk.i64_in _ (by omega)
  clear hnew hB4 HKD HK2 hRM hwpM hwu1 hmin1 hM9
  gi_wp2_with fail
  refine wpIn_label ?_
  gi_wp2_with fail
  -- LOOP
  obtain ⟨W0, hW0⟩ : ∃ W0, W0 = (w4.alloc (.cells #[.slice (some ⟨gl, 0, none⟩) M M] 22)).alloc (.cells #[.int .i64 (M : Int)] 3) := ⟨_, rfl⟩
  have hsz0 : W0.heap.size = w4.heap.size + 2 := by rw [hW0]; simp
  have hB0 : Below w4.heap.size w4 W0 := by rw [hW0]; exact Below.next (below_alloc _ _) (below_alloc _ _)
  have hBx6 : Boxed W0 w4.heap.size 22 (.slice (some ⟨gl, 0, none⟩) M M) := by rw [hW0]; exact (Boxed.new w4 _ _).alloc _
  have hBx7 : Boxed W0 (w4.heap.size + 1) 3 (.int .i64 (M : Int)) := by rw [hW0]; have := Boxed.new (w4.alloc (.cells #[.slice (some ⟨gl, 0, none⟩) M M] 22)) 3 (.int .i64 (M : Int)); rwa [World.size_alloc] at this
  have hKP0 := HKP4.out.below hB0
  have hKD0 := HKD4.out.below hB0
  have hgr : w.heap.size + 1 ≤ g := by have := HNW.out.1; simpa using this
  have hg2 : g < w2.heap.size := HNW.out.2.1
  have hgl1 : w2.heap.size + 2 ≤ gl := by have := HNL.out.1; simpa using this
  have hgl2 : gl < w4.heap.size := HNL.out.2.1
  have hIC0 : ICl W0 g d D := ((ICl.of HNW.out).below (HB4.out.mono (Nat.le_refl _))).below hB0
  have hRip0 : Rip W0 gl M (fun s => (List.replicate M (-1 : Int)).getD s 0) := Rip.of ((ICl.of HNL.out).below hB0) hpos
  have hBW0 : Below w.heap.size w W0 := by
    have h1 : Below w.heap.size w w2 := Below.next (below_alloc _ _) HNW.out.2.2.2
    exact (h1.trans (HB4.out.mono h1.size)).trans (hB0.mono (by omega))
  rw [← hW0]
  clear hW0 HKP4 HKD4 HNW HNL HB4 hB0 hk0 hk1 hk2 hwd1
  obtain ⟨o1, hp1, ho1⟩ := cells_of_cell hKP0.2.1
  obtain ⟨o4, hp4, ho4⟩ := cells_of_cell hKD0.2.1
  obtain ⟨og, hpg, hog⟩ := cells_of_cell (hIC0.cell (show 0 < d by omega)).1
  obtain ⟨o6, hp6, ho6⟩ := cells_of_cell hBx6.cell
  have HFX : Hid (LdFx w.heap.size w2.heap.size g w4.heap.size o1 o4 og o6 W0) := Lib.hid ⟨hp1, hp4, hpg, hp6⟩
  have HAT : Hid (∀ W, LdFx w.heap.size w2.heap.size g w4.heap.size o1 o4 og o6 W → W.cell? ⟨w.heap.size, 0, none⟩ = some (.int .i64 (wd : Int)) ∧ W.cell? ⟨w2.heap.size, 1, none⟩ = some (.slice (some ⟨g, 0, none⟩) d cp) ∧ W.cell? ⟨w4.heap.size, 0, none⟩ = some (.slice (some ⟨gl, 0, none⟩) M M) ∧ IRow W (some ⟨g, 0, none⟩) d D ∧ w4.heap.size < W.heap.size) := Lib.hid (fun W hf => by
    obtain ⟨f1, f4, fg, f6⟩ := hf
    refine ⟨(World.cell?_of_block (a := ⟨_, 0, none⟩) (f1.trans hp1.symm)).trans hKP0.2.1, (World.cell?_of_block (a := ⟨_, 1, none⟩) (f4.trans hp4.symm)).trans hKD0.2.2.1, (World.cell?_of_block (a := ⟨_, 0, none⟩) (f6.trans hp6.symm)).trans hBx6.cell, ⟨hIC0.2.1, .inr ⟨g, 0, rfl, (Array.getElem?_eq_some_iff.1 fg).1, fun i hi => ?_⟩⟩, (Array.getElem?_eq_some_iff.1 f6).1⟩
    rw [Nat.zero_add]
    exact (World.cell?_of_block (a := ⟨g, i, none⟩) (fg.trans hpg.symm)).trans (hIC0.cell hi).1)
  have hRip : Rip W0 gl M (fun _ => (-1 : Int)) := hRip0.congr (fun i hi => rep_at hi)
  have HR0 := Lib.hid hRip
  have HX7 : Hid (Boxed W0 (w4.heap.size + 1) 3 (.int .i64 (LdX.mis (fun _ => (-1 : Int)) M : Int))) := Lib.hid (by rw [LdX.mis_none]; exact hBx7)
  have HBW0 := Lib.hid hBW0
  clear hp1 hp4 hpg hp6 hBx6 hBx7 hKP0 hKD0 hIC0 hRip0 hRip hBW0
  rename_i Q9 K9 hK9
  have HEND : Hid (∀ (u0 u2 u3 u5 u8 u9 u10 u11 u12 u13 u14 u15 u16 u17 u18 u19 u20 u21 u22 u23 u24 u25 u26 u27 u28 u29 u30 u31 u32 u33 u34 u35 u36 u37 u38 u39 u40 u41 u42 u43 u44 u45 u46 u47 u48 u49 u50 u51 u52 u53 u54 u55 : Value) (Ds : List Nat) (F : Nat → Int) (W : World), Hid (Lvm.Open (w4.heap.size + 2) W Ds) → Hid (∀ s, s < M → LdX.Lst wt syn (fun x => x < N) s (F s)) → Hid (Rip W gl M F) → Hid (LdFx w.heap.size w2.heap.size g w4.heap.size o1 o4 og o6 W) → Hid (Below w.heap.size w W) → K9 { tmps := #[u0, .pointer (some ⟨w.heap.size, 0, none⟩), u2, u3, .pointer (some ⟨w2.heap.size, 0, none⟩), u5, .pointer (some ⟨w4.heap.size, 0, none⟩), .pointer (some ⟨w4.heap.size + 1, 0, none⟩), u8, u9, u10, u11, u12, u13, u14, u15, u16, u17, u18, u19, u20, u21, u22, u23, u24, u25, u26, u27, u28, u29, u30, u31, u32, u33, u34, u35, u36, u37, u38, u39, u40, u41, u42, u43, u44, u45, u46, u47, u48, u49, u50, u51, u52, u53, u54, u55], defers := Lvm.marks Ds } W) := Lib.hid (by
    intro u0 u2 u3 u5 u8 u9 u10 u11 u12 u13 u14 u15 u16 u17 u18 u19 u20 u21 u22 u23 u24 u25 u26 u27 u28 u29 u30 u31 u32 u33 u34 u35 u36 u37 u38 u39 u40 u41 u42 u43 u44 u45 u46 u47 u48 u49 u50 u51 u52 u53 u54 u55 Ds F W HO HL HR HF HB
    refine hK9 _ _ ?_
    obtain ⟨c1, c4, c6, hI, h46⟩ := HAT.out W HF.out
    clear hI
    gi_wp2_with fail
    refine Lvm.leaves_marks (fun e => by cases e) HO.out ?_
    exact ⟨.tuple #[.slice (some ⟨gl, 0, none⟩) M M, .bool true], by simp [results, Try.f16, go_sem], gl, (List.range M).map F, rfl, rip_new (HR.out.block (Lvm.shutAll_heap (HR.out.not_open HO.out))) (by omega) (HB.out.trans ((Lvm.shutAll_below HO.out).mono (by omega))), fun s hs => by rw [range_at hs]; exact LdX.lst_one (HL.out s hs) (LdX.ldM_lst wt syn N s)⟩)
  clear hK9
  refine wpIn_loop (fun a8 W => ∃ (q : Nat) (Ds : List Nat) (F : Nat → Int) (u0 u2 u3 u5 u8 u9 u10 u11 u12 u13 u14 u15 u16 u17 u18 u19 u20 u21 u22 u23 u24 u25 u26 u27 u30 u31 u32 u33 u34 u35 u36 u37 u38 u39 u40 u41 u42 u43 u44 u45 u46 u47 u48 u49 u50 u51 u52 u53 u54 u55 : Value), a8 = { tmps := #[u0, .pointer (some ⟨w.heap.size, 0, none⟩), u2, u3, .pointer (some ⟨w2.heap.size, 0, none⟩), u5, .pointer (some ⟨w4.heap.size, 0, none⟩), .pointer (some ⟨w4.heap.size + 1, 0, none⟩), u8, u9, u10, u11, u12, u13, u14, u15, u16, u17, u18, u19, u20, u21, u22, u23, u24, u25, u26, u27, .int .i64 ((wd : Int) + 1), .int .i64 (q : Int), u30, u31, u32, u33, u34, u35, u36, u37, u38, u39, u40, u41, u42, u43, u44, u45, u46, u47, u48, u49, u50, u51, u52, u53, u54, u55], defers := Lvm.marks Ds } ∧ q ≤ wd + 1 ∧ Hid (Lvm.Open (w4.heap.size + 2) W Ds) ∧ Hid (∀ s, LdX.Lst wt syn (LdX.Seen wt N q 0) s (F s)) ∧ Hid (Rip W gl M F) ∧ Hid (Boxed W (w4.heap.size + 1) 3 (.int .i64 (LdX.mis F M : Int))) ∧ Hid (LdFx w.heap.size w2.heap.size g w4.heap.size o1 o4 og o6 W) ∧ Hid (Below w.heap.size w W)) (fun a8 _ => wd + 1 - (intOf (a8.tmps.getD 29 undef)).toNat) ?_ ?_
  · exact ⟨0, [], fun _ => (-1 : Int), _, _, _, _, _, _, _, _, _, _, _, _, _, _, _, _, _, _, _, _, _, _, _, _, _, _, _, _, _, _, _, _, _, _, _, _, _, _, _, _, _, _, _, _, _, _, _, _, _, _, rfl, by omega, Lib.hid (Lvm.Open.nil _ _), Lib.hid (fun s => .inl ⟨rfl, fun x hx => absurd hx (LdX.seen_zero wt N x)⟩), HR0, HX7, HFX, HBW0⟩
  · rintro _ Wr ⟨q, Ds, F, u0, u2, u3, u5, u8, u9, u10, u11, u12, u13, u14, u15, u16, u17, u18, u19, u20, u21, u22, u23, u24, u25, u26, u27, u30, u31, u32, u33, u34, u35, u36, u37, u38, u39, u40, u41, u42, u43, u44, u45, u46, u47, u48, u49, u50, u51, u52, u53, u54, u55, rfl, hq, HO, HL, HR, HX, HF, HB⟩
    obtain ⟨c1, c4, c6, hI, h46⟩ := HAT.out Wr HF.out
    clear hI
    have hOD := HO.out.lt
    by_cases hlt : q < wd + 1
    · have hlt2 : decide ((q : Int) < (wd : Int) + 1) = true := decide_eq_true (by omega)
      gi_wp2_with (first | (gi_at_call 59; (with_reducible refine (callsIn_wide.2 (ww_impl (wd : Int) (q : Int) _)).mono ?_); rintro e w' ⟨rfl, rfl⟩) | fail)
      obtain ⟨W2, hW2⟩ : ∃ W2, W2 = (Wr.alloc (.cells #[.int .i64 (wd : Int)] 2)).alloc (.cells #[.int .i64 (q : Int)] 2) := ⟨_, rfl⟩
      have hsz9 : W2.heap.size = Wr.heap.size + 2 := by rw [hW2]; simp
      have hb2 : Below Wr.heap.size Wr W2 := by rw [hW2]; exact Below.next (below_alloc _ _) (below_alloc _ _)
      have hcB : Boxed W2 Wr.heap.size 2 (.int .i64 (wd : Int)) := by rw [hW2]; exact (Boxed.new Wr _ _).alloc _
      have hcB1 : Boxed W2 (Wr.heap.size + 1) 2 (.int .i64 (q : Int)) := by rw [hW2]; have := Boxed.new (Wr.alloc (.cells #[.int .i64 (wd : Int)] 2)) 2 (.int .i64 (q : Int)); rwa [World.size_alloc] at this
      have hR2 := HR.out.below hb2
      have hX2 : Boxed W2 (w4.heap.size + 1) 3 (.int .i64 (LdX.mis F M : Int)) := (hb2.block _ HX.out.lt).trans HX.out
      have hF2 := HF.out.below hb2
      have hO2 : ∀ E, E ∈ Ds → W2.heap[E]? = some (.deferred (some [])) := fun E hE => (hb2.block E (hOD E hE)).trans (HO.out.2 E hE).2
      have hB2 : Below w.heap.size w W2 := HB.out.trans (hb2.mono HB.out.size)
      have hW7 := HX.out.lt
      have hle := HB.out.size
      rw [← hW2]
      clear hW2 c1 c4 c6 h46
      refine wpIn_rangeFunc_ownG rfl (by decide) (gf := 116) (lb := #[.pointer (some ⟨Wr.heap.size, 0, none⟩), .pointer (some ⟨Wr.heap.size + 1, 0, none⟩)]) rfl trivial (enters_of Try.func116 (by kernel_rfl) rfl)
        (ww_stops 5 Wr.heap.size 0 wd q N W2 (Nat.zero_le _) (by omega) hcB.cell hcB1.cell hw16 HNN.out.symm) kpT_t (kpT_b (Nat.zero_le _) (by omega)) (Below.refl _ _) (fun _ => rfl)
        (fun pre W => (((Rip W gl M (imF syn F pre) ∧ Boxed W (w4.heap.size + 1) 3 (.int .i64 (LdX.mis (imF syn F pre) M : Int))) ∧ LdFx w.heap.size w2.heap.size g w4.heap.size o1 o4 og o6 W) ∧ (∀ E, E ∈ Ds → W.heap[E]? = some (.deferred (some [])))) ∧ Below w.heap.size w W)
        (fun c pre W => ((((c = .exit 0 ∧ LdX.mis (imF syn F pre) M = 0) ∧ Rip W gl M (imF syn F pre)) ∧ LdFx w.heap.size w2.heap.size g w4.heap.size o1 o4 og o6 W) ∧ (∀ E, E ∈ Ds → W.heap[E]? = some (.deferred (some [])))) ∧ Below w.heap.size w W)
        (OwnFrom.and (OwnFrom.and (OwnFrom.and (OwnFrom.and (Own.from (rip_own gl M (fun pre => imF syn F pre)) _) (Own.from (boxed_own _ _ (fun pre => Value.int .i64 (LdX.mis (imF syn F pre) M : Int))) _)) (Own.from (LdFx.own ho1 ho4 hog ho6) _)) (ownFrom_marks (fun E hE => by have := hOD E hE; omega))) (ownFrom_below (Nat.le_refl _) (by omega)))
        (fun c => OwnFrom.and (OwnFrom.and (OwnFrom.and (OwnFrom.and (ownFrom_pure _ (fun pre => c = .exit 0 ∧ LdX.mis (imF syn F pre) M = 0)) (Own.from (rip_own gl M (fun pre => imF syn F pre)) _)) (Own.from (LdFx.own ho1 ho4 hog ho6) _)) (ownFrom_marks (fun E hE => by have := hOD E hE; omega))) (ownFrom_below (Nat.le_refl _) (by omega)))
        ⟨⟨⟨⟨hR2, hX2⟩, hF2⟩, hO2⟩, hB2⟩
        (fun x => { tmps := #[u0, .pointer (some ⟨w.heap.size, 0, none⟩), u2, u3, .pointer (some ⟨w2.heap.size, 0, none⟩), u5, .pointer (some ⟨w4.heap.size, 0, none⟩), .pointer (some ⟨w4.heap.size + 1, 0, none⟩), .int .i64 (q : Int), .int .i64 (x.val : Int), u10, u11, u12, u13, u14, u15, u16, u17, u18, u19, u20, u21, u22, u23, u24, u25, u26, u27, .int .i64 ((wd : Int) + 1), .int .i64 (q : Int), .bool true, .int .i64 (q : Int), .pointer (some ⟨w.heap.size, 0, none⟩), .int .i64 (wd : Int), .int .i64 (q : Int), .func (.func 116) #[] #[.pointer (some ⟨Wr.heap.size, 0, none⟩), .pointer (some ⟨Wr.heap.size + 1, 0, none⟩)], .int .i64 (x.val : Int), u37, u38, u39, u40, u41, u42, u43, u44, u45, u46, u47, u48, u49, u50, u51, u52, u53, u54, u55], defers := [] }) ?assign ?body ?done ?stop
      case assign =>
        intro l x W K hK
        gi_wp2
        exact hK
      case body =>
        rintro l pre x W ⟨⟨⟨⟨hRW, hXW⟩, hFW2⟩, hOE⟩, hBW⟩ _
        have hx := x.isLt
        obtain ⟨c1, c4, c6, hI, h46⟩ := HAT.out W hFW2
        have hsl := HSL.out x.val
        have HS1 : Hid (Calls Try.prog 60 #[.slice (some ⟨g, 0, none⟩) d cp, .int .i64 (x.val : Int)] W fun e w' => e = .returned (.int .i64 (syn x.val : Int)) ∧ W = w') := Lib.hid (HSY.out x.val cp g W (by omega) hI)
        obtain ⟨cr, fr⟩ := hRW.2 _ hsl
        have cX := hXW.cell
        have fX := hXW.frozen
        have HSN := Lib.hid (imF_snoc syn F pre x)
        have hski : (syn x.val : Int) < (M : Int) := by omega
        have hs0 : (0 : Int) ≤ (syn x.val : Int) := by omega
        generalize imF syn F pre = G at *
        by_cases hc : G (syn x.val) = -1
        · obtain ⟨m1, hm1⟩ : ∃ m1, m1 = LdX.mis G M := ⟨_, rfl⟩
          obtain ⟨m2, hm2⟩ : ∃ m2, m2 = LdX.mis (LdX.stp syn G x.val) M := ⟨_, rfl⟩
          have hms : m2 + 1 = m1 := by rw [hm1, hm2]; exact LdX.mis_stp hsl hc
          have hm9 : m1 ≤ M := by rw [hm1]; exact mis_le G M
          have hsub : (m1 : Int) - 1 = (m2 : Int) := by omega
          have hsub2 : IntKind.i64.wrap ((m1 : Int) - 1) = (m2 : Int) := by rw [IntWalk.i64_in _ (by omega)]; omega
          have hsub3 : IntKind.i64.wrap (m2 : Int) = (m2 : Int) := IntWalk.i64_in _ (by omega)
          have HR3 : Hid (Rip ((W.setCell ⟨gl, syn x.val, none⟩ (.int .i64 (x.val : Int))).setCell ⟨w4.heap.size + 1, 0, none⟩ (.int .i64 (m2 : Int))) gl M (imF syn F (pre ++ [x]))) := Lib.hid (by
            rw [HSN.out]
            refine ((hRW.set (j := syn x.val) (x.val : Int)).congr (fun i _ => ?_)).other (show gl ≠ w4.heap.size + 1 by omega) 0 _
            unfold LdX.stp
            by_cases e : i = syn x.val
            · rw [if_pos e, if_pos ⟨e, by rw [e]; exact hc⟩]
            · rw [if_neg e, if_neg (fun h => e h.1)])
          have HM3 : Hid (LdX.mis (imF syn F (pre ++ [x])) M = m2) := Lib.hid (by rw [HSN.out]; exact hm2.symm)
          have HX3 := Lib.hid ((boxedL_other hXW (show w4.heap.size + 1 ≠ gl by omega) (syn x.val) (.int .i64 (x.val : Int))).set (.int .i64 (m2 : Int)))
          have HF3 := Lib.hid ((hFW2.set (b := gl) (by omega) (by omega) (by omega) (by omega) (syn x.val) (.int .i64 (x.val : Int))).set (b := w4.heap.size + 1) (by omega) (by omega) (by omega) (by omega) 0 (.int .i64 (m2 : Int)))
          have HO3 : Hid (∀ E, E ∈ Ds → ((W.setCell ⟨gl, syn x.val, none⟩ (.int .i64 (x.val : Int))).setCell ⟨w4.heap.size + 1, 0, none⟩ (.int .i64 (m2 : Int))).heap[E]? = some (.deferred (some []))) := Lib.hid (fun E hE => by
            have h1 := (HO.out.2 E hE).1
            exact (Below.heap_setCell _ _ _ E (by show E ≠ w4.heap.size + 1; omega)).trans ((Below.heap_setCell _ _ _ E (by show E ≠ gl; omega)).trans (hOE E hE)))
          have HB3 := Lib.hid ((hBW.setCell (p := ⟨gl, syn x.val, none⟩) (show w.heap.size ≤ gl by omega) (.int .i64 (x.val : Int))).setCell (p := ⟨w4.heap.size + 1, 0, none⟩) (show w.heap.size ≤ w4.heap.size + 1 by omega) (.int .i64 (m2 : Int)))
          have HKF : Hid (KeepsFrom W2.heap.size W ((W.setCell ⟨gl, syn x.val, none⟩ (.int .i64 (x.val : Int))).setCell ⟨w4.heap.size + 1, 0, none⟩ (.int .i64 (m2 : Int)))) := Lib.hid (((KeepsOthers.setCell W _ _).trans (KeepsOthers.setCell _ _ _)).from _)
          have HKP : Hid (KpT 0 Wr.heap.size W ((W.setCell ⟨gl, syn x.val, none⟩ (.int .i64 (x.val : Int))).setCell ⟨w4.heap.size + 1, 0, none⟩ (.int .i64 (m2 : Int)))) := Lib.hid ⟨((Below.refl 0 W).setCell (p := ⟨gl, syn x.val, none⟩) (Nat.zero_le _) _).setCell (p := ⟨w4.heap.size + 1, 0, none⟩) (Nat.zero_le _) _, (Below.heap_setCell _ _ _ _ (by show Wr.heap.size ≠ w4.heap.size + 1; omega)).trans (Below.heap_setCell _ _ _ _ (by show Wr.heap.size ≠ gl; omega)), (Below.heap_setCell _ _ _ _ (by show Wr.heap.size + 1 ≠ w4.heap.size + 1; omega)).trans (Below.heap_setCell _ _ _ _ (by show Wr.heap.size + 1 ≠ gl; omega))⟩
          have HXM : Hid (Boxed ((W.setCell ⟨gl, syn x.val, none⟩ (.int .i64 (x.val : Int))).setCell ⟨w4.heap.size + 1, 0, none⟩ (.int .i64 (m2 : Int))) (w4.heap.size + 1) 3 (.int .i64 (LdX.mis (imF syn F (pre ++ [x])) M : Int))) := Lib.hid (by rw [HM3.out]; exact HX3.out)
          rw [hc] at cr
          rw [← hm1] at cX
          have hne7 : ¬ (w4.heap.size + 1 = gl) := by omega
          have hne8 : ¬ (gl = w4.heap.size + 1) := by omega
          clear hI hc hm1 hm2 hms hm9 HSN HO hRW hXW hFW2 hOE hBW
          by_cases h0 : m2 = 0
          · subst h0
            gi_wp2_with (first | (gi_at_call 60; (with_reducible refine (CallsIn.inRound l (callsIn_wide.2 HS1.out)).mono ?_); rintro e w' ⟨rfl, hw⟩; subst hw) | fail)
            exact ⟨HKF.out, ⟨⟨⟨⟨rfl, HM3.out⟩, HR3.out⟩, HF3.out⟩, HO3.out⟩, HB3.out⟩
          · have hz1 : ((m2 : Int) == 0) = false := by simpa using h0
            have hz2 : decide ((m2 : Int) = 0) = false := decide_eq_false (by omega)
            gi_wp2_with (first | (gi_at_call 60; (with_reducible refine (CallsIn.inRound l (callsIn_wide.2 HS1.out)).mono ?_); rintro e w' ⟨rfl, hw⟩; subst hw) | fail)
            exact ⟨HKF.out, HKP.out, ⟨⟨⟨⟨HR3.out, HXM.out⟩, HF3.out⟩, HO3.out⟩, HB3.out⟩⟩
        · have HNO : Hid (imF syn F (pre ++ [x]) = G) := Lib.hid (HSN.out.trans (stp_no hc))
          have HNR : Hid (Rip W gl M (imF syn F (pre ++ [x]))) := Lib.hid (by rw [HNO.out]; exact hRW)
          have HNX : Hid (Boxed W (w4.heap.size + 1) 3 (.int .i64 (LdX.mis (imF syn F (pre ++ [x])) M : Int))) := Lib.hid (by rw [HNO.out]; exact hXW)
          have hne1 : (G (syn x.val) == -1) = false := by simpa using hc
          have hne2 : (G (syn x.val) != -1) = true := by simpa using hc
          generalize G (syn x.val) = c at *
          clear hI
          gi_wp2_with (first | (gi_at_call 60; (with_reducible refine (CallsIn.inRound l (callsIn_wide.2 HS1.out)).mono ?_); rintro e w' ⟨rfl, hw⟩; subst hw) | fail)
          exact ⟨(KeepsOthers.refl W).from _, KpT.refl _ _ _, ⟨⟨⟨⟨HNR.out, HNX.out⟩, hFW2⟩, hOE⟩, hBW⟩⟩
      case done =>
        rintro D ys W hD rfl ⟨⟨⟨⟨hRW, hXW⟩, hFW2⟩, hOE⟩, hBW⟩ hK
        have hwq : IntKind.i64.wrap ((q : Int) + 1) = ((q + 1 : Nat) : Int) := by rw [IntWalk.i64_in _ (by omega)]; omega
        gi_wp2_with fail
        refine ⟨⟨q + 1, D :: Ds, imF syn F (wsF N q N), _, _, _, _, _, _, _, _, _, _, _, _, _, _, _, _, _, _, _, _, _, _, _, _, _, _, _, _, _, _, _, _, _, _, _, _, _, _, _, _, _, _, _, _, _, _, _, _, _, _, rfl, by omega, Lib.hid (Lvm.Open.cons ⟨HO.out.1, fun E hE => ⟨(HO.out.2 E hE).1, hOE E hE⟩⟩ (by omega) hK (fun hm => by have := hOD D hm; omega)), Lib.hid (fun s => LdX.lst_congr (fun x => LdX.seen_next wt N q x) (imF_lst HL.out N (Nat.le_refl _) s)), Lib.hid hRW, Lib.hid hXW, Lib.hid hFW2, Lib.hid hBW⟩, ?_⟩
        show wd + 1 - (intOf (.int .i64 ((q + 1 : Nat) : Int))).toNat < wd + 1 - (intOf (.int .i64 (q : Int))).toNat
        simp only [intOf]
        omega
      case stop =>
        rintro D c pre W hD ⟨m, hm, rfl⟩ ⟨⟨⟨⟨⟨rfl, h0⟩, hRW⟩, hFW2⟩, hOE⟩, hBW⟩ hK
        gi_wp2_with fail
        refine HEND.out _ _ _ _ _ _ _ _ _ _ _ _ _ _ _ _ _ _ _ _ _ _ _ _ _ _ _ _ _ _ _ _ _ _ _ _ _ _ _ _ _ _ _ _ _ _ _ _ _ _ _ _ (D :: Ds) (imF syn F (wsF N q m)) W (Lib.hid (Lvm.Open.cons ⟨HO.out.1, fun E hE => ⟨(HO.out.2 E hE).1, hOE E hE⟩⟩ (by omega) hK (fun hm => by have := hOD D hm; omega))) (Lib.hid (fun s hs => LdX.lst_early (imF_lst HL.out m hm s) (LdX.mis_zero h0 s hs))) (Lib.hid hRW) (Lib.hid hFW2) (Lib.hid hBW)
    · obtain rfl : q = wd + 1 := by omega
      have hlt2 : decide (((wd + 1 : Nat) : Int) < (wd : Int) + 1) = false := decide_eq_false (by omega)
      gi_wp2_with fail
      refine HEND.out _ _ _ _ _ _ _ _ _ _ _ _ _ _ _ _ _ _ _ _ _ _ _ _ _ _ _ _ _ _ _ _ _ _ _ _ _ _ _ _ _ _ _ _ _ _ _ _ _ _ _ _ Ds F Wr HO (Lib.hid (fun s _ => LdX.lst_congr (fun x => LdX.seen_all wt HWT.out) (HL.out s))) HR HF HB
end Go.Proofs.Ytaefmffmjbabcaa
