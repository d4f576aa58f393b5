
/- The message of a word: the program. -/
import Derived.Test.YtjlifbnenngijaaDoorDbw
set_option linter.unusedVariables false
namespace Go.Proofs.YtjlifbnenngijaaDoor
open Go.Proofs.YtjlifbnenngijaaDoor.Flo Go.RowKit Go.Shelf Go.Proofs.YtjlifbnenngijaaDoor.Pr
attribute [local go_sem] Oper.semAt_some

theorem boxed_below {W W' : World} {B : Nat} {t : TypeId} {v : Value} (h : Boxed W B t v) (hb : Below W.heap.size W W') : Boxed W' B t v := (hb.block B h.lt).trans h
def lastV {N : Nat} (pre : List (Fin N)) : Int := (((pre.getLast?.map (·.val)).getD 0 : Nat) : Int)
theorem lastV_snoc {N : Nat} (pre : List (Fin N)) (m : Fin N) : lastV (pre ++ [m]) = (m.val : Int) := by unfold lastV; simp
theorem mem_upF {N m j : Nat} (hm : m ≤ N) (hj : j < m) : (⟨j, by omega⟩ : Fin N) ∈ upF N m := by
  unfold upF
  rw [List.mem_iff_getElem]
  exact ⟨j, by simp; omega, by simp⟩
set_option maxRecDepth 100000 in
set_option maxHeartbeats 4000000 in
theorem db_implF (r : Int) (a : Option Addr) (n cap : Nat) (zs : List Int) (x : Int) (w : World) (h : IRow w a n zs) (hn : n ≤ 1048576) (hok : paB r zs n = false) :
    Calls Tryd.prog 24 #[.agg #[.int .i64 r, .slice a n cap], .int .i64 x] w fun e w' => e = .returned (.tuple #[.int .i64 0, .bool false]) ∧ Below w.heap.size w w' := by
  have HIS := Lib.hid (fun (w3 : World) (h3 : IRow w3 a n zs) => by have := vp_impl r a n cap zs w3 h3 hn; rw [hok] at this; exact this)
  have HA := Lib.hid ((((h.alloc (.cells #[.int .i64 r, .slice a n cap] 24)).alloc (.cells #[.int .i64 x] 2)).alloc (.cells #[.int .i64 0] 2)).alloc (.cells #[.bool false] 4))
  clear h hok
  refine (callsIn_wide (n := 6)).1 ?_
  have hFW : ∀ f, Fence.wide.fn f := fun _ => trivial
  have hFD : Fence.wide.depth.isSome = false := rfl
  refine callsIn_of_wp_marks Tryd.func24 rfl trivial ?_ rfl
  simp only [Tryd.ntmps24, List.size_toArray, List.length_cons, List.length_nil, Nat.reduceAdd, Nat.reduceSub, Array.replicate_succ, Array.replicate_zero, List.push_toArray, List.append_toArray, List.nil_append, List.cons_append]
  gi_wp2_with fail
  have bR := (Boxed.new ((w.alloc (.cells #[.int .i64 r, .slice a n cap] 24)).alloc (.cells #[.int .i64 x] 2)) 2 (.int .i64 0)).alloc (.cells #[.bool false] 4)
  have bO := Boxed.new (((w.alloc (.cells #[.int .i64 r, .slice a n cap] 24)).alloc (.cells #[.int .i64 x] 2)).alloc (.cells #[.int .i64 0] 2)) 4 (.bool false)
  have hB0 : Below w.heap.size w ((((w.alloc (.cells #[.int .i64 r, .slice a n cap] 24)).alloc (.cells #[.int .i64 x] 2)).alloc (.cells #[.int .i64 0] 2)).alloc (.cells #[.bool false] 4)) := ((((Below.refl _ w).alloc (Nat.le_refl _) _).alloc (by simp) _).alloc (by simp; omega) _).alloc (by simp; omega) _
  simp only [World.size_alloc] at bR bO
  refine (callsIn_wide.2 (HIS.out _ HA.out)).mono ?_
  rintro e w2 ⟨rfl, hb⟩
  have bR2 := boxed_below bR hb
  have bO2 := boxed_below bO hb
  have hB2 := Below.next hB0 hb
  have cR := bR2.cell
  have fR := bR2.frozen
  have cO := bO2.cell
  have fO := bO2.frozen
  clear bR bO hB0 hb
  gi_wp2
  have bR3 := (bR2.set (.int .i64 0)).other (show w.heap.size + 1 + 1 ≠ w.heap.size + 1 + 1 + 1 by omega) (.bool false)
  have bO3 := (bO2.other (show w.heap.size + 1 + 1 + 1 ≠ w.heap.size + 1 + 1 by omega) (.int .i64 0)).set (.bool false)
  have c3 := bR3.cell
  have c4 := bO3.cell
  refine ⟨.tuple #[.int .i64 0, .bool false], ?_, rfl, (hB2.setCell (p := ⟨w.heap.size + 1 + 1, 0, none⟩) (by simp; omega) _).setCell (p := ⟨w.heap.size + 1 + 1 + 1, 0, none⟩) (by simp; omega) _⟩
  simp [results, Tryd.f24, go_sem, c3, c4]
set_option maxRecDepth 100000 in
set_option maxHeartbeats 4000000 in
theorem db_implT (r : Int) (b1 o1 n cap : Nat) (zs : List Int) (x : Int) (w0 w : World) (hp : Db w0) (hb0 : Below w0.heap.size w0 w) (h : IRow w (some ⟨b1, o1, none⟩) n zs) (hn : n ≤ 8) (hok : paB r zs n = true) :
    Calls Tryd.prog 24 #[.agg #[.int .i64 r, .slice (some ⟨b1, o1, none⟩) n cap], .int .i64 x] w fun e w' => e = .returned (.tuple #[.int .i64 (((dm (zN zs) n x).getD 0 : Nat) : Int), .bool (dm (zN zs) n x).isSome]) ∧ Below w.heap.size w w' := by
  obtain ⟨⟨hr1, hr2⟩, ⟨hn1, hn8⟩, hwz, _⟩ := pa_out hok
  have HZ := Lib.hid (woP_wide hwz (show r.toNat ≤ 16 by omega))
  have hbw := (irow_at h hn1).1
  obtain ⟨N, hN⟩ : ∃ N, 2 ^ n = N := ⟨_, rfl⟩
  have hp8 : 2 ^ n ≤ 2 ^ 8 := Nat.pow_le_pow_right (by decide) hn
  have hN8 : N ≤ 256 := by omega
  have HN := Lib.hid hN
  have HB00 := Lib.hid hb0
  have HIS := Lib.hid (fun (w3 : World) (h3 : IRow w3 (some ⟨b1, o1, none⟩) n zs) => by have := vp_impl r _ n cap zs w3 h3 (by omega); rw [hok] at this; exact this)
  have HA := Lib.hid ((((h.alloc (.cells #[.int .i64 r, .slice (some ⟨b1, o1, none⟩) n cap] 24)).alloc (.cells #[.int .i64 x] 2)).alloc (.cells #[.int .i64 0] 2)).alloc (.cells #[.bool false] 4))
  have HK := Lib.hid ((((Kin.new (w := w) (x := .int .i64 r) (y := .slice (some ⟨b1, o1, none⟩) n cap) (T := 24)).below (below_alloc _ (.cells #[.int .i64 x] 2))).below (below_alloc _ (.cells #[.int .i64 0] 2))).below (below_alloc _ (.cells #[.bool false] 4)))
  clear h hok hwz hN hp8 hb0
  refine (callsIn_wide (n := 6)).1 ?_
  have hFW : ∀ f, Fence.wide.fn f := fun _ => trivial
  have hFD : Fence.wide.depth.isSome = false := rfl
  refine callsIn_of_wp_marks Tryd.func24 rfl trivial ?_ rfl
  simp only [Tryd.ntmps24, List.size_toArray, List.length_cons, List.length_nil, Nat.reduceAdd, Nat.reduceSub, Array.replicate_succ, Array.replicate_zero, List.push_toArray, List.append_toArray, List.nil_append, List.cons_append]
  gi_wp2_with fail
  have bX := ((Boxed.new (w.alloc (.cells #[.int .i64 r, .slice (some ⟨b1, o1, none⟩) n cap] 24)) 2 (.int .i64 x)).alloc (.cells #[.int .i64 0] 2)).alloc (.cells #[.bool false] 4)
  have bR := (Boxed.new ((w.alloc (.cells #[.int .i64 r, .slice (some ⟨b1, o1, none⟩) n cap] 24)).alloc (.cells #[.int .i64 x] 2)) 2 (.int .i64 0)).alloc (.cells #[.bool false] 4)
  have bO := Boxed.new (((w.alloc (.cells #[.int .i64 r, .slice (some ⟨b1, o1, none⟩) n cap] 24)).alloc (.cells #[.int .i64 x] 2)).alloc (.cells #[.int .i64 0] 2)) 4 (.bool false)
  have hB0 : Below w.heap.size w ((((w.alloc (.cells #[.int .i64 r, .slice (some ⟨b1, o1, none⟩) n cap] 24)).alloc (.cells #[.int .i64 x] 2)).alloc (.cells #[.int .i64 0] 2)).alloc (.cells #[.bool false] 4)) := ((((Below.refl _ w).alloc (Nat.le_refl _) _).alloc (by simp) _).alloc (by simp; omega) _).alloc (by simp; omega) _
  simp only [World.size_alloc] at bX bR bO
  refine (callsIn_wide.2 (HIS.out _ HA.out)).mono ?_
  rintro e w2 ⟨rfl, hb⟩
  have bX2 := boxed_below bX hb
  have bR2 := boxed_below bR hb
  have bO2 := boxed_below bO hb
  have hB2 := Below.next hB0 hb
  have HA2 := Lib.hid (HA.out.below hb)
  have HK2 := HK.out.below hb
  have hk0 := HK2.2.1
  have hk1 := HK2.2.2.1
  have hs2 : w.heap.size + 1 + 1 + 1 + 1 ≤ w2.heap.size := by have := hb.size; simpa using this
  clear bX bR bO hB0 hb HA HK
  gi_wp2_with (first | (gi_at_call 57; (with_reducible refine (callsIn_wide.2 (wc_impl2 r _ n cap _)).mono ?_); rintro e w' ⟨rfl, rfl⟩) | fail)
  have bX3 := bX2.alloc (.cells #[.int .i64 r, .slice (some ⟨b1, o1, none⟩) n cap] 24)
  have bR3 := bR2.alloc (.cells #[.int .i64 r, .slice (some ⟨b1, o1, none⟩) n cap] 24)
  have bO3 := bO2.alloc (.cells #[.int .i64 r, .slice (some ⟨b1, o1, none⟩) n cap] 24)
  have hB3 : Below w.heap.size w (w2.alloc (.cells #[.int .i64 r, .slice (some ⟨b1, o1, none⟩) n cap] 24)) := Below.next hB2 (below_alloc _ _)
  have HA3 := Lib.hid (HA2.out.alloc (.cells #[.int .i64 r, .slice (some ⟨b1, o1, none⟩) n cap] 24))
  have hc3 : (w2.alloc (.cells #[.int .i64 r, .slice (some ⟨b1, o1, none⟩) n cap] 24)).cell? ⟨w2.heap.size, 1, none⟩ = some (.slice (some ⟨b1, o1, none⟩) n cap) := (Kin.new (w := w2)).2.2.1
  have hsz3 : (w2.alloc (.cells #[.int .i64 r, .slice (some ⟨b1, o1, none⟩) n cap] 24)).heap.size = w2.heap.size + 1 := by simp
  clear bX2 bR2 bO2 hB2 HA2 HK2 hk0 hk1
  generalize w2.alloc (.cells #[.int .i64 r, .slice (some ⟨b1, o1, none⟩) n cap] 24) = W0 at bX3 bR3 bO3 hB3 HA3 hc3 hsz3 ⊢
  have hb03 : Below w0.heap.size w0 W0 := HB00.out.trans (hB3.mono HB00.out.size)
  refine wpIn_rangeFunc_ownG rfl (by decide) (gf := 77) (lb := #[.pointer (some ⟨w2.heap.size, 0, none⟩)]) rfl trivial (enters_of Tryd.func77 (by kernel_rfl) rfl)
    (wc_stops 5 w2.heap.size w.heap.size b1 o1 n cap N zs w0 W0 hp hb03 HB00.out.size (by omega) (by omega) hc3 HA3.out hbw hn HZ.out HN.out) kpB_t (kpB_b (by omega) (by omega)) (Below.refl _ _) (fun _ => rfl)
    (fun pre W => ((((∀ m ∈ pre, ¬ (ew (zN zs) n m.val : Int) = x) ∧ Boxed W (w.heap.size + 1) 2 (.int .i64 x)) ∧ Boxed W (w.heap.size + 1 + 1) 2 (.int .i64 0)) ∧ Boxed W (w.heap.size + 1 + 1 + 1) 4 (.bool false)) ∧ Below w.heap.size w W)
    (fun c pre W => (((c = .ret ∧ ∃ ini last, pre = ini ++ [last] ∧ (∀ m ∈ ini, ¬ (ew (zN zs) n m.val : Int) = x) ∧ (ew (zN zs) n last.val : Int) = x) ∧ Boxed W (w.heap.size + 1 + 1) 2 (.int .i64 (lastV pre))) ∧ Boxed W (w.heap.size + 1 + 1 + 1) 4 (.bool true)) ∧ Below w.heap.size w W)
    (OwnFrom.and (OwnFrom.and (OwnFrom.and (OwnFrom.and (ownFrom_pure _ _) (Own.from (boxed_own _ _ _) _)) (Own.from (boxed_own _ _ _) _)) (Own.from (boxed_own _ _ _) _)) (ownFrom_below (Nat.le_refl _) (by omega)))
    (fun c => OwnFrom.and (OwnFrom.and (OwnFrom.and (ownFrom_pure _ _) (Own.from (boxed_own _ _ (fun pre => Value.int .i64 (lastV pre))) _)) (Own.from (boxed_own _ _ _) _)) (ownFrom_below (Nat.le_refl _) (by omega)))
    ⟨⟨⟨⟨by simp, bX3⟩, bR3⟩, bO3⟩, hB3⟩
    (fun m => { tmps := #[.agg #[.int .i64 r, .slice (some ⟨b1, o1, none⟩) n cap], .int .i64 x, .pointer (some ⟨w.heap.size, 0, none⟩), .pointer (some ⟨w.heap.size + 1, 0, none⟩), .pointer (some ⟨w.heap.size + 1 + 1, 0, none⟩), .pointer (some ⟨w.heap.size + 1 + 1 + 1, 0, none⟩), .int .i64 (m.val : Int), .int .i64 (ew (zN zs) n m.val : Int), .agg #[.int .i64 r, .slice (some ⟨b1, o1, none⟩) n cap], .bool true, .bool false, .agg #[.int .i64 r, .slice (some ⟨b1, o1, none⟩) n cap], .func (.func 77) #[] #[.pointer (some ⟨w2.heap.size, 0, none⟩)], .int .i64 (m.val : Int), .int .i64 (ew (zN zs) n m.val : Int), undef, undef, undef, undef], defers := [] }) ?assign ?body ?done ?stop
  case assign =>
    intro l m W K hK
    gi_wp2
    exact hK
  case body =>
    rintro l pre m W ⟨⟨⟨⟨hpre, bX4⟩, bR4⟩, bO4⟩, hB4⟩ _
    have cX := bX4.cell
    have cR := bR4.cell
    have fR := bR4.frozen
    have cO := bO4.cell
    have fO := bO4.frozen
    have HPRE := Lib.hid hpre
    clear hpre
    by_cases he : (ew (zN zs) n m.val : Int) = x
    · have hb : ((ew (zN zs) n m.val : Int) == x) = true := by rw [he]; simp
      have HE := Lib.hid he
      clear he
      gi_wp2
      refine ⟨((KeepsOthers.setCell _ _ _).trans (KeepsOthers.setCell _ _ _)).from _, ⟨⟨⟨rfl, pre, m, rfl, HPRE.out, HE.out⟩, ?_⟩, ?_⟩, (hB4.setCell (p := ⟨w.heap.size + 1 + 1, 0, none⟩) (by simp; omega) _).setCell (p := ⟨w.heap.size + 1 + 1 + 1, 0, none⟩) (by simp; omega) _⟩
      · rw [lastV_snoc]; exact (bR4.set _).other (by omega) _
      · exact (bO4.other (by omega) _).set _
    · have hb : ((ew (zN zs) n m.val : Int) == x) = false := by simpa using he
      have HE := Lib.hid he
      clear he
      gi_wp2
      exact ⟨KeepsFrom.refl _ _, KpB.refl _ _ _, ⟨⟨⟨fun y hy => (List.mem_append.1 hy).elim (HPRE.out y) (fun e => by simp at e; subst e; exact HE.out), bX4⟩, bR4⟩, bO4⟩, hB4⟩
  case done =>
    rintro D ys W hD rfl ⟨⟨⟨⟨hpre, bX4⟩, bR4⟩, bO4⟩, hB4⟩ hK
    have cR := bR4.cell
    have fR := bR4.frozen
    have cO := bO4.cell
    have fO := bO4.frozen
    have hdm : dm (zN zs) n x = none := dm_none (fun j hj => by rw [HN.out] at hj; exact hpre ⟨j, hj⟩ (mem_upF (Nat.le_refl _) hj))
    have HD := Lib.hid hdm
    clear hpre hdm
    gi_wp2
    have bR5 := (bR4.set (.int .i64 0)).other (show w.heap.size + 1 + 1 ≠ w.heap.size + 1 + 1 + 1 by omega) (.bool false)
    have bO5 := (bO4.other (show w.heap.size + 1 + 1 + 1 ≠ w.heap.size + 1 + 1 by omega) (.int .i64 0)).set (.bool false)
    have hK' := ((KeepsOthers.setCell W ⟨w.heap.size + 1 + 1, 0, none⟩ (.int .i64 0)).trans (KeepsOthers.setCell _ ⟨w.heap.size + 1 + 1 + 1, 0, none⟩ (.bool false))).same D _ hK rfl
    refine ⟨by simp, .inl ⟨_, _, rfl, run_takeDeferred hK', ?_⟩⟩
    have c3 := cell_kept bR5.cell (grownBy_putObj' _ D (.deferred none)) (fun r e => by cases e; exact ⟨_, hK', rfl⟩)
    have c4 := cell_kept bO5.cell (grownBy_putObj' _ D (.deferred none)) (fun r e => by cases e; exact ⟨_, hK', rfl⟩)
    refine ⟨.tuple #[.int .i64 0, .bool false], ?_, by rw [HD.out]; rfl, ((hB4.setCell (p := ⟨w.heap.size + 1 + 1, 0, none⟩) (by simp; omega) _).setCell (p := ⟨w.heap.size + 1 + 1 + 1, 0, none⟩) (by simp; omega) _).trans (belowK_b (w := w) (Nat.le_refl _) _ D _ _ (by omega) hK' rfl rfl)⟩
    simp [results, Tryd.f24, go_sem, c3, c4]
  case stop =>
    rintro D c pre W hD ⟨m, hm, hup⟩ ⟨⟨⟨⟨rfl, ini, last, e1, e2, e3⟩, bR4⟩, bO4⟩, hB4⟩ hK
    obtain ⟨m', rfl⟩ : ∃ m', m = m' + 1 := by
      cases m with
      | zero => rw [hup, upF_zero] at e1; simp at e1
      | succ m' => exact ⟨m', rfl⟩
    have hmN : m' < N := by omega
    rw [hup, upF_succ hmN] at e1
    obtain ⟨e4, e5⟩ := List.append_inj' e1 rfl
    obtain rfl : (⟨m', hmN⟩ : Fin N) = last := by simpa using e5
    have hdm : dm (zN zs) n x = some m' := dm_some (by rw [HN.out]; exact hmN) e3 (fun j hj => e2 ⟨j, by omega⟩ (by rw [← e4]; exact mem_upF (by omega) hj))
    rw [hup, upF_succ hmN, lastV_snoc] at bR4
    have HD := Lib.hid hdm
    clear e1 e2 e3 e4 e5 hup hdm
    gi_wp2
    refine ⟨by simp, .inl ⟨_, _, rfl, run_takeDeferred hK, ?_⟩⟩
    have c3 := cell_kept bR4.cell (grownBy_putObj' _ D (.deferred none)) (fun r e => by cases e; exact ⟨_, hK, rfl⟩)
    have c4 := cell_kept bO4.cell (grownBy_putObj' _ D (.deferred none)) (fun r e => by cases e; exact ⟨_, hK, rfl⟩)
    refine ⟨.tuple #[.int .i64 (m' : Int), .bool true], ?_, by rw [HD.out]; rfl, hB4.trans (belowK_b (w := w) (Nat.le_refl _) W D _ _ (by omega) hK rfl rfl)⟩
    simp [results, Tryd.f24, go_sem, c3, c4]
end Go.Proofs.YtjlifbnenngijaaDoor
