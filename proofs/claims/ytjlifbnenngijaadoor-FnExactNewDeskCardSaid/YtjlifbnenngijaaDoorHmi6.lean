
/- Codes of Hamming: the program. -/
import Derived.Test.YtjlifbnenngijaaDoorHmw6
set_option linter.unusedVariables false
namespace Go.Proofs.YtjlifbnenngijaaDoor
open Go.Proofs.YtjlifbnenngijaaDoor.Flo Go.RowKit Go.Shelf Go.Proofs.YtjlifbnenngijaaDoor.Pr
attribute [local go_sem] Oper.semAt_some
theorem boxed_below6 {W W' : World} {B : Nat} {t : TypeId} {v : Value} (h : Boxed W B t v) (hb : Below W.heap.size W W') : Boxed W' B t v := (hb.block B h.lt).trans h
set_option maxRecDepth 100000 in
set_option maxHeartbeats 4000000 in
theorem hr_impl (d : Nat) (w0 w : World) (hp : Db w0) (hb : Below w0.heap.size w0 w) (hd1 : 1 ≤ d) (hd7 : d ≤ 7) :
    Calls Tryd.prog 45 #[.int .i64 (d : Int)] w fun e w' => e = .returned (.int .i64 (hrf d (dgs 3 d) : Int)) ∧ Below w.heap.size w w' := by
  refine (callsIn_wide (n := 6)).1 ?_
  have hFW : ∀ f, Fence.wide.fn f := fun _ => trivial
  have hFD : Fence.wide.depth.isSome = false := rfl
  have HB := Lib.hid hb
  have HR0 : Hid (hrf d ([] : List (Fin 3)) = 2 ^ (d - 1)) := Lib.hid rfl
  have HRL := Lib.hid (fun pre => hrf_lt (d := d) hd7 pre)
  obtain ⟨d1, hd1'⟩ : ∃ d1, d - 1 = d1 := ⟨_, rfl⟩
  rw [hd1'] at HR0
  have hs1 : (d : Int) - 1 = (d1 : Int) := by omega
  have hs2 : IntKind.i64.wrap ((d : Int) - 1) = (d1 : Int) := by rw [IntWalk.i64_in _ (by omega)]; omega
  have hmin1 : min d1 64 = d1 := by omega
  have hpl := Nat.pow_le_pow_right (show 0 < 2 by decide) (show d1 ≤ 6 by omega)
  obtain ⟨P1, hP1⟩ : ∃ P1, 2 ^ d1 = P1 := ⟨_, rfl⟩
  have hwp1 : IntKind.i64.wrap ((2 : Int) ^ d1) = (P1 : Int) := by
    have e : (2 : Int) ^ d1 = (P1 : Int) := by rw [← hP1]; simp
    rw [e]; exact IntWalk.i64_in _ (by omega)
  rw [hP1] at HR0
  clear hpl hP1 hd1' hb
  refine callsIn_of_wp_marks Tryd.func45 rfl trivial ?_ rfl
  simp only [Tryd.ntmps45, List.size_toArray, List.length_cons, List.length_nil, Nat.reduceAdd, Nat.reduceSub, Array.replicate_succ, Array.replicate_zero, List.push_toArray, List.append_toArray, List.nil_append, List.cons_append]
  gi_wp2_with (first | (gi_at_call 73; (with_reducible refine (callsIn_wide.2 (ix_impl (d : Int) _)).mono ?_); rintro e w' ⟨rfl, rfl⟩) | fail)
  clear hs1 hs2 hmin1 hwp1
  have bS := (Boxed.new w 2 (.int .i64 (P1 : Int))).alloc (.cells #[.int .i64 (d : Int)] 2)
  have bX := Boxed.new (w.alloc (.cells #[.int .i64 (P1 : Int)] 2)) 2 (.int .i64 (d : Int))
  simp only [World.size_alloc] at bX
  have hB0 : Below w.heap.size w ((w.alloc (.cells #[.int .i64 (P1 : Int)] 2)).alloc (.cells #[.int .i64 (d : Int)] 2)) := ((Below.refl _ w).alloc (Nat.le_refl _) _).alloc (by simp) _
  have hsz : ((w.alloc (.cells #[.int .i64 (P1 : Int)] 2)).alloc (.cells #[.int .i64 (d : Int)] 2)).heap.size = w.heap.size + 2 := by simp
  generalize ((w.alloc (.cells #[.int .i64 (P1 : Int)] 2)).alloc (.cells #[.int .i64 (d : Int)] 2)) = W0 at bS bX hB0 hsz ⊢
  have hb00 : Below w0.heap.size w0 W0 := HB.out.trans (hB0.mono HB.out.size)
  have hle := HB.out.size
  refine wpIn_rangeFunc_ownG rfl (by decide) (gf := 81) (lb := #[.pointer (some ⟨w.heap.size + 1, 0, none⟩)]) rfl trivial (enters_of Tryd.func81 (by kernel_rfl) rfl)
    (ix_stops 5 (w.heap.size + 1) 3 d (by show d < 8; omega) (by decide) w0 W0 hp hb00 (by omega) bX.cell) belowK_t (belowK_b (by omega)) (Below.refl _ _) (fun _ => rfl)
    (fun pre W => Boxed W w.heap.size 2 (.int .i64 (hrf d pre : Int)) ∧ Below w.heap.size w W)
    (fun _ _ _ => False)
    (OwnFrom.and (Own.from (boxed_own _ _ (fun pre => Value.int .i64 (hrf d pre : Int))) _) (ownFrom_below (Nat.le_refl _) (by omega)))
    (fun _ _ _ _ _ hs _ _ => hs)
    ⟨by rw [HR0.out]; exact bS, hB0⟩
    (fun i => { tmps := #[.int .i64 (d : Int), undef, .int .i64 0, .pointer (some ⟨w.heap.size, 0, none⟩), .int .i64 (i.val : Int), .int .i64 (d : Int), .int .i64 (d1 : Int), .int .i64 (P1 : Int), .int .i64 (d : Int), .func (.func 81) #[] #[.pointer (some ⟨w.heap.size + 1, 0, none⟩)], .int .i64 (i.val : Int), undef, undef, undef, undef, undef, undef, undef], defers := [] }) ?assign ?body ?done ?stop
  case assign =>
    intro l i W K hK
    gi_wp2
    exact hK
  case body =>
    rintro l pre i W ⟨bS1, hB1⟩ _
    have hmx : Tryd.prog.follows .mixedOrders = true := by kernel_rfl
    have hi := i.isLt
    have hrl := HRL.out pre
    have HS := Lib.hid (hrf_snoc d pre i)
    have cS := bS1.cell
    have fS := bS1.frozen
    have hj4 := Nat.pow_le_pow_right (show 0 < 2 by decide) (show i.val ≤ 2 by omega)
    obtain ⟨Pj, hPj⟩ : ∃ Pj, 2 ^ i.val = Pj := ⟨_, rfl⟩
    have hpos := Nat.two_pow_pos i.val
    rw [hPj] at HS hj4 hpos
    obtain ⟨Q, hQ⟩ : ∃ Q, Pj - 1 = Q := ⟨_, rfl⟩
    rw [hQ] at HS
    have hq8 := Nat.pow_le_pow_right (show 0 < 2 by decide) (show Q ≤ 3 by omega)
    obtain ⟨S, hS⟩ : ∃ S, 2 ^ Q = S := ⟨_, rfl⟩
    rw [hS] at HS hq8
    have hminj : min i.val 64 = i.val := by omega
    have hwpj : IntKind.u64.wrap ((2 : Int) ^ i.val) = (Pj : Int) := by
      have e : (2 : Int) ^ i.val = (Pj : Int) := by rw [← hPj]; simp
      rw [e, IntKind.wrap_u64]; omega
    have hwuj : IntKind.u64.wrap (i.val : Int) = (i.val : Int) := by rw [IntKind.wrap_u64]; omega
    have hsj : (Pj : Int) - 1 = (Q : Int) := by omega
    have hsj2 : IntKind.u64.wrap ((Pj : Int) - 1) = (Q : Int) := by rw [IntKind.wrap_u64]; omega
    have hsj3 : IntKind.u64.wrap (Q : Int) = (Q : Int) := by rw [IntKind.wrap_u64]; omega
    have hminQ : min Q 64 = Q := by omega
    have hwpQ : IntKind.i64.wrap ((2 : Int) ^ Q) = (S : Int) := by
      have e : (2 : Int) ^ Q = (S : Int) := by rw [← hS]; simp
      rw [e]; exact IntWalk.i64_in _ (by omega)
    have hor := b_or (hrf d pre) S (by omega) (by omega)
    have HBX := Lib.hid (bS1.set (.int .i64 (hrf d (pre ++ [i]) : Int)))
    rw [HS.out] at HBX
    generalize hrf d pre = X at HS hor hrl cS HBX
    generalize hY : X ||| S = Y at HS hor HBX
    have hyl : Y < 2 ^ 62 := by rw [← hY]; exact Nat.or_lt_two_pow (by omega) (by omega)
    clear hPj hpos hQ hS hY
    gi_wp2
    gi_region_with_o (fail)
    all_goals gi_wp2
    all_goals (try go_bits)
    all_goals exact ⟨((KeepsOthers.setCell _ _ _).trans (KeepsOthers.drew _)).from _, ((Below.refl w0.heap.size W).setCell (p := ⟨w.heap.size, 0, none⟩) hle _).drew, (show Boxed (W.setCell ⟨w.heap.size, 0, none⟩ _) w.heap.size 2 _ from by rw [HS.out]; exact HBX.out), (hB1.setCell (p := ⟨w.heap.size, 0, none⟩) (Nat.le_refl _) _).drew⟩
  case done =>
    rintro D ys W hD rfl ⟨bS1, hB1⟩ hK
    have cS := bS1.cell
    gi_wp2
    refine ⟨by simp, .inl ⟨_, _, rfl, run_takeDeferred hK, ?_⟩⟩
    exact ⟨_, results_tmp rfl _ _ _, rfl, hB1.trans (belowK_b (w := w) (Nat.le_refl _) W D _ _ (by omega) hK rfl rfl)⟩
  case stop =>
    rintro D c pre W _ _ h _
    exact h.elim
set_option maxRecDepth 100000 in
set_option maxHeartbeats 4000000 in
theorem hm_implNo (x : Int) (w0 w : World) (hp : Db w0) (hb : Below w0.heap.size w0 w) (hok : hmB x = false) : Calls Tryd.prog 13 #[.int .i64 x] w (YNone w) := by
  have h := of_decide_eq_false hok
  have h2 : (x == 2) = false := by simp; omega
  have h3 : (x == 3) = false := by simp; omega
  have h2' : (x != 2) = true := by simp; omega
  have h3' : (x != 3) = true := by simp; omega
  clear hok h hb
  go_enter Tryd.func13, Tryd.ntmps13
  go_wp2
  exact bodyPost_ret (v := .tuple #[.agg #[.int .i64 0, .slice none 0 0], .bool false]) (by simp [results, Tryd.results13, go_sem]) rfl ⟨rfl, below_alloc _ _⟩
set_option maxRecDepth 100000 in
set_option maxHeartbeats 4000000 in
theorem hm_impl2 (R W : Nat) (w0 w : World) (hp : Db w0) (hb : Below w0.heap.size w0 w) (hR2 : R = 2) (hW : hmW R = W) (hok : paB (W : Int) (hmQ R) (hmK R) = true) : Calls Tryd.prog 13 #[.int .i64 (R : Int)] w (YPost (W : Int) (hmK R) (hmQ R) w) := by
  obtain ⟨i0, hi, hz0, hz1, hz2⟩ := info_parts Tryd.info64
  have HB00 := Lib.hid hb
  have hRR : 2 ≤ R ∧ R ≤ 3 := by omega
  have hWW : 3 ≤ W ∧ W ≤ 7 := by subst hR2; rw [← hW]; decide
  obtain ⟨P, hP⟩ : ∃ P, 2 ^ R = P := ⟨_, rfl⟩
  have hPW : P = W + 1 := by rw [← hP, ← hW]; unfold hmW; have := Nat.two_pow_pos R; omega
  have HK : Hid (hmQ R = hmL R (W + 1)) := Lib.hid (by rw [← hW]; rfl)
  have hk1 : 1 ≤ hmK R := by have := (pa_out hok).2.1.1; exact this
  have hlq : hmK R ≤ 8 := (pa_out hok).2.1.2
  have HKK : Hid ((hmQ R).length = hmK R) := Lib.hid rfl
  have HOK := Lib.hid hok
  have HSAME : Hid (∀ d, d ≤ W → hrf d (dgs 3 d) = hrw d R) := Lib.hid (by
    subst hR2
    intro d hd
    exact hr_same2 ⟨d, by rw [← hW] at hd; have h7 : hmW 2 = 3 := rfl; omega⟩)
  generalize hmK R = k at HOK hk1 hlq HKK ⊢
  generalize hmQ R = L at HOK HK HKK ⊢
  have hne : ((R : Int) == 2) = true ∧ ((R : Int) == 3) = false := by subst hR2; simp
  have hminR : min R 64 = R := by omega
  have hwuR : IntKind.u64.wrap (R : Int) = (R : Int) := by rw [IntKind.wrap_u64]; omega
  have hwpR : IntKind.i64.wrap ((2 : Int) ^ R) = (P : Int) := by
    have e : (2 : Int) ^ R = (P : Int) := by rw [← hP]; simp
    rw [e]; exact IntWalk.i64_in _ (by omega)
  have hsubR : (P : Int) - 1 = (W : Int) := by omega
  have hsubR2 : IntKind.i64.wrap ((P : Int) - 1) = (W : Int) := by rw [IntWalk.i64_in _ (by omega)]; omega
  have HKL : Hid ((hmL R (W + 1)).length = k) := Lib.hid (by rw [← HK.out]; exact HKK.out)
  clear hok hP hPW hW hR2 hb
  obtain ⟨hn2, hn3⟩ := hne
  have hn2' : ((R : Int) != 2) = !((R : Int) == 2) := rfl
  have hn3' : ((R : Int) != 3) = !((R : Int) == 3) := rfl
  rw [hn2] at hn2'
  rw [hn3] at hn3'
  go_enter Tryd.func13, Tryd.ntmps13
  go_wp2
  clear hn2 hn3 hn2' hn3' hminR hwuR hwpR hsubR hsubR2
  go_loopw [5, 6] (fun v0 dv wr0 => ∃ (d : Nat) (v : Value) (wr : World), 1 ≤ d ∧ d ≤ W + 1 ∧ v = v0 ∧ dv = .int .i64 (d : Int) ∧ wr = wr0 ∧ Hid (wr.ownsRow (w.heap.size + 1) 2 1 v (hmL R d).length ((hmL R d).map (Value.int .i64))) ∧ Hid (Below (w.heap.size + 1) (w.alloc (.cells #[.int .i64 0, .slice none 0 0] 24)) wr) ∧ w.heap.size + 1 ≤ wr.heap.size) (fun _ dv _ => 8 - (intOf dv).toNat)
  case atStart => exact ⟨1, _, _, by omega, by omega, rfl, rfl, rfl, Lib.hid (World.ownsRow_nil _ _ _ _), Lib.hid (by have := Below.refl (w.alloc (.cells #[.int .i64 0, .slice none 0 0] 24)).heap.size (w.alloc (.cells #[.int .i64 0, .slice none 0 0] 24)); simpa using this), by simp⟩
  case round =>
    obtain ⟨d, v, wr, hd1, hd2, rfl, rfl, rfl, HO, HW, hsz⟩ := hrel
    have HB0 := Lib.hid (Below.next (below_alloc w (.cells #[.int .i64 0, .slice none 0 0] 24)) (by simpa using HW.out) : Below w.heap.size w wr)
    by_cases hlt : d ≤ W
    · have hlti : decide ((d : Int) ≤ (W : Int)) = true := decide_eq_true (by omega)
      have hwd : IntKind.i64.wrap ((d : Int) + 1) = (d : Int) + 1 := IntWalk.i64_in _ (by omega)
      have HWO : Hid (∀ w3 : World, Calls Tryd.prog 44 #[.int .i64 (d : Int)] w3 fun e w' => e = .returned (.int .i64 (wt d : Int)) ∧ w3 = w') := Lib.hid (fun w3 => wo_impl d w3 (by omega))
      have hw16 := wt_le d
      by_cases h1 : 1 < wt d
      · have HY := Lib.hid (hmL_yes (R := R) (d := d) h1)
        have hb1 : decide (1 < wt d) = true := decide_eq_true h1
        have hb2 : decide ((1 : Int) < (wt d : Int)) = true := decide_eq_true (by omega)
        have hln := hmL_len R d
        have hws := HW.out.size
        have HHR : Hid (Calls Tryd.prog 45 #[.int .i64 (d : Int)] wr fun e w' => e = .returned (.int .i64 (hrw d R : Int)) ∧ Below wr.heap.size wr w') := Lib.hid (by
          have := hr_impl d w0 wr hp (Below.trans HB00.out (HB0.out.mono HB00.out.size)) hd1 (by omega)
          rw [HSAME.out d hlt] at this
          exact this)
        have HO1 := Lib.hid HO.out
        have HNE := Lib.hid (own_block HO.out)
        have HY1 := Lib.hid HY.out.1
        have HY2 := Lib.hid HY.out.2
        generalize hrw d R = X at HY1 HHR
        generalize hKL : (hmL R d).length = k2 at HO1 HY2 hln
        generalize hDL : (hmL R d).map (Value.int .i64) = DL at HO1 HY1
        generalize wt d = q at HWO hb1 hb2 h1
        clear HO HY hKL hDL hw16
        go_wp2_with (first | (go_at_call 44; (with_reducible refine (HWO.out _).mono ?_); rintro e w' ⟨rfl, hw⟩; subst hw) | (go_at_call 45; (with_reducible refine HHR.out.mono ?_); rintro e w2 ⟨rfl, hb⟩; have HO5 := Lib.hid (own_keep HO1.out hb); have hb5 := hb.size; have HB5 := Lib.hid hb; clear hb) | (at_builtin; refine wpList_append_lies _ rfl _ _ 22 rfl (w.heap.size + 1) 2 i0 (.int .i64 0) 1 8 Tryd.underlying22 hi hz0 hz1 hz2 rfl (by omega) v k2 DL rfl (World.ownsRow.alloc HO5.out _) ⟨w2.heap.size, 0, none⟩ 1 1 [.int .i64 (X : Int)] rfl rfl (World.news_of_block (cs := #[.int .i64 (X : Int)]) (t := 2) (fr := (0, 0)) (heap_alloc_new _ _)) (by simp [Value.oneCell']) (by omega) (by unfold maxLen; omega) (by omega) (by simp; omega) (w2.heap.size + 1) (by simp) ?_; intro gg cp w3 hown1 hgrow hat hlt2; have HO2 := Lib.hid hown1; have HG2 := Lib.hid hgrow; clear hown1 hgrow hat hlt2) | fail)
        exact ⟨⟨d + 1, _, _, by omega, by omega, rfl, by first | rfl | go_num | (congr 1), rfl, Lib.hid (by rw [HY1.out, HY2.out]; exact HO2.out), Lib.hid (Below.grown (Below.alloc (HW.out.trans (HB5.out.mono hsz)) (by omega) _) HG2.out (by simp; omega) HNE.out), by have := HG2.out.size; simp at this; omega⟩, by show 8 - ((d : Int) + 1).toNat < 8 - (d : Int).toNat; omega⟩
      · have HN := Lib.hid (hmL_no (R := R) (d := d) h1)
        have hb1 : decide (1 < wt d) = false := decide_eq_false h1
        have hb2 : decide ((1 : Int) < (wt d : Int)) = false := decide_eq_false (by omega)
        generalize wt d = q at HWO hb1 hb2 h1
        clear hw16
        go_wp2_with (first | (go_at_call 44; (with_reducible refine (HWO.out _).mono ?_); rintro e w' ⟨rfl, hw⟩; subst hw) | fail)
        exact ⟨⟨d + 1, _, _, by omega, by omega, rfl, by first | rfl | go_num | (congr 1), rfl, Lib.hid (by rw [HN.out]; exact HO.out), HW, hsz⟩, by show 8 - ((d : Int) + 1).toNat < 8 - (d : Int).toNat; omega⟩
    · obtain rfl : d = W + 1 := by omega
      have hlti : decide (((W + 1 : Nat) : Int) ≤ (W : Int)) = false := decide_eq_false (by omega)
      have hlti2 : decide ((W : Int) + 1 ≤ (W : Int)) = false := decide_eq_false (by omega)
      rw [HKL.out, ← HK.out] at HO
      obtain ⟨g, cp, rfl, hg, hgl⟩ := World.ownsRow.form HO.out (by omega)
      obtain ⟨hic, hgb⟩ := ICl.own HO.out (by omega)
      have HIC := Lib.hid hic
      have HR1 : Hid (Kin wr w.heap.size (.int .i64 0) (.slice none 0 0)) := Lib.hid ((Kin.new (w := w) (x := .int .i64 0) (y := .slice none 0 0) (T := 24)).below (by simpa using HW.out))
      clear hic
      go_wp2_with (first | (go_at_call 46; refine (p6IY (W : Int) _ k _ L _ HIC.out.row (by omega) HOK.out).mono ?_; rintro e w4 ⟨rfl, hb⟩; have HB2 := Lib.hid (Below.next HB0.out hb); have HR2 := Lib.hid (HR1.out.below hb); have HI2 := Lib.hid (HIC.out.below hb); obtain ⟨hQ, hq0, hq1, hqf0, hqf1⟩ := HR2.out; clear hb) | fail)
      obtain ⟨_, hr1, hr2⟩ := HR2.out.res (.int .i64 (W : Int)) (.slice (some ⟨g, 0, none⟩) k cp)
      exact bodyPost_ret (v := .tuple #[.agg #[.int .i64 (W : Int), .slice (some ⟨g, 0, none⟩) k cp], .bool true]) (by simp [results, Tryd.results13, go_sem, hr1, hr2]) rfl
        ⟨g, cp, rfl, ICl.new ((HI2.out.far (by simp; omega) _).far (by simp; omega) _) (by omega) (Below.setCell (Below.setCell HB2.out (by simp) _) (by simp) _)⟩
set_option maxRecDepth 100000 in
set_option maxHeartbeats 4000000 in
theorem hm_impl3 (R W : Nat) (w0 w : World) (hp : Db w0) (hb : Below w0.heap.size w0 w) (hR2 : R = 3) (hW : hmW R = W) (hok : paB (W : Int) (hmQ R) (hmK R) = true) : Calls Tryd.prog 13 #[.int .i64 (R : Int)] w (YPost (W : Int) (hmK R) (hmQ R) w) := by
  obtain ⟨i0, hi, hz0, hz1, hz2⟩ := info_parts Tryd.info64
  have HB00 := Lib.hid hb
  have hRR : 2 ≤ R ∧ R ≤ 3 := by omega
  have hWW : 3 ≤ W ∧ W ≤ 7 := by subst hR2; rw [← hW]; decide
  obtain ⟨P, hP⟩ : ∃ P, 2 ^ R = P := ⟨_, rfl⟩
  have hPW : P = W + 1 := by rw [← hP, ← hW]; unfold hmW; have := Nat.two_pow_pos R; omega
  have HK : Hid (hmQ R = hmL R (W + 1)) := Lib.hid (by rw [← hW]; rfl)
  have hk1 : 1 ≤ hmK R := by have := (pa_out hok).2.1.1; exact this
  have hlq : hmK R ≤ 8 := (pa_out hok).2.1.2
  have HKK : Hid ((hmQ R).length = hmK R) := Lib.hid rfl
  have HOK := Lib.hid hok
  have HSAME : Hid (∀ d, d ≤ W → hrf d (dgs 3 d) = hrw d R) := Lib.hid (by
    subst hR2
    intro d hd
    exact hr_same3 ⟨d, by rw [← hW] at hd; have h7 : hmW 3 = 7 := rfl; omega⟩)
  generalize hmK R = k at HOK hk1 hlq HKK ⊢
  generalize hmQ R = L at HOK HK HKK ⊢
  have hne : ((R : Int) == 2) = false ∧ ((R : Int) == 3) = true := by subst hR2; simp
  have hminR : min R 64 = R := by omega
  have hwuR : IntKind.u64.wrap (R : Int) = (R : Int) := by rw [IntKind.wrap_u64]; omega
  have hwpR : IntKind.i64.wrap ((2 : Int) ^ R) = (P : Int) := by
    have e : (2 : Int) ^ R = (P : Int) := by rw [← hP]; simp
    rw [e]; exact IntWalk.i64_in _ (by omega)
  have hsubR : (P : Int) - 1 = (W : Int) := by omega
  have hsubR2 : IntKind.i64.wrap ((P : Int) - 1) = (W : Int) := by rw [IntWalk.i64_in _ (by omega)]; omega
  have HKL : Hid ((hmL R (W + 1)).length = k) := Lib.hid (by rw [← HK.out]; exact HKK.out)
  clear hok hP hPW hW hR2 hb
  obtain ⟨hn2, hn3⟩ := hne
  have hn2' : ((R : Int) != 2) = !((R : Int) == 2) := rfl
  have hn3' : ((R : Int) != 3) = !((R : Int) == 3) := rfl
  rw [hn2] at hn2'
  rw [hn3] at hn3'
  go_enter Tryd.func13, Tryd.ntmps13
  go_wp2
  clear hn2 hn3 hn2' hn3' hminR hwuR hwpR hsubR hsubR2
  go_loopw [5, 6] (fun v0 dv wr0 => ∃ (d : Nat) (v : Value) (wr : World), 1 ≤ d ∧ d ≤ W + 1 ∧ v = v0 ∧ dv = .int .i64 (d : Int) ∧ wr = wr0 ∧ Hid (wr.ownsRow (w.heap.size + 1) 2 1 v (hmL R d).length ((hmL R d).map (Value.int .i64))) ∧ Hid (Below (w.heap.size + 1) (w.alloc (.cells #[.int .i64 0, .slice none 0 0] 24)) wr) ∧ w.heap.size + 1 ≤ wr.heap.size) (fun _ dv _ => 8 - (intOf dv).toNat)
  case atStart => exact ⟨1, _, _, by omega, by omega, rfl, rfl, rfl, Lib.hid (World.ownsRow_nil _ _ _ _), Lib.hid (by have := Below.refl (w.alloc (.cells #[.int .i64 0, .slice none 0 0] 24)).heap.size (w.alloc (.cells #[.int .i64 0, .slice none 0 0] 24)); simpa using this), by simp⟩
  case round =>
    obtain ⟨d, v, wr, hd1, hd2, rfl, rfl, rfl, HO, HW, hsz⟩ := hrel
    have HB0 := Lib.hid (Below.next (below_alloc w (.cells #[.int .i64 0, .slice none 0 0] 24)) (by simpa using HW.out) : Below w.heap.size w wr)
    by_cases hlt : d ≤ W
    · have hlti : decide ((d : Int) ≤ (W : Int)) = true := decide_eq_true (by omega)
      have hwd : IntKind.i64.wrap ((d : Int) + 1) = (d : Int) + 1 := IntWalk.i64_in _ (by omega)
      have HWO : Hid (∀ w3 : World, Calls Tryd.prog 44 #[.int .i64 (d : Int)] w3 fun e w' => e = .returned (.int .i64 (wt d : Int)) ∧ w3 = w') := Lib.hid (fun w3 => wo_impl d w3 (by omega))
      have hw16 := wt_le d
      by_cases h1 : 1 < wt d
      · have HY := Lib.hid (hmL_yes (R := R) (d := d) h1)
        have hb1 : decide (1 < wt d) = true := decide_eq_true h1
        have hb2 : decide ((1 : Int) < (wt d : Int)) = true := decide_eq_true (by omega)
        have hln := hmL_len R d
        have hws := HW.out.size
        have HHR : Hid (Calls Tryd.prog 45 #[.int .i64 (d : Int)] wr fun e w' => e = .returned (.int .i64 (hrw d R : Int)) ∧ Below wr.heap.size wr w') := Lib.hid (by
          have := hr_impl d w0 wr hp (Below.trans HB00.out (HB0.out.mono HB00.out.size)) hd1 (by omega)
          rw [HSAME.out d hlt] at this
          exact this)
        have HO1 := Lib.hid HO.out
        have HNE := Lib.hid (own_block HO.out)
        have HY1 := Lib.hid HY.out.1
        have HY2 := Lib.hid HY.out.2
        generalize hrw d R = X at HY1 HHR
        generalize hKL : (hmL R d).length = k2 at HO1 HY2 hln
        generalize hDL : (hmL R d).map (Value.int .i64) = DL at HO1 HY1
        generalize wt d = q at HWO hb1 hb2 h1
        clear HO HY hKL hDL hw16
        go_wp2_with (first | (go_at_call 44; (with_reducible refine (HWO.out _).mono ?_); rintro e w' ⟨rfl, hw⟩; subst hw) | (go_at_call 45; (with_reducible refine HHR.out.mono ?_); rintro e w2 ⟨rfl, hb⟩; have HO5 := Lib.hid (own_keep HO1.out hb); have hb5 := hb.size; have HB5 := Lib.hid hb; clear hb) | (at_builtin; refine wpList_append_lies _ rfl _ _ 22 rfl (w.heap.size + 1) 2 i0 (.int .i64 0) 1 8 Tryd.underlying22 hi hz0 hz1 hz2 rfl (by omega) v k2 DL rfl (World.ownsRow.alloc HO5.out _) ⟨w2.heap.size, 0, none⟩ 1 1 [.int .i64 (X : Int)] rfl rfl (World.news_of_block (cs := #[.int .i64 (X : Int)]) (t := 2) (fr := (0, 0)) (heap_alloc_new _ _)) (by simp [Value.oneCell']) (by omega) (by unfold maxLen; omega) (by omega) (by simp; omega) (w2.heap.size + 1) (by simp) ?_; intro gg cp w3 hown1 hgrow hat hlt2; have HO2 := Lib.hid hown1; have HG2 := Lib.hid hgrow; clear hown1 hgrow hat hlt2) | fail)
        exact ⟨⟨d + 1, _, _, by omega, by omega, rfl, by first | rfl | go_num | (congr 1), rfl, Lib.hid (by rw [HY1.out, HY2.out]; exact HO2.out), Lib.hid (Below.grown (Below.alloc (HW.out.trans (HB5.out.mono hsz)) (by omega) _) HG2.out (by simp; omega) HNE.out), by have := HG2.out.size; simp at this; omega⟩, by show 8 - ((d : Int) + 1).toNat < 8 - (d : Int).toNat; omega⟩
      · have HN := Lib.hid (hmL_no (R := R) (d := d) h1)
        have hb1 : decide (1 < wt d) = false := decide_eq_false h1
        have hb2 : decide ((1 : Int) < (wt d : Int)) = false := decide_eq_false (by omega)
        generalize wt d = q at HWO hb1 hb2 h1
        clear hw16
        go_wp2_with (first | (go_at_call 44; (with_reducible refine (HWO.out _).mono ?_); rintro e w' ⟨rfl, hw⟩; subst hw) | fail)
        exact ⟨⟨d + 1, _, _, by omega, by omega, rfl, by first | rfl | go_num | (congr 1), rfl, Lib.hid (by rw [HN.out]; exact HO.out), HW, hsz⟩, by show 8 - ((d : Int) + 1).toNat < 8 - (d : Int).toNat; omega⟩
    · obtain rfl : d = W + 1 := by omega
      have hlti : decide (((W + 1 : Nat) : Int) ≤ (W : Int)) = false := decide_eq_false (by omega)
      have hlti2 : decide ((W : Int) + 1 ≤ (W : Int)) = false := decide_eq_false (by omega)
      rw [HKL.out, ← HK.out] at HO
      obtain ⟨g, cp, rfl, hg, hgl⟩ := World.ownsRow.form HO.out (by omega)
      obtain ⟨hic, hgb⟩ := ICl.own HO.out (by omega)
      have HIC := Lib.hid hic
      have HR1 : Hid (Kin wr w.heap.size (.int .i64 0) (.slice none 0 0)) := Lib.hid ((Kin.new (w := w) (x := .int .i64 0) (y := .slice none 0 0) (T := 24)).below (by simpa using HW.out))
      clear hic
      go_wp2_with (first | (go_at_call 46; refine (p6IY (W : Int) _ k _ L _ HIC.out.row (by omega) HOK.out).mono ?_; rintro e w4 ⟨rfl, hb⟩; have HB2 := Lib.hid (Below.next HB0.out hb); have HR2 := Lib.hid (HR1.out.below hb); have HI2 := Lib.hid (HIC.out.below hb); obtain ⟨hQ, hq0, hq1, hqf0, hqf1⟩ := HR2.out; clear hb) | fail)
      obtain ⟨_, hr1, hr2⟩ := HR2.out.res (.int .i64 (W : Int)) (.slice (some ⟨g, 0, none⟩) k cp)
      exact bodyPost_ret (v := .tuple #[.agg #[.int .i64 (W : Int), .slice (some ⟨g, 0, none⟩) k cp], .bool true]) (by simp [results, Tryd.results13, go_sem, hr1, hr2]) rfl
        ⟨g, cp, rfl, ICl.new ((HI2.out.far (by simp; omega) _).far (by simp; omega) _) (by omega) (Below.setCell (Below.setCell HB2.out (by simp) _) (by simp) _)⟩
def hmR (x : Int) : Nat := x.toNat
theorem hmB_out {x : Int} (h : hmB x = true) : x = 2 ∨ x = 3 := of_decide_eq_true h
theorem hm_specYes (x : Int) (w : World) (hok : hmB x = true) : Calls Tryd.prog 12 #[.int .i64 x] w (YPost ((hmW x.toNat : Nat) : Int) (hmK x.toNat) (hmQ x.toNat) w) := by
  rcases hmB_out hok with rfl | rfl
  · exact hm_spec2 2 (hmW 2) w rfl rfl hm_ok2
  · exact hm_spec3 3 (hmW 3) w rfl rfl hm_ok3
theorem hm_implYes (x : Int) (w0 w : World) (hp : Db w0) (hb : Below w0.heap.size w0 w) (hok : hmB x = true) : Calls Tryd.prog 13 #[.int .i64 x] w (YPost ((hmW x.toNat : Nat) : Int) (hmK x.toNat) (hmQ x.toNat) w) := by
  rcases hmB_out hok with rfl | rfl
  · exact hm_impl2 2 (hmW 2) w0 w hp hb rfl rfl hm_ok2
  · exact hm_impl3 3 (hmW 3) w0 w hp hb rfl rfl hm_ok3
theorem hmK_le {x : Int} (h : hmB x = true) : hmK x.toNat ≤ 1048576 := by
  rcases hmB_out h with rfl | rfl
  · have := (pa_out hm_ok2).2.1.2; exact Nat.le_trans this (by decide)
  · have := (pa_out hm_ok3).2.1.2; exact Nat.le_trans this (by decide)
end Go.Proofs.YtjlifbnenngijaaDoor
