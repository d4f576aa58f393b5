
/- DropPlaces: what both answer. -/
import Derived.Test.YtnljabgkaelplaaDoorDrs
import Derived.Maps.AppendAt
set_option linter.unusedVariables false
namespace Go.Proofs.YtnljabgkaelplaaDoor
open Go.Proofs.YtnljabgkaelplaaDoor.Flo Go.RowKit Go.Shelf Go.Sort Go.Proofs.YtnljabgkaelplaaDoor.Pr
attribute [local go_sem] Oper.semAt_some

theorem grownBy_growD (W : World) (os : Array Obj) : W.grownBy (grow W os) none := ⟨rfl, rfl, rfl, by show W.heap.size ≤ (W.heap ++ os).size; rw [Array.size_append]; omega, fun k hk _ => Array.getElem?_append_left hk⟩
def dpB (n s : Int) : Bool := decide (1 ≤ n ∧ n ≤ 32) && seB s
theorem dpB_out {n s : Int} (h : dpB n s = true) : ∃ m t : Nat, n = (m : Int) ∧ s = (t : Int) ∧ 1 ≤ m ∧ m ≤ 32 ∧ t < 4294967296 := by
  unfold dpB seB at h
  rw [Bool.and_eq_true] at h
  have h1 := of_decide_eq_true h.1
  have h2 := of_decide_eq_true h.2
  exact ⟨n.toNat, s.toNat, by omega, by omega, by omega, by omega, by omega⟩
theorem dpB_no {n s : Int} (h : dpB n s = false) : ¬ (1 ≤ n ∧ n ≤ 32) ∨ ((1 ≤ n ∧ n ≤ 32) ∧ seB s = false) := by
  unfold dpB at h
  by_cases h1 : 1 ≤ n ∧ n ≤ 32
  · rw [decide_eq_true h1] at h; exact .inr ⟨h1, by simpa using h⟩
  · exact .inl h1
theorem dpK_le {n s : Int} (h : dpB n s = true) : dpK n.toNat s.toNat ≤ 1048576 := by
  obtain ⟨m, t, rfl, rfl, h1, h2, h3⟩ := dpB_out h
  have := (dpK_pos (show 0 < m by omega) t).2
  rw [Int.toNat_natCast, Int.toNat_natCast]; omega
theorem ints_len {n : Nat} (l : List (Fin n)) : (ints l).length = l.length := by unfold ints; rw [List.length_map]
set_option maxHeartbeats 1000000 in
theorem seed_spec (n : Int) (w : World) : Calls Tryd.prog 40 #[.int .i64 n] w fun e w' => e = .returned (.bool (seB n)) ∧ w = w' := by
  by_cases h0 : 0 ≤ n ∧ n ≤ 4294967295
  · have HF : Hid (seB n = true) := Lib.hid (decide_eq_true h0)
    have H0 := Lib.hid h0
    clear h0
    go_enter Tryd.func40, Tryd.ntmps40
    go_wp2_with (first | (go_at_call 29; (with_reducible refine (in_true n 0 4294967295 _ H0.out.1 H0.out.2).mono ?_); rintro e w' ⟨rfl, hw⟩; have hw := hw.symm; subst hw) | fail)
    go_ret
    exact ⟨ret_bool2 HF.out.symm, rfl⟩
  · have HF : Hid (seB n = false) := Lib.hid (decide_eq_false h0)
    have H0 := Lib.hid h0
    clear h0
    go_enter Tryd.func40, Tryd.ntmps40
    go_wp2_with (first | (go_at_call 29; (with_reducible refine (in_false n 0 4294967295 _ H0.out).mono ?_); rintro e w' ⟨rfl, hw⟩; have hw := hw.symm; subst hw) | fail)
    go_ret
    exact ⟨ret_bool2 HF.out.symm, rfl⟩
set_option maxRecDepth 100000 in
set_option maxHeartbeats 4000000 in
theorem aps_impl (Bw n x : Nat) (w0 w : World) (hp : Db w0) (hb : Below w0.heap.size w0 w) (hB : Bw < w.heap.size) (hc : w.cell? ⟨Bw, 0, none⟩ = some (.int .i64 (x : Int))) (hx : x < 2 ^ n) (hn : n ≤ 32) :
    Calls Tryd.prog 70 #[.slice none 0 0, .func (.func 71) #[] #[.pointer (some ⟨Bw, 0, none⟩)]] w fun e w' => ∃ v, e = .returned v ∧ w'.ownsRow w.heap.size 2 1 v (dgs n x).length ((ints (dgs n x)).map (Value.int .i64)) ∧ Below w.heap.size w w' := by
  obtain ⟨i0, hi, hz0, hz1, hz2⟩ := info_parts Tryd.info64
  have hB2 : Bw < (w.alloc (.cells #[.slice none 0 0] 22)).heap.size := by simp; omega
  have HST := Lib.hid (fun (h2 : Below w0.heap.size w0 (w.alloc (.cells #[.slice none 0 0] 22))) (h3 : (w.alloc (.cells #[.slice none 0 0] 22)).cell? ⟨Bw, 0, none⟩ = some (.int .i64 (x : Int))) => ix_stops5 5 Bw n x hx hn w0 _ hp h2 hB2 h3)
  have HB0 := Lib.hid (Below.next hb (below_alloc w (.cells #[.slice none 0 0] 22)))
  have HC0 := Lib.hid ((World.cell?_alloc_past (.cells #[.slice none 0 0] 22) _ _ hB).trans hc)
  have HLE := Lib.hid hb.size
  clear hb hc hx hB2
  refine (callsIn_wide (n := 6)).1 ?_
  have hFW : ∀ f, Fence.wide.fn f := fun _ => trivial
  have hFD : Fence.wide.depth.isSome = false := rfl
  refine callsIn_of_wp_marks Tryd.func70 rfl trivial ?_ rfl
  simp only [Tryd.ntmps70, List.size_toArray, List.length_cons, List.length_nil, Nat.reduceAdd, Nat.reduceSub, Array.replicate_succ, Array.replicate_zero, List.push_toArray, List.append_toArray, List.nil_append, List.cons_append]
  gi_wp2_with fail
  have bO := Boxed.new w 22 (.slice none 0 0)
  have hBW := below_alloc w (.cells #[.slice none 0 0] 22)
  have hsz : (w.alloc (.cells #[.slice none 0 0] 22)).heap.size = w.heap.size + 1 := by simp
  have HST2 := Lib.hid (HST.out HB0.out HC0.out)
  have HLE2 := HLE.out
  generalize hW0 : w.alloc (.cells #[.slice none 0 0] 22) = W0 at bO hBW hsz HST2 ⊢
  clear hW0 HST HB0 HC0
  refine wpIn_rangeFunc_ownG rfl (by decide) (gf := 71) (lb := #[.pointer (some ⟨Bw, 0, none⟩)]) rfl trivial (enters_of Tryd.func71 (by kernel_rfl) rfl)
    HST2.out belowK_t (belowK_b (by omega)) (Below.refl _ _) (fun _ => rfl)
    (fun pre W => ((∃ v, Boxed W w.heap.size 22 v ∧ W.ownsRow (w.heap.size + 1) 2 1 v (ints pre).length ((ints pre).map (Value.int .i64)) ∧ (v = .slice none 0 0 ↔ ints pre = [])) ∧ w.heap.size + 1 ≤ W.heap.size) ∧ Below w.heap.size w W)
    (fun _ _ _ => False)
    (OwnFrom.and (OwnFrom.and (Own.from (holdsRow_own (w.heap.size + 1) w.heap.size 22 2 1 (fun pre => (ints pre).length) (fun pre => (ints pre).map (Value.int .i64)) (fun pre v => v = .slice none 0 0 ↔ ints pre = [])) _) (Own.from (fun s X Y row hs hg _ => Nat.le_trans hs hg.size) _)) (ownFrom_below (Nat.le_refl _) (by omega)))
    (fun _ _ _ _ _ hs _ _ => hs)
    ⟨⟨⟨_, bO, World.ownsRow_nil _ _ _ _, by simp [ints]⟩, by omega⟩, hBW⟩
    (fun i => { tmps := #[.slice none 0 0, .func (.func 71) #[] #[.pointer (some ⟨Bw, 0, none⟩)], .pointer (some ⟨w.heap.size, 0, none⟩), undef, .slice none 0 0, .int .i64 (i.val : Int), .func (.func 71) #[] #[.pointer (some ⟨Bw, 0, none⟩)], .int .i64 (i.val : Int), undef, undef, undef, undef, undef], defers := [] }) ?assign ?body ?done ?stop
  case assign =>
    intro l i W K hK
    gi_wp2
    exact hK
  case body =>
    rintro l pre i W ⟨⟨⟨v, hv, hrow, hnil⟩, hW⟩, hB4⟩ hlen
    have cO := hv.cell
    have fO := hv.frozen
    have hl32 : (ints pre).length ≤ 32 := by rw [ints_len]; omega
    have HF : Hid (ints (pre ++ [i]) = ints pre ++ [(i.val : Int)]) := Lib.hid (ints_snoc pre i)
    generalize ints pre = P1 at hrow hnil HF hl32
    generalize hE : i.val = E at HF ⊢
    have HROW : Hid (W.ownsRow (w.heap.size + 1) 2 1 v P1.length (P1.map (Value.int .i64))) := Lib.hid hrow
    have HROWA : Hid ((W.alloc (.cells #[.int .i64 (E : Int)] 2)).ownsRow (w.heap.size + 1) 2 1 v P1.length (P1.map (Value.int .i64))) := Lib.hid (World.ownsRow.alloc hrow _)
    have HCN : Hid (∀ (j : Nat) (u : Value), [Value.int .i64 (E : Int)][j]? = some u → (W.alloc (.cells #[.int .i64 (E : Int)] 2)).cell? ((⟨W.heap.size, 0, none⟩ : Addr).add j) = some u) := Lib.hid (World.news_of_block (cs := #[.int .i64 (E : Int)]) (t := 2) (fr := (0, 0)) (heap_alloc_new _ _))
    have HV : Hid (Boxed W w.heap.size 22 v) := Lib.hid hv
    have HNB := Lib.hid (own_block HROW.out)
    have HNIL := Lib.hid hnil
    clear hrow hnil
    gi_wp2_with (first | (gi_at_builtin; refine wpListIn_append_own _ rfl _ _ 22 rfl (w.heap.size + 1) 2 i0 (.int .i64 0) 1 8 Tryd.underlying22 hi hz0 hz1 hz2 rfl (by decide) v P1.length (P1.map (Value.int .i64)) rfl HROWA.out ⟨W.heap.size, 0, none⟩ 1 1 [.int .i64 (E : Int)] rfl rfl HCN.out (by simp [Value.oneCell']) (by unfold maxLen; omega) (by omega) (by simp; omega) ?_; intro v' w5 hown' hgrow _; have HO := Lib.hid hown'; have HG := Lib.hid hgrow; obtain ⟨g', cap', rfl⟩ := ownsRow_succ hown'; obtain ⟨hv1, hv2, hr2, hk2, hb2⟩ := HV.out.appended (by decide) (World.ownsRow.mono HROW.out (show w.heap.size ≤ w.heap.size + 1 by omega)) (by omega) (Nat.le_refl w.heap.size) (World.ownsRow.mono hown' (show w.heap.size ≤ w.heap.size + 1 by omega)) hgrow; have hc1 := hv1.cell; have hf1 := hv1.frozen; have HV2 := Lib.hid hv2; have HK5 := Lib.hid hk2; have HB5 := Lib.hid hb2; clear hown' hgrow hv1 hv2 hr2 hk2 hb2) | fail)
    (try go_bits)
    exact ⟨HK5.out.from _, (Below.refl _ W).trans (HB5.out.mono (by omega)), ⟨⟨_, HV2.out, by rw [HF.out]; simpa using HO.out.kept (grownBy_setCell' _ w.heap.size _) (.inr ((HV2.out.not_row (by decide) (HO.out.kept (grownBy_setCell' _ w.heap.size _) (.inr (fun e => by have e2 := own_block HO.out w.heap.size e; omega)))).symm)), by rw [HF.out]; simp⟩, Nat.le_trans hW HB5.out.size⟩, hB4.trans HB5.out⟩
  case done =>
    rintro D ys W hD rfl ⟨⟨⟨v, hv, hrow, hnil⟩, hW⟩, hB4⟩ hK
    have hc := hv.cell
    gi_wp2
    refine ⟨by simp, .inl ⟨_, _, rfl, run_takeDeferred hK, ?_⟩⟩
    exact ⟨_, results_tmp rfl _ _ _, _, rfl, by rw [← ints_len]; exact ownsRow_putObj (World.ownsRow.mono hrow (by omega)) _ hK rfl, hB4.trans (belowK_b (w := w) (Nat.le_refl _) W D _ _ (by omega) hK rfl rfl)⟩
  case stop =>
    rintro D c pre W _ _ h _
    exact h.elim
set_option maxRecDepth 100000 in
set_option maxHeartbeats 4000000 in
theorem dpsN (n s : Int) (w : World) (hok : dpB n s = false) : Calls Tryd.prog 16 #[.int .i64 n, .int .i64 s] w fun e w' => e = .returned (.tuple #[.slice none 0 0, .bool false]) ∧ Below w.heap.size w w' := by
  rcases dpB_no hok with h1 | ⟨h1, h2⟩
  · have H1 := Lib.hid h1
    clear h1 hok
    go_enter Tryd.func16, Tryd.ntmps16
    go_wp2_with (first | (go_at_call 29; (with_reducible refine (in_false n 1 32 _ H1.out).mono ?_); rintro e w' ⟨rfl, hw⟩; have hw := hw.symm; subst hw) | fail)
    go_ret2
    exact ⟨rfl, Below.refl _ _⟩
  · have H1 := Lib.hid h1
    have HSE : Hid (∀ w3 : World, Calls Tryd.prog 40 #[.int .i64 s] w3 fun e w' => e = .returned (.bool false) ∧ w3 = w') := Lib.hid (fun w3 => by have := seed_spec s w3; rw [h2] at this; exact this)
    clear h1 h2 hok
    go_enter Tryd.func16, Tryd.ntmps16
    go_wp2_with (first | (go_at_call 29; (with_reducible refine (in_true n 1 32 _ H1.out.1 H1.out.2).mono ?_); rintro e w' ⟨rfl, hw⟩; have hw := hw.symm; subst hw) | (go_at_call 40; (with_reducible refine (HSE.out _).mono ?_); rintro e w' ⟨rfl, hw⟩; subst hw) | fail)
    go_ret2
    exact ⟨rfl, Below.refl _ _⟩
set_option maxRecDepth 100000 in
set_option maxHeartbeats 4000000 in
theorem dpsY (n s : Int) (w : World) (hok : dpB n s = true) : Calls Tryd.prog 16 #[.int .i64 n, .int .i64 s] w fun e w' => ∃ g cp, e = .returned (.tuple #[.slice (some ⟨g, 0, none⟩) (dpK n.toNat s.toNat) cp, .bool true]) ∧ New w w' g (.il (dpK n.toNat s.toNat) (dpL n.toNat s.toNat)) := by
  obtain ⟨m, q, rfl, rfl, h1, h2, h3⟩ := dpB_out hok
  have hsq : seB (q : Int) = true := decide_eq_true (by omega)
  have HSE : Hid (∀ w3 : World, Calls Tryd.prog 40 #[.int .i64 (q : Int)] w3 fun e w' => e = .returned (.bool true) ∧ w3 = w') := Lib.hid (fun w3 => by have := seed_spec (q : Int) w3; rw [hsq] at this; exact this)
  have HDR := Lib.hid (drp_spec m q w ⟨h1, h2⟩ h3)
  rw [Int.toNat_natCast, Int.toNat_natCast]
  clear hok hsq
  go_enter Tryd.func16, Tryd.ntmps16
  go_wp2_with (first | (go_at_call 29; (with_reducible refine (in_true (m : Int) 1 32 _ (by omega) (by omega)).mono ?_); rintro e w' ⟨rfl, hw⟩; have hw := hw.symm; subst hw) | (go_at_call 40; (with_reducible refine (HSE.out _).mono ?_); rintro e w' ⟨rfl, hw⟩; subst hw) | (go_at_call 41; (with_reducible refine HDR.out.mono ?_); rintro e w2 ⟨g, cp, rfl, hnw⟩; have HN := Lib.hid hnw; clear hnw) | fail)
  go_ret2
  exact ⟨_, _, rfl, HN.out⟩
set_option maxRecDepth 100000 in
set_option maxHeartbeats 4000000 in
theorem dpiN (n s : Int) (w0 w : World) (hp : Db w0) (hb0 : Below w0.heap.size w0 w) (hok : dpB n s = false) : Calls Tryd.prog 17 #[.int .i64 n, .int .i64 s] w fun e w' => e = .returned (.tuple #[.slice none 0 0, .bool false]) ∧ Below w.heap.size w w' := by
  rcases dpB_no hok with h1 | ⟨h1, h2⟩
  · have HI : Hid (∀ w3 : World, Calls Tryd.prog 42 #[.int .i64 n] w3 fun e w' => e = .returned (.bool false) ∧ w3 = w') := Lib.hid (fun w3 => by have := isd_impl n w3; rw [decide_eq_false h1] at this; exact this)
    clear h1 hok
    go_enter Tryd.func17, Tryd.ntmps17
    go_wp2_with (first | (go_at_call 42; (with_reducible refine (HI.out _).mono ?_); rintro e w' ⟨rfl, hw⟩; subst hw) | fail)
    go_ret2
    exact ⟨rfl, Below.refl _ _⟩
  · have HI : Hid (∀ w3 : World, Calls Tryd.prog 42 #[.int .i64 n] w3 fun e w' => e = .returned (.bool true) ∧ w3 = w') := Lib.hid (fun w3 => by have := isd_impl n w3; rw [decide_eq_true h1] at this; exact this)
    have HSE : Hid (∀ w3 : World, Calls Tryd.prog 43 #[.int .i64 s] w3 fun e w' => e = .returned (.bool false) ∧ w3 = w') := Lib.hid (fun w3 => by have := seed_impl s w3; rw [h2] at this; exact this)
    clear h1 h2 hok
    go_enter Tryd.func17, Tryd.ntmps17
    go_wp2_with (first | (go_at_call 42; (with_reducible refine (HI.out _).mono ?_); rintro e w' ⟨rfl, hw⟩; subst hw) | (go_at_call 43; (with_reducible refine (HSE.out _).mono ?_); rintro e w' ⟨rfl, hw⟩; subst hw) | fail)
    go_ret2
    exact ⟨rfl, Below.refl _ _⟩
theorem col_impl (Bw n x : Nat) (w0 w : World) (hp : Db w0) (hb : Below w0.heap.size w0 w) (hB : Bw < w.heap.size) (hc : w.cell? ⟨Bw, 0, none⟩ = some (.int .i64 (x : Int))) (hx : x < 2 ^ n) (hn : n ≤ 32) :
    Calls Tryd.prog 44 #[.func (.func 71) #[] #[.pointer (some ⟨Bw, 0, none⟩)]] w fun e w' => ∃ v, e = .returned v ∧ w'.ownsRow w.heap.size 2 1 v (dgs n x).length ((ints (dgs n x)).map (Value.int .i64)) ∧ Below w.heap.size w w' := by
  have HA := Lib.hid (aps_impl Bw n x w0 w hp hb hB hc hx hn)
  clear hb hc hx
  go_enter Tryd.func44, Tryd.ntmps44
  go_wp2_with (first | (go_at_call 70; (with_reducible refine HA.out.mono ?_); rintro e w2 ⟨v, rfl, h1, h2⟩; have H1 := Lib.hid h1; have H2 := Lib.hid h2; clear h1 h2) | fail)
  go_ret
  exact ⟨_, rfl, H1.out, H2.out⟩
set_option maxRecDepth 100000 in
set_option maxHeartbeats 4000000 in
theorem dpiY (n s : Int) (w0 w : World) (hp : Db w0) (hb0 : Below w0.heap.size w0 w) (hok : dpB n s = true) : Calls Tryd.prog 17 #[.int .i64 n, .int .i64 s] w fun e w' => ∃ g cp, e = .returned (.tuple #[.slice (some ⟨g, 0, none⟩) (dpK n.toNat s.toNat) cp, .bool true]) ∧ New w w' g (.il (dpK n.toNat s.toNat) (dpL n.toNat s.toNat)) := by
  obtain ⟨m, q, rfl, rfl, h1, h2, h3⟩ := dpB_out hok
  have hsq : seB (q : Int) = true := decide_eq_true (by omega)
  have HI : Hid (∀ w3 : World, Calls Tryd.prog 42 #[.int .i64 (m : Int)] w3 fun e w' => e = .returned (.bool true) ∧ w3 = w') := Lib.hid (fun w3 => by have := isd_impl (m : Int) w3; rw [decide_eq_true (by omega)] at this; exact this)
  have HSE : Hid (∀ w3 : World, Calls Tryd.prog 43 #[.int .i64 (q : Int)] w3 fun e w' => e = .returned (.bool true) ∧ w3 = w') := Lib.hid (fun w3 => by have := seed_impl (q : Int) w3; rw [hsq] at this; exact this)
  have HW := Lib.hid (wod_impl m q w ⟨h1, h2⟩ h3)
  have HKL : Hid (dpK m q = (dgs m (wdr m q)).length ∧ dpL m q = ints (dgs m (wdr m q)) ∧ 1 ≤ dpK m q) := Lib.hid ⟨by unfold dpK; rw [dpL_dgs, ints_len], dpL_dgs m q, (dpK_pos (by omega) q).1⟩
  have hbx := below_alloc w (.cells #[.int .i64 ((wdr m q : Nat) : Int)] 2)
  have HBX := Lib.hid hbx
  have HCO := Lib.hid (col_impl w.heap.size m (wdr m q) w0 (w.alloc (.cells #[.int .i64 ((wdr m q : Nat) : Int)] 2)) hp (Below.next hb0 hbx) (by simp) (by rw [World.cell?_alloc_at _ _ _ _ rfl]; rfl) (wdr_lt (by omega) q) h2)
  rw [Int.toNat_natCast, Int.toNat_natCast]
  generalize dpK m q = K at HKL ⊢
  generalize dpL m q = L at HKL ⊢
  generalize wdr m q = W at HW HKL HCO HBX
  clear hok hsq hb0 hbx
  go_enter Tryd.func17, Tryd.ntmps17
  go_wp2_with (first | (go_at_call 42; (with_reducible refine (HI.out _).mono ?_); rintro e w' ⟨rfl, hw⟩; subst hw) | (go_at_call 43; (with_reducible refine (HSE.out _).mono ?_); rintro e w' ⟨rfl, hw⟩; subst hw) | (go_at_call 46; (with_reducible refine HW.out.mono ?_); rintro e w' ⟨rfl, hw⟩; subst hw) | (go_at_call 45; (with_reducible refine (ix_impl (W : Int) _).mono ?_); rintro e w' ⟨rfl, hw⟩; subst hw) | (go_at_call 44; (with_reducible refine HCO.out.mono ?_); rintro e w2 ⟨v, rfl, h1, h2⟩; have H1 := Lib.hid h1; have H2 := Lib.hid h2; clear h1 h2) | fail)
  go_ret2
  obtain ⟨e1, e2, e3⟩ := HKL.out
  have h4 := H1.out
  rw [← e1, ← e2] at h4
  obtain ⟨g, cp, rfl, hnw⟩ := drp_new (World.ownsRow.mono h4 HBX.out.size) (Below.next HBX.out H2.out) (by omega)
  exact ⟨_, _, rfl, hnw⟩
end Go.Proofs.YtnljabgkaelplaaDoor
