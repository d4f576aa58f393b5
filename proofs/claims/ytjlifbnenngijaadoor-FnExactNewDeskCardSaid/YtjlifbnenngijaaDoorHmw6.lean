
/- Codes of Hamming: the functions. -/
import Derived.Test.YtjlifbnenngijaaDoorDgo
import Derived.Test.YtjlifbnenngijaaDoorRpy
set_option linter.unusedVariables false
namespace Go.Proofs.YtjlifbnenngijaaDoor
open Go.Proofs.YtjlifbnenngijaaDoor.Flo Go.RowKit Go.Shelf Go.Proofs.YtjlifbnenngijaaDoor.Pr

/-- The row of a place, as the model makes it: j digits are looked at. -/
def hrw (d : Nat) : Nat → Nat
  | 0 => 2 ^ (d - 1)
  | j + 1 => if d.testBit j then hrw d j ||| 2 ^ (2 ^ j - 1) else hrw d j
/-- .. and by the digits that have come. -/
def hrf (d : Nat) {n : Nat} (pre : List (Fin n)) : Nat := pre.foldl (fun s i => s ||| 2 ^ (2 ^ i.val - 1)) (2 ^ (d - 1))
theorem hrf_snoc (d : Nat) {n : Nat} (pre : List (Fin n)) (i : Fin n) : hrf d (pre ++ [i]) = hrf d pre ||| 2 ^ (2 ^ i.val - 1) := by unfold hrf; rw [List.foldl_append]; rfl
theorem pw3 : ∀ j : Fin 3, 2 ^ (2 ^ j.1 - 1) < 2 ^ 7 := by decide
theorem hrf_lt {d : Nat} (hd : d ≤ 7) (pre : List (Fin 3)) : hrf d pre < 2 ^ 7 := by
  unfold hrf
  have h0 : 2 ^ (d - 1) < 2 ^ 7 := Nat.pow_lt_pow_right (by decide) (by omega)
  have : ∀ (l : List (Fin 3)) (s : Nat), s < 2 ^ 7 → l.foldl (fun s i => s ||| 2 ^ (2 ^ i.val - 1)) s < 2 ^ 7 := by
    intro l
    induction l with
    | nil => intro s hs; exact hs
    | cons i l ih => intro s hs; exact ih _ (Nat.or_lt_two_pow hs (pw3 i))
  exact this pre _ h0
theorem hrw_lt {d : Nat} (hd : d ≤ 7) : ∀ j, j ≤ 3 → hrw d j < 2 ^ 7
  | 0, _ => Nat.pow_lt_pow_right (by decide) (by omega)
  | j + 1, h => by
    have h1 := hrw_lt hd j (by omega)
    unfold hrw
    split
    · exact Nat.or_lt_two_pow h1 (pw3 ⟨j, by omega⟩)
    · exact h1
theorem hr_same3 : ∀ d : Fin 8, hrf d.1 (dgs 3 d.1) = hrw d.1 3 := by decide
theorem hr_same2 : ∀ d : Fin 4, hrf d.1 (dgs 3 d.1) = hrw d.1 2 := by decide
/-- The rows of the places below d. -/
def hmL (R : Nat) : Nat → List Int
  | 0 => []
  | d + 1 => if 1 < wt d then hmL R d ++ [((hrw d R : Nat) : Int)] else hmL R d
theorem hmL_len (R : Nat) : ∀ d, (hmL R d).length ≤ d
  | 0 => Nat.le_refl _
  | d + 1 => by
    have := hmL_len R d
    unfold hmL
    split
    · rw [List.length_append]; simp; omega
    · omega
theorem hmL_yes {R d : Nat} (h : 1 < wt d) : (hmL R (d + 1)).map (Value.int .i64) = (hmL R d).map (Value.int .i64) ++ [.int .i64 ((hrw d R : Nat) : Int)] ∧ (hmL R (d + 1)).length = (hmL R d).length + 1 := by
  have e : hmL R (d + 1) = hmL R d ++ [((hrw d R : Nat) : Int)] := by show (if 1 < wt d then _ else _) = _; rw [if_pos h]
  rw [e]; simp
theorem hmL_no {R d : Nat} (h : ¬ 1 < wt d) : hmL R (d + 1) = hmL R d := by show (if 1 < wt d then _ else _) = _; rw [if_neg h]
def hmW (R : Nat) : Nat := 2 ^ R - 1
def hmQ (R : Nat) : List Int := hmL R (hmW R + 1)
def hmK (R : Nat) : Nat := (hmQ R).length
theorem hm_ok2 : paB (hmW 2 : Int) (hmQ 2) (hmK 2) = true := by decide +kernel
theorem hm_ok3 : paB (hmW 3 : Int) (hmQ 3) (hmK 3) = true := by decide +kernel
theorem wt_one {d : Nat} (h : d < 65536) (h0 : 1 ≤ d) : 1 ≤ wt d := by
  have : ∀ (f x : Nat), x < 2 ^ f → x ≠ 0 → 1 ≤ wtF f x := by
    intro f
    induction f with
    | zero => intro x hx h1; have : x < 1 := hx; omega
    | succ f ih =>
      intro x hx h1
      show 1 ≤ x % 2 + wtF f (x / 2)
      by_cases e : x / 2 = 0
      · omega
      · have := ih (x / 2) (by rw [Nat.pow_succ] at hx; omega) e
        omega
  exact this 16 d h (by omega)
def hmB (x : Int) : Bool := decide (x = 2 ∨ x = 3)
set_option maxRecDepth 100000 in
set_option maxHeartbeats 4000000 in
theorem hm_specNo (x : Int) (w : World) (hok : hmB x = false) : Calls Tryd.prog 12 #[.int .i64 x] w (YNone w) := by
  have h := of_decide_eq_false hok
  have h2 : (x == 2) = false := by simp; omega
  have h3 : (x == 3) = false := by simp; omega
  have h2' : (x != 2) = true := by simp; omega
  have h3' : (x != 3) = true := by simp; omega
  clear hok h
  go_enter Tryd.func12, Tryd.ntmps12
  go_wp2
  exact bodyPost_ret (v := .tuple #[.agg #[.int .i64 0, .slice none 0 0], .bool false]) (by simp [results, Tryd.results12, go_sem]) rfl ⟨rfl, below_alloc _ _⟩
set_option maxRecDepth 100000 in
set_option maxHeartbeats 4000000 in
theorem hm_spec2 (R W : Nat) (w : World) (hR2 : R = 2) (hW : hmW R = W) (hok : paB (W : Int) (hmQ R) (hmK R) = true) : Calls Tryd.prog 12 #[.int .i64 (R : Int)] w (YPost (W : Int) (hmK R) (hmQ R) w) := by
  obtain ⟨i0, hi, hz0, hz1, hz2⟩ := info_parts Tryd.info64
  have hRR : 2 ≤ R ∧ R ≤ 3 := by omega
  have hWW : 3 ≤ W ∧ W ≤ 7 := by subst hR2; rw [← hW]; decide
  obtain ⟨P, hP⟩ : ∃ P, 2 ^ R = P := ⟨_, rfl⟩
  have hPW : P = W + 1 := by rw [← hP, ← hW]; unfold hmW; have := Nat.two_pow_pos R; omega
  have HK : Hid (hmQ R = hmL R (W + 1)) := Lib.hid (by rw [← hW]; rfl)
  have hk1 : 1 ≤ hmK R := by have := (pa_out hok).2.1.1; exact this
  have hlq : hmK R ≤ 8 := (pa_out hok).2.1.2
  have HKK : Hid ((hmQ R).length = hmK R) := Lib.hid rfl
  have HOK := Lib.hid hok
  generalize hmK R = k at HOK hk1 hlq HKK ⊢
  generalize hmQ R = L at HOK HK HKK ⊢
  have hne : ((R : Int) == 2) = true ∧ ((R : Int) == 3) = false := by subst hR2; simp
  have hminR : min R 64 = R := by omega
  have hwuR : IntKind.u64.wrap (R : Int) = (R : Int) := by rw [IntKind.wrap_u64]; omega
  have hwpR : IntKind.i64.wrap ((2 : Int) ^ R) = (P : Int) := by
    have e : (2 : Int) ^ R = (P : Int) := by rw [← hP]; simp
    rw [e]; exact IntWalk.i64_in _ (by omega)
  have hsubR : (P : Int) - 1 = (W : Int) := by omega
  have hsubR2 : IntKind.i64.wrap ((P : Int) - 1) = (W : Int) := by rw [IntWalk.i64_in _ (by omega)]; omega
  have hneq : ((R : Int) != 2 && (R : Int) != 3) = false := by subst hR2; simp
  have HKL : Hid ((hmL R (W + 1)).length = k) := Lib.hid (by rw [← HK.out]; exact HKK.out)
  clear hok hP hPW hW hR2
  obtain ⟨hn2, hn3⟩ := hne
  all_goals
    have hn2' : ((R : Int) != 2) = !((R : Int) == 2) := rfl
    have hn3' : ((R : Int) != 3) = !((R : Int) == 3) := rfl
    rw [hn2] at hn2'
    rw [hn3] at hn3'
    go_enter Tryd.func12, Tryd.ntmps12
    go_wp2
    clear hn2 hn3 hn2' hn3' hminR hwuR hwpR hsubR hsubR2 hneq
    go_loopw [5] (fun dv wr0 => ∃ (d : Nat) (v : Value) (wr : World), 1 ≤ d ∧ d ≤ W + 1 ∧ dv = .int .i64 (d : Int) ∧ wr = wr0 ∧ Hid (Kin wr w.heap.size (.int .i64 0) (.slice none 0 0)) ∧ Hid (Kin wr (w.heap.size + 1) (.int .i64 (W : Int)) v) ∧ Hid (wr.ownsRow (w.heap.size + 2) 2 1 v (hmL R d).length ((hmL R d).map (Value.int .i64))) ∧ Hid (Below w.heap.size w wr) ∧ w.heap.size + 2 ≤ wr.heap.size) (fun dv _ => 8 - (intOf dv).toNat)
    case atStart => exact ⟨1, .slice none 0 0, _, by omega, by omega, rfl, rfl, Lib.hid (Kin.below (Kin.new (T := 24)) (by repeat (first | exact Below.refl _ _ | refine Below.drew ?_ | refine Below.drewN' ?_ _ | refine Below.setCell ?_ (by first | (simp; done) | (simp; omega)) _ | refine Below.alloc ?_ (by first | exact Nat.le_refl _ | (simp; done) | (simp; omega)) _))), Lib.hid (by first | exact Kin.new' (by simp) | exact Kin.put2 (Kin.new' (by simp)) _ _ | exact Kin.set0 (Kin.new' (by simp)) _), Lib.hid (World.ownsRow_nil _ _ _ _), Lib.hid (by repeat (first | exact Below.refl _ _ | refine Below.drew ?_ | refine Below.drewN' ?_ _ | refine Below.setCell ?_ (by first | (simp; done) | (simp; omega)) _ | refine Below.alloc ?_ (by first | exact Nat.le_refl _ | (simp; done) | (simp; omega)) _)), by simp⟩
    case round =>
      obtain ⟨d, v, wr, hd1, hd2, rfl, rfl, HT0, HT1, HO, HW, hsz⟩ := hrel
      by_cases hlt : d ≤ W
      · have hlti : decide ((d : Int) ≤ (W : Int)) = true := decide_eq_true (by omega)
        obtain ⟨hP, hp0, hp1, hf0, hf1⟩ := HT1.out
        have hwd : IntKind.i64.wrap ((d : Int) + 1) = (d : Int) + 1 := IntWalk.i64_in _ (by omega)
        have HWO : Hid (∀ w3 : World, Calls Tryd.prog 41 #[.int .i64 (d : Int)] w3 fun e w' => e = .returned (.int .i64 (wt d : Int)) ∧ w3 = w') := Lib.hid (fun w3 => wo_spec d w3 (by omega))
        have hw1 := wt_one (d := d) (by omega) hd1
        have hw16 := wt_le d
        by_cases h1 : wt d = 1
        · have HN := Lib.hid (hmL_no (R := R) (d := d) (by omega))
          rw [h1] at HWO
          clear h1 hw1 hw16
          go_wp2_with (first | (go_at_call 41; (with_reducible refine (HWO.out _).mono ?_); rintro e w' ⟨rfl, hw⟩; subst hw) | fail)
          exact ⟨⟨d + 1, v, _, by omega, by omega, by first | rfl | go_num | (congr 1), rfl, HT0, HT1, Lib.hid (by rw [HN.out]; exact HO.out), HW, hsz⟩, by show 8 - ((d : Int) + 1).toNat < 8 - (d : Int).toNat; omega⟩
        · have HY := Lib.hid (hmL_yes (R := R) (d := d) (by omega))
          have hb1 : ((wt d : Int) == 1) = false := by simp; omega
          have hln := hmL_len R d
          have HR0 : Hid (hrw d 0 = 2 ^ (d - 1)) := Lib.hid rfl
          have HRL := Lib.hid (hrw_lt (d := d) (by omega))
          obtain ⟨d1, hd1'⟩ : ∃ d1, d - 1 = d1 := ⟨_, rfl⟩
          rw [hd1'] at HR0
          have hs1 : (d : Int) - 1 = (d1 : Int) := by omega
          have hs2 : IntKind.i64.wrap ((d : Int) - 1) = (d1 : Int) := by rw [IntWalk.i64_in _ (by omega)]; omega
          have hwu1 : IntKind.u64.wrap (d1 : Int) = (d1 : Int) := by rw [IntKind.wrap_u64]; omega
          have hmin1 : min d1 64 = d1 := by omega
          have hpl := Nat.pow_le_pow_right (show 0 < 2 by decide) (show d1 ≤ 6 by omega)
          obtain ⟨P1, hP1⟩ : ∃ P1, 2 ^ d1 = P1 := ⟨_, rfl⟩
          have hwp1 : IntKind.i64.wrap ((2 : Int) ^ d1) = (P1 : Int) := by
            have e : (2 : Int) ^ d1 = (P1 : Int) := by rw [← hP1]; simp
            rw [e]; exact IntWalk.i64_in _ (by omega)
          rw [hP1] at HR0
          generalize wt d = q at HWO hb1
          clear h1 hw1 hw16 hpl hP1 hd1'
          go_wp2_with (first | (go_at_call 41; (with_reducible refine (HWO.out _).mono ?_); rintro e w' ⟨rfl, hw⟩; subst hw) | fail)
          clear hs1 hs2 hwu1 hmin1 hwp1
          go_loop [6, 7] (fun rv jv => ∃ j : Nat, j ≤ R ∧ rv = .int .i64 (hrw d j : Int) ∧ jv = .int .i64 (j : Int)) (fun _ jv => R - (intOf jv).toNat)
          case atStart => exact ⟨0, by omega, val_i (by rw [HR0.out]), rfl⟩
          case round =>
            obtain ⟨j, hj, rfl, rfl⟩ := hrel
            by_cases hlt2 : j < R
            · have HT : Hid (∀ w2 : World, Calls Tryd.prog 42 #[.int .i64 (d : Int), .int .i64 (j : Int)] w2 fun e w' => e = .returned (.bool (d.testBit j)) ∧ w2 = w') := Lib.hid (fun w2 => has_spec d j w2 (by omega) (by omega))
              have hrl := HRL.out j (by omega)
              have hwj : IntKind.i64.wrap ((j : Int) + 1) = (j : Int) + 1 := IntWalk.i64_in _ (by omega)
              cases ht : d.testBit j with
              | false =>
                have HS : Hid (hrw d (j + 1) = hrw d j) := Lib.hid (by show (if d.testBit j = true then _ else _) = _; rw [ht]; rfl)
                rw [ht] at HT
                clear ht
                go_wp2_with (first | (go_at_call 42; (with_reducible refine (HT.out _).mono ?_); rintro e w' ⟨rfl, hw⟩; subst hw) | fail)
                go_round
                case rel => exact ⟨j + 1, by omega, val_i (by rw [HS.out]), by go_num⟩
                case measure => simp [intOf]; omega
              | true =>
                have HS : Hid (hrw d (j + 1) = hrw d j ||| 2 ^ (2 ^ j - 1)) := Lib.hid (by show (if d.testBit j = true then _ else _) = _; rw [ht]; rfl)
                rw [ht] at HT
                have hj4 := Nat.pow_le_pow_right (show 0 < 2 by decide) (show j ≤ 2 by omega)
                obtain ⟨Pj, hPj⟩ : ∃ Pj, 2 ^ j = Pj := ⟨_, rfl⟩
                have hpos := Nat.two_pow_pos j
                rw [hPj] at HS hj4 hpos
                obtain ⟨Q, hQ⟩ : ∃ Q, Pj - 1 = Q := ⟨_, rfl⟩
                rw [hQ] at HS
                have hq8 := Nat.pow_le_pow_right (show 0 < 2 by decide) (show Q ≤ 3 by omega)
                obtain ⟨S, hS⟩ : ∃ S, 2 ^ Q = S := ⟨_, rfl⟩
                rw [hS] at HS hq8
                have hminj : min j 64 = j := by omega
                have hwuj : IntKind.u64.wrap (j : Int) = (j : Int) := by rw [IntKind.wrap_u64]; omega
                have hwpj : IntKind.i64.wrap ((2 : Int) ^ j) = (Pj : Int) := by
                  have e : (2 : Int) ^ j = (Pj : Int) := by rw [← hPj]; simp
                  rw [e]; exact IntWalk.i64_in _ (by omega)
                have hsj : (Pj : Int) - 1 = (Q : Int) := by omega
                have hsj2 : IntKind.i64.wrap ((Pj : Int) - 1) = (Q : Int) := by rw [IntWalk.i64_in _ (by omega)]; omega
                have hminQ : min Q 64 = Q := by omega
                have hwuQ : IntKind.u64.wrap (Q : Int) = (Q : Int) := by rw [IntKind.wrap_u64]; omega
                have hwpQ : IntKind.i64.wrap ((2 : Int) ^ Q) = (S : Int) := by
                  have e : (2 : Int) ^ Q = (S : Int) := by rw [← hS]; simp
                  rw [e]; exact IntWalk.i64_in _ (by omega)
                have hor := b_or (hrw d j) S (by omega) (by omega)
                generalize hrw d j = X at HS hor hrl ⊢
                generalize X ||| S = Y at HS hor
                clear ht hPj hpos hQ hS
                go_wp2_with (first | (go_at_call 42; (with_reducible refine (HT.out _).mono ?_); rintro e w' ⟨rfl, hw⟩; subst hw) | fail)
                go_round
                case rel => exact ⟨j + 1, by omega, val_i (by rw [HS.out]), by go_num⟩
                case measure => simp [intOf]; omega
            · obtain rfl : j = R := by omega
              have HO1 := Lib.hid HO.out
              have HNE := Lib.hid (own_block HO.out)
              have hn3 : some (w.heap.size + 1) ≠ v.ownBlock := fun e => by have := own_block HO.out _ e.symm; omega
              have hn4 : some w.heap.size ≠ v.ownBlock := fun e => by have := own_block HO.out _ e.symm; omega
              have HY1 := Lib.hid HY.out.1
              have HY2 := Lib.hid HY.out.2
              generalize hrw d j = X at HY1 ⊢
              generalize hKL : (hmL j d).length = k2 at HO1 HY2 hln
              generalize hDL : (hmL j d).map (Value.int .i64) = DL at HO1 HY1
              clear HO HY hKL hDL
              go_wp2_with (first | (at_builtin; refine wpList_append_lies _ rfl _ _ 22 rfl (w.heap.size + 2) 2 i0 (.int .i64 0) 1 8 Tryd.underlying22 hi hz0 hz1 hz2 rfl (by omega) v k2 DL rfl (World.ownsRow.alloc HO1.out _) ⟨wr.heap.size, 0, none⟩ 1 1 [.int .i64 (X : Int)] rfl rfl (World.news_of_block (cs := #[.int .i64 (X : Int)]) (t := 2) (fr := (0, 0)) (heap_alloc_new _ _)) (by simp [Value.oneCell']) (by omega) (by unfold maxLen; omega) (by omega) (by simp; omega) (wr.heap.size + 1) (by simp) ?_; intro gg cp w1 hown1 hgrow hat hlt3; have HT1' : Hid (Kin w1 (w.heap.size + 1) (.int .i64 (W : Int)) v) := Lib.hid (Kin.grown hgrow hn3 (HT1.out.below (below_alloc _ _))); have HT0' : Hid (Kin w1 w.heap.size (.int .i64 0) (.slice none 0 0)) := Lib.hid (Kin.grown hgrow hn4 (HT0.out.below (below_alloc _ _))); obtain ⟨hQ, hq0, hq1, hqf0, hqf1⟩ := HT1'.out; have HO2 := Lib.hid hown1; have HG2 := Lib.hid hgrow; clear hown1 hgrow hat hlt3) | fail)
              exact ⟨⟨d + 1, .slice (some ⟨gg, 0, none⟩) (k2 + 1) cp, _, by omega, by omega, by first | rfl | go_num | (congr 1), rfl, Lib.hid (HT0'.out.far (by simp) _), Lib.hid (HT1'.out.set _), Lib.hid (by rw [HY1.out, HY2.out]; exact own_far HO2.out _ _ (by simp)), Lib.hid (Below.setCell (Below.grown (Below.alloc HW.out HW.out.size _) HG2.out (by simp; omega) (fun j hj => Nat.le_trans (by omega) (HNE.out j hj))) (by simp) _), by have := HG2.out.size; simp at this; simp; omega⟩, by show 8 - ((d : Int) + 1).toNat < 8 - (d : Int).toNat; omega⟩
      · obtain rfl : d = W + 1 := by omega
        have hlti : decide (((W + 1 : Nat) : Int) ≤ (W : Int)) = false := decide_eq_false (by omega)
        have hlti2 : decide ((W : Int) + 1 ≤ (W : Int)) = false := decide_eq_false (by omega)
        rw [HKL.out, ← HK.out] at HO
        obtain ⟨g, cp, rfl, hg, hgl⟩ := World.ownsRow.form HO.out (by omega)
        obtain ⟨hP, hp0, hp1, hf0, hf1⟩ := HT1.out
        obtain ⟨hic, hgb⟩ := ICl.own HO.out (by omega)
        have HIC := Lib.hid hic
        clear hic
        go_wp2_with (first | (go_at_call 43; refine (p6SY (W : Int) _ k _ L _ HIC.out.row (by omega) HOK.out).mono ?_; rintro e w4 ⟨rfl, hb⟩; have HB2 := Lib.hid (Below.next HW.out hb); have HR2 := Lib.hid (HT0.out.below hb); have HI2 := Lib.hid (HIC.out.below hb); obtain ⟨hQ, hq0, hq1, hqf0, hqf1⟩ := HR2.out; clear hb) | fail)
        obtain ⟨_, hr1, hr2⟩ := HR2.out.res (.int .i64 (W : Int)) (.slice (some ⟨g, 0, none⟩) k cp)
        exact bodyPost_ret (v := .tuple #[.agg #[.int .i64 (W : Int), .slice (some ⟨g, 0, none⟩) k cp], .bool true]) (by simp [results, Tryd.results12, go_sem, hr1, hr2]) rfl
          ⟨g, cp, rfl, ICl.new ((HI2.out.far (by simp; omega) _).far (by simp; omega) _) (by omega) (Below.setCell (Below.setCell HB2.out (by simp) _) (by simp) _)⟩
set_option maxRecDepth 100000 in
set_option maxHeartbeats 4000000 in
theorem hm_spec3 (R W : Nat) (w : World) (hR2 : R = 3) (hW : hmW R = W) (hok : paB (W : Int) (hmQ R) (hmK R) = true) : Calls Tryd.prog 12 #[.int .i64 (R : Int)] w (YPost (W : Int) (hmK R) (hmQ R) w) := by
  obtain ⟨i0, hi, hz0, hz1, hz2⟩ := info_parts Tryd.info64
  have hRR : 2 ≤ R ∧ R ≤ 3 := by omega
  have hWW : 3 ≤ W ∧ W ≤ 7 := by subst hR2; rw [← hW]; decide
  obtain ⟨P, hP⟩ : ∃ P, 2 ^ R = P := ⟨_, rfl⟩
  have hPW : P = W + 1 := by rw [← hP, ← hW]; unfold hmW; have := Nat.two_pow_pos R; omega
  have HK : Hid (hmQ R = hmL R (W + 1)) := Lib.hid (by rw [← hW]; rfl)
  have hk1 : 1 ≤ hmK R := by have := (pa_out hok).2.1.1; exact this
  have hlq : hmK R ≤ 8 := (pa_out hok).2.1.2
  have HKK : Hid ((hmQ R).length = hmK R) := Lib.hid rfl
  have HOK := Lib.hid hok
  generalize hmK R = k at HOK hk1 hlq HKK ⊢
  generalize hmQ R = L at HOK HK HKK ⊢
  have hne : ((R : Int) == 2) = false ∧ ((R : Int) == 3) = true := by subst hR2; simp
  have hminR : min R 64 = R := by omega
  have hwuR : IntKind.u64.wrap (R : Int) = (R : Int) := by rw [IntKind.wrap_u64]; omega
  have hwpR : IntKind.i64.wrap ((2 : Int) ^ R) = (P : Int) := by
    have e : (2 : Int) ^ R = (P : Int) := by rw [← hP]; simp
    rw [e]; exact IntWalk.i64_in _ (by omega)
  have hsubR : (P : Int) - 1 = (W : Int) := by omega
  have hsubR2 : IntKind.i64.wrap ((P : Int) - 1) = (W : Int) := by rw [IntWalk.i64_in _ (by omega)]; omega
  have hneq : ((R : Int) != 2 && (R : Int) != 3) = false := by subst hR2; simp
  have HKL : Hid ((hmL R (W + 1)).length = k) := Lib.hid (by rw [← HK.out]; exact HKK.out)
  clear hok hP hPW hW hR2
  obtain ⟨hn2, hn3⟩ := hne
  all_goals
    have hn2' : ((R : Int) != 2) = !((R : Int) == 2) := rfl
    have hn3' : ((R : Int) != 3) = !((R : Int) == 3) := rfl
    rw [hn2] at hn2'
    rw [hn3] at hn3'
    go_enter Tryd.func12, Tryd.ntmps12
    go_wp2
    clear hn2 hn3 hn2' hn3' hminR hwuR hwpR hsubR hsubR2 hneq
    go_loopw [5] (fun dv wr0 => ∃ (d : Nat) (v : Value) (wr : World), 1 ≤ d ∧ d ≤ W + 1 ∧ dv = .int .i64 (d : Int) ∧ wr = wr0 ∧ Hid (Kin wr w.heap.size (.int .i64 0) (.slice none 0 0)) ∧ Hid (Kin wr (w.heap.size + 1) (.int .i64 (W : Int)) v) ∧ Hid (wr.ownsRow (w.heap.size + 2) 2 1 v (hmL R d).length ((hmL R d).map (Value.int .i64))) ∧ Hid (Below w.heap.size w wr) ∧ w.heap.size + 2 ≤ wr.heap.size) (fun dv _ => 8 - (intOf dv).toNat)
    case atStart => exact ⟨1, .slice none 0 0, _, by omega, by omega, rfl, rfl, Lib.hid (Kin.below (Kin.new (T := 24)) (by repeat (first | exact Below.refl _ _ | refine Below.drew ?_ | refine Below.drewN' ?_ _ | refine Below.setCell ?_ (by first | (simp; done) | (simp; omega)) _ | refine Below.alloc ?_ (by first | exact Nat.le_refl _ | (simp; done) | (simp; omega)) _))), Lib.hid (by first | exact Kin.new' (by simp) | exact Kin.put2 (Kin.new' (by simp)) _ _ | exact Kin.set0 (Kin.new' (by simp)) _), Lib.hid (World.ownsRow_nil _ _ _ _), Lib.hid (by repeat (first | exact Below.refl _ _ | refine Below.drew ?_ | refine Below.drewN' ?_ _ | refine Below.setCell ?_ (by first | (simp; done) | (simp; omega)) _ | refine Below.alloc ?_ (by first | exact Nat.le_refl _ | (simp; done) | (simp; omega)) _)), by simp⟩
    case round =>
      obtain ⟨d, v, wr, hd1, hd2, rfl, rfl, HT0, HT1, HO, HW, hsz⟩ := hrel
      by_cases hlt : d ≤ W
      · have hlti : decide ((d : Int) ≤ (W : Int)) = true := decide_eq_true (by omega)
        obtain ⟨hP, hp0, hp1, hf0, hf1⟩ := HT1.out
        have hwd : IntKind.i64.wrap ((d : Int) + 1) = (d : Int) + 1 := IntWalk.i64_in _ (by omega)
        have HWO : Hid (∀ w3 : World, Calls Tryd.prog 41 #[.int .i64 (d : Int)] w3 fun e w' => e = .returned (.int .i64 (wt d : Int)) ∧ w3 = w') := Lib.hid (fun w3 => wo_spec d w3 (by omega))
        have hw1 := wt_one (d := d) (by omega) hd1
        have hw16 := wt_le d
        by_cases h1 : wt d = 1
        · have HN := Lib.hid (hmL_no (R := R) (d := d) (by omega))
          rw [h1] at HWO
          clear h1 hw1 hw16
          go_wp2_with (first | (go_at_call 41; (with_reducible refine (HWO.out _).mono ?_); rintro e w' ⟨rfl, hw⟩; subst hw) | fail)
          exact ⟨⟨d + 1, v, _, by omega, by omega, by first | rfl | go_num | (congr 1), rfl, HT0, HT1, Lib.hid (by rw [HN.out]; exact HO.out), HW, hsz⟩, by show 8 - ((d : Int) + 1).toNat < 8 - (d : Int).toNat; omega⟩
        · have HY := Lib.hid (hmL_yes (R := R) (d := d) (by omega))
          have hb1 : ((wt d : Int) == 1) = false := by simp; omega
          have hln := hmL_len R d
          have HR0 : Hid (hrw d 0 = 2 ^ (d - 1)) := Lib.hid rfl
          have HRL := Lib.hid (hrw_lt (d := d) (by omega))
          obtain ⟨d1, hd1'⟩ : ∃ d1, d - 1 = d1 := ⟨_, rfl⟩
          rw [hd1'] at HR0
          have hs1 : (d : Int) - 1 = (d1 : Int) := by omega
          have hs2 : IntKind.i64.wrap ((d : Int) - 1) = (d1 : Int) := by rw [IntWalk.i64_in _ (by omega)]; omega
          have hwu1 : IntKind.u64.wrap (d1 : Int) = (d1 : Int) := by rw [IntKind.wrap_u64]; omega
          have hmin1 : min d1 64 = d1 := by omega
          have hpl := Nat.pow_le_pow_right (show 0 < 2 by decide) (show d1 ≤ 6 by omega)
          obtain ⟨P1, hP1⟩ : ∃ P1, 2 ^ d1 = P1 := ⟨_, rfl⟩
          have hwp1 : IntKind.i64.wrap ((2 : Int) ^ d1) = (P1 : Int) := by
            have e : (2 : Int) ^ d1 = (P1 : Int) := by rw [← hP1]; simp
            rw [e]; exact IntWalk.i64_in _ (by omega)
          rw [hP1] at HR0
          generalize wt d = q at HWO hb1
          clear h1 hw1 hw16 hpl hP1 hd1'
          go_wp2_with (first | (go_at_call 41; (with_reducible refine (HWO.out _).mono ?_); rintro e w' ⟨rfl, hw⟩; subst hw) | fail)
          clear hs1 hs2 hwu1 hmin1 hwp1
          go_loop [6, 7] (fun rv jv => ∃ j : Nat, j ≤ R ∧ rv = .int .i64 (hrw d j : Int) ∧ jv = .int .i64 (j : Int)) (fun _ jv => R - (intOf jv).toNat)
          case atStart => exact ⟨0, by omega, val_i (by rw [HR0.out]), rfl⟩
          case round =>
            obtain ⟨j, hj, rfl, rfl⟩ := hrel
            by_cases hlt2 : j < R
            · have HT : Hid (∀ w2 : World, Calls Tryd.prog 42 #[.int .i64 (d : Int), .int .i64 (j : Int)] w2 fun e w' => e = .returned (.bool (d.testBit j)) ∧ w2 = w') := Lib.hid (fun w2 => has_spec d j w2 (by omega) (by omega))
              have hrl := HRL.out j (by omega)
              have hwj : IntKind.i64.wrap ((j : Int) + 1) = (j : Int) + 1 := IntWalk.i64_in _ (by omega)
              cases ht : d.testBit j with
              | false =>
                have HS : Hid (hrw d (j + 1) = hrw d j) := Lib.hid (by show (if d.testBit j = true then _ else _) = _; rw [ht]; rfl)
                rw [ht] at HT
                clear ht
                go_wp2_with (first | (go_at_call 42; (with_reducible refine (HT.out _).mono ?_); rintro e w' ⟨rfl, hw⟩; subst hw) | fail)
                go_round
                case rel => exact ⟨j + 1, by omega, val_i (by rw [HS.out]), by go_num⟩
                case measure => simp [intOf]; omega
              | true =>
                have HS : Hid (hrw d (j + 1) = hrw d j ||| 2 ^ (2 ^ j - 1)) := Lib.hid (by show (if d.testBit j = true then _ else _) = _; rw [ht]; rfl)
                rw [ht] at HT
                have hj4 := Nat.pow_le_pow_right (show 0 < 2 by decide) (show j ≤ 2 by omega)
                obtain ⟨Pj, hPj⟩ : ∃ Pj, 2 ^ j = Pj := ⟨_, rfl⟩
                have hpos := Nat.two_pow_pos j
                rw [hPj] at HS hj4 hpos
                obtain ⟨Q, hQ⟩ : ∃ Q, Pj - 1 = Q := ⟨_, rfl⟩
                rw [hQ] at HS
                have hq8 := Nat.pow_le_pow_right (show 0 < 2 by decide) (show Q ≤ 3 by omega)
                obtain ⟨S, hS⟩ : ∃ S, 2 ^ Q = S := ⟨_, rfl⟩
                rw [hS] at HS hq8
                have hminj : min j 64 = j := by omega
                have hwuj : IntKind.u64.wrap (j : Int) = (j : Int) := by rw [IntKind.wrap_u64]; omega
                have hwpj : IntKind.i64.wrap ((2 : Int) ^ j) = (Pj : Int) := by
                  have e : (2 : Int) ^ j = (Pj : Int) := by rw [← hPj]; simp
                  rw [e]; exact IntWalk.i64_in _ (by omega)
                have hsj : (Pj : Int) - 1 = (Q : Int) := by omega
                have hsj2 : IntKind.i64.wrap ((Pj : Int) - 1) = (Q : Int) := by rw [IntWalk.i64_in _ (by omega)]; omega
                have hminQ : min Q 64 = Q := by omega
                have hwuQ : IntKind.u64.wrap (Q : Int) = (Q : Int) := by rw [IntKind.wrap_u64]; omega
                have hwpQ : IntKind.i64.wrap ((2 : Int) ^ Q) = (S : Int) := by
                  have e : (2 : Int) ^ Q = (S : Int) := by rw [← hS]; simp
                  rw [e]; exact IntWalk.i64_in _ (by omega)
                have hor := b_or (hrw d j) S (by omega) (by omega)
                generalize hrw d j = X at HS hor hrl ⊢
                generalize X ||| S = Y at HS hor
                clear ht hPj hpos hQ hS
                go_wp2_with (first | (go_at_call 42; (with_reducible refine (HT.out _).mono ?_); rintro e w' ⟨rfl, hw⟩; subst hw) | fail)
                go_round
                case rel => exact ⟨j + 1, by omega, val_i (by rw [HS.out]), by go_num⟩
                case measure => simp [intOf]; omega
            · obtain rfl : j = R := by omega
              have HO1 := Lib.hid HO.out
              have HNE := Lib.hid (own_block HO.out)
              have hn3 : some (w.heap.size + 1) ≠ v.ownBlock := fun e => by have := own_block HO.out _ e.symm; omega
              have hn4 : some w.heap.size ≠ v.ownBlock := fun e => by have := own_block HO.out _ e.symm; omega
              have HY1 := Lib.hid HY.out.1
              have HY2 := Lib.hid HY.out.2
              generalize hrw d j = X at HY1 ⊢
              generalize hKL : (hmL j d).length = k2 at HO1 HY2 hln
              generalize hDL : (hmL j d).map (Value.int .i64) = DL at HO1 HY1
              clear HO HY hKL hDL
              go_wp2_with (first | (at_builtin; refine wpList_append_lies _ rfl _ _ 22 rfl (w.heap.size + 2) 2 i0 (.int .i64 0) 1 8 Tryd.underlying22 hi hz0 hz1 hz2 rfl (by omega) v k2 DL rfl (World.ownsRow.alloc HO1.out _) ⟨wr.heap.size, 0, none⟩ 1 1 [.int .i64 (X : Int)] rfl rfl (World.news_of_block (cs := #[.int .i64 (X : Int)]) (t := 2) (fr := (0, 0)) (heap_alloc_new _ _)) (by simp [Value.oneCell']) (by omega) (by unfold maxLen; omega) (by omega) (by simp; omega) (wr.heap.size + 1) (by simp) ?_; intro gg cp w1 hown1 hgrow hat hlt3; have HT1' : Hid (Kin w1 (w.heap.size + 1) (.int .i64 (W : Int)) v) := Lib.hid (Kin.grown hgrow hn3 (HT1.out.below (below_alloc _ _))); have HT0' : Hid (Kin w1 w.heap.size (.int .i64 0) (.slice none 0 0)) := Lib.hid (Kin.grown hgrow hn4 (HT0.out.below (below_alloc _ _))); obtain ⟨hQ, hq0, hq1, hqf0, hqf1⟩ := HT1'.out; have HO2 := Lib.hid hown1; have HG2 := Lib.hid hgrow; clear hown1 hgrow hat hlt3) | fail)
              exact ⟨⟨d + 1, .slice (some ⟨gg, 0, none⟩) (k2 + 1) cp, _, by omega, by omega, by first | rfl | go_num | (congr 1), rfl, Lib.hid (HT0'.out.far (by simp) _), Lib.hid (HT1'.out.set _), Lib.hid (by rw [HY1.out, HY2.out]; exact own_far HO2.out _ _ (by simp)), Lib.hid (Below.setCell (Below.grown (Below.alloc HW.out HW.out.size _) HG2.out (by simp; omega) (fun j hj => Nat.le_trans (by omega) (HNE.out j hj))) (by simp) _), by have := HG2.out.size; simp at this; simp; omega⟩, by show 8 - ((d : Int) + 1).toNat < 8 - (d : Int).toNat; omega⟩
      · obtain rfl : d = W + 1 := by omega
        have hlti : decide (((W + 1 : Nat) : Int) ≤ (W : Int)) = false := decide_eq_false (by omega)
        have hlti2 : decide ((W : Int) + 1 ≤ (W : Int)) = false := decide_eq_false (by omega)
        rw [HKL.out, ← HK.out] at HO
        obtain ⟨g, cp, rfl, hg, hgl⟩ := World.ownsRow.form HO.out (by omega)
        obtain ⟨hP, hp0, hp1, hf0, hf1⟩ := HT1.out
        obtain ⟨hic, hgb⟩ := ICl.own HO.out (by omega)
        have HIC := Lib.hid hic
        clear hic
        go_wp2_with (first | (go_at_call 43; refine (p6SY (W : Int) _ k _ L _ HIC.out.row (by omega) HOK.out).mono ?_; rintro e w4 ⟨rfl, hb⟩; have HB2 := Lib.hid (Below.next HW.out hb); have HR2 := Lib.hid (HT0.out.below hb); have HI2 := Lib.hid (HIC.out.below hb); obtain ⟨hQ, hq0, hq1, hqf0, hqf1⟩ := HR2.out; clear hb) | fail)
        obtain ⟨_, hr1, hr2⟩ := HR2.out.res (.int .i64 (W : Int)) (.slice (some ⟨g, 0, none⟩) k cp)
        exact bodyPost_ret (v := .tuple #[.agg #[.int .i64 (W : Int), .slice (some ⟨g, 0, none⟩) k cp], .bool true]) (by simp [results, Tryd.results12, go_sem, hr1, hr2]) rfl
          ⟨g, cp, rfl, ICl.new ((HI2.out.far (by simp; omega) _).far (by simp; omega) _) (by omega) (Below.setCell (Below.setCell HB2.out (by simp) _) (by simp) _)⟩
end Go.Proofs.YtjlifbnenngijaaDoor
