/- Letters that are merged, undone: the model. -/
import Derived.Test.YtbpmjgpfjlnlpaaUmi
namespace Go.Proofs.Ytbpmjgpfjlnlpaa
open Go.Proofs.Ytbpmjgpfjlnlpaa.Flo Go.RowKit

set_option maxRecDepth 100000 in
set_option maxHeartbeats 8000000 in
theorem um_spec (a : Option Addr) (m cap : Nat) (zs : List Int) (b : Option Addr) (q : Nat) (rs : List Int) (x : Int) (w : World) (ha : IRow w a m zs) (hb : IRow w b q rs) (hok : umA zs m rs q x = true) :
    Calls Try.prog 36 #[.slice a m cap, .slice b q q, .int .i64 x] w (UPost (decide ((umR zs rs q x).length ≤ 64)) (umR zs rs q x) w) := by
  obtain ⟨i0, hi0, hz0, hz1, hz2⟩ := info_parts Try.info64
  obtain ⟨hx, ⟨hq, hq2⟩, hr, hm, hz⟩ := umA_out hok
  have HA := Lib.hid ha
  have HB := Lib.hid hb
  have HX := Lib.hid hx
  have HR := Lib.hid hr
  obtain ⟨T, hT⟩ : ∃ T, T = q / 2 := ⟨_, rfl⟩
  have hqT : q = 2 * T := by omega
  have hT8 : T ≤ 8 := by omega
  rw [← hT] at hz
  have HZ := Lib.hid hz
  have HUR : Hid (umR zs rs q x = umL zs rs x T T) := Lib.hid (by unfold umR; rw [← hT])
  have HMO : Hid (∀ j, j ≤ T → (umL zs rs x T j).length ≤ (umL zs rs x T T).length) := Lib.hid (fun j hj => umL_mono zs rs x T T j hj)
  have HLN : Hid (zs.length = m) := Lib.hid ha.1
  have hqd : ((q : Int)).tdiv 2 = (T : Int) := by rw [Int.tdiv_eq_ediv_of_nonneg (by omega)]; omega
  have hrm : ((q : Int)).tmod 2 = 0 := by rw [Int.tmod_eq_emod_of_nonneg (by omega)]; omega
  have d64 : decide (64 < (m : Int)) = false := decide_eq_false (by omega)
  have d8 : decide (8 < (T : Int)) = false := decide_eq_false (by omega)
  have hwT : IntKind.i64.wrap (x + (T : Int)) = x + (T : Int) := IntWalk.i64_in _ (by omega)
  have hwT2 : IntKind.i64.wrap (x + (T : Int) - 1) = x + (T : Int) - 1 := IntWalk.i64_in _ (by omega)
  obtain ⟨hx1, hx2⟩ := hx
  have HQT := Lib.hid hqT
  clear ha hb hok hr hz hq hT hqT
  go_enter Try.func36, Try.ntmps36
  go_wp2_with (first | (go_at_call 84; refine (l5_true _ _ HX.out).mono ?_; rintro e w' ⟨rfl, hw⟩; subst hw) | fail)
  go_loop [38] (fun iv => ∃ k : Nat, k ≤ m ∧ iv = .int .i64 k) (fun iv => m - (intOf iv).toNat)
  case atStart => exact ⟨0, by omega, rfl⟩
  case round =>
    obtain ⟨k, hk, rfl⟩ := hrel
    by_cases hlt : k < m
    · obtain ⟨b1, o1, rfl, _, hck1⟩ := HA.out.cell' hlt
      have HC : Hid (0 ≤ zs.getD k 0 ∧ zs.getD k 0 ≤ x + (T : Int) - 1) := Lib.hid (by have := HZ.out k hlt; omega)
      generalize zs.getD k 0 = c at hck1 HC
      go_wp2_with (first | (go_at_call 80; with_reducible refine (in_true c 0 (x + (T : Int) - 1) _ HC.out.1 HC.out.2).mono ?_; rintro e w' ⟨rfl, hw⟩; subst hw) | fail)
      go_round
      case rel => exact ⟨k + 1, by omega, by go_num⟩
      case measure => simp [intOf]; omega
    · obtain rfl : m = k := by omega
      go_wp2
      go_loop [54] (fun iv => ∃ k : Nat, k ≤ q ∧ iv = .int .i64 k) (fun iv => q - (intOf iv).toNat)
      case atStart => exact ⟨0, by omega, rfl⟩
      case round =>
        obtain ⟨k2, hk2, rfl⟩ := hrel
        by_cases hlt : k2 < q
        · obtain ⟨b1, o1, rfl, _, hck1⟩ := HB.out.cell' hlt
          have hqd2 : ((k2 : Int)).tdiv 2 = ((k2 / 2 : Nat) : Int) := by rw [Int.tdiv_eq_ediv_of_nonneg (by omega)]; omega
          have hkh : k2 / 2 ≤ 8 := by omega
          have HC : Hid (0 ≤ rs.getD k2 0 ∧ rs.getD k2 0 ≤ x + ((k2 / 2 : Nat) : Int) - 1) := Lib.hid (by have := HR.out k2 hlt; omega)
          generalize rs.getD k2 0 = c at hck1 HC
          generalize k2 / 2 = kh at hqd2 hkh HC
          have hw3 : IntKind.i64.wrap (x + (kh : Int)) = x + (kh : Int) := IntWalk.i64_in _ (by omega)
          have hw4 : IntKind.i64.wrap (x + (kh : Int) - 1) = x + (kh : Int) - 1 := IntWalk.i64_in _ (by omega)
          go_wp2_with (first | (go_at_call 80; with_reducible refine (in_true c 0 (x + (kh : Int) - 1) _ HC.out.1 HC.out.2).mono ?_; rintro e w' ⟨rfl, hw⟩; subst hw) | fail)
          go_round
          case rel => exact ⟨k2 + 1, by omega, by go_num⟩
          case measure => simp [intOf]; omega
        · obtain rfl : q = k2 := by omega
          by_cases hm0 : m = 0
          · subst hm0
            cases a with
            | none =>
              go_wp2
              have HV2 : Hid (RV w (w.alloc (.cells #[] 2)) (.slice (some ⟨w.heap.size, 0, none⟩) 0 0) zs) := Lib.hid (.inl ⟨HLN.out, _, _, rfl⟩)
              have HW3 : Hid (Below w.heap.size w (w.alloc (.cells #[] 2))) := Lib.hid (below_alloc _ _)
              go_loopw [11, 12] (fun v0 iv wr0 => ∃ (j : Nat) (v : Value) (wr : World), j ≤ T ∧ v = v0 ∧ iv = .int .i64 ((T : Int) - 1 - (j : Int)) ∧ wr = wr0 ∧ Hid (RV w wr v (umL zs rs x T j)) ∧ Hid (Below w.heap.size w wr) ∧ Hid ((umL zs rs x T j).length ≤ 64)) (fun _ iv _ => (intOf iv + 1).toNat)
              case atStart => exact ⟨0, _, _, by omega, rfl, val_i (by omega), rfl, HV2, HW3, Lib.hid (by show zs.length ≤ 64; rw [HLN.out]; exact hm)⟩
              case round =>
                obtain ⟨j, v, wr, hj, rfl, rfl, rfl, HV, HW, HJ⟩ := hrel
                obtain ⟨av, cv, rfl, hrv⟩ := HV.out.form
                have HRV := Lib.hid hrv
                clear hrv
                have hqT := HQT.out
                by_cases hlt : j < T
                · obtain ⟨i, hi⟩ : ∃ i : Nat, i = T - 1 - j := ⟨_, rfl⟩
                  have hiv : (T : Int) - 1 - (j : Int) = (i : Int) := by omega
                  rw [hiv]
                  have HIV := Lib.hid hiv
                  clear hiv
                  obtain ⟨rb, ro, rfl, hrb, hcr1⟩ := (HB.out).cell' (k := 2 * i) (by omega)
                  have hcr2 : w.cell? ⟨rb, ro + (2 * i + 1), none⟩ = some (.int .i64 (rs.getD (2 * i + 1) 0)) := by
                    obtain ⟨rb2, ro2, e, _, hx⟩ := (HB.out).cell' (k := 2 * i + 1) (by omega)
                    injection e with e; injection e with e1 e2; subst e1; subst e2; exact hx
                  have HC1 := Lib.hid hcr1
                  have HC2 := Lib.hid hcr2
                  clear hcr1 hcr2
                  have HU : Hid (umL zs rs x T (j + 1) = unP (umL zs rs x T j) (rs.getD (2 * i) 0) (rs.getD (2 * i + 1) 0) (x + (i : Int)) (umL zs rs x T j).length) := Lib.hid (by rw [hi]; rfl)
                  have HM1 := Lib.hid (HMO.out (j + 1) (by omega))
                  rw [HU.out] at HM1
                  have hi2 : 2 * i + 2 ≤ q := by omega
                  have hi3 : (2 : Int) * (i : Int) + 2 ≤ (q : Int) := by omega
                  have hi8 : i ≤ 8 := by omega
                  have hL64 := HJ.out
                  have hwi : IntKind.i64.wrap (x + (i : Int)) = x + (i : Int) := IntWalk.i64_in _ (by omega)
                  have hwj : IntKind.i64.wrap (2 * (i : Int)) = 2 * (i : Int) := IntWalk.i64_in _ (by omega)
                  have hwk : IntKind.i64.wrap (2 * (i : Int) + 1) = 2 * (i : Int) + 1 := IntWalk.i64_in _ (by omega)
                  have hib1 : (0 : Int) ≤ 2 * (i : Int) := by omega
                  have hib2 : 2 * (i : Int) < (q : Int) := by omega
                  have hib3 : (0 : Int) ≤ 2 * (i : Int) + 1 := by omega
                  have hib4 : 2 * (i : Int) + 1 < (q : Int) := by omega
                  have htn1 : (2 * (i : Int)).toNat = 2 * i := by omega
                  have htn2 : (2 * (i : Int) + 1).toNat = 2 * i + 1 := by omega
                  clear hi hqT
                  generalize umL zs rs x T j = L at HRV HU HM1 hL64 HJ HV
                  generalize rs.getD (2 * i) 0 = y1 at HC1 HU HM1
                  generalize rs.getD (2 * i + 1) 0 = y2 at HC2 HU HM1
                  generalize hll : x + (i : Int) = l at hwi HU HM1
                  have HLL := Lib.hid hll
                  clear hll
                  go_wp2
                  go_loopw [13, 81] (fun v0 iv wr0 => ∃ (k : Nat) (v2 : Value) (wr2 : World), k ≤ L.length ∧ v2 = v0 ∧ iv = .int .i64 k ∧ wr2 = wr0 ∧ Hid (wr2.ownsRow wr.heap.size 2 1 v2 (unP L y1 y2 l k).length ((unP L y1 y2 l k).map (Value.int .i64))) ∧ Hid (Below wr.heap.size wr wr2)) (fun _ iv _ => L.length - (intOf iv).toNat)
                  case atStart => exact ⟨0, _, _, by omega, rfl, rfl, rfl, Lib.hid (own_empty wr 2), Lib.hid (below_alloc _ _)⟩
                  case round =>
                    obtain ⟨k, v2, wr2, hk, rfl, rfl, rfl, HO, HW2⟩ := hrel
                    by_cases hlk : k < L.length
                    · obtain ⟨b1, o1, rfl, hblt, hck1⟩ := (HRV.out.below HW2.out).cell' hlk
                      have HO1 := Lib.hid HO.out
                      have HNE2 := Lib.hid (own_block HO.out)
                      have hsz2 := HW2.out.size
                      have hln := unP_len L y1 y2 l k
                      have HL : Hid (unP L y1 y2 l (k + 1) = unP L y1 y2 l k ++ (if L.getD k 0 = l then [y1, y2] else [L.getD k 0])) := Lib.hid rfl
                      clear HO
                      generalize unP L y1 y2 l k = R at HO1 hln HL
                      obtain ⟨hl1, hl2⟩ := hln
                      have hxl : x + (i : Int) = l := HLL.out
                      by_cases hc : L.getD k 0 = l
                      · have HL2 : Hid (unP L y1 y2 l (k + 1) = R ++ [y1, y2]) := Lib.hid (by rw [HL.out, if_pos hc])
                        have HN2 : Hid ((unP L y1 y2 l (k + 1)).length = R.length + 2) := Lib.hid (by rw [HL2.out]; simp)
                        clear HL
                        rw [hc] at hck1
                        have hbb : (l == l) = true := by simp
                        have hcr1 : wr2.cell? ⟨rb, ro + 2 * i, none⟩ = some (.int .i64 y1) := ((Below.next HW.out HW2.out).cell (p := ⟨rb, ro + 2 * i, none⟩) hrb).trans HC1.out
                        have hcr2 : wr2.cell? ⟨rb, ro + (2 * i + 1), none⟩ = some (.int .i64 y2) := ((Below.next HW.out HW2.out).cell (p := ⟨rb, ro + (2 * i + 1), none⟩) hrb).trans HC2.out
                        clear hc
                        go_wp2
                        go_region_law (first | (refine step_append_lies _ (by rfl) _ _ _ (by rfl) (wr.heap.size) 2 i0 (.int .i64 0) 1 8 Try.underlying38 hi0 hz0 hz1 hz2 rfl (by omega) v2 R.length (R.map (Value.int .i64)) (by rfl) ((HO1.out.alloc _).drew) ⟨wr2.heap.size, 0, none⟩ 2 2 ([y1, y2].map (Value.int .i64)) (by rfl) (by rfl) (World.news_of_block (cs := #[.int .i64 y1, .int .i64 y2]) (t := 2) (fr := (0, 0)) (heap_alloc_new _ _)) (one_cellsI [y1, y2]) (by omega) (by unfold maxLen; omega) (by omega) (by simp; omega) (wr2.heap.size + 1) (by simp) ?_; intro gg cp w3 hown1 hgrow hat hlt3; have HO2 := Lib.hid hown1; have HB3 : Hid (Below wr.heap.size wr w3) := Lib.hid (Below.grown (Below.next HW2.out (by repeat (first | exact Below.refl _ _ | refine Below.drew ?_ | refine Below.drewN' ?_ _ | refine Below.alloc ?_ (by first | exact Nat.le_refl _ | (simp; done) | (simp; omega)) _))) hgrow (by simp; omega) HNE2.out); clear hown1 hgrow hat hlt3) | (refine step_append_lies _ (by rfl) _ _ _ (by rfl) (wr.heap.size) 2 i0 (.int .i64 0) 1 8 Try.underlying38 hi0 hz0 hz1 hz2 rfl (by omega) v2 R.length (R.map (Value.int .i64)) (by rfl) (HO1.out.alloc _) ⟨wr2.heap.size, 0, none⟩ 2 2 ([y1, y2].map (Value.int .i64)) (by rfl) (by rfl) (World.news_of_block (cs := #[.int .i64 y1, .int .i64 y2]) (t := 2) (fr := (0, 0)) (heap_alloc_new _ _)) (one_cellsI [y1, y2]) (by omega) (by unfold maxLen; omega) (by omega) (by simp; omega) (wr2.heap.size + 1) (by simp) ?_; intro gg cp w3 hown1 hgrow hat hlt3; have HO2 := Lib.hid hown1; have HB3 : Hid (Below wr.heap.size wr w3) := Lib.hid (Below.grown (Below.next HW2.out (by repeat (first | exact Below.refl _ _ | refine Below.drew ?_ | refine Below.drewN' ?_ _ | refine Below.alloc ?_ (by first | exact Nat.le_refl _ | (simp; done) | (simp; omega)) _))) hgrow (by simp; omega) HNE2.out); clear hown1 hgrow hat hlt3))
                        all_goals
                          go_wp2
                          exact ⟨⟨k + 1, _, _, by omega, rfl, by first | rfl | go_num | (congr 1), rfl, Lib.hid (by rw [HN2.out, HL2.out, app_two]; exact HO2.out), HB3⟩, by show L.length - ((k : Int) + 1).toNat < L.length - (k : Int).toNat; omega⟩
                      · have HL2 : Hid (unP L y1 y2 l (k + 1) = R ++ [L.getD k 0]) := Lib.hid (by rw [HL.out, if_neg hc])
                        have HN2 : Hid ((unP L y1 y2 l (k + 1)).length = R.length + 1) := Lib.hid (by rw [HL2.out]; simp)
                        clear HL
                        generalize L.getD k 0 = c at hck1 hc HL2
                        have hbb : (c == l) = false := by simpa using hc
                        clear hc
                        go_wp2_with (first | (at_builtin; refine wpList_append_lies _ rfl _ _ 38 rfl (wr.heap.size) 2 i0 (.int .i64 0) 1 8 Try.underlying38 hi0 hz0 hz1 hz2 rfl (by omega) v2 R.length (R.map (Value.int .i64)) rfl (World.ownsRow.alloc HO1.out _) ⟨wr2.heap.size, 0, none⟩ 1 1 [.int .i64 c] rfl rfl (World.news_of_block (cs := #[.int .i64 c]) (t := 2) (fr := (0, 0)) (heap_alloc_new _ _)) (by simp [Value.oneCell']) (by omega) (by unfold maxLen; omega) (by omega) (by simp; omega) (wr2.heap.size + 1) (by simp) ?_; intro gg cp w3 hown1 hgrow hat hlt2; have HO2 := Lib.hid hown1; have HG2 := Lib.hid hgrow; clear hown1 hgrow hat hlt2) | fail)
                        exact ⟨⟨k + 1, _, _, by omega, rfl, by first | rfl | go_num | (congr 1), rfl, Lib.hid (by rw [HN2.out, HL2.out, app_one]; exact HO2.out), Lib.hid (Below.grown (Below.alloc HW2.out hsz2 _) HG2.out (by simp; omega) HNE2.out)⟩, by show L.length - ((k : Int) + 1).toNat < L.length - (k : Int).toNat; omega⟩
                    · obtain rfl : k = L.length := by omega
                      have hrv2 : RV w wr2 v2 (unP L y1 y2 l L.length) := RV.base (RV.own HO.out HW2.out) HW.out
                      obtain ⟨av2, cv2, rfl, _⟩ := hrv2.form
                      have HRV2 := Lib.hid hrv2
                      have hln2 := (unP_len L y1 y2 l L.length).2
                      clear hrv2 HO
                      generalize hR : unP L y1 y2 l L.length = R at HRV2 HU hln2 HM1
                      clear hR
                      by_cases h64 : R.length ≤ 64
                      · have d1 : decide (64 < (R.length : Int)) = false := decide_eq_false (by omega)
                        go_wp2
                        exact ⟨⟨j + 1, _, _, by omega, rfl, val_i (by have := HIV.out; omega), rfl, Lib.hid (by rw [HU.out]; exact HRV2.out), Lib.hid (Below.next HW.out HW2.out), Lib.hid (by rw [HU.out]; exact h64)⟩, by first | (simp [intOf]; done) | (simp [intOf]; omega)⟩
                      · have d1 : decide (64 < (R.length : Int)) = true := decide_eq_true (by omega)
                        go_wp2
                        go_ret2
                        exact .inr ⟨by rw [HUR.out]; exact decide_eq_false (by have := HM1.out; omega), rfl, Below.next HW.out HW2.out⟩
                · obtain rfl : j = T := by omega
                  have hiv : (j : Int) - 1 - (j : Int) = -1 := by omega
                  rw [hiv]
                  clear hiv hqT
                  go_wp2
                  go_ret2
                  exact .inl ⟨by rw [HUR.out]; exact decide_eq_true HJ.out, ⟨_, rfl, by rw [HUR.out]; exact HV.out⟩, HW.out⟩
            | some ad =>
              go_wp2
              have HV2 : Hid (RV w (w.alloc (.cells #[] 2)) (.slice (some ⟨w.heap.size, 0, none⟩) 0 0) zs) := Lib.hid (.inl ⟨HLN.out, _, _, rfl⟩)
              have HW3 : Hid (Below w.heap.size w (w.alloc (.cells #[] 2))) := Lib.hid (below_alloc _ _)
              go_loopw [11, 12] (fun v0 iv wr0 => ∃ (j : Nat) (v : Value) (wr : World), j ≤ T ∧ v = v0 ∧ iv = .int .i64 ((T : Int) - 1 - (j : Int)) ∧ wr = wr0 ∧ Hid (RV w wr v (umL zs rs x T j)) ∧ Hid (Below w.heap.size w wr) ∧ Hid ((umL zs rs x T j).length ≤ 64)) (fun _ iv _ => (intOf iv + 1).toNat)
              case atStart => exact ⟨0, _, _, by omega, rfl, val_i (by omega), rfl, HV2, HW3, Lib.hid (by show zs.length ≤ 64; rw [HLN.out]; exact hm)⟩
              case round =>
                obtain ⟨j, v, wr, hj, rfl, rfl, rfl, HV, HW, HJ⟩ := hrel
                obtain ⟨av, cv, rfl, hrv⟩ := HV.out.form
                have HRV := Lib.hid hrv
                clear hrv
                have hqT := HQT.out
                by_cases hlt : j < T
                · obtain ⟨i, hi⟩ : ∃ i : Nat, i = T - 1 - j := ⟨_, rfl⟩
                  have hiv : (T : Int) - 1 - (j : Int) = (i : Int) := by omega
                  rw [hiv]
                  have HIV := Lib.hid hiv
                  clear hiv
                  obtain ⟨rb, ro, rfl, hrb, hcr1⟩ := (HB.out).cell' (k := 2 * i) (by omega)
                  have hcr2 : w.cell? ⟨rb, ro + (2 * i + 1), none⟩ = some (.int .i64 (rs.getD (2 * i + 1) 0)) := by
                    obtain ⟨rb2, ro2, e, _, hx⟩ := (HB.out).cell' (k := 2 * i + 1) (by omega)
                    injection e with e; injection e with e1 e2; subst e1; subst e2; exact hx
                  have HC1 := Lib.hid hcr1
                  have HC2 := Lib.hid hcr2
                  clear hcr1 hcr2
                  have HU : Hid (umL zs rs x T (j + 1) = unP (umL zs rs x T j) (rs.getD (2 * i) 0) (rs.getD (2 * i + 1) 0) (x + (i : Int)) (umL zs rs x T j).length) := Lib.hid (by rw [hi]; rfl)
                  have HM1 := Lib.hid (HMO.out (j + 1) (by omega))
                  rw [HU.out] at HM1
                  have hi2 : 2 * i + 2 ≤ q := by omega
                  have hi3 : (2 : Int) * (i : Int) + 2 ≤ (q : Int) := by omega
                  have hi8 : i ≤ 8 := by omega
                  have hL64 := HJ.out
                  have hwi : IntKind.i64.wrap (x + (i : Int)) = x + (i : Int) := IntWalk.i64_in _ (by omega)
                  have hwj : IntKind.i64.wrap (2 * (i : Int)) = 2 * (i : Int) := IntWalk.i64_in _ (by omega)
                  have hwk : IntKind.i64.wrap (2 * (i : Int) + 1) = 2 * (i : Int) + 1 := IntWalk.i64_in _ (by omega)
                  have hib1 : (0 : Int) ≤ 2 * (i : Int) := by omega
                  have hib2 : 2 * (i : Int) < (q : Int) := by omega
                  have hib3 : (0 : Int) ≤ 2 * (i : Int) + 1 := by omega
                  have hib4 : 2 * (i : Int) + 1 < (q : Int) := by omega
                  have htn1 : (2 * (i : Int)).toNat = 2 * i := by omega
                  have htn2 : (2 * (i : Int) + 1).toNat = 2 * i + 1 := by omega
                  clear hi hqT
                  generalize umL zs rs x T j = L at HRV HU HM1 hL64 HJ HV
                  generalize rs.getD (2 * i) 0 = y1 at HC1 HU HM1
                  generalize rs.getD (2 * i + 1) 0 = y2 at HC2 HU HM1
                  generalize hll : x + (i : Int) = l at hwi HU HM1
                  have HLL := Lib.hid hll
                  clear hll
                  go_wp2
                  go_loopw [13, 81] (fun v0 iv wr0 => ∃ (k : Nat) (v2 : Value) (wr2 : World), k ≤ L.length ∧ v2 = v0 ∧ iv = .int .i64 k ∧ wr2 = wr0 ∧ Hid (wr2.ownsRow wr.heap.size 2 1 v2 (unP L y1 y2 l k).length ((unP L y1 y2 l k).map (Value.int .i64))) ∧ Hid (Below wr.heap.size wr wr2)) (fun _ iv _ => L.length - (intOf iv).toNat)
                  case atStart => exact ⟨0, _, _, by omega, rfl, rfl, rfl, Lib.hid (own_empty wr 2), Lib.hid (below_alloc _ _)⟩
                  case round =>
                    obtain ⟨k, v2, wr2, hk, rfl, rfl, rfl, HO, HW2⟩ := hrel
                    by_cases hlk : k < L.length
                    · obtain ⟨b1, o1, rfl, hblt, hck1⟩ := (HRV.out.below HW2.out).cell' hlk
                      have HO1 := Lib.hid HO.out
                      have HNE2 := Lib.hid (own_block HO.out)
                      have hsz2 := HW2.out.size
                      have hln := unP_len L y1 y2 l k
                      have HL : Hid (unP L y1 y2 l (k + 1) = unP L y1 y2 l k ++ (if L.getD k 0 = l then [y1, y2] else [L.getD k 0])) := Lib.hid rfl
                      clear HO
                      generalize unP L y1 y2 l k = R at HO1 hln HL
                      obtain ⟨hl1, hl2⟩ := hln
                      have hxl : x + (i : Int) = l := HLL.out
                      by_cases hc : L.getD k 0 = l
                      · have HL2 : Hid (unP L y1 y2 l (k + 1) = R ++ [y1, y2]) := Lib.hid (by rw [HL.out, if_pos hc])
                        have HN2 : Hid ((unP L y1 y2 l (k + 1)).length = R.length + 2) := Lib.hid (by rw [HL2.out]; simp)
                        clear HL
                        rw [hc] at hck1
                        have hbb : (l == l) = true := by simp
                        have hcr1 : wr2.cell? ⟨rb, ro + 2 * i, none⟩ = some (.int .i64 y1) := ((Below.next HW.out HW2.out).cell (p := ⟨rb, ro + 2 * i, none⟩) hrb).trans HC1.out
                        have hcr2 : wr2.cell? ⟨rb, ro + (2 * i + 1), none⟩ = some (.int .i64 y2) := ((Below.next HW.out HW2.out).cell (p := ⟨rb, ro + (2 * i + 1), none⟩) hrb).trans HC2.out
                        clear hc
                        go_wp2
                        go_region_law (first | (refine step_append_lies _ (by rfl) _ _ _ (by rfl) (wr.heap.size) 2 i0 (.int .i64 0) 1 8 Try.underlying38 hi0 hz0 hz1 hz2 rfl (by omega) v2 R.length (R.map (Value.int .i64)) (by rfl) ((HO1.out.alloc _).drew) ⟨wr2.heap.size, 0, none⟩ 2 2 ([y1, y2].map (Value.int .i64)) (by rfl) (by rfl) (World.news_of_block (cs := #[.int .i64 y1, .int .i64 y2]) (t := 2) (fr := (0, 0)) (heap_alloc_new _ _)) (one_cellsI [y1, y2]) (by omega) (by unfold maxLen; omega) (by omega) (by simp; omega) (wr2.heap.size + 1) (by simp) ?_; intro gg cp w3 hown1 hgrow hat hlt3; have HO2 := Lib.hid hown1; have HB3 : Hid (Below wr.heap.size wr w3) := Lib.hid (Below.grown (Below.next HW2.out (by repeat (first | exact Below.refl _ _ | refine Below.drew ?_ | refine Below.drewN' ?_ _ | refine Below.alloc ?_ (by first | exact Nat.le_refl _ | (simp; done) | (simp; omega)) _))) hgrow (by simp; omega) HNE2.out); clear hown1 hgrow hat hlt3) | (refine step_append_lies _ (by rfl) _ _ _ (by rfl) (wr.heap.size) 2 i0 (.int .i64 0) 1 8 Try.underlying38 hi0 hz0 hz1 hz2 rfl (by omega) v2 R.length (R.map (Value.int .i64)) (by rfl) (HO1.out.alloc _) ⟨wr2.heap.size, 0, none⟩ 2 2 ([y1, y2].map (Value.int .i64)) (by rfl) (by rfl) (World.news_of_block (cs := #[.int .i64 y1, .int .i64 y2]) (t := 2) (fr := (0, 0)) (heap_alloc_new _ _)) (one_cellsI [y1, y2]) (by omega) (by unfold maxLen; omega) (by omega) (by simp; omega) (wr2.heap.size + 1) (by simp) ?_; intro gg cp w3 hown1 hgrow hat hlt3; have HO2 := Lib.hid hown1; have HB3 : Hid (Below wr.heap.size wr w3) := Lib.hid (Below.grown (Below.next HW2.out (by repeat (first | exact Below.refl _ _ | refine Below.drew ?_ | refine Below.drewN' ?_ _ | refine Below.alloc ?_ (by first | exact Nat.le_refl _ | (simp; done) | (simp; omega)) _))) hgrow (by simp; omega) HNE2.out); clear hown1 hgrow hat hlt3))
                        all_goals
                          go_wp2
                          exact ⟨⟨k + 1, _, _, by omega, rfl, by first | rfl | go_num | (congr 1), rfl, Lib.hid (by rw [HN2.out, HL2.out, app_two]; exact HO2.out), HB3⟩, by show L.length - ((k : Int) + 1).toNat < L.length - (k : Int).toNat; omega⟩
                      · have HL2 : Hid (unP L y1 y2 l (k + 1) = R ++ [L.getD k 0]) := Lib.hid (by rw [HL.out, if_neg hc])
                        have HN2 : Hid ((unP L y1 y2 l (k + 1)).length = R.length + 1) := Lib.hid (by rw [HL2.out]; simp)
                        clear HL
                        generalize L.getD k 0 = c at hck1 hc HL2
                        have hbb : (c == l) = false := by simpa using hc
                        clear hc
                        go_wp2_with (first | (at_builtin; refine wpList_append_lies _ rfl _ _ 38 rfl (wr.heap.size) 2 i0 (.int .i64 0) 1 8 Try.underlying38 hi0 hz0 hz1 hz2 rfl (by omega) v2 R.length (R.map (Value.int .i64)) rfl (World.ownsRow.alloc HO1.out _) ⟨wr2.heap.size, 0, none⟩ 1 1 [.int .i64 c] rfl rfl (World.news_of_block (cs := #[.int .i64 c]) (t := 2) (fr := (0, 0)) (heap_alloc_new _ _)) (by simp [Value.oneCell']) (by omega) (by unfold maxLen; omega) (by omega) (by simp; omega) (wr2.heap.size + 1) (by simp) ?_; intro gg cp w3 hown1 hgrow hat hlt2; have HO2 := Lib.hid hown1; have HG2 := Lib.hid hgrow; clear hown1 hgrow hat hlt2) | fail)
                        exact ⟨⟨k + 1, _, _, by omega, rfl, by first | rfl | go_num | (congr 1), rfl, Lib.hid (by rw [HN2.out, HL2.out, app_one]; exact HO2.out), Lib.hid (Below.grown (Below.alloc HW2.out hsz2 _) HG2.out (by simp; omega) HNE2.out)⟩, by show L.length - ((k : Int) + 1).toNat < L.length - (k : Int).toNat; omega⟩
                    · obtain rfl : k = L.length := by omega
                      have hrv2 : RV w wr2 v2 (unP L y1 y2 l L.length) := RV.base (RV.own HO.out HW2.out) HW.out
                      obtain ⟨av2, cv2, rfl, _⟩ := hrv2.form
                      have HRV2 := Lib.hid hrv2
                      have hln2 := (unP_len L y1 y2 l L.length).2
                      clear hrv2 HO
                      generalize hR : unP L y1 y2 l L.length = R at HRV2 HU hln2 HM1
                      clear hR
                      by_cases h64 : R.length ≤ 64
                      · have d1 : decide (64 < (R.length : Int)) = false := decide_eq_false (by omega)
                        go_wp2
                        exact ⟨⟨j + 1, _, _, by omega, rfl, val_i (by have := HIV.out; omega), rfl, Lib.hid (by rw [HU.out]; exact HRV2.out), Lib.hid (Below.next HW.out HW2.out), Lib.hid (by rw [HU.out]; exact h64)⟩, by first | (simp [intOf]; done) | (simp [intOf]; omega)⟩
                      · have d1 : decide (64 < (R.length : Int)) = true := decide_eq_true (by omega)
                        go_wp2
                        go_ret2
                        exact .inr ⟨by rw [HUR.out]; exact decide_eq_false (by have := HM1.out; omega), rfl, Below.next HW.out HW2.out⟩
                · obtain rfl : j = T := by omega
                  have hiv : (j : Int) - 1 - (j : Int) = -1 := by omega
                  rw [hiv]
                  clear hiv hqT
                  go_wp2
                  go_ret2
                  exact .inl ⟨by rw [HUR.out]; exact decide_eq_true HJ.out, ⟨_, rfl, by rw [HUR.out]; exact HV.out⟩, HW.out⟩
          · obtain ⟨b1, o1, rfl, _, _⟩ := HA.out.cell' (k := 0) (by omega)
            have HA3 := Lib.hid (HA.out.alloc (.cells #[] 2))
            have HL3 : Hid ((zs.map (Value.int .i64)).length = m * 1) := Lib.hid (by rw [List.length_map, HLN.out, Nat.mul_one])
            have HE3 := Lib.hid (own_empty w 2)
            go_wp2_with (first | (at_builtin; refine wpList_append_lies _ rfl _ _ 38 rfl (w.heap.size) 2 i0 (.int .i64 0) 1 8 Try.underlying38 hi0 hz0 hz1 hz2 rfl (by omega) (.slice (some ⟨w.heap.size, 0, none⟩) 0 0) 0 [] rfl HE3.out ⟨b1, o1, none⟩ m cap (zs.map (Value.int .i64)) rfl HL3.out (irow_news HA3.out) (one_cellsI zs) (by omega) (by unfold maxLen; omega) (by omega) (by simp) (w.heap.size + 1) (by simp) ?_; intro gg cp w1 hown1 hgrow hat hlt2; (have HO3 := Lib.hid (by rw [Nat.zero_add] at hown1; simpa using hown1 : w1.ownsRow w.heap.size 2 1 (.slice (some ⟨gg, 0, none⟩) m cp) m (zs.map (Value.int .i64)))); have HG3 := Lib.hid hgrow; clear hown1 hgrow hat hlt2) | fail)
            have HW3 : Hid (Below w.heap.size w w1) := Lib.hid (Below.grown (belowA _ _) HG3.out (by simp) (own_block HE3.out))
            have HV2 : Hid (RV w w1 (.slice (some ⟨gg, 0, none⟩) m cp) zs) := Lib.hid (RV.own (by rw [HLN.out]; exact HO3.out) HW3.out)
            go_loopw [11, 12] (fun v0 iv wr0 => ∃ (j : Nat) (v : Value) (wr : World), j ≤ T ∧ v = v0 ∧ iv = .int .i64 ((T : Int) - 1 - (j : Int)) ∧ wr = wr0 ∧ Hid (RV w wr v (umL zs rs x T j)) ∧ Hid (Below w.heap.size w wr) ∧ Hid ((umL zs rs x T j).length ≤ 64)) (fun _ iv _ => (intOf iv + 1).toNat)
            case atStart => exact ⟨0, _, _, by omega, rfl, val_i (by omega), rfl, HV2, HW3, Lib.hid (by show zs.length ≤ 64; rw [HLN.out]; exact hm)⟩
            case round =>
              obtain ⟨j, v, wr, hj, rfl, rfl, rfl, HV, HW, HJ⟩ := hrel
              obtain ⟨av, cv, rfl, hrv⟩ := HV.out.form
              have HRV := Lib.hid hrv
              clear hrv
              have hqT := HQT.out
              by_cases hlt : j < T
              · obtain ⟨i, hi⟩ : ∃ i : Nat, i = T - 1 - j := ⟨_, rfl⟩
                have hiv : (T : Int) - 1 - (j : Int) = (i : Int) := by omega
                rw [hiv]
                have HIV := Lib.hid hiv
                clear hiv
                obtain ⟨rb, ro, rfl, hrb, hcr1⟩ := (HB.out).cell' (k := 2 * i) (by omega)
                have hcr2 : w.cell? ⟨rb, ro + (2 * i + 1), none⟩ = some (.int .i64 (rs.getD (2 * i + 1) 0)) := by
                  obtain ⟨rb2, ro2, e, _, hx⟩ := (HB.out).cell' (k := 2 * i + 1) (by omega)
                  injection e with e; injection e with e1 e2; subst e1; subst e2; exact hx
                have HC1 := Lib.hid hcr1
                have HC2 := Lib.hid hcr2
                clear hcr1 hcr2
                have HU : Hid (umL zs rs x T (j + 1) = unP (umL zs rs x T j) (rs.getD (2 * i) 0) (rs.getD (2 * i + 1) 0) (x + (i : Int)) (umL zs rs x T j).length) := Lib.hid (by rw [hi]; rfl)
                have HM1 := Lib.hid (HMO.out (j + 1) (by omega))
                rw [HU.out] at HM1
                have hi2 : 2 * i + 2 ≤ q := by omega
                have hi3 : (2 : Int) * (i : Int) + 2 ≤ (q : Int) := by omega
                have hi8 : i ≤ 8 := by omega
                have hL64 := HJ.out
                have hwi : IntKind.i64.wrap (x + (i : Int)) = x + (i : Int) := IntWalk.i64_in _ (by omega)
                have hwj : IntKind.i64.wrap (2 * (i : Int)) = 2 * (i : Int) := IntWalk.i64_in _ (by omega)
                have hwk : IntKind.i64.wrap (2 * (i : Int) + 1) = 2 * (i : Int) + 1 := IntWalk.i64_in _ (by omega)
                have hib1 : (0 : Int) ≤ 2 * (i : Int) := by omega
                have hib2 : 2 * (i : Int) < (q : Int) := by omega
                have hib3 : (0 : Int) ≤ 2 * (i : Int) + 1 := by omega
                have hib4 : 2 * (i : Int) + 1 < (q : Int) := by omega
                have htn1 : (2 * (i : Int)).toNat = 2 * i := by omega
                have htn2 : (2 * (i : Int) + 1).toNat = 2 * i + 1 := by omega
                clear hi hqT
                generalize umL zs rs x T j = L at HRV HU HM1 hL64 HJ HV
                generalize rs.getD (2 * i) 0 = y1 at HC1 HU HM1
                generalize rs.getD (2 * i + 1) 0 = y2 at HC2 HU HM1
                generalize hll : x + (i : Int) = l at hwi HU HM1
                have HLL := Lib.hid hll
                clear hll
                go_wp2
                go_loopw [13, 81] (fun v0 iv wr0 => ∃ (k : Nat) (v2 : Value) (wr2 : World), k ≤ L.length ∧ v2 = v0 ∧ iv = .int .i64 k ∧ wr2 = wr0 ∧ Hid (wr2.ownsRow wr.heap.size 2 1 v2 (unP L y1 y2 l k).length ((unP L y1 y2 l k).map (Value.int .i64))) ∧ Hid (Below wr.heap.size wr wr2)) (fun _ iv _ => L.length - (intOf iv).toNat)
                case atStart => exact ⟨0, _, _, by omega, rfl, rfl, rfl, Lib.hid (own_empty wr 2), Lib.hid (below_alloc _ _)⟩
                case round =>
                  obtain ⟨k, v2, wr2, hk, rfl, rfl, rfl, HO, HW2⟩ := hrel
                  by_cases hlk : k < L.length
                  · obtain ⟨b1, o1, rfl, hblt, hck1⟩ := (HRV.out.below HW2.out).cell' hlk
                    have HO1 := Lib.hid HO.out
                    have HNE2 := Lib.hid (own_block HO.out)
                    have hsz2 := HW2.out.size
                    have hln := unP_len L y1 y2 l k
                    have HL : Hid (unP L y1 y2 l (k + 1) = unP L y1 y2 l k ++ (if L.getD k 0 = l then [y1, y2] else [L.getD k 0])) := Lib.hid rfl
                    clear HO
                    generalize unP L y1 y2 l k = R at HO1 hln HL
                    obtain ⟨hl1, hl2⟩ := hln
                    have hxl : x + (i : Int) = l := HLL.out
                    by_cases hc : L.getD k 0 = l
                    · have HL2 : Hid (unP L y1 y2 l (k + 1) = R ++ [y1, y2]) := Lib.hid (by rw [HL.out, if_pos hc])
                      have HN2 : Hid ((unP L y1 y2 l (k + 1)).length = R.length + 2) := Lib.hid (by rw [HL2.out]; simp)
                      clear HL
                      rw [hc] at hck1
                      have hbb : (l == l) = true := by simp
                      have hcr1 : wr2.cell? ⟨rb, ro + 2 * i, none⟩ = some (.int .i64 y1) := ((Below.next HW.out HW2.out).cell (p := ⟨rb, ro + 2 * i, none⟩) hrb).trans HC1.out
                      have hcr2 : wr2.cell? ⟨rb, ro + (2 * i + 1), none⟩ = some (.int .i64 y2) := ((Below.next HW.out HW2.out).cell (p := ⟨rb, ro + (2 * i + 1), none⟩) hrb).trans HC2.out
                      clear hc
                      go_wp2
                      go_region_law (first | (refine step_append_lies _ (by rfl) _ _ _ (by rfl) (wr.heap.size) 2 i0 (.int .i64 0) 1 8 Try.underlying38 hi0 hz0 hz1 hz2 rfl (by omega) v2 R.length (R.map (Value.int .i64)) (by rfl) ((HO1.out.alloc _).drew) ⟨wr2.heap.size, 0, none⟩ 2 2 ([y1, y2].map (Value.int .i64)) (by rfl) (by rfl) (World.news_of_block (cs := #[.int .i64 y1, .int .i64 y2]) (t := 2) (fr := (0, 0)) (heap_alloc_new _ _)) (one_cellsI [y1, y2]) (by omega) (by unfold maxLen; omega) (by omega) (by simp; omega) (wr2.heap.size + 1) (by simp) ?_; intro gg cp w3 hown1 hgrow hat hlt3; have HO2 := Lib.hid hown1; have HB3 : Hid (Below wr.heap.size wr w3) := Lib.hid (Below.grown (Below.next HW2.out (by repeat (first | exact Below.refl _ _ | refine Below.drew ?_ | refine Below.drewN' ?_ _ | refine Below.alloc ?_ (by first | exact Nat.le_refl _ | (simp; done) | (simp; omega)) _))) hgrow (by simp; omega) HNE2.out); clear hown1 hgrow hat hlt3) | (refine step_append_lies _ (by rfl) _ _ _ (by rfl) (wr.heap.size) 2 i0 (.int .i64 0) 1 8 Try.underlying38 hi0 hz0 hz1 hz2 rfl (by omega) v2 R.length (R.map (Value.int .i64)) (by rfl) (HO1.out.alloc _) ⟨wr2.heap.size, 0, none⟩ 2 2 ([y1, y2].map (Value.int .i64)) (by rfl) (by rfl) (World.news_of_block (cs := #[.int .i64 y1, .int .i64 y2]) (t := 2) (fr := (0, 0)) (heap_alloc_new _ _)) (one_cellsI [y1, y2]) (by omega) (by unfold maxLen; omega) (by omega) (by simp; omega) (wr2.heap.size + 1) (by simp) ?_; intro gg cp w3 hown1 hgrow hat hlt3; have HO2 := Lib.hid hown1; have HB3 : Hid (Below wr.heap.size wr w3) := Lib.hid (Below.grown (Below.next HW2.out (by repeat (first | exact Below.refl _ _ | refine Below.drew ?_ | refine Below.drewN' ?_ _ | refine Below.alloc ?_ (by first | exact Nat.le_refl _ | (simp; done) | (simp; omega)) _))) hgrow (by simp; omega) HNE2.out); clear hown1 hgrow hat hlt3))
                      all_goals
                        go_wp2
                        exact ⟨⟨k + 1, _, _, by omega, rfl, by first | rfl | go_num | (congr 1), rfl, Lib.hid (by rw [HN2.out, HL2.out, app_two]; exact HO2.out), HB3⟩, by show L.length - ((k : Int) + 1).toNat < L.length - (k : Int).toNat; omega⟩
                    · have HL2 : Hid (unP L y1 y2 l (k + 1) = R ++ [L.getD k 0]) := Lib.hid (by rw [HL.out, if_neg hc])
                      have HN2 : Hid ((unP L y1 y2 l (k + 1)).length = R.length + 1) := Lib.hid (by rw [HL2.out]; simp)
                      clear HL
                      generalize L.getD k 0 = c at hck1 hc HL2
                      have hbb : (c == l) = false := by simpa using hc
                      clear hc
                      go_wp2_with (first | (at_builtin; refine wpList_append_lies _ rfl _ _ 38 rfl (wr.heap.size) 2 i0 (.int .i64 0) 1 8 Try.underlying38 hi0 hz0 hz1 hz2 rfl (by omega) v2 R.length (R.map (Value.int .i64)) rfl (World.ownsRow.alloc HO1.out _) ⟨wr2.heap.size, 0, none⟩ 1 1 [.int .i64 c] rfl rfl (World.news_of_block (cs := #[.int .i64 c]) (t := 2) (fr := (0, 0)) (heap_alloc_new _ _)) (by simp [Value.oneCell']) (by omega) (by unfold maxLen; omega) (by omega) (by simp; omega) (wr2.heap.size + 1) (by simp) ?_; intro gg cp w3 hown1 hgrow hat hlt2; have HO2 := Lib.hid hown1; have HG2 := Lib.hid hgrow; clear hown1 hgrow hat hlt2) | fail)
                      exact ⟨⟨k + 1, _, _, by omega, rfl, by first | rfl | go_num | (congr 1), rfl, Lib.hid (by rw [HN2.out, HL2.out, app_one]; exact HO2.out), Lib.hid (Below.grown (Below.alloc HW2.out hsz2 _) HG2.out (by simp; omega) HNE2.out)⟩, by show L.length - ((k : Int) + 1).toNat < L.length - (k : Int).toNat; omega⟩
                  · obtain rfl : k = L.length := by omega
                    have hrv2 : RV w wr2 v2 (unP L y1 y2 l L.length) := RV.base (RV.own HO.out HW2.out) HW.out
                    obtain ⟨av2, cv2, rfl, _⟩ := hrv2.form
                    have HRV2 := Lib.hid hrv2
                    have hln2 := (unP_len L y1 y2 l L.length).2
                    clear hrv2 HO
                    generalize hR : unP L y1 y2 l L.length = R at HRV2 HU hln2 HM1
                    clear hR
                    by_cases h64 : R.length ≤ 64
                    · have d1 : decide (64 < (R.length : Int)) = false := decide_eq_false (by omega)
                      go_wp2
                      exact ⟨⟨j + 1, _, _, by omega, rfl, val_i (by have := HIV.out; omega), rfl, Lib.hid (by rw [HU.out]; exact HRV2.out), Lib.hid (Below.next HW.out HW2.out), Lib.hid (by rw [HU.out]; exact h64)⟩, by first | (simp [intOf]; done) | (simp [intOf]; omega)⟩
                    · have d1 : decide (64 < (R.length : Int)) = true := decide_eq_true (by omega)
                      go_wp2
                      go_ret2
                      exact .inr ⟨by rw [HUR.out]; exact decide_eq_false (by have := HM1.out; omega), rfl, Below.next HW.out HW2.out⟩
              · obtain rfl : j = T := by omega
                have hiv : (j : Int) - 1 - (j : Int) = -1 := by omega
                rw [hiv]
                clear hiv hqT
                go_wp2
                go_ret2
                exact .inl ⟨by rw [HUR.out]; exact decide_eq_true HJ.out, ⟨_, rfl, by rw [HUR.out]; exact HV.out⟩, HW.out⟩
end Go.Proofs.Ytbpmjgpfjlnlpaa
