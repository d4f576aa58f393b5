/- What slides: the model. -/
import Derived.Test.YtbpmjgpfjlnlpaaSlq
import Derived.BigQuiet
namespace Go.Proofs.Ytbpmjgpfjlnlpaa
open Go.Proofs.Ytbpmjgpfjlnlpaa.Flo Go.RowKit

set_option maxHeartbeats 1000000 in
theorem mn5_spec (a b : Nat) (w : World) : Calls Try.prog 81 #[.int .i64 (a : Int), .int .i64 (b : Int)] w fun e w' => e = .returned (.int .i64 ((min a b : Nat) : Int)) ∧ w = w' := by
  by_cases h : a < b
  · rw [show min a b = a by omega]
    have d1 : decide ((a : Int) < (b : Int)) = true := decide_eq_true (by omega)
    go_enter Try.func81, Try.ntmps81
    go_wp2
    go_ret
    exact ⟨rfl, rfl⟩
  · rw [show min a b = b by omega]
    have d1 : decide ((a : Int) < (b : Int)) = false := decide_eq_false (by omega)
    go_enter Try.func81, Try.ntmps81
    go_wp2
    go_ret
    exact ⟨rfl, rfl⟩
set_option maxRecDepth 100000 in
set_option maxHeartbeats 16000000 in
theorem sp_spec (a : Option Addr) (m cap : Nat) (zs : List Int) (x : Int) (win : Nat) (w : World) (h : IRow w a m zs) (hok : itB zs m x = true) (hw1 : 1 ≤ win) (hw64 : win ≤ 64) :
    Calls Try.prog 28 #[.slice a m cap, .int .i64 x, .int .i64 (win : Int)] w (UPost true (slR zs m win) w) := by
  obtain ⟨i0, hi0, hz0, hz1, hz2⟩ := info_parts Try.info64
  have hm64 : m ≤ 64 := (it_out hok).2.1
  have HA := Lib.hid h
  have HOK := Lib.hid hok
  have HWI : Hid (1 ≤ (win : Int) ∧ (win : Int) ≤ 64) := Lib.hid (by omega)
  clear h hok
  go_enter Try.func28, Try.ntmps28
  go_wp2_with (first | (go_at_call 79; refine (itx_spec a m cap zs x _ HA.out (by omega)).mono ?_; rw [HOK.out]; rintro e w' ⟨rfl, hw⟩; subst hw) | (go_at_call 80; with_reducible refine (in_true (win : Int) 1 64 _ HWI.out.1 HWI.out.2).mono ?_; rintro e w' ⟨rfl, hw⟩; have hw := hw.symm; subst hw) | fail)
  go_loopw [8, 10] (fun v0 iv wr0 => ∃ (s : Nat) (v : Value) (wr : World), v = v0 ∧ iv = .int .i64 ((slK zs m win s).1 : Int) ∧ wr = wr0 ∧ Hid (wr.ownsRow w.heap.size 2 1 v (slK zs m win s).2.length ((slK zs m win s).2.map (Value.int .i64))) ∧ Hid (Below w.heap.size w wr)) (fun _ iv _ => m - (intOf iv).toNat)
  case atStart => exact ⟨0, _, _, rfl, rfl, rfl, Lib.hid (own_empty w 2), Lib.hid (below_alloc _ _)⟩
  case round =>
    obtain ⟨s, v, wr, rfl, rfl, rfl, HO, HW⟩ := hrel
    have hat := sl_at zs m win s
    by_cases hlt : (slK zs m win s).1 < m
    · have HSU := Lib.hid (sl_succ zs hlt)
      have HO1 := Lib.hid HO.out
      have HNE := Lib.hid (own_block HO.out)
      have hsz := HW.out.size
      clear HO
      generalize slK zs m win s = X at HO1 HSU hat hlt
      obtain ⟨p, R⟩ := X
      have HO1 : Hid (wr.ownsRow w.heap.size 2 1 v R.length (R.map (Value.int .i64))) := HO1
      have hlt : p < m := hlt
      have hR : R.length ≤ 3 * p := hat.2.2
      clear hat
      obtain ⟨lim, hlim⟩ : ∃ lim, lim = m - p - 1 := ⟨_, rfl⟩
      obtain ⟨B, hB⟩ : ∃ B, B = min win p := ⟨_, rfl⟩
      have HSU : Hid (slK zs m win (s + 1) = (p + (bsK zs p lim B).2 + 1, R ++ [((bsK zs p lim B).1 : Int), ((bsK zs p lim B).2 : Int), zs.getD (p + (bsK zs p lim B).2) 0])) := Lib.hid (by rw [hlim, hB]; exact HSU.out)
      have HMN : Hid (∀ W, Calls Try.prog 81 #[.int .i64 (win : Int), .int .i64 (p : Int)] W fun e w' => e = .returned (.int .i64 (B : Int)) ∧ W = w') := Lib.hid (fun W => by rw [hB]; exact mn5_spec win p W)
      have hpl : p + lim < m := by omega
      have hpm : p + lim + 1 = m := by omega
      have HPM := Lib.hid hpm
      have hBp : B ≤ p := by omega
      have hB64 : B ≤ 64 := by omega
      obtain ⟨ee, hee⟩ : ∃ ee, ee = p + lim := ⟨_, rfl⟩
      have hqm : (m : Int) - 1 = (ee : Int) := by omega
      have hwqm : IntKind.i64.wrap ((m : Int) - 1) = (ee : Int) := by rw [IntWalk.i64_in _ (by omega)]; omega
      have hee2 : p + lim ≤ ee ∧ ee ≤ p + lim := by omega
      clear hee
      clear hlim hB hpm
      go_wp2
      go_loopw [11, 12, 13] (fun fv lv bv w' => ∃ b q : Nat, b ≤ B ∧ fv = .int .i64 ((bsK zs p lim b).1 : Int) ∧ lv = .int .i64 ((bsK zs p lim b).2 : Int) ∧ bv = .int .i64 ((b + 1 : Nat) : Int) ∧ w' = wr.drewN q) (fun _ _ bv _ => B + 1 - (intOf bv).toNat)
      case atStart => exact ⟨0, 0, by omega, rfl, rfl, rfl, (World.drewN_zero _).symm⟩
      case round =>
        obtain ⟨b, q, hb, rfl, rfl, rfl, rfl⟩ := hrel
        by_cases hltb : b < B
        · obtain ⟨nb, hnb⟩ : ∃ nb, nb = b + 1 := ⟨_, rfl⟩
          have HST := Lib.hid (fun k (hk : mtK zs p (b + 1) lim = k) => bs_step (zs := zs) (p := p) (lim := lim) (b := b) hk)
          have hbl := bs_le zs p lim b
          have hdle : decide ((nb : Int) ≤ (B : Int)) = true := decide_eq_true (by omega)
          have hdln : nb ≤ B := by omega
          have hdlm : decide (nb ≤ B) = true := decide_eq_true hdln
          rw [← hnb]
          rw [← hnb] at HST
          obtain ⟨⟨F, L⟩, hX⟩ : ∃ X, X = bsK zs p lim b := ⟨_, rfl⟩
          rw [← hX] at hbl
          rw [← hX]
          have HX := Lib.hid hX
          have HB1 : Hid (nb ≤ p) := Lib.hid (by omega)
          have HB2 : Hid (nb ≤ B) := Lib.hid (by omega)
          clear hX hnb
          have hL : L ≤ lim := hbl.1
          have hF : F ≤ b := hbl.2
          clear hbl
          go_wp2_with (first | (go_at_call 81; refine (HMN.out _).mono ?_; rintro e w' ⟨rfl, hw⟩; subst hw) | fail)
          go_loopw [14] (fun iv w' => ∃ k q2 : Nat, k ≤ lim ∧ Hid (∀ j, j < k → zs.getD (p + j) 0 = zs.getD (p - nb + j) 0) ∧ iv = .int .i64 k ∧ w' = wr.drewN q2) (fun iv _ => lim - (intOf iv).toNat)
          case atStart => exact ⟨0, q, by omega, Lib.hid (by intro j hj; omega), rfl, rfl⟩
          case round =>
            obtain ⟨k, q2, hk, HE, rfl, rfl⟩ := hrel
            have hnp := HB1.out
            by_cases hlk : k < lim
            · obtain ⟨b1, o1, rfl, _, hckx⟩ := (HA.out.below HW.out).cell' (k := p + k) (by omega)
              have hcky : wr.cell? ⟨b1, o1 + (p - nb + k), none⟩ = some (.int .i64 (zs.getD (p - nb + k) 0)) := by
                obtain ⟨b2, o2, e, _, hx⟩ := (HA.out.below HW.out).cell' (k := p - nb + k) (by omega)
                injection e with e; injection e with e1 e2; subst e1; subst e2; exact hx
              have HEN : Hid (zs.getD (p + k) 0 = zs.getD (p - nb + k) 0 → ∀ j, j < k + 1 → zs.getD (p + j) 0 = zs.getD (p - nb + j) 0) := Lib.hid (fun e0 j hj => by
                by_cases e : j < k
                · exact HE.out j e
                · obtain rfl : j = k := by omega
                  exact e0)
              have HMT : Hid (¬ zs.getD (p + k) 0 = zs.getD (p - nb + k) 0 → mtK zs p nb lim = k) := Lib.hid (fun e0 => mt_stop HE.out e0 lim hk)
              obtain ⟨xx, hxx⟩ : ∃ xx, xx = p + k := ⟨_, rfl⟩
              obtain ⟨yy, hyy⟩ : ∃ yy, yy = p - nb + k := ⟨_, rfl⟩
              have hwx : IntKind.i64.wrap ((p : Int) + (k : Int)) = (xx : Int) := by rw [IntWalk.i64_in _ (by omega)]; omega
              have hwy : IntKind.i64.wrap ((xx : Int) - (nb : Int)) = (yy : Int) := by rw [IntWalk.i64_in _ (by omega)]; omega
              have dxx : decide ((xx : Int) < (ee : Int)) = true := decide_eq_true (by omega)
              have dxn : xx < ee := by omega
              have hxm : xx < m := by omega
              have hym : yy < m := by omega
              rw [← hxx] at hckx
              rw [← hyy] at hcky
              have HEN2 : Hid (zs.getD xx 0 = zs.getD yy 0 → ∀ j, j < k + 1 → zs.getD (p + j) 0 = zs.getD (p - nb + j) 0) := Lib.hid (by rw [hxx, hyy]; exact HEN.out)
              have HMT2 : Hid (¬ zs.getD xx 0 = zs.getD yy 0 → mtK zs p nb lim = k) := Lib.hid (by rw [hxx, hyy]; exact HMT.out)
              clear hxx hyy HE HEN HMT
              by_cases he : zs.getD xx 0 = zs.getD yy 0
              · have HEN3 := Lib.hid (HEN2.out he)
                rw [← he] at hcky
                generalize zs.getD xx 0 = c at hckx hcky
                have hcc : (c == c) = true := by simp
                clear he HEN2 HMT2
                go_wp2
                go_quiet (fail)
                all_goals
                  go_wp2
                  exact ⟨⟨k + 1, _, by omega, HEN3, by first | rfl | go_num | (congr 1), rfl⟩, by show lim - ((k : Int) + 1).toNat < lim - (k : Int).toNat; omega⟩
              · have HS3 := Lib.hid (HST.out k (HMT2.out he))
                generalize zs.getD xx 0 = c at hckx he
                generalize zs.getD yy 0 = c2 at hcky he
                have hcc : (c2 == c) = false := by simpa using fun e => he e.symm
                clear he HEN2 HMT2
                by_cases hLk : L < k
                · have d9 : decide ((L : Int) < (k : Int)) = true := decide_eq_true (by omega)
                  have hs : bsK zs p lim nb = (nb, k) := by rw [HS3.out, ← HX.out]; exact if_pos hLk
                  have HS4 := Lib.hid hs
                  clear hs
                  go_wp2
                  go_quiet (fail)
                  all_goals
                    go_wp2
                    exact ⟨⟨nb, _, HB2.out, by rw [HS4.out], by rw [HS4.out], by first | rfl | go_num | (congr 1), rfl⟩, by have := HB2.out; simp [intOf]; omega⟩
                · have d9 : decide ((L : Int) < (k : Int)) = false := decide_eq_false (by omega)
                  have hs : bsK zs p lim nb = (F, L) := by rw [HS3.out, ← HX.out]; exact if_neg hLk
                  have HS4 := Lib.hid hs
                  clear hs
                  go_wp2
                  go_quiet (fail)
                  all_goals
                    go_wp2
                    exact ⟨⟨nb, _, HB2.out, by rw [HS4.out], by rw [HS4.out], by first | rfl | go_num | (congr 1), rfl⟩, by have := HB2.out; simp [intOf]; omega⟩
            · obtain rfl : k = lim := by omega
              have HS3 := Lib.hid (HST.out k (mt_full k HE.out))
              have hwx : IntKind.i64.wrap ((p : Int) + (k : Int)) = (ee : Int) := by rw [IntWalk.i64_in _ (by omega)]; omega
              have dee : decide ((ee : Int) < (ee : Int)) = false := decide_eq_false (by omega)
              by_cases hLk : L < k
              · have d9 : decide ((L : Int) < (k : Int)) = true := decide_eq_true (by omega)
                have hs : bsK zs p k nb = (nb, k) := by rw [HS3.out, ← HX.out]; exact if_pos hLk
                have HS4 := Lib.hid hs
                clear hs
                go_wp2
                go_quiet (fail)
                all_goals
                  go_wp2
                  exact ⟨⟨nb, _, HB2.out, by rw [HS4.out], by rw [HS4.out], by first | rfl | go_num | (congr 1), rfl⟩, by have := HB2.out; simp [intOf]; omega⟩
              · have d9 : decide ((L : Int) < (k : Int)) = false := decide_eq_false (by omega)
                have hs : bsK zs p k nb = (F, L) := by rw [HS3.out, ← HX.out]; exact if_neg hLk
                have HS4 := Lib.hid hs
                clear hs
                go_wp2
                go_quiet (fail)
                all_goals
                  go_wp2
                  exact ⟨⟨nb, _, HB2.out, by rw [HS4.out], by rw [HS4.out], by first | rfl | go_num | (congr 1), rfl⟩, by have := HB2.out; simp [intOf]; omega⟩
        · obtain rfl : b = B := by omega
          have hdle : decide (((b + 1 : Nat) : Int) ≤ (b : Int)) = false := decide_eq_false (by omega)
          have hbl := (bs_le zs p lim b).1
          generalize bsK zs p lim b = Y at HSU hbl
          obtain ⟨F, L⟩ := Y
          have hbl : L ≤ lim := hbl
          obtain ⟨b1, o1, rfl, _, hck⟩ := (HA.out.below HW.out).cell' (k := p + L) (by omega)
          obtain ⟨y, hy⟩ : ∃ y, y = p + L := ⟨_, rfl⟩
          have hym : y < m := by omega
          have hq3 : (p : Int) + (L : Int) = (y : Int) := by omega
          have hq4 : (p : Int) + ((L : Int) + 1) = ((y + 1 : Nat) : Int) := by omega
          have HN2 : Hid ((slK zs m win (s + 1)).2.length = R.length + 3) := Lib.hid (by rw [HSU.out]; simp)
          have HS1 : Hid ((slK zs m win (s + 1)).1 = y + 1) := Lib.hid (by rw [HSU.out, hy])
          have HS2 : Hid ((slK zs m win (s + 1)).2 = R ++ [(F : Int), (L : Int), zs.getD y 0]) := Lib.hid (by rw [HSU.out, hy])
          rw [← hy] at hck
          have HYP : Hid (p ≤ y) := Lib.hid (by omega)
          clear hy HSU
          generalize zs.getD y 0 = c at hck HS2
          go_wp2_with (first | (go_at_call 81; refine (HMN.out _).mono ?_; rintro e w' ⟨rfl, hw⟩; subst hw) | (at_builtin; refine wpList_append_lies _ rfl _ _ 38 rfl (w.heap.size) 2 i0 (.int .i64 0) 1 8 Try.underlying38 hi0 hz0 hz1 hz2 rfl (by omega) v R.length (R.map (Value.int .i64)) rfl (World.ownsRow.alloc (own_drewN HO1.out _) _) ⟨wr.heap.size, 0, none⟩ 3 3 ([(F : Int), (L : Int), c].map (Value.int .i64)) rfl rfl (World.news_of_block (cs := #[.int .i64 (F : Int), .int .i64 (L : Int), .int .i64 c]) (t := 2) (fr := (0, 0)) (heap_alloc_new _ _)) (one_cellsI [(F : Int), (L : Int), c]) (by omega) (by unfold maxLen; omega) (by omega) (by simp; omega) (wr.heap.size + 1) (by simp) ?_; intro gg cp w3 hown1 hgrow hat hlt2; have HO2 := Lib.hid hown1; have HG2 := Lib.hid hgrow; clear hown1 hgrow hat hlt2) | fail)
          exact ⟨⟨s + 1, _, _, rfl, by rw [HS1.out]; first | rfl | go_num | (congr 1), rfl, Lib.hid (by rw [HN2.out, HS2.out, app_three]; exact HO2.out), Lib.hid (Below.grown (Below.alloc (Below.drewN' HW.out _) hsz _) HG2.out (by simp; omega) HNE.out)⟩, by have := HYP.out; first | (show m - ((y : Int) + 1).toNat < m - (p : Int).toNat; omega) | (simp [intOf]; omega)⟩
    · have HE := Lib.hid (sl_last zs hlt)
      have HRV : Hid (RV w wr v (slR zs m win)) := Lib.hid (by rw [← HE.out]; exact RV.own HO.out HW.out)
      have hd : decide ((((slK zs m win s).1 : Nat) : Int) < (m : Int)) = false := decide_eq_false (by omega)
      generalize (slK zs m win s).1 = p at hlt hd
      go_wp2
      go_ret2
      exact .inl ⟨rfl, ⟨_, rfl, HRV.out⟩, HW.out⟩
end Go.Proofs.Ytbpmjgpfjlnlpaa
