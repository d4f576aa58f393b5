
/- PolarTurn: the functions. -/
import Derived.Test.YtmfegjflaajkkaaTnv
import Derived.Deep.RegionWith
namespace Go.Proofs.Ytmfegjflaajkkaa
open Go.Proofs.Ytmfegjflaajkkaa.Flo Go.RowKit Go.Proofs.Ytmfegjflaajkkaa.Pr

theorem pm_drew {w wr : World} {p k : Nat} {old new : Ent} (h : PM w p old new k wr) (q : Nat) : PM w p old new k (wr.drewN q) := ⟨h.1, h.2.1, h.2.2.1, fun B hB => Below.drewN' (h.2.2.2 B hB) q⟩
theorem pm_drew1 {w wr : World} {p k : Nat} {old new : Ent} (h : PM w p old new k wr) : PM w p old new k wr.drew := by rw [World.drew_is_drewN]; exact pm_drew h 1
set_option maxRecDepth 100000 in
set_option maxHeartbeats 8000000 in
theorem tn_spec (a : Option Addr) (n cap : Nat) (f : Nat → Bool) (w : World) (ha : BRow w a n f) (hok : ptB n = true) :
    Calls Try.prog 82 #[.slice a n cap] w fun e w' => ∃ g cp, e = .returned (.slice (some ⟨g, 0, none⟩) n cp) ∧ New w w' g (.bl n (tnF n.log2 f)) := by
  obtain ⟨i0, hi, hz0, hz1, hz2⟩ := info_parts Try.infoB
  obtain ⟨p, hp5, hn2⟩ := pt_out hok
  have hle := pt_le hp5
  rw [← hn2] at hle
  have HP5 := Lib.hid hp5
  have HN2 := Lib.hid hn2
  have hlg : n.log2 = p := by rw [hn2, pt_log]
  rw [hlg]
  obtain ⟨H0, hH⟩ : ∃ H0, H0 = n / 2 := ⟨_, rfl⟩
  have HH0 : Hid (H0 = 2 ^ p / 2) := Lib.hid (by rw [hH, hn2])
  have hH1 : H0 < 32 := by omega
  have hH2 : (n : Int).tdiv 2 = (H0 : Int) := by rw [Int.tdiv_eq_ediv_of_nonneg (by omega)]; omega
  obtain ⟨hn1, hn32⟩ := hle
  obtain ⟨b, o, rfl, _⟩ := ha.cell (k := 0) (by omega)
  have HA := Lib.hid (ha.alloc (.cells #[] 4))
  have HL : Hid (((List.range n).map (fun i => Value.bool (f i))).length = n * 1) := Lib.hid (by simp)
  have HE := Lib.hid (own_empty w 4)
  clear ha hok hlg hH hn2 hp5
  go_enter Try.func82, Try.ntmps82
  go_wp2_with (first | (at_builtin; refine wpList_append_lies _ rfl _ _ 36 rfl (w.heap.size) 4 i0 (.bool false) 1 1 Try.underlying36 hi hz0 hz1 hz2 rfl (by omega) (.slice (some ⟨w.heap.size, 0, none⟩) 0 0) 0 [] rfl HE.out ⟨b, o, none⟩ n cap ((List.range n).map (fun i => Value.bool (f i))) rfl HL.out (brow_news HA.out) (one_cellsB f n) (by omega) (by unfold maxLen; omega) (by omega) (by simp) (w.heap.size + 1) (by simp) ?_; intro gg cp w1 hown1 hgrow hat hlt2; (have HO := Lib.hid (by rw [Nat.zero_add] at hown1; simpa using hown1 : w1.ownsRow w.heap.size 4 1 (.slice (some ⟨gg, 0, none⟩) n cp) n ((List.range n).map (fun i => Value.bool (f i))))); have HG := Lib.hid hgrow; clear hown1 hgrow hat hlt2) | fail)
  obtain ⟨g, cp2, e, hnew⟩ := Gat.new (f := fun i => Value.bool (f i)) HO.out (Below.grown (belowA _ _) HG.out (by simp) (own_block HE.out)) (by omega)
  cases e
  have HGB : Hid (w.heap.size ≤ gg) := Lib.hid hnew.1
  have HB0 : Hid (BCl w1 gg n f) := Lib.hid ⟨hnew.2.1, hnew.2.2.1⟩
  have HW0 : Hid (Below w.heap.size w w1) := Lib.hid hnew.2.2.2
  clear hnew HO HG HE HL HA
  go_loopw [4] (fun hv w' => ∃ (q h : Nat) (F : Nat → Bool) (wr : World), q ≤ p ∧ h < 32 ∧ hv = .int .i64 (h : Int) ∧ wr = w' ∧ Hid (h = 2 ^ q / 2) ∧ Hid (BCl wr gg n F) ∧ Hid (tnF q F = tnF p f) ∧ Hid (Below w.heap.size w wr)) (fun hv _ => (intOf hv).toNat)
  case atStart => exact ⟨p, H0, _, _, Nat.le_refl _, hH1, rfl, rfl, HH0, HB0, Lib.hid rfl, HW0⟩
  case round =>
    obtain ⟨q, h, F, wr, hq, hh, rfl, rfl, HH, HB, HT0, HW⟩ := hrel
    clear HB0 HW0 HH0
    by_cases hq0 : q = 0
    · have h0 : h = 0 := by rw [HH.out, hq0]
      subst h0
      have HR : Hid (F = tnF p f) := Lib.hid (by have := HT0.out; rw [hq0] at this; exact this)
      go_wp2
      go_ret
      exact ⟨gg, cp, rfl, HGB.out, HB.out.1, by rw [← HR.out]; exact HB.out.2, HW.out⟩
    · obtain ⟨t, rfl⟩ : ∃ t, q = t + 1 := ⟨q - 1, by omega⟩
      have HHH : Hid (h = 2 ^ t) := Lib.hid (by rw [HH.out, pt_half])
      have HT : Hid (t < p) := Lib.hid (by omega)
      have h1 : 1 ≤ h := by rw [HHH.out]; exact Nat.two_pow_pos t
      obtain ⟨h2, hh2⟩ : ∃ h2, h2 = h / 2 := ⟨_, rfl⟩
      have HH2 : Hid (h2 = 2 ^ t / 2) := Lib.hid (by rw [hh2, HHH.out])
      have hdd : (h : Int).tdiv 2 = (h2 : Int) := by rw [Int.tdiv_eq_ediv_of_nonneg (by omega)]; omega
      have hd1 : decide ((1 : Int) ≤ (h : Int)) = true := decide_eq_true (by omega)
      have hh2l : h2 < 32 := by omega
      have hh2m : h2 < h := by omega
      have hgl : gg < wr.heap.size := HB.out.1
      have HP0 := Lib.hid (PM.start (.bl n (tnP h F)) HB.out.2)
      clear hh2 hq hq0
      go_wp2
      go_loopw [18] (fun iv w' => ∃ (k : Nat) (wi : World), k ≤ n ∧ iv = .int .i64 k ∧ wi = w' ∧ Hid (PM wr gg (.bl n F) (.bl n (tnP h F)) k wi)) (fun iv _ => n - (intOf iv).toNat)
      case atStart => exact ⟨0, _, by omega, rfl, rfl, HP0⟩
      case round =>
        obtain ⟨k, wi, hk, rfl, rfl, HM⟩ := hrel
        by_cases hlt : k < n
        · by_cases he : (k / h) % 2 = 0
          · obtain ⟨s, hs⟩ : ∃ s, s = k + h := ⟨_, rfl⟩
            have hsn : s < n := by
              have := pt_in HP5.out HT.out (by rw [← HN2.out]; exact hlt) (by rw [← HHH.out]; exact he)
              rw [← HHH.out, ← HN2.out] at this; omega
            have hsum : (k : Int) + (h : Int) = (s : Int) := by omega
            have hc1 := (HM.out.same hlt (Nat.le_refl _)).1
            have hfz := (HM.out.same hlt (Nat.le_refl _)).2
            have hc2 := (HM.out.same hsn (by omega)).1
            have HN : Hid (PM wr gg (.bl n F) (.bl n (tnP h F)) (k + 1) (wi.setCell ⟨gg, k, none⟩ (.bool (F k != F s)))) := Lib.hid (HM.out.step hlt _ (by show _ = Value.bool (tnP h F k); unfold tnP; rw [if_pos he, hs]))
            obtain ⟨kh, hkh⟩ : ∃ kh, kh = k / h := ⟨_, rfl⟩
            have hdv : (k : Int).tdiv (h : Int) = (kh : Int) := by rw [hkh, Int.tdiv_eq_ediv_of_nonneg (Int.natCast_nonneg k)]; exact (Int.natCast_ediv k h).symm
            have hkl : kh < 32 := by rw [hkh]; exact Nat.lt_of_le_of_lt (Nat.div_le_self _ _) (by omega)
            have hmd : (kh : Int).tmod 2 = 0 := by rw [Int.tmod_eq_emod_of_nonneg (Int.natCast_nonneg kh)]; rw [← hkh] at he; omega
            have hnz : ((h : Int) == 0) = false := by simp; omega
            clear hkh
            generalize F k = x at hc1 HN
            generalize F s = y at hc2 HN
            clear hs he
            go_wp2
            go_region
            all_goals
              go_wp2
              exact ⟨⟨k + 1, _, by omega, by first | rfl | go_num | (congr 1), rfl, by first | exact HN | exact Lib.hid (pm_drew HN.out _) | exact Lib.hid (pm_drew1 HN.out)⟩, by show n - ((k : Int) + 1).toNat < n - (k : Int).toNat; omega⟩
          · have HN : Hid (PM wr gg (.bl n F) (.bl n (tnP h F)) (k + 1) wi) := Lib.hid (HM.out.skip (by show Value.bool (tnP h F k) = Value.bool (F k); unfold tnP; rw [if_neg he]))
            obtain ⟨kh, hkh⟩ : ∃ kh, kh = k / h := ⟨_, rfl⟩
            have hdv : (k : Int).tdiv (h : Int) = (kh : Int) := by rw [hkh, Int.tdiv_eq_ediv_of_nonneg (Int.natCast_nonneg k)]; exact (Int.natCast_ediv k h).symm
            have hkl : kh < 32 := by rw [hkh]; exact Nat.lt_of_le_of_lt (Nat.div_le_self _ _) (by omega)
            have hmd : (kh : Int).tmod 2 = 1 := by rw [Int.tmod_eq_emod_of_nonneg (Int.natCast_nonneg kh)]; rw [← hkh] at he; omega
            have hnz : ((h : Int) == 0) = false := by simp; omega
            clear hkh
            clear he
            go_wp2
            exact ⟨⟨k + 1, _, by omega, by first | rfl | go_num | (congr 1), rfl, HN⟩, by show n - ((k : Int) + 1).toNat < n - (k : Int).toNat; omega⟩
        · obtain rfl : k = n := by omega
          go_wp2
          exact ⟨⟨t, h2, _, _, by have := HT.out; omega, hh2l, rfl, rfl, HH2, Lib.hid (HM.out.bcl hgl rfl), Lib.hid (by rw [← HT0.out, HHH.out]; rfl), Lib.hid (HW.out.trans (HM.out.2.2.2 _ HGB.out))⟩, by show (h2 : Int).toNat < (h : Int).toNat; omega⟩
set_option maxRecDepth 100000 in
set_option maxHeartbeats 4000000 in
theorem pt_spec (a : Option Addr) (n cap : Nat) (f : Nat → Bool) (w : World) (ha : BRow w a n f) (_ : n ≤ 1048576) (hok : ptB n = true) :
    Calls Try.prog 48 #[.slice a n cap] w fun e w' => ∃ g cp, e = .returned (.tuple #[.slice (some ⟨g, 0, none⟩) n cp, .bool true]) ∧ New w w' g (.bl n (tnF n.log2 f)) := by
  have HX := Lib.hid (tn_spec a n cap f w ha hok)
  obtain ⟨p, hp5, hn2⟩ := pt_out hok
  have HN2 := Lib.hid hn2
  clear ha hok hn2
  go_enter Try.func48, Try.ntmps48
  go_wp2
  go_loop [5] (fun iv => ∃ k : Nat, k ≤ p ∧ iv = .int .i64 k) (fun iv => p - (intOf iv).toNat)
  case atStart => exact ⟨0, by omega, rfl⟩
  case round =>
    obtain ⟨k, hk, rfl⟩ := hrel
    have hmin : min k 64 = k := by omega
    have hp2 := p2_16 (m := k) (by omega)
    have hwr : IntKind.i64.wrap ((2 : Int) ^ k) = 2 ^ k := IntWalk.i64_in _ (by omega)
    by_cases hlt : k = p
    · subst hlt
      have heq : ((n : Int) == 2 ^ k) = true := by rw [HN2.out]; simp
      have heq2 : (n : Int) = 2 ^ k := by simpa using heq
      have HE2 := Lib.hid heq2
      clear heq2
      go_wp2_with (first | (go_at_call 82; refine HX.out.mono ?_; rintro e w2 ⟨g, cp, rfl, hn⟩; have HN := Lib.hid hn; clear hn) | fail)
      exact bodyPost_ret (v := .tuple #[.slice (some ⟨g, 0, none⟩) n cp, .bool true]) (by simp [results, Try.results48, go_sem]) rfl ⟨g, cp, rfl, HN.out⟩
    · have hne : ¬ (n : Int) = 2 ^ k := fun e => hlt (by
        rw [HN2.out] at e
        have e2 : (2 : Nat) ^ p = 2 ^ k := by exact_mod_cast e
        have := congrArg Nat.log2 e2
        rw [pt_log, pt_log] at this
        exact this.symm)
      have heq : ((n : Int) == 2 ^ k) = false := by simpa using hne
      go_wp2
      go_round
      case rel => exact ⟨k + 1, by omega, by go_num⟩
      case measure => simp [intOf]; omega
set_option maxRecDepth 100000 in
set_option maxHeartbeats 4000000 in
theorem pt_specN (a : Option Addr) (n cap : Nat) (f : Nat → Bool) (w : World) (_ : BRow w a n f) (hn : n ≤ 1048576) (hok : ptB n = false) :
    Calls Try.prog 48 #[.slice a n cap] w fun e w' => e = .returned (.tuple #[.slice none 0 0, .bool false]) ∧ Below w.heap.size w w' := by
  have HNO := Lib.hid (pt_no hok)
  have _ := hn
  clear hok
  go_enter Try.func48, Try.ntmps48
  go_wp2
  go_loop [5] (fun iv => ∃ k : Nat, k ≤ 6 ∧ iv = .int .i64 k) (fun iv => 6 - (intOf iv).toNat)
  case atStart => exact ⟨0, by omega, rfl⟩
  case round =>
    obtain ⟨k, hk, rfl⟩ := hrel
    by_cases hlt : k ≤ 5
    · have hmin : min k 64 = k := by omega
      have hp2 := p2_16 (m := k) (by omega)
      have hwr : IntKind.i64.wrap ((2 : Int) ^ k) = 2 ^ k := IntWalk.i64_in _ (by omega)
      have hne : ¬ (n : Int) = 2 ^ k := fun e => HNO.out k hlt (by exact_mod_cast e)
      have heq : ((n : Int) == 2 ^ k) = false := by simpa using hne
      go_wp2
      go_round
      case rel => exact ⟨k + 1, by omega, by go_num⟩
      case measure => simp [intOf]; omega
    · obtain rfl : k = 6 := by omega
      go_wp2
      exact bodyPost_ret (v := .tuple #[.slice none 0 0, .bool false]) (by simp [results, Try.results48, go_sem]) rfl ⟨rfl, Below.refl _ _⟩
set_option maxRecDepth 100000 in
set_option maxHeartbeats 8000000 in
theorem pt_impl (a : Option Addr) (n cap : Nat) (f : Nat → Bool) (w : World) (ha : BRow w a n f) (hn : n ≤ 1048576) (hok : ptB n = true) :
    Calls Try.prog 49 #[.slice a n cap] w fun e w' => ∃ g cp, e = .returned (.tuple #[.slice (some ⟨g, 0, none⟩) n cp, .bool true]) ∧ New w w' g (.bl n (tnF n.log2 f)) := by
  obtain ⟨p, hp5, hn2⟩ := pt_out hok
  have hle := pt_le hp5
  rw [← hn2] at hle
  have HP5 := Lib.hid hp5
  have HN2 := Lib.hid hn2
  have hlg : n.log2 = p := by rw [hn2, pt_log]
  rw [hlg]
  obtain ⟨H0, hH⟩ : ∃ H0, H0 = n / 2 := ⟨_, rfl⟩
  have HH0 : Hid (H0 = 2 ^ p / 2) := Lib.hid (by rw [hH, hn2])
  have hH1 : H0 < 32 := by omega
  have hH2 : (n : Int).tdiv 2 = (H0 : Int) := by rw [Int.tdiv_eq_ediv_of_nonneg (by omega)]; omega
  obtain ⟨hn1, hn32⟩ := hle
  obtain ⟨b, o, rfl, _⟩ := ha.cell (k := 0) (by omega)
  have HWT : Hid (∀ W, Calls Try.prog 83 #[.int .i64 (n : Int)] W fun e w' => e = .returned (.int .i64 1) ∧ W = w') := Lib.hid (fun W => by
    have := wo_impl n W (by omega)
    rw [show wt n = 1 by rw [hn2]; exact pt_wt hp5] at this
    exact this)
  have HCL := Lib.hid (clone_implB b o n cap f w ha hn1 (by omega))
  clear ha hok hlg hH hn2 hp5
  go_enter Try.func49, Try.ntmps49
  go_wp2_with (first | (go_at_call 83; refine (HWT.out _).mono ?_; rintro e w' ⟨rfl, rfl⟩) | (go_at_call 84; refine HCL.out.mono ?_; rintro e w1 ⟨g, cp, rfl, hnew⟩; have HNEW := Lib.hid hnew; clear hnew) | fail)
  have HGB : Hid (w.heap.size ≤ g) := Lib.hid HNEW.out.1
  have HB0 : Hid (BCl w1 g n f) := Lib.hid ⟨HNEW.out.2.1, HNEW.out.2.2.1⟩
  have HW0 : Hid (Below w.heap.size w w1) := Lib.hid HNEW.out.2.2.2
  clear HNEW HCL HWT
  go_loopw [5] (fun hv w' => ∃ (q h : Nat) (F : Nat → Bool) (wr : World), q ≤ p ∧ h < 32 ∧ hv = .int .i64 (h : Int) ∧ wr = w' ∧ Hid (h = 2 ^ q / 2) ∧ Hid (BCl wr g n F) ∧ Hid (tnF q F = tnF p f) ∧ Hid (Below w.heap.size w wr)) (fun hv _ => (intOf hv).toNat)
  case atStart => exact ⟨p, H0, _, _, Nat.le_refl _, hH1, rfl, rfl, HH0, HB0, Lib.hid rfl, HW0⟩
  case round =>
    obtain ⟨q, h, F, wr, hq, hh, rfl, rfl, HH, HB, HT0, HW⟩ := hrel
    clear HB0 HW0 HH0
    by_cases hq0 : q = 0
    · have h0 : h = 0 := by rw [HH.out, hq0]
      subst h0
      have HR : Hid (F = tnF p f) := Lib.hid (by have := HT0.out; rw [hq0] at this; exact this)
      go_wp2
      exact bodyPost_ret (v := .tuple #[.slice (some ⟨g, 0, none⟩) n cp, .bool true]) (by simp [results, Try.results49, go_sem]) rfl ⟨g, cp, rfl, HGB.out, HB.out.1, by rw [← HR.out]; exact HB.out.2, HW.out⟩
    · obtain ⟨t, rfl⟩ : ∃ t, q = t + 1 := ⟨q - 1, by omega⟩
      have HHH : Hid (h = 2 ^ t) := Lib.hid (by rw [HH.out, pt_half])
      have HT : Hid (t < p) := Lib.hid (by omega)
      have h1 : 1 ≤ h := by rw [HHH.out]; exact Nat.two_pow_pos t
      obtain ⟨h2, hh2⟩ : ∃ h2, h2 = h / 2 := ⟨_, rfl⟩
      have HH2 : Hid (h2 = 2 ^ t / 2) := Lib.hid (by rw [hh2, HHH.out])
      have hdd : (h : Int).tdiv 2 = (h2 : Int) := by rw [Int.tdiv_eq_ediv_of_nonneg (by omega)]; omega
      have hd1 : decide ((1 : Int) ≤ (h : Int)) = true := decide_eq_true (by omega)
      have hh2l : h2 < 32 := by omega
      have hh2m : h2 < h := by omega
      have hgl : g < wr.heap.size := HB.out.1
      have HP0 := Lib.hid (PM.start (.bl n (tnP h F)) HB.out.2)
      clear hh2 hq hq0
      go_wp2
      go_loopw [27] (fun iv w' => ∃ (k : Nat) (wi : World), k ≤ n ∧ iv = .int .i64 k ∧ wi = w' ∧ Hid (PM wr g (.bl n F) (.bl n (tnP h F)) k wi)) (fun iv _ => n - (intOf iv).toNat)
      case atStart => exact ⟨0, _, by omega, rfl, rfl, HP0⟩
      case round =>
        obtain ⟨k, wi, hk, rfl, rfl, HM⟩ := hrel
        by_cases hlt : k < n
        · by_cases he : (k / h) % 2 = 0
          · obtain ⟨s, hs⟩ : ∃ s, s = k + h := ⟨_, rfl⟩
            have hsn : s < n := by
              have := pt_in HP5.out HT.out (by rw [← HN2.out]; exact hlt) (by rw [← HHH.out]; exact he)
              rw [← HHH.out, ← HN2.out] at this; omega
            have hsum : (k : Int) + (h : Int) = (s : Int) := by omega
            have hc1 := (HM.out.same hlt (Nat.le_refl _)).1
            have hfz := (HM.out.same hlt (Nat.le_refl _)).2
            have hc2 := (HM.out.same hsn (by omega)).1
            have HN : Hid (PM wr g (.bl n F) (.bl n (tnP h F)) (k + 1) (wi.setCell ⟨g, k, none⟩ (.bool (F k != F s)))) := Lib.hid (HM.out.step hlt _ (by show _ = Value.bool (tnP h F k); unfold tnP; rw [if_pos he, hs]))
            have hand : bits .and .i64 (k : Int) (h : Int) = 0 := by rw [HHH.out, pt_and (by have := HT.out; have := HP5.out; omega) (by omega), if_pos (by rw [← HHH.out]; exact he)]
            generalize F k = x at hc1 HN
            generalize F s = y at hc2 HN
            clear hs he
            go_wp2
            go_region
            all_goals
              go_wp2
              exact ⟨⟨k + 1, _, by omega, by first | rfl | go_num | (congr 1), rfl, by first | exact HN | exact Lib.hid (pm_drew HN.out _) | exact Lib.hid (pm_drew1 HN.out)⟩, by show n - ((k : Int) + 1).toNat < n - (k : Int).toNat; omega⟩
          · have HN : Hid (PM wr g (.bl n F) (.bl n (tnP h F)) (k + 1) wi) := Lib.hid (HM.out.skip (by show Value.bool (tnP h F k) = Value.bool (F k); unfold tnP; rw [if_neg he]))
            have hand : bits .and .i64 (k : Int) (h : Int) = (h : Int) := by rw [HHH.out, pt_and (by have := HT.out; have := HP5.out; omega) (by omega), if_neg (by rw [← HHH.out]; exact he)]
            have hnz : ((h : Int) == 0) = false := by simp; omega
            clear he
            go_wp2
            exact ⟨⟨k + 1, _, by omega, by first | rfl | go_num | (congr 1), rfl, HN⟩, by show n - ((k : Int) + 1).toNat < n - (k : Int).toNat; omega⟩
        · obtain rfl : k = n := by omega
          go_wp2
          exact ⟨⟨t, h2, _, _, by have := HT.out; omega, hh2l, rfl, rfl, HH2, Lib.hid (HM.out.bcl hgl rfl), Lib.hid (by rw [← HT0.out, HHH.out]; rfl), Lib.hid (HW.out.trans (HM.out.2.2.2 _ HGB.out))⟩, by show (h2 : Int).toNat < (h : Int).toNat; omega⟩
set_option maxRecDepth 100000 in
set_option maxHeartbeats 4000000 in
theorem pt_implN (a : Option Addr) (n cap : Nat) (f : Nat → Bool) (w : World) (_ : BRow w a n f) (hn : n ≤ 1048576) (hok : ptB n = false) :
    Calls Try.prog 49 #[.slice a n cap] w fun e w' => e = .returned (.tuple #[.slice none 0 0, .bool false]) ∧ Below w.heap.size w w' := by
  have HNO := Lib.hid hok
  clear hok
  by_cases h16 : n < 65536
  · have HWT := Lib.hid (fun W => wo_impl n W h16)
    by_cases hw1 : wt n = 1
    · have h32 := pt_wn HNO.out hw1
      have d1 : decide ((32 : Int) < (n : Int)) = true := decide_eq_true (by omega)
      rw [hw1] at HWT
      clear hw1
      go_enter Try.func49, Try.ntmps49
      go_wp2_with (first | (go_at_call 83; refine (HWT.out _).mono ?_; rintro e w' ⟨rfl, hw⟩; subst hw) | fail)
      exact bodyPost_ret (v := .tuple #[.slice none 0 0, .bool false]) (by simp [results, Try.results49, go_sem]) rfl ⟨rfl, Below.refl _ _⟩
    · have hne : ((wt n : Int) == 1) = false := by simp; omega
      have hne2 : ((wt n : Int) != 1) = true := by simp; omega
      generalize wt n = u at HWT hne hne2 hw1
      clear hw1
      go_enter Try.func49, Try.ntmps49
      go_wp2_with (first | (go_at_call 83; refine (HWT.out _).mono ?_; rintro e w' ⟨rfl, hw⟩; subst hw) | fail)
      exact bodyPost_ret (v := .tuple #[.slice none 0 0, .bool false]) (by simp [results, Try.results49, go_sem]) rfl ⟨rfl, Below.refl _ _⟩
  · have HWT := Lib.hid (fun W => wo_any (n : Int) W)
    have d1 : decide ((32 : Int) < (n : Int)) = true := decide_eq_true (by omega)
    go_enter Try.func49, Try.ntmps49
    go_wp2_with (first | (go_at_call 83; refine (HWT.out _).mono ?_; rintro e w' ⟨⟨r, rfl⟩, hw⟩; subst hw) | fail)
    all_goals
      exact bodyPost_ret (v := .tuple #[.slice none 0 0, .bool false]) (by simp [results, Try.results49, go_sem]) rfl ⟨rfl, Below.refl _ _⟩
end Go.Proofs.Ytmfegjflaajkkaa
