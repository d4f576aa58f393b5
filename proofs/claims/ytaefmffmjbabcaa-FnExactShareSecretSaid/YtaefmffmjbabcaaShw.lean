
/- Shares: ShareSecret, the functions. -/
import Derived.Test.YtaefmffmjbabcaaShv
import Derived.Laws.OwnMore
set_option linter.unusedVariables false
namespace Go.Proofs.Ytaefmffmjbabcaa
open Go.Proofs.Ytaefmffmjbabcaa.Flo Go.RowKit

theorem cc_one (B : Nat) (ba s : Nat) (x : Int) (n cap N : Nat) (a : Option Addr) (zs : List Int) (w : World) (ha : IRow w (some ⟨ba, 0, none⟩) 1 [x]) (hz : IRow w a n zs) (hBl : B < w.heap.size) (hc0 : w.cell? ⟨B, 0, none⟩ = some (.slice (some ⟨ba, 0, none⟩) 1 1)) (hc1 : w.cell? ⟨B, 1, none⟩ = some (.slice a n cap)) (hn : n ≤ 1048576) (hN : N = 1 + n) :
    Calls Try.prog 69 #[.slice (some ⟨B, 0, none⟩) 2 2] w fun e w' => ∃ g cp, e = .returned (.slice (some ⟨g, 0, none⟩) N cp) ∧ New w w' g (.il N (x :: zs)) := by
  subst hN
  exact cc_I B ba 0 1 1 [x] a n cap zs w ha hz hBl hc0 hc1 (by omega) hn
theorem ss_pre (w : World) (x : Int) (a : Option Addr) (n cap : Nat) (zs : List Int) (T T2 : TypeId) (hb : IRow w a n zs) :
    IRow ((w.alloc (.cells #[.int .i64 x] T)).alloc (.cells #[.slice (some ⟨w.heap.size, 0, none⟩) 1 1, .slice a n cap] T2)) (some ⟨w.heap.size, 0, none⟩) 1 [x] ∧
    IRow ((w.alloc (.cells #[.int .i64 x] T)).alloc (.cells #[.slice (some ⟨w.heap.size, 0, none⟩) 1 1, .slice a n cap] T2)) a n zs ∧
    w.heap.size + 1 < ((w.alloc (.cells #[.int .i64 x] T)).alloc (.cells #[.slice (some ⟨w.heap.size, 0, none⟩) 1 1, .slice a n cap] T2)).heap.size ∧
    ((w.alloc (.cells #[.int .i64 x] T)).alloc (.cells #[.slice (some ⟨w.heap.size, 0, none⟩) 1 1, .slice a n cap] T2)).cell? ⟨w.heap.size + 1, 0, none⟩ = some (.slice (some ⟨w.heap.size, 0, none⟩) 1 1) ∧
    ((w.alloc (.cells #[.int .i64 x] T)).alloc (.cells #[.slice (some ⟨w.heap.size, 0, none⟩) 1 1, .slice a n cap] T2)).cell? ⟨w.heap.size + 1, 1, none⟩ = some (.slice a n cap) ∧
    Below w.heap.size w ((w.alloc (.cells #[.int .i64 x] T)).alloc (.cells #[.slice (some ⟨w.heap.size, 0, none⟩) 1 1, .slice a n cap] T2)) := by
  have hbe : Below w.heap.size w ((w.alloc (.cells #[.int .i64 x] T)).alloc (.cells #[.slice (some ⟨w.heap.size, 0, none⟩) 1 1, .slice a n cap] T2)) := Below.alloc (below_alloc _ _) (by simp) _
  refine ⟨⟨rfl, .inr ⟨w.heap.size, 0, rfl, by simp; omega, fun i hi => ?_⟩⟩, hb.below hbe, by simp, ?_, ?_, hbe⟩
  · obtain rfl : i = 0 := by omega
    rw [World.cell?_alloc_past _ _ _ (by simp), World.cell?_alloc_at _ _ _ _ rfl]; rfl
  · rw [World.cell?_alloc_at _ _ _ _ (by simp)]; rfl
  · rw [World.cell?_alloc_at _ _ _ _ (by simp)]; rfl
set_option maxRecDepth 100000 in
set_option maxHeartbeats 4000000 in
theorem ssIN (p s : Int) (a : Option Addr) (n cap : Nat) (zs : List Int) (c : Int) (w : World) (h : IRow w a n zs) (hn : n ≤ 1048576) (hok : voB p (s :: zs) (1 + n) c = false) : Calls Try.prog 26 #[.int .i64 p, .int .i64 s, .slice a n cap, .int .i64 c] w fun e w' => e = .returned (.tuple #[.slice none 0 0, .bool false]) ∧ Below w.heap.size w w' := by
  obtain ⟨N, hN⟩ : ∃ N, N = 1 + n := ⟨_, rfl⟩
  rw [← hN] at hok
  have HN := Lib.hid hN
  have HP := Lib.hid (ss_pre w s a n cap zs 2 22 h)
  have hN1 : 1 ≤ N ∧ N ≤ 1048577 := by omega
  clear hN h
  have hcase : (prB p && letB (s :: zs) N p) = false ∨ ((prB p && letB (s :: zs) N p) = true ∧ 8 < N) ∨ ((prB p && letB (s :: zs) N p) = true ∧ N ≤ 8 ∧ shcB p c = false) := by
    cases h1 : prB p with
    | false => exact .inl rfl
    | true =>
      cases h2 : nuB p (s :: zs) N with
      | false =>
        rcases nu_let h2 with h3 | ⟨h3, h4⟩ | ⟨h3, h4⟩
        · left; rw [h3]; rfl
        · omega
        · right; left; rw [h3]; exact ⟨rfl, h4⟩
      | true =>
        obtain ⟨h3, h4⟩ := let_nu h2
        right; right
        rw [h3]
        refine ⟨rfl, h4.2, ?_⟩
        unfold voB at hok
        rw [h1, h2] at hok
        simpa using hok
  rcases hcase with h1 | ⟨h1, h2⟩ | ⟨h1, h2, hc⟩
  · skip
    have HAN : Hid (∀ w2 g cp, IRow w2 (some ⟨g, 0, none⟩) N (s :: zs) → Calls Try.prog 70 #[.int .i64 p, .slice (some ⟨g, 0, none⟩) N cp] w2 fun e w' => e = .returned (.bool false) ∧ w2 = w') := Lib.hid (fun w2 g cp hh => by have := an_impl p (some ⟨g, 0, none⟩) N cp (s :: zs) w2 hh (by omega); rw [h1] at this; exact this)
    go_enter Try.func26, Try.ntmps26
    go_wp2_with (first | (go_at_call 69; obtain ⟨p1, p2, p3, p4, p5, p6⟩ := HP.out; (with_reducible refine (cc_one (w.heap.size + 1) w.heap.size 0 s n cap N a zs _ p1 p2 p3 p4 p5 hn HN.out).mono ?_); rintro e w3 ⟨g, cp, rfl, hg⟩; have HA := Lib.hid (ICl.of hg).row; have HW3 := Lib.hid (Below.next p6 hg.2.2.2); clear p1 p2 p3 p4 p5 p6 hg) | (go_at_call 70; (with_reducible refine (HAN.out _ _ _ HA.out).mono ?_); rintro e w' ⟨rfl, hw⟩; subst hw) | fail)
    exact bodyPost_ret (v := .tuple #[.slice none 0 0, .bool false]) (by simp [results, Try.results26, go_sem]) rfl ⟨rfl, HW3.out⟩
  · skip
    have HAN : Hid (∀ w2 g cp, IRow w2 (some ⟨g, 0, none⟩) N (s :: zs) → Calls Try.prog 70 #[.int .i64 p, .slice (some ⟨g, 0, none⟩) N cp] w2 fun e w' => e = .returned (.bool true) ∧ w2 = w') := Lib.hid (fun w2 g cp hh => by have := an_impl p (some ⟨g, 0, none⟩) N cp (s :: zs) w2 hh (by omega); rw [h1] at this; exact this)
    have d2 : decide ((8 : Int) < (N : Int)) = true := decide_eq_true (by omega)
    go_enter Try.func26, Try.ntmps26
    go_wp2_with (first | (go_at_call 69; obtain ⟨p1, p2, p3, p4, p5, p6⟩ := HP.out; (with_reducible refine (cc_one (w.heap.size + 1) w.heap.size 0 s n cap N a zs _ p1 p2 p3 p4 p5 hn HN.out).mono ?_); rintro e w3 ⟨g, cp, rfl, hg⟩; have HA := Lib.hid (ICl.of hg).row; have HW3 := Lib.hid (Below.next p6 hg.2.2.2); clear p1 p2 p3 p4 p5 p6 hg) | (go_at_call 70; (with_reducible refine (HAN.out _ _ _ HA.out).mono ?_); rintro e w' ⟨rfl, hw⟩; subst hw) | fail)
    exact bodyPost_ret (v := .tuple #[.slice none 0 0, .bool false]) (by simp [results, Try.results26, go_sem]) rfl ⟨rfl, HW3.out⟩
  · skip
    have HAN : Hid (∀ w2 g cp, IRow w2 (some ⟨g, 0, none⟩) N (s :: zs) → Calls Try.prog 70 #[.int .i64 p, .slice (some ⟨g, 0, none⟩) N cp] w2 fun e w' => e = .returned (.bool true) ∧ w2 = w') := Lib.hid (fun w2 g cp hh => by have := an_impl p (some ⟨g, 0, none⟩) N cp (s :: zs) w2 hh (by omega); rw [h1] at this; exact this)
    have d2 : decide ((8 : Int) < (N : Int)) = false := decide_eq_false (by omega)
    have HIC : Hid (∀ w2, Calls Try.prog 71 #[.int .i64 p, .int .i64 c] w2 fun e w' => e = .returned (.bool false) ∧ w2 = w') := Lib.hid (fun w2 => by have := ic_impl p c w2; rw [hc] at this; exact this)
    go_enter Try.func26, Try.ntmps26
    go_wp2_with (first | (go_at_call 69; obtain ⟨p1, p2, p3, p4, p5, p6⟩ := HP.out; (with_reducible refine (cc_one (w.heap.size + 1) w.heap.size 0 s n cap N a zs _ p1 p2 p3 p4 p5 hn HN.out).mono ?_); rintro e w3 ⟨g, cp, rfl, hg⟩; have HA := Lib.hid (ICl.of hg).row; have HW3 := Lib.hid (Below.next p6 hg.2.2.2); clear p1 p2 p3 p4 p5 p6 hg) | (go_at_call 70; (with_reducible refine (HAN.out _ _ _ HA.out).mono ?_); rintro e w' ⟨rfl, hw⟩; subst hw) | (go_at_call 71; (with_reducible refine (HIC.out _).mono ?_); rintro e w' ⟨rfl, hw⟩; subst hw) | fail)
    exact bodyPost_ret (v := .tuple #[.slice none 0 0, .bool false]) (by simp [results, Try.results26, go_sem]) rfl ⟨rfl, HW3.out⟩
set_option maxRecDepth 100000 in
set_option maxHeartbeats 4000000 in
theorem ssIY (p s : Int) (a : Option Addr) (n cap : Nat) (zs : List Int) (c : Int) (w : World) (h : IRow w a n zs) (hn : n ≤ 1048576) (hok : voB p (s :: zs) (1 + n) c = true) : Calls Try.prog 26 #[.int .i64 p, .int .i64 s, .slice a n cap, .int .i64 c] w fun e w' => ∃ g cp, e = .returned (.tuple #[.slice (some ⟨g, 0, none⟩) c.toNat cp, .bool true]) ∧ New w w' g (.il c.toNat (vfL p (fun k => (s :: zs).getD k 0) 1 c.toNat)) := by
  have hl : (s :: zs).length = 1 + n := by rw [List.length_cons, h.1]; omega
  obtain ⟨N, hN⟩ : ∃ N, N = 1 + n := ⟨_, rfl⟩
  rw [← hN] at hok
  have HN := Lib.hid hN
  have HP := Lib.hid (ss_pre w s a n cap zs 2 22 h)
  have hN1 : 1 ≤ N ∧ N ≤ 1048577 := by omega
  rw [← hN] at hl
  clear hN h
  obtain ⟨hp, ⟨hz, _, hn8⟩, hc1, hc8, hcp⟩ := voB_yes hok
  obtain ⟨m, rfl⟩ : ∃ m : Nat, c = (m : Int) := ⟨c.toNat, by omega⟩
  rw [Int.toNat_natCast]
  have h1 : (prB p && letB (s :: zs) N p) = true := by
    rw [hp]; unfold letB; rw [decide_eq_true hz, decide_eq_true (by omega : N ≤ 512)]; rfl
  have hc : shcB p (m : Int) = true := decide_eq_true ⟨hc1, hc8, hcp⟩
  have HAN : Hid (∀ w2 g cp, IRow w2 (some ⟨g, 0, none⟩) N (s :: zs) → Calls Try.prog 70 #[.int .i64 p, .slice (some ⟨g, 0, none⟩) N cp] w2 fun e w' => e = .returned (.bool true) ∧ w2 = w') := Lib.hid (fun w2 g cp hh => by have := an_impl p (some ⟨g, 0, none⟩) N cp (s :: zs) w2 hh (by omega); rw [h1] at this; exact this)
  have HIC : Hid (∀ w2, Calls Try.prog 71 #[.int .i64 p, .int .i64 (m : Int)] w2 fun e w' => e = .returned (.bool true) ∧ w2 = w') := Lib.hid (fun w2 => by have := ic_impl p (m : Int) w2; rw [hc] at this; exact this)
  have HPO : Hid (∀ w2 g cp, IRow w2 (some ⟨g, 0, none⟩) N (s :: zs) → Calls Try.prog 72 #[.slice (some ⟨g, 0, none⟩) N cp] w2 fun e w' => e = .returned (.agg (a8 (fun k => (s :: zs).getD k 0))) ∧ Below w2.heap.size w2 w') := Lib.hid (fun w2 g cp hh => po_impl g 0 N cp (s :: zs) w2 hh ⟨hN1.1, hn8⟩)
  have HVF : Hid (∀ w2, Calls Try.prog 73 #[.agg (a8 (fun k => (s :: zs).getD k 0)), .int .i64 p, .int .i64 1, .int .i64 (m : Int)] w2 fun e w' => ∃ g cp, e = .returned (.slice (some ⟨g, 0, none⟩) m cp) ∧ New w2 w' g (.il m (vfL p (fun k => (s :: zs).getD k 0) 1 m))) := Lib.hid (fun w2 => vf_impl p 1 m (fun k => (s :: zs).getD k 0) w2 (pr_le hp) (by decide) (by omega) (t_in (pr_le hp) hl hz))
  have d2 : decide ((8 : Int) < (N : Int)) = false := decide_eq_false (by omega)
  generalize a8 (fun k => (s :: zs).getD k 0) = T8 at HPO HVF
  go_enter Try.func26, Try.ntmps26
  go_wp2_with (first | (go_at_call 69; obtain ⟨p1, p2, p3, p4, p5, p6⟩ := HP.out; (with_reducible refine (cc_one (w.heap.size + 1) w.heap.size 0 s n cap N a zs _ p1 p2 p3 p4 p5 hn HN.out).mono ?_); rintro e w3 ⟨g, cp, rfl, hg⟩; have HA := Lib.hid (ICl.of hg).row; have HW3 := Lib.hid (Below.next p6 hg.2.2.2); clear p1 p2 p3 p4 p5 p6 hg) | (go_at_call 70; (with_reducible refine (HAN.out _ _ _ HA.out).mono ?_); rintro e w' ⟨rfl, hw⟩; subst hw) | (go_at_call 71; (with_reducible refine (HIC.out _).mono ?_); rintro e w' ⟨rfl, hw⟩; subst hw) | (go_at_call 72; (with_reducible refine (HPO.out _ _ _ HA.out).mono ?_); rintro e w4 ⟨rfl, hb⟩; have HB := Lib.hid hb; clear hb) | (go_at_call 73; (with_reducible refine (HVF.out _).mono ?_); rintro e w5 ⟨g5, cp5, rfl, hg⟩; have HG := Lib.hid hg; clear hg) | fail)
  have HB9 := Lib.hid (Below.next HW3.out HB.out)
  exact bodyPost_ret (v := .tuple #[.slice (some ⟨g5, 0, none⟩) m cp5, .bool true]) (by simp [results, Try.results26, go_sem]) rfl ⟨_, _, rfl, Nat.le_trans HB9.out.size HG.out.1, HG.out.2.1, HG.out.2.2.1, Below.next HB9.out HG.out.2.2.2⟩
set_option maxRecDepth 100000 in
set_option maxHeartbeats 4000000 in
theorem ssSN0 (p s : Int) (a : Option Addr) (cap : Nat) (c : Int) (w : World) (hok : voB p [s] 1 c = false) : Calls Try.prog 24 #[.int .i64 p, .int .i64 s, .slice a 0 cap, .int .i64 c] w fun e w' => e = .returned (.tuple #[.slice none 0 0, .bool false]) ∧ Below w.heap.size w w' := by
  have HB00 := Lib.hid (below_alloc w (.cells #[.int .i64 s] 2))
  obtain ⟨i0, hi, hz0, hz1, hz2⟩ := info_parts Try.info64
  have HRN := Lib.hid (fun W ty => run_append_noneI (P := Try.prog) W 22 ty 2 i0 ⟨w.heap.size, 0, none⟩ 1 1 a cap (Nat.le_refl _) Try.underlying22 hi)
  have HR0 : Hid (IRow (w.alloc (.cells #[.int .i64 s] 2)) (some ⟨w.heap.size, 0, none⟩) 1 [s]) := Lib.hid ⟨rfl, .inr ⟨w.heap.size, 0, rfl, by simp, fun i hi => by obtain rfl : i = 0 := (by omega); rw [World.cell?_alloc_at _ _ _ _ rfl]; rfl⟩⟩
  rcases voB_no hok with h1 | ⟨h1, h2⟩ | ⟨h1, h2, h3⟩ | ⟨h1, h2, h3, h4⟩
  · skip
    have HPR : Hid (∀ w2, Calls Try.prog 65 #[.int .i64 p] w2 fun e w' => e = .returned (.bool false) ∧ Below w2.heap.size w2 w') := Lib.hid (fun w2 => by have := pr_spec p w2; rw [h1] at this; exact this)
    go_enter Try.func24, Try.ntmps24
    go_wp2_with (first | (at_builtin; refine Lib.wpList_append_run _ rfl _ _ _ _ rfl _ _ rfl rfl _ _ (HRN.out _ _) ?_; have HA := Lib.hid HR0.out; have HW3 := Lib.hid HB00.out; (have HLT0 : Hid (w.heap.size < (w.alloc (.cells #[.int .i64 s] 2)).heap.size) := Lib.hid (by simp))) | (go_at_call 65; (with_reducible refine (HPR.out _).mono ?_); rintro e w2 ⟨rfl, hb⟩; have HB := Lib.hid (Below.next HW3.out hb); have HLT := Lib.hid (Nat.lt_of_lt_of_le HLT0.out hb.size); replace HA := Lib.hid (HA.out.below hb); clear hb) | fail)
    exact bodyPost_ret (v := .tuple #[.slice none 0 0, .bool false]) (by simp [results, Try.results24, go_sem]) rfl ⟨rfl, HB.out⟩
  · skip
    have HPR : Hid (∀ w2, Calls Try.prog 65 #[.int .i64 p] w2 fun e w' => e = .returned (.bool true) ∧ Below w2.heap.size w2 w') := Lib.hid (fun w2 => by have := pr_spec p w2; rw [h1] at this; exact this)
    have HNU : Hid (∀ w2 g cp, IRow w2 (some ⟨g, 0, none⟩) 1 [s] → Calls Try.prog 66 #[.slice (some ⟨g, 0, none⟩) 1 cp, .int .i64 1, .int .i64 8, .int .i64 p] w2 fun e w' => e = .returned (.bool false) ∧ w2 = w') := Lib.hid (fun w2 g cp hh => by have := nu_spec p (some ⟨g, 0, none⟩) 1 cp [s] w2 hh (by omega); rw [h2] at this; exact this)
    go_enter Try.func24, Try.ntmps24
    go_wp2_with (first | (at_builtin; refine Lib.wpList_append_run _ rfl _ _ _ _ rfl _ _ rfl rfl _ _ (HRN.out _ _) ?_; have HA := Lib.hid HR0.out; have HW3 := Lib.hid HB00.out; (have HLT0 : Hid (w.heap.size < (w.alloc (.cells #[.int .i64 s] 2)).heap.size) := Lib.hid (by simp))) | (go_at_call 65; (with_reducible refine (HPR.out _).mono ?_); rintro e w2 ⟨rfl, hb⟩; have HB := Lib.hid (Below.next HW3.out hb); have HLT := Lib.hid (Nat.lt_of_lt_of_le HLT0.out hb.size); replace HA := Lib.hid (HA.out.below hb); clear hb) | (go_at_call 66; (with_reducible refine (HNU.out _ _ _ HA.out).mono ?_); rintro e w' ⟨rfl, hw⟩; subst hw) | fail)
    exact bodyPost_ret (v := .tuple #[.slice none 0 0, .bool false]) (by simp [results, Try.results24, go_sem]) rfl ⟨rfl, HB.out⟩
  · skip
    have HPR : Hid (∀ w2, Calls Try.prog 65 #[.int .i64 p] w2 fun e w' => e = .returned (.bool true) ∧ Below w2.heap.size w2 w') := Lib.hid (fun w2 => by have := pr_spec p w2; rw [h1] at this; exact this)
    have HNU : Hid (∀ w2 g cp, IRow w2 (some ⟨g, 0, none⟩) 1 [s] → Calls Try.prog 66 #[.slice (some ⟨g, 0, none⟩) 1 cp, .int .i64 1, .int .i64 8, .int .i64 p] w2 fun e w' => e = .returned (.bool true) ∧ w2 = w') := Lib.hid (fun w2 g cp hh => by have := nu_spec p (some ⟨g, 0, none⟩) 1 cp [s] w2 hh (by omega); rw [h2] at this; exact this)
    have HC := Lib.hid h3
    go_enter Try.func24, Try.ntmps24
    go_wp2_with (first | (at_builtin; refine Lib.wpList_append_run _ rfl _ _ _ _ rfl _ _ rfl rfl _ _ (HRN.out _ _) ?_; have HA := Lib.hid HR0.out; have HW3 := Lib.hid HB00.out; (have HLT0 : Hid (w.heap.size < (w.alloc (.cells #[.int .i64 s] 2)).heap.size) := Lib.hid (by simp))) | (go_at_call 65; (with_reducible refine (HPR.out _).mono ?_); rintro e w2 ⟨rfl, hb⟩; have HB := Lib.hid (Below.next HW3.out hb); have HLT := Lib.hid (Nat.lt_of_lt_of_le HLT0.out hb.size); replace HA := Lib.hid (HA.out.below hb); clear hb) | (go_at_call 66; (with_reducible refine (HNU.out _ _ _ HA.out).mono ?_); rintro e w' ⟨rfl, hw⟩; subst hw) | (go_at_call 67; (with_reducible refine (in_false c 1 8 _ HC.out).mono ?_); rintro e w' ⟨rfl, hw⟩; have hw := hw.symm; subst hw) | fail)
    exact bodyPost_ret (v := .tuple #[.slice none 0 0, .bool false]) (by simp [results, Try.results24, go_sem]) rfl ⟨rfl, HB.out⟩
  · skip
    have HPR : Hid (∀ w2, Calls Try.prog 65 #[.int .i64 p] w2 fun e w' => e = .returned (.bool true) ∧ Below w2.heap.size w2 w') := Lib.hid (fun w2 => by have := pr_spec p w2; rw [h1] at this; exact this)
    have HNU : Hid (∀ w2 g cp, IRow w2 (some ⟨g, 0, none⟩) 1 [s] → Calls Try.prog 66 #[.slice (some ⟨g, 0, none⟩) 1 cp, .int .i64 1, .int .i64 8, .int .i64 p] w2 fun e w' => e = .returned (.bool true) ∧ w2 = w') := Lib.hid (fun w2 g cp hh => by have := nu_spec p (some ⟨g, 0, none⟩) 1 cp [s] w2 hh (by omega); rw [h2] at this; exact this)
    have HC := Lib.hid h3
    have d9 : decide (p ≤ c) = true := decide_eq_true h4
    go_enter Try.func24, Try.ntmps24
    go_wp2_with (first | (at_builtin; refine Lib.wpList_append_run _ rfl _ _ _ _ rfl _ _ rfl rfl _ _ (HRN.out _ _) ?_; have HA := Lib.hid HR0.out; have HW3 := Lib.hid HB00.out; (have HLT0 : Hid (w.heap.size < (w.alloc (.cells #[.int .i64 s] 2)).heap.size) := Lib.hid (by simp))) | (go_at_call 65; (with_reducible refine (HPR.out _).mono ?_); rintro e w2 ⟨rfl, hb⟩; have HB := Lib.hid (Below.next HW3.out hb); have HLT := Lib.hid (Nat.lt_of_lt_of_le HLT0.out hb.size); replace HA := Lib.hid (HA.out.below hb); clear hb) | (go_at_call 66; (with_reducible refine (HNU.out _ _ _ HA.out).mono ?_); rintro e w' ⟨rfl, hw⟩; subst hw) | (go_at_call 67; (with_reducible refine (in_true c 1 8 _ HC.out.1 HC.out.2).mono ?_); rintro e w' ⟨rfl, hw⟩; have hw := hw.symm; subst hw) | fail)
    exact bodyPost_ret (v := .tuple #[.slice none 0 0, .bool false]) (by simp [results, Try.results24, go_sem]) rfl ⟨rfl, HB.out⟩
set_option maxRecDepth 100000 in
set_option maxHeartbeats 4000000 in
theorem ssSN1 (p s : Int) (bz oz : Nat) (n cap : Nat) (zs : List Int) (c : Int) (w : World) (h : IRow w (some ⟨bz, oz, none⟩) n zs) (hn : 1 ≤ n ∧ n ≤ 1048576) (hok : voB p (s :: zs) (1 + n) c = false) : Calls Try.prog 24 #[.int .i64 p, .int .i64 s, .slice (some ⟨bz, oz, none⟩) n cap, .int .i64 c] w fun e w' => e = .returned (.tuple #[.slice none 0 0, .bool false]) ∧ Below w.heap.size w w' := by
  obtain ⟨hn1, hn2⟩ := hn
  have HB00 := Lib.hid (below_alloc w (.cells #[.int .i64 s] 2))
  obtain ⟨i0, hi, hz0, hz1, hz2⟩ := info_parts Try.info64
  have HZ0 := Lib.hid (h.below HB00.out)
  have HLY := Lib.hid h.1
  have hlN : (s :: zs).length = 1 + n := by rw [List.length_cons, h.1]; omega
  have HO0 : Hid ((w.alloc (.cells #[.int .i64 s] 2)).ownsRow w.heap.size 2 1 (.slice (some ⟨w.heap.size, 0, none⟩) 1 1) 1 [.int .i64 s]) := Lib.hid (World.ownsRow_lit w #[.int .i64 s] 1 (Nat.le_refl _) (by unfold maxLen; omega) rfl)
  clear h
  rcases voB_no hok with h1 | ⟨h1, h2⟩ | ⟨h1, h2, h3⟩ | ⟨h1, h2, h3, h4⟩
  · skip
    have HPR : Hid (∀ w2, Calls Try.prog 65 #[.int .i64 p] w2 fun e w' => e = .returned (.bool false) ∧ Below w2.heap.size w2 w') := Lib.hid (fun w2 => by have := pr_spec p w2; rw [h1] at this; exact this)
    go_enter Try.func24, Try.ntmps24
    go_wp2_with (first | (at_builtin; refine wpList_append_lies _ rfl _ _ 22 rfl w.heap.size 2 i0 (.int .i64 0) 1 8 Try.underlying22 hi hz0 hz1 hz2 rfl (by omega) (.slice (some ⟨w.heap.size, 0, none⟩) 1 1) 1 [.int .i64 s] rfl HO0.out ⟨bz, oz, none⟩ n cap (zs.map (Value.int .i64)) rfl (by rw [List.length_map, Nat.mul_one]; exact HLY.out) (irow_news HZ0.out) (one_cellsI zs) (by omega) (by unfold maxLen; omega) (by omega) (by simp) (w.heap.size + 1) (by simp) ?_; intro gg cp w3 hown1 hgrow hat hlt3; have HW3 := Lib.hid (Below.grown HB00.out hgrow (by simp) (fun j hj => by simp [Value.ownBlock] at hj; omega)); obtain ⟨g8, cp8, e8, hnew⟩ := il_new (L := s :: zs) hown1 HW3.out (by omega); cases e8; have HA := Lib.hid (ICl.of hnew).row; have HLT0 := Lib.hid hnew.2.1; clear hnew hown1 hgrow hat hlt3) | (go_at_call 65; (with_reducible refine (HPR.out _).mono ?_); rintro e w2 ⟨rfl, hb⟩; have HB := Lib.hid (Below.next HW3.out hb); have HLT := Lib.hid (Nat.lt_of_lt_of_le HLT0.out hb.size); replace HA := Lib.hid (HA.out.below hb); clear hb) | fail)
    exact bodyPost_ret (v := .tuple #[.slice none 0 0, .bool false]) (by simp [results, Try.results24, go_sem]) rfl ⟨rfl, HB.out⟩
  · skip
    have HPR : Hid (∀ w2, Calls Try.prog 65 #[.int .i64 p] w2 fun e w' => e = .returned (.bool true) ∧ Below w2.heap.size w2 w') := Lib.hid (fun w2 => by have := pr_spec p w2; rw [h1] at this; exact this)
    have HNU : Hid (∀ w2 g cp, IRow w2 (some ⟨g, 0, none⟩) (1 + n) (s :: zs) → Calls Try.prog 66 #[.slice (some ⟨g, 0, none⟩) (1 + n) cp, .int .i64 1, .int .i64 8, .int .i64 p] w2 fun e w' => e = .returned (.bool false) ∧ w2 = w') := Lib.hid (fun w2 g cp hh => by have := nu_spec p (some ⟨g, 0, none⟩) (1 + n) cp (s :: zs) w2 hh (by omega); rw [h2] at this; exact this)
    go_enter Try.func24, Try.ntmps24
    go_wp2_with (first | (at_builtin; refine wpList_append_lies _ rfl _ _ 22 rfl w.heap.size 2 i0 (.int .i64 0) 1 8 Try.underlying22 hi hz0 hz1 hz2 rfl (by omega) (.slice (some ⟨w.heap.size, 0, none⟩) 1 1) 1 [.int .i64 s] rfl HO0.out ⟨bz, oz, none⟩ n cap (zs.map (Value.int .i64)) rfl (by rw [List.length_map, Nat.mul_one]; exact HLY.out) (irow_news HZ0.out) (one_cellsI zs) (by omega) (by unfold maxLen; omega) (by omega) (by simp) (w.heap.size + 1) (by simp) ?_; intro gg cp w3 hown1 hgrow hat hlt3; have HW3 := Lib.hid (Below.grown HB00.out hgrow (by simp) (fun j hj => by simp [Value.ownBlock] at hj; omega)); obtain ⟨g8, cp8, e8, hnew⟩ := il_new (L := s :: zs) hown1 HW3.out (by omega); cases e8; have HA := Lib.hid (ICl.of hnew).row; have HLT0 := Lib.hid hnew.2.1; clear hnew hown1 hgrow hat hlt3) | (go_at_call 65; (with_reducible refine (HPR.out _).mono ?_); rintro e w2 ⟨rfl, hb⟩; have HB := Lib.hid (Below.next HW3.out hb); have HLT := Lib.hid (Nat.lt_of_lt_of_le HLT0.out hb.size); replace HA := Lib.hid (HA.out.below hb); clear hb) | (go_at_call 66; (with_reducible refine (HNU.out _ _ _ HA.out).mono ?_); rintro e w' ⟨rfl, hw⟩; subst hw) | fail)
    exact bodyPost_ret (v := .tuple #[.slice none 0 0, .bool false]) (by simp [results, Try.results24, go_sem]) rfl ⟨rfl, HB.out⟩
  · skip
    have HPR : Hid (∀ w2, Calls Try.prog 65 #[.int .i64 p] w2 fun e w' => e = .returned (.bool true) ∧ Below w2.heap.size w2 w') := Lib.hid (fun w2 => by have := pr_spec p w2; rw [h1] at this; exact this)
    have HNU : Hid (∀ w2 g cp, IRow w2 (some ⟨g, 0, none⟩) (1 + n) (s :: zs) → Calls Try.prog 66 #[.slice (some ⟨g, 0, none⟩) (1 + n) cp, .int .i64 1, .int .i64 8, .int .i64 p] w2 fun e w' => e = .returned (.bool true) ∧ w2 = w') := Lib.hid (fun w2 g cp hh => by have := nu_spec p (some ⟨g, 0, none⟩) (1 + n) cp (s :: zs) w2 hh (by omega); rw [h2] at this; exact this)
    have HC := Lib.hid h3
    go_enter Try.func24, Try.ntmps24
    go_wp2_with (first | (at_builtin; refine wpList_append_lies _ rfl _ _ 22 rfl w.heap.size 2 i0 (.int .i64 0) 1 8 Try.underlying22 hi hz0 hz1 hz2 rfl (by omega) (.slice (some ⟨w.heap.size, 0, none⟩) 1 1) 1 [.int .i64 s] rfl HO0.out ⟨bz, oz, none⟩ n cap (zs.map (Value.int .i64)) rfl (by rw [List.length_map, Nat.mul_one]; exact HLY.out) (irow_news HZ0.out) (one_cellsI zs) (by omega) (by unfold maxLen; omega) (by omega) (by simp) (w.heap.size + 1) (by simp) ?_; intro gg cp w3 hown1 hgrow hat hlt3; have HW3 := Lib.hid (Below.grown HB00.out hgrow (by simp) (fun j hj => by simp [Value.ownBlock] at hj; omega)); obtain ⟨g8, cp8, e8, hnew⟩ := il_new (L := s :: zs) hown1 HW3.out (by omega); cases e8; have HA := Lib.hid (ICl.of hnew).row; have HLT0 := Lib.hid hnew.2.1; clear hnew hown1 hgrow hat hlt3) | (go_at_call 65; (with_reducible refine (HPR.out _).mono ?_); rintro e w2 ⟨rfl, hb⟩; have HB := Lib.hid (Below.next HW3.out hb); have HLT := Lib.hid (Nat.lt_of_lt_of_le HLT0.out hb.size); replace HA := Lib.hid (HA.out.below hb); clear hb) | (go_at_call 66; (with_reducible refine (HNU.out _ _ _ HA.out).mono ?_); rintro e w' ⟨rfl, hw⟩; subst hw) | (go_at_call 67; (with_reducible refine (in_false c 1 8 _ HC.out).mono ?_); rintro e w' ⟨rfl, hw⟩; have hw := hw.symm; subst hw) | fail)
    exact bodyPost_ret (v := .tuple #[.slice none 0 0, .bool false]) (by simp [results, Try.results24, go_sem]) rfl ⟨rfl, HB.out⟩
  · skip
    have HPR : Hid (∀ w2, Calls Try.prog 65 #[.int .i64 p] w2 fun e w' => e = .returned (.bool true) ∧ Below w2.heap.size w2 w') := Lib.hid (fun w2 => by have := pr_spec p w2; rw [h1] at this; exact this)
    have HNU : Hid (∀ w2 g cp, IRow w2 (some ⟨g, 0, none⟩) (1 + n) (s :: zs) → Calls Try.prog 66 #[.slice (some ⟨g, 0, none⟩) (1 + n) cp, .int .i64 1, .int .i64 8, .int .i64 p] w2 fun e w' => e = .returned (.bool true) ∧ w2 = w') := Lib.hid (fun w2 g cp hh => by have := nu_spec p (some ⟨g, 0, none⟩) (1 + n) cp (s :: zs) w2 hh (by omega); rw [h2] at this; exact this)
    have HC := Lib.hid h3
    have d9 : decide (p ≤ c) = true := decide_eq_true h4
    go_enter Try.func24, Try.ntmps24
    go_wp2_with (first | (at_builtin; refine wpList_append_lies _ rfl _ _ 22 rfl w.heap.size 2 i0 (.int .i64 0) 1 8 Try.underlying22 hi hz0 hz1 hz2 rfl (by omega) (.slice (some ⟨w.heap.size, 0, none⟩) 1 1) 1 [.int .i64 s] rfl HO0.out ⟨bz, oz, none⟩ n cap (zs.map (Value.int .i64)) rfl (by rw [List.length_map, Nat.mul_one]; exact HLY.out) (irow_news HZ0.out) (one_cellsI zs) (by omega) (by unfold maxLen; omega) (by omega) (by simp) (w.heap.size + 1) (by simp) ?_; intro gg cp w3 hown1 hgrow hat hlt3; have HW3 := Lib.hid (Below.grown HB00.out hgrow (by simp) (fun j hj => by simp [Value.ownBlock] at hj; omega)); obtain ⟨g8, cp8, e8, hnew⟩ := il_new (L := s :: zs) hown1 HW3.out (by omega); cases e8; have HA := Lib.hid (ICl.of hnew).row; have HLT0 := Lib.hid hnew.2.1; clear hnew hown1 hgrow hat hlt3) | (go_at_call 65; (with_reducible refine (HPR.out _).mono ?_); rintro e w2 ⟨rfl, hb⟩; have HB := Lib.hid (Below.next HW3.out hb); have HLT := Lib.hid (Nat.lt_of_lt_of_le HLT0.out hb.size); replace HA := Lib.hid (HA.out.below hb); clear hb) | (go_at_call 66; (with_reducible refine (HNU.out _ _ _ HA.out).mono ?_); rintro e w' ⟨rfl, hw⟩; subst hw) | (go_at_call 67; (with_reducible refine (in_true c 1 8 _ HC.out.1 HC.out.2).mono ?_); rintro e w' ⟨rfl, hw⟩; have hw := hw.symm; subst hw) | fail)
    exact bodyPost_ret (v := .tuple #[.slice none 0 0, .bool false]) (by simp [results, Try.results24, go_sem]) rfl ⟨rfl, HB.out⟩
theorem irow_kept {w w' : World} {g k N : Nat} {L : List Int} (h : IRow w (some ⟨g, 0, none⟩) N L) (hg : g < k) (hb : Below k w w') : IRow w' (some ⟨g, 0, none⟩) N L := by
  refine ⟨h.1, ?_⟩
  rcases h.2 with h0 | ⟨b, o, e, hl, hc⟩
  · exact .inl h0
  · refine .inr ⟨b, o, e, Nat.lt_of_lt_of_le hl hb.size, fun i hi => ?_⟩
    injection e with e
    injection e with e1 e2
    rw [hb.cell (p := ⟨b, o + i, none⟩) (by show b < k; omega)]
    exact hc i hi
set_option maxRecDepth 100000 in
set_option maxHeartbeats 4000000 in
theorem ssSY0 (p s : Int) (a : Option Addr) (cap m : Nat) (w : World) (hok : voB p [s] 1 (m : Int) = true) : Calls Try.prog 24 #[.int .i64 p, .int .i64 s, .slice a 0 cap, .int .i64 (m : Int)] w fun e w' => ∃ g cp, e = .returned (.tuple #[.slice (some ⟨g, 0, none⟩) m cp, .bool true]) ∧ New w w' g (.il m (vfL p (fun k => [s].getD k 0) 1 m)) := by
  have HB00 := Lib.hid (below_alloc w (.cells #[.int .i64 s] 2))
  obtain ⟨i0, hi, hz0, hz1, hz2⟩ := info_parts Try.info64
  have HRN := Lib.hid (fun W ty => run_append_noneI (P := Try.prog) W 22 ty 2 i0 ⟨w.heap.size, 0, none⟩ 1 1 a cap (Nat.le_refl _) Try.underlying22 hi)
  have HR0 : Hid (IRow (w.alloc (.cells #[.int .i64 s] 2)) (some ⟨w.heap.size, 0, none⟩) 1 [s]) := Lib.hid ⟨rfl, .inr ⟨w.heap.size, 0, rfl, by simp, fun i hi => by obtain rfl : i = 0 := (by omega); rw [World.cell?_alloc_at _ _ _ _ rfl]; rfl⟩⟩
  have hlN : [s].length = 1 := rfl
  obtain ⟨hp, ⟨hz, hnn1, hn8⟩, hc1, hc8, hcp⟩ := voB_yes hok
  have h1 := hp
  have h2 : nuB p [s] 1 = true := by unfold nuB; rw [decide_eq_true hz, decide_eq_true ⟨hnn1, hn8⟩]; rfl
  have HC : Hid (1 ≤ (m : Int) ∧ (m : Int) ≤ 8) := Lib.hid ⟨hc1, hc8⟩
  have d9 : decide (p ≤ (m : Int)) = false := decide_eq_false (by omega)
  have HPR : Hid (∀ w2, Calls Try.prog 65 #[.int .i64 p] w2 fun e w' => e = .returned (.bool true) ∧ Below w2.heap.size w2 w') := Lib.hid (fun w2 => by have := pr_spec p w2; rw [h1] at this; exact this)
  have HNU : Hid (∀ w2 g cp, IRow w2 (some ⟨g, 0, none⟩) 1 [s] → Calls Try.prog 66 #[.slice (some ⟨g, 0, none⟩) 1 cp, .int .i64 1, .int .i64 8, .int .i64 p] w2 fun e w' => e = .returned (.bool true) ∧ w2 = w') := Lib.hid (fun w2 g cp hh => by have := nu_spec p (some ⟨g, 0, none⟩) 1 cp [s] w2 hh (by omega); rw [h2] at this; exact this)
  have HVA : Hid (∀ (x : Int) g cp w2, 0 ≤ x ∧ x ≤ 257 → IRow w2 (some ⟨g, 0, none⟩) 1 [s] → Calls Try.prog 68 #[.int .i64 p, .slice (some ⟨g, 0, none⟩) 1 cp, .int .i64 x] w2 fun e w' => e = .returned (.int .i64 (Pol.ho p (fun k => [s].getD k 0) x 8 8)) ∧ w2 = w') := Lib.hid (fun x g cp w2 hx hh => by rw [vf_pad hn8 hlN]; exact va_spec p x (some ⟨g, 0, none⟩) 1 cp [s] w2 hh hn8 (pr_le hp) hx hz)
  generalize hT : (fun k => [s].getD k 0) = TT at HVA ⊢
  clear hT
  go_enter Try.func24, Try.ntmps24
  go_wp2_with (first | (at_builtin; refine Lib.wpList_append_run _ rfl _ _ _ _ rfl _ _ rfl rfl _ _ (HRN.out _ _) ?_; have HA := Lib.hid HR0.out; have HW3 := Lib.hid HB00.out; (have HLT0 : Hid (w.heap.size < (w.alloc (.cells #[.int .i64 s] 2)).heap.size) := Lib.hid (by simp))) | (go_at_call 65; (with_reducible refine (HPR.out _).mono ?_); rintro e w2 ⟨rfl, hb⟩; have HB := Lib.hid (Below.next HW3.out hb); have HLT := Lib.hid (Nat.lt_of_lt_of_le HLT0.out hb.size); replace HA := Lib.hid (HA.out.below hb); clear hb) | (go_at_call 66; (with_reducible refine (HNU.out _ _ _ HA.out).mono ?_); rintro e w' ⟨rfl, hw⟩; subst hw) | (go_at_call 67; (with_reducible refine (in_true _ 1 8 _ HC.out.1 HC.out.2).mono ?_); rintro e w' ⟨rfl, hw⟩; have hw := hw.symm; subst hw) | fail)
  have HE := Lib.hid (own_empty w2 2)
  have HBE := Lib.hid (Below.alloc HB.out HB.out.size (.cells #[] 2))
  have hsw := HB.out.size
  have hsz0 : w2.heap.size ≤ (w2.alloc (.cells #[] 2)).heap.size := by simp
  replace HA := Lib.hid (HA.out.alloc (.cells #[] 2))
  generalize (w2.alloc (.cells #[] 2)) = w9 at HE HBE HA hsz0 ⊢
  go_loopw [11, 12] (fun v0 iv wr0 => ∃ (k : Nat) (v : Value) (wr : World), k ≤ m ∧ v = v0 ∧ iv = .int .i64 ((k : Int) + 1) ∧ wr = wr0 ∧ Hid (wr.ownsRow w2.heap.size 2 1 v k ((vfL p TT 1 k).map (Value.int .i64))) ∧ Hid (Below w.heap.size w wr) ∧ Hid (Below w2.heap.size w9 wr)) (fun _ iv _ => m + 1 - (intOf iv).toNat)
  case atStart => exact ⟨0, _, _, by omega, rfl, by simp, rfl, HE, HBE, Lib.hid (Below.refl _ _)⟩
  case round =>
    obtain ⟨k, v, wr, hk, rfl, rfl, rfl, HO, HW, HV9⟩ := hrel
    by_cases hlt : k < m
    · have hm8 := HC.out.2
      have HX : Hid (∀ g cp w3, IRow w3 (some ⟨g, 0, none⟩) 1 [s] → Calls Try.prog 68 #[.int .i64 p, .slice (some ⟨g, 0, none⟩) 1 cp, .int .i64 ((k : Int) + 1)] w3 fun e w' => e = .returned (.int .i64 (Pol.ho p TT ((k : Int) + 1) 8 8)) ∧ w3 = w') := Lib.hid (fun g cp w3 hh => HVA.out ((k : Int) + 1) g cp w3 (by omega) hh)
      have HL := Lib.hid (vfL_on p TT 1 k)
      rw [show (1 : Int) + (k : Int) = (k : Int) + 1 by omega] at HL
      have HNE := Lib.hid (own_block HO.out)
      have hsz := HW.out.size
      have hszr := HV9.out.size
      have HAr := Lib.hid (irow_kept HA.out HLT.out HV9.out)
      have hwk : IntKind.i64.wrap ((k : Int) + 1) = (k : Int) + 1 := IntWalk.i64_in _ (by omega)
      have d5 : decide ((k : Int) + 1 ≤ (m : Int)) = true := decide_eq_true (by omega)
      have d6 : decide ((k : Int) < (m : Int)) = true := decide_eq_true (by omega)
      have hwk2 : IntKind.i64.wrap ((k : Int) + 1 + 1) = (k : Int) + 1 + 1 := IntWalk.i64_in _ (by omega)
      generalize Pol.ho p TT ((k : Int) + 1) 8 8 = y at HX HL
      go_wp2_with (first | (go_at_call 68; (with_reducible refine (HX.out _ _ _ HAr.out).mono ?_); rintro e w' ⟨rfl, hw⟩; subst hw) | (at_builtin; refine wpList_append_lies _ rfl _ _ 22 rfl (w2.heap.size) 2 i0 (.int .i64 0) 1 8 Try.underlying22 hi hz0 hz1 hz2 rfl (by omega) v k ((vfL p TT 1 k).map (Value.int .i64)) rfl (World.ownsRow.alloc HO.out _) ⟨wr.heap.size, 0, none⟩ 1 1 [.int .i64 y] rfl rfl (World.news_of_block (cs := #[.int .i64 y]) (t := 2) (fr := (0, 0)) (heap_alloc_new _ _)) (by simp [Value.oneCell']) (by omega) (by unfold maxLen; omega) (by omega) (by simp; omega) (wr.heap.size + 1) (by simp) ?_; intro gg cp w3 hown1 hgrow hat hlt2; have HO2 := Lib.hid hown1; have HG2 := Lib.hid hgrow; clear hown1 hgrow hat hlt2) | fail)
      exact ⟨⟨k + 1, _, _, by omega, rfl, by first | rfl | go_num | (congr 1), rfl, Lib.hid (by rw [HL.out]; exact HO2.out), Lib.hid (Below.grown (Below.alloc HW.out HW.out.size _) HG2.out (by simp; omega) (fun j hj => Nat.le_trans hsw (HNE.out j hj))), Lib.hid (Below.grown (Below.alloc HV9.out (by omega) _) HG2.out (by simp; omega) HNE.out)⟩, by show m + 1 - ((k : Int) + 1 + 1).toNat < m + 1 - ((k : Int) + 1).toNat; omega⟩
    · obtain rfl : k = m := by omega
      have d5 : decide ((k : Int) + 1 ≤ (k : Int)) = false := decide_eq_false (by omega)
      obtain ⟨g3, cp3, e, hnew⟩ := il_new (own_mono9 HO.out hsw) HW.out (by omega)
      subst e
      have HNW := Lib.hid hnew
      clear hnew HO
      go_wp2
      exact bodyPost_ret (v := .tuple #[.slice (some ⟨g3, 0, none⟩) k cp3, .bool true]) (by simp [results, Try.results24, go_sem]) rfl ⟨_, _, rfl, HNW.out⟩
set_option maxRecDepth 100000 in
set_option maxHeartbeats 4000000 in
theorem ssSY1 (p s : Int) (bz oz : Nat) (n cap : Nat) (zs : List Int) (m : Nat) (w : World) (h : IRow w (some ⟨bz, oz, none⟩) n zs) (hn : 1 ≤ n ∧ n ≤ 1048576) (hok : voB p (s :: zs) (1 + n) (m : Int) = true) : Calls Try.prog 24 #[.int .i64 p, .int .i64 s, .slice (some ⟨bz, oz, none⟩) n cap, .int .i64 (m : Int)] w fun e w' => ∃ g cp, e = .returned (.tuple #[.slice (some ⟨g, 0, none⟩) m cp, .bool true]) ∧ New w w' g (.il m (vfL p (fun k => (s :: zs).getD k 0) 1 m)) := by
  obtain ⟨hn1, hn2⟩ := hn
  have HB00 := Lib.hid (below_alloc w (.cells #[.int .i64 s] 2))
  obtain ⟨i0, hi, hz0, hz1, hz2⟩ := info_parts Try.info64
  have HZ0 := Lib.hid (h.below HB00.out)
  have HLY := Lib.hid h.1
  have hlN : (s :: zs).length = 1 + n := by rw [List.length_cons, h.1]; omega
  have HO0 : Hid ((w.alloc (.cells #[.int .i64 s] 2)).ownsRow w.heap.size 2 1 (.slice (some ⟨w.heap.size, 0, none⟩) 1 1) 1 [.int .i64 s]) := Lib.hid (World.ownsRow_lit w #[.int .i64 s] 1 (Nat.le_refl _) (by unfold maxLen; omega) rfl)
  clear h
  obtain ⟨hp, ⟨hz, hnn1, hn8⟩, hc1, hc8, hcp⟩ := voB_yes hok
  have h1 := hp
  have h2 : nuB p (s :: zs) (1 + n) = true := by unfold nuB; rw [decide_eq_true hz, decide_eq_true ⟨hnn1, hn8⟩]; rfl
  have HC : Hid (1 ≤ (m : Int) ∧ (m : Int) ≤ 8) := Lib.hid ⟨hc1, hc8⟩
  have d9 : decide (p ≤ (m : Int)) = false := decide_eq_false (by omega)
  have HPR : Hid (∀ w2, Calls Try.prog 65 #[.int .i64 p] w2 fun e w' => e = .returned (.bool true) ∧ Below w2.heap.size w2 w') := Lib.hid (fun w2 => by have := pr_spec p w2; rw [h1] at this; exact this)
  have HNU : Hid (∀ w2 g cp, IRow w2 (some ⟨g, 0, none⟩) (1 + n) (s :: zs) → Calls Try.prog 66 #[.slice (some ⟨g, 0, none⟩) (1 + n) cp, .int .i64 1, .int .i64 8, .int .i64 p] w2 fun e w' => e = .returned (.bool true) ∧ w2 = w') := Lib.hid (fun w2 g cp hh => by have := nu_spec p (some ⟨g, 0, none⟩) (1 + n) cp (s :: zs) w2 hh (by omega); rw [h2] at this; exact this)
  have HVA : Hid (∀ (x : Int) g cp w2, 0 ≤ x ∧ x ≤ 257 → IRow w2 (some ⟨g, 0, none⟩) (1 + n) (s :: zs) → Calls Try.prog 68 #[.int .i64 p, .slice (some ⟨g, 0, none⟩) (1 + n) cp, .int .i64 x] w2 fun e w' => e = .returned (.int .i64 (Pol.ho p (fun k => (s :: zs).getD k 0) x 8 8)) ∧ w2 = w') := Lib.hid (fun x g cp w2 hx hh => by rw [vf_pad hn8 hlN]; exact va_spec p x (some ⟨g, 0, none⟩) (1 + n) cp (s :: zs) w2 hh hn8 (pr_le hp) hx hz)
  generalize hT : (fun k => (s :: zs).getD k 0) = TT at HVA ⊢
  clear hT
  go_enter Try.func24, Try.ntmps24
  go_wp2_with (first | (at_builtin; refine wpList_append_lies _ rfl _ _ 22 rfl w.heap.size 2 i0 (.int .i64 0) 1 8 Try.underlying22 hi hz0 hz1 hz2 rfl (by omega) (.slice (some ⟨w.heap.size, 0, none⟩) 1 1) 1 [.int .i64 s] rfl HO0.out ⟨bz, oz, none⟩ n cap (zs.map (Value.int .i64)) rfl (by rw [List.length_map, Nat.mul_one]; exact HLY.out) (irow_news HZ0.out) (one_cellsI zs) (by omega) (by unfold maxLen; omega) (by omega) (by simp) (w.heap.size + 1) (by simp) ?_; intro gg cp w3 hown1 hgrow hat hlt3; have HW3 := Lib.hid (Below.grown HB00.out hgrow (by simp) (fun j hj => by simp [Value.ownBlock] at hj; omega)); obtain ⟨g8, cp8, e8, hnew⟩ := il_new (L := s :: zs) hown1 HW3.out (by omega); cases e8; have HA := Lib.hid (ICl.of hnew).row; have HLT0 := Lib.hid hnew.2.1; clear hnew hown1 hgrow hat hlt3) | (go_at_call 65; (with_reducible refine (HPR.out _).mono ?_); rintro e w2 ⟨rfl, hb⟩; have HB := Lib.hid (Below.next HW3.out hb); have HLT := Lib.hid (Nat.lt_of_lt_of_le HLT0.out hb.size); replace HA := Lib.hid (HA.out.below hb); clear hb) | (go_at_call 66; (with_reducible refine (HNU.out _ _ _ HA.out).mono ?_); rintro e w' ⟨rfl, hw⟩; subst hw) | (go_at_call 67; (with_reducible refine (in_true _ 1 8 _ HC.out.1 HC.out.2).mono ?_); rintro e w' ⟨rfl, hw⟩; have hw := hw.symm; subst hw) | fail)
  have HE := Lib.hid (own_empty w2 2)
  have HBE := Lib.hid (Below.alloc HB.out HB.out.size (.cells #[] 2))
  have hsw := HB.out.size
  have hsz0 : w2.heap.size ≤ (w2.alloc (.cells #[] 2)).heap.size := by simp
  replace HA := Lib.hid (HA.out.alloc (.cells #[] 2))
  generalize (w2.alloc (.cells #[] 2)) = w9 at HE HBE HA hsz0 ⊢
  go_loopw [11, 12] (fun v0 iv wr0 => ∃ (k : Nat) (v : Value) (wr : World), k ≤ m ∧ v = v0 ∧ iv = .int .i64 ((k : Int) + 1) ∧ wr = wr0 ∧ Hid (wr.ownsRow w2.heap.size 2 1 v k ((vfL p TT 1 k).map (Value.int .i64))) ∧ Hid (Below w.heap.size w wr) ∧ Hid (Below w2.heap.size w9 wr)) (fun _ iv _ => m + 1 - (intOf iv).toNat)
  case atStart => exact ⟨0, _, _, by omega, rfl, by simp, rfl, HE, HBE, Lib.hid (Below.refl _ _)⟩
  case round =>
    obtain ⟨k, v, wr, hk, rfl, rfl, rfl, HO, HW, HV9⟩ := hrel
    by_cases hlt : k < m
    · have hm8 := HC.out.2
      have HX : Hid (∀ g cp w3, IRow w3 (some ⟨g, 0, none⟩) (1 + n) (s :: zs) → Calls Try.prog 68 #[.int .i64 p, .slice (some ⟨g, 0, none⟩) (1 + n) cp, .int .i64 ((k : Int) + 1)] w3 fun e w' => e = .returned (.int .i64 (Pol.ho p TT ((k : Int) + 1) 8 8)) ∧ w3 = w') := Lib.hid (fun g cp w3 hh => HVA.out ((k : Int) + 1) g cp w3 (by omega) hh)
      have HL := Lib.hid (vfL_on p TT 1 k)
      rw [show (1 : Int) + (k : Int) = (k : Int) + 1 by omega] at HL
      have HNE := Lib.hid (own_block HO.out)
      have hsz := HW.out.size
      have hszr := HV9.out.size
      have HAr := Lib.hid (irow_kept HA.out HLT.out HV9.out)
      have hwk : IntKind.i64.wrap ((k : Int) + 1) = (k : Int) + 1 := IntWalk.i64_in _ (by omega)
      have d5 : decide ((k : Int) + 1 ≤ (m : Int)) = true := decide_eq_true (by omega)
      have d6 : decide ((k : Int) < (m : Int)) = true := decide_eq_true (by omega)
      have hwk2 : IntKind.i64.wrap ((k : Int) + 1 + 1) = (k : Int) + 1 + 1 := IntWalk.i64_in _ (by omega)
      generalize Pol.ho p TT ((k : Int) + 1) 8 8 = y at HX HL
      go_wp2_with (first | (go_at_call 68; (with_reducible refine (HX.out _ _ _ HAr.out).mono ?_); rintro e w' ⟨rfl, hw⟩; subst hw) | (at_builtin; refine wpList_append_lies _ rfl _ _ 22 rfl (w2.heap.size) 2 i0 (.int .i64 0) 1 8 Try.underlying22 hi hz0 hz1 hz2 rfl (by omega) v k ((vfL p TT 1 k).map (Value.int .i64)) rfl (World.ownsRow.alloc HO.out _) ⟨wr.heap.size, 0, none⟩ 1 1 [.int .i64 y] rfl rfl (World.news_of_block (cs := #[.int .i64 y]) (t := 2) (fr := (0, 0)) (heap_alloc_new _ _)) (by simp [Value.oneCell']) (by omega) (by unfold maxLen; omega) (by omega) (by simp; omega) (wr.heap.size + 1) (by simp) ?_; intro gg cp w3 hown1 hgrow hat hlt2; have HO2 := Lib.hid hown1; have HG2 := Lib.hid hgrow; clear hown1 hgrow hat hlt2) | fail)
      exact ⟨⟨k + 1, _, _, by omega, rfl, by first | rfl | go_num | (congr 1), rfl, Lib.hid (by rw [HL.out]; exact HO2.out), Lib.hid (Below.grown (Below.alloc HW.out HW.out.size _) HG2.out (by simp; omega) (fun j hj => Nat.le_trans hsw (HNE.out j hj))), Lib.hid (Below.grown (Below.alloc HV9.out (by omega) _) HG2.out (by simp; omega) HNE.out)⟩, by show m + 1 - ((k : Int) + 1 + 1).toNat < m + 1 - ((k : Int) + 1).toNat; omega⟩
    · obtain rfl : k = m := by omega
      have d5 : decide ((k : Int) + 1 ≤ (k : Int)) = false := decide_eq_false (by omega)
      obtain ⟨g3, cp3, e, hnew⟩ := il_new (own_mono9 HO.out hsw) HW.out (by omega)
      subst e
      have HNW := Lib.hid hnew
      clear hnew HO
      go_wp2
      exact bodyPost_ret (v := .tuple #[.slice (some ⟨g3, 0, none⟩) k cp3, .bool true]) (by simp [results, Try.results24, go_sem]) rfl ⟨_, _, rfl, HNW.out⟩
theorem ssSN (p s : Int) (a : Option Addr) (n cap : Nat) (zs : List Int) (c : Int) (w : World) (h : IRow w a n zs) (hn : n ≤ 1048576) (hok : voB p (s :: zs) (1 + n) c = false) : Calls Try.prog 24 #[.int .i64 p, .int .i64 s, .slice a n cap, .int .i64 c] w fun e w' => e = .returned (.tuple #[.slice none 0 0, .bool false]) ∧ Below w.heap.size w w' := by
  by_cases h0 : n = 0
  · subst h0
    obtain rfl : zs = [] := List.length_eq_zero_iff.1 h.1
    exact ssSN0 p s a cap c w hok
  · obtain ⟨bz, oz, rfl⟩ : ∃ bz oz, a = some ⟨bz, oz, none⟩ := by
      rcases h.2 with h1 | ⟨b, o, e, _⟩
      · exact absurd h1 h0
      · exact ⟨b, o, e⟩
    exact ssSN1 p s bz oz n cap zs c w h ⟨by omega, hn⟩ hok
theorem ssSY (p s : Int) (a : Option Addr) (n cap : Nat) (zs : List Int) (c : Int) (w : World) (h : IRow w a n zs) (hn : n ≤ 1048576) (hok : voB p (s :: zs) (1 + n) c = true) : Calls Try.prog 24 #[.int .i64 p, .int .i64 s, .slice a n cap, .int .i64 c] w fun e w' => ∃ g cp, e = .returned (.tuple #[.slice (some ⟨g, 0, none⟩) c.toNat cp, .bool true]) ∧ New w w' g (.il c.toNat (vfL p (fun k => (s :: zs).getD k 0) 1 c.toNat)) := by
  obtain ⟨m, rfl⟩ : ∃ m : Nat, c = (m : Int) := ⟨c.toNat, by have := (voB_yes hok).2.2; omega⟩
  rw [Int.toNat_natCast]
  by_cases h0 : n = 0
  · subst h0
    obtain rfl : zs = [] := List.length_eq_zero_iff.1 h.1
    exact ssSY0 p s a cap m w hok
  · obtain ⟨bz, oz, rfl⟩ : ∃ bz oz, a = some ⟨bz, oz, none⟩ := by
      rcases h.2 with h1 | ⟨b, o, e, _⟩
      · exact absurd h1 h0
      · exact ⟨b, o, e⟩
    exact ssSY1 p s bz oz n cap zs m w h ⟨by omega, hn⟩ hok
end Go.Proofs.Ytaefmffmjbabcaa
