
/- Shares: ValuesOver and ShareSecret, the functions. -/
import Derived.Test.YtaefmffmjbabcaaShs
set_option linter.unusedVariables false
namespace Go.Proofs.Ytaefmffmjbabcaa
open Go.Proofs.Ytaefmffmjbabcaa.Flo Go.RowKit

def voB (p : Int) (zs : List Int) (n : Nat) (c : Int) : Bool := prB p && (nuB p zs n && shcB p c)
theorem voB_yes {p : Int} {zs : List Int} {n : Nat} {c : Int} (h : voB p zs n c = true) : prB p = true ∧ (letP zs p n ∧ 1 ≤ n ∧ n ≤ 8) ∧ (1 ≤ c ∧ c ≤ 8 ∧ c < p) := by
  unfold voB nuB at h
  rw [Bool.and_eq_true, Bool.and_eq_true, Bool.and_eq_true] at h
  exact ⟨h.1, ⟨of_decide_eq_true h.2.1.1, of_decide_eq_true h.2.1.2⟩, of_decide_eq_true h.2.2⟩
theorem voB_no {p : Int} {zs : List Int} {n : Nat} {c : Int} (h : voB p zs n c = false) :
    prB p = false ∨ (prB p = true ∧ nuB p zs n = false) ∨ (prB p = true ∧ nuB p zs n = true ∧ ¬ (1 ≤ c ∧ c ≤ 8)) ∨ (prB p = true ∧ nuB p zs n = true ∧ (1 ≤ c ∧ c ≤ 8) ∧ p ≤ c) := by
  unfold voB at h
  cases h1 : prB p with
  | false => exact .inl rfl
  | true =>
    cases h2 : nuB p zs n with
    | false => exact .inr (.inl ⟨rfl, rfl⟩)
    | true =>
      by_cases h3 : 1 ≤ c ∧ c ≤ 8
      · refine .inr (.inr (.inr ⟨rfl, rfl, h3, ?_⟩))
        rw [h1, h2] at h
        have h4 : ¬ (1 ≤ c ∧ c ≤ 8 ∧ c < p) := of_decide_eq_false (by rw [Bool.true_and, Bool.true_and] at h; exact h)
        omega
      · exact .inr (.inr (.inl ⟨rfl, rfl, h3⟩))
theorem let_nu {p : Int} {zs : List Int} {n : Nat} (h : nuB p zs n = true) : letB zs n p = true ∧ 1 ≤ n ∧ n ≤ 8 := by
  unfold nuB at h
  rw [Bool.and_eq_true] at h
  have h2 : 1 ≤ n ∧ n ≤ 8 := of_decide_eq_true h.2
  exact ⟨by unfold letB; rw [h.1, decide_eq_true (by omega : n ≤ 512)]; rfl, h2⟩
theorem nu_let {p : Int} {zs : List Int} {n : Nat} (h : nuB p zs n = false) : letB zs n p = false ∨ (letB zs n p = true ∧ n < 1) ∨ (letB zs n p = true ∧ 8 < n) := by
  cases h1 : letB zs n p with
  | false => exact .inl rfl
  | true =>
    unfold letB at h1
    rw [Bool.and_eq_true] at h1
    unfold nuB at h
    rw [h1.1, Bool.true_and] at h
    have := of_decide_eq_false h
    by_cases h2 : n < 1
    · exact .inr (.inl ⟨rfl, h2⟩)
    · exact .inr (.inr ⟨rfl, by omega⟩)
theorem vf_pad {p : Int} {zs : List Int} {n : Nat} (hn : n ≤ 8) (hl : zs.length = n) (x : Int) : Pol.ho p (fun k => zs.getD k 0) x 8 8 = Pol.ho p (fun k => zs.getD k 0) x n n :=
  Pol.ho_pad _ x n 8 hn (fun k hk _ => by rw [List.getD_eq_getElem?_getD, List.getElem?_eq_none (by omega)]; rfl)
theorem t_in {p : Int} {zs : List Int} {n : Nat} (hp : 7 ≤ p ∧ p ≤ 257) (hl : zs.length = n) (h : letP zs p n) : ∀ k, k < 8 → 0 ≤ zs.getD k 0 ∧ zs.getD k 0 < 257 := fun k _ => by
  by_cases e : k < n
  · have := h k e; omega
  · rw [List.getD_eq_getElem?_getD, List.getElem?_eq_none (by omega)]
    exact ⟨Int.le_refl 0, by decide⟩
set_option maxRecDepth 100000 in
set_option maxHeartbeats 4000000 in
theorem voIN (p : Int) (a : Option Addr) (n cap : Nat) (zs : List Int) (c : Int) (w : World) (h : IRow w a n zs) (hn : n ≤ 1048576) (hok : voB p zs n c = false) : Calls Try.prog 28 #[.int .i64 p, .slice a n cap, .int .i64 c] w fun e w' => e = .returned (.tuple #[.slice none 0 0, .bool false]) ∧ Below w.heap.size w w' := by
  have HA := Lib.hid h
  clear h
  have hcase : (prB p && letB zs n p) = false ∨ ((prB p && letB zs n p) = true ∧ n < 1) ∨ ((prB p && letB zs n p) = true ∧ 8 < n) ∨ ((prB p && letB zs n p) = true ∧ (1 ≤ n ∧ n ≤ 8) ∧ shcB p c = false) := by
    cases h1 : prB p with
    | false => exact .inl rfl
    | true =>
      cases h2 : nuB p zs n with
      | false =>
        rcases nu_let h2 with h3 | ⟨h3, h4⟩ | ⟨h3, h4⟩
        · left; rw [h3]; rfl
        · right; left; rw [h3]; exact ⟨rfl, h4⟩
        · right; right; left; rw [h3]; exact ⟨rfl, h4⟩
      | true =>
        obtain ⟨h3, h4⟩ := let_nu h2
        right; right; right
        rw [h3]
        refine ⟨rfl, h4, ?_⟩
        unfold voB at hok
        rw [h1, h2] at hok
        simpa using hok
  rcases hcase with h1 | ⟨h1, h2⟩ | ⟨h1, h2⟩ | ⟨h1, ⟨h2, h3⟩, hc⟩
  · skip
    have HAN : Hid (∀ w2, IRow w2 a n zs → Calls Try.prog 70 #[.int .i64 p, .slice a n cap] w2 fun e w' => e = .returned (.bool false) ∧ w2 = w') := Lib.hid (fun w2 hh => by have := an_impl p a n cap zs w2 hh (by omega); rw [h1] at this; exact this)
    go_enter Try.func28, Try.ntmps28
    go_wp2_with (first | (go_at_call 70; (with_reducible refine (HAN.out _ (by first | exact HA.out | exact (HA.out.drewN _))).mono ?_); rintro e w' ⟨rfl, hw⟩; subst hw) | fail)
    exact bodyPost_ret (v := .tuple #[.slice none 0 0, .bool false]) (by simp [results, Try.results28, go_sem]) rfl ⟨rfl, Below.refl _ _⟩
  · skip
    have HAN : Hid (∀ w2, IRow w2 a n zs → Calls Try.prog 70 #[.int .i64 p, .slice a n cap] w2 fun e w' => e = .returned (.bool true) ∧ w2 = w') := Lib.hid (fun w2 hh => by have := an_impl p a n cap zs w2 hh (by omega); rw [h1] at this; exact this)
    have d1 : decide ((n : Int) < 1) = true := decide_eq_true (by omega)
    go_enter Try.func28, Try.ntmps28
    go_wp2_with (first | (go_at_call 70; (with_reducible refine (HAN.out _ (by first | exact HA.out | exact (HA.out.drewN _))).mono ?_); rintro e w' ⟨rfl, hw⟩; subst hw) | fail)
    exact bodyPost_ret (v := .tuple #[.slice none 0 0, .bool false]) (by simp [results, Try.results28, go_sem]) rfl ⟨rfl, Below.refl _ _⟩
  · skip
    have HAN : Hid (∀ w2, IRow w2 a n zs → Calls Try.prog 70 #[.int .i64 p, .slice a n cap] w2 fun e w' => e = .returned (.bool true) ∧ w2 = w') := Lib.hid (fun w2 hh => by have := an_impl p a n cap zs w2 hh (by omega); rw [h1] at this; exact this)
    have d1 : decide ((n : Int) < 1) = false := decide_eq_false (by omega)
    have d2 : decide ((8 : Int) < (n : Int)) = true := decide_eq_true (by omega)
    go_enter Try.func28, Try.ntmps28
    go_wp2_with (first | (go_at_call 70; (with_reducible refine (HAN.out _ (by first | exact HA.out | exact (HA.out.drewN _))).mono ?_); rintro e w' ⟨rfl, hw⟩; subst hw) | fail)
    exact bodyPost_ret (v := .tuple #[.slice none 0 0, .bool false]) (by simp [results, Try.results28, go_sem]) rfl ⟨rfl, Below.refl _ _⟩
  · skip
    have HAN : Hid (∀ w2, IRow w2 a n zs → Calls Try.prog 70 #[.int .i64 p, .slice a n cap] w2 fun e w' => e = .returned (.bool true) ∧ w2 = w') := Lib.hid (fun w2 hh => by have := an_impl p a n cap zs w2 hh (by omega); rw [h1] at this; exact this)
    have d1 : decide ((n : Int) < 1) = false := decide_eq_false (by omega)
    have d2 : decide ((8 : Int) < (n : Int)) = false := decide_eq_false (by omega)
    have HIC : Hid (∀ w2, Calls Try.prog 71 #[.int .i64 p, .int .i64 c] w2 fun e w' => e = .returned (.bool false) ∧ w2 = w') := Lib.hid (fun w2 => by have := ic_impl p c w2; rw [hc] at this; exact this)
    go_enter Try.func28, Try.ntmps28
    go_wp2_with (first | (go_at_call 70; (with_reducible refine (HAN.out _ (by first | exact HA.out | exact (HA.out.drewN _))).mono ?_); rintro e w' ⟨rfl, hw⟩; subst hw) | (go_at_call 71; (with_reducible refine (HIC.out _).mono ?_); rintro e w' ⟨rfl, hw⟩; subst hw) | fail)
    exact bodyPost_ret (v := .tuple #[.slice none 0 0, .bool false]) (by simp [results, Try.results28, go_sem]) rfl ⟨rfl, Below.refl _ _⟩
set_option maxRecDepth 100000 in
set_option maxHeartbeats 4000000 in
theorem voIY (p : Int) (a : Option Addr) (n cap : Nat) (zs : List Int) (c : Int) (w : World) (h : IRow w a n zs) (hn : n ≤ 1048576) (hok : voB p zs n c = true) : Calls Try.prog 28 #[.int .i64 p, .slice a n cap, .int .i64 c] w fun e w' => ∃ g cp, e = .returned (.tuple #[.slice (some ⟨g, 0, none⟩) c.toNat cp, .bool true]) ∧ New w w' g (.il c.toNat (vfL p (fun k => zs.getD k 0) 0 c.toNat)) := by
  obtain ⟨hp, ⟨hz, hn1, hn8⟩, hc1, hc8, hcp⟩ := voB_yes hok
  have hl := h.1
  obtain ⟨ba, oa, rfl⟩ : ∃ ba oa, a = some ⟨ba, oa, none⟩ := by
    rcases h.2 with h0 | ⟨b, o, e, _⟩
    · omega
    · exact ⟨b, o, e⟩
  obtain ⟨m, rfl⟩ : ∃ m : Nat, c = (m : Int) := ⟨c.toNat, by omega⟩
  rw [Int.toNat_natCast]
  have h1 : (prB p && letB zs n p) = true := by
    rw [hp]; unfold letB; rw [decide_eq_true hz, decide_eq_true (by omega : n ≤ 512)]; rfl
  have hc : shcB p (m : Int) = true := decide_eq_true ⟨hc1, hc8, hcp⟩
  have HA := Lib.hid h
  clear h
  have HAN : Hid (∀ w2, IRow w2 (some ⟨ba, oa, none⟩) n zs → Calls Try.prog 70 #[.int .i64 p, .slice (some ⟨ba, oa, none⟩) n cap] w2 fun e w' => e = .returned (.bool true) ∧ w2 = w') := Lib.hid (fun w2 hh => by have := an_impl p (some ⟨ba, oa, none⟩) n cap zs w2 hh (by omega); rw [h1] at this; exact this)
  have HIC : Hid (∀ w2, Calls Try.prog 71 #[.int .i64 p, .int .i64 (m : Int)] w2 fun e w' => e = .returned (.bool true) ∧ w2 = w') := Lib.hid (fun w2 => by have := ic_impl p (m : Int) w2; rw [hc] at this; exact this)
  have HPO : Hid (∀ w2, IRow w2 (some ⟨ba, oa, none⟩) n zs → Calls Try.prog 72 #[.slice (some ⟨ba, oa, none⟩) n cap] w2 fun e w' => e = .returned (.agg (a8 (fun k => zs.getD k 0))) ∧ Below w2.heap.size w2 w') := Lib.hid (fun w2 hh => po_impl ba oa n cap zs w2 hh ⟨hn1, hn8⟩)
  have HVF : Hid (∀ w2, Calls Try.prog 73 #[.agg (a8 (fun k => zs.getD k 0)), .int .i64 p, .int .i64 0, .int .i64 (m : Int)] w2 fun e w' => ∃ g cp, e = .returned (.slice (some ⟨g, 0, none⟩) m cp) ∧ New w2 w' g (.il m (vfL p (fun k => zs.getD k 0) 0 m))) := Lib.hid (fun w2 => vf_impl p 0 m (fun k => zs.getD k 0) w2 (pr_le hp) (by decide) (by omega) (t_in (pr_le hp) hl hz))
  have d1 : decide ((n : Int) < 1) = false := decide_eq_false (by omega)
  have d2 : decide ((8 : Int) < (n : Int)) = false := decide_eq_false (by omega)
  generalize a8 (fun k => zs.getD k 0) = T8 at HPO HVF
  go_enter Try.func28, Try.ntmps28
  go_wp2_with (first | (go_at_call 70; (with_reducible refine (HAN.out _ (by first | exact HA.out | exact (HA.out.drewN _))).mono ?_); rintro e w' ⟨rfl, hw⟩; subst hw) | (go_at_call 71; (with_reducible refine (HIC.out _).mono ?_); rintro e w' ⟨rfl, hw⟩; subst hw) | (go_at_call 72; (with_reducible refine (HPO.out _ HA.out).mono ?_); rintro e w2 ⟨rfl, hb⟩; have HB := Lib.hid hb; clear hb) | (go_at_call 73; (with_reducible refine (HVF.out _).mono ?_); rintro e w3 ⟨g, cp, rfl, hg⟩; have HG := Lib.hid hg; clear hg) | fail)
  exact bodyPost_ret (v := .tuple #[.slice (some ⟨g, 0, none⟩) m cp, .bool true]) (by simp [results, Try.results28, go_sem]) rfl ⟨_, _, rfl, Nat.le_trans HB.out.size HG.out.1, HG.out.2.1, HG.out.2.2.1, HB.out.trans (HG.out.2.2.2.mono HB.out.size)⟩
set_option maxRecDepth 100000 in
set_option maxHeartbeats 4000000 in
theorem voSN (p : Int) (a : Option Addr) (n cap : Nat) (zs : List Int) (c : Int) (w : World) (h : IRow w a n zs) (hn : n ≤ 1048576) (hok : voB p zs n c = false) : Calls Try.prog 27 #[.int .i64 p, .slice a n cap, .int .i64 c] w fun e w' => e = .returned (.tuple #[.slice none 0 0, .bool false]) ∧ Below w.heap.size w w' := by
  have HA := Lib.hid h
  clear h
  rcases voB_no hok with h1 | ⟨h1, h2⟩ | ⟨h1, h2, h3⟩ | ⟨h1, h2, h3, h4⟩
  · skip
    have HPR : Hid (∀ w2, Calls Try.prog 65 #[.int .i64 p] w2 fun e w' => e = .returned (.bool false) ∧ Below w2.heap.size w2 w') := Lib.hid (fun w2 => by have := pr_spec p w2; rw [h1] at this; exact this)
    go_enter Try.func27, Try.ntmps27
    go_wp2_with (first | (go_at_call 65; (with_reducible refine (HPR.out _).mono ?_); rintro e w2 ⟨rfl, hb⟩; have HB := Lib.hid hb; replace HA := Lib.hid (HA.out.below hb); clear hb) | fail)
    exact bodyPost_ret (v := .tuple #[.slice none 0 0, .bool false]) (by simp [results, Try.results27, go_sem]) rfl ⟨rfl, HB.out⟩
  · skip
    have HPR : Hid (∀ w2, Calls Try.prog 65 #[.int .i64 p] w2 fun e w' => e = .returned (.bool true) ∧ Below w2.heap.size w2 w') := Lib.hid (fun w2 => by have := pr_spec p w2; rw [h1] at this; exact this)
    have HNU : Hid (∀ w2, IRow w2 a n zs → Calls Try.prog 66 #[.slice a n cap, .int .i64 1, .int .i64 8, .int .i64 p] w2 fun e w' => e = .returned (.bool false) ∧ w2 = w') := Lib.hid (fun w2 hh => by have := nu_spec p a n cap zs w2 hh (by omega); rw [h2] at this; exact this)
    go_enter Try.func27, Try.ntmps27
    go_wp2_with (first | (go_at_call 65; (with_reducible refine (HPR.out _).mono ?_); rintro e w2 ⟨rfl, hb⟩; have HB := Lib.hid hb; replace HA := Lib.hid (HA.out.below hb); clear hb) | (go_at_call 66; (with_reducible refine (HNU.out _ HA.out).mono ?_); rintro e w' ⟨rfl, hw⟩; subst hw) | fail)
    exact bodyPost_ret (v := .tuple #[.slice none 0 0, .bool false]) (by simp [results, Try.results27, go_sem]) rfl ⟨rfl, HB.out⟩
  · skip
    have HPR : Hid (∀ w2, Calls Try.prog 65 #[.int .i64 p] w2 fun e w' => e = .returned (.bool true) ∧ Below w2.heap.size w2 w') := Lib.hid (fun w2 => by have := pr_spec p w2; rw [h1] at this; exact this)
    have HNU : Hid (∀ w2, IRow w2 a n zs → Calls Try.prog 66 #[.slice a n cap, .int .i64 1, .int .i64 8, .int .i64 p] w2 fun e w' => e = .returned (.bool true) ∧ w2 = w') := Lib.hid (fun w2 hh => by have := nu_spec p a n cap zs w2 hh (by omega); rw [h2] at this; exact this)
    have HC := Lib.hid h3
    go_enter Try.func27, Try.ntmps27
    go_wp2_with (first | (go_at_call 65; (with_reducible refine (HPR.out _).mono ?_); rintro e w2 ⟨rfl, hb⟩; have HB := Lib.hid hb; replace HA := Lib.hid (HA.out.below hb); clear hb) | (go_at_call 66; (with_reducible refine (HNU.out _ HA.out).mono ?_); rintro e w' ⟨rfl, hw⟩; subst hw) | (go_at_call 67; (with_reducible refine (in_false c 1 8 _ HC.out).mono ?_); rintro e w' ⟨rfl, hw⟩; have hw := hw.symm; subst hw) | fail)
    exact bodyPost_ret (v := .tuple #[.slice none 0 0, .bool false]) (by simp [results, Try.results27, go_sem]) rfl ⟨rfl, HB.out⟩
  · skip
    have HPR : Hid (∀ w2, Calls Try.prog 65 #[.int .i64 p] w2 fun e w' => e = .returned (.bool true) ∧ Below w2.heap.size w2 w') := Lib.hid (fun w2 => by have := pr_spec p w2; rw [h1] at this; exact this)
    have HNU : Hid (∀ w2, IRow w2 a n zs → Calls Try.prog 66 #[.slice a n cap, .int .i64 1, .int .i64 8, .int .i64 p] w2 fun e w' => e = .returned (.bool true) ∧ w2 = w') := Lib.hid (fun w2 hh => by have := nu_spec p a n cap zs w2 hh (by omega); rw [h2] at this; exact this)
    have HC := Lib.hid h3
    have d9 : decide (p ≤ c) = true := decide_eq_true h4
    go_enter Try.func27, Try.ntmps27
    go_wp2_with (first | (go_at_call 65; (with_reducible refine (HPR.out _).mono ?_); rintro e w2 ⟨rfl, hb⟩; have HB := Lib.hid hb; replace HA := Lib.hid (HA.out.below hb); clear hb) | (go_at_call 66; (with_reducible refine (HNU.out _ HA.out).mono ?_); rintro e w' ⟨rfl, hw⟩; subst hw) | (go_at_call 67; (with_reducible refine (in_true c 1 8 _ HC.out.1 HC.out.2).mono ?_); rintro e w' ⟨rfl, hw⟩; have hw := hw.symm; subst hw) | fail)
    exact bodyPost_ret (v := .tuple #[.slice none 0 0, .bool false]) (by simp [results, Try.results27, go_sem]) rfl ⟨rfl, HB.out⟩
set_option maxRecDepth 100000 in
set_option maxHeartbeats 4000000 in
theorem voSY (p : Int) (a : Option Addr) (n cap : Nat) (zs : List Int) (c : Int) (w : World) (h : IRow w a n zs) (hn : n ≤ 1048576) (hok : voB p zs n c = true) : Calls Try.prog 27 #[.int .i64 p, .slice a n cap, .int .i64 c] w fun e w' => ∃ g cp, e = .returned (.tuple #[.slice (some ⟨g, 0, none⟩) c.toNat cp, .bool true]) ∧ New w w' g (.il c.toNat (vfL p (fun k => zs.getD k 0) 0 c.toNat)) := by
  obtain ⟨hp, ⟨hz, hn1, hn8⟩, hc1, hc8, hcp⟩ := voB_yes hok
  have hl := h.1
  obtain ⟨i0, hi, hz0, hz1, hz2⟩ := info_parts Try.info64
  have h1 := hp
  have h2 : nuB p zs n = true := by unfold nuB; rw [decide_eq_true hz, decide_eq_true ⟨hn1, hn8⟩]; rfl
  have HC : Hid (1 ≤ c ∧ c ≤ 8) := Lib.hid ⟨hc1, hc8⟩
  have d9 : decide (p ≤ c) = false := decide_eq_false (by omega)
  have HA := Lib.hid h
  have HA0 := Lib.hid h
  clear h
  have HPR : Hid (∀ w2, Calls Try.prog 65 #[.int .i64 p] w2 fun e w' => e = .returned (.bool true) ∧ Below w2.heap.size w2 w') := Lib.hid (fun w2 => by have := pr_spec p w2; rw [h1] at this; exact this)
  have HNU : Hid (∀ w2, IRow w2 a n zs → Calls Try.prog 66 #[.slice a n cap, .int .i64 1, .int .i64 8, .int .i64 p] w2 fun e w' => e = .returned (.bool true) ∧ w2 = w') := Lib.hid (fun w2 hh => by have := nu_spec p a n cap zs w2 hh (by omega); rw [h2] at this; exact this)
  have HVA : Hid (∀ (x : Int) w2, 0 ≤ x ∧ x ≤ 257 → IRow w2 a n zs → Calls Try.prog 68 #[.int .i64 p, .slice a n cap, .int .i64 x] w2 fun e w' => e = .returned (.int .i64 (Pol.ho p (fun k => zs.getD k 0) x 8 8)) ∧ w2 = w') := Lib.hid (fun x w2 hx hh => by rw [vf_pad hn8 hl]; exact va_spec p x a n cap zs w2 hh hn8 (pr_le hp) hx hz)
  obtain ⟨m, rfl⟩ : ∃ m : Nat, c = (m : Int) := ⟨c.toNat, by omega⟩
  rw [Int.toNat_natCast]
  go_enter Try.func27, Try.ntmps27
  go_wp2_with (first | (go_at_call 65; (with_reducible refine (HPR.out _).mono ?_); rintro e w2 ⟨rfl, hb⟩; have HB := Lib.hid hb; replace HA := Lib.hid (HA.out.below hb); clear hb) | (go_at_call 66; (with_reducible refine (HNU.out _ HA.out).mono ?_); rintro e w' ⟨rfl, hw⟩; subst hw) | (go_at_call 67; (with_reducible refine (in_true _ 1 8 _ HC.out.1 HC.out.2).mono ?_); rintro e w' ⟨rfl, hw⟩; have hw := hw.symm; subst hw) | fail)
  have HE := Lib.hid (own_empty w2 2)
  have HBE := Lib.hid (Below.alloc HB.out HB.out.size (.cells #[] 2))
  have hsw := HB.out.size
  have HA2 := Lib.hid (HA.out.alloc (.cells #[] 2))
  go_loopw [8, 9] (fun v0 iv wr0 => ∃ (k : Nat) (v : Value) (wr : World), k ≤ m ∧ v = v0 ∧ iv = .int .i64 k ∧ wr = wr0 ∧ Hid (wr.ownsRow w.heap.size 2 1 v k ((vfL p (fun k => zs.getD k 0) 0 k).map (Value.int .i64))) ∧ Hid (Below w.heap.size w wr)) (fun _ iv _ => m - (intOf iv).toNat)
  case atStart => exact ⟨0, _, _, by omega, rfl, rfl, rfl, Lib.hid (own_mono9 HE.out hsw), HBE⟩
  case round =>
    obtain ⟨k, v, wr, hk, rfl, rfl, rfl, HO, HW⟩ := hrel
    by_cases hlt : k < m
    · have hm8 := HC.out.2
      have HX : Hid (∀ w3, IRow w3 a n zs → Calls Try.prog 68 #[.int .i64 p, .slice a n cap, .int .i64 (k : Int)] w3 fun e w' => e = .returned (.int .i64 (Pol.ho p (fun k => zs.getD k 0) (k : Int) 8 8)) ∧ w3 = w') := Lib.hid (fun w3 hh => HVA.out (k : Int) w3 (by omega) hh)
      have HL := Lib.hid (vfL_on p (fun k => zs.getD k 0) 0 k)
      rw [Int.zero_add] at HL
      have HNE := Lib.hid (own_block HO.out)
      have hsz := HW.out.size
      have HAr := Lib.hid (HA0.out.below HW.out)
      generalize Pol.ho p (fun k => zs.getD k 0) (k : Int) 8 8 = y at HX HL
      go_wp2_with (first | (go_at_call 68; (with_reducible refine (HX.out _ HAr.out).mono ?_); rintro e w' ⟨rfl, hw⟩; subst hw) | (at_builtin; refine wpList_append_lies _ rfl _ _ 22 rfl (w.heap.size) 2 i0 (.int .i64 0) 1 8 Try.underlying22 hi hz0 hz1 hz2 rfl (by omega) v k ((vfL p (fun k => zs.getD k 0) 0 k).map (Value.int .i64)) rfl (World.ownsRow.alloc HO.out _) ⟨wr.heap.size, 0, none⟩ 1 1 [.int .i64 y] rfl rfl (World.news_of_block (cs := #[.int .i64 y]) (t := 2) (fr := (0, 0)) (heap_alloc_new _ _)) (by simp [Value.oneCell']) (by omega) (by unfold maxLen; omega) (by omega) (by simp; omega) (wr.heap.size + 1) (by simp) ?_; intro gg cp w3 hown1 hgrow hat hlt2; have HO2 := Lib.hid hown1; have HG2 := Lib.hid hgrow; clear hown1 hgrow hat hlt2) | fail)
      exact ⟨⟨k + 1, _, _, by omega, rfl, by first | rfl | go_num | (congr 1), rfl, Lib.hid (by rw [HL.out]; exact HO2.out), Lib.hid (Below.grown (Below.alloc HW.out HW.out.size _) HG2.out (by simp; omega) HNE.out)⟩, by show m - ((k : Int) + 1).toNat < m - (k : Int).toNat; omega⟩
    · obtain rfl : k = m := by omega
      obtain ⟨g3, cp3, e, hnew⟩ := il_new HO.out HW.out (by omega)
      subst e
      have HNW := Lib.hid hnew
      clear hnew HO
      go_wp2
      exact bodyPost_ret (v := .tuple #[.slice (some ⟨g3, 0, none⟩) k cp3, .bool true]) (by simp [results, Try.results27, go_sem]) rfl ⟨_, _, rfl, HNW.out⟩
end Go.Proofs.Ytaefmffmjbabcaa
