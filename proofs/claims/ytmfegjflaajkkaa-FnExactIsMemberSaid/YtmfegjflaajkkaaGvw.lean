
/- ValidGraph: the functions. -/
import Derived.Test.YtmfegjflaajkkaaOwn
import Derived.Test.YtmfegjflaajkkaaPsv
namespace Go.Proofs.Ytmfegjflaajkkaa
open Go.Proofs.Ytmfegjflaajkkaa.Flo Go.RowKit Go.Proofs.Ytmfegjflaajkkaa.Pr

def grP (r : Int) (n : Nat) (Ln : Nat → Nat) (Z : Nat → List Int) : Prop := ∀ k, k < n → 1 ≤ Ln k ∧ seP (Z k) r (Ln k)
instance (r : Int) (n : Nat) (Ln : Nat → Nat) (Z : Nat → List Int) : Decidable (grP r n Ln Z) := inferInstanceAs (Decidable (∀ k, k < n → 1 ≤ Ln k ∧ seP (Z k) r (Ln k)))
/-- Is a graph valid? -/
def gvB (r : Int) (n : Nat) (Ln : Nat → Nat) (Z : Nat → List Int) : Bool := decide (1 ≤ r ∧ r ≤ 32) && (decide (1 ≤ n ∧ n ≤ 32) && decide (grP r n Ln Z))
theorem gv_out {r : Int} {n : Nat} {Ln : Nat → Nat} {Z : Nat → List Int} (h : gvB r n Ln Z = true) : (1 ≤ r ∧ r ≤ 32) ∧ (1 ≤ n ∧ n ≤ 32) ∧ grP r n Ln Z := by
  unfold gvB at h
  rw [Bool.and_eq_true, Bool.and_eq_true] at h
  exact ⟨of_decide_eq_true h.1, of_decide_eq_true h.2.1, of_decide_eq_true h.2.2⟩
theorem gv_r {r : Int} {n : Nat} {Ln : Nat → Nat} {Z : Nat → List Int} (h : ¬ (1 ≤ r ∧ r ≤ 32)) : gvB r n Ln Z = false := by unfold gvB; rw [decide_eq_false h]; rfl
theorem gv_n {r : Int} {n : Nat} {Ln : Nat → Nat} {Z : Nat → List Int} (h : ¬ (1 ≤ n ∧ n ≤ 32)) : gvB r n Ln Z = false := by unfold gvB; rw [decide_eq_false h]; simp
theorem gv_k {r : Int} {n k : Nat} {Ln : Nat → Nat} {Z : Nat → List Int} (hk : k < n) (h : ¬ (1 ≤ Ln k ∧ seP (Z k) r (Ln k))) : gvB r n Ln Z = false := by
  unfold gvB; rw [decide_eq_false (p := grP r n Ln Z) (fun e => h (e k hk))]; simp
theorem gv_end {r : Int} {n : Nat} {Ln : Nat → Nat} {Z : Nat → List Int} (h1 : 1 ≤ r ∧ r ≤ 32) (h2 : 1 ≤ n ∧ n ≤ 32) (h3 : grP r n Ln Z) : gvB r n Ln Z = true := by
  unfold gvB; rw [decide_eq_true h1, decide_eq_true h2, decide_eq_true h3]; rfl
theorem gr_on {r : Int} {k : Nat} {Ln : Nat → Nat} {Z : Nat → List Int} (h : grP r k Ln Z) (h2 : 1 ≤ Ln k ∧ seP (Z k) r (Ln k)) : grP r (k + 1) Ln Z := fun j hj => by
  by_cases e : j < k
  · exact h j e
  · obtain rfl : j = k := by omega
    exact h2
set_option maxRecDepth 100000 in
set_option maxHeartbeats 4000000 in
theorem vg_impl (r : Int) (a : Option Addr) (n cap : Nat) (A : Nat → Option Addr) (Ln Cp : Nat → Nat) (Z : Nat → List Int) (w : World) (h : GRow w a n A Ln Cp Z) (hn : n + gtot Ln n ≤ 1048576) :
    Calls Try.prog 42 #[.agg #[.int .i64 r, .slice a n cap]] w fun e w' => e = .returned (.bool (gvB r n Ln Z)) ∧ Below w.heap.size w w' := by
  have HA := Lib.hid (h.alloc (.cells #[.int .i64 r, .slice a n cap] 55))
  have HN := Lib.hid hn
  clear h
  by_cases h1 : 1 ≤ r
  · have d1 : decide (r < 1) = false := decide_eq_false (by omega)
    by_cases h2 : r ≤ 32
    · have d2 : decide (32 < r) = false := decide_eq_false (by omega)
      by_cases h3 : 1 ≤ n
      · have d3 : decide ((n : Int) < 1) = false := decide_eq_false (by omega)
        by_cases h4 : n ≤ 32
        · have d4 : decide (32 < (n : Int)) = false := decide_eq_false (by omega)
          go_enter Try.func42, Try.ntmps42
          go_wp2
          go_loop [28] (fun iv => ∃ k : Nat, k ≤ n ∧ iv = .int .i64 k ∧ Hid (grP r k Ln Z)) (fun iv => n - (intOf iv).toNat)
          case atStart => exact ⟨0, by omega, rfl, Lib.hid (by intro j hj; omega)⟩
          case round =>
            obtain ⟨k, hk, rfl, HL⟩ := hrel
            by_cases hlt : k < n
            · obtain ⟨b1, o1, rfl, _, hck⟩ := HA.out.cell hlt
              have hl : Ln k ≤ 1048576 := by have := gtot_each Ln hlt; have := HN.out; omega
              have HSE := Lib.hid (set_impl (A k) (Ln k) (Cp k) (Z k) r _ (HA.out.2 k hlt) hl (by omega) (by omega))
              by_cases hc1 : 1 ≤ Ln k
              · have e1 : decide ((Ln k : Int) < 1) = false := decide_eq_false (by omega)
                cases hse : seB (Z k) r (Ln k) with
                | true =>
                  have HNX := Lib.hid (gr_on HL.out ⟨hc1, of_decide_eq_true hse⟩)
                  rw [hse] at HSE
                  clear hse hc1
                  generalize A k = ak at hck HSE
                  generalize Cp k = ck at hck HSE
                  generalize Ln k = lk at hck HSE e1
                  go_wp2_with (first | (go_at_call 76; refine HSE.out.mono ?_; rintro e w' ⟨rfl, hw⟩; subst hw) | fail)
                  go_round
                  case rel => exact ⟨k + 1, by omega, by go_num, HNX⟩
                  case measure => simp [intOf]; omega
                | false =>
                  have HF := Lib.hid (gv_k (r := r) (Ln := Ln) (Z := Z) hlt (fun e => of_decide_eq_false hse e.2))
                  rw [hse] at HSE
                  clear hse hc1
                  generalize A k = ak at hck HSE
                  generalize Cp k = ck at hck HSE
                  generalize Ln k = lk at hck HSE e1
                  go_wp2_with (first | (go_at_call 76; refine HSE.out.mono ?_; rintro e w' ⟨rfl, hw⟩; subst hw) | fail)
                  go_ret
                  exact ⟨ret_bool2 HF.out.symm, belowA _ _⟩
              · have HF := Lib.hid (gv_k (r := r) (Ln := Ln) (Z := Z) hlt (fun e => hc1 e.1))
                have e1 : decide ((Ln k : Int) < 1) = true := decide_eq_true (by omega)
                clear hc1 HSE
                generalize Ln k = lk at hck e1
                go_wp2
                go_ret
                exact ⟨ret_bool2 HF.out.symm, belowA _ _⟩
            · obtain rfl : k = n := by omega
              have HF := Lib.hid (gv_end ⟨h1, h2⟩ ⟨h3, h4⟩ HL.out)
              go_wp2
              go_ret
              exact ⟨ret_bool2 HF.out.symm, belowA _ _⟩
        · have HF := Lib.hid (gv_n (r := r) (n := n) (Ln := Ln) (Z := Z) (fun e => h4 e.2))
          have d4 : decide (32 < (n : Int)) = true := decide_eq_true (by omega)
          go_enter Try.func42, Try.ntmps42
          go_wp2
          go_ret
          exact ⟨ret_bool2 HF.out.symm, belowA _ _⟩
      · have HF := Lib.hid (gv_n (r := r) (n := n) (Ln := Ln) (Z := Z) (fun e => h3 e.1))
        have d3 : decide ((n : Int) < 1) = true := decide_eq_true (by omega)
        go_enter Try.func42, Try.ntmps42
        go_wp2
        go_ret
        exact ⟨ret_bool2 HF.out.symm, belowA _ _⟩
    · have HF := Lib.hid (gv_r (r := r) (n := n) (Ln := Ln) (Z := Z) (fun e => h2 e.2))
      have d2 : decide (32 < r) = true := decide_eq_true (by omega)
      go_enter Try.func42, Try.ntmps42
      go_wp2
      go_ret
      exact ⟨ret_bool2 HF.out.symm, belowA _ _⟩
  · have HF := Lib.hid (gv_r (r := r) (n := n) (Ln := Ln) (Z := Z) (fun e => h1 e.1))
    have d1 : decide (r < 1) = true := decide_eq_true (by omega)
    go_enter Try.func42, Try.ntmps42
    go_wp2
    go_ret
    exact ⟨ret_bool2 HF.out.symm, belowA _ _⟩
set_option maxRecDepth 100000 in
set_option maxHeartbeats 8000000 in
theorem g7_spec (p : Nat) (r : Int) (a : Option Addr) (n cap : Nat) (A : Nat → Option Addr) (Ln Cp : Nat → Nat) (Z : Nat → List Int) (w : World) (h : GRow w a n A Ln Cp Z) (hn : n + gtot Ln n ≤ 1048576) (h0 : w.cell? ⟨p, 0, none⟩ = some (.int .i64 r)) (hp : w.cell? ⟨p, 1, none⟩ = some (.slice a n cap)) :
    Calls Try.prog 74 #[.pointer (some ⟨p, 0, none⟩)] w fun e w' => e = .returned (.bool (gvB r n Ln Z)) ∧ Drew w w' := by
  have HA := Lib.hid h
  have HN := Lib.hid hn
  clear h
  by_cases h1 : 1 ≤ r ∧ r ≤ 32
  · have H1 := Lib.hid h1
    by_cases h2 : 1 ≤ n
    · by_cases h3 : n ≤ 32
      · have d1 : decide ((n : Int) < 1) = false := decide_eq_false (by omega)
        have d2 : decide (32 < (n : Int)) = false := decide_eq_false (by omega)
        have hw2 : IntKind.i64.wrap (r - 1) = r - 1 := IntWalk.i64_in _ (by omega)
        have hr32 : r ≤ 32 := h1.2
        have hr1 : 1 ≤ r := h1.1
        clear h1
        go_enter Try.func74, Try.ntmps74
        go_wp2_with (first | (go_at_call 91; refine (in_true r 1 32 _ H1.out.1 H1.out.2).mono ?_; rintro e w' ⟨rfl, hw⟩; have hw := hw.symm; subst hw) | fail)
        go_loopw [33] (fun iv w' => ∃ (k : Nat) (wr : World), k ≤ n ∧ iv = .int .i64 k ∧ wr = w' ∧ Hid (grP r k Ln Z) ∧ Hid (Drew w wr)) (fun iv _ => n - (intOf iv).toNat)
        case atStart => exact ⟨0, _, by omega, rfl, rfl, Lib.hid (by intro j hj; omega), Lib.hid (Drew.refl _)⟩
        case round =>
          obtain ⟨k, wr, hk, rfl, rfl, HL, HD⟩ := hrel
          by_cases hlt : k < n
          · obtain ⟨b1, o1, rfl, _, hck⟩ := (HD.out.grow HA.out).cell hlt
            have hc0 : wr.cell? ⟨p, 0, none⟩ = some (.int .i64 r) := by obtain ⟨q, hq⟩ := HD.out; rw [hq]; exact h0
            have hc1 : wr.cell? ⟨p, 1, none⟩ = some (.slice (some ⟨b1, o1, none⟩) n cap) := by obtain ⟨q, hq⟩ := HD.out; rw [hq]; exact hp
            have HR := Lib.hid ((HD.out.grow HA.out).2 k hlt)
            have hl9 : Ln k ≤ 1048576 := by have := gtot_each Ln hlt; have := HN.out; omega
            by_cases hc2 : 1 ≤ Ln k
            · by_cases hc3 : Ln k ≤ 32
              · have e1 : decide ((Ln k : Int) < 1) = false := decide_eq_false (by omega)
                have e2 : decide (32 < (Ln k : Int)) = false := decide_eq_false (by omega)
                have HFE : Hid (∀ j, j < Ln k → ¬ (loI (Z k) j ≤ (Z k).getD j 0 ∧ (Z k).getD j 0 < r) → gvB r n Ln Z = false) := Lib.hid (fun j hj hno => gv_k hlt (fun e => hno (e.2 j hj)))
                have HNX : Hid (seP (Z k) r (Ln k) → grP r (k + 1) Ln Z) := Lib.hid (fun e => gr_on HL.out ⟨hc2, e⟩)
                clear hc2 hc3
                generalize A k = ak at hck HR
                generalize Cp k = ck at hck
                generalize Z k = zs at HR HFE HNX
                generalize Ln k = lk at hck HR HFE HNX e1 e2 hl9
                have HDW := HD
                go_wp2
                go_loopw [53] (fun iv w' => ∃ (j : Nat) (wi : World), j ≤ lk ∧ iv = .int .i64 j ∧ wi = w' ∧ Hid (seP zs r j) ∧ Hid (Drew wr wi)) (fun iv _ => lk - (intOf iv).toNat)
                case atStart => exact ⟨0, _, by omega, rfl, rfl, Lib.hid (by intro j hj; omega), Lib.hid (Drew.refl _)⟩
                case round =>
                  obtain ⟨x, wi, hx, rfl, rfl, HLI, HDI⟩ := hrel
                  have hi0 : wi.cell? ⟨p, 0, none⟩ = some (.int .i64 r) := by obtain ⟨q, hq⟩ := HDI.out; rw [hq]; exact hc0
                  have hi1 : wi.cell? ⟨p, 1, none⟩ = some (.slice (some ⟨b1, o1, none⟩) n cap) := by obtain ⟨q, hq⟩ := HDI.out; rw [hq]; exact hc1
                  by_cases hxl : x < lk
                  · obtain ⟨b2, o2, rfl, _, hcx⟩ := (HR.out.below HDI.out.below).cell' hxl
                    have hlo := se_lo (by omega : (0 : Int) ≤ r) HLI.out (Nat.le_refl x)
                    by_cases hr : 0 ≤ zs.getD x 0 ∧ zs.getD x 0 ≤ r - 1
                    · have HRR := Lib.hid hr
                      by_cases hz : x = 0
                      · have HNI := Lib.hid (se_on HLI.out (⟨by rw [show loI zs x = 0 by rw [hz]; rfl]; exact hr.1, by omega⟩ : loI zs x ≤ zs.getD x 0 ∧ zs.getD x 0 < r))
                        have hk0 : decide ((0 : Int) < (x : Int)) = false := decide_eq_false (by omega)
                        have hk0' : decide (0 < x) = false := decide_eq_false (by omega)
                        have hk0'' : (x == 0) = true := by simp [hz]
                        clear hr hz
                        generalize zs.getD x 0 = c at hcx HRR
                        go_wp2
                        go_quiet ((go_at_call 91; with_reducible exact Calls.quiet_of_same (in_true c 0 (r - 1) _ HRR.out.1 HRR.out.2)))
                        go_wp2
                        exact ⟨⟨x + 1, _, by omega, by first | rfl | go_num | (congr 1), rfl, HNI, Lib.hid (HDI.out.trans (by first | exact Drew.mk _ _ | exact ⟨_, rfl⟩))⟩, by show lk - ((x : Int) + 1).toNat < lk - (x : Int).toNat; omega⟩
                      · obtain ⟨j, hj⟩ : ∃ j, x = j + 1 := ⟨x - 1, by omega⟩
                        obtain ⟨b3, o3, e3, _, hcx2⟩ := (HR.out.below HDI.out.below).cell' (show j < lk by omega)
                        injection e3 with e3
                        injection e3 with e3 e4
                        subst e3; subst e4
                        have HLO : Hid (loI zs x = zs.getD j 0 + 1) := Lib.hid (by rw [hj]; rfl)
                        have hkj : (x : Int) - 1 = (j : Int) := by omega
                        have hk0 : decide ((0 : Int) < (x : Int)) = true := decide_eq_true (by omega)
                        have hk0' : decide (0 < x) = true := decide_eq_true (by omega)
                        have hjn : j < lk := by omega
                        by_cases hc : zs.getD x 0 ≤ zs.getD j 0
                        · have HF := Lib.hid (HFE.out x hxl (fun e => by have := e.1; rw [HLO.out] at this; omega))
                          have dc : decide (zs.getD x 0 ≤ zs.getD j 0) = true := decide_eq_true hc
                          clear hr hc hj
                          generalize zs.getD x 0 = c at hcx HRR dc
                          generalize zs.getD j 0 = d at hcx2 dc
                          go_wp2
                          go_quiet ((go_at_call 91; with_reducible exact Calls.quiet_of_same (in_true c 0 (r - 1) _ HRR.out.1 HRR.out.2)))
                          go_wp2
                          go_ret
                          exact ⟨ret_bool2 HF.out.symm, (HDW.out.trans HDI.out).trans (by first | exact Drew.mk _ _ | exact ⟨_, rfl⟩)⟩
                        · have HNI := Lib.hid (se_on HLI.out (⟨by rw [HLO.out]; omega, by omega⟩ : loI zs x ≤ zs.getD x 0 ∧ zs.getD x 0 < r))
                          have dc : decide (zs.getD x 0 ≤ zs.getD j 0) = false := decide_eq_false hc
                          clear hr hc hj
                          generalize zs.getD x 0 = c at hcx HRR dc
                          generalize zs.getD j 0 = d at hcx2 dc
                          go_wp2
                          go_quiet ((go_at_call 91; with_reducible exact Calls.quiet_of_same (in_true c 0 (r - 1) _ HRR.out.1 HRR.out.2)))
                          go_wp2
                          exact ⟨⟨x + 1, _, by omega, by first | rfl | go_num | (congr 1), rfl, HNI, Lib.hid (HDI.out.trans (by first | exact Drew.mk _ _ | exact ⟨_, rfl⟩))⟩, by show lk - ((x : Int) + 1).toNat < lk - (x : Int).toNat; omega⟩
                    · have HF := Lib.hid (HFE.out x hxl (fun e => hr ⟨Int.le_trans hlo.1 e.1, Int.le_sub_one_of_lt e.2⟩))
                      have HRR := Lib.hid hr
                      clear hr
                      generalize zs.getD x 0 = c at hcx HRR
                      go_wp2
                      go_quiet ((go_at_call 91; with_reducible exact Calls.quiet_of_same (in_false c 0 (r - 1) _ HRR.out)))
                      go_wp2
                      go_ret
                      exact ⟨ret_bool2 HF.out.symm, (HDW.out.trans HDI.out).trans (by first | exact Drew.mk _ _ | exact ⟨_, rfl⟩)⟩
                  · obtain rfl : x = lk := by omega
                    have HNK := Lib.hid (HNX.out HLI.out)
                    go_wp2
                    exact ⟨⟨k + 1, _, by omega, by first | rfl | go_num | (congr 1), rfl, HNK, Lib.hid (HDW.out.trans HDI.out)⟩, by show n - ((k : Int) + 1).toNat < n - (k : Int).toNat; omega⟩
              · have HF := Lib.hid (gv_k (r := r) (n := n) (Ln := Ln) (Z := Z) hlt (fun e => hc3 (by have := se_len (by omega) e.2; omega)))
                have e1 : decide ((Ln k : Int) < 1) = false := decide_eq_false (by omega)
                have e2 : decide (32 < (Ln k : Int)) = true := decide_eq_true (by omega)
                clear hc2 hc3 HR
                generalize Ln k = lk at hck e1 e2
                go_wp2
                go_ret
                exact ⟨ret_bool2 HF.out.symm, HD.out⟩
            · have HF := Lib.hid (gv_k (r := r) (n := n) (Ln := Ln) (Z := Z) hlt (fun e => hc2 e.1))
              have e1 : decide ((Ln k : Int) < 1) = true := decide_eq_true (by omega)
              clear hc2 HR
              generalize Ln k = lk at hck e1
              go_wp2
              go_ret
              exact ⟨ret_bool2 HF.out.symm, HD.out⟩
          · obtain rfl : k = n := by omega
            have HF := Lib.hid (gv_end H1.out ⟨h2, h3⟩ HL.out)
            go_wp2
            go_ret
            exact ⟨ret_bool2 HF.out.symm, HD.out⟩
      · have HF := Lib.hid (gv_n (r := r) (n := n) (Ln := Ln) (Z := Z) (fun e => h3 e.2))
        have d1 : decide ((n : Int) < 1) = false := decide_eq_false (by omega)
        have d2 : decide (32 < (n : Int)) = true := decide_eq_true (by omega)
        clear h1
        go_enter Try.func74, Try.ntmps74
        go_wp2_with (first | (go_at_call 91; refine (in_true r 1 32 _ H1.out.1 H1.out.2).mono ?_; rintro e w' ⟨rfl, hw⟩; have hw := hw.symm; subst hw) | fail)
        go_ret
        exact ⟨ret_bool2 HF.out.symm, Drew.refl _⟩
    · have HF := Lib.hid (gv_n (r := r) (n := n) (Ln := Ln) (Z := Z) (fun e => h2 e.1))
      have d1 : decide ((n : Int) < 1) = true := decide_eq_true (by omega)
      clear h1
      go_enter Try.func74, Try.ntmps74
      go_wp2_with (first | (go_at_call 91; refine (in_true r 1 32 _ H1.out.1 H1.out.2).mono ?_; rintro e w' ⟨rfl, hw⟩; have hw := hw.symm; subst hw) | fail)
      go_ret
      exact ⟨ret_bool2 HF.out.symm, Drew.refl _⟩
  · have HF := Lib.hid (gv_r (r := r) (n := n) (Ln := Ln) (Z := Z) h1)
    have H1 := Lib.hid h1
    clear h1
    go_enter Try.func74, Try.ntmps74
    go_wp2_with (first | (go_at_call 91; refine (in_false r 1 32 _ H1.out).mono ?_; rintro e w' ⟨rfl, hw⟩; have hw := hw.symm; subst hw) | fail)
    go_ret
    exact ⟨ret_bool2 HF.out.symm, Drew.refl _⟩
theorem two_cellsG (w : World) (x y : Value) (T : TypeId) : (w.alloc (.cells #[x, y] T)).cell? ⟨w.heap.size, 0, none⟩ = some x ∧ (w.alloc (.cells #[x, y] T)).cell? ⟨w.heap.size, 1, none⟩ = some y := by
  constructor <;> (rw [World.cell?_alloc_at _ _ _ _ rfl]; rfl)
set_option maxHeartbeats 2000000 in
theorem vg_spec (r : Int) (a : Option Addr) (n cap : Nat) (A : Nat → Option Addr) (Ln Cp : Nat → Nat) (Z : Nat → List Int) (w : World) (h : GRow w a n A Ln Cp Z) (hn : n + gtot Ln n ≤ 1048576) :
    Calls Try.prog 40 #[.agg #[.int .i64 r, .slice a n cap]] w fun e w' => e = .returned (.bool (gvB r n Ln Z)) ∧ Below w.heap.size w w' := by
  have HC := two_cellsG w (.int .i64 r) (.slice a n cap) 55
  have HG := Lib.hid (g7_spec w.heap.size r a n cap A Ln Cp Z (w.alloc (.cells #[.int .i64 r, .slice a n cap] 55)) (h.alloc _) hn HC.1 HC.2)
  clear h HC
  go_enter Try.func40, Try.ntmps40
  go_wp2_with (first | (go_at_call 74; refine HG.out.mono ?_; rintro e w2 ⟨rfl, hd⟩; have HD := Lib.hid hd.below; clear hd) | fail)
  go_ret
  exact ⟨rfl, Below.next (belowA _ _) HD.out⟩
end Go.Proofs.Ytmfegjflaajkkaa
