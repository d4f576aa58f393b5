
/- SameSaved: the model's function. -/
import Derived.Test.YteikedgdegaeiaaSms
import Derived.Deep.QuietTactic
import Derived.BigQuiet
namespace Go.Proofs.Yteikedgdegaeiaa
open Go.Proofs.Yteikedgdegaeiaa.Flo Go.RowKit

set_option maxRecDepth 100000 in
set_option maxHeartbeats 8000000 in
theorem ss_spec (a b : Option Addr) (n m cap capb : Nat) (X Y : Nat → Sv) (w : World) (ha : VRow w a n X) (hb : VRow w b m Y) (hn : n ≤ 1048576) (hm : m ≤ 1048576) (vx : VOk X n) (vy : VOk Y m) :
    Calls Try.prog 19 #[.slice a n cap, .slice b m capb] w fun e w' => e = .returned (.bool (ssB n m X Y)) ∧ Drew w w' := by
  have HA := Lib.hid ha
  have HB := Lib.hid hb
  have HX := Lib.hid vx
  have HY := Lib.hid vy
  clear ha hb vx vy
  by_cases hnm : n = m
  · subst hnm
    go_enter Try.func19, Try.ntmps19
    go_wp2
    go_loopw [14] (fun iv w' => ∃ (k : Nat) (wr : World), k ≤ n ∧ iv = .int .i64 k ∧ wr = w' ∧ Hid (ssP k X Y) ∧ Hid (Drew w wr)) (fun iv _ => n - (intOf iv).toNat)
    case atStart => exact ⟨0, _, by omega, rfl, rfl, Lib.hid (by intro j hj; omega), Lib.hid (Drew.refl _)⟩
    case round =>
      obtain ⟨k, wr, hk, rfl, rfl, HL, HW⟩ := hrel
      by_cases hlt : k < n
      · obtain ⟨b1, o1, rfl, _, hc0, hc1, hc2⟩ := (HA.out.below HW.out.below).cell hlt
        obtain ⟨b2, o2, rfl, _, hd0, hd1, hd2⟩ := (HB.out.below HW.out.below).cell hlt
        have h1 := (HA.out.below HW.out.below).2 k hlt
        have h2 := (HB.out.below HW.out.below).2 k hlt
        obtain ⟨x1, x2, x3⟩ := HX.out k hlt
        obtain ⟨y1, y2, y3⟩ := HY.out k hlt
        have HE := Lib.hid (fun q => all_spec (X k).b (Y k).b (X k).m (Y k).m (X k).cb (Y k).cb (X k).z (Y k).z (wr.drewN q) (h1.2.below (Below.drewN' (Below.refl _ _) q)) (h2.2.below (Below.drewN' (Below.refl _ _) q)) x1 y1 x3 y3)
        have HBX := Lib.hid h1.1
        have HBY := Lib.hid h2.1
        have HSN : Hid (s1B (X k) (Y k) = false → ssB n n X Y = false) := Lib.hid (fun e => ss_no hlt e)
        clear h1 h2 x1 x3 y1 y2 y3
        cases hcs : ((X k).s.toList == (Y k).s.toList) with
        | false =>
          have hcs' : ¬ (X k).s.toList = (Y k).s.toList := by simpa using hcs
          have HF := Lib.hid (HSN.out (s1_s hcs))
          go_wp2
          go_quiet ((go_at_call 65; with_reducible exact Calls.quiet_of (HE.out _)))
          go_wp2
          go_ret
          exact ⟨ret_bool2 HF.out.symm, HW.out.trans (by first | exact Drew.mk _ _ | exact ⟨_, rfl⟩)⟩
        | true =>
          have hcs' : (X k).s.toList = (Y k).s.toList := by simpa using hcs
          by_cases hl : (X k).n = (Y k).n
          · have hl1 : (((X k).n : Int) == ((Y k).n : Int)) = true := by simp [hl]
            cases hz : sameAllB (X k).z (Y k).z (X k).m (Y k).m with
            | false =>
              have HF := Lib.hid (HSN.out (s1_zf hz))
              rw [hz] at HE
              go_wp2
              go_quiet ((go_at_call 65; with_reducible exact Calls.quiet_of (HE.out _)))
              go_wp2
              go_ret
              exact ⟨ret_bool2 HF.out.symm, HW.out.trans (by first | exact Drew.mk _ _ | exact ⟨_, rfl⟩)⟩
            | true =>
              rw [hz] at HE
              have HNX : Hid (eqBB (X k).f (Y k).f (X k).n (Y k).n = true → ssP (k + 1) X Y) := Lib.hid (fun e => ss_on HL.out (by rw [s1_z hcs e]; exact hz))
              have HNF : Hid (eqBB (X k).f (Y k).f (X k).n (Y k).n = false → ssB n n X Y = false) := Lib.hid (fun e => HSN.out (s1_bf e))
              rw [← hl] at hd1 HBY HNX HNF
              go_wp2
              go_quiet ((go_at_call 65; with_reducible exact Calls.quiet_of (HE.out _)))
              go_wp2
              go_loopw [63] (fun iv w' => ∃ (j : Nat) (wi : World), j ≤ (X k).n ∧ iv = .int .i64 j ∧ wi = w' ∧ Hid (∀ i, i < j → (X k).f i = (Y k).f i) ∧ Hid (Drew wr wi)) (fun iv _ => (X k).n - (intOf iv).toNat)
              case atStart => exact ⟨0, _, by omega, rfl, rfl, Lib.hid (by intro j hj; omega), Lib.hid (by first | exact Drew.mk _ _ | exact ⟨_, rfl⟩)⟩
              case round =>
                obtain ⟨j, wi, hj, rfl, rfl, HI, HV⟩ := hrel
                have hi1 : wi.cell? ⟨b1, o1 + k * 3 + 1, none⟩ = some (.slice (X k).a (X k).n (X k).ca) := by obtain ⟨q, hq⟩ := HV.out; rw [hq]; exact hc1
                have hj1 : wi.cell? ⟨b2, o2 + k * 3 + 1, none⟩ = some (.slice (Y k).a (X k).n (Y k).ca) := by obtain ⟨q, hq⟩ := HV.out; rw [hq]; exact hd1
                by_cases hjl : j < (X k).n
                · obtain ⟨b3, o3, e3, hcx⟩ := (HBX.out.below HV.out.below).cell hjl
                  obtain ⟨b4, o4, e4, hcy⟩ := (HBY.out.below HV.out.below).cell hjl
                  rw [e3] at hi1
                  rw [e4] at hj1
                  by_cases hfe : (X k).f j = (Y k).f j
                  · have HN : Hid (∀ i, i < j + 1 → (X k).f i = (Y k).f i) := Lib.hid (fun i hi => by
                      by_cases e : i < j
                      · exact HI.out i e
                      · obtain rfl : i = j := by omega
                        exact hfe)
                    rw [← hfe] at hcy
                    clear hc0 hc1 hc2 hd0 hd1 hd2 hfe
                    generalize (X k).f j = bx at hcx hcy
                    go_wp2
                    go_quiet (fail)
                    go_wp2
                    exact ⟨⟨j + 1, _, by omega, by first | rfl | go_num | (congr 1), rfl, HN, Lib.hid (HV.out.trans (by first | exact Drew.mk _ _ | exact ⟨_, rfl⟩))⟩, by show (X k).n - ((j : Int) + 1).toNat < (X k).n - (j : Int).toNat; omega⟩
                  · have HF := Lib.hid (HNF.out (eqBB_no hjl hfe))
                    have hfe1 : ((X k).f j == (Y k).f j) = false := by simpa using hfe
                    have hfe2 : ((X k).f j != (Y k).f j) = true := by simpa using hfe
                    clear hc0 hc1 hc2 hd0 hd1 hd2
                    generalize (X k).f j = bx at hcx hfe hfe1 hfe2
                    generalize (Y k).f j = by9 at hcy hfe hfe1 hfe2
                    go_wp2
                    go_quiet (fail)
                    go_wp2
                    go_ret
                    exact ⟨ret_bool2 HF.out.symm, (HW.out.trans HV.out).trans (by first | exact Drew.mk _ _ | exact ⟨_, rfl⟩)⟩
                · obtain rfl : j = (X k).n := by omega
                  have HNK := Lib.hid (HNX.out (eqBB_end HI.out))
                  go_wp2
                  exact ⟨⟨k + 1, _, by omega, by first | rfl | go_num | (congr 1), rfl, HNK, Lib.hid (HW.out.trans HV.out)⟩, by show n - ((k : Int) + 1).toNat < n - (k : Int).toNat; omega⟩
          · have HF := Lib.hid (HSN.out (s1_bf (eqBB_len hl)))
            have hl1 : (((X k).n : Int) == ((Y k).n : Int)) = false := by simp; omega
            have hl2 : (((X k).n : Int) != ((Y k).n : Int)) = true := by simp; omega
            go_wp2
            go_quiet ((go_at_call 65; with_reducible exact Calls.quiet_of (HE.out _)))
            go_wp2
            go_ret
            exact ⟨ret_bool2 HF.out.symm, HW.out.trans (by first | exact Drew.mk _ _ | exact ⟨_, rfl⟩)⟩
      · obtain rfl : k = n := by omega
        have HF := Lib.hid (ss_yes HL.out)
        go_wp2
        go_ret
        exact ⟨ret_bool2 HF.out.symm, HW.out⟩
  · have HF := Lib.hid (ss_len (X := X) (Y := Y) hnm)
    have hd : ((n : Int) == (m : Int)) = false := by simp; omega
    have hd2 : ((n : Int) != (m : Int)) = true := by simp; omega
    clear hnm
    go_enter Try.func19, Try.ntmps19
    go_wp2
    go_ret
    exact ⟨ret_bool2 HF.out.symm, Drew.refl _⟩
end Go.Proofs.Yteikedgdegaeiaa
