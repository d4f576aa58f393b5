
/- Parities: ValidParity, the model's; a code, or none. -/
import Derived.Test.YtaefmffmjbabcaaPst
namespace Go.Proofs.Ytaefmffmjbabcaa
open Go.Proofs.Ytaefmffmjbabcaa.Flo Go.RowKit Go.Proofs.Ytaefmffmjbabcaa.Pr

theorem Below.stepW {w w1 w2 : World} (h1 : Below w.heap.size w w1) (h2 : Below w1.heap.size w1 w2) : Below w.heap.size w w2 := Below.next h1 h2
set_option maxRecDepth 100000 in
set_option maxHeartbeats 8000000 in
theorem pi_spec (p : Nat) (r : Int) (a : Option Addr) (n cap : Nat) (zs : List Int) (w : World) (h : IRow w a n zs) (hn : n ≤ 1048576) (hps : p < w.heap.size) (h0 : w.cell? ⟨p, 0, none⟩ = some (.int .i64 r)) (hp : w.cell? ⟨p, 1, none⟩ = some (.slice a n cap)) :
    Calls Try.prog 108 #[.pointer (some ⟨p, 0, none⟩)] w fun e w' => e = .returned (.bool (paB r zs n)) ∧ Below w.heap.size w w' := by
  have HA := Lib.hid h
  clear h
  by_cases h1 : 1 ≤ r ∧ r ≤ 16
  · have H1 := Lib.hid h1
    obtain ⟨m, rfl⟩ : ∃ m : Nat, r = (m : Int) := ⟨r.toNat, by omega⟩
    have hm16 : m ≤ 16 := by omega
    have hm1 : 1 ≤ m := by omega
    clear h1
    by_cases h2 : 1 ≤ n
    · by_cases h3 : n ≤ 8
      · have d1 : decide ((n : Int) < 1) = false := decide_eq_false (by omega)
        have d2 : decide (8 < (n : Int)) = false := decide_eq_false (by omega)
        go_enter Try.func108, Try.ntmps108
        go_wp2_with (first | (go_at_call 67; refine (in_true (m : Int) 1 16 _ H1.out.1 H1.out.2).mono ?_; rintro e w' ⟨rfl, hw⟩; have hw := hw.symm; subst hw) | fail)
        go_loopw [3] (fun iv w' => ∃ k q : Nat, k ≤ n ∧ Hid (woP zs k m) ∧ iv = .int .i64 k ∧ w' = w.drewN q) (fun iv _ => n - (intOf iv).toNat)
        case atStart => exact ⟨0, 0, by omega, Lib.hid (by intro j hj; omega), rfl, rfl⟩
        case round =>
          obtain ⟨k, q, hk, HL, rfl, rfl⟩ := hrel
          by_cases hlt : k < n
          · obtain ⟨b1, o1, rfl, _, hck1⟩ := HA.out.cell' hlt
            cases hc : woB (zs.getD k 0) m with
            | true =>
              have HN : Hid (woP zs (k + 1) m) := Lib.hid (fun j hj => by
                by_cases e : j < k
                · exact HL.out j e
                · obtain rfl : j = k := by omega
                  exact of_decide_eq_true hc)
              generalize zs.getD k 0 = c at hck1 hc
              have HC := Lib.hid hc
              clear hc
              go_wp2
              go_region_with (first | (go_at_call 119; refine (word_spec c m _ hm16).mono ?_; rw [HC.out]; rintro e w' ⟨rfl, hw⟩; have hw := hw.symm; subst hw) | fail)
              all_goals
                go_wp2
                exact ⟨⟨k + 1, _, by omega, HN, by first | rfl | go_num | (congr 1), rfl⟩, by show n - ((k : Int) + 1).toNat < n - (k : Int).toNat; omega⟩
            | false =>
              have HF : Hid (paB (m : Int) zs n = false) := Lib.hid (pa_k hlt (by rw [Int.toNat_natCast]; exact of_decide_eq_false hc))
              generalize zs.getD k 0 = c at hck1 hc
              have HC := Lib.hid hc
              clear hc
              go_wp2
              go_region_with (first | (go_at_call 119; refine (word_spec c m _ hm16).mono ?_; rw [HC.out]; rintro e w' ⟨rfl, hw⟩; have hw := hw.symm; subst hw) | fail)
              all_goals
                go_wp2
                go_ret
                exact ⟨ret_bool2 HF.out.symm, by repeat (first | exact Below.refl _ _ | refine Below.drew ?_ | refine Below.drewN' ?_ _)⟩
          · obtain rfl : k = n := by omega
            obtain ⟨b1, o1, rfl, _, _⟩ := HA.out.cell' (k := 0) (by omega)
            have HF : Hid (paB (m : Int) zs k = decide ((ech (zN zs) m k m).k = k)) := Lib.hid (by have := pa_rank (zs := zs) (n := k) H1.out ⟨h2, h3⟩ (by rw [Int.toNat_natCast]; exact HL.out); rw [Int.toNat_natCast] at this; exact this)
            have HST : Hid (∀ w2 : World, IRow w2 (some ⟨b1, o1, none⟩) k zs → Calls Try.prog 146 #[.int .i64 (m : Int), .slice (some ⟨b1, o1, none⟩) k cap] w2 fun e w' => ∃ g cp, e = .returned (.tuple #[.slice (some ⟨g, 0, none⟩) k cp, .int .i64 ((ech (zN zs) m k m).k : Int)]) ∧ New w2 w' g (.il k (rI k (ech (zN zs) m k m).f))) := Lib.hid (fun w2 h => st_spec m b1 o1 k cap zs w2 h ⟨hm1, hm16⟩ ⟨h2, h3⟩ HL.out)
            generalize (ech (zN zs) m k m).k = rk at HF HST
            have hpp : ∀ w3 : World, Below w.heap.size w w3 → w3.cell? ⟨p, 1, none⟩ = some (.slice (some ⟨b1, o1, none⟩) k cap) := fun w3 hb => (hb.cell (p := ⟨p, 1, none⟩) hps).trans hp
            have HPP := Lib.hid hpp
            clear hpp
            go_wp2
            go_region_with (first | (go_at_call 146; refine (HST.out _ (by first | exact HA.out | exact HA.out.drewN _ | exact (HA.out.drewN _).drewN _)).mono ?_; rintro e w4 ⟨g4, cp4, rfl, hnw⟩; have HB4 : Hid (Below w.heap.size w w4) := Lib.hid (Below.next (by repeat (first | exact Below.refl _ _ | refine Below.drew ?_ | refine Below.drewN' ?_ _)) hnw.2.2.2); have hp4 := HPP.out _ HB4.out; clear hnw) | fail)
            all_goals
              by_cases hrk : rk = k
              · have hne : ((rk : Int) == (k : Int)) = true := by simp; omega
                have HFF : Hid (paB (m : Int) zs k = true) := Lib.hid (by rw [HF.out]; exact decide_eq_true hrk)
                clear hrk
                go_wp2
                go_ret
                exact ⟨ret_bool2 HFF.out.symm, by repeat (first | exact HB4.out | refine Below.drew ?_ | refine Below.drewN' ?_ _)⟩
              · have hne : ((rk : Int) == (k : Int)) = false := by simp; omega
                have HFF : Hid (paB (m : Int) zs k = false) := Lib.hid (by rw [HF.out]; exact decide_eq_false hrk)
                clear hrk
                go_wp2
                go_ret
                exact ⟨ret_bool2 HFF.out.symm, by repeat (first | exact HB4.out | refine Below.drew ?_ | refine Below.drewN' ?_ _)⟩
      · have HF := Lib.hid (pa_n (r := (m : Int)) (zs := zs) (n := n) (fun e => h3 e.2))
        have d1 : decide ((n : Int) < 1) = false := decide_eq_false (by omega)
        have d2 : decide (8 < (n : Int)) = true := decide_eq_true (by omega)
        go_enter Try.func108, Try.ntmps108
        go_wp2_with (first | (go_at_call 67; refine (in_true (m : Int) 1 16 _ H1.out.1 H1.out.2).mono ?_; rintro e w' ⟨rfl, hw⟩; have hw := hw.symm; subst hw) | fail)
        go_ret
        exact ⟨ret_bool2 HF.out.symm, Below.refl _ _⟩
    · have HF := Lib.hid (pa_n (r := (m : Int)) (zs := zs) (n := n) (fun e => h2 e.1))
      have d1 : decide ((n : Int) < 1) = true := decide_eq_true (by omega)
      go_enter Try.func108, Try.ntmps108
      go_wp2_with (first | (go_at_call 67; refine (in_true (m : Int) 1 16 _ H1.out.1 H1.out.2).mono ?_; rintro e w' ⟨rfl, hw⟩; have hw := hw.symm; subst hw) | fail)
      go_ret
      exact ⟨ret_bool2 HF.out.symm, Below.refl _ _⟩
  · have HF := Lib.hid (pa_r (zs := zs) (n := n) h1)
    have H1 := Lib.hid h1
    clear h1
    go_enter Try.func108, Try.ntmps108
    go_wp2_with (first | (go_at_call 67; refine (in_false r 1 16 _ H1.out).mono ?_; rintro e w' ⟨rfl, hw⟩; have hw := hw.symm; subst hw) | fail)
    go_ret
    exact ⟨ret_bool2 HF.out.symm, Below.refl _ _⟩
end Go.Proofs.Ytaefmffmjbabcaa
