/- Letters that are merged, undone: the program. -/
import Derived.Test.YtbpmjgpfjlnlpaaUmw
namespace Go.Proofs.Ytbpmjgpfjlnlpaa
open Go.Proofs.Ytbpmjgpfjlnlpaa.Flo Go.RowKit

/-- What is returned. -/
def UPost (B : Bool) (L : List Int) (w : World) (e : Ending) (w' : World) : Prop :=
  (B = true ∧ (∃ v, e = .returned (.tuple #[v, .bool true]) ∧ RV w w' v L) ∧ Below w.heap.size w w') ∨ (B = false ∧ e = .returned (.tuple #[.slice none 0 0, .bool false]) ∧ Below w.heap.size w w')
set_option maxRecDepth 100000 in
set_option maxHeartbeats 4000000 in
theorem cl_any (a : Option Addr) (n cap : Nat) (zs : List Int) (w : World) (h : IRow w a n zs) (hn : n ≤ 1048576) :
    Calls Try.prog 91 #[.slice a n cap] w fun e w' => ∃ v, e = .returned v ∧ RV w w' v zs ∧ Below w.heap.size w w' := by
  have hl := h.1
  by_cases h0 : n = 0
  · subst h0
    cases a with
    | none =>
      have he : ∀ w : World, (binOp .eql 38 (.slice none 0 cap) (.slice none 0 0)).run Try.prog w = .ok (.bool true) w := fun _ => rfl
      clear h
      go_enter Try.func91, Try.ntmps91
      go_wp2
      go_ret
      exact ⟨_, rfl, .inl ⟨hl, none, 0, rfl⟩, Below.refl _ _⟩
    | some ad =>
      have he : ∀ w : World, (binOp .eql 38 (.slice (some ad) 0 cap) (.slice none 0 0)).run Try.prog w = .ok (.bool false) w := fun _ => rfl
      clear h
      go_enter Try.func91, Try.ntmps91
      go_wp2
      go_ret
      exact ⟨_, rfl, .inl ⟨hl, _, _, rfl⟩, by repeat (first | exact Below.refl _ _ | refine Below.drew ?_ | refine Below.drewN' ?_ _ | refine Below.alloc ?_ (by first | exact Nat.le_refl _ | (simp; done) | (simp; omega)) _)⟩
  · obtain ⟨b, o, rfl, _, _⟩ := h.cell' (k := 0) (by omega)
    refine (clone_impl b o n cap zs w h (by omega) hn).mono ?_
    rintro e w' ⟨g, cp, rfl, hnw⟩
    exact ⟨_, rfl, .inr ⟨by omega, g, cp, by rw [hl], by rw [hl]; exact hnw⟩, hnw.2.2.2⟩
set_option maxRecDepth 100000 in
set_option maxHeartbeats 8000000 in
theorem um_impl (a : Option Addr) (m cap : Nat) (zs : List Int) (b : Option Addr) (q : Nat) (rs : List Int) (x : Int) (w : World) (ha : IRow w a m zs) (hb : IRow w b q rs) (hok : umA zs m rs q x = true) :
    Calls Try.prog 37 #[.slice a m cap, .slice b q q, .int .i64 x] w (UPost (decide ((umR zs rs q x).length ≤ 64)) (umR zs rs q x) w) := by
  obtain ⟨hx, ⟨hq, hq2⟩, hr, hm, hz⟩ := umA_out hok
  have HLET := Lib.hid (umR_let ha.1 hok)
  have HA := Lib.hid ha
  have HB := Lib.hid hb
  have HX := Lib.hid hx
  have HRU : Hid (ruB rs x q = true) := Lib.hid (by unfold ruB; rw [decide_eq_true (⟨hq, hq2⟩ : q % 2 = 0 ∧ q ≤ 16), decide_eq_true hr]; rfl)
  have HLB : Hid (letB zs m (x + ((q / 2 : Nat) : Int)) = true) := Lib.hid (by unfold letB; rw [decide_eq_true hz, decide_eq_true (show m ≤ 512 by omega)]; rfl)
  have HLEN : Hid (∀ j, j ≤ q / 2 → (umL zs rs x (q / 2) j).length ≤ 16384) := Lib.hid (fun j hj => by
    have h1 := umL_le zs rs x (q / 2) j
    have h2 : 2 ^ j ≤ 2 ^ 8 := Nat.pow_le_pow_right (by decide) (by omega)
    have h3 : 2 ^ j * zs.length ≤ 2 ^ 8 * 64 := Nat.mul_le_mul h2 (by rw [ha.1]; exact hm)
    exact Nat.le_trans h1 (Nat.le_trans h3 (by decide)))
  obtain ⟨T, hT⟩ : ∃ T, T = q / 2 := ⟨_, rfl⟩
  have hqT : q = 2 * T := by omega
  have hT8 : T ≤ 8 := by omega
  have HUR : Hid (umR zs rs q x = umL zs rs x T T) := Lib.hid (by unfold umR; rw [← hT])
  rw [← hT] at HLB HLEN
  have hqd : ((q : Int)).tdiv 2 = (T : Int) := by rw [Int.tdiv_eq_ediv_of_nonneg (by omega)]; omega
  have d64 : decide (64 < (m : Int)) = false := decide_eq_false (by omega)
  obtain ⟨hx1, hx2⟩ := hx
  have HQT := Lib.hid hqT
  clear ha hb hok hr hz hq hT hqT
  go_enter Try.func37, Try.ntmps37
  go_wp2_with (first | (go_at_call 88; refine (as_true _ _ HX.out).mono ?_; rintro e w' ⟨rfl, rfl⟩) | (go_at_call 89; refine (ru_impl b q q rs x _ HB.out (by omega) HX.out).mono ?_; rw [HRU.out]; rintro e w' ⟨rfl, rfl⟩) | (go_at_call 90; refine (al_impl a m cap zs _ _ HA.out (by omega)).mono ?_; rw [HLB.out]; rintro e w' ⟨rfl, rfl⟩) | (go_at_call 91; refine (cl_any a m cap zs _ HA.out (by omega)).mono ?_; rintro e w2 ⟨v2, rfl, hv, hb2⟩; have HV2 := Lib.hid hv; have HW2 := Lib.hid hb2; clear hv hb2) | fail)
  go_loopw [9, 10] (fun v0 iv wr0 => ∃ (j : Nat) (v : Value) (wr : World), j ≤ T ∧ v = v0 ∧ iv = .int .i64 ((T : Int) - 1 - (j : Int)) ∧ wr = wr0 ∧ Hid (RV w wr v (umL zs rs x T j)) ∧ Hid (Below w.heap.size w wr)) (fun _ iv _ => (intOf iv + 1).toNat)
  case atStart => exact ⟨0, _, _, by omega, rfl, val_i (by omega), rfl, HV2, HW2⟩
  case round =>
    obtain ⟨j, v, wr, hj, rfl, rfl, rfl, HV, HW⟩ := hrel
    obtain ⟨av, cv, rfl, hrv⟩ := HV.out.form
    have HRV := Lib.hid hrv
    clear hrv
    have hqT := HQT.out
    by_cases hlt : j < T
    · obtain ⟨i, hi⟩ : ∃ i : Nat, i = T - 1 - j := ⟨_, rfl⟩
      have hiv : (T : Int) - 1 - (j : Int) = (i : Int) := by omega
      rw [hiv]
      have HIV := Lib.hid hiv
      clear hiv
      obtain ⟨b1, o1, rfl, _, _⟩ := HB.out.cell' (k := 2 * i) (by omega)
      have HPR := Lib.hid (irow_part (i := 2 * i) (HB.out.below HW.out) (by omega))
      have HL := Lib.hid (HLEN.out j hj)
      have HU : Hid (umL zs rs x T (j + 1) = unP (umL zs rs x T j) (rs.getD (2 * i) 0) (rs.getD (2 * i + 1) 0) (x + (i : Int)) (umL zs rs x T j).length) := Lib.hid (by rw [hi]; rfl)
      have hi2 : 2 * i + 2 ≤ q := by omega
      have hi3 : (2 : Int) * (i : Int) + 2 ≤ (q : Int) := by omega
      have hix : x + (i : Int) ≤ 100 := by omega
      clear hi hqT
      generalize umL zs rs x T j = L at HRV HL HU
      generalize rs.getD (2 * i) 0 = y1 at HPR HU
      generalize rs.getD (2 * i + 1) 0 = y2 at HPR HU
      go_wp2_with (first | (go_at_call 92; refine (un_impl av L.length cv L b1 (o1 + 2 * i) (q - 2 * i) y1 y2 (x + (i : Int)) _ HRV.out HPR.out HL.out).mono ?_; rintro e w3 ⟨v3, rfl, hv, hb3⟩; have HV3 := Lib.hid (hv.base HW.out); have HW3 := Lib.hid (Below.next HW.out hb3); clear hv hb3) | fail)
      exact ⟨⟨j + 1, _, _, by omega, rfl, val_i (by have := HIV.out; omega), rfl, Lib.hid (by rw [HU.out]; exact HV3.out), HW3⟩, by first | (simp [intOf]; done) | (simp [intOf]; omega)⟩
    · obtain rfl : j = T := by omega
      have hiv : (j : Int) - 1 - (j : Int) = -1 := by omega
      rw [hiv]
      clear hiv hqT
      rw [HUR.out] at HLET
      have HL := Lib.hid (HLEN.out j (Nat.le_refl _))
      generalize umL zs rs x j j = L at HRV HL HUR HLET HV
      by_cases h64 : L.length ≤ 64
      · have HIT : Hid (itB L L.length x = true) := Lib.hid (it_all HX.out h64 HLET.out)
        go_wp2_with (first | (go_at_call 87; refine (tn_true av L.length cv L x _ HRV.out (by have := HL.out; omega) HIT.out).mono ?_; rintro e w' ⟨rfl, rfl⟩) | fail)
        go_ret2
        exact .inl ⟨by rw [HUR.out]; exact decide_eq_true h64, ⟨_, rfl, by rw [HUR.out]; exact HV.out⟩, HW.out⟩
      · have HIT : Hid (itB L L.length x = false) := Lib.hid (it_m h64)
        go_wp2_with (first | (go_at_call 87; refine (tn_false av L.length cv L x _ HRV.out (by have := HL.out; omega) HIT.out).mono ?_; rintro e w' ⟨rfl, rfl⟩) | fail)
        go_ret2
        exact .inr ⟨by rw [HUR.out]; exact decide_eq_false h64, rfl, HW.out⟩
end Go.Proofs.Ytbpmjgpfjlnlpaa
