
/- StoreAll: what both answer. -/
import Derived.Test.YtnljabgkaelplaaZsg
import Derived.Test.YtnljabgkaelplaaSvr
set_option linter.unusedVariables false
set_option linter.unusedSimpArgs false
namespace Go.Proofs.Ytnljabgkaelplaa
open Go.Proofs.Ytnljabgkaelplaa.Flo Go.RowKit Go.Shelf

def s1v (x : Sv) : Bool := svB x.s x.n x.z x.m
def s1t (x : Sv) : List UInt8 := stA x.s.data.toList x.f x.n x.z x.m
def saP (X : Nat → Sv) (k : Nat) : Prop := ∀ i, i < k → s1v (X i) = true
instance (X : Nat → Sv) (k : Nat) : Decidable (saP X k) := inferInstanceAs (Decidable (∀ i, i < k → s1v (X i) = true))
def saB (X : Nat → Sv) (n : Nat) : Bool := decide (n ≤ 8) && decide (saP X n)
def saL (X : Nat → Sv) : Nat → List UInt8
  | 0 => []
  | k + 1 => saL X k ++ s1t (X k)
def saT (X : Nat → Sv) (n : Nat) : ByteArray := if saB X n = true then txB (saL X n) else ⟨#[]⟩
theorem s1t_len {x : Sv} (h : s1v x = true) : (s1t x).length ≤ 1000 := by
  have h1 := sv_yes h
  unfold s1t stA stP
  rw [List.length_append, Zs.pre_len, Zs.nb_len]
  omega
theorem saL_len (X : Nat → Sv) : ∀ k, saP X k → (saL X k).length ≤ 1000 * k
  | 0, _ => Nat.le_refl _
  | k + 1, h => by
    have h1 := saL_len X k (fun i hi => h i (by omega))
    have h2 := s1t_len (h k (by omega))
    show (saL X k ++ s1t (X k)).length ≤ _
    rw [List.length_append]
    omega
theorem saP_on {X : Nat → Sv} {k : Nat} (h : saP X k) (h2 : s1v (X k) = true) : saP X (k + 1) := fun i hi => by
  by_cases e : i < k
  · exact h i e
  · obtain rfl : i = k := by omega
    exact h2
theorem sa_len {X : Nat → Sv} {n : Nat} (h : ¬ n ≤ 8) : saB X n = false := by unfold saB; rw [decide_eq_false h]; rfl
theorem sa_no {X : Nat → Sv} {n k : Nat} (hk : k < n) (h : s1v (X k) = false) : saB X n = false := by
  unfold saB
  rw [decide_eq_false (p := saP X n) (fun e => by rw [e k hk] at h; cases h)]; simp
theorem sa_yes {X : Nat → Sv} {n : Nat} (h : n ≤ 8) (h2 : saP X n) : saB X n = true := by unfold saB; rw [decide_eq_true h, decide_eq_true h2]; rfl
theorem saT_yes {X : Nat → Sv} {n : Nat} (h : saB X n = true) : saT X n = txB (saL X n) := if_pos h
theorem saT_no {X : Nat → Sv} {n : Nat} (h : saB X n = false) : saT X n = ⟨#[]⟩ := if_neg (by rw [h]; decide)
def SOk (X : Nat → Sv) (n : Nat) : Prop := ∀ k, k < n → Wf (X k).z (X k).m ∧ (X k).s.size ≤ 1048576 ∧ (X k).n ≤ 1048576 ∧ (X k).m ≤ 1048576
theorem s1_stT (x : Sv) : stT x.s x.f x.n x.z x.m = if s1v x = true then txB (s1t x) else ⟨#[]⟩ := rfl
set_option maxRecDepth 100000 in
set_option maxHeartbeats 4000000 in
theorem sai_all (a : Option Addr) (n cap : Nat) (X : Nat → Sv) (w : World) (h : VRow w a n X) (hn : n ≤ 1048576) (hx : SOk X n) : Calls Try.prog 16 #[.slice a n cap] w fun e w' => e = .returned (.tuple #[.string (saT X n), .bool (saB X n)]) ∧ Below w.heap.size w w' := by
  by_cases h8 : n ≤ 8
  · have d1 : decide (8 < (n : Int)) = false := decide_eq_false (by omega)
    have d1b : decide (8 < n) = false := decide_eq_false (by omega)
    have HA := Lib.hid h
    have HX := Lib.hid hx
    have HB := Lib.hid (Bld.fresh 79 5 w)
    have HW := Lib.hid (belowA w (.cells #[.pointer none, .slice none 0 0] 79))
    clear h hx
    go_enter Try.func16, Try.ntmps16
    go_wp2_with fail
    go_loopw [14] (fun iv w' => ∃ (k : Nat) (wr : World), k ≤ n ∧ iv = .int .i64 (k : Int) ∧ wr = w' ∧ Hid (saP X k) ∧ Hid (Bld 79 5 w.heap.size (saL X k) wr) ∧ Hid (Below w.heap.size w wr)) (fun iv _ => n - (intOf iv).toNat)
    case atStart => exact ⟨0, _, by omega, rfl, rfl, Lib.hid (fun i hi => by omega), HB, HW⟩
    case round =>
      obtain ⟨k, wr, hk, rfl, rfl, HP, HB, HW⟩ := hrel
      by_cases hlt : k < n
      · have hR := HA.out.below HW.out
        obtain ⟨b, o, rfl, hbl, hc0, hc1, hc2⟩ := hR.cell hlt
        obtain ⟨hd1, hd2⟩ := hR.2 k hlt
        obtain ⟨hx1, hx2, hx3, hx4⟩ := HX.out k hlt
        have HSL : Hid (saL X (k + 1) = saL X k ++ s1t (X k)) := Lib.hid rfl
        have hl1 := saL_len X k HP.out
        have HV := Lib.hid (saP_on (X := X) (k := k) HP.out)
        have HNO := Lib.hid (sa_no (X := X) hlt)
        have HTN := Lib.hid (saT_no (X := X) (n := n))
        have HCL := Lib.hid (s1t_len (x := X k))
        have HAL := belowA wr (.cells #[.string (X k).s, .slice (X k).a (X k).n (X k).ca, .slice (X k).b (X k).m (X k).cb] 29)
        have HALB := Lib.hid HAL
        have HST := Lib.hid (sti_all (X k).s (X k).a (X k).n (X k).ca (X k).f (X k).b (X k).m (X k).cb (X k).z _ (hd1.below HAL) (hd2.below HAL) hx1 hx2 hx3 hx4)
        rw [s1_stT, show svB (X k).s (X k).n (X k).z (X k).m = s1v (X k) from rfl] at HST
        clear hd1 hd2 hx1 hx2 hx3 hx4 HAL hR
        generalize s1t (X k) = T at HSL HCL HST
        generalize s1v (X k) = V at HV HNO HCL HST
        generalize X k = x at hc0 hc1 hc2 HST HALB
        cases V with
        | true =>
          rw [if_pos rfl] at HST
          have hT := HCL.out rfl
          clear HCL HNO HTN
          go_wp2_with (first | (go_at_call 11; (with_reducible refine HST.out.mono ?_); rintro e w3 ⟨rfl, hb3⟩; have HB := Lib.hid ((HB.out.below HALB.out).below hb3); have HW := Lib.hid (Below.next (Below.next HW.out HALB.out) hb3); clear hb3) | (go_at_call 46; (with_reducible refine (bld_write _ _ T _ HB.out (by omega)).mono ?_); rintro e w4 ⟨v4, rfl, hB, hbl⟩; have HB := Lib.hid hB; have HW := Lib.hid (HW.out.trans hbl); clear hB hbl) | fail)
          exact ⟨⟨k + 1, _, by omega, by first | rfl | go_num | (congr 1), rfl, Lib.hid (HV.out (by first | rfl | trivial)), Lib.hid (by rw [HSL.out]; exact HB.out), HW⟩, by show n - ((k : Int) + 1).toNat < n - (k : Int).toNat; omega⟩
        | false =>
          rw [if_neg (by decide)] at HST
          have HF := Lib.hid (HNO.out rfl)
          clear HCL HNO HV
          go_wp2_with (first | (go_at_call 11; (with_reducible refine HST.out.mono ?_); rintro e w3 ⟨rfl, hb3⟩; have HW := Lib.hid (Below.next (Below.next HW.out HALB.out) hb3); clear hb3) | fail)
          go_ret2
          exact ⟨by rw [HF.out, HTN.out HF.out]; rfl, HW.out⟩
      · obtain rfl : k = n := by omega
        have HF := Lib.hid (sa_yes h8 HP.out)
        have HT := Lib.hid (saT_yes (X := X) (n := k) HF.out)
        go_wp2_with (first | (go_at_call 53; (with_reducible refine (bld_string2 _ _ _ HB.out).mono ?_); rintro e w4 ⟨rfl, hB, hbl⟩; have HW := Lib.hid (HW.out.trans hbl); clear hB hbl) | fail)
        go_ret2
        exact ⟨by rw [HF.out, HT.out]; rfl, HW.out⟩
  · have HF := Lib.hid (sa_len (X := X) h8)
    have HT := Lib.hid (saT_no (X := X) (n := n) HF.out)
    have d1 : decide (8 < (n : Int)) = true := decide_eq_true (by omega)
    have d1b : decide (8 < n) = true := decide_eq_true (by omega)
    clear h hx
    go_enter Try.func16, Try.ntmps16
    go_wp2
    go_ret2
    exact ⟨by rw [HF.out, HT.out]; rfl, Below.refl _ _⟩
set_option maxRecDepth 100000 in
set_option maxHeartbeats 4000000 in
theorem sas_all (a : Option Addr) (n cap : Nat) (X : Nat → Sv) (w : World) (h : VRow w a n X) (hn : n ≤ 1048576) (hx : SOk X n) : Calls Try.prog 14 #[.slice a n cap] w fun e w' => e = .returned (.tuple #[.string (saT X n), .bool (saB X n)]) ∧ Below w.heap.size w w' := by
  by_cases h8 : n ≤ 8
  · have d1 : decide (8 < (n : Int)) = false := decide_eq_false (by omega)
    have d1b : decide (8 < n) = false := decide_eq_false (by omega)
    have HA := Lib.hid h
    have HX := Lib.hid hx
    have e0 : (ByteArray.mk #[]) = txB [] := rfl
    clear h hx
    go_enter Try.func14, Try.ntmps14
    go_wp2_with fail
    go_loopw [4, 11] (fun sv iv w' => ∃ (k : Nat) (wr : World), k ≤ n ∧ sv = .string (txB (saL X k)) ∧ iv = .int .i64 (k : Int) ∧ wr = w' ∧ Hid (saP X k) ∧ Hid (Below w.heap.size w wr)) (fun _ iv _ => n - (intOf iv).toNat)
    case atStart => exact ⟨0, _, by omega, rfl, rfl, rfl, Lib.hid (fun i hi => by omega), Lib.hid (Below.refl _ _)⟩
    case round =>
      obtain ⟨k, wr, hk, rfl, rfl, rfl, HP, HW⟩ := hrel
      by_cases hlt : k < n
      · have hR := HA.out.below HW.out
        obtain ⟨b, o, rfl, hbl, hc0, hc1, hc2⟩ := hR.cell hlt
        obtain ⟨hd1, hd2⟩ := hR.2 k hlt
        obtain ⟨hx1, hx2, hx3, hx4⟩ := HX.out k hlt
        have HSL : Hid (saL X (k + 1) = saL X k ++ s1t (X k)) := Lib.hid rfl
        have hl1 := saL_len X k HP.out
        have HV := Lib.hid (saP_on (X := X) (k := k) HP.out)
        have HNO := Lib.hid (sa_no (X := X) hlt)
        have HTN := Lib.hid (saT_no (X := X) (n := n))
        have HCL := Lib.hid (s1t_len (x := X k))
        have HVS := Lib.hid (vs_specO b (o + k * 3) (X k).s (X k).a (X k).n (X k).ca (X k).b (X k).m (X k).cb (X k).z wr hx2 hd2 hx3 hx4 hc0 hc1 hc2)
        rw [show svB (X k).s (X k).n (X k).z (X k).m = s1v (X k) from rfl] at HVS
        have HST : Hid (s1v (X k) = true → ∀ w2 : World, Below wr.heap.size wr w2 → Calls Try.prog 44 #[.pointer (some ⟨b, o + k * 3, none⟩)] w2 fun e w' => e = .returned (.string (txB (s1t (X k)))) ∧ Below w2.heap.size w2 w') := Lib.hid (fun hv w2 h2 => by
          obtain ⟨nm, hnm⟩ := txB_of (X k).s
          have h8 := sv_yes hv
          have h1 := name_pos hv
          have := sts_specO b (o + k * 3) nm (X k).a (X k).n (X k).ca (X k).f (X k).b (X k).m (X k).cb (X k).z w2 (hd1.below h2) (hd2.below h2) hx1 (by rw [hnm, txB_toList] at h8 h1; exact ⟨h1, h8.1⟩) h8.2.1 h8.2.2 (by rw [← hnm]; exact Sv3o.below ⟨hbl, hc0, hc1, hc2⟩ h2 hbl)
          have e : s1t (X k) = stA nm (X k).f (X k).n (X k).z (X k).m := by unfold s1t; rw [hnm, txB_toList]
          rw [e]
          exact this)
        clear hd1 hd2 hx1 hx2 hx3 hx4 hR
        generalize s1t (X k) = T at HSL HCL HST
        generalize s1v (X k) = V at HV HNO HCL HST HVS
        generalize X k = x at hc0 hc1 hc2
        generalize saL X k = S at HSL hl1 ⊢
        cases V with
        | true =>
          have hT := HCL.out rfl
          have HST2 := Lib.hid (HST.out rfl)
          have hadd := fun W : World => run_tx Try.prog S T (by omega) W
          clear HCL HNO HTN HST
          go_wp2_with (first | (go_at_call 43; (with_reducible refine HVS.out.mono ?_); rintro e w3 ⟨rfl, hb3⟩; have HB3 := Lib.hid hb3; clear hb3) | (go_at_call 44; (with_reducible refine (HST2.out _ HB3.out).mono ?_); rintro e w4 ⟨rfl, hb4⟩; have HW4 := Lib.hid (Below.next (Below.next HW.out HB3.out) hb4); clear hb4) | fail)
          exact ⟨⟨k + 1, _, by omega, by rw [HSL.out], by first | rfl | go_num | (congr 1), rfl, Lib.hid (HV.out (by first | rfl | trivial)), HW4⟩, by show n - ((k : Int) + 1).toNat < n - (k : Int).toNat; omega⟩
        | false =>
          have HF := Lib.hid (HNO.out rfl)
          clear HCL HNO HV HST
          go_wp2_with (first | (go_at_call 43; (with_reducible refine HVS.out.mono ?_); rintro e w3 ⟨rfl, hb3⟩; have HB3 := Lib.hid hb3; clear hb3) | fail)
          go_ret2
          exact ⟨by rw [HF.out, HTN.out HF.out]; rfl, Below.next HW.out HB3.out⟩
      · obtain rfl : k = n := by omega
        have HF := Lib.hid (sa_yes h8 HP.out)
        have HT := Lib.hid (saT_yes (X := X) (n := k) HF.out)
        go_wp2
        go_ret2
        exact ⟨by rw [HF.out, HT.out]; rfl, HW.out⟩
  · have HF := Lib.hid (sa_len (X := X) h8)
    have HT := Lib.hid (saT_no (X := X) (n := n) HF.out)
    have d1 : decide (8 < (n : Int)) = true := decide_eq_true (by omega)
    have d1b : decide (8 < n) = true := decide_eq_true (by omega)
    clear h hx
    go_enter Try.func14, Try.ntmps14
    go_wp2
    go_ret2
    exact ⟨by rw [HF.out, HT.out]; rfl, Below.refl _ _⟩
end Go.Proofs.Ytnljabgkaelplaa
