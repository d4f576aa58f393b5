/- TypeChance: walks and law. -/
import Derived.Test.YtkllihdfafomnaaCtl
import Derived.Test.YtkllihdfafomnaaCrt
namespace Go.Proofs.Ytkllihdfafomnaa
open Go.Proofs.Ytkllihdfafomnaa.Flo Go.RowKit Go.Proofs.Ytkllihdfafomnaa.Ctv

/-- A product with a chance, so many times. -/
def pwV (a : Option Nat) (z : Nat) : Nat → Option Nat
  | 0 => a
  | j + 1 => vop .mul .f32 (pwV a z j) (cls .f32 z)
/-- The chance of a type, behind the first k letters. -/
def tcV (za : List Nat) (cs : List Int) (n : Nat) : Nat → Option Nat
  | 0 => some (floatOfInt .f32 ((wrd cs n : Nat) : Int))
  | k + 1 => pwV (tcV za cs n k) (za.getD k 0) (cs.getD k 0).toNat
theorem words_le {cs : List Int} {n : Nat} (h : tyB cs n = true) : VLe .f32 62 (some (floatOfInt .f32 ((wrd cs n : Nat) : Int))) := by
  obtain ⟨⟨_, hn⟩, _, ht⟩ := ty_out h
  have h1 := wrd_le cs n hn ht
  have h2 : n ^ totN cs n < 2 ^ 62 := pow_all ⟨n, by omega⟩ ⟨totN cs n, by omega⟩
  refine ⟨_, rfl, ?_⟩
  refine (nearest_le .f32 (decide (((wrd cs n : Nat) : Int) < 0)) ((wrd cs n : Nat) : Int).natAbs 0 62 (leN_of 0 (by decide) (by decide) ?_) ⟨by decide, by decide⟩).1
  show ((wrd cs n : Nat) : Int).natAbs * 2 ^ 0 ≤ 2 ^ 62
  rw [Int.natAbs_natCast]
  omega
theorem pw_le {a : Option Nat} {z : Nat} {E : Int} (ha : VLe .f32 E a) (hz : VLe .f32 1 (cls .f32 z)) (hE0 : 0 ≤ E) : ∀ j : Nat, E + j ≤ 127 → VLe .f32 (E + j) (pwV a z j) := by
  intro j
  induction j with
  | zero => intro _; exact ha.mono (by omega)
  | succ j ih =>
    intro hj
    exact (vmul_le (ih (by omega)) hz ⟨by omega, by omega⟩).mono (by omega)
theorem tc_le {za : List Nat} {cs : List Int} {n : Nat} (hca : chS za n = true) (hty : tyB cs n = true) : ∀ k, k ≤ n → VLe .f32 (62 + totN cs k) (tcV za cs n k) := by
  intro k
  obtain ⟨⟨_, hn⟩, hp, ht⟩ := ty_out hty
  induction k with
  | zero => intro _; exact (words_le hty).mono (by show (62 : Int) ≤ 62 + ((0 : Nat) : Int); omega)
  | succ k ih =>
    intro hk
    have h1 := ih (by omega)
    have hT : totN cs (k + 1) = totN cs k + (cs.getD k 0).toNat := rfl
    have hle := totN_le cs hk
    have := pw_le h1 (ch_le hca (show k < n by omega)) (by omega) (cs.getD k 0).toNat (by omega)
    exact this.mono (by rw [hT]; omega)
def okC (za : List Nat) (cs : List Int) (n m : Nat) : Bool := tyB cs m && (rowB za n && decide (n = m))
theorem okC_out {za : List Nat} {cs : List Int} {n m : Nat} (h : okC za cs n m = true) : n = m ∧ tyB cs n = true ∧ chS za n = true ∧ rowB za n = true ∧ n ≤ 32 := by
  unfold okC at h
  rw [Bool.and_eq_true, Bool.and_eq_true] at h
  obtain ⟨h1, h2, h3⟩ := h
  have h3 := of_decide_eq_true h3
  subst h3
  have h4 := h2
  unfold rowB at h4
  rw [Bool.and_eq_true] at h4
  exact ⟨rfl, h1, (row_n h2).2, h2, (of_decide_eq_true h4.1).2⟩
theorem mul_cls {r z : Nat} {a : Option Nat} (h : cls .f32 r = a) (w : World) : cls .f32 (fres .mul .f32 r z w) = vop .mul .f32 a (cls .f32 z) := by rw [fres_cls, h]
set_option maxRecDepth 100000 in
set_option maxHeartbeats 4000000 in
theorem tcS (a b : Option Addr) (n m cap capb : Nat) (za : List Nat) (cs : List Int) (w : World) (ha : FRow w a n za) (hb : IRow w b m cs) (hn : n ≤ 1048576) (hm : m ≤ 1048576) :
    Calls Try.prog 48 #[.slice a n cap, .slice b m capb] w fun e w' => ∃ r, e = .returned (.tuple #[.float .f32 r, .bool (okC za cs n m)]) ∧ cls .f32 r = ansV (okC za cs n m) (tcV za cs n n) ∧ Drew w w' := by
  have HA := Lib.hid ha
  have HB := Lib.hid hb
  clear ha hb
  cases h1 : rowB za n with
  | false =>
    have HR : Hid (okC za cs n m = false) := Lib.hid (by unfold okC; rw [h1]; simp)
    go_enter Try.func48, Try.ntmps48
    go_wp2_with (first | (go_at_call 79; refine (row_spec _ _ _ za _ HA.out hn).mono ?_; rintro e w' ⟨rfl, q1, rfl⟩) | go_in)
    go_ret2
    exact ⟨0, ret_fb HR.out.symm, by rw [HR.out]; rfl, Drew.mk _ _⟩
  | true =>
    cases h2 : tyB cs m with
    | false =>
      have HR : Hid (okC za cs n m = false) := Lib.hid (by unfold okC; rw [h2]; rfl)
      go_enter Try.func48, Try.ntmps48
      go_wp2_with (first | (go_at_call 79; refine (row_spec _ _ _ za _ HA.out hn).mono ?_; rintro e w' ⟨rfl, q1, rfl⟩) | (go_at_call 96; refine (type_spec _ _ _ cs _ (HB.out.drewN _) hm).mono ?_; rintro e w' ⟨rfl, rfl⟩) | go_in)
      go_ret2
      exact ⟨0, ret_fb HR.out.symm, by rw [HR.out]; rfl, Drew.mk _ _⟩
    | true =>
      by_cases he : n = m
      · subst he
        have hok : okC za cs n n = true := by unfold okC; rw [h1, h2]; simp
        have HR := Lib.hid hok
        obtain ⟨_, hty, hca, _, hn32⟩ := okC_out hok
        have HY := Lib.hid hty
        have HCA := Lib.hid hca
        have HLE := Lib.hid (tc_le hca hty n (Nat.le_refl _))
        obtain ⟨_, hp, ht⟩ := ty_out hty
        have HP := Lib.hid hp
        have HT := Lib.hid ht
        have HTL := Lib.hid (fun k (h : k ≤ n) => totN_le cs h)
        clear hok hty hca hp ht
        go_enter Try.func48, Try.ntmps48
        go_wp2_with (first | (go_at_call 79; refine (row_spec _ _ _ za _ HA.out hn).mono ?_; rintro e w' ⟨rfl, q1, rfl⟩) | (go_at_call 96; refine (type_spec _ _ _ cs _ (HB.out.drewN _) hn).mono ?_; rintro e w' ⟨rfl, rfl⟩) | (go_at_call 97; refine (words_spec _ _ _ cs _ (HB.out.drewN _) HY.out).mono ?_; rintro e w' ⟨rfl, rfl⟩) | go_in)
        clear h1 h2
        have H0 : Hid (cls .f32 (floatOfInt .f32 ((wrd cs n : Nat) : Int)) = tcV za cs n 0) := Lib.hid (cls_int _ _)
        generalize floatOfInt .f32 ((wrd cs n : Nat) : Int) = f0 at H0 ⊢
        go_loopw [6, 7] (fun sv iv w' => ∃ k q r : Nat, k ≤ n ∧ sv = .float .f32 r ∧ Hid (cls .f32 r = tcV za cs n k) ∧ iv = .int .i64 k ∧ w' = w.drewN q) (fun _ iv _ => n - (intOf iv).toNat)
        case atStart => exact ⟨0, _, _, by omega, rfl, H0, rfl, rfl⟩
        case round =>
          obtain ⟨k, q, r, hk, rfl, HS0, rfl, rfl⟩ := hrel
          by_cases hlt : k < n
          · obtain ⟨b1, o1, rfl, hck1⟩ := HA.out.cell hlt
            obtain ⟨b2, o2, rfl, hck2⟩ := HB.out.cell hlt
            obtain ⟨c, hc⟩ : ∃ c : Nat, cs.getD k 0 = c := ⟨(cs.getD k 0).toNat, by have := HP.out k hlt; omega⟩
            have hcb : c ≤ 20 := by
              have e1 : totN cs (k + 1) = totN cs k + (cs.getD k 0).toNat := rfl
              have e2 := HTL.out (k + 1) (by omega)
              have e3 := HT.out
              rw [hc] at e1
              simp at e1
              omega
            have HE : Hid (tcV za cs n (k + 1) = pwV (tcV za cs n k) (za.getD k 0) c) := Lib.hid (by
              show pwV _ _ _ = _
              rw [hc]; simp)
            rw [hc] at hck2
            clear hc
            generalize za.getD k 0 = x at hck1 HE
            clear HA HB HCA HP HTL
            go_wp2
            go_loopw [6, 8] (fun sv jv w' => ∃ j q2 r2 : Nat, j ≤ c ∧ sv = .float .f32 r2 ∧ Hid (cls .f32 r2 = pwV (tcV za cs n k) x j) ∧ jv = .int .i64 j ∧ w' = w.drewN q2) (fun _ jv _ => c - (intOf jv).toNat)
            case atStart => exact ⟨0, _, _, by omega, rfl, HS0, rfl, rfl⟩
            case round =>
              obtain ⟨j, q2, r2, hj, rfl, HJ, rfl, rfl⟩ := hrel
              by_cases hlt2 : j < c
              · have HM : Hid (∀ w2, cls .f32 (fres .mul .f32 r2 x w2) = pwV (tcV za cs n k) x (j + 1)) := Lib.hid (fun w2 => mul_cls HJ.out w2)
                go_wp2
                exact ⟨⟨j + 1, _, _, by omega, rfl, Lib.hid (HM.out _), by first | rfl | go_num | (congr 1), rfl⟩, by show c - ((j : Int) + 1).toNat < c - (j : Int).toNat; omega⟩
              · obtain rfl : j = c := by omega
                go_wp2
                exact ⟨⟨k + 1, _, _, by omega, rfl, Lib.hid (HJ.out.trans HE.out.symm), by first | rfl | go_num | (congr 1), rfl⟩, by show n - ((k : Int) + 1).toNat < n - (k : Int).toNat; omega⟩
          · obtain rfl : k = n := by omega
            go_wp2_with (first | (go_at_call 66; refine (number_spec _ (le_fin HLE.out HS0.out) _).mono ?_; rintro e w' ⟨rfl, q3, rfl⟩) | go_in)
            go_ret2
            exact ⟨_, ret_fb HR.out.symm, by rw [HR.out]; exact HS0.out, Drew.mk _ _⟩
      · have HR : Hid (okC za cs n m = false) := Lib.hid (by unfold okC; rw [decide_eq_false he]; simp)
        have hne : ((n : Int) == m) = false := by simp; omega
        go_enter Try.func48, Try.ntmps48
        go_wp2_with (first | (go_at_call 79; refine (row_spec _ _ _ za _ HA.out hn).mono ?_; rintro e w' ⟨rfl, q1, rfl⟩) | (go_at_call 96; refine (type_spec _ _ _ cs _ (HB.out.drewN _) hm).mono ?_; rintro e w' ⟨rfl, rfl⟩) | go_in)
        go_ret2
        exact ⟨0, ret_fb HR.out.symm, by rw [HR.out]; rfl, Drew.mk _ _⟩
theorem tyV_yes {cs : List Int} {n : Nat} (h : tyB cs n = true) : tyV cs n = ((wrd cs n : Nat) : Int) := by unfold tyV; rw [h]; rfl
set_option maxRecDepth 100000 in
set_option maxHeartbeats 4000000 in
theorem tcI (a b : Option Addr) (n m cap capb : Nat) (za : List Nat) (cs : List Int) (w : World) (ha : FRow w a n za) (hb : IRow w b m cs) (hn : n ≤ 1048576) (hm : m ≤ 1048576) :
    Calls Try.prog 49 #[.slice a n cap, .slice b m capb] w fun e w' => ∃ r, e = .returned (.tuple #[.float .f32 r, .bool (okC za cs n m)]) ∧ cls .f32 r = ansV (okC za cs n m) (tcV za cs n n) ∧ Drew w w' := by
  have HA := Lib.hid ha
  have HB := Lib.hid hb
  clear ha hb
  cases h2 : tyB cs m with
  | false =>
    have HR : Hid (okC za cs n m = false) := Lib.hid (by unfold okC; rw [h2]; rfl)
    go_enter Try.func49, Try.ntmps49
    go_wp2_with (first | (go_at_call 98; refine (words_impl _ _ _ cs _ HB.out hm).mono ?_; rintro e w' ⟨rfl, rfl⟩) | go_in)
    go_ret2
    exact ⟨0, ret_fb HR.out.symm, by rw [HR.out]; rfl, Drew.refl _⟩
  | true =>
    cases h1 : rowB za n with
    | false =>
      have HR : Hid (okC za cs n m = false) := Lib.hid (by unfold okC; rw [h1]; simp)
      go_enter Try.func49, Try.ntmps49
      go_wp2_with (first | (go_at_call 98; refine (words_impl _ _ _ cs _ HB.out hm).mono ?_; rintro e w' ⟨rfl, rfl⟩) | (go_at_call 81; refine (row_impl _ _ _ za _ HA.out hn).mono ?_; rintro e w' ⟨rfl, q1, rfl⟩) | go_in)
      go_ret2
      exact ⟨0, ret_fb HR.out.symm, by rw [HR.out]; rfl, Drew.mk _ _⟩
    | true =>
      by_cases he : n = m
      · subst he
        have hok : okC za cs n n = true := by unfold okC; rw [h1, h2]; simp
        have HR := Lib.hid hok
        obtain ⟨_, hty, hca, _, hn32⟩ := okC_out hok
        have HV := Lib.hid (tyV_yes hty)
        obtain ⟨_, hp, ht⟩ := ty_out hty
        have HP := Lib.hid hp
        have HT := Lib.hid ht
        have HTL := Lib.hid (fun k (h : k ≤ n) => totN_le cs h)
        clear hok hty hca hp ht
        go_enter Try.func49, Try.ntmps49
        go_wp2_with (first | (go_at_call 98; refine (words_impl _ _ _ cs _ HB.out hn).mono ?_; rintro e w' ⟨rfl, rfl⟩) | (go_at_call 81; refine (row_impl _ _ _ za _ HA.out hn).mono ?_; rintro e w' ⟨rfl, q1, rfl⟩) | go_in)
        clear h1 h2
        rw [HV.out]
        have H0 : Hid (cls .f32 (floatOfInt .f32 ((wrd cs n : Nat) : Int)) = tcV za cs n 0) := Lib.hid (cls_int _ _)
        generalize floatOfInt .f32 ((wrd cs n : Nat) : Int) = f0 at H0 ⊢
        go_loopw [8, 34] (fun sv iv w' => ∃ k q r : Nat, k ≤ n ∧ sv = .float .f32 r ∧ Hid (cls .f32 r = tcV za cs n k) ∧ iv = .int .i64 k ∧ w' = w.drewN q) (fun _ iv _ => n - (intOf iv).toNat)
        case atStart => exact ⟨0, _, _, by omega, rfl, H0, rfl, rfl⟩
        case round =>
          obtain ⟨k, q, r, hk, rfl, HS0, rfl, rfl⟩ := hrel
          by_cases hlt : k < n
          · obtain ⟨b1, o1, rfl, hck1⟩ := HA.out.cell hlt
            obtain ⟨b2, o2, rfl, hck2⟩ := HB.out.cell hlt
            obtain ⟨c, hc⟩ : ∃ c : Nat, cs.getD k 0 = c := ⟨(cs.getD k 0).toNat, by have := HP.out k hlt; omega⟩
            have hcb : c ≤ 20 := by
              have e1 : totN cs (k + 1) = totN cs k + (cs.getD k 0).toNat := rfl
              have e2 := HTL.out (k + 1) (by omega)
              have e3 := HT.out
              rw [hc] at e1
              simp at e1
              omega
            have HE : Hid (tcV za cs n (k + 1) = pwV (tcV za cs n k) (za.getD k 0) c) := Lib.hid (by
              show pwV _ _ _ = _
              rw [hc]; simp)
            rw [hc] at hck2
            clear hc
            generalize za.getD k 0 = x at hck1 HE
            clear HA HB HP HTL
            go_wp2
            go_loopw [8, 43] (fun sv jv w' => ∃ j q2 r2 : Nat, j ≤ c ∧ sv = .float .f32 r2 ∧ Hid (cls .f32 r2 = pwV (tcV za cs n k) x j) ∧ jv = .int .i64 j ∧ w' = w.drewN q2) (fun _ jv _ => c - (intOf jv).toNat)
            case atStart => exact ⟨0, _, _, by omega, rfl, HS0, rfl, rfl⟩
            case round =>
              obtain ⟨j, q2, r2, hj, rfl, HJ, rfl, rfl⟩ := hrel
              by_cases hlt2 : j < c
              · have HM : Hid (∀ w2, cls .f32 (fres .mul .f32 r2 x w2) = pwV (tcV za cs n k) x (j + 1)) := Lib.hid (fun w2 => mul_cls HJ.out w2)
                go_wp2
                exact ⟨⟨j + 1, _, _, by omega, rfl, Lib.hid (HM.out _), by first | rfl | go_num | (congr 1), rfl⟩, by show c - ((j : Int) + 1).toNat < c - (j : Int).toNat; omega⟩
              · obtain rfl : j = c := by omega
                go_wp2
                exact ⟨⟨k + 1, _, _, by omega, rfl, Lib.hid (HJ.out.trans HE.out.symm), by first | rfl | go_num | (congr 1), rfl⟩, by show n - ((k : Int) + 1).toNat < n - (k : Int).toNat; omega⟩
          · obtain rfl : k = n := by omega
            go_wp2
            go_ret2
            exact ⟨_, ret_fb HR.out.symm, by rw [HR.out]; exact HS0.out, Drew.mk _ _⟩
      · have HR : Hid (okC za cs n m = false) := Lib.hid (by unfold okC; rw [decide_eq_false he]; simp)
        have hne : ((n : Int) == m) = false := by simp; omega
        go_enter Try.func49, Try.ntmps49
        go_wp2_with (first | (go_at_call 98; refine (words_impl _ _ _ cs _ HB.out hm).mono ?_; rintro e w' ⟨rfl, rfl⟩) | (go_at_call 81; refine (row_impl _ _ _ za _ HA.out hn).mono ?_; rintro e w' ⟨rfl, q1, rfl⟩) | go_in)
        go_ret2
        exact ⟨0, ret_fb HR.out.symm, by rw [HR.out]; rfl, Drew.mk _ _⟩
set_option maxRecDepth 100000 in
set_option maxHeartbeats 4000000 in
theorem tc_walk (a : Option Addr) (n capa : Nat) (za : List Nat) (b : Option Addr) (m capb : Nat) (cs : List Int) (w : World) (ha : FRow w a n za) (hb : IRow w b m cs) :
    Calls Try.prog 13 #[.slice a n capa, .slice b m capb] w fun e w' => e = .returned (.bool true) ∧ Below w.heap.size w w' := by
  by_cases hma : n ≤ 1048576
  · have hd : decide (1048576 < (n : Int)) = false := by simp; omega
    by_cases hmb : m ≤ 1048576
    · have hd2 : decide (1048576 < (m : Int)) = false := by simp; omega
      have HA := Lib.hid ha
      have HB := Lib.hid hb
      clear ha hb
      go_enter Try.func13, Try.ntmps13
      go_wp2_with (first | (go_at_call 26; refine (toF _ _ _ za _ (by repeat (first | exact HA.out | refine FRow.drewN ?_ _ | refine FRow.alloc ?_ _)) hma).mono ?_; rintro e w2 ⟨rfl, rfl⟩) | (go_at_call 16; refine (toI _ _ _ cs _ (by repeat (first | exact HB.out | refine IRow.drewN ?_ _ | refine IRow.alloc ?_ _)) hmb).mono ?_; rintro e w2 ⟨rfl, rfl⟩) | (go_at_call 48; refine (tcS _ _ _ _ _ _ za cs _ ((FRow.new' HA.out.1 (by simp) _).alloc _) (IRow.new' HB.out.1 (by simp) _) hma hmb).mono ?_; rintro e w' ⟨r, rfl, hr, q1, rfl⟩; have Hr := Lib.hid hr; clear hr) | (go_at_call 49; refine (tcI _ _ _ _ _ _ za cs _ ((FRow.new' HA.out.1 (by simp) _).alloc _) (IRow.new' HB.out.1 (by simp) _) hma hmb).mono ?_; rintro e w' ⟨r2, rfl, hr, q2, rfl⟩; have Hr2 := Lib.hid hr; clear hr) | (go_at_call 28; refine (sameFloat_true _ _ (by rw [cres_wide, cres_wide, Hr.out, Hr2.out]) _).mono ?_; rintro e w2 ⟨rfl, n3, rfl⟩) | (go_at_call 18; refine (eqF _ _ _ _ _ za _ ((((FRow.new' HA.out.1 (by simp) _).alloc _).drewN _).alloc _) (FRow.new' HA.out.1 (by simp) _) hma).mono ?_; rintro e w2 ⟨rfl, n4, rfl⟩) | (go_at_call 19; refine (eqI _ _ _ _ _ cs _ ((((IRow.new' HB.out.1 (by simp) _).drewN _).alloc _).drewN _ |>.alloc _) (IRow.new' HB.out.1 (by simp) _) hmb).mono ?_; rintro e w2 ⟨rfl, n5, rfl⟩) | go_in)
      go_ret
      exact ⟨rfl, by repeat (first | exact Below.refl _ _ | refine Below.drewN' ?_ _ | refine Below.alloc ?_ (by simp <;> omega) _)⟩
    · go_enter Try.func13, Try.ntmps13
      go_wp2
      go_ret
      exact ⟨rfl, Below.refl _ _⟩
  · go_enter Try.func13, Try.ntmps13
    go_wp2
    go_ret
    exact ⟨rfl, Below.refl _ _⟩
end Go.Proofs.Ytkllihdfafomnaa
