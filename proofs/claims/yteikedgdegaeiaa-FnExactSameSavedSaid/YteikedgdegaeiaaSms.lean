
/- SameSaved: the functions. -/
import Derived.Test.YteikedgdegaeiaaSvr
namespace Go.Proofs.Yteikedgdegaeiaa
open Go.Proofs.Yteikedgdegaeiaa.Flo Go.RowKit

def s1B (x y : Sv) : Bool := (x.s.toList == y.s.toList) && (eqBB x.f y.f x.n y.n && sameAllB x.z y.z x.m y.m)
theorem s1_s {x y : Sv} (h : (x.s.toList == y.s.toList) = false) : s1B x y = false := by unfold s1B; rw [h]; rfl
theorem s1_b {x y : Sv} (h : (x.s.toList == y.s.toList) = true) (h2 : eqBB x.f y.f x.n y.n = false) : s1B x y = false := by unfold s1B; rw [h, h2]; rfl
theorem s1_z {x y : Sv} (h : (x.s.toList == y.s.toList) = true) (h2 : eqBB x.f y.f x.n y.n = true) : s1B x y = sameAllB x.z y.z x.m y.m := by unfold s1B; rw [h, h2]; rfl
theorem s1_zf {x y : Sv} (h2 : sameAllB x.z y.z x.m y.m = false) : s1B x y = false := by unfold s1B; rw [h2]; simp
theorem s1_bf {x y : Sv} (h2 : eqBB x.f y.f x.n y.n = false) : s1B x y = false := by unfold s1B; rw [h2]; simp
def ssP (n : Nat) (X Y : Nat → Sv) : Prop := ∀ k, k < n → s1B (X k) (Y k) = true
instance (n : Nat) (X Y : Nat → Sv) : Decidable (ssP n X Y) := inferInstanceAs (Decidable (∀ k, k < n → s1B (X k) (Y k) = true))
def ssB (n m : Nat) (X Y : Nat → Sv) : Bool := decide (n = m) && decide (ssP n X Y)
theorem ss_len {n m : Nat} {X Y : Nat → Sv} (h : ¬ n = m) : ssB n m X Y = false := by unfold ssB; rw [decide_eq_false h]; rfl
theorem ss_no {n k : Nat} {X Y : Nat → Sv} (hk : k < n) (h : s1B (X k) (Y k) = false) : ssB n n X Y = false := by
  unfold ssB; rw [decide_eq_false (p := ssP n X Y) (fun e => by rw [e k hk] at h; cases h)]; simp
theorem ss_yes {n : Nat} {X Y : Nat → Sv} (h : ssP n X Y) : ssB n n X Y = true := by unfold ssB; rw [decide_eq_true rfl, decide_eq_true h]; rfl
theorem ss_on {k : Nat} {X Y : Nat → Sv} (h : ssP k X Y) (h2 : s1B (X k) (Y k) = true) : ssP (k + 1) X Y := fun j hj => by
  by_cases e : j < k
  · exact h j e
  · obtain rfl : j = k := by omega
    exact h2
/-- What the sizes keep. -/
def VOk (X : Nat → Sv) (n : Nat) : Prop := ∀ k, k < n → Wf (X k).z (X k).m ∧ (X k).n ≤ 1048576 ∧ (X k).m ≤ 1048576
set_option maxRecDepth 100000 in
set_option maxHeartbeats 4000000 in
theorem c1_impl (x y : Sv) (w : World) (hx : VData w x) (hy : VData w y) (wx : Wf x.z x.m) (wy : Wf y.z y.m) (hx1 : x.n ≤ 1048576) (hx2 : x.m ≤ 1048576) (hy1 : y.n ≤ 1048576) (hy2 : y.m ≤ 1048576) :
    Calls Try.prog 67 #[.agg #[.string x.s, .slice x.a x.n x.ca, .slice x.b x.m x.cb], .agg #[.string y.s, .slice y.a y.n y.ca, .slice y.b y.m y.cb]] w fun e w' => e = .returned (.bool (s1B x y)) ∧ Below w.heap.size w w' := by
  have W0 := Lib.hid (Below.alloc (belowA w (.cells #[.string x.s, .slice x.a x.n x.ca, .slice x.b x.m x.cb] 28)) (by simp) (.cells #[.string y.s, .slice y.a y.n y.ca, .slice y.b y.m y.cb] 28))
  have HE := Lib.hid (fun W (hW : Below w.heap.size w W) => eb_impl x.a y.a x.n y.n x.ca y.ca x.f y.f W (hx.1.below hW) (hy.1.below hW) hx1 hy1)
  have HA := Lib.hid (fun W (hW : Below w.heap.size w W) => all_impl x.b y.b x.m y.m x.cb y.cb x.z y.z W (hx.2.below hW) (hy.2.below hW) wx wy hx2 hy2)
  have HC : Hid (∀ w2, Drew ((w.alloc (.cells #[.string x.s, .slice x.a x.n x.ca, .slice x.b x.m x.cb] 28)).alloc (.cells #[.string y.s, .slice y.a y.n y.ca, .slice y.b y.m y.cb] 28)) w2 → w2.cell? ⟨w.heap.size, 2, none⟩ = some (.slice x.b x.m x.cb) ∧ w2.cell? ⟨w.heap.size + 1, 2, none⟩ = some (.slice y.b y.m y.cb)) := Lib.hid (fun w2 hd => by
    constructor
    · rw [hd.below.cell (p := ⟨w.heap.size, 2, none⟩) (by simp; omega), World.cell?_alloc_past _ _ _ (by simp), World.cell?_alloc_at _ _ _ _ rfl]; rfl
    · rw [hd.below.cell (p := ⟨w.heap.size + 1, 2, none⟩) (by simp), World.cell?_alloc_at _ _ _ _ (by simp)]; rfl)
  clear hx hy wx wy hx1 hx2 hy1 hy2
  cases h1 : (x.s.toList == y.s.toList) with
  | true =>
    have h1' : x.s.toList = y.s.toList := by simpa using h1
    cases h2 : eqBB x.f y.f x.n y.n with
    | true =>
      have HF := Lib.hid (s1_z h1 h2)
      rw [h2] at HE
      clear h2
      generalize sameAllB x.z y.z x.m y.m = v at HA HF
      go_enter Try.func67, Try.ntmps67
      go_wp2_with (first | (go_at_call 68; refine (HE.out _ W0.out).mono ?_; rintro e w2 ⟨rfl, hd⟩; have HD1 := Lib.hid (Below.next W0.out hd.below); have hcells := HC.out w2 hd; have hz0 := hcells.1; have hz1 := hcells.2; clear hd hcells) | (go_at_call 69; refine (HA.out _ HD1.out).mono ?_; rintro e w3 ⟨rfl, hd⟩; have HD2 := Lib.hid (Below.next HD1.out hd.below); clear hd) | fail)
      go_ret
      exact ⟨ret_bool2 HF.out.symm, HD2.out⟩
    | false =>
      have HF := Lib.hid (s1_b h1 h2)
      rw [h2] at HE
      clear h2 HA
      go_enter Try.func67, Try.ntmps67
      go_wp2_with (first | (go_at_call 68; refine (HE.out _ W0.out).mono ?_; rintro e w2 ⟨rfl, hd⟩; have HD1 := Lib.hid (Below.next W0.out hd.below); have hcells := HC.out w2 hd; have hz0 := hcells.1; have hz1 := hcells.2; clear hd hcells) | fail)
      go_ret
      exact ⟨ret_bool2 HF.out.symm, HD1.out⟩
  | false =>
    have h1' : ¬ x.s.toList = y.s.toList := by simpa using h1
    have HF := Lib.hid (s1_s h1)
    clear HE HA
    go_enter Try.func67, Try.ntmps67
    go_wp2
    go_ret
    exact ⟨ret_bool2 HF.out.symm, W0.out⟩
set_option maxRecDepth 100000 in
set_option maxHeartbeats 4000000 in
theorem efv_impl (a b : Option Addr) (n m cap capb : Nat) (X Y : Nat → Sv) (w : World) (ha : VRow w a n X) (hb : VRow w b m Y) (hn : n ≤ 1048576) (hm : m ≤ 1048576) (vx : VOk X n) (vy : VOk Y m) :
    Calls Try.prog 66 #[.slice a n cap, .slice b m capb, .func (.func 67) #[] #[]] w fun e w' => e = .returned (.bool (ssB n m X Y)) ∧ Below w.heap.size w w' := by
  have HA := Lib.hid ha
  have HB := Lib.hid hb
  have HX := Lib.hid vx
  have HY := Lib.hid vy
  clear ha hb vx vy
  by_cases hnm : n = m
  · subst hnm
    go_enter Try.func66, Try.ntmps66
    go_wp2
    go_loopw [17] (fun iv w' => ∃ (k : Nat) (wr : World), k ≤ n ∧ iv = .int .i64 k ∧ wr = w' ∧ Hid (ssP k X Y) ∧ Hid (Below w.heap.size w wr)) (fun iv _ => n - (intOf iv).toNat)
    case atStart => exact ⟨0, _, by omega, rfl, rfl, Lib.hid (by intro j hj; omega), Lib.hid (Below.refl _ _)⟩
    case round =>
      obtain ⟨k, wr, hk, rfl, rfl, HL, HW⟩ := hrel
      by_cases hlt : k < n
      · obtain ⟨b1, o1, rfl, _, hc0, hc1, hc2⟩ := (HA.out.below HW.out).cell hlt
        obtain ⟨b2, o2, rfl, _, hd0, hd1, hd2⟩ := (HB.out.below HW.out).cell hlt
        have h1 := (HA.out.below HW.out).2 k hlt
        have h2 := (HB.out.below HW.out).2 k hlt
        obtain ⟨x1, x2, x3⟩ := HX.out k hlt
        obtain ⟨y1, y2, y3⟩ := HY.out k hlt
        have HE := Lib.hid (fun W (hW : Below wr.heap.size wr W) => c1_impl (X k) (Y k) W (h1.below hW) (h2.below hW) x1 y1 x2 x3 y2 y3)
        clear h1 h2 x1 x2 x3 y1 y2 y3
        cases hcq : s1B (X k) (Y k) with
        | true =>
          have hc := hcq
          have HNX := Lib.hid (ss_on HL.out hc)
          rw [hcq] at HE
          clear hcq hc
          generalize (X k).s = xs at hc0 HE
          generalize (X k).a = xa at hc1 HE
          generalize (X k).b = xb at hc2 HE
          generalize (X k).n = xn at hc1 HE
          generalize (X k).m = xm at hc2 HE
          generalize (X k).ca = xca at hc1 HE
          generalize (X k).cb = xcb at hc2 HE
          generalize (Y k).s = ys at hd0 HE
          generalize (Y k).a = ya at hd1 HE
          generalize (Y k).b = yb at hd2 HE
          generalize (Y k).n = yn at hd1 HE
          generalize (Y k).m = ym at hd2 HE
          generalize (Y k).ca = yca at hd1 HE
          generalize (Y k).cb = ycb at hd2 HE
          go_wp2_with (first | (go_at_call 67; refine (HE.out _ (by repeat (first | exact Below.refl _ _ | refine Below.setCell ?_ (by first | (simp; done) | (simp; omega)) _ | refine Below.drewN' ?_ _ | refine Below.drew ?_ | refine Below.alloc ?_ (by first | (simp; done) | (simp; omega)) _))).mono ?_; rintro e w2 ⟨rfl, hb2⟩; have HB2 : Hid (Below wr.heap.size wr w2) := Lib.hid (Below.next (by repeat (first | exact Below.refl _ _ | refine Below.setCell ?_ (by first | (simp; done) | (simp; omega)) _ | refine Below.drewN' ?_ _ | refine Below.drew ?_ | refine Below.alloc ?_ (by first | (simp; done) | (simp; omega)) _)) hb2); clear hb2) | fail)
          exact ⟨⟨k + 1, _, by omega, by first | rfl | go_num | (congr 1), rfl, HNX, Lib.hid (Below.next HW.out HB2.out)⟩, by show n - ((k : Int) + 1).toNat < n - (k : Int).toNat; omega⟩
        | false =>
          have hc := hcq
          have HF := Lib.hid (ss_no (n := n) (X := X) (Y := Y) hlt hc)
          rw [hcq] at HE
          clear hcq hc
          generalize (X k).s = xs at hc0 HE
          generalize (X k).a = xa at hc1 HE
          generalize (X k).b = xb at hc2 HE
          generalize (X k).n = xn at hc1 HE
          generalize (X k).m = xm at hc2 HE
          generalize (X k).ca = xca at hc1 HE
          generalize (X k).cb = xcb at hc2 HE
          generalize (Y k).s = ys at hd0 HE
          generalize (Y k).a = ya at hd1 HE
          generalize (Y k).b = yb at hd2 HE
          generalize (Y k).n = yn at hd1 HE
          generalize (Y k).m = ym at hd2 HE
          generalize (Y k).ca = yca at hd1 HE
          generalize (Y k).cb = ycb at hd2 HE
          go_wp2_with (first | (go_at_call 67; refine (HE.out _ (by repeat (first | exact Below.refl _ _ | refine Below.setCell ?_ (by first | (simp; done) | (simp; omega)) _ | refine Below.drewN' ?_ _ | refine Below.drew ?_ | refine Below.alloc ?_ (by first | (simp; done) | (simp; omega)) _))).mono ?_; rintro e w2 ⟨rfl, hb2⟩; have HB2 : Hid (Below wr.heap.size wr w2) := Lib.hid (Below.next (by repeat (first | exact Below.refl _ _ | refine Below.setCell ?_ (by first | (simp; done) | (simp; omega)) _ | refine Below.drewN' ?_ _ | refine Below.drew ?_ | refine Below.alloc ?_ (by first | (simp; done) | (simp; omega)) _)) hb2); clear hb2) | fail)
          go_ret
          exact ⟨ret_bool2 HF.out.symm, Below.next HW.out HB2.out⟩
      · obtain rfl : k = n := by omega
        have HF := Lib.hid (ss_yes HL.out)
        go_wp2
        go_ret
        exact ⟨ret_bool2 HF.out.symm, HW.out⟩
  · have HF := Lib.hid (ss_len (X := X) (Y := Y) hnm)
    have hd : ((n : Int) == (m : Int)) = false := by simp; omega
    have hd2 : ((n : Int) != (m : Int)) = true := by simp; omega
    clear hnm
    go_enter Try.func66, Try.ntmps66
    go_wp2
    go_ret
    exact ⟨ret_bool2 HF.out.symm, Below.refl _ _⟩
set_option maxHeartbeats 2000000 in
theorem ss_impl (a b : Option Addr) (n m cap capb : Nat) (X Y : Nat → Sv) (w : World) (ha : VRow w a n X) (hb : VRow w b m Y) (hn : n ≤ 1048576) (hm : m ≤ 1048576) (vx : VOk X n) (vy : VOk Y m) :
    Calls Try.prog 21 #[.slice a n cap, .slice b m capb] w fun e w' => e = .returned (.bool (ssB n m X Y)) ∧ Below w.heap.size w w' := by
  have HE := Lib.hid (efv_impl a b n m cap capb X Y w ha hb hn hm vx vy)
  clear ha hb vx vy
  go_enter Try.func21, Try.ntmps21
  go_wp2_with (first | (go_at_call 66; refine HE.out.mono ?_; rintro e w2 ⟨rfl, hb⟩; have HB := Lib.hid hb; clear hb) | fail)
  go_ret
  exact ⟨rfl, HB.out⟩
end Go.Proofs.Yteikedgdegaeiaa
