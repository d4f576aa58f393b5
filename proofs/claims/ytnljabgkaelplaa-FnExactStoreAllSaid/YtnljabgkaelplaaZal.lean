
/- StoreAll: the law. -/
import Derived.Test.YtnljabgkaelplaaZta
set_option linter.unusedVariables false
namespace Go.Proofs.Ytnljabgkaelplaa
open Go.Proofs.Ytnljabgkaelplaa.Flo Go.RowKit

/-- A copy that the call has made: where it lies, of what. -/
structure VE where
  p : Nat
  n : Nat
  X : Nat → Sv
def VE.ok (w : World) (e : VE) : Prop := ∃ Y, (∀ i, i < e.n → VSame (e.X i) (Y i)) ∧ VRow w (some ⟨e.p, 0, none⟩) e.n Y
theorem VE.ok.below {w w' : World} {e : VE} (h : e.ok w) (hb : Below w.heap.size w w') : e.ok w' := by
  obtain ⟨Y, h1, h2⟩ := h
  exact ⟨Y, h1, h2.below hb⟩
def Owl (w0 w : World) (L : List VE) : Prop := Below w0.heap.size w0 w ∧ ∀ e ∈ L, e.ok w
theorem Owl.nil (w : World) : Owl w w [] := ⟨Below.refl _ _, (by intro r hr; cases hr)⟩
theorem Owl.out {w0 w : World} {L : List VE} (h : Owl w0 w L) : Below w0.heap.size w0 w := h.1
theorem Owl.below {w0 w w' : World} {L : List VE} (h : Owl w0 w L) (hb : Below w.heap.size w w') : Owl w0 w' L := ⟨Below.next h.1 hb, fun e he => (h.2 e he).below hb⟩
theorem Owl.add {w0 w : World} {L : List VE} (h : Owl w0 w L) {e : VE} (he : e.ok w) : Owl w0 w (e :: L) := ⟨h.1, fun x hx => by cases hx with
  | head => exact he
  | tail _ hx => exact h.2 x hx⟩
theorem vtot_same {X Y : Nat → Sv} : ∀ n, (∀ i, i < n → VSame (X i) (Y i)) → vtot Y n = vtot X n
  | 0, _ => rfl
  | n + 1, h => by
    obtain ⟨a1, a2, a3, _, _⟩ := h n (by omega)
    show vtot Y n + vone (Y n) = vtot X n + vone (X n)
    unfold vone
    rw [vtot_same n (fun i hi => h i (by omega)), a1, a2, a3]
theorem toVSO (a : Option Addr) (n cap : Nat) (X : Nat → Sv) (w w0 : World) (L : List VE) (h : Owl w0 w L) (ha : VRow w0 a n X) (hn : n + vtot X n ≤ 1048576) :
    Calls Try.prog 15 #[.slice a n cap] w fun e w' => ∃ p, e = .returned (.slice (some ⟨p, 0, none⟩) n n) ∧ Owl w0 w' (⟨p, n, X⟩ :: L) := by
  refine (toVS a n cap X w (ha.below h.1) hn).mono ?_
  rintro e w' ⟨p, Y, he, h1, h2, h3⟩
  exact ⟨p, he, (h.below h3).add (e := ⟨p, n, X⟩) ⟨Y, h1, h2⟩⟩
theorem eqVSO (p q n cap capb : Nat) (X : Nat → Sv) (w w0 : World) (L : List VE) (h : Owl w0 w L) (m1 : (⟨p, n, X⟩ : VE) ∈ L) (m2 : (⟨q, n, X⟩ : VE) ∈ L) (hn : n + vtot X n ≤ 1048576) :
    Calls Try.prog 17 #[.slice (some ⟨p, 0, none⟩) n cap, .slice (some ⟨q, 0, none⟩) n capb] w fun e w' => e = .returned (.bool true) ∧ Owl w0 w' L := by
  obtain ⟨Y, s1, r1⟩ := h.2 _ m1
  obtain ⟨Y2, s2, r2⟩ := h.2 _ m2
  refine (eqVS _ _ n cap capb Y Y2 w r1 r2 (fun i hi => ?_) (by rw [vtot_same n s1]; exact hn)).mono ?_
  · obtain ⟨a1, a2, a3, a4, a5⟩ := s1 i hi
    obtain ⟨b1, b2, b3, b4, b5⟩ := s2 i hi
    exact ⟨a1.symm.trans b1, a2.symm.trans b2, a3.symm.trans b3, a4.symm.trans b4, a5.symm.trans b5⟩
  · rintro e w' ⟨he, hb⟩
    exact ⟨he, h.below hb⟩
theorem szVSO (a : Option Addr) (n cap : Nat) (left : Int) (X : Nat → Sv) (w w0 : World) (L : List VE) (h : Owl w0 w L) (ha : VRow w0 a n X) (hx : n ≤ 9223372036854775807) (hy : ∀ k, k < n → (X k).s.size ≤ 9223372036854775807 ∧ (X k).n ≤ 9223372036854775807 ∧ (X k).m ≤ 9223372036854775807) (hn : (n : Int) + vtot X n ≤ left) (hl : left ≤ 1048576) :
    Calls Try.prog 13 #[.slice a n cap, .int .i64 left] w fun e w' => e = .returned (.int .i64 (left - n - vtot X n)) ∧ Owl w0 w' L := by
  refine (szVS a n cap left X w (ha.below h.1) hx hy (by omega) hl).mono ?_
  rintro e w' ⟨he, hb⟩
  refine ⟨?_, h.below hb⟩
  rw [he]; unfold vzV; rw [if_pos hn]
theorem SOk.same {n : Nat} {X Y : Nat → Sv} (v : SOk X n) (h : ∀ i, i < n → VSame (X i) (Y i)) : SOk Y n := fun k hk => by
  obtain ⟨a1, a2, a3, a4, a5⟩ := h k hk
  have := v k hk
  rw [a1, a2, a3, a5] at this
  exact this
theorem s1v_same {x y : Sv} (h : VSame x y) : s1v y = s1v x := by
  obtain ⟨a1, a2, a3, a4, a5⟩ := h
  unfold s1v; rw [a1, a2, a3, a5]
theorem s1t_same {x y : Sv} (h : VSame x y) : s1t y = s1t x := by
  obtain ⟨a1, a2, a3, a4, a5⟩ := h
  unfold s1t; rw [a1, a2, a3, a4, a5]
theorem saB_same {n : Nat} {X Y : Nat → Sv} (h : ∀ i, i < n → VSame (X i) (Y i)) : saB Y n = saB X n := by
  unfold saB
  congr 1
  refine decide_eq_decide.2 ⟨fun q k hk => ?_, fun q k hk => ?_⟩
  · rw [← s1v_same (h k hk)]; exact q k hk
  · rw [s1v_same (h k hk)]; exact q k hk
theorem saL_same {X Y : Nat → Sv} : ∀ n, (∀ i, i < n → VSame (X i) (Y i)) → saL Y n = saL X n
  | 0, _ => rfl
  | n + 1, h => by
    show saL Y n ++ s1t (Y n) = saL X n ++ s1t (X n)
    rw [saL_same n (fun i hi => h i (by omega)), s1t_same (h n (by omega))]
theorem saT_same {n : Nat} {X Y : Nat → Sv} (h : ∀ i, i < n → VSame (X i) (Y i)) : saT Y n = saT X n := by
  unfold saT; rw [saB_same h, saL_same n h]
theorem saO_spec (p n cap : Nat) (X : Nat → Sv) (w w0 : World) (L : List VE) (h : Owl w0 w L) (m1 : (⟨p, n, X⟩ : VE) ∈ L) (hn : n ≤ 1048576) (hx : SOk X n) :
    Calls Try.prog 14 #[.slice (some ⟨p, 0, none⟩) n cap] w fun e w' => e = .returned (.tuple #[.string (saT X n), .bool (saB X n)]) ∧ Owl w0 w' L := by
  obtain ⟨Y, s1, r1⟩ := h.2 _ m1
  have := sas_all _ n cap Y w r1 hn (hx.same s1)
  rw [saT_same s1, saB_same s1] at this
  exact this.mono fun _ _ q => ⟨q.1, h.below q.2⟩
theorem saO_impl (p n cap : Nat) (X : Nat → Sv) (w w0 : World) (L : List VE) (h : Owl w0 w L) (m1 : (⟨p, n, X⟩ : VE) ∈ L) (hn : n ≤ 1048576) (hx : SOk X n) :
    Calls Try.prog 16 #[.slice (some ⟨p, 0, none⟩) n cap] w fun e w' => e = .returned (.tuple #[.string (saT X n), .bool (saB X n)]) ∧ Owl w0 w' L := by
  obtain ⟨Y, s1, r1⟩ := h.2 _ m1
  have := sai_all _ n cap Y w r1 hn (hx.same s1)
  rw [saT_same s1, saB_same s1] at this
  exact this.mono fun _ _ q => ⟨q.1, h.below q.2⟩
set_option maxRecDepth 100000 in
set_option maxHeartbeats 64000000 in
theorem zal_walk (a1 : Option Addr) (n1 cap1 : Nat) (X1 : Nat → Sv) (w : World) (h1 : VRow w a1 n1 X1) (hx1 : n1 ≤ 9223372036854775807) (hv1 : ∀ k, k < n1 → Wf (X1 k).z (X1 k).m ∧ (X1 k).s.size ≤ 9223372036854775807 ∧ (X1 k).n ≤ 9223372036854775807 ∧ (X1 k).m ≤ 9223372036854775807) :
    Calls Try.prog 4 #[.slice a1 n1 cap1] w fun e w' => e = .returned (.bool true) ∧ Below w.heap.size w w' := by
  by_cases hm1 : n1 + vtot X1 n1 ≤ 1048576
  · have H1 := Lib.hid h1
    have HY := Lib.hid (fun k hk => (hv1 k hk).2)
    have HM : Hid ((n1 : Int) + vtot X1 n1 ≤ 1048576) := Lib.hid (by omega)
    have hd1 : decide ((1048576 - (n1 : Int) - (vtot X1 n1 : Int)) < 0) = false := decide_eq_false (by omega)
    have hok : SOk X1 n1 := fun k hk => by
      have h2 := vtot_each X1 hk
      unfold vone at h2
      exact ⟨(hv1 k hk).1, by omega, by omega, by omega⟩
    have HSPEC := Lib.hid (fun (p cap : Nat) (w9 w0 : World) (L : List VE) (h : Owl w0 w9 L) (h1 : (⟨p, n1, X1⟩ : VE) ∈ L) => saO_spec p n1 cap X1 w9 w0 L h h1 (by omega) hok)
    have HIMPL := Lib.hid (fun (p cap : Nat) (w9 w0 : World) (L : List VE) (h : Owl w0 w9 L) (h1 : (⟨p, n1, X1⟩ : VE) ∈ L) => saO_impl p n1 cap X1 w9 w0 L h h1 (by omega) hok)
    generalize saT X1 n1 = TX at HSPEC HIMPL
    generalize saB X1 n1 = OK at HSPEC HIMPL
    obtain ⟨tl, rfl⟩ := txB_of TX
    have HS := Lib.hid (Owl.nil w)
    clear h1 hok hv1
    go_enter Try.func4, Try.ntmps4
    go_wp2_with (first | (go_at_call 13; (first | (with_reducible refine (szVSO a1 n1 cap1 1048576 X1 _ w _ HS.out H1.out hx1 HY.out HM.out (by decide)).mono ?_)); rintro e w2 ⟨rfl, hs⟩; have HS := Lib.hid hs; clear hs) | (go_at_call 15; (first | (with_reducible refine (toVSO a1 n1 cap1 X1 _ w _ HS.out H1.out hm1).mono ?_)); rintro e w2 ⟨p, rfl, hs⟩; have HS := Lib.hid hs; clear hs) | (go_at_call 14; (first | (with_reducible refine (HSPEC.out _ _ _ w _ HS.out ?_).mono ?_)); (next => (simp; done)); rintro e w2 ⟨rfl, hs⟩; have HS := Lib.hid hs; clear hs) | (go_at_call 16; (first | (with_reducible refine (HIMPL.out _ _ _ w _ HS.out ?_).mono ?_)); (next => (simp; done)); rintro e w2 ⟨rfl, hs⟩; have HS := Lib.hid hs; clear hs) | (go_at_call 17; (first | (with_reducible refine (eqVSO _ _ n1 _ _ X1 _ w _ HS.out ?_ ?_ hm1).mono ?_)); (next => (simp; done)); (next => (simp; done)); rintro e w2 ⟨rfl, hs⟩; have HS := Lib.hid hs; clear hs) | fail)
    go_ret
    exact ⟨rfl, HS.out.out⟩
  · have HZ1 := Lib.hid (szVS a1 n1 cap1 1048576 X1 w h1 hx1 (fun k hk => (hv1 k hk).2) (by omega) (by omega))
    rw [show vzV X1 n1 1048576 = -1 by unfold vzV; rw [if_neg (by omega)]] at HZ1
    clear h1 hv1
    go_enter Try.func4, Try.ntmps4
    go_wp2_with (first | (go_at_call 13; refine HZ1.out.mono ?_; rintro e w2 ⟨rfl, hb⟩; have HB := Lib.hid hb; clear hb) | fail)
    go_ret
    exact ⟨rfl, HB.out⟩
end Go.Proofs.Ytnljabgkaelplaa
