
/- SameSaved: the law. -/
import Derived.Test.YteikedgdegaeiaaSmt
namespace Go.Proofs.Yteikedgdegaeiaa
open Go.Proofs.Yteikedgdegaeiaa.Flo Go.RowKit

/-- A copy that the call has made: where it lies, of what. -/
structure VE where
  p : Nat
  n : Nat
  X : Nat → Sv
def VE.ok (w : World) (e : VE) : Prop := ∃ Y, (∀ i, i < e.n → VSame (e.X i) (Y i)) ∧ VRow w (some ⟨e.p, 0, none⟩) e.n Y
theorem VE.ok.below {w w' : World} {e : VE} (h : e.ok w) (hb : Below w.heap.size w w') : e.ok w' := by
  obtain ⟨Y, h1, h2⟩ := h
  exact ⟨Y, h1, h2.below hb⟩
def Owl (w0 w : World) (L : List VE) : Prop := Below w0.heap.size w0 w ∧ ∀ e ∈ L, e.ok w
theorem Owl.nil (w : World) : Owl w w [] := ⟨Below.refl _ _, (by intro r hr; cases hr)⟩
theorem Owl.out {w0 w : World} {L : List VE} (h : Owl w0 w L) : Below w0.heap.size w0 w := h.1
theorem Owl.below {w0 w w' : World} {L : List VE} (h : Owl w0 w L) (hb : Below w.heap.size w w') : Owl w0 w' L := ⟨Below.next h.1 hb, fun e he => (h.2 e he).below hb⟩
theorem Owl.add {w0 w : World} {L : List VE} (h : Owl w0 w L) {e : VE} (he : e.ok w) : Owl w0 w (e :: L) := ⟨h.1, fun x hx => by cases hx with
  | head => exact he
  | tail _ hx => exact h.2 x hx⟩
theorem s1_congr {x y x2 y2 : Sv} (h : VSame x x2) (h2 : VSame y y2) : s1B x2 y2 = s1B x y := by
  obtain ⟨a1, a2, a3, a4, a5⟩ := h
  obtain ⟨b1, b2, b3, b4, b5⟩ := h2
  unfold s1B
  rw [a1, a2, a3, a4, a5, b1, b2, b3, b4, b5]
theorem ss_congr {n m : Nat} {X Y X2 Y2 : Nat → Sv} (h : ∀ i, i < n → VSame (X i) (X2 i)) (h2 : ∀ i, i < m → VSame (Y i) (Y2 i)) : ssB n m X2 Y2 = ssB n m X Y := by
  unfold ssB
  by_cases e : n = m
  · subst e
    congr 1
    refine decide_eq_decide.2 ⟨fun q k hk => ?_, fun q k hk => ?_⟩
    · rw [← s1_congr (h k hk) (h2 k hk)]; exact q k hk
    · rw [s1_congr (h k hk) (h2 k hk)]; exact q k hk
  · rw [decide_eq_false e]; rfl
theorem VOk.same {n : Nat} {X Y : Nat → Sv} (v : VOk X n) (h : ∀ i, i < n → VSame (X i) (Y i)) : VOk Y n := fun k hk => by
  obtain ⟨a1, a2, a3, a4, a5⟩ := h k hk
  have := v k hk
  rw [a2, a3, a5] at this
  exact this
theorem vtot_same {X Y : Nat → Sv} : ∀ n, (∀ i, i < n → VSame (X i) (Y i)) → vtot Y n = vtot X n
  | 0, _ => rfl
  | n + 1, h => by
    obtain ⟨a1, a2, a3, _, _⟩ := h n (by omega)
    show vtot Y n + vone (Y n) = vtot X n + vone (X n)
    unfold vone
    rw [vtot_same n (fun i hi => h i (by omega)), a1, a2, a3]
theorem toVSO (a : Option Addr) (n cap : Nat) (X : Nat → Sv) (w w0 : World) (L : List VE) (h : Owl w0 w L) (ha : VRow w0 a n X) (hn : n + vtot X n ≤ 1048576) :
    Calls Try.prog 20 #[.slice a n cap] w fun e w' => ∃ p, e = .returned (.slice (some ⟨p, 0, none⟩) n n) ∧ Owl w0 w' (⟨p, n, X⟩ :: L) := by
  refine (toVS a n cap X w (ha.below h.1) hn).mono ?_
  rintro e w' ⟨p, Y, he, h1, h2, h3⟩
  exact ⟨p, he, (h.below h3).add (e := ⟨p, n, X⟩) ⟨Y, h1, h2⟩⟩
theorem eqVSO (p q n cap capb : Nat) (X : Nat → Sv) (w w0 : World) (L : List VE) (h : Owl w0 w L) (m1 : (⟨p, n, X⟩ : VE) ∈ L) (m2 : (⟨q, n, X⟩ : VE) ∈ L) (hn : n + vtot X n ≤ 1048576) :
    Calls Try.prog 22 #[.slice (some ⟨p, 0, none⟩) n cap, .slice (some ⟨q, 0, none⟩) n capb] w fun e w' => e = .returned (.bool true) ∧ Owl w0 w' L := by
  obtain ⟨Y, s1, r1⟩ := h.2 _ m1
  obtain ⟨Y2, s2, r2⟩ := h.2 _ m2
  refine (eqVS _ _ n cap capb Y Y2 w r1 r2 (fun i hi => ?_) (by rw [vtot_same n s1]; exact hn)).mono ?_
  · obtain ⟨a1, a2, a3, a4, a5⟩ := s1 i hi
    obtain ⟨b1, b2, b3, b4, b5⟩ := s2 i hi
    exact ⟨a1.symm.trans b1, a2.symm.trans b2, a3.symm.trans b3, a4.symm.trans b4, a5.symm.trans b5⟩
  · rintro e w' ⟨he, hb⟩
    exact ⟨he, h.below hb⟩
theorem szVSO (a : Option Addr) (n cap : Nat) (left : Int) (X : Nat → Sv) (w w0 : World) (L : List VE) (h : Owl w0 w L) (ha : VRow w0 a n X) (hx : n ≤ 9223372036854775807) (hy : ∀ k, k < n → (X k).s.size ≤ 9223372036854775807 ∧ (X k).n ≤ 9223372036854775807 ∧ (X k).m ≤ 9223372036854775807) (hn : (n : Int) + vtot X n ≤ left) (hl : left ≤ 1048576) :
    Calls Try.prog 18 #[.slice a n cap, .int .i64 left] w fun e w' => e = .returned (.int .i64 (left - n - vtot X n)) ∧ Owl w0 w' L := by
  refine (szVS a n cap left X w (ha.below h.1) hx hy (by omega) hl).mono ?_
  rintro e w' ⟨he, hb⟩
  refine ⟨?_, h.below hb⟩
  rw [he]; unfold vzV; rw [if_pos hn]
theorem ssO_spec (p q n m cap capb : Nat) (X1 X2 : Nat → Sv) (w w0 : World) (L : List VE) (h : Owl w0 w L) (m1 : (⟨p, n, X1⟩ : VE) ∈ L) (m2 : (⟨q, m, X2⟩ : VE) ∈ L) (hn : n ≤ 1048576) (hm : m ≤ 1048576) (v1 : VOk X1 n) (v2 : VOk X2 m) :
    Calls Try.prog 19 #[.slice (some ⟨p, 0, none⟩) n cap, .slice (some ⟨q, 0, none⟩) m capb] w fun e w' => e = .returned (.bool (ssB n m X1 X2)) ∧ Owl w0 w' L := by
  obtain ⟨Y1, s1, r1⟩ := h.2 _ m1
  obtain ⟨Y2, s2, r2⟩ := h.2 _ m2
  refine (ss_spec _ _ n m cap capb Y1 Y2 w r1 r2 hn hm (v1.same s1) (v2.same s2)).mono ?_
  rintro e w' ⟨he, hb⟩
  exact ⟨by rw [he, ss_congr s1 s2], h.below hb.below⟩
theorem ssO_impl (p q n m cap capb : Nat) (X1 X2 : Nat → Sv) (w w0 : World) (L : List VE) (h : Owl w0 w L) (m1 : (⟨p, n, X1⟩ : VE) ∈ L) (m2 : (⟨q, m, X2⟩ : VE) ∈ L) (hn : n ≤ 1048576) (hm : m ≤ 1048576) (v1 : VOk X1 n) (v2 : VOk X2 m) :
    Calls Try.prog 21 #[.slice (some ⟨p, 0, none⟩) n cap, .slice (some ⟨q, 0, none⟩) m capb] w fun e w' => e = .returned (.bool (ssB n m X1 X2)) ∧ Owl w0 w' L := by
  obtain ⟨Y1, s1, r1⟩ := h.2 _ m1
  obtain ⟨Y2, s2, r2⟩ := h.2 _ m2
  refine (ss_impl _ _ n m cap capb Y1 Y2 w r1 r2 hn hm (v1.same s1) (v2.same s2)).mono ?_
  rintro e w' ⟨he, hb⟩
  exact ⟨by rw [he, ss_congr s1 s2], h.below hb⟩
set_option maxRecDepth 100000 in
set_option maxHeartbeats 64000000 in
theorem sml_walk (a1 : Option Addr) (n1 cap1 : Nat) (X1 : Nat → Sv) (a2 : Option Addr) (n2 cap2 : Nat) (X2 : Nat → Sv) (w : World) (h1 : VRow w a1 n1 X1) (hx1 : n1 ≤ 9223372036854775807) (hv1 : ∀ k, k < n1 → Wf (X1 k).z (X1 k).m ∧ (X1 k).s.size ≤ 9223372036854775807 ∧ (X1 k).n ≤ 9223372036854775807 ∧ (X1 k).m ≤ 9223372036854775807) (h2 : VRow w a2 n2 X2) (hx2 : n2 ≤ 9223372036854775807) (hv2 : ∀ k, k < n2 → Wf (X2 k).z (X2 k).m ∧ (X2 k).s.size ≤ 9223372036854775807 ∧ (X2 k).n ≤ 9223372036854775807 ∧ (X2 k).m ≤ 9223372036854775807) :
    Calls Try.prog 4 #[.slice a1 n1 cap1, .slice a2 n2 cap2] w fun e w' => e = .returned (.bool true) ∧ Below w.heap.size w w' := by
  have hy1 : ∀ k, k < n1 → (X1 k).s.size ≤ 9223372036854775807 ∧ (X1 k).n ≤ 9223372036854775807 ∧ (X1 k).m ≤ 9223372036854775807 := fun k hk => (hv1 k hk).2
  have hy2 : ∀ k, k < n2 → (X2 k).s.size ≤ 9223372036854775807 ∧ (X2 k).n ≤ 9223372036854775807 ∧ (X2 k).m ≤ 9223372036854775807 := fun k hk => (hv2 k hk).2
  by_cases hm1 : n1 + vtot X1 n1 ≤ 1048576
  · by_cases hsum : (n1 + vtot X1 n1) + (n2 + vtot X2 n2) ≤ 1048576
    · have hm2 : n2 + vtot X2 n2 ≤ 1048576 := by omega
      have V1 : Hid (VOk X1 n1) := Lib.hid (fun k hk => ⟨(hv1 k hk).1, by have := vtot_each X1 hk; unfold vone at this; omega, by have := vtot_each X1 hk; unfold vone at this; omega⟩)
      have V2 : Hid (VOk X2 n2) := Lib.hid (fun k hk => ⟨(hv2 k hk).1, by have := vtot_each X2 hk; unfold vone at this; omega, by have := vtot_each X2 hk; unfold vone at this; omega⟩)
      have hd1 : decide ((1048576 - (n1 : Int) - (vtot X1 n1 : Int)) < (0 : Int)) = false := decide_eq_false (by omega)
      have hd2 : decide ((1048576 - (n1 : Int) - (vtot X1 n1 : Int) - (n2 : Int) - (vtot X2 n2 : Int)) < (0 : Int)) = false := decide_eq_false (by omega)
      have H1 := Lib.hid h1
      have H2 := Lib.hid h2
      have HS := Lib.hid (Owl.nil w)
      clear h1 h2 hv1 hv2
      go_enter Try.func4, Try.ntmps4
      go_wp2_with (first | (go_at_call 18; (first | (with_reducible refine (szVSO a1 n1 cap1 1048576 X1 _ w _ HS.out H1.out hx1 hy1 ?_ ?_).mono ?_) | (with_reducible refine (szVSO a2 n2 cap2 (1048576 - (n1 : Int) - (vtot X1 n1 : Int)) X2 _ w _ HS.out H2.out hx2 hy2 ?_ ?_).mono ?_)); (next => omega); (next => omega); rintro e w2 ⟨rfl, hs⟩; have HS := Lib.hid hs; clear hs) | (go_at_call 20; (with_reducible refine (toVSO a1 n1 cap1 X1 _ w _ HS.out H1.out hm1).mono ?_); rintro e w2 ⟨p, rfl, hs⟩; have HS := Lib.hid hs; clear hs) | (go_at_call 20; (with_reducible refine (toVSO a2 n2 cap2 X2 _ w _ HS.out H2.out hm2).mono ?_); rintro e w2 ⟨p, rfl, hs⟩; have HS := Lib.hid hs; clear hs) | (go_at_call 19; (with_reducible refine (ssO_spec _ _ n1 n2 _ _ X1 X2 _ w _ HS.out ?_ ?_ (by omega) (by omega) V1.out V2.out).mono ?_); (next => (repeat (first | exact List.Mem.head _ | refine List.Mem.tail _ ?_))); (next => (repeat (first | exact List.Mem.head _ | refine List.Mem.tail _ ?_))); rintro e w2 ⟨rfl, hs⟩; have HS := Lib.hid hs; clear hs) | (go_at_call 21; (with_reducible refine (ssO_impl _ _ n1 n2 _ _ X1 X2 _ w _ HS.out ?_ ?_ (by omega) (by omega) V1.out V2.out).mono ?_); (next => (repeat (first | exact List.Mem.head _ | refine List.Mem.tail _ ?_))); (next => (repeat (first | exact List.Mem.head _ | refine List.Mem.tail _ ?_))); rintro e w2 ⟨rfl, hs⟩; have HS := Lib.hid hs; clear hs) | (go_at_call 22; (with_reducible refine (eqVSO _ _ n1 _ _ X1 _ w _ HS.out ?_ ?_ hm1).mono ?_); (next => (repeat (first | exact List.Mem.head _ | refine List.Mem.tail _ ?_))); (next => (repeat (first | exact List.Mem.head _ | refine List.Mem.tail _ ?_))); rintro e w2 ⟨rfl, hs⟩; have HS := Lib.hid hs; clear hs) | (go_at_call 22; (with_reducible refine (eqVSO _ _ n2 _ _ X2 _ w _ HS.out ?_ ?_ hm2).mono ?_); (next => (repeat (first | exact List.Mem.head _ | refine List.Mem.tail _ ?_))); (next => (repeat (first | exact List.Mem.head _ | refine List.Mem.tail _ ?_))); rintro e w2 ⟨rfl, hs⟩; have HS := Lib.hid hs; clear hs) | fail)
      go_ret
      exact ⟨rfl, HS.out.out⟩
    · have hd1 : decide ((1048576 - (n1 : Int) - (vtot X1 n1 : Int)) < (0 : Int)) = false := decide_eq_false (by omega)
      have HZ1 := Lib.hid (szVS a1 n1 cap1 1048576 X1 w h1 hx1 hy1 (by omega) (by omega))
      have HZ2 := Lib.hid (fun W (hb : Below w.heap.size w W) => szVS a2 n2 cap2 (1048576 - (n1 : Int) - (vtot X1 n1 : Int)) X2 W (h2.below hb) hx2 hy2 (by omega) (by omega))
      rw [show vzV X1 n1 1048576 = 1048576 - (n1 : Int) - (vtot X1 n1 : Int) by unfold vzV; rw [if_pos (by omega)]] at HZ1
      rw [show vzV X2 n2 (1048576 - (n1 : Int) - (vtot X1 n1 : Int)) = -1 by unfold vzV; rw [if_neg (by omega)]] at HZ2
      clear h1 h2 hv1 hv2
      go_enter Try.func4, Try.ntmps4
      go_wp2_with (first | (go_at_call 18; (with_reducible refine HZ1.out.mono ?_); rintro e w2 ⟨rfl, hb⟩; have HB := Lib.hid hb; clear hb) | (go_at_call 18; (with_reducible refine (HZ2.out _ HB.out).mono ?_); rintro e w3 ⟨rfl, hb⟩; have HB2 := Lib.hid (Below.next HB.out hb); clear hb) | fail)
      go_ret
      exact ⟨rfl, HB2.out⟩
  · have HZ1 := Lib.hid (szVS a1 n1 cap1 1048576 X1 w h1 hx1 hy1 (by omega) (by omega))
    rw [show vzV X1 n1 1048576 = -1 by unfold vzV; rw [if_neg (by omega)]] at HZ1
    clear h1 h2 hv1 hv2
    go_enter Try.func4, Try.ntmps4
    go_wp2_with (first | (go_at_call 18; (with_reducible refine HZ1.out.mono ?_); rintro e w2 ⟨rfl, hb⟩; have HB := Lib.hid hb; clear hb) | fail)
    go_ret
    exact ⟨rfl, HB.out⟩
end Go.Proofs.Yteikedgdegaeiaa
