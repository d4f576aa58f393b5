/- SpreadOf: walks and law. -/
import Derived.Test.YtkllihdfafomnaaNce
namespace Go.Proofs.Ytkllihdfafomnaa
open Go.Proofs.Ytkllihdfafomnaa.Flo Go.RowKit

theorem two_pos {za : List Nat} {n : Nat} (h : rowB za n = true) : n ≠ 0 := by
  unfold rowB at h
  rw [Bool.and_eq_true] at h
  have := (of_decide_eq_true h.1).1
  omega
set_option maxRecDepth 100000 in
set_option maxHeartbeats 4000000 in
theorem spS (a b : Option Addr) (n m cap capb : Nat) (za zb : List Nat) (w : World) (ha : FRow w a n za) (hb : FRow w b m zb) (hn : n ≤ 1048576) (hm : m ≤ 1048576) :
    Calls Try.prog 29 #[.slice a n cap, .slice b m capb] w fun e w' => ∃ r, e = .returned (.tuple #[.float .f32 r, .bool (twoB za zb n m)]) ∧ cls .f32 r = ansV (twoB za zb n m) (spreadV za zb n) ∧ Below w.heap.size w w' := by
  have HA := Lib.hid ha
  have HB := Lib.hid hb
  clear ha hb
  cases h1 : twoB za zb n m with
  | false =>
    have HR := Lib.hid h1
    go_enter Try.func29, Try.ntmps29
    go_wp2_with (first | (go_at_call 63; refine (two_spec _ _ _ _ _ _ za zb _ HA.out HB.out hn hm).mono ?_; rintro e w' ⟨rfl, q1, rfl⟩) | go_in)
    go_ret2
    exact ⟨0, rfl, rfl, (Drew.mk _ _).below⟩
  | true =>
    have HR := Lib.hid h1
    obtain ⟨rfl, hn32, hca, hcb, hra, _⟩ := two_out h1
    have HCA := Lib.hid hca
    have HCB := Lib.hid hcb
    have HLE := Lib.hid (spread_le hca hcb hn32)
    have hn0 := two_pos hra
    clear hca hcb hra
    go_enter Try.func29, Try.ntmps29
    go_wp2_with (first | (go_at_call 63; refine (two_spec _ _ _ _ _ _ za zb _ HA.out HB.out hn hm).mono ?_; rintro e w' ⟨rfl, q1, rfl⟩) | (go_at_call 71; ((with_reducible refine (ent_specN a n cap za _ ?_ (nice_ch HCA.out) (by omega)).mono ?_); (next => (exact HA.out.drewN _)); rintro e w' ⟨x1, rfl, hr, nq, rfl⟩; have H1 := Lib.hid hr; clear hr)) | (go_at_call 71; ((with_reducible refine (ent_specN b n capb zb _ ?_ (nice_ch HCB.out) (by omega)).mono ?_); (next => (exact HB.out.drewN _)); rintro e w' ⟨x2, rfl, hr, nq, rfl⟩; have H2 := Lib.hid hr; clear hr)) | (go_at_call 72; refine (mixS a b n cap capb za zb 1056964608 _ (HA.out.drewN _) (HB.out.drewN _) HCA.out HCB.out half_le hn32).mono ?_; rintro e w2 ⟨v, rfl, ho, hb⟩; obtain ⟨g, cp, rfl, _, _, hrow, _⟩ := own_row ho hn0; have HM := Lib.hid hrow; have HW := Lib.hid (Below.ofDrewN hb); clear ho hb hrow) | (go_at_call 71; ((refine (ent_specN _ n _ (mixL 1056964608 za zb n) _ ?_ (mix_nice HCA.out HCB.out) (by omega)).mono ?_); (next => (exact HM.out)); rintro e w' ⟨x3, rfl, hr, nq, rfl⟩; have H3 := Lib.hid hr; clear hr)) | (go_at_call 66; refine (number_spec _ (le_fin HLE.out ((sub_cls H3.out (half_cls (add_cls H1.out H2.out _) _) _).trans rfl)) _).mono ?_; rintro e w' ⟨rfl, q3, rfl⟩) | go_in)
    go_ret2
    exact ⟨_, rfl, (sub_cls H3.out (half_cls (add_cls H1.out H2.out _) _) _).trans rfl, Below.drewN' HW.out _⟩
set_option maxRecDepth 100000 in
set_option maxHeartbeats 4000000 in
theorem spI (a b : Option Addr) (n m cap capb : Nat) (za zb : List Nat) (w : World) (ha : FRow w a n za) (hb : FRow w b m zb) (hn : n ≤ 1048576) (hm : m ≤ 1048576) :
    Calls Try.prog 30 #[.slice a n cap, .slice b m capb] w fun e w' => ∃ r, e = .returned (.tuple #[.float .f32 r, .bool (twoB za zb n m)]) ∧ cls .f32 r = ansV (twoB za zb n m) (spreadV za zb n) ∧ Below w.heap.size w w' := by
  have HA := Lib.hid ha
  have HB := Lib.hid hb
  clear ha hb
  cases h1 : twoB za zb n m with
  | false =>
    have HR := Lib.hid h1
    go_enter Try.func30, Try.ntmps30
    go_wp2_with (first | (go_at_call 73; refine (two_impl _ _ _ _ _ _ za zb _ HA.out HB.out hn hm).mono ?_; rintro e w' ⟨rfl, q1, rfl⟩) | go_in)
    go_ret2
    exact ⟨0, rfl, rfl, (Drew.mk _ _).below⟩
  | true =>
    have HR := Lib.hid h1
    obtain ⟨rfl, hn32, hca, hcb, hra, _⟩ := two_out h1
    have HCA := Lib.hid hca
    have HCB := Lib.hid hcb
    have HLE := Lib.hid (spread_le hca hcb hn32)
    have hn0 := two_pos hra
    clear hca hcb hra
    go_enter Try.func30, Try.ntmps30
    go_wp2_with (first | (go_at_call 73; refine (two_impl _ _ _ _ _ _ za zb _ HA.out HB.out hn hm).mono ?_; rintro e w' ⟨rfl, q1, rfl⟩) | (go_at_call 74; ((with_reducible refine (ent_implN a n cap za _ ?_ (nice_ch HCA.out) (by omega)).mono ?_); (next => (exact ((HA.out.drewN _).alloc _).drewN _)); rintro e w' ⟨x1, rfl, hr, nq, rfl⟩; have H1 := Lib.hid hr; clear hr)) | (go_at_call 74; ((with_reducible refine (ent_implN b n capb zb _ ?_ (nice_ch HCB.out) (by omega)).mono ?_); (next => (exact ((HB.out.drewN _).alloc _).drewN _)); rintro e w' ⟨x2, rfl, hr, nq, rfl⟩; have H2 := Lib.hid hr; clear hr)) | (go_at_call 75; refine (mixI' a b n cap capb za zb 1056964608 _ (HA.out.drewN _) (HB.out.drewN _) HCA.out HCB.out half_le hn32).mono ?_; rintro e w2 ⟨rfl, q5, rfl⟩) | (go_at_call 74; ((refine (ent_implN _ n _ (mixL 1056964608 za zb n) _ ?_ (mix_nice HCA.out HCB.out) (by omega)).mono ?_); (next => (exact (FRow.new' (mixL_len _ _ _ _) (by simp) _).drewN _)); rintro e w' ⟨x3, rfl, hr, nq, rfl⟩; have H3 := Lib.hid hr; clear hr)) | go_in)
    go_ret2
    exact ⟨_, rfl, (sub_cls H3.out (half_cls (add_cls H1.out H2.out _) _) _).trans rfl, Below.drewN' (Below.alloc (Below.drewN' (Below.refl _ _) _) (Nat.le_refl _) _) _⟩
set_option maxRecDepth 100000 in
set_option maxHeartbeats 4000000 in
theorem sp_walk (a : Option Addr) (n capa : Nat) (za : List Nat) (b : Option Addr) (m capb : Nat) (zb : List Nat) (w : World) (ha : FRow w a n za) (hb : FRow w b m zb) :
    Calls Try.prog 6 #[.slice a n capa, .slice b m capb] w fun e w' => e = .returned (.bool true) ∧ Below w.heap.size w w' := by
  by_cases hma : n ≤ 1048576
  · have hd : decide (1048576 < (n : Int)) = false := by simp; omega
    by_cases hmb : m ≤ 1048576
    · have hd2 : decide (1048576 < (m : Int)) = false := by simp; omega
      have HL : Hid (Live w [(a, n, za), (b, m, zb)]) := Lib.hid (((Live.nil _).cons hb).cons ha)
      have HB : Hid (Below w.heap.size w w) := Lib.hid (Below.refl _ _)
      clear ha hb
      go_enter Try.func6, Try.ntmps6
      go_wp2_with (first | (go_at_call 26; (with_reducible refine (toL a n capa za _ _ HL.out ?_ hma).mono ?_); (next => simp); rintro e w2 ⟨p, rfl, hl, hb⟩; have HL := Lib.hid hl; have HB := Lib.hid (Below.next HB.out hb); clear hl hb) | (go_at_call 26; (with_reducible refine (toL a n capa za _ _ (HL.out.drewN _) ?_ hma).mono ?_); (next => simp); rintro e w2 ⟨p, rfl, hl, hb⟩; have HL := Lib.hid hl; have HB := Lib.hid (Below.next HB.out (Below.ofDrewN hb)); clear hl hb) | (go_at_call 26; (with_reducible refine (toL b m capb zb _ _ HL.out ?_ hmb).mono ?_); (next => simp); rintro e w2 ⟨p, rfl, hl, hb⟩; have HL := Lib.hid hl; have HB := Lib.hid (Below.next HB.out hb); clear hl hb) | (go_at_call 26; (with_reducible refine (toL b m capb zb _ _ (HL.out.drewN _) ?_ hmb).mono ?_); (next => simp); rintro e w2 ⟨p, rfl, hl, hb⟩; have HL := Lib.hid hl; have HB := Lib.hid (Below.next HB.out (Below.ofDrewN hb)); clear hl hb) | (go_at_call 29; refine (spS _ _ _ _ _ _ za zb _ ?_ ?_ hma hmb).mono ?_; (next => (refine HL.out.get ?_; simp)); (next => (refine HL.out.get ?_; simp)); rintro e w2 ⟨r, rfl, hr, d⟩; have Hr := Lib.hid hr; clear hr; have HL := Lib.hid (HL.out.below d); have HB := Lib.hid (Below.next HB.out d); clear d) | (go_at_call 30; refine (spI _ _ _ _ _ _ za zb _ ?_ ?_ hma hmb).mono ?_; (next => (refine HL.out.get ?_; simp)); (next => (refine HL.out.get ?_; simp)); rintro e w2 ⟨r2, rfl, hr, d⟩; have Hr2 := Lib.hid hr; clear hr; have HL := Lib.hid (HL.out.below d); have HB := Lib.hid (Below.next HB.out d); clear d) | (go_at_call 28; refine (sameFloat_true _ _ (by rw [cres_wide, cres_wide, Hr.out, Hr2.out]) _).mono ?_; rintro e w2 ⟨rfl, n3, rfl⟩) | (go_at_call 18; (with_reducible refine (eqL _ _ n _ _ za _ _ HL.out ?_ ?_ hma).mono ?_); (next => simp); (next => simp); rintro e w2 ⟨rfl, hl, hb⟩; have HL := Lib.hid hl; have HB := Lib.hid (Below.next HB.out hb); clear hl hb) | (go_at_call 18; (with_reducible refine (eqL _ _ n _ _ za _ _ (HL.out.drewN _) ?_ ?_ hma).mono ?_); (next => simp); (next => simp); rintro e w2 ⟨rfl, hl, hb⟩; have HL := Lib.hid hl; have HB := Lib.hid (Below.next HB.out (Below.ofDrewN hb)); clear hl hb) | (go_at_call 18; (with_reducible refine (eqL _ _ m _ _ zb _ _ HL.out ?_ ?_ hmb).mono ?_); (next => simp); (next => simp); rintro e w2 ⟨rfl, hl, hb⟩; have HL := Lib.hid hl; have HB := Lib.hid (Below.next HB.out hb); clear hl hb) | (go_at_call 18; (with_reducible refine (eqL _ _ m _ _ zb _ _ (HL.out.drewN _) ?_ ?_ hmb).mono ?_); (next => simp); (next => simp); rintro e w2 ⟨rfl, hl, hb⟩; have HL := Lib.hid hl; have HB := Lib.hid (Below.next HB.out (Below.ofDrewN hb)); clear hl hb) | go_in)
      go_ret
      first | exact ⟨rfl, HB.out⟩ | exact ⟨rfl, Below.drewN' HB.out _⟩
    · go_enter Try.func6, Try.ntmps6
      go_wp2
      go_ret
      exact ⟨rfl, Below.refl _ _⟩
  · go_enter Try.func6, Try.ntmps6
    go_wp2
    go_ret
    exact ⟨rfl, Below.refl _ _⟩
end Go.Proofs.Ytkllihdfafomnaa
