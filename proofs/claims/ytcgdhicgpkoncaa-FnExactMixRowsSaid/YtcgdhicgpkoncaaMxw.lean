/- MixRows: walks. -/
import Derived.Test.YtcgdhicgpkoncaaSep
namespace Go.Proofs.Ytcgdhicgpkoncaa
open Go.Proofs.Ytcgdhicgpkoncaa.Flo Go.RowKit

/-- A share: from 0 to 1. -/
def shareB (x : Nat) : Bool := ((FloatKind.f32).format.order x 0 == some .gt || (FloatKind.f32).format.order x 0 == some .eq) && ((FloatKind.f32).format.order x 1065353216 == some .lt || (FloatKind.f32).format.order x 1065353216 == some .eq)
theorem share_true {x : Nat} (h : shareB x = true) : ((FloatKind.f32).format.order x 0 == some .gt || (FloatKind.f32).format.order x 0 == some .eq) = true ∧ ((FloatKind.f32).format.order x 1065353216 == some .lt || (FloatKind.f32).format.order x 1065353216 == some .eq) = true := by
  unfold shareB at h
  rw [Bool.and_eq_true] at h
  exact h
theorem share_false {x : Nat} (h : shareB x = false) : ((FloatKind.f32).format.order x 0 == some .gt || (FloatKind.f32).format.order x 0 == some .eq) = false ∨ (((FloatKind.f32).format.order x 0 == some .gt || (FloatKind.f32).format.order x 0 == some .eq) = true ∧ ((FloatKind.f32).format.order x 1065353216 == some .lt || (FloatKind.f32).format.order x 1065353216 == some .eq) = false) := by
  unfold shareB at h
  cases h1 : ((FloatKind.f32).format.order x 0 == some .gt || (FloatKind.f32).format.order x 0 == some .eq) with
  | false => exact .inl rfl
  | true => rw [h1, Bool.true_and] at h; exact .inr ⟨rfl, h⟩
theorem share_le {x : Nat} (h : shareB x = true) : VLe .f32 0 (cls .f32 x) := by
  obtain ⟨h1, h2⟩ := share_true h
  have e1 : (FloatKind.f32).format.order x 0 = ((FloatKind.f32).decode x).order (.number false 0 (-149)) := by rw [← dec_032]; rfl
  have e2 : (FloatKind.f32).format.order x 1065353216 = ((FloatKind.f32).decode x).order (.number false (2 ^ 23) (-23)) := by rw [← dec_one32]; rfl
  rw [e1] at h1
  rw [e2] at h2
  cases hd : (FloatKind.f32).decode x with
  | nan => rw [hd] at h1; cases h1
  | infinity s => rw [hd] at h1 h2; cases s <;> simp [Ieee.Datum.order] at h1 h2
  | number s m i =>
    rw [hd, order_0, cmp_ge] at h1
    rw [hd] at h2
    simp only [Ieee.Datum.order] at h2
    rw [cmp_le] at h2
    have h1 := of_decide_eq_true h1
    have h2 := of_decide_eq_true h2
    refine ⟨x, cls_of_not (by rw [hd]; rfl), ?_⟩
    rw [hd]
    show leN 0 m i
    have hs : s = false ∨ m = 0 := by
      by_cases h0 : m = 0
      · exact .inr h0
      · left
        cases s with
        | false => rfl
        | true =>
          exfalso
          have e : Ieee.signed true m (i - min i (-149)).toNat = - Ieee.signed false m (i - min i (-149)).toNat := signed_not false _ _
          rw [e, signed_false'] at h1
          have hp : 0 < m * 2 ^ (i - min i (-149)).toNat := Nat.mul_pos (by omega) (Nat.two_pow_pos _)
          omega
    rw [posD_signed hs, signed_false'] at h2
    refine leN_of (-(min i (-23))).toNat (by omega) (by omega) ?_
    have a1 : (i + ((-(min i (-23))).toNat : Int)).toNat = (i - min i (-23)).toNat := by omega
    have a2 : ((0 : Int) + ((-(min i (-23))).toNat : Int)).toNat = 23 + (-23 - min i (-23)).toNat := by omega
    rw [a1, a2, Nat.pow_add]
    omega
theorem two_pos' {za : List Nat} {n : Nat} (h : rowB za n = true) : n ≠ 0 := by
  unfold rowB at h
  rw [Bool.and_eq_true] at h
  have := (of_decide_eq_true h.1).1
  omega
def okM (za zb : List Nat) (sh n m : Nat) : Bool := twoB za zb n m && (shareB sh && rowB (mixL sh za zb n) n)
theorem okM_out {za zb : List Nat} {sh n m : Nat} (h : okM za zb sh n m = true) : twoB za zb n m = true ∧ shareB sh = true ∧ rowB (mixL sh za zb n) n = true := by
  unfold okM at h
  rw [Bool.and_eq_true, Bool.and_eq_true] at h
  exact h
set_option maxHeartbeats 1000000 in
theorem share_spec (x : Nat) (w : World) : Calls Try.prog 53 #[.float .f32 x] w fun e w' => e = .returned (.bool (shareB x)) ∧ w = w' := by
  cases h : shareB x with
  | true =>
    obtain ⟨h1, h2⟩ := share_true h
    clear h
    go_enter Try.func53, Try.ntmps53
    go_wp2
    go_ret
    exact ⟨rfl, rfl⟩
  | false =>
    rcases share_false h with h1 | ⟨h1, h2⟩
    · clear h
      go_enter Try.func53, Try.ntmps53
      go_wp2
      go_ret
      exact ⟨rfl, rfl⟩
    · clear h
      go_enter Try.func53, Try.ntmps53
      go_wp2
      go_ret
      exact ⟨rfl, rfl⟩
set_option maxRecDepth 100000 in
set_option maxHeartbeats 4000000 in
theorem mrS (a b : Option Addr) (n m cap capb : Nat) (za zb : List Nat) (sh : Nat) (w : World) (ha : FRow w a n za) (hb : FRow w b m zb) (hn : n ≤ 1048576) (hm : m ≤ 1048576) (hok : okM za zb sh n m = true) :
    Calls Try.prog 15 #[.slice a n cap, .slice b m capb, .float .f32 sh] w fun e w' => ∃ g cp, e = .returned (.tuple #[.slice (some ⟨g, 0, none⟩) n cp, .bool true]) ∧ w.heap.size ≤ g ∧ g < w'.heap.size ∧ FRow w' (some ⟨g, 0, none⟩) n (mixL sh za zb n) ∧ (∀ j, j < n → w'.frozen? ⟨g, j, none⟩ = false) ∧ Below w.heap.size w w' := by
  have HA := Lib.hid ha
  have HB := Lib.hid hb
  obtain ⟨h1, hsh, hrow⟩ := okM_out hok
  have HRM := Lib.hid hrow
  have h1' := h1
  obtain ⟨rfl, hn32, hca, hcb, hra, _⟩ := two_out h1
  have HCA := Lib.hid hca
  have HCB := Lib.hid hcb
  have HSH := Lib.hid (share_le hsh)
  have hn0 := two_pos' hra
  obtain ⟨hsb1, hsb2⟩ := share_true hsh
  clear ha hb hca hcb hra h1 hok
  go_enter Try.func15, Try.ntmps15
  go_wp2_with (first | (go_at_call 52; refine (two_spec _ _ _ _ _ _ za zb _ HA.out HB.out hn hm).mono ?_; rintro e w' ⟨rfl, q1, rfl⟩) | (go_at_call 53; refine (share_spec sh _).mono ?_; rintro e w' ⟨rfl, rfl⟩) | (go_at_call 55; refine (mixS a b n cap capb za zb sh _ (HA.out.drewN _) (HB.out.drewN _) HCA.out HCB.out HSH.out hn32).mono ?_; rintro e w2 ⟨v, rfl, ho, hb⟩; obtain ⟨g, cp, rfl, hg, hgl, hrow, hfz⟩ := own_row ho hn0; have HM := Lib.hid hrow; have HW := Lib.hid (Below.ofDrewN hb); have HG := Lib.hid hg; have HGL := Lib.hid hgl; have HFZ := Lib.hid hfz; clear ho hb hrow hg hgl hfz) | (go_at_call 81; refine (row_spec _ n _ (mixL sh za zb n) _ HM.out hn).mono ?_; rintro e w' ⟨rfl, q6, rfl⟩) | go_in)
  go_ret2
  exact ⟨_, _, rfl, HG.out, HGL.out, HM.out.drewN _, HFZ.out, Below.drewN' HW.out _⟩
set_option maxRecDepth 100000 in
set_option maxHeartbeats 4000000 in
theorem mrS' (a b : Option Addr) (n m cap capb : Nat) (za zb : List Nat) (sh : Nat) (w : World) (ha : FRow w a n za) (hb : FRow w b m zb) (hn : n ≤ 1048576) (hm : m ≤ 1048576) (hok : okM za zb sh n m = false) :
    Calls Try.prog 15 #[.slice a n cap, .slice b m capb, .float .f32 sh] w fun e w' => e = .returned (.tuple #[.slice none 0 0, .bool false]) ∧ Below w.heap.size w w' := by
  have HA := Lib.hid ha
  have HB := Lib.hid hb
  clear ha hb
  cases h1 : twoB za zb n m with
  | false =>
    clear hok
    go_enter Try.func15, Try.ntmps15
    go_wp2_with (first | (go_at_call 52; refine (two_spec _ _ _ _ _ _ za zb _ HA.out HB.out hn hm).mono ?_; rintro e w' ⟨rfl, q1, rfl⟩) | go_in)
    go_ret2
    exact ⟨rfl, (Drew.mk _ _).below⟩
  | true =>
    cases hsh : shareB sh with
    | false =>
      have hsf := share_false hsh
      clear hok
      rcases hsf with hs1 | ⟨hs1, hs2⟩
      · go_enter Try.func15, Try.ntmps15
        go_wp2_with (first | (go_at_call 52; refine (two_spec _ _ _ _ _ _ za zb _ HA.out HB.out hn hm).mono ?_; rintro e w' ⟨rfl, q1, rfl⟩) | (go_at_call 53; refine (share_spec sh _).mono ?_; rintro e w' ⟨rfl, rfl⟩) | go_in)
        go_ret2
        exact ⟨rfl, (Drew.mk _ _).below⟩
      · go_enter Try.func15, Try.ntmps15
        go_wp2_with (first | (go_at_call 52; refine (two_spec _ _ _ _ _ _ za zb _ HA.out HB.out hn hm).mono ?_; rintro e w' ⟨rfl, q1, rfl⟩) | (go_at_call 53; refine (share_spec sh _).mono ?_; rintro e w' ⟨rfl, rfl⟩) | go_in)
        go_ret2
        exact ⟨rfl, (Drew.mk _ _).below⟩
    | true =>
      have hrow : rowB (mixL sh za zb n) n = false := by
        unfold okM at hok
        rw [h1, hsh] at hok
        simpa using hok
      have HRM := Lib.hid hrow
      obtain ⟨rfl, hn32, hca, hcb, hra, _⟩ := two_out h1
      have HCA := Lib.hid hca
      have HCB := Lib.hid hcb
      have HSH := Lib.hid (share_le hsh)
      have hn0 := two_pos' hra
      obtain ⟨hsb1, hsb2⟩ := share_true hsh
      clear hca hcb hra hok
      go_enter Try.func15, Try.ntmps15
      go_wp2_with (first | (go_at_call 52; refine (two_spec _ _ _ _ _ _ za zb _ HA.out HB.out hn hm).mono ?_; rintro e w' ⟨rfl, q1, rfl⟩) | (go_at_call 53; refine (share_spec sh _).mono ?_; rintro e w' ⟨rfl, rfl⟩) | (go_at_call 55; refine (mixS a b n cap capb za zb sh _ (HA.out.drewN _) (HB.out.drewN _) HCA.out HCB.out HSH.out hn32).mono ?_; rintro e w2 ⟨v, rfl, ho, hb⟩; obtain ⟨g, cp, rfl, hg, hgl, hrow, hfz⟩ := own_row ho hn0; have HM := Lib.hid hrow; have HW := Lib.hid (Below.ofDrewN hb); have HG := Lib.hid hg; have HGL := Lib.hid hgl; have HFZ := Lib.hid hfz; clear ho hb hrow hg hgl hfz) | (go_at_call 81; refine (row_spec _ n _ (mixL sh za zb n) _ HM.out hn).mono ?_; rintro e w' ⟨rfl, q6, rfl⟩) | go_in)
      go_ret2
      exact ⟨rfl, Below.drewN' HW.out _⟩
set_option maxRecDepth 100000 in
set_option maxHeartbeats 4000000 in
theorem mrI (a b : Option Addr) (n m cap capb : Nat) (za zb : List Nat) (sh : Nat) (w : World) (ha : FRow w a n za) (hb : FRow w b m zb) (hn : n ≤ 1048576) (hm : m ≤ 1048576) (hok : okM za zb sh n m = true) :
    Calls Try.prog 17 #[.slice a n cap, .slice b m capb, .float .f32 sh] w fun e w' => ∃ g cp, e = .returned (.tuple #[.slice (some ⟨g, 0, none⟩) n cp, .bool true]) ∧ w.heap.size ≤ g ∧ g < w'.heap.size ∧ FRow w' (some ⟨g, 0, none⟩) n (mixL sh za zb n) ∧ (∀ j, j < n → w'.frozen? ⟨g, j, none⟩ = false) ∧ Below w.heap.size w w' := by
  have HA := Lib.hid ha
  have HB := Lib.hid hb
  obtain ⟨h1, hsh, hrow⟩ := okM_out hok
  have HRM := Lib.hid hrow
  have h1' := h1
  obtain ⟨rfl, hn32, hca, hcb, hra, _⟩ := two_out h1
  have HCA := Lib.hid hca
  have HCB := Lib.hid hcb
  have HSH := Lib.hid (share_le hsh)
  have hn0 := two_pos' hra
  obtain ⟨hsb1, hsb2⟩ := share_true hsh
  clear ha hb hca hcb hra h1 hok
  go_enter Try.func17, Try.ntmps17
  go_wp2_with (first | (go_at_call 56; refine (two_impl _ _ _ _ _ _ za zb _ HA.out HB.out hn hm).mono ?_; rintro e w' ⟨rfl, q1, rfl⟩) | (go_at_call 58; refine (mixI' a b n cap capb za zb sh _ (HA.out.drewN _) (HB.out.drewN _) HCA.out HCB.out HSH.out hn32).mono ?_; rintro e w2 ⟨rfl, q5, rfl⟩) | (go_at_call 83; refine (row_impl _ n _ (mixL sh za zb n) _ ((FRow.new' (mixL_len _ _ _ _) (by simp) _).drewN _) hn).mono ?_; rintro e w' ⟨rfl, q6, rfl⟩) | go_in)
  go_ret2
  exact ⟨_, _, rfl, Nat.le_refl _, by simp, (FRow.new' (mixL_len _ _ _ _) (by simp) _).drewN _, fun j _ => World.frozen?_alloc_at _ _ _ _ rfl, Below.drewN' (Below.alloc (Below.drewN' (Below.refl _ _) _) (Nat.le_refl _) _) _⟩
set_option maxRecDepth 100000 in
set_option maxHeartbeats 4000000 in
theorem mrI' (a b : Option Addr) (n m cap capb : Nat) (za zb : List Nat) (sh : Nat) (w : World) (ha : FRow w a n za) (hb : FRow w b m zb) (hn : n ≤ 1048576) (hm : m ≤ 1048576) (hok : okM za zb sh n m = false) :
    Calls Try.prog 17 #[.slice a n cap, .slice b m capb, .float .f32 sh] w fun e w' => e = .returned (.tuple #[.slice none 0 0, .bool false]) ∧ Below w.heap.size w w' := by
  have HA := Lib.hid ha
  have HB := Lib.hid hb
  clear ha hb
  cases h1 : twoB za zb n m with
  | false =>
    clear hok
    go_enter Try.func17, Try.ntmps17
    go_wp2_with (first | (go_at_call 56; refine (two_impl _ _ _ _ _ _ za zb _ HA.out HB.out hn hm).mono ?_; rintro e w' ⟨rfl, q1, rfl⟩) | go_in)
    go_ret2
    exact ⟨rfl, (Drew.mk _ _).below⟩
  | true =>
    cases hsh : shareB sh with
    | false =>
      have hsf := share_false hsh
      clear hok
      rcases hsf with hs1 | ⟨hs1, hs2⟩
      · go_enter Try.func17, Try.ntmps17
        go_wp2_with (first | (go_at_call 56; refine (two_impl _ _ _ _ _ _ za zb _ HA.out HB.out hn hm).mono ?_; rintro e w' ⟨rfl, q1, rfl⟩) | go_in)
        go_ret2
        exact ⟨rfl, (Drew.mk _ _).below⟩
      · go_enter Try.func17, Try.ntmps17
        go_wp2_with (first | (go_at_call 56; refine (two_impl _ _ _ _ _ _ za zb _ HA.out HB.out hn hm).mono ?_; rintro e w' ⟨rfl, q1, rfl⟩) | go_in)
        go_ret2
        exact ⟨rfl, (Drew.mk _ _).below⟩
    | true =>
      have hrow : rowB (mixL sh za zb n) n = false := by
        unfold okM at hok
        rw [h1, hsh] at hok
        simpa using hok
      have HRM := Lib.hid hrow
      obtain ⟨rfl, hn32, hca, hcb, hra, _⟩ := two_out h1
      have HCA := Lib.hid hca
      have HCB := Lib.hid hcb
      have HSH := Lib.hid (share_le hsh)
      have hn0 := two_pos' hra
      obtain ⟨hsb1, hsb2⟩ := share_true hsh
      clear hca hcb hra hok
      go_enter Try.func17, Try.ntmps17
      go_wp2_with (first | (go_at_call 56; refine (two_impl _ _ _ _ _ _ za zb _ HA.out HB.out hn hm).mono ?_; rintro e w' ⟨rfl, q1, rfl⟩) | (go_at_call 58; refine (mixI' a b n cap capb za zb sh _ (HA.out.drewN _) (HB.out.drewN _) HCA.out HCB.out HSH.out hn32).mono ?_; rintro e w2 ⟨rfl, q5, rfl⟩) | (go_at_call 83; refine (row_impl _ n _ (mixL sh za zb n) _ ((FRow.new' (mixL_len _ _ _ _) (by simp) _).drewN _) hn).mono ?_; rintro e w' ⟨rfl, q6, rfl⟩) | go_in)
      go_ret2
      exact ⟨rfl, Below.drewN' (Below.alloc (Below.drewN' (Below.refl _ _) _) (Nat.le_refl _) _) _⟩
end Go.Proofs.Ytcgdhicgpkoncaa
