/- WordChance of the program. -/
import Derived.Test.YtffamppflelflaaWcv
namespace Go.Proofs.Ytffamppflelflaa
open Go.Proofs.Ytffamppflelflaa.Flo Go.RowKit

def srcB (r c : Int) (zc : List Nat) (n : Nat) : Bool := chanB r c zc n && decide (r = c)
set_option maxHeartbeats 4000000 in
theorem src_impl (r c : Int) (a : Option Addr) (n cap : Nat) (zc : List Nat) (w : World) (hc : FRow w a n zc) (hn : n ≤ 1048576) (hcap : n ≤ cap) :
    Calls Try.prog 90 #[.agg #[.int .i64 r, .int .i64 c, .slice a n cap]] w fun e w' => e = .returned (.bool (srcB r c zc n)) ∧ Below w.heap.size w w' := by
  have HA := Lib.hid (hc.alloc (.cells #[.int .i64 r, .int .i64 c, .slice a n cap] 27))
  have HT := Lib.hid (Tab.new w r c a n cap 27)
  clear hc
  cases h1 : chanB r c zc n with
  | false =>
    have HV : Hid (srcB r c zc n = false) := Lib.hid (by unfold srcB; rw [h1]; rfl)
    go_enter Try.func90, Try.ntmps90
    go_wp2_with (first | (go_at_call 18; refine (hv_impl r c a n cap zc _ HA.out hn hcap).mono ?_; rintro e w2 ⟨rfl, hb⟩; have HW := Lib.hid (Below.next (below_alloc _ _) hb); obtain ⟨_, hc0, hc1, _⟩ := HT.out.below hb; clear hb) | go_in)
    go_ret
    exact ⟨ret_bool2 HV.out.symm, HW.out⟩
  | true =>
    by_cases he : r = c
    · have hd : (r == c) = true := by simpa using he
      have HV : Hid (srcB r c zc n = true) := Lib.hid (by unfold srcB; rw [h1, decide_eq_true he]; rfl)
      clear he
      go_enter Try.func90, Try.ntmps90
      go_wp2_with (first | (go_at_call 18; refine (hv_impl r c a n cap zc _ HA.out hn hcap).mono ?_; rintro e w2 ⟨rfl, hb⟩; have HW := Lib.hid (Below.next (below_alloc _ _) hb); obtain ⟨_, hc0, hc1, _⟩ := HT.out.below hb; clear hb) | go_in)
      go_ret
      exact ⟨ret_bool2 HV.out.symm, HW.out⟩
    · have hd : (r == c) = false := by simpa using he
      have HV : Hid (srcB r c zc n = false) := Lib.hid (by unfold srcB; rw [h1, decide_eq_false he]; rfl)
      clear he
      go_enter Try.func90, Try.ntmps90
      go_wp2_with (first | (go_at_call 18; refine (hv_impl r c a n cap zc _ HA.out hn hcap).mono ?_; rintro e w2 ⟨rfl, hb⟩; have HW := Lib.hid (Below.next (below_alloc _ _) hb); obtain ⟨_, hc0, hc1, _⟩ := HT.out.below hb; clear hb) | go_in)
      go_ret
      exact ⟨ret_bool2 HV.out.symm, HW.out⟩
set_option maxRecDepth 100000 in
set_option maxHeartbeats 4000000 in
theorem wcI (r c : Int) (a : Option Addr) (n : Nat) (zc : List Nat) (a2 : Option Addr) (m cap2 : Nat) (zr : List Nat) (a3 : Option Addr) (k cap3 : Nat) (zw : List Int) (w : World) (hc : FRow w a n zc) (hr : FRow w a2 m zr) (hw : IRow w a3 k zw) (hn : n ≤ 1048576) (hm : m ≤ 1048576) (hk : k ≤ 1048576) (wf : Wf zr m) :
    Calls Try.prog 55 #[.agg #[.int .i64 r, .int .i64 c, .slice a n n], .slice a2 m cap2, .slice a3 k cap3] w fun e w' => ∃ x, e = .returned (.tuple #[.float .f32 x, .bool (okWc r c zc n zr m zw k)]) ∧ cls .f32 x = ansV (okWc r c zc n zr m zw k) (cls .f32 (wordN zr zc c.toNat zw (k - 1))) ∧ Below w.heap.size w w' := by
  have HA := Lib.hid (hc.alloc (.cells #[.int .i64 r, .int .i64 c, .slice a n n] 27))
  have HB := Lib.hid (hr.alloc (.cells #[.int .i64 r, .int .i64 c, .slice a n n] 27))
  have HI := Lib.hid (hw.alloc' (.cells #[.int .i64 r, .int .i64 c, .slice a n n] 27))
  have HT := Lib.hid (Tab.new w r c a n n 27)
  clear hc hr hw
  cases ht : takeB r c zc n zr m with
  | false =>
    have HR : Hid (okWc r c zc n zr m zw k = false) := Lib.hid (by unfold okWc; rw [ht]; rfl)
    cases hsr : srcB r c zc n with
    | false =>
      go_enter Try.func55, Try.ntmps55
      go_wp2_with (first | (go_at_call 90; refine (src_impl r c _ n n zc _ HA.out hn (Nat.le_refl _)).mono ?_; rintro e w2 ⟨rfl, hb⟩; have HA := Lib.hid (HA.out.below hb); have HB := Lib.hid (HB.out.below hb); have HI := Lib.hid (HI.out.below hb); have HT := Lib.hid (HT.out.below hb); have HWT := Lib.hid (Below.next (below_alloc _ _) hb); obtain ⟨_, hc0, hc1, hc2⟩ := HT.out; clear hb) | (go_at_call 76; refine (take_impl r c _ n n zc _ m _ zr _ HA.out HB.out hn hm (Nat.le_refl _)).mono ?_; rintro e w3 ⟨rfl, hb⟩; have HA := Lib.hid (HA.out.below hb); have HB := Lib.hid (HB.out.below hb); have HI := Lib.hid (HI.out.below hb); have HT := Lib.hid (HT.out.below hb); have HWT := Lib.hid (Below.next HWT.out hb); obtain ⟨_, hc0, hc1, hc2⟩ := HT.out; clear hb) | go_in)
      go_ret2
      exact ⟨0, ret_fb HR.out.symm, by rw [HR.out]; rfl, HWT.out⟩
    | true =>
      go_enter Try.func55, Try.ntmps55
      go_wp2_with (first | (go_at_call 90; refine (src_impl r c _ n n zc _ HA.out hn (Nat.le_refl _)).mono ?_; rintro e w2 ⟨rfl, hb⟩; have HA := Lib.hid (HA.out.below hb); have HB := Lib.hid (HB.out.below hb); have HI := Lib.hid (HI.out.below hb); have HT := Lib.hid (HT.out.below hb); have HWT := Lib.hid (Below.next (below_alloc _ _) hb); obtain ⟨_, hc0, hc1, hc2⟩ := HT.out; clear hb) | (go_at_call 76; refine (take_impl r c _ n n zc _ m _ zr _ HA.out HB.out hn hm (Nat.le_refl _)).mono ?_; rintro e w3 ⟨rfl, hb⟩; have HA := Lib.hid (HA.out.below hb); have HB := Lib.hid (HB.out.below hb); have HI := Lib.hid (HI.out.below hb); have HT := Lib.hid (HT.out.below hb); have HWT := Lib.hid (Below.next HWT.out hb); obtain ⟨_, hc0, hc1, hc2⟩ := HT.out; clear hb) | go_in)
      go_ret2
      exact ⟨0, ret_fb HR.out.symm, by rw [HR.out]; rfl, HWT.out⟩
  | true =>
    by_cases hrc : r = c
    · subst hrc
      have hsr : srcB r r zc n = true := by
        have h := ht
        unfold takeB at h
        rw [Bool.and_eq_true] at h
        unfold srcB; rw [h.1, decide_eq_true rfl]; rfl
      by_cases hk1 : k < 1
      · have hd1 : decide ((k : Int) < 1) = true := decide_eq_true (by omega)
        have HR : Hid (okWc r r zc n zr m zw k = false) := Lib.hid (by unfold okWc; rw [decide_eq_false (show ¬ (1 ≤ k ∧ k ≤ 64) by omega)]; simp)
        clear hk1
        go_enter Try.func55, Try.ntmps55
        go_wp2_with (first | (go_at_call 90; refine (src_impl r r _ n n zc _ HA.out hn (Nat.le_refl _)).mono ?_; rintro e w2 ⟨rfl, hb⟩; have HA := Lib.hid (HA.out.below hb); have HB := Lib.hid (HB.out.below hb); have HI := Lib.hid (HI.out.below hb); have HT := Lib.hid (HT.out.below hb); have HWT := Lib.hid (Below.next (below_alloc _ _) hb); obtain ⟨_, hc0, hc1, hc2⟩ := HT.out; clear hb) | (go_at_call 76; refine (take_impl r r _ n n zc _ m _ zr _ HA.out HB.out hn hm (Nat.le_refl _)).mono ?_; rintro e w3 ⟨rfl, hb⟩; have HA := Lib.hid (HA.out.below hb); have HB := Lib.hid (HB.out.below hb); have HI := Lib.hid (HI.out.below hb); have HT := Lib.hid (HT.out.below hb); have HWT := Lib.hid (Below.next HWT.out hb); obtain ⟨_, hc0, hc1, hc2⟩ := HT.out; clear hb) | go_in)
        go_ret2
        exact ⟨0, ret_fb HR.out.symm, by rw [HR.out]; rfl, HWT.out⟩
      · have hd1 : decide ((k : Int) < 1) = false := decide_eq_false (by omega)
        by_cases hk64 : 64 < k
        · have hd2 : decide (64 < (k : Int)) = true := decide_eq_true (by omega)
          have HR : Hid (okWc r r zc n zr m zw k = false) := Lib.hid (by unfold okWc; rw [decide_eq_false (show ¬ (1 ≤ k ∧ k ≤ 64) by omega)]; simp)
          clear hk1 hk64
          go_enter Try.func55, Try.ntmps55
          go_wp2_with (first | (go_at_call 90; refine (src_impl r r _ n n zc _ HA.out hn (Nat.le_refl _)).mono ?_; rintro e w2 ⟨rfl, hb⟩; have HA := Lib.hid (HA.out.below hb); have HB := Lib.hid (HB.out.below hb); have HI := Lib.hid (HI.out.below hb); have HT := Lib.hid (HT.out.below hb); have HWT := Lib.hid (Below.next (below_alloc _ _) hb); obtain ⟨_, hc0, hc1, hc2⟩ := HT.out; clear hb) | (go_at_call 76; refine (take_impl r r _ n n zc _ m _ zr _ HA.out HB.out hn hm (Nat.le_refl _)).mono ?_; rintro e w3 ⟨rfl, hb⟩; have HA := Lib.hid (HA.out.below hb); have HB := Lib.hid (HB.out.below hb); have HI := Lib.hid (HI.out.below hb); have HT := Lib.hid (HT.out.below hb); have HWT := Lib.hid (Below.next HWT.out hb); obtain ⟨_, hc0, hc1, hc2⟩ := HT.out; clear hb) | go_in)
          go_ret2
          exact ⟨0, ret_fb HR.out.symm, by rw [HR.out]; rfl, HWT.out⟩
        · have hd2 : decide (64 < (k : Int)) = false := decide_eq_false (by omega)
          obtain ⟨R, C, hrR, hrC, hN, hR, hC, hrows, hmR, hrow⟩ := take_out ht
          obtain rfl : R = C := by omega
          subst hrR
          have hR1 := hR.1
          have hR2 := hR.2
          have hn0 : 0 < n := by rw [hN]; exact Nat.mul_pos hR1 hR1
          have hn64 : n ≤ 64 := by rw [hN]; exact Nat.le_trans (Nat.mul_le_mul hR2 hR2) (by decide)
          subst hmR
          obtain ⟨b, off, rfl⟩ := HA.out.some hn0
          obtain ⟨b2, o2, rfl⟩ := HB.out.some (by omega)
          have HV : Hid (okWc (m : Int) (m : Int) zc n zr m zw k = lettersB zw k m) := Lib.hid (by unfold okWc; rw [ht, decide_eq_true rfl, decide_eq_true (show 1 ≤ k ∧ k ≤ 64 by omega)]; rfl)
          have HN := Lib.hid hN
          have HROW := Lib.hid hrow
          have HROWS := Lib.hid hrows
          have WF := Lib.hid wf
          have hdz : ∀ w2 : World, w2.drewN 0 = w2 := World.drewN_zero
          clear hN hrow hrows hrC hR hC
          go_enter Try.func55, Try.ntmps55
          go_wp2_with (first | (go_at_call 90; refine (src_impl (m : Int) (m : Int) _ n n zc _ HA.out hn (Nat.le_refl _)).mono ?_; rintro e w2 ⟨rfl, hb⟩; have HA := Lib.hid (HA.out.below hb); have HB := Lib.hid (HB.out.below hb); have HI := Lib.hid (HI.out.below hb); have HT := Lib.hid (HT.out.below hb); have HWT := Lib.hid (Below.next (below_alloc _ _) hb); obtain ⟨_, hc0, hc1, hc2⟩ := HT.out; clear hb) | (go_at_call 76; refine (take_impl (m : Int) (m : Int) _ n n zc _ m _ zr _ HA.out HB.out hn hm (Nat.le_refl _)).mono ?_; rintro e w3 ⟨rfl, hb⟩; have HA := Lib.hid (HA.out.below hb); have HB := Lib.hid (HB.out.below hb); have HI := Lib.hid (HI.out.below hb); have HT := Lib.hid (HT.out.below hb); have HWT := Lib.hid (Below.next HWT.out hb); obtain ⟨_, hc0, hc1, hc2⟩ := HT.out; clear hb) | (go_at_call 59; refine (ro_impl b off m m n n _ HN.out ⟨hR1, hR2⟩ ⟨hR1, hR2⟩ (Nat.le_refl _)).mono ?_; rintro e w4 ⟨g, rfl, hg, hge, hb⟩; have HG := Lib.hid hg; have HA := Lib.hid (HA.out.below hb); have HB := Lib.hid (HB.out.below hb); have HI := Lib.hid (HI.out.below hb); have HT := Lib.hid (HT.out.below hb); have HWT := Lib.hid (Below.next HWT.out hb); clear hg hge hb) | go_in)
          obtain ⟨_, hc0, hc1, hc2⟩ := HT.out
          go_loopw [9, 10, 37] (fun sv rv iv w' => ∃ (i q s : Nat) (p : Nat × Nat) (cp : Nat) (zz : List Nat), i ≤ k ∧ Hid (∀ j, j < i → letterB zw m j = true) ∧ sv = .float .f32 s ∧ rv = .slice (some ⟨p.1, p.2, none⟩) m cp ∧ iv = .int .i64 i ∧ w' = w4.drewN q ∧ Hid (FRow w4 (some ⟨p.1, p.2, none⟩) m zz) ∧ Hid (∀ l, l < m → i < k → letterB zw m i = true → wl zw i = l → floatBits .mul .f32 s (zz.getD l 0) = some (wordN zr zc m zw i)) ∧ Hid (i = 0 ∨ s = wordN zr zc m zw (i - 1))) (fun _ _ iv _ => k - (intOf iv).toNat)
          case atStart => exact ⟨0, 0, 1065353216, (b2, o2), _, zr, by omega, Lib.hid (by intro j hj; omega), rfl, rfl, rfl, rfl, HB, Lib.hid (by intro l hl h0 h1 h2; subst h2; exact one_mul32 (WF.out _ hl) (row_num HROW.out hl).2), Lib.hid (.inl rfl)⟩
          case round =>
            obtain ⟨i, q, s, ⟨p1, p2⟩, cp, zz, hki, HL, rfl, rfl, rfl, rfl, HZ, HS, HE⟩ := hrel
            by_cases hlt : i < k
            · obtain ⟨b3, o3, rfl, hci⟩ := irow_cell HI.out hlt
              cases hlb : letterB zw m i with
              | true =>
                obtain ⟨e0, f0⟩ := letter_out hlb
                rw [e0] at hci
                have hmul := HS.out (wl zw i) f0 hlt hlb rfl
                have hck := row_cell2 HZ.out f0
                have hcg : w4.cell? ⟨g, wl zw i, none⟩ = some (.slice (some ⟨b, off + wl zw i * m, none⟩) m m) := HG.out.2 _ f0
                have HP := Lib.hid (HA.out.part (row_mul HN.out f0) hR1)
                have HLN : Hid (∀ j, j < i + 1 → letterB zw m j = true) := Lib.hid (fun j hj => by by_cases e : j = i; exact e ▸ hlb; exact HL.out j (by omega))
                have HNX : Hid (∀ l, l < m → i + 1 < k → letterB zw m (i + 1) = true → wl zw (i + 1) = l → floatBits .mul .f32 (wordN zr zc m zw i) ((sub zc (wl zw i) m).getD l 0) = some (wordN zr zc m zw (i + 1))) := Lib.hid (by
                  intro l hl h1 h2 h3
                  subst h3
                  rw [sub_get _ _ _ hl]
                  exact (word_step (k := i + 2) HROW.out HROWS.out (fun j hj => by by_cases e : j = i + 1; exact e ▸ h2; exact HLN.out j (by omega)) (by omega) i (by omega)).2 (by omega))
                have hr1 := fun w2 => fres_some hmul w2
                have hf1 := fcnt_some hmul
                have hlt0 : decide ((wl zw i : Int) < 0) = false := decide_eq_false (by omega)
                have hge0 : decide ((m : Int) ≤ (wl zw i : Int)) = false := decide_eq_false (by omega)
                generalize hsv : wordN zr zc m zw i = sv at hr1 hf1 HNX
                have HSV := Lib.hid hsv
                generalize zz.getD (wl zw i) 0 = z at hck hr1 hf1
                generalize wl zw i = l at hci hck hcg HP HNX f0 hlt0 hge0
                clear hmul e0 hsv hlb
                go_wp2
                exact ⟨⟨i + 1, _, sv, (b, off + l * m), m, sub zc l m, by omega, HLN, by first | rfl | rw [hr1], rfl, by first | rfl | go_num | (congr 1), rfl, HP, HNX, Lib.hid (.inr (by rw [← HSV.out]; rfl))⟩, by show k - ((i : Int) + 1).toNat < k - (i : Int).toNat; omega⟩
              | false =>
                have HR : Hid (okWc (m : Int) (m : Int) zc n zr m zw k = false) := Lib.hid (HV.out.trans (notAll hlt hlb))
                have hin := of_decide_eq_false hlb
                obtain ⟨l, hl⟩ : ∃ l, l = zw.getD i 0 := ⟨_, rfl⟩
                rw [← hl] at hci hin
                by_cases h0 : l < 0
                · have hd3 : decide (l < 0) = true := decide_eq_true h0
                  clear hl hlb hin h0
                  go_wp2
                  go_ret2
                  exact ⟨0, ret_fb HR.out.symm, by rw [HR.out]; rfl, Below.drewN' HWT.out _⟩
                · have hd3 : decide (l < 0) = false := decide_eq_false h0
                  have hd4 : decide ((m : Int) ≤ l) = true := decide_eq_true (by omega)
                  clear hl hlb hin h0
                  go_wp2
                  go_ret2
                  exact ⟨0, ret_fb HR.out.symm, by rw [HR.out]; rfl, Below.drewN' HWT.out _⟩
            · obtain rfl : i = k := by omega
              have HR : Hid (okWc (m : Int) (m : Int) zc n zr m zw i = true) := Lib.hid (HV.out.trans (isAll HL.out))
              have HSF : Hid (s = wordN zr zc m zw (i - 1)) := Lib.hid (HE.out.resolve_left (by omega))
              go_wp2
              go_ret2
              exact ⟨_, ret_fb HR.out.symm, by rw [HR.out, HSF.out]; rfl, Below.drewN' HWT.out _⟩
    · have HR : Hid (okWc r c zc n zr m zw k = false) := Lib.hid (by unfold okWc; rw [decide_eq_false hrc]; simp)
      have hsr : srcB r c zc n = false := by unfold srcB; rw [decide_eq_false hrc]; simp
      clear hrc
      go_enter Try.func55, Try.ntmps55
      go_wp2_with (first | (go_at_call 90; refine (src_impl r c _ n n zc _ HA.out hn (Nat.le_refl _)).mono ?_; rintro e w2 ⟨rfl, hb⟩; have HA := Lib.hid (HA.out.below hb); have HB := Lib.hid (HB.out.below hb); have HI := Lib.hid (HI.out.below hb); have HT := Lib.hid (HT.out.below hb); have HWT := Lib.hid (Below.next (below_alloc _ _) hb); obtain ⟨_, hc0, hc1, hc2⟩ := HT.out; clear hb) | (go_at_call 76; refine (take_impl r c _ n n zc _ m _ zr _ HA.out HB.out hn hm (Nat.le_refl _)).mono ?_; rintro e w3 ⟨rfl, hb⟩; have HA := Lib.hid (HA.out.below hb); have HB := Lib.hid (HB.out.below hb); have HI := Lib.hid (HI.out.below hb); have HT := Lib.hid (HT.out.below hb); have HWT := Lib.hid (Below.next HWT.out hb); obtain ⟨_, hc0, hc1, hc2⟩ := HT.out; clear hb) | go_in)
      go_ret2
      exact ⟨0, ret_fb HR.out.symm, by rw [HR.out]; rfl, HWT.out⟩
end Go.Proofs.Ytffamppflelflaa
