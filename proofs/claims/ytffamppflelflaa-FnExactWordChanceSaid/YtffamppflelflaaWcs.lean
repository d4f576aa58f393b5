/- WordChance of the model. -/
import Derived.Test.YtffamppflelflaaWcv
namespace Go.Proofs.Ytffamppflelflaa
open Go.Proofs.Ytffamppflelflaa.Flo Go.RowKit

theorem row_cellI {w : World} {b o n : Nat} {zs : List Int} (h : IRow w (some ⟨b, o, none⟩) n zs) {k : Nat} (hk : k < n) : w.cell? ⟨b, o + k, none⟩ = some (.int .i64 (zs.getD k 0)) := by
  obtain ⟨b', o', e, hc⟩ := irow_cell h hk
  injection e with e
  injection e with e1 e2
  subst e1; subst e2
  exact hc
set_option maxRecDepth 100000 in
set_option maxHeartbeats 4000000 in
theorem wcS (r c : Int) (a : Option Addr) (n : Nat) (zc : List Nat) (a2 : Option Addr) (m cap2 : Nat) (zr : List Nat) (a3 : Option Addr) (k cap3 : Nat) (zw : List Int) (w : World) (hc : FRow w a n zc) (hr : FRow w a2 m zr) (hw : IRow w a3 k zw) (hn : n ≤ 1048576) (hm : m ≤ 1048576) (hk : k ≤ 1048576) :
    Calls Try.prog 53 #[.agg #[.int .i64 r, .int .i64 c, .slice a n n], .slice a2 m cap2, .slice a3 k cap3] w fun e w' => ∃ x, e = .returned (.tuple #[.float .f32 x, .bool (okWc r c zc n zr m zw k)]) ∧ cls .f32 x = ansV (okWc r c zc n zr m zw k) (cls .f32 (wordN zr zc c.toNat zw (k - 1))) ∧ Below w.heap.size w w' := by
  have HA := Lib.hid (hc.alloc (.cells #[.int .i64 r, .int .i64 c, .slice a n n] 27))
  have HB := Lib.hid (hr.alloc (.cells #[.int .i64 r, .int .i64 c, .slice a n n] 27))
  have HI := Lib.hid (hw.alloc' (.cells #[.int .i64 r, .int .i64 c, .slice a n n] 27))
  have HT := Lib.hid (Tab.new w r c a n n 27)
  clear hc hr hw
  obtain ⟨_, hc0, hc1, hc2⟩ := HT.out
  cases ht : takeB r c zc n zr m with
  | false =>
    have HR : Hid (okWc r c zc n zr m zw k = false) := Lib.hid (by unfold okWc; rw [ht]; rfl)
    go_enter Try.func53, Try.ntmps53
    go_wp2_with (first | (go_at_call 73; refine (take_spec _ r c _ n n zc _ m _ zr _ HA.out HB.out hn hm (Nat.le_refl _) HT.out).mono ?_; rintro e w' ⟨rfl, q, rfl⟩) | go_in)
    go_ret2
    exact ⟨0, ret_fb HR.out.symm, by rw [HR.out]; rfl, Below.drewN' (below_alloc _ _) _⟩
  | true =>
    by_cases hrc : r = c
    · subst hrc
      have hne : (r != r) = false := by simp
      by_cases hk1 : k < 1
      · have hd1 : decide ((k : Int) < 1) = true := decide_eq_true (by omega)
        have HR : Hid (okWc r r zc n zr m zw k = false) := Lib.hid (by unfold okWc; rw [decide_eq_false (show ¬ (1 ≤ k ∧ k ≤ 64) by omega)]; simp)
        clear hk1
        go_enter Try.func53, Try.ntmps53
        go_wp2_with (first | (go_at_call 73; refine (take_spec _ r r _ n n zc _ m _ zr _ HA.out HB.out hn hm (Nat.le_refl _) HT.out).mono ?_; rintro e w' ⟨rfl, q, rfl⟩) | go_in)
        go_ret2
        exact ⟨0, ret_fb HR.out.symm, by rw [HR.out]; rfl, Below.drewN' (below_alloc _ _) _⟩
      · have hd1 : decide ((k : Int) < 1) = false := decide_eq_false (by omega)
        by_cases hk64 : 64 < k
        · have hd2 : decide (64 < (k : Int)) = true := decide_eq_true (by omega)
          have HR : Hid (okWc r r zc n zr m zw k = false) := Lib.hid (by unfold okWc; rw [decide_eq_false (show ¬ (1 ≤ k ∧ k ≤ 64) by omega)]; simp)
          clear hk1 hk64
          go_enter Try.func53, Try.ntmps53
          go_wp2_with (first | (go_at_call 73; refine (take_spec _ r r _ n n zc _ m _ zr _ HA.out HB.out hn hm (Nat.le_refl _) HT.out).mono ?_; rintro e w' ⟨rfl, q, rfl⟩) | go_in)
          go_ret2
          exact ⟨0, ret_fb HR.out.symm, by rw [HR.out]; rfl, Below.drewN' (below_alloc _ _) _⟩
        · have hd2 : decide (64 < (k : Int)) = false := decide_eq_false (by omega)
          obtain ⟨R, C, hrR, hrC, hN, hR, hC, hrows, hmR, hrow⟩ := take_out ht
          obtain rfl : R = C := by omega
          subst hrR
          have hR1 := hR.1
          have hR2 := hR.2
          have hn0 : 0 < n := by rw [hN]; exact Nat.mul_pos hR1 hR1
          have hn64 : n ≤ 64 := by rw [hN]; exact Nat.le_trans (Nat.mul_le_mul hR2 hR2) (by decide)
          subst hmR
          obtain ⟨b, off, rfl⟩ := HA.out.some hn0
          obtain ⟨b2, o2, rfl⟩ := HB.out.some (by omega)
          have HV : Hid (okWc (m : Int) (m : Int) zc n zr m zw k = lettersB zw k m) := Lib.hid (by unfold okWc; rw [ht, decide_eq_true rfl, decide_eq_true (show 1 ≤ k ∧ k ≤ 64 by omega)]; rfl)
          have HN := Lib.hid hN
          have HROW := Lib.hid hrow
          have HROWS := Lib.hid hrows
          have hdz : ∀ w2 : World, w2.drewN 0 = w2 := World.drewN_zero
          clear hN hrow hrows hrC hR hC
          have hwm : IntKind.i64.wrap ((m : Int) - 1) = (m : Int) - 1 := IntWalk.i64_in _ (by omega)
          go_enter Try.func53, Try.ntmps53
          go_wp2_with (first | (go_at_call 73; refine (take_spec _ (m : Int) (m : Int) _ n n zc _ m _ zr _ HA.out HB.out hn hm (Nat.le_refl _) HT.out).mono ?_; rintro e w' ⟨rfl, q, rfl⟩) | go_in)
          go_loopw [33] (fun iv w' => ∃ (i : Nat) (wr : World), i ≤ k ∧ Hid (∀ j, j < i → letterB zw m j = true) ∧ iv = .int .i64 i ∧ wr = w' ∧ Hid (Drew (w.alloc (.cells #[.int .i64 (m : Int), .int .i64 (m : Int), .slice (some ⟨b, off, none⟩) n n] 27)) wr)) (fun iv _ => k - (intOf iv).toNat)
          case atStart => exact ⟨0, _, by omega, Lib.hid (by intro j hj; omega), rfl, rfl, Lib.hid (Drew.mk _ _)⟩
          case round =>
            obtain ⟨i, wr, hki, HL, rfl, rfl, HD⟩ := hrel
            have HIw := Lib.hid (HI.out.below HD.out.below)
            have hcw0 : wr.cell? ⟨w.heap.size, 0, none⟩ = some (.int .i64 (m : Int)) := (HT.out.below HD.out.below).2.1
            by_cases hlt : i < k
            · obtain ⟨b3, o3, rfl, hci⟩ := irow_cell HIw.out hlt
              cases hlb : letterB zw m i with
              | true =>
                have HLB := Lib.hid hlb
                have hin := of_decide_eq_true hlb
                obtain ⟨l, hl⟩ : ∃ l, l = zw.getD i 0 := ⟨_, rfl⟩
                rw [← hl] at hci hin
                obtain ⟨hi1, hi2⟩ := hin
                clear hl hlb
                go_wp2
                go_quiet ((go_at_call 65; exact Calls.quiet_of_same (in_true l 0 ((m : Int) - 1) _ hi1 (by omega))))
                go_wp2
                exact ⟨⟨i + 1, _, by omega, Lib.hid (fun j hj => by by_cases e : j = i; exact e ▸ HLB.out; exact HL.out j (by omega)), by first | rfl | go_num | (congr 1), rfl, Lib.hid (by obtain ⟨q0, h⟩ := HD.out; exact ⟨q0 + _, by rw [h, World.drewN_drewN]⟩)⟩, by show k - ((i : Int) + 1).toNat < k - (i : Int).toNat; omega⟩
              | false =>
                have HR : Hid (okWc (m : Int) (m : Int) zc n zr m zw k = false) := Lib.hid (HV.out.trans (notAll hlt hlb))
                have hin := of_decide_eq_false hlb
                obtain ⟨l, hl⟩ : ∃ l, l = zw.getD i 0 := ⟨_, rfl⟩
                rw [← hl] at hci hin
                have HIN : Hid (¬ (0 ≤ l ∧ l ≤ (m : Int) - 1)) := Lib.hid (fun h => hin ⟨h.1, by omega⟩)
                clear hl hlb hin
                go_wp2
                go_quiet ((go_at_call 65; exact Calls.quiet_of_same (in_false l 0 ((m : Int) - 1) _ HIN.out)))
                go_wp2
                go_ret2
                exact ⟨0, ret_fb HR.out.symm, by rw [HR.out]; rfl, by first | exact Below.drewN' (Below.next (below_alloc _ _) HD.out.below) _ | exact Below.next (below_alloc _ _) HD.out.below⟩
            · obtain rfl : i = k := by omega
              obtain ⟨q, rfl⟩ := HD.out
              clear HIw hcw0
              have HR : Hid (okWc (m : Int) (m : Int) zc n zr m zw i = true) := Lib.hid (HV.out.trans (isAll HL.out))
              have HST := Lib.hid (word_step HROW.out HROWS.out HL.out (by omega))
              obtain ⟨b3, o3, rfl, hci0⟩ := irow_cell HI.out (show 0 < i by omega)
              obtain ⟨hz0, hz1⟩ := letter_out (HL.out 0 (by omega))
              rw [hz0, Nat.add_zero] at hci0
              have hrc0 := row_cell2 HB.out hz1
              have HW0 : Hid (zr.getD (wl zw 0) 0 = wordN zr zc m zw 0) := Lib.hid rfl
              generalize zr.getD (wl zw 0) 0 = y0 at hrc0 HW0
              generalize hl0 : wl zw 0 = l0 at hci0 hrc0 hz1
              clear hz0 hl0
              go_wp2
              clear hci0 hrc0
              rw [HW0.out]
              go_loopw [9, 10] (fun sv iv w' => ∃ j q : Nat, 1 ≤ j ∧ j ≤ i ∧ sv = .float .f32 (wordN zr zc m zw (j - 1)) ∧ iv = .int .i64 j ∧ w' = (w.alloc (.cells #[.int .i64 (m : Int), .int .i64 (m : Int), .slice (some ⟨b, off, none⟩) n n] 27)).drewN q) (fun _ iv _ => i - (intOf iv).toNat)
              case atStart => exact ⟨1, _, by omega, by omega, rfl, rfl, rfl⟩
              case round =>
                obtain ⟨j, q, hj1, hji, rfl, rfl, rfl⟩ := hrel
                by_cases hlt : j < i
                · obtain ⟨t, rfl⟩ : ∃ t, j = t + 1 := ⟨j - 1, by omega⟩
                  have hmul := (HST.out t (by omega)).2 hlt
                  obtain ⟨e0, f0⟩ := letter_out (HL.out t (by omega))
                  obtain ⟨e1, f1⟩ := letter_out (HL.out (t + 1) hlt)
                  have hca := row_cellI HI.out (show t < i by omega)
                  have hcb := row_cellI HI.out hlt
                  rw [e0] at hca
                  rw [e1] at hcb
                  obtain ⟨a, ha⟩ : ∃ a, a = wl zw t * m := ⟨_, rfl⟩
                  obtain ⟨x, hx⟩ : ∃ x, x = a + wl zw (t + 1) := ⟨_, rfl⟩
                  have hxn : x < n := by rw [hx, ha]; exact mul_in HN.out f0 f1
                  have hck : (w.alloc (.cells #[.int .i64 (m : Int), .int .i64 (m : Int), .slice (some ⟨b, off, none⟩) n n] 27)).cell? ⟨b, off + x, none⟩ = some (.float .f32 (zc.getD x 0)) := row_cell2 HA.out hxn
                  rw [← ha, ← hx] at hmul
                  have hw1 : IntKind.i64.wrap ((wl zw t : Int) * (m : Int)) = (a : Int) := by rw [ha, Int.natCast_mul]; exact IntWalk.i64_in _ (by rw [← Int.natCast_mul]; omega)
                  have hw2 : IntKind.i64.wrap ((a : Int) + (wl zw (t + 1) : Int)) = (x : Int) := by rw [IntWalk.i64_in _ (by omega)]; omega
                  have hw3 : IntKind.i64.wrap (((t + 1 : Nat) : Int) - 1) = (t : Int) := by rw [IntWalk.i64_in _ (by omega)]; omega
                  have hr1 := fun w2 => fres_some hmul w2
                  have hf1 := fcnt_some hmul
                  have HSV : Hid (wordN zr zc m zw (t + 1) = wordN zr zc m zw (t + 1 + 1 - 1)) := Lib.hid rfl
                  rw [show t + 1 - 1 = t from rfl]
                  generalize wordN zr zc m zw (t + 1) = sv at hr1 hf1 HSV
                  generalize wordN zr zc m zw t = s0 at hr1 hf1
                  generalize zc.getD x 0 = z at hck hr1 hf1
                  generalize wl zw t = l1 at hca hw1 f0
                  generalize wl zw (t + 1) = l2 at hcb hw2 f1
                  clear ha hx hmul e0 e1
                  go_wp2
                  go_quiet (fail)
                  go_wp2
                  exact ⟨⟨t + 1 + 1, _, by omega, by omega, by rw [HSV.out], by first | rfl | go_num | (congr 1), rfl⟩, by show i - ((t + 1 : Nat) + 1 : Int).toNat < i - ((t + 1 : Nat) : Int).toNat; omega⟩
                · obtain rfl : j = i := by omega
                  go_wp2
                  go_ret2
                  exact ⟨_, ret_fb HR.out.symm, by rw [HR.out]; rfl, Below.drewN' (below_alloc _ _) _⟩
    · have hne : (r != c) = true := by simpa using hrc
      have HR : Hid (okWc r c zc n zr m zw k = false) := Lib.hid (by unfold okWc; rw [decide_eq_false hrc]; simp)
      clear hrc
      go_enter Try.func53, Try.ntmps53
      go_wp2_with (first | (go_at_call 73; refine (take_spec _ r c _ n n zc _ m _ zr _ HA.out HB.out hn hm (Nat.le_refl _) HT.out).mono ?_; rintro e w' ⟨rfl, q, rfl⟩) | go_in)
      go_ret2
      exact ⟨0, ret_fb HR.out.symm, by rw [HR.out]; rfl, Below.drewN' (below_alloc _ _) _⟩
end Go.Proofs.Ytffamppflelflaa
