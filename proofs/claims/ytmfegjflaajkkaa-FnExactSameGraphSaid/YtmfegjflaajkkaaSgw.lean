
/- SameGraph: the functions. -/
import Derived.Test.YtmfegjflaajkkaaOwn
import Derived.Test.YtmfegjflaajkkaaSmr
namespace Go.Proofs.Ytmfegjflaajkkaa
open Go.Proofs.Ytmfegjflaajkkaa.Flo Go.RowKit

/-- Are rows of rows equal? -/
def rrP (n : Nat) (Ln Ln2 : Nat → Nat) (Z Z2 : Nat → List Int) : Prop := ∀ k, k < n → eqLB (Z k) (Z2 k) (Ln k) (Ln2 k) = true
instance (n : Nat) (Ln Ln2 : Nat → Nat) (Z Z2 : Nat → List Int) : Decidable (rrP n Ln Ln2 Z Z2) := inferInstanceAs (Decidable (∀ k, k < n → eqLB (Z k) (Z2 k) (Ln k) (Ln2 k) = true))
def rrB (n m : Nat) (Ln Ln2 : Nat → Nat) (Z Z2 : Nat → List Int) : Bool := decide (n = m) && decide (rrP n Ln Ln2 Z Z2)
theorem rr_len {n m : Nat} {Ln Ln2 : Nat → Nat} {Z Z2 : Nat → List Int} (h : ¬ n = m) : rrB n m Ln Ln2 Z Z2 = false := by unfold rrB; rw [decide_eq_false h]; rfl
theorem rr_no {n k : Nat} {Ln Ln2 : Nat → Nat} {Z Z2 : Nat → List Int} (hk : k < n) (h : eqLB (Z k) (Z2 k) (Ln k) (Ln2 k) = false) : rrB n n Ln Ln2 Z Z2 = false := by
  unfold rrB; rw [decide_eq_false (p := rrP n Ln Ln2 Z Z2) (fun e => by rw [e k hk] at h; cases h)]; simp
theorem rr_yes {n : Nat} {Ln Ln2 : Nat → Nat} {Z Z2 : Nat → List Int} (h : rrP n Ln Ln2 Z Z2) : rrB n n Ln Ln2 Z Z2 = true := by unfold rrB; rw [decide_eq_true rfl, decide_eq_true h]; rfl
theorem rr_on {k : Nat} {Ln Ln2 : Nat → Nat} {Z Z2 : Nat → List Int} (h : rrP k Ln Ln2 Z Z2) (h2 : eqLB (Z k) (Z2 k) (Ln k) (Ln2 k) = true) : rrP (k + 1) Ln Ln2 Z Z2 := fun j hj => by
  by_cases e : j < k
  · exact h j e
  · obtain rfl : j = k := by omega
    exact h2
set_option maxRecDepth 100000 in
set_option maxHeartbeats 4000000 in
theorem ef_impl (a b : Option Addr) (n m cap capb : Nat) (A A2 : Nat → Option Addr) (Ln Cp Ln2 Cp2 : Nat → Nat) (Z Z2 : Nat → List Int) (w : World) (ha : GRow w a n A Ln Cp Z) (hb : GRow w b m A2 Ln2 Cp2 Z2) (hn : n + gtot Ln n ≤ 1048576) (hm : m + gtot Ln2 m ≤ 1048576) :
    Calls Try.prog 78 #[.slice a n cap, .slice b m capb, .func (.func 64) #[] #[]] w fun e w' => e = .returned (.bool (rrB n m Ln Ln2 Z Z2)) ∧ Drew w w' := by
  have HA := Lib.hid ha
  have HB := Lib.hid hb
  have HN := Lib.hid hn
  have HM := Lib.hid hm
  have hn1 : n ≤ 1048576 := by omega
  have hm1 : m ≤ 1048576 := by omega
  clear ha hb hn hm
  by_cases hnm : n = m
  · subst hnm
    go_enter Try.func78, Try.ntmps78
    go_wp2
    go_loopw [17] (fun iv w' => ∃ (k : Nat) (wr : World), k ≤ n ∧ iv = .int .i64 k ∧ wr = w' ∧ Hid (rrP k Ln Ln2 Z Z2) ∧ Hid (Drew w wr)) (fun iv _ => n - (intOf iv).toNat)
    case atStart => exact ⟨0, _, by omega, rfl, rfl, Lib.hid (by intro j hj; omega), Lib.hid (Drew.refl _)⟩
    case round =>
      obtain ⟨k, wr, hk, rfl, rfl, HL, HD⟩ := hrel
      by_cases hlt : k < n
      · obtain ⟨b1, o1, rfl, _, hck1⟩ := (HD.out.grow HA.out).cell hlt
        obtain ⟨b2, o2, rfl, _, hck2⟩ := (HD.out.grow HB.out).cell hlt
        have hl1 : Ln k ≤ 1048576 := by have := gtot_each Ln hlt; have := HN.out; omega
        have hl2 : Ln2 k ≤ 1048576 := by have := gtot_each Ln2 hlt; have := HM.out; omega
        have HE := Lib.hid (el_impl (A k) (A2 k) (Ln k) (Ln2 k) (Cp k) (Cp2 k) (Z k) (Z2 k) wr ((HD.out.grow HA.out).2 k hlt) ((HD.out.grow HB.out).2 k hlt) hl1 hl2)
        cases hc : eqLB (Z k) (Z2 k) (Ln k) (Ln2 k) with
        | true =>
          have HNX := Lib.hid (rr_on HL.out hc)
          rw [hc] at HE
          clear hc
          generalize A k = a1 at hck1 HE
          generalize A2 k = a2 at hck2 HE
          generalize Ln k = l1 at hck1 HE
          generalize Ln2 k = l2 at hck2 HE
          generalize Cp k = c1 at hck1 HE
          generalize Cp2 k = c2 at hck2 HE
          go_wp2_with (first | (go_at_call 64; refine HE.out.mono ?_; rintro e w2 ⟨rfl, hd⟩; have HD2 := Lib.hid (HD.out.trans hd); clear hd) | fail)
          exact ⟨⟨k + 1, _, by omega, by first | rfl | go_num | (congr 1), rfl, HNX, HD2⟩, by show n - ((k : Int) + 1).toNat < n - (k : Int).toNat; omega⟩
        | false =>
          have HF := Lib.hid (rr_no (Ln := Ln) (Ln2 := Ln2) (Z := Z) (Z2 := Z2) hlt hc)
          rw [hc] at HE
          clear hc
          generalize A k = a1 at hck1 HE
          generalize A2 k = a2 at hck2 HE
          generalize Ln k = l1 at hck1 HE
          generalize Ln2 k = l2 at hck2 HE
          generalize Cp k = c1 at hck1 HE
          generalize Cp2 k = c2 at hck2 HE
          go_wp2_with (first | (go_at_call 64; refine HE.out.mono ?_; rintro e w2 ⟨rfl, hd⟩; have HD2 := Lib.hid (HD.out.trans hd); clear hd) | fail)
          go_ret
          exact ⟨ret_bool2 HF.out.symm, HD2.out⟩
      · obtain rfl : k = n := by omega
        have HF := Lib.hid (rr_yes HL.out)
        go_wp2
        go_ret
        exact ⟨ret_bool2 HF.out.symm, HD.out⟩
  · have HF := Lib.hid (rr_len (Ln := Ln) (Ln2 := Ln2) (Z := Z) (Z2 := Z2) hnm)
    have hd : ((n : Int) == (m : Int)) = false := by simp; omega
    have hd2 : ((n : Int) != (m : Int)) = true := by simp; omega
    clear hnm
    go_enter Try.func78, Try.ntmps78
    go_wp2
    go_ret
    exact ⟨ret_bool2 HF.out.symm, Drew.refl _⟩
def sgB (r q : Int) (n m : Nat) (Ln Ln2 : Nat → Nat) (Z Z2 : Nat → List Int) : Bool := decide (r = q) && rrB n m Ln Ln2 Z Z2
theorem sg_yes {n m : Nat} {Ln Ln2 : Nat → Nat} {Z Z2 : Nat → List Int} (r : Int) : sgB r r n m Ln Ln2 Z Z2 = rrB n m Ln Ln2 Z Z2 := by unfold sgB; rw [decide_eq_true rfl]; rfl
theorem sg_no {r q : Int} {n m : Nat} {Ln Ln2 : Nat → Nat} {Z Z2 : Nat → List Int} (h : ¬ r = q) : sgB r q n m Ln Ln2 Z Z2 = false := by unfold sgB; rw [decide_eq_false h]; rfl
set_option maxRecDepth 100000 in
set_option maxHeartbeats 4000000 in
theorem sg_impl (r : Int) (a : Option Addr) (n cap : Nat) (A : Nat → Option Addr) (Ln Cp : Nat → Nat) (Z : Nat → List Int) (q : Int) (b : Option Addr) (m capb : Nat) (A2 : Nat → Option Addr) (Ln2 Cp2 : Nat → Nat) (Z2 : Nat → List Int) (w : World) (ha : GRow w a n A Ln Cp Z) (hb : GRow w b m A2 Ln2 Cp2 Z2) (hn : n + gtot Ln n ≤ 1048576) (hm : m + gtot Ln2 m ≤ 1048576) :
    Calls Try.prog 45 #[.agg #[.int .i64 r, .slice a n cap], .agg #[.int .i64 q, .slice b m capb]] w fun e w' => e = .returned (.bool (sgB r q n m Ln Ln2 Z Z2)) ∧ Below w.heap.size w w' := by
  have HE := Lib.hid (ef_impl a b n m cap capb A A2 Ln Cp Ln2 Cp2 Z Z2 ((w.alloc (.cells #[.int .i64 r, .slice a n cap] 55)).alloc (.cells #[.int .i64 q, .slice b m capb] 55)) ((ha.alloc _).alloc _) ((hb.alloc _).alloc _) hn hm)
  clear ha hb
  by_cases hr : r = q
  · subst hr
    have HF := Lib.hid (sg_yes (n := n) (m := m) (Ln := Ln) (Ln2 := Ln2) (Z := Z) (Z2 := Z2) r)
    have hnn : (r == r) = true := by simp
    go_enter Try.func45, Try.ntmps45
    go_wp2_with (first | (go_at_call 78; refine HE.out.mono ?_; rintro e w2 ⟨rfl, hd⟩; have HD := Lib.hid hd.below; clear hd) | fail)
    go_ret
    exact ⟨ret_bool2 HF.out.symm, Below.next (Below.alloc (belowA _ _) (by simp) _) HD.out⟩
  · have HF := Lib.hid (sg_no (n := n) (m := m) (Ln := Ln) (Ln2 := Ln2) (Z := Z) (Z2 := Z2) hr)
    have hnn : (r == q) = false := by simpa using hr
    go_enter Try.func45, Try.ntmps45
    go_wp2
    go_ret
    exact ⟨ret_bool2 HF.out.symm, Below.alloc (belowA _ _) (by simp) _⟩
set_option maxRecDepth 100000 in
set_option maxHeartbeats 4000000 in
theorem sg_spec (r : Int) (a : Option Addr) (n cap : Nat) (A : Nat → Option Addr) (Ln Cp : Nat → Nat) (Z : Nat → List Int) (q : Int) (b : Option Addr) (m capb : Nat) (A2 : Nat → Option Addr) (Ln2 Cp2 : Nat → Nat) (Z2 : Nat → List Int) (w : World) (ha : GRow w a n A Ln Cp Z) (hb : GRow w b m A2 Ln2 Cp2 Z2) (hn : n + gtot Ln n ≤ 1048576) (hm : m + gtot Ln2 m ≤ 1048576) :
    Calls Try.prog 44 #[.agg #[.int .i64 r, .slice a n cap], .agg #[.int .i64 q, .slice b m capb]] w fun e w' => e = .returned (.bool (sgB r q n m Ln Ln2 Z Z2)) ∧ Below w.heap.size w w' := by
  have HA := Lib.hid ((ha.alloc (.cells #[.int .i64 r, .slice a n cap] 55)).alloc (.cells #[.int .i64 q, .slice b m capb] 55))
  have HB := Lib.hid ((hb.alloc (.cells #[.int .i64 r, .slice a n cap] 55)).alloc (.cells #[.int .i64 q, .slice b m capb] 55))
  have HN := Lib.hid hn
  have HM := Lib.hid hm
  have hn1 : n ≤ 1048576 := by omega
  have hm1 : m ≤ 1048576 := by omega
  have HC1 : Hid (((w.alloc (.cells #[.int .i64 r, .slice a n cap] 55)).alloc (.cells #[.int .i64 q, .slice b m capb] 55)).cell? ⟨w.heap.size, 1, none⟩ = some (.slice a n cap)) := Lib.hid (by rw [World.cell?_alloc_past _ _ _ (by simp), World.cell?_alloc_at _ _ _ _ rfl]; rfl)
  have HC2 : Hid (((w.alloc (.cells #[.int .i64 r, .slice a n cap] 55)).alloc (.cells #[.int .i64 q, .slice b m capb] 55)).cell? ⟨w.heap.size + 1, 1, none⟩ = some (.slice b m capb)) := Lib.hid (by rw [World.cell?_alloc_at _ _ _ _ (by simp)]; rfl)
  clear ha hb hn hm
  by_cases hr : r = q
  · subst hr
    have hnn : (r == r) = true := by simp
    have hnn2 : (r != r) = false := by simp
    have HF0 := Lib.hid (sg_yes (n := n) (m := m) (Ln := Ln) (Ln2 := Ln2) (Z := Z) (Z2 := Z2) r)
    by_cases hnm : n = m
    · subst hnm
      have hq1 : ((n : Int) == (n : Int)) = true := by simp
      have hq2 : ((n : Int) != (n : Int)) = false := by simp
      go_enter Try.func44, Try.ntmps44
      go_wp2
      go_loopw [23] (fun iv w' => ∃ (k : Nat) (wr : World), k ≤ n ∧ iv = .int .i64 k ∧ wr = w' ∧ Hid (rrP k Ln Ln2 Z Z2) ∧ Hid (Drew ((w.alloc (.cells #[.int .i64 r, .slice a n cap] 55)).alloc (.cells #[.int .i64 r, .slice b n capb] 55)) wr)) (fun iv _ => n - (intOf iv).toNat)
      case atStart => exact ⟨0, _, by omega, rfl, rfl, Lib.hid (by intro j hj; omega), Lib.hid (Drew.refl _)⟩
      case round =>
        obtain ⟨k, wr, hk, rfl, rfl, HL, HD⟩ := hrel
        have HW : Hid (Below w.heap.size w wr) := Lib.hid (Below.next (Below.alloc (belowA _ _) (by simp) _) HD.out.below)
        by_cases hlt : k < n
        · obtain ⟨b1, o1, rfl, _, hck1⟩ := (HD.out.grow HA.out).cell hlt
          obtain ⟨b2, o2, rfl, _, hck2⟩ := (HD.out.grow HB.out).cell hlt
          have hc1 : wr.cell? ⟨w.heap.size, 1, none⟩ = some (.slice (some ⟨b1, o1, none⟩) n cap) := by obtain ⟨x, hx⟩ := HD.out; rw [hx]; exact HC1.out
          have hc2 : wr.cell? ⟨w.heap.size + 1, 1, none⟩ = some (.slice (some ⟨b2, o2, none⟩) n capb) := by obtain ⟨x, hx⟩ := HD.out; rw [hx]; exact HC2.out
          have hl1 : Ln k ≤ 1048576 := by have := gtot_each Ln hlt; have := HN.out; omega
          have hl2 : Ln2 k ≤ 1048576 := by have := gtot_each Ln2 hlt; have := HM.out; omega
          have HE := Lib.hid (fun y => es_spec (A k) (A2 k) (Ln k) (Ln2 k) (Cp k) (Cp2 k) (Z k) (Z2 k) (wr.drewN y) ((HD.out.grow HA.out).2 k hlt) ((HD.out.grow HB.out).2 k hlt) hl1 hl2)
          cases hc : eqLB (Z k) (Z2 k) (Ln k) (Ln2 k) with
          | true =>
            have HNX := Lib.hid (rr_on HL.out hc)
            rw [hc] at HE
            clear hc
            generalize A k = a1 at hck1 HE
            generalize A2 k = a2 at hck2 HE
            generalize Ln k = l1 at hck1 HE
            generalize Ln2 k = l2 at hck2 HE
            generalize Cp k = c1 at hck1 HE
            generalize Cp2 k = c2 at hck2 HE
            go_wp2
            go_quiet ((go_at_call 63; with_reducible exact Calls.quiet_of (HE.out _)))
            go_wp2
            exact ⟨⟨k + 1, _, by omega, by first | rfl | go_num | (congr 1), rfl, HNX, Lib.hid (HD.out.trans (by first | exact Drew.mk _ _ | exact ⟨_, rfl⟩))⟩, by show n - ((k : Int) + 1).toNat < n - (k : Int).toNat; omega⟩
          | false =>
            have HF := Lib.hid (HF0.out.trans (rr_no (Ln := Ln) (Ln2 := Ln2) (Z := Z) (Z2 := Z2) hlt hc))
            rw [hc] at HE
            clear hc
            generalize A k = a1 at hck1 HE
            generalize A2 k = a2 at hck2 HE
            generalize Ln k = l1 at hck1 HE
            generalize Ln2 k = l2 at hck2 HE
            generalize Cp k = c1 at hck1 HE
            generalize Cp2 k = c2 at hck2 HE
            go_wp2
            go_quiet ((go_at_call 63; with_reducible exact Calls.quiet_of (HE.out _)))
            go_wp2
            go_ret
            exact ⟨ret_bool2 HF.out.symm, Below.drewN' HW.out _⟩
        · obtain rfl : k = n := by omega
          have HF := Lib.hid (HF0.out.trans (rr_yes HL.out))
          go_wp2
          go_ret
          exact ⟨ret_bool2 HF.out.symm, HW.out⟩
    · have HF := Lib.hid (HF0.out.trans (rr_len (Ln := Ln) (Ln2 := Ln2) (Z := Z) (Z2 := Z2) hnm))
      have hq1 : ((n : Int) == (m : Int)) = false := by simp; omega
      have hq2 : ((n : Int) != (m : Int)) = true := by simp; omega
      clear hnm
      go_enter Try.func44, Try.ntmps44
      go_wp2
      go_ret
      exact ⟨ret_bool2 HF.out.symm, Below.alloc (belowA _ _) (by simp) _⟩
  · have HF := Lib.hid (sg_no (n := n) (m := m) (Ln := Ln) (Ln2 := Ln2) (Z := Z) (Z2 := Z2) hr)
    have hnn : (r == q) = false := by simpa using hr
    have hnn2 : (r != q) = true := by simpa using hr
    clear hr
    go_enter Try.func44, Try.ntmps44
    go_wp2
    go_ret
    exact ⟨ret_bool2 HF.out.symm, Below.alloc (belowA _ _) (by simp) _⟩
end Go.Proofs.Ytmfegjflaajkkaa
