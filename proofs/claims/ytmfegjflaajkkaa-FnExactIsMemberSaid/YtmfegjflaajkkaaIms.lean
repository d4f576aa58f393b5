
/- IsMember: the model's functions. -/
import Derived.Test.YtmfegjflaajkkaaGvw
import Derived.Test.YtmfegjflaajkkaaBoo
namespace Go.Proofs.Ytmfegjflaajkkaa
open Go.Proofs.Ytmfegjflaajkkaa.Flo Go.RowKit Go.Proofs.Ytmfegjflaajkkaa.Pr

/-- An odd number of bits true? -/
def unB (f : Nat → Bool) (zs : List Int) : Nat → Bool
  | 0 => false
  | k + 1 => unB f zs k != f (zs.getD k 0).toNat
def meP (f : Nat → Bool) (n : Nat) (Ln : Nat → Nat) (Z : Nat → List Int) : Prop := ∀ k, k < n → unB f (Z k) (Ln k) = false
instance (f : Nat → Bool) (n : Nat) (Ln : Nat → Nat) (Z : Nat → List Int) : Decidable (meP f n Ln Z) := inferInstanceAs (Decidable (∀ k, k < n → unB f (Z k) (Ln k) = false))
/-- Are all rows even? -/
def meB (f : Nat → Bool) (n : Nat) (Ln : Nat → Nat) (Z : Nat → List Int) : Bool := decide (meP f n Ln Z)
/-- What is told: a member, and whether the arguments are valid. -/
def imB (r : Int) (n : Nat) (Ln : Nat → Nat) (Z : Nat → List Int) (m : Nat) (f : Nat → Bool) : Bool × Bool := if gvB r n Ln Z = true ∧ (m : Int) = r then (meB f n Ln Z, true) else (false, false)
theorem im_yes {r : Int} {n : Nat} {Ln : Nat → Nat} {Z : Nat → List Int} {m : Nat} {f : Nat → Bool} (h : gvB r n Ln Z = true) (h2 : (m : Int) = r) : imB r n Ln Z m f = (meB f n Ln Z, true) := by unfold imB; rw [if_pos ⟨h, h2⟩]
theorem im_no {r : Int} {n : Nat} {Ln : Nat → Nat} {Z : Nat → List Int} {m : Nat} {f : Nat → Bool} (h : ¬ (gvB r n Ln Z = true ∧ (m : Int) = r)) : imB r n Ln Z m f = (false, false) := by unfold imB; rw [if_neg h]
theorem me_on {f : Nat → Bool} {k : Nat} {Ln : Nat → Nat} {Z : Nat → List Int} (h : meP f k Ln Z) (h2 : unB f (Z k) (Ln k) = false) : meP f (k + 1) Ln Z := fun j hj => by
  by_cases e : j < k
  · exact h j e
  · obtain rfl : j = k := by omega
    exact h2
theorem me_no {f : Nat → Bool} {n k : Nat} {Ln : Nat → Nat} {Z : Nat → List Int} (hk : k < n) (h : unB f (Z k) (Ln k) = true) : meB f n Ln Z = false := decide_eq_false (fun e => by rw [e k hk] at h; cases h)
theorem me_yes {f : Nat → Bool} {n : Nat} {Ln : Nat → Nat} {Z : Nat → List Int} (h : meP f n Ln Z) : meB f n Ln Z = true := decide_eq_true h
set_option maxRecDepth 100000 in
set_option maxHeartbeats 2000000 in
theorem un_spec (a : Option Addr) (n cap : Nat) (zs : List Int) (b : Option Addr) (m capb : Nat) (f : Nat → Bool) (w : World) (ha : IRow w a n zs) (hb : BRow w b m f) (hn : n ≤ 1048576) (hr : ∀ k, k < n → 0 ≤ zs.getD k 0 ∧ zs.getD k 0 < (m : Int)) :
    Calls Try.prog 97 #[.slice a n cap, .slice b m capb] w fun e w' => e = .returned (.bool (unB f zs n)) ∧ w = w' := by
  have HA := Lib.hid ha
  have HB := Lib.hid hb
  have HR := Lib.hid hr
  clear ha hb hr
  go_enter Try.func97, Try.ntmps97
  go_wp2
  go_loop [5, 9] (fun lv iv => ∃ k : Nat, k ≤ n ∧ lv = .bool (unB f zs k) ∧ iv = .int .i64 k) (fun _ iv => n - (intOf iv).toNat)
  case atStart => exact ⟨0, by omega, rfl, rfl⟩
  case round =>
    obtain ⟨k, hk, rfl, rfl⟩ := hrel
    by_cases hlt : k < n
    · obtain ⟨b1, o1, rfl, _, hck⟩ := HA.out.cell' hlt
      obtain ⟨hz0, hz1⟩ := HR.out k hlt
      obtain ⟨z, hz⟩ : ∃ z : Nat, zs.getD k 0 = (z : Int) := ⟨(zs.getD k 0).toNat, by omega⟩
      have HN : Hid (unB f zs (k + 1) = (unB f zs k != f z)) := Lib.hid (by show (unB f zs k != f (zs.getD k 0).toNat) = _; rw [hz]; rfl)
      rw [hz] at hck
      have hzm : z < m := by omega
      obtain ⟨b2, o2, rfl, hcz⟩ := HB.out.cell hzm
      clear hz hz0 hz1
      generalize unB f zs k = v at HN ⊢
      generalize f z = y at HN hcz
      go_wp2
      go_round
      case rel => exact ⟨k + 1, by omega, by rw [HN.out]; first | rfl | (congr 1) | (cases v <;> cases y <;> rfl), by go_num⟩
      case measure => simp [intOf]; omega
    · obtain rfl : k = n := by omega
      go_wp2
      go_ret
      exact ⟨rfl, rfl⟩
set_option maxRecDepth 100000 in
set_option maxHeartbeats 2000000 in
theorem mb_spec (p : Nat) (a : Option Addr) (n cap : Nat) (A : Nat → Option Addr) (Ln Cp : Nat → Nat) (Z : Nat → List Int) (b : Option Addr) (m capb : Nat) (f : Nat → Bool) (w : World) (h : GRow w a n A Ln Cp Z) (hb : BRow w b m f) (hn : n + gtot Ln n ≤ 1048576) (hv : ∀ k, k < n → ∀ j, j < Ln k → 0 ≤ (Z k).getD j 0 ∧ (Z k).getD j 0 < (m : Int)) (hp : w.cell? ⟨p, 1, none⟩ = some (.slice a n cap)) :
    Calls Try.prog 79 #[.pointer (some ⟨p, 0, none⟩), .slice b m capb] w fun e w' => e = .returned (.bool (meB f n Ln Z)) ∧ w = w' := by
  have HA := Lib.hid h
  have HN := Lib.hid hn
  have hn1 : n ≤ 1048576 := by omega
  have HU : Hid (∀ k, k < n → Calls Try.prog 97 #[.slice (A k) (Ln k) (Cp k), .slice b m capb] w fun e w' => e = .returned (.bool (unB f (Z k) (Ln k))) ∧ w = w') := Lib.hid (fun k hk => un_spec (A k) (Ln k) (Cp k) (Z k) b m capb f w (h.2 k hk) hb (by have := gtot_each Ln hk; omega) (hv k hk))
  clear h hb hv hn
  go_enter Try.func79, Try.ntmps79
  go_wp2
  go_loop [11] (fun iv => ∃ k : Nat, k ≤ n ∧ iv = .int .i64 k ∧ Hid (meP f k Ln Z)) (fun iv => n - (intOf iv).toNat)
  case atStart => exact ⟨0, by omega, rfl, Lib.hid (by intro j hj; omega)⟩
  case round =>
    obtain ⟨k, hk, rfl, HL⟩ := hrel
    by_cases hlt : k < n
    · obtain ⟨b1, o1, rfl, _, hck⟩ := HA.out.cell hlt
      have HE := Lib.hid (HU.out k hlt)
      cases hc : unB f (Z k) (Ln k) with
      | false =>
        have HNX := Lib.hid (me_on HL.out hc)
        rw [hc] at HE
        clear hc
        generalize A k = a1 at hck HE
        generalize Ln k = l1 at hck HE
        generalize Cp k = c1 at hck HE
        go_wp2_with (first | (go_at_call 97; refine HE.out.mono ?_; rintro e w' ⟨rfl, hw⟩; subst hw) | fail)
        go_round
        case rel => exact ⟨k + 1, by omega, by go_num, HNX⟩
        case measure => simp [intOf]; omega
      | true =>
        have HF := Lib.hid (me_no (f := f) (Ln := Ln) (Z := Z) hlt hc)
        rw [hc] at HE
        clear hc
        generalize A k = a1 at hck HE
        generalize Ln k = l1 at hck HE
        generalize Cp k = c1 at hck HE
        go_wp2_with (first | (go_at_call 97; refine HE.out.mono ?_; rintro e w' ⟨rfl, hw⟩; subst hw) | fail)
        go_ret
        exact ⟨ret_bool2 HF.out.symm, rfl⟩
    · obtain rfl : k = n := by omega
      have HF := Lib.hid (me_yes HL.out)
      go_wp2
      go_ret
      exact ⟨ret_bool2 HF.out.symm, rfl⟩
theorem im_vals {r : Int} {n : Nat} {Ln : Nat → Nat} {Z : Nat → List Int} (h : gvB r n Ln Z = true) : ∀ k, k < n → ∀ j, j < Ln k → 0 ≤ (Z k).getD j 0 ∧ (Z k).getD j 0 < r := fun k hk j hj => by
  obtain ⟨h1, _, h3⟩ := gv_out h
  exact se_nn (by omega) (h3 k hk).2 hj
set_option maxRecDepth 100000 in
set_option maxHeartbeats 4000000 in
theorem im_spec (r : Int) (a : Option Addr) (n cap : Nat) (A : Nat → Option Addr) (Ln Cp : Nat → Nat) (Z : Nat → List Int) (b : Option Addr) (m capb : Nat) (f : Nat → Bool) (w : World) (h : GRow w a n A Ln Cp Z) (hb : BRow w b m f) (hn : n + gtot Ln n ≤ 1048576) :
    Calls Try.prog 46 #[.agg #[.int .i64 r, .slice a n cap], .slice b m capb] w fun e w' => e = .returned (.tuple #[.bool (imB r n Ln Z m f).1, .bool (imB r n Ln Z m f).2]) ∧ Below w.heap.size w w' := by
  have HC := two_cellsG w (.int .i64 r) (.slice a n cap) 55
  have HG := Lib.hid (g7_spec w.heap.size r a n cap A Ln Cp Z (w.alloc (.cells #[.int .i64 r, .slice a n cap] 55)) (h.alloc _) hn HC.1 HC.2)
  cases hg : gvB r n Ln Z with
  | true =>
    rw [hg] at HG
    by_cases hmr : (m : Int) = r
    · subst hmr
      have HI := Lib.hid (im_yes (m := m) (f := f) hg rfl)
      have HM := Lib.hid (fun q => mb_spec w.heap.size a n cap A Ln Cp Z b m capb f ((w.alloc (.cells #[.int .i64 (m : Int), .slice a n cap] 55)).drewN q) (h.below (Below.drewN' (belowA _ _) q)) (hb.below (Below.drewN' (belowA _ _) q)) hn (im_vals hg) (by simp))
      obtain ⟨HC0, HC1⟩ := HC
      have hcq : ∀ q, (((w.alloc (.cells #[.int .i64 (m : Int), .slice a n cap] 55))).drewN q).cell? ⟨w.heap.size, 0, none⟩ = some (.int .i64 (m : Int)) := fun q => by simp
      clear h hb HC1 HC0 hg
      go_enter Try.func46, Try.ntmps46
      go_wp2_with (first | (go_at_call 74; refine HG.out.mono ?_; rintro e w2 ⟨rfl, d, rfl⟩) | (go_at_call 79; refine (HM.out _).mono ?_; rintro e w3 ⟨rfl, rfl⟩) | fail)
      go_ret2
      rw [HI.out]
      exact ⟨rfl, Below.drewN' (belowA _ _) _⟩
    · have HI := Lib.hid (im_no (f := f) (fun e => hmr e.2 : ¬ (gvB r n Ln Z = true ∧ (m : Int) = r)))
      obtain ⟨HC0, HC1⟩ := HC
      have hcq : ∀ q, (((w.alloc (.cells #[.int .i64 r, .slice a n cap] 55))).drewN q).cell? ⟨w.heap.size, 0, none⟩ = some (.int .i64 r) := fun q => by simp
      have hne : ((m : Int) == r) = false := by simp [hmr]
      clear h hb HC1 HC0 hg
      go_enter Try.func46, Try.ntmps46
      go_wp2_with (first | (go_at_call 74; refine HG.out.mono ?_; rintro e w2 ⟨rfl, d, rfl⟩) | fail)
      go_ret2
      rw [HI.out]
      exact ⟨rfl, Below.drewN' (belowA _ _) _⟩
  | false =>
    rw [hg] at HG
    have HI := Lib.hid (im_no (f := f) (fun e => by rw [hg] at e; cases e.1 : ¬ (gvB r n Ln Z = true ∧ (m : Int) = r)))
    clear h hb hg HC
    go_enter Try.func46, Try.ntmps46
    go_wp2_with (first | (go_at_call 74; refine HG.out.mono ?_; rintro e w2 ⟨rfl, d, rfl⟩) | fail)
    go_ret2
    rw [HI.out]
    exact ⟨rfl, Below.drewN' (belowA _ _) _⟩
end Go.Proofs.Ytmfegjflaajkkaa
