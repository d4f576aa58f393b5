
/- RepeatParity: the functions. -/
import Derived.Test.YthjijfghbchhpaaPig
namespace Go.Proofs.Ythjijfghbchhpaa
open Go.Proofs.Ythjijfghbchhpaa.Flo Go.RowKit Go.Proofs.Ythjijfghbchhpaa.Pr

/-- What is returned in a struct of two cells. -/
def YPost (r : Int) (n : Nat) (L : List Int) (w : World) (e : Ending) (w' : World) : Prop :=
  ∃ g cp, e = .returned (.tuple #[.agg #[.int .i64 r, .slice (some ⟨g, 0, none⟩) n cp], .bool true]) ∧ New w w' g (.il n L)
def YNone (w : World) (e : Ending) (w' : World) : Prop :=
  e = .returned (.tuple #[.agg #[.int .i64 0, .slice none 0 0], .bool false]) ∧ Below w.heap.size w w'
theorem rp_ok {m : Nat} (h1 : 1 ≤ m) (h2 : m ≤ 16) : paB (m : Int) [(2 : Int) ^ m - 1] 1 = true := by
  have hp := p2_16 h2
  have h2m : (2 : Int) ≤ 2 ^ m := by
    have : 2 ^ 1 ≤ 2 ^ m := Nat.pow_le_pow_right (by decide) h1
    have e : ((2 ^ m : Nat) : Int) = 2 ^ m := by rw [Int.natCast_pow]; rfl
    rw [← e]
    have : 2 ≤ 2 ^ m := this
    omega
  rw [pa_end (by omega) (by omega) (fun k hk => by
    obtain rfl : k = 0 := by omega
    rw [Int.toNat_natCast]
    show 0 ≤ (2 : Int) ^ m - 1 ∧ (2 : Int) ^ m - 1 < 2 ^ m
    omega)]
  refine decide_eq_true (fun k hk => ?_)
  obtain rfl : k = 0 := by omega
  show ((2 : Int) ^ m - 1).toNat ≠ 0
  omega
set_option maxRecDepth 100000 in
set_option maxHeartbeats 4000000 in
theorem rp_specN (x : Int) (w : World) (hok : wiB x = false) : Calls Try.prog 18 #[.int .i64 x] w (YNone w) := by
  have H1 : Hid (¬ (1 ≤ x ∧ x ≤ 16)) := Lib.hid (of_decide_eq_false hok)
  have HOK := Lib.hid hok
  clear hok
  go_enter Try.func18, Try.ntmps18
  go_wp2_with (first | (go_at_call 41; refine (in_false x 1 16 _ H1.out).mono ?_; rintro e w' ⟨rfl, hw⟩; have hw := hw.symm; subst hw) | fail)
  exact bodyPost_ret (v := .tuple #[.agg #[.int .i64 0, .slice none 0 0], .bool false]) (by simp [results, Try.results18, go_sem]) rfl
    ⟨rfl, below_alloc _ _⟩
set_option maxRecDepth 100000 in
set_option maxHeartbeats 4000000 in
theorem rp_specY (x : Int) (w : World) (hok : wiB x = true) : Calls Try.prog 18 #[.int .i64 x] w (YPost x 1 [(2 : Int) ^ x.toNat - 1] w) := by
  have hx : 1 ≤ x ∧ x ≤ 16 := of_decide_eq_true hok
  obtain ⟨m, rfl⟩ : ∃ m : Nat, x = (m : Int) := ⟨x.toNat, by omega⟩
  rw [Int.toNat_natCast]
  have H1 := Lib.hid hx
  have HOK := Lib.hid (rp_ok (m := m) (by omega) (by omega))
  have HOW := Lib.hid hok
  have hmin : min m 64 = m := by omega
  obtain ⟨hp0, hp1⟩ := p2_16 (m := m) (by omega)
  have hwr : IntKind.i64.wrap ((2 : Int) ^ m) = 2 ^ m := IntWalk.i64_in _ (by omega)
  have hw2 : IntKind.i64.wrap ((2 : Int) ^ m - 1) = 2 ^ m - 1 := IntWalk.i64_in _ (by omega)
  have HR0 := Lib.hid (Kin.new (w := w) (x := .int .i64 0) (y := .slice none 0 0) (T := 27))
  have HR1 := Lib.hid (HR0.out.below (below_alloc (w.alloc (.cells #[.int .i64 0, .slice none 0 0] 27)) (.cells #[.int .i64 ((2 : Int) ^ m - 1)] 2)))
  have HB1 : Hid (Below w.heap.size w ((w.alloc (.cells #[.int .i64 0, .slice none 0 0] 27)).alloc (.cells #[.int .i64 ((2 : Int) ^ m - 1)] 2))) := Lib.hid (Below.alloc (below_alloc _ _) (by simp) _)
  have HI : Hid (ICl ((w.alloc (.cells #[.int .i64 0, .slice none 0 0] 27)).alloc (.cells #[.int .i64 ((2 : Int) ^ m - 1)] 2)) (w.heap.size + 1) 1 [(2 : Int) ^ m - 1]) := Lib.hid ⟨by simp, rfl, fun j hj => by
    obtain rfl : j = 0 := by have : j < 1 := hj; omega
    rw [show w.heap.size + 1 = (w.alloc (.cells #[.int .i64 0, .slice none 0 0] 27)).heap.size by simp]
    exact ⟨by rw [World.cell?_alloc_at _ _ _ _ rfl]; rfl, World.frozen?_alloc_at _ _ _ _ rfl⟩⟩
  have HRW := Lib.hid HI.out.row
  clear hok hx
  go_enter Try.func18, Try.ntmps18
  go_wp2_with (first | (go_at_call 41; refine (in_true (m : Int) 1 16 _ H1.out.1 H1.out.2).mono ?_; rintro e w' ⟨rfl, hw⟩; have hw := hw.symm; subst hw) | (go_at_call 42; refine (p6SY (m : Int) _ 1 _ [(2 : Int) ^ m - 1] _ HRW.out (by omega) HOK.out).mono ?_; rintro e w2 ⟨rfl, hb⟩; have HB2 := Lib.hid (Below.next HB1.out hb); have HR2 := Lib.hid (HR1.out.below hb); have HI2 := Lib.hid (HI.out.below hb); obtain ⟨hQ, hq0, hq1, hqf0, hqf1⟩ := HR2.out; clear hb) | fail)
  obtain ⟨_, hr1, hr2⟩ := HR2.out.res (.int .i64 (m : Int)) (.slice (some ⟨w.heap.size + 1, 0, none⟩) 1 1)
  exact bodyPost_ret (v := .tuple #[.agg #[.int .i64 (m : Int), .slice (some ⟨w.heap.size + 1, 0, none⟩) 1 1], .bool true]) (by simp [results, Try.results18, go_sem, hr1, hr2]) rfl
    ⟨w.heap.size + 1, 1, rfl, ICl.new ((HI2.out.far (by simp) _).far (by simp) _) (by omega) (Below.setCell (Below.setCell HB2.out (by simp) _) (by simp) _)⟩
set_option maxRecDepth 100000 in
set_option maxHeartbeats 4000000 in
theorem rp_implN (x : Int) (w : World) (hok : wiB x = false) : Calls Try.prog 19 #[.int .i64 x] w (YNone w) := by
  have H1 : Hid (¬ (1 ≤ x ∧ x ≤ 16)) := Lib.hid (of_decide_eq_false hok)
  have HOK := Lib.hid hok
  clear hok
  go_enter Try.func19, Try.ntmps19
  go_wp2_with (first | (go_at_call 35; refine (wide_impl x _).mono ?_; rw [HOK.out]; rintro e w' ⟨rfl, hw⟩; subst hw) | fail)
  exact bodyPost_ret (v := .tuple #[.agg #[.int .i64 0, .slice none 0 0], .bool false]) (by simp [results, Try.results19, go_sem]) rfl
    ⟨rfl, below_alloc _ _⟩
set_option maxRecDepth 100000 in
set_option maxHeartbeats 4000000 in
theorem rp_implY (x : Int) (w : World) (hok : wiB x = true) : Calls Try.prog 19 #[.int .i64 x] w (YPost x 1 [(2 : Int) ^ x.toNat - 1] w) := by
  have hx : 1 ≤ x ∧ x ≤ 16 := of_decide_eq_true hok
  obtain ⟨m, rfl⟩ : ∃ m : Nat, x = (m : Int) := ⟨x.toNat, by omega⟩
  rw [Int.toNat_natCast]
  have H1 := Lib.hid hx
  have HOK := Lib.hid (rp_ok (m := m) (by omega) (by omega))
  have HOW := Lib.hid hok
  have hmin : min m 64 = m := by omega
  obtain ⟨hp0, hp1⟩ := p2_16 (m := m) (by omega)
  have hwr : IntKind.i64.wrap ((2 : Int) ^ m) = 2 ^ m := IntWalk.i64_in _ (by omega)
  have hw2 : IntKind.i64.wrap ((2 : Int) ^ m - 1) = 2 ^ m - 1 := IntWalk.i64_in _ (by omega)
  have HR0 := Lib.hid (Kin.new (w := w) (x := .int .i64 0) (y := .slice none 0 0) (T := 27))
  have HR1 := Lib.hid (HR0.out.below (below_alloc (w.alloc (.cells #[.int .i64 0, .slice none 0 0] 27)) (.cells #[.int .i64 ((2 : Int) ^ m - 1)] 2)))
  have HB1 : Hid (Below w.heap.size w ((w.alloc (.cells #[.int .i64 0, .slice none 0 0] 27)).alloc (.cells #[.int .i64 ((2 : Int) ^ m - 1)] 2))) := Lib.hid (Below.alloc (below_alloc _ _) (by simp) _)
  have HI : Hid (ICl ((w.alloc (.cells #[.int .i64 0, .slice none 0 0] 27)).alloc (.cells #[.int .i64 ((2 : Int) ^ m - 1)] 2)) (w.heap.size + 1) 1 [(2 : Int) ^ m - 1]) := Lib.hid ⟨by simp, rfl, fun j hj => by
    obtain rfl : j = 0 := by have : j < 1 := hj; omega
    rw [show w.heap.size + 1 = (w.alloc (.cells #[.int .i64 0, .slice none 0 0] 27)).heap.size by simp]
    exact ⟨by rw [World.cell?_alloc_at _ _ _ _ rfl]; rfl, World.frozen?_alloc_at _ _ _ _ rfl⟩⟩
  have HRW := Lib.hid HI.out.row
  clear hok hx
  go_enter Try.func19, Try.ntmps19
  go_wp2_with (first | (go_at_call 35; refine (wide_impl (m : Int) _).mono ?_; rw [HOW.out]; rintro e w' ⟨rfl, hw⟩; subst hw) | fail)
  exact bodyPost_ret (v := .tuple #[.agg #[.int .i64 (m : Int), .slice (some ⟨w.heap.size + 1, 0, none⟩) 1 1], .bool true]) (by simp [results, Try.results19, go_sem]) rfl
    ⟨w.heap.size + 1, 1, rfl, ICl.new (by first | exact HI.out | exact (HI.out.far (by simp) _).far (by simp) _ | (refine ⟨by simp, rfl, fun j hj => ?_⟩; obtain rfl : j = 0 := (by have : j < 1 := hj; omega); exact ⟨by simp [go_sem]; rfl, by simp [go_sem]⟩)) (by omega) (by repeat (first | exact Below.refl _ _ | refine Below.setCell ?_ (by first | (simp; done) | (simp; omega)) _ | refine Below.alloc ?_ (by first | (simp; done) | (simp; omega)) _))⟩
end Go.Proofs.Ythjijfghbchhpaa
