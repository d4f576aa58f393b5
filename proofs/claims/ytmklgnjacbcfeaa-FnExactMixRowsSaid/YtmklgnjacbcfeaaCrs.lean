/- Two rows: covers, CrossEntropy. -/
import Derived.Test.YtmklgnjacbcfeaaRwi
import Derived.Test.YtmklgnjacbcfeaaLiv
namespace Go.Proofs.Ytmklgnjacbcfeaa
open Go.Proofs.Ytmklgnjacbcfeaa.Flo Go.RowKit

/-- Two rows of the same length. -/
def twoB (za zb : List Nat) (n m : Nat) : Bool := rowB za n && rowB zb m && decide (n = m)
theorem two_out {za zb : List Nat} {n m : Nat} (h : twoB za zb n m = true) : n = m ∧ n ≤ 32 ∧ chS za n = true ∧ chS zb n = true ∧ rowB za n = true ∧ rowB zb n = true := by
  unfold twoB at h
  rw [Bool.and_eq_true, Bool.and_eq_true] at h
  obtain ⟨⟨h1, h2⟩, h3⟩ := h
  have h3 := of_decide_eq_true h3
  subst h3
  refine ⟨rfl, ?_, (row_n h1).2, (row_n h2).2, h1, h2⟩
  unfold rowB at h1
  rw [Bool.and_eq_true] at h1
  exact (of_decide_eq_true h1.1).2
set_option maxHeartbeats 1000000 in
theorem two_spec (a b : Option Addr) (n m cap capb : Nat) (za zb : List Nat) (w : World) (ha : FRow w a n za) (hb : FRow w b m zb) (hn : n ≤ 1048576) (hm : m ≤ 1048576) :
    Calls Try.prog 73 #[.slice a n cap, .slice b m capb] w fun e w' => e = .returned (.bool (twoB za zb n m)) ∧ Drew w w' := by
  have HA := Lib.hid ha
  have HB := Lib.hid hb
  clear ha hb
  cases h1 : rowB za n with
  | false =>
    have HR : Hid (twoB za zb n m = false) := Lib.hid (by unfold twoB; rw [h1]; rfl)
    go_enter Try.func73, Try.ntmps73
    go_wp2_with (first | (go_at_call 49; refine (row_spec _ _ _ za _ HA.out hn).mono ?_; rintro e w' ⟨rfl, q1, rfl⟩) | go_in)
    go_ret
    exact ⟨ret_bool2 HR.out.symm, Drew.mk _ _⟩
  | true =>
    cases h2 : rowB zb m with
    | false =>
      have HR : Hid (twoB za zb n m = false) := Lib.hid (by unfold twoB; rw [h1, h2]; rfl)
      go_enter Try.func73, Try.ntmps73
      go_wp2_with (first | (go_at_call 49; ((with_reducible refine (row_spec a n cap za _ HA.out hn).mono ?_); rintro e w' ⟨rfl, q1, rfl⟩)) | (go_at_call 49; ((with_reducible refine (row_spec b m capb zb _ (HB.out.drewN _) hm).mono ?_); rintro e w' ⟨rfl, q1, rfl⟩)) | go_in)
      go_ret
      exact ⟨ret_bool2 HR.out.symm, Drew.mk _ _⟩
    | true =>
      by_cases he : n = m
      · subst he
        have HR : Hid (twoB za zb n n = true) := Lib.hid (by unfold twoB; rw [h1, h2]; simp)
        go_enter Try.func73, Try.ntmps73
        go_wp2_with (first | (go_at_call 49; ((with_reducible refine (row_spec a n cap za _ HA.out hn).mono ?_); rintro e w' ⟨rfl, q1, rfl⟩)) | (go_at_call 49; ((with_reducible refine (row_spec b n capb zb _ (HB.out.drewN _) hn).mono ?_); rintro e w' ⟨rfl, q1, rfl⟩)) | go_in)
        go_ret
        exact ⟨ret_bool2 HR.out.symm, Drew.mk _ _⟩
      · have hne : ((n : Int) == m) = false := by simp; omega
        have HR : Hid (twoB za zb n m = false) := Lib.hid (by unfold twoB; rw [decide_eq_false he, Bool.and_false])
        go_enter Try.func73, Try.ntmps73
        go_wp2_with (first | (go_at_call 49; ((with_reducible refine (row_spec a n cap za _ HA.out hn).mono ?_); rintro e w' ⟨rfl, q1, rfl⟩)) | (go_at_call 49; ((with_reducible refine (row_spec b m capb zb _ (HB.out.drewN _) hm).mono ?_); rintro e w' ⟨rfl, q1, rfl⟩)) | go_in)
        go_ret
        exact ⟨ret_bool2 HR.out.symm, Drew.mk _ _⟩
set_option maxHeartbeats 1000000 in
theorem two_impl (a b : Option Addr) (n m cap capb : Nat) (za zb : List Nat) (w : World) (ha : FRow w a n za) (hb : FRow w b m zb) (hn : n ≤ 1048576) (hm : m ≤ 1048576) :
    Calls Try.prog 75 #[.slice a n cap, .slice b m capb] w fun e w' => e = .returned (.bool (twoB za zb n m)) ∧ Drew w w' := by
  have HA := Lib.hid ha
  have HB := Lib.hid hb
  clear ha hb
  by_cases he : n = m
  · subst he
    cases h1 : rowB za n with
    | false =>
      have HR : Hid (twoB za zb n n = false) := Lib.hid (by unfold twoB; rw [h1]; rfl)
      go_enter Try.func75, Try.ntmps75
      go_wp2_with (first | (go_at_call 17; refine (row_impl _ _ _ za _ HA.out hn).mono ?_; rintro e w' ⟨rfl, q1, rfl⟩) | go_in)
      go_ret
      exact ⟨ret_bool2 HR.out.symm, Drew.mk _ _⟩
    | true =>
      have HR : Hid (twoB za zb n n = rowB zb n) := Lib.hid (by unfold twoB; rw [h1]; simp)
      go_enter Try.func75, Try.ntmps75
      go_wp2_with (first | (go_at_call 17; ((with_reducible refine (row_impl a n cap za _ HA.out hn).mono ?_); rintro e w' ⟨rfl, q1, rfl⟩)) | (go_at_call 17; ((with_reducible refine (row_impl b n capb zb _ (HB.out.drewN _) hn).mono ?_); rintro e w' ⟨rfl, q1, rfl⟩)) | go_in)
      go_ret
      exact ⟨ret_bool2 HR.out.symm, Drew.mk _ _⟩
  · have hne : ((n : Int) == m) = false := by simp; omega
    have HR : Hid (twoB za zb n m = false) := Lib.hid (by unfold twoB; rw [decide_eq_false he, Bool.and_false])
    go_enter Try.func75, Try.ntmps75
    go_wp2
    go_ret
    exact ⟨ret_bool2 HR.out.symm, Drew.refl _⟩
/-- No chance of b is 0 where that of a is not. -/
def covB (za zb : List Nat) (n : Nat) : Bool := decide (∀ k, k < n → (zeroB (za.getD k 0) || !zeroB (zb.getD k 0)) = true)
set_option maxHeartbeats 2000000 in
theorem cov_spec (a b : Option Addr) (n cap capb : Nat) (za zb : List Nat) (w : World) (ha : FRow w a n za) (hb : FRow w b n zb) (hc : chS za n = true) (hn : n ≤ 32) :
    Calls Try.prog 79 #[.slice a n cap, .slice b n capb] w fun e w' => e = .returned (.bool (covB za zb n)) ∧ Drew w w' := by
  have HA := Lib.hid ha
  have HB := Lib.hid hb
  have HC := Lib.hid hc
  clear ha hb hc
  go_enter Try.func79, Try.ntmps79
  go_wp2
  go_loopw [5] (fun iv w' => ∃ k q : Nat, k ≤ n ∧ Hid (∀ j, j < k → (zeroB (za.getD j 0) || !zeroB (zb.getD j 0)) = true) ∧ iv = .int .i64 k ∧ w' = w.drewN q) (fun iv _ => n - (intOf iv).toNat)
  case atStart => exact ⟨0, 0, by omega, Lib.hid (by intro j hj; omega), rfl, rfl⟩
  case round =>
    obtain ⟨k, q, hk, HL, rfl, rfl⟩ := hrel
    by_cases hlt : k < n
    · obtain ⟨b1, o1, rfl, hck1⟩ := HA.out.cell hlt
      obtain ⟨b2, o2, rfl, hck2⟩ := HB.out.cell hlt
      obtain ⟨s, mm, i, hd, hs, _⟩ := ch_each HC.out hlt
      rcases num_order _ hd hs with ⟨_, ho⟩ | ⟨_, _, ho⟩
      · have hg : ((FloatKind.f32).format.order (za.getD k 0) 0 == some .gt) = false := by rw [ho]; rfl
        have HZ : Hid ((zeroB (za.getD k 0) || !zeroB (zb.getD k 0)) = true) := Lib.hid (by unfold zeroB; rw [ho]; rfl)
        clear hd hs ho
        generalize hx : za.getD k 0 = x at hck1 hg
        generalize hy : zb.getD k 0 = y at hck2
        go_wp2
        exact ⟨⟨k + 1, _, by omega, Lib.hid (fun j hj => by by_cases e : j = k; exact e ▸ HZ.out; exact HL.out j (by omega)), by first | rfl | go_num | (congr 1), rfl⟩, by show n - ((k : Int) + 1).toNat < n - (k : Int).toNat; omega⟩
      · have hg : ((FloatKind.f32).format.order (za.getD k 0) 0 == some .gt) = true := by rw [ho]; rfl
        cases hz : ((FloatKind.f32).format.order (zb.getD k 0) 0 == some .eq) with
        | true =>
          have HZ : Hid ((zeroB (za.getD k 0) || !zeroB (zb.getD k 0)) = false) := Lib.hid (by unfold zeroB; rw [ho, hz]; rfl)
          clear hd hs ho
          generalize hx : za.getD k 0 = x at hck1 hg
          generalize hy : zb.getD k 0 = y at hck2 hz
          go_wp2
          go_ret
          exact ⟨ret_bool2 (notAll hlt HZ.out).symm, Drew.mk _ _⟩
        | false =>
          have HZ : Hid ((zeroB (za.getD k 0) || !zeroB (zb.getD k 0)) = true) := Lib.hid (by unfold zeroB; rw [hz]; simp)
          clear hd hs ho
          generalize hx : za.getD k 0 = x at hck1 hg
          generalize hy : zb.getD k 0 = y at hck2 hz
          go_wp2
          exact ⟨⟨k + 1, _, by omega, Lib.hid (fun j hj => by by_cases e : j = k; exact e ▸ HZ.out; exact HL.out j (by omega)), by first | rfl | go_num | (congr 1), rfl⟩, by show n - ((k : Int) + 1).toNat < n - (k : Int).toNat; omega⟩
    · obtain rfl : k = n := by omega
      go_wp2
      go_ret
      exact ⟨ret_bool2 (isAll HL.out).symm, Drew.mk _ _⟩
end Go.Proofs.Ytmklgnjacbcfeaa
