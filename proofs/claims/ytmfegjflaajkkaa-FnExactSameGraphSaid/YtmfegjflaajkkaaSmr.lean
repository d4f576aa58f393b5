
/- SameCoder: the functions. -/
import Derived.Test.YtmfegjflaajkkaaScx
import Derived.Test.YtmfegjflaajkkaaCob
namespace Go.Proofs.Ytmfegjflaajkkaa
open Go.Proofs.Ytmfegjflaajkkaa.Flo Go.RowKit

set_option maxHeartbeats 2000000 in
theorem es_spec (a b : Option Addr) (n m cap capb : Nat) (zs ys : List Int) (w : World) (ha : IRow w a n zs) (hb : IRow w b m ys) (hn : n ≤ 1048576) (hm : m ≤ 1048576) :
    Calls Try.prog 63 #[.slice a n cap, .slice b m capb] w fun e w' => e = .returned (.bool (eqLB zs ys n m)) ∧ Drew w w' := by
  have HA := Lib.hid ha
  have HB := Lib.hid hb
  clear ha hb
  by_cases e : n = m
  · subst e
    go_enter Try.func63, Try.ntmps63
    go_wp2
    go_loopw [5] (fun iv w' => ∃ k q : Nat, k ≤ n ∧ Hid (∀ j, j < k → zs.getD j 0 = ys.getD j 0) ∧ iv = .int .i64 k ∧ w' = w.drewN q) (fun iv _ => n - (intOf iv).toNat)
    case atStart => exact ⟨0, 0, by omega, Lib.hid (by intro j hj; omega), rfl, rfl⟩
    case round =>
      obtain ⟨k, q, hk, HL, rfl, rfl⟩ := hrel
      by_cases hlt : k < n
      · obtain ⟨b1, o1, rfl, _, hck1⟩ := HA.out.cell' hlt
        obtain ⟨b2, o2, rfl, _, hck2⟩ := HB.out.cell' hlt
        by_cases he : zs.getD k 0 = ys.getD k 0
        · have HN : Hid (∀ j, j < k + 1 → zs.getD j 0 = ys.getD j 0) := Lib.hid (fun j hj => by
            by_cases e : j < k
            · exact HL.out j e
            · obtain rfl : j = k := by omega
              exact he)
          rw [← he] at hck2
          clear he
          generalize zs.getD k 0 = x at hck1 hck2
          go_wp2
          go_region_with fail
          all_goals
            go_wp2
            exact ⟨⟨k + 1, _, by omega, HN, by first | rfl | go_num | (congr 1), rfl⟩, by show n - ((k : Int) + 1).toNat < n - (k : Int).toNat; omega⟩
        · have HF := Lib.hid (eqLB_no (m := n) hlt he)
          generalize zs.getD k 0 = x at hck1 he
          generalize ys.getD k 0 = y at hck2 he
          have hne : (x == y) = false := by simpa using he
          go_wp2
          go_region_with fail
          all_goals
            go_wp2
            go_ret
            exact ⟨ret_bool2 HF.out.symm, Drew.mk _ _⟩
      · obtain rfl : k = n := by omega
        have HF := Lib.hid (eqLB_end HL.out)
        go_wp2
        go_ret
        exact ⟨ret_bool2 HF.out.symm, Drew.mk _ _⟩
  · have HF := Lib.hid (eqLB_len (zs := zs) (ys := ys) e)
    have hne : ((n : Int) == (m : Int)) = false := by simpa using fun h : (n : Int) = (m : Int) => e (by omega)
    go_enter Try.func63, Try.ntmps63
    go_wp2
    go_ret
    exact ⟨ret_bool2 HF.out.symm, Drew.refl _⟩
set_option maxHeartbeats 4000000 in
theorem sr_spec (r : Int) (a : Option Addr) (n cap : Nat) (zs : List Int) (q : Int) (b : Option Addr) (m capb : Nat) (ys : List Int) (w : World) (ha : IRow w a n zs) (hb : IRow w b m ys) (hn : n ≤ 1048576) (hm : m ≤ 1048576) :
    Calls Try.prog 24 #[.agg #[.int .i64 r, .slice a n cap], .agg #[.int .i64 q, .slice b m capb]] w fun e w' => e = .returned (.bool (skB r q zs ys n m)) ∧ Below w.heap.size w w' := by
  have HA := Lib.hid ((ha.alloc (.cells #[.int .i64 r, .slice a n cap] 31)).alloc (.cells #[.int .i64 q, .slice b m capb] 31))
  have HB := Lib.hid ((hb.alloc (.cells #[.int .i64 r, .slice a n cap] 31)).alloc (.cells #[.int .i64 q, .slice b m capb] 31))
  clear ha hb
  by_cases hr : r = q
  · subst hr
    have HF := Lib.hid (sk_yes (zs := zs) (ys := ys) (n := n) (m := m) r)
    have hnn : (r == r) = true := by simp
    go_enter Try.func24, Try.ntmps24
    go_wp2_with (first | (go_at_call 63; refine (es_spec _ _ n m _ _ zs ys _ HA.out HB.out hn hm).mono ?_; rintro e w' ⟨rfl, q, rfl⟩) | go_in)
    go_ret
    exact ⟨ret_bool2 HF.out.symm, Below.drewN' (Below.alloc (belowA _ _) (by simp) _) _⟩
  · have HF := Lib.hid (sk_no (zs := zs) (ys := ys) (n := n) (m := m) hr)
    have hnn : (r == q) = false := by simpa using hr
    go_enter Try.func24, Try.ntmps24
    go_wp2
    go_ret
    exact ⟨ret_bool2 HF.out.symm, Below.alloc (belowA _ _) (by simp) _⟩
set_option maxHeartbeats 4000000 in
theorem sr_impl (r : Int) (a : Option Addr) (n cap : Nat) (zs : List Int) (q : Int) (b : Option Addr) (m capb : Nat) (ys : List Int) (w : World) (ha : IRow w a n zs) (hb : IRow w b m ys) (hn : n ≤ 1048576) (hm : m ≤ 1048576) :
    Calls Try.prog 25 #[.agg #[.int .i64 r, .slice a n cap], .agg #[.int .i64 q, .slice b m capb]] w fun e w' => e = .returned (.bool (skB r q zs ys n m)) ∧ Below w.heap.size w w' := by
  have HA := Lib.hid ((ha.alloc (.cells #[.int .i64 r, .slice a n cap] 31)).alloc (.cells #[.int .i64 q, .slice b m capb] 31))
  have HB := Lib.hid ((hb.alloc (.cells #[.int .i64 r, .slice a n cap] 31)).alloc (.cells #[.int .i64 q, .slice b m capb] 31))
  clear ha hb
  by_cases hr : r = q
  · subst hr
    have HF := Lib.hid (sk_yes (zs := zs) (ys := ys) (n := n) (m := m) r)
    have hnn : (r == r) = true := by simp
    go_enter Try.func25, Try.ntmps25
    go_wp2_with (first | (go_at_call 64; refine (el_impl _ _ n m _ _ zs ys _ HA.out HB.out hn hm).mono ?_; rintro e w' ⟨rfl, q, rfl⟩) | go_in)
    go_ret
    exact ⟨ret_bool2 HF.out.symm, Below.drewN' (Below.alloc (belowA _ _) (by simp) _) _⟩
  · have HF := Lib.hid (sk_no (zs := zs) (ys := ys) (n := n) (m := m) hr)
    have hnn : (r == q) = false := by simpa using hr
    go_enter Try.func25, Try.ntmps25
    go_wp2
    go_ret
    exact ⟨ret_bool2 HF.out.symm, Below.alloc (belowA _ _) (by simp) _⟩
end Go.Proofs.Ytmfegjflaajkkaa
