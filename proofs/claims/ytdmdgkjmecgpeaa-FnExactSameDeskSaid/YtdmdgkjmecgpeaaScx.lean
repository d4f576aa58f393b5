
/- Lists that are equal. -/
import Derived.Test.YtdmdgkjmecgpeaaPry
import Derived.Deep.QuietTactic
import Derived.BigQuiet
namespace Go.Proofs.Ytdmdgkjmecgpeaa
open Go.Proofs.Ytdmdgkjmecgpeaa.Flo Go.RowKit


def eqLB (zs ys : List Int) (n m : Nat) : Bool := decide (n = m) && decide (∀ k, k < n → zs.getD k 0 = ys.getD k 0)
theorem eqLB_no {zs ys : List Int} {n m k : Nat} (hk : k < n) (h : ¬ zs.getD k 0 = ys.getD k 0) : eqLB zs ys n m = false := by
  unfold eqLB
  rw [decide_eq_false (p := ∀ k, k < n → zs.getD k 0 = ys.getD k 0) (fun e => h (e k hk))]
  simp
theorem eqLB_len {zs ys : List Int} {n m : Nat} (h : ¬ n = m) : eqLB zs ys n m = false := by
  unfold eqLB; rw [decide_eq_false h]; rfl
theorem eqLB_end {zs ys : List Int} {n : Nat} (h : ∀ k, k < n → zs.getD k 0 = ys.getD k 0) : eqLB zs ys n n = true := by
  unfold eqLB; rw [decide_eq_true rfl, decide_eq_true h]; rfl
set_option maxHeartbeats 2000000 in
theorem el_spec (a b : Option Addr) (n m cap capb : Nat) (zs ys : List Int) (w : World) (ha : IRow w a n zs) (hb : IRow w b m ys) (hn : n ≤ 1048576) (hm : m ≤ 1048576) :
    Calls Try.prog 76 #[.slice a n cap, .slice b m capb] w fun e w' => e = .returned (.bool (eqLB zs ys n m)) ∧ Drew w w' := by
  have HA := Lib.hid ha
  have HB := Lib.hid hb
  clear ha hb
  by_cases e : n = m
  · subst e
    go_enter Try.func76, Try.ntmps76
    go_wp2
    go_loopw [5] (fun iv w' => ∃ k q : Nat, k ≤ n ∧ Hid (∀ j, j < k → zs.getD j 0 = ys.getD j 0) ∧ iv = .int .i64 k ∧ w' = w.drewN q) (fun iv _ => n - (intOf iv).toNat)
    case atStart => exact ⟨0, 0, by omega, Lib.hid (by intro j hj; omega), rfl, rfl⟩
    case round =>
      obtain ⟨k, q, hk, HL, rfl, rfl⟩ := hrel
      by_cases hlt : k < n
      · obtain ⟨b1, o1, rfl, _, hck1⟩ := HA.out.cell' hlt
        obtain ⟨b2, o2, rfl, _, hck2⟩ := HB.out.cell' hlt
        by_cases he : zs.getD k 0 = ys.getD k 0
        · have HN : Hid (∀ j, j < k + 1 → zs.getD j 0 = ys.getD j 0) := Lib.hid (fun j hj => by
            by_cases e : j < k
            · exact HL.out j e
            · obtain rfl : j = k := by omega
              exact he)
          rw [← he] at hck2
          clear he
          generalize zs.getD k 0 = x at hck1 hck2
          go_wp2
          go_region_with fail
          all_goals
            go_wp2
            exact ⟨⟨k + 1, _, by omega, HN, by first | rfl | go_num | (congr 1), rfl⟩, by show n - ((k : Int) + 1).toNat < n - (k : Int).toNat; omega⟩
        · have HF := Lib.hid (eqLB_no (m := n) hlt he)
          generalize zs.getD k 0 = x at hck1 he
          generalize ys.getD k 0 = y at hck2 he
          have hne : (x == y) = false := by simpa using he
          go_wp2
          go_region_with fail
          all_goals
            go_wp2
            go_ret
            exact ⟨ret_bool2 HF.out.symm, Drew.mk _ _⟩
      · obtain rfl : k = n := by omega
        have HF := Lib.hid (eqLB_end HL.out)
        go_wp2
        go_ret
        exact ⟨ret_bool2 HF.out.symm, Drew.mk _ _⟩
  · have HF := Lib.hid (eqLB_len (zs := zs) (ys := ys) e)
    have hne : ((n : Int) == (m : Int)) = false := by simpa using fun h : (n : Int) = (m : Int) => e (by omega)
    go_enter Try.func76, Try.ntmps76
    go_wp2
    go_ret
    exact ⟨ret_bool2 HF.out.symm, Drew.refl _⟩
set_option maxHeartbeats 2000000 in
theorem el_impl (a b : Option Addr) (n m cap capb : Nat) (zs ys : List Int) (w : World) (ha : IRow w a n zs) (hb : IRow w b m ys) (hn : n ≤ 1048576) (hm : m ≤ 1048576) :
    Calls Try.prog 157 #[.slice a n cap, .slice b m capb] w fun e w' => e = .returned (.bool (eqLB zs ys n m)) ∧ Drew w w' := by
  have HA := Lib.hid ha
  have HB := Lib.hid hb
  clear ha hb
  by_cases e : n = m
  · subst e
    go_enter Try.func157, Try.ntmps157
    go_wp2
    go_loopw [13] (fun iv w' => ∃ k q : Nat, k ≤ n ∧ Hid (∀ j, j < k → zs.getD j 0 = ys.getD j 0) ∧ iv = .int .i64 k ∧ w' = w.drewN q) (fun iv _ => n - (intOf iv).toNat)
    case atStart => exact ⟨0, 0, by omega, Lib.hid (by intro j hj; omega), rfl, rfl⟩
    case round =>
      obtain ⟨k, q, hk, HL, rfl, rfl⟩ := hrel
      by_cases hlt : k < n
      · obtain ⟨b1, o1, rfl, _, hck1⟩ := HA.out.cell' hlt
        obtain ⟨b2, o2, rfl, _, hck2⟩ := HB.out.cell' hlt
        by_cases he : zs.getD k 0 = ys.getD k 0
        · have HN : Hid (∀ j, j < k + 1 → zs.getD j 0 = ys.getD j 0) := Lib.hid (fun j hj => by
            by_cases e : j < k
            · exact HL.out j e
            · obtain rfl : j = k := by omega
              exact he)
          rw [← he] at hck2
          clear he
          generalize zs.getD k 0 = x at hck1 hck2
          go_wp2
          go_region_with fail
          all_goals
            go_wp2
            exact ⟨⟨k + 1, _, by omega, HN, by first | rfl | go_num | (congr 1), rfl⟩, by show n - ((k : Int) + 1).toNat < n - (k : Int).toNat; omega⟩
        · have HF := Lib.hid (eqLB_no (m := n) hlt he)
          generalize zs.getD k 0 = x at hck1 he
          generalize ys.getD k 0 = y at hck2 he
          have hne : (x == y) = false := by simpa using he
          go_wp2
          go_region_with fail
          all_goals
            go_wp2
            go_ret
            exact ⟨ret_bool2 HF.out.symm, Drew.mk _ _⟩
      · obtain rfl : k = n := by omega
        have HF := Lib.hid (eqLB_end HL.out)
        go_wp2
        go_ret
        exact ⟨ret_bool2 HF.out.symm, Drew.mk _ _⟩
  · have HF := Lib.hid (eqLB_len (zs := zs) (ys := ys) e)
    have hne : ((n : Int) == (m : Int)) = false := by simpa using fun h : (n : Int) = (m : Int) => e (by omega)
    go_enter Try.func157, Try.ntmps157
    go_wp2
    go_ret
    exact ⟨ret_bool2 HF.out.symm, Drew.refl _⟩
def skB (r q : Int) (zs ys : List Int) (n m : Nat) : Bool := decide (r = q) && eqLB zs ys n m
theorem sk_yes {zs ys : List Int} {n m : Nat} (r : Int) : skB r r zs ys n m = eqLB zs ys n m := by unfold skB; rw [decide_eq_true rfl]; rfl
theorem sk_no {r q : Int} {zs ys : List Int} {n m : Nat} (h : ¬ r = q) : skB r q zs ys n m = false := by unfold skB; rw [decide_eq_false h]; rfl
end Go.Proofs.Ytdmdgkjmecgpeaa
