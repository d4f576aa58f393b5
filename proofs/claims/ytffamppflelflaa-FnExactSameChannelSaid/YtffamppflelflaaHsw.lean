/- SameChannel: the functions. -/
import Derived.Test.YtffamppflelflaaChv
import Derived.Test.YtffamppflelflaaFla
namespace Go.Proofs.Ytffamppflelflaa
open Go.Proofs.Ytffamppflelflaa.Flo Go.RowKit

/-- All cells are 32-bit words. -/
def Wf (zs : List Nat) (n : Nat) : Prop := ∀ k, k < n → zs.getD k 0 < 2 ^ 32
def sameAllB (za zb : List Nat) (n m : Nat) : Bool := decide (n = m) && decide (∀ k, k < n → bitsF (za.getD k 0) = bitsF (zb.getD k 0))
theorem same_no {za zb : List Nat} {n m k : Nat} (hk : k < n) (h : ¬ bitsF (za.getD k 0) = bitsF (zb.getD k 0)) : sameAllB za zb n m = false := by
  unfold sameAllB
  rw [decide_eq_false (p := ∀ k, k < n → bitsF (za.getD k 0) = bitsF (zb.getD k 0)) (fun e => h (e k hk))]
  simp
theorem same_yes {za zb : List Nat} {n : Nat} (h : ∀ k, k < n → bitsF (za.getD k 0) = bitsF (zb.getD k 0)) : sameAllB za zb n n = true := by
  unfold sameAllB
  rw [decide_eq_true rfl, decide_eq_true h]; rfl
theorem same_len {za zb : List Nat} {n m : Nat} (h : n ≠ m) : sameAllB za zb n m = false := by
  unfold sameAllB
  rw [decide_eq_false h]; rfl
set_option maxHeartbeats 1000000 in
theorem same1_spec (x y : Nat) (hx : x < 2 ^ 32) (hy : y < 2 ^ 32) (c : Bool) (hc : decide ((bitsF x : Int) = (bitsF y : Int)) = c) (w : World) : Calls Try.prog 93 #[.float .f32 x, .float .f32 y] w fun e w' => e = .returned (.bool c) ∧ w = w' := by
  have hc2 : ((bitsF x : Int) == (bitsF y : Int)) = c := hc
  clear hc
  go_enter Try.func93, Try.ntmps93
  go_wp2_with (first | (go_at_call 99; refine (bits_spec _ (by assumption) _).mono ?_; rintro e w' ⟨rfl, rfl⟩) | go_in)
  go_ret
  exact ⟨rfl, rfl⟩
set_option maxHeartbeats 1000000 in
theorem same1_impl (x y : Nat) (hx : x < 2 ^ 32) (hy : y < 2 ^ 32) (c : Bool) (hc : decide ((bitsF x : Int) = (bitsF y : Int)) = c) (w : World) : Calls Try.prog 64 #[.float .f32 x, .float .f32 y] w fun e w' => e = .returned (.bool c) ∧ w = w' := by
  have hc2 : ((bitsF x : Int) == (bitsF y : Int)) = c := hc
  clear hc
  go_enter Try.func64, Try.ntmps64
  go_wp2_with (first | (go_at_call 94; refine (bits_impl _ (by assumption) _).mono ?_; rintro e w' ⟨rfl, rfl⟩) | go_in)
  go_ret
  exact ⟨rfl, rfl⟩
set_option maxHeartbeats 2000000 in
theorem all_spec (a b : Option Addr) (n m cap capb : Nat) (za zb : List Nat) (w : World) (ha : FRow w a n za) (hb : FRow w b m zb) (wa : Wf za n) (wb : Wf zb m) (hn : n ≤ 1048576) (hm : m ≤ 1048576) :
    Calls Try.prog 61 #[.slice a n cap, .slice b m capb] w fun e w' => e = .returned (.bool (sameAllB za zb n m)) ∧ Drew w w' := by
  have HA := Lib.hid ha
  have HB := Lib.hid hb
  have WA := Lib.hid wa
  have WB := Lib.hid wb
  clear ha hb wa wb
  by_cases hnm : n = m
  · subst hnm
    go_enter Try.func61, Try.ntmps61
    go_wp2
    go_loopw [5] (fun iv w' => ∃ k q : Nat, k ≤ n ∧ iv = .int .i64 k ∧ w' = w.drewN q ∧ Hid (∀ j, j < k → bitsF (za.getD j 0) = bitsF (zb.getD j 0))) (fun iv _ => n - (intOf iv).toNat)
    case atStart => exact ⟨0, 0, by omega, rfl, rfl, Lib.hid (by intro j hj; omega)⟩
    case round =>
      obtain ⟨k, q, hk, rfl, rfl, HL⟩ := hrel
      by_cases hlt : k < n
      · obtain ⟨b1, o1, rfl, hck1⟩ := HA.out.cell hlt
        obtain ⟨b2, o2, rfl, hck2⟩ := HB.out.cell hlt
        have hx := WA.out k hlt
        have hy := WB.out k hlt
        by_cases hc : bitsF (za.getD k 0) = bitsF (zb.getD k 0)
        · have HN : Hid (∀ j, j < k + 1 → bitsF (za.getD j 0) = bitsF (zb.getD j 0)) := Lib.hid (fun j hj => by
            by_cases e : j < k
            · exact HL.out j e
            · obtain rfl : j = k := by omega
              exact hc)
          have HC := Lib.hid (show decide ((bitsF (za.getD k 0) : Int) = (bitsF (zb.getD k 0) : Int)) = true from decide_eq_true (by rw [hc]))
          have HX := Lib.hid hx
          have HY := Lib.hid hy
          clear hc hx hy
          generalize za.getD k 0 = x at hck1 HC HX
          generalize zb.getD k 0 = y at hck2 HC HY
          go_wp2
          go_region_with (go_at_call 93; refine (same1_spec x y HX.out HY.out true HC.out _).mono ?_; rintro e w2 ⟨rfl, rfl⟩)
          all_goals
            go_wp2
            exact ⟨⟨k + 1, _, by omega, by first | rfl | go_num | (congr 1), rfl, HN⟩, by show n - ((k : Int) + 1).toNat < n - (k : Int).toNat; omega⟩
        · have HF := Lib.hid (same_no (m := n) hlt hc)
          have HC := Lib.hid (show decide ((bitsF (za.getD k 0) : Int) = (bitsF (zb.getD k 0) : Int)) = false from decide_eq_false (fun e => hc (Int.ofNat.inj e)))
          have HX := Lib.hid hx
          have HY := Lib.hid hy
          clear hc hx hy
          generalize za.getD k 0 = x at hck1 HC HX
          generalize zb.getD k 0 = y at hck2 HC HY
          go_wp2
          go_region_with (go_at_call 93; refine (same1_spec x y HX.out HY.out false HC.out _).mono ?_; rintro e w2 ⟨rfl, rfl⟩)
          all_goals
            go_wp2
            go_ret
            exact ⟨ret_bool2 HF.out.symm, Drew.mk _ _⟩
      · obtain rfl : k = n := by omega
        have HF := Lib.hid (same_yes HL.out)
        go_wp2
        go_ret
        exact ⟨ret_bool2 HF.out.symm, Drew.mk _ _⟩
  · have HF := Lib.hid (same_len (za := za) (zb := zb) hnm)
    have hd : ((n : Int) == (m : Int)) = false := by simp; omega
    have hd2 : ((n : Int) != (m : Int)) = true := by simp; omega
    clear hnm
    go_enter Try.func61, Try.ntmps61
    go_wp2
    go_ret
    exact ⟨ret_bool2 HF.out.symm, Drew.mk _ 0⟩
set_option maxHeartbeats 2000000 in
theorem all_impl (a b : Option Addr) (n m cap capb : Nat) (za zb : List Nat) (w : World) (ha : FRow w a n za) (hb : FRow w b m zb) (wa : Wf za n) (wb : Wf zb m) (hn : n ≤ 1048576) (hm : m ≤ 1048576) :
    Calls Try.prog 63 #[.slice a n cap, .slice b m capb, .func (.func 64) #[] #[]] w fun e w' => e = .returned (.bool (sameAllB za zb n m)) ∧ Drew w w' := by
  have HA := Lib.hid ha
  have HB := Lib.hid hb
  have WA := Lib.hid wa
  have WB := Lib.hid wb
  clear ha hb wa wb
  by_cases hnm : n = m
  · subst hnm
    go_enter Try.func63, Try.ntmps63
    go_wp2
    go_loopw [17] (fun iv w' => ∃ k q : Nat, k ≤ n ∧ iv = .int .i64 k ∧ w' = w.drewN q ∧ Hid (∀ j, j < k → bitsF (za.getD j 0) = bitsF (zb.getD j 0))) (fun iv _ => n - (intOf iv).toNat)
    case atStart => exact ⟨0, 0, by omega, rfl, rfl, Lib.hid (by intro j hj; omega)⟩
    case round =>
      obtain ⟨k, q, hk, rfl, rfl, HL⟩ := hrel
      by_cases hlt : k < n
      · obtain ⟨b1, o1, rfl, hck1⟩ := HA.out.cell hlt
        obtain ⟨b2, o2, rfl, hck2⟩ := HB.out.cell hlt
        have hx := WA.out k hlt
        have hy := WB.out k hlt
        by_cases hc : bitsF (za.getD k 0) = bitsF (zb.getD k 0)
        · have HN : Hid (∀ j, j < k + 1 → bitsF (za.getD j 0) = bitsF (zb.getD j 0)) := Lib.hid (fun j hj => by
            by_cases e : j < k
            · exact HL.out j e
            · obtain rfl : j = k := by omega
              exact hc)
          have HC := Lib.hid (show decide ((bitsF (za.getD k 0) : Int) = (bitsF (zb.getD k 0) : Int)) = true from decide_eq_true (by rw [hc]))
          have HX := Lib.hid hx
          have HY := Lib.hid hy
          clear hc hx hy
          generalize za.getD k 0 = x at hck1 HC HX
          generalize zb.getD k 0 = y at hck2 HC HY
          go_wp2_with (first | (go_at_call 64; refine (same1_impl x y HX.out HY.out true HC.out _).mono ?_; rintro e w2 ⟨rfl, rfl⟩) | go_in)
          all_goals
            exact ⟨⟨k + 1, _, by omega, by first | rfl | go_num | (congr 1), rfl, HN⟩, by show n - ((k : Int) + 1).toNat < n - (k : Int).toNat; omega⟩
        · have HF := Lib.hid (same_no (m := n) hlt hc)
          have HC := Lib.hid (show decide ((bitsF (za.getD k 0) : Int) = (bitsF (zb.getD k 0) : Int)) = false from decide_eq_false (fun e => hc (Int.ofNat.inj e)))
          have HX := Lib.hid hx
          have HY := Lib.hid hy
          clear hc hx hy
          generalize za.getD k 0 = x at hck1 HC HX
          generalize zb.getD k 0 = y at hck2 HC HY
          go_wp2_with (first | (go_at_call 64; refine (same1_impl x y HX.out HY.out false HC.out _).mono ?_; rintro e w2 ⟨rfl, rfl⟩) | go_in)
          all_goals
            go_ret
            exact ⟨ret_bool2 HF.out.symm, Drew.mk _ _⟩
      · obtain rfl : k = n := by omega
        have HF := Lib.hid (same_yes HL.out)
        go_wp2
        go_ret
        exact ⟨ret_bool2 HF.out.symm, Drew.mk _ _⟩
  · have HF := Lib.hid (same_len (za := za) (zb := zb) hnm)
    have hd : ((n : Int) == (m : Int)) = false := by simp; omega
    have hd2 : ((n : Int) != (m : Int)) = true := by simp; omega
    clear hnm
    go_enter Try.func63, Try.ntmps63
    go_wp2
    go_ret
    exact ⟨ret_bool2 HF.out.symm, Drew.mk _ 0⟩
theorem FRow.drew {w : World} {a : Option Addr} {n : Nat} {zs : List Nat} (h : FRow w a n zs) : FRow w.drew a n zs := h
def stB (r c r' c' : Int) (za zb : List Nat) (n m : Nat) : Bool := decide (r = r') && (decide (c = c') && sameAllB za zb n m)
set_option maxRecDepth 100000 in
set_option maxHeartbeats 4000000 in
theorem st_spec (r c r' c' : Int) (a b : Option Addr) (n m cap capb : Nat) (za zb : List Nat) (w : World) (ha : FRow w a n za) (hb : FRow w b m zb) (wa : Wf za n) (wb : Wf zb m) (hn : n ≤ 1048576) (hm : m ≤ 1048576) :
    Calls Try.prog 20 #[.agg #[.int .i64 r, .int .i64 c, .slice a n cap], .agg #[.int .i64 r', .int .i64 c', .slice b m capb]] w fun e w' => e = .returned (.bool (stB r c r' c' za zb n m)) ∧ Below w.heap.size w w' := by
  have HA := Lib.hid ((ha.alloc (.cells #[.int .i64 r, .int .i64 c, .slice a n cap] 27)).alloc (.cells #[.int .i64 r', .int .i64 c', .slice b m capb] 27))
  have HB := Lib.hid ((hb.alloc (.cells #[.int .i64 r, .int .i64 c, .slice a n cap] 27)).alloc (.cells #[.int .i64 r', .int .i64 c', .slice b m capb] 27))
  have HBL : Hid (Below w.heap.size w ((w.alloc (.cells #[.int .i64 r, .int .i64 c, .slice a n cap] 27)).alloc (.cells #[.int .i64 r', .int .i64 c', .slice b m capb] 27))) := Lib.hid (Below.next (below_alloc _ _) (below_alloc _ _))
  have WA := Lib.hid wa
  have WB := Lib.hid wb
  clear ha hb wa wb
  by_cases h1 : r = r'
  · subst h1
    by_cases h2 : c = c'
    · subst h2
      have HV : Hid (stB r c r c za zb n m = sameAllB za zb n m) := Lib.hid (by unfold stB; rw [decide_eq_true rfl, decide_eq_true rfl]; rfl)
      go_enter Try.func20, Try.ntmps20
      go_wp2_with (first | (go_at_call 61; refine (all_spec _ _ n m _ _ za zb _ HA.out HB.out WA.out WB.out hn hm).mono ?_; rintro e w' ⟨rfl, q, rfl⟩) | go_in)
      go_ret
      exact ⟨ret_bool2 HV.out.symm, Below.drewN' HBL.out _⟩
    · have HV : Hid (stB r c r c' za zb n m = false) := Lib.hid (by unfold stB; rw [decide_eq_false h2]; simp)
      have hd : (c == c') = false := by simpa using h2
      clear h2
      go_enter Try.func20, Try.ntmps20
      go_wp2
      go_ret
      exact ⟨ret_bool2 HV.out.symm, HBL.out⟩
  · have HV : Hid (stB r c r' c' za zb n m = false) := Lib.hid (by unfold stB; rw [decide_eq_false h1]; rfl)
    have hd : (r == r') = false := by simpa using h1
    clear h1
    go_enter Try.func20, Try.ntmps20
    go_wp2
    go_ret
    exact ⟨ret_bool2 HV.out.symm, HBL.out⟩
set_option maxHeartbeats 1000000 in
theorem shape_impl (r c : Int) (a : Option Addr) (n cap : Nat) (w : World) :
    Calls Try.prog 62 #[.agg #[.int .i64 r, .int .i64 c, .slice a n cap]] w fun e w' => e = .returned (.agg #[.int .i64 r, .int .i64 c]) ∧ Below w.heap.size w w' := by
  go_enter Try.func62, Try.ntmps62
  go_wp2
  exact bodyPost_ret (v := .agg #[.int .i64 r, .int .i64 c]) (by simp [results, Try.results62, go_sem]) rfl
    ⟨rfl, by repeat (first | exact Below.refl _ _ | refine Below.drewN' ?_ _ | refine Below.alloc ?_ (by first | (simp; done) | (simp; omega)) _)⟩
set_option maxRecDepth 100000 in
set_option maxHeartbeats 4000000 in
theorem st_impl (r c r' c' : Int) (a b : Option Addr) (n m cap capb : Nat) (za zb : List Nat) (w : World) (ha : FRow w a n za) (hb : FRow w b m zb) (wa : Wf za n) (wb : Wf zb m) (hn : n ≤ 1048576) (hm : m ≤ 1048576) :
    Calls Try.prog 21 #[.agg #[.int .i64 r, .int .i64 c, .slice a n cap], .agg #[.int .i64 r', .int .i64 c', .slice b m capb]] w fun e w' => e = .returned (.bool (stB r c r' c' za zb n m)) ∧ Below w.heap.size w w' := by
  have HA := Lib.hid ((ha.alloc (.cells #[.int .i64 r, .int .i64 c, .slice a n cap] 27)).alloc (.cells #[.int .i64 r', .int .i64 c', .slice b m capb] 27))
  have HB := Lib.hid ((hb.alloc (.cells #[.int .i64 r, .int .i64 c, .slice a n cap] 27)).alloc (.cells #[.int .i64 r', .int .i64 c', .slice b m capb] 27))
  have HBL : Hid (Below w.heap.size w ((w.alloc (.cells #[.int .i64 r, .int .i64 c, .slice a n cap] 27)).alloc (.cells #[.int .i64 r', .int .i64 c', .slice b m capb] 27))) := Lib.hid (Below.next (below_alloc _ _) (below_alloc _ _))
  have HT1 := Lib.hid ((Tab.new w r c a n cap 27).below (below_alloc _ (.cells #[.int .i64 r', .int .i64 c', .slice b m capb] 27)))
  have HT2 := Lib.hid (Tin.tab (Tin.new' (w := w.alloc (.cells #[.int .i64 r, .int .i64 c, .slice a n cap] 27)) (p := w.heap.size + 1) (r := r') (c := c') (v := .slice b m capb) (T := 27) (by simp)))
  have WA := Lib.hid wa
  have WB := Lib.hid wb
  clear ha hb wa wb
  by_cases h1 : r = r'
  · subst h1
    by_cases h2 : c = c'
    · subst h2
      have HV : Hid (stB r c r c za zb n m = sameAllB za zb n m) := Lib.hid (by unfold stB; rw [decide_eq_true rfl, decide_eq_true rfl]; rfl)
      go_enter Try.func21, Try.ntmps21
      go_wp2
      go_region_with (first | (go_at_call 62; refine (shape_impl _ _ _ _ _ _).mono ?_; rintro e w2 ⟨rfl, hb⟩; (try have hb := Below.ofDrew hb); have HA := Lib.hid (HA.out.below hb); have HB := Lib.hid (HB.out.below hb); have HBL := Lib.hid (Below.next HBL.out hb); have HT1 := Lib.hid (HT1.out.below hb); have HT2 := Lib.hid (HT2.out.below hb); obtain ⟨_, k0, k1, k2⟩ := HT1.out; obtain ⟨_, l0, l1, l2⟩ := HT2.out; clear hb) | (go_at_call 63; (first | (with_reducible refine (all_impl _ _ n m _ _ za zb _ HA.out HB.out WA.out WB.out hn hm).mono ?_) | (with_reducible refine (all_impl _ _ n m _ _ za zb _ (FRow.drew HA.out) (FRow.drew HB.out) WA.out WB.out hn hm).mono ?_)); rintro e w3 ⟨rfl, q, rfl⟩))
      all_goals
        go_wp2
        go_ret
        exact ⟨ret_bool2 HV.out.symm, by first | exact HBL.out | exact Below.drew HBL.out | exact Below.drewN' HBL.out _⟩
    · have HV : Hid (stB r c r c' za zb n m = false) := Lib.hid (by unfold stB; rw [decide_eq_false h2]; simp)
      have hd : (c == c') = false := by simpa using h2
      clear h2
      go_enter Try.func21, Try.ntmps21
      go_wp2
      (first | go_region_with (go_at_call 62; refine (shape_impl _ _ _ _ _ _).mono ?_; rintro e w2 ⟨rfl, hb⟩; (try have hb := Below.ofDrew hb); have HA := Lib.hid (HA.out.below hb); have HB := Lib.hid (HB.out.below hb); have HBL := Lib.hid (Below.next HBL.out hb); have HT1 := Lib.hid (HT1.out.below hb); have HT2 := Lib.hid (HT2.out.below hb); obtain ⟨_, k0, k1, k2⟩ := HT1.out; obtain ⟨_, l0, l1, l2⟩ := HT2.out; clear hb) | fail)
      all_goals
        go_wp2
        go_ret
        exact ⟨ret_bool2 HV.out.symm, by first | exact HBL.out | exact Below.drew HBL.out | exact Below.drewN' HBL.out _⟩
  · have HV : Hid (stB r c r' c' za zb n m = false) := Lib.hid (by unfold stB; rw [decide_eq_false h1]; rfl)
    have hd : (r == r') = false := by simpa using h1
    clear h1
    go_enter Try.func21, Try.ntmps21
    go_wp2
    (first | go_region_with (go_at_call 62; refine (shape_impl _ _ _ _ _ _).mono ?_; rintro e w2 ⟨rfl, hb⟩; (try have hb := Below.ofDrew hb); have HA := Lib.hid (HA.out.below hb); have HB := Lib.hid (HB.out.below hb); have HBL := Lib.hid (Below.next HBL.out hb); have HT1 := Lib.hid (HT1.out.below hb); have HT2 := Lib.hid (HT2.out.below hb); obtain ⟨_, k0, k1, k2⟩ := HT1.out; obtain ⟨_, l0, l1, l2⟩ := HT2.out; clear hb) | fail)
    all_goals
      go_wp2
      go_ret
      exact ⟨ret_bool2 HV.out.symm, by first | exact HBL.out | exact Below.drew HBL.out | exact Below.drewN' HBL.out _⟩
end Go.Proofs.Ytffamppflelflaa
