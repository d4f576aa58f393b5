/- ThroughOf: the functions. -/
import Derived.Test.YtffamppflelflaaThw
namespace Go.Proofs.Ytffamppflelflaa
open Go.Proofs.Ytffamppflelflaa.Flo Go.RowKit

theorem hgiveS_yes (a : Option Addr) (n cap : Nat) (zs : List Nat) (w : World) (ha : FRow w a n zs) (hn : n ≤ 1048576) (h : rowB zs n = true) :
    Calls Try.prog 74 #[.slice a n cap] w fun e w' => e = .returned (.tuple #[.slice a n cap, .bool true]) ∧ Drew w w' := by
  have HA := Lib.hid ha
  clear ha
  go_enter Try.func74, Try.ntmps74
  go_wp2_with (first | (go_at_call 91; refine (row_spec _ n _ zs _ HA.out hn).mono ?_; rintro e w' ⟨rfl, q6, rfl⟩) | go_in)
  go_ret2
  exact ⟨rfl, Drew.mk _ _⟩
theorem hgiveS_no (a : Option Addr) (n cap : Nat) (zs : List Nat) (w : World) (ha : FRow w a n zs) (hn : n ≤ 1048576) (h : rowB zs n = false) :
    Calls Try.prog 74 #[.slice a n cap] w fun e w' => e = .returned (.tuple #[.slice none 0 0, .bool false]) ∧ Drew w w' := by
  have HA := Lib.hid ha
  clear ha
  go_enter Try.func74, Try.ntmps74
  go_wp2_with (first | (go_at_call 91; refine (row_spec _ n _ zs _ HA.out hn).mono ?_; rintro e w' ⟨rfl, q6, rfl⟩) | go_in)
  go_ret2
  exact ⟨rfl, Drew.mk _ _⟩
set_option maxRecDepth 100000 in
set_option maxHeartbeats 4000000 in
theorem thS (r c : Int) (a : Option Addr) (n : Nat) (zc : List Nat) (a2 : Option Addr) (m cap2 : Nat) (zr : List Nat) (w : World) (hc : FRow w a n zc) (hr : FRow w a2 m zr) (hn : n ≤ 1048576) (hm : m ≤ 1048576) (hok : okTh r c zc n zr m = true) :
    Calls Try.prog 30 #[.agg #[.int .i64 r, .int .i64 c, .slice a n n], .slice a2 m cap2] w fun e w' => ∃ g cp, e = .returned (.tuple #[.slice (some ⟨g, 0, none⟩) c.toNat cp, .bool true]) ∧ New w w' g (.cl c.toNat (thrV zr zc r.toNat c.toNat)) := by
  unfold okTh at hok
  rw [Bool.and_eq_true] at hok
  obtain ⟨ht, hv⟩ := hok
  obtain ⟨R, C, rfl, rfl, hN, hR, hC, hrows, hmR, hrow⟩ := take_out ht
  subst hmR
  have hn0 : 0 < n := by rw [hN]; exact Nat.mul_pos hR.1 hC.1
  obtain ⟨b, off, rfl⟩ := hc.some hn0
  have HA := Lib.hid (hc.alloc (.cells #[.int .i64 (m : Int), .int .i64 (C : Int), .slice (some ⟨b, off, none⟩) n n] 27))
  have HB := Lib.hid (hr.alloc (.cells #[.int .i64 (m : Int), .int .i64 (C : Int), .slice (some ⟨b, off, none⟩) n n] 27))
  have HT := Lib.hid (Tab.new w (m : Int) (C : Int) (some ⟨b, off, none⟩) n n 27)
  have HN := Lib.hid hN
  have HRR := Lib.hid hR
  have HCC := Lib.hid hC
  have hC8 := hC.2
  have hC1 := hC.1
  have HROW := Lib.hid hrow
  have HROWS := Lib.hid hrows
  have HV := Lib.hid hv
  clear hc hr hN hR hC hrows hrow hv
  go_enter Try.func30, Try.ntmps30
  go_wp2_with (first | (go_at_call 73; refine (take_spec _ (m : Int) (C : Int) _ n n zc a2 m _ zr _ HA.out HB.out hn hm (Nat.le_refl _) HT.out).mono ?_; rintro e w' ⟨rfl, q, rfl⟩) | (go_at_call 75; refine (th_spec _ b off m C n n zc a2 _ zr _ (Tab.drewN HT.out _) (HA.out.drewN _) (HB.out.drewN _) HN.out HRR.out HCC.out HROW.out HROWS.out).mono ?_; rintro e w2 ⟨v, rfl, hg, hb⟩; obtain ⟨g, cp, zg, rfl, hg1, hg2, hg3, hg4, hg5⟩ := hg.fin (by omega); have HG1 := Lib.hid hg1; have HG2 := Lib.hid hg2; have HG3 := Lib.hid hg3; have HG4 := Lib.hid hg4; have HG5 := Lib.hid hg5; have HW2 := Lib.hid (Below.next (below_alloc _ _) (Below.ofDrewN hb)); clear hg hg1 hg2 hg3 hg4 hg5 hb) | (go_at_call 74; refine (hgiveS_yes _ C _ zg _ HG3.out (by omega) (by rw [rowB_V HG4.out]; exact HV.out)).mono ?_; rintro e w' ⟨rfl, q6, rfl⟩) | go_in)
  go_ret2
  exact ⟨_, _, rfl, by have := HG1.out; simp at this; omega, HG2.out, HG5.out, Below.drewN' HW2.out _⟩
set_option maxRecDepth 100000 in
set_option maxHeartbeats 4000000 in
theorem thS' (r c : Int) (a : Option Addr) (n : Nat) (zc : List Nat) (a2 : Option Addr) (m cap2 : Nat) (zr : List Nat) (w : World) (hc : FRow w a n zc) (hr : FRow w a2 m zr) (hn : n ≤ 1048576) (hm : m ≤ 1048576) (hok : okTh r c zc n zr m = false) :
    Calls Try.prog 30 #[.agg #[.int .i64 r, .int .i64 c, .slice a n n], .slice a2 m cap2] w fun e w' => e = .returned (.tuple #[.slice none 0 0, .bool false]) ∧ Below w.heap.size w w' := by
  unfold okTh at hok
  cases ht : takeB r c zc n zr m with
  | false =>
    have HA := Lib.hid (hc.alloc (.cells #[.int .i64 r, .int .i64 c, .slice a n n] 27))
    have HB := Lib.hid (hr.alloc (.cells #[.int .i64 r, .int .i64 c, .slice a n n] 27))
    have HT := Lib.hid (Tab.new w r c a n n 27)
    clear hc hr hok
    go_enter Try.func30, Try.ntmps30
    go_wp2_with (first | (go_at_call 73; refine (take_spec _ r c a n n zc a2 m _ zr _ HA.out HB.out hn hm (Nat.le_refl _) HT.out).mono ?_; rintro e w' ⟨rfl, q, rfl⟩) | go_in)
    go_ret2
    exact ⟨rfl, Below.drewN' (below_alloc _ _) _⟩
  | true =>
    rw [ht, Bool.true_and] at hok
    have hv := hok
    clear hok
    obtain ⟨R, C, rfl, rfl, hN, hR, hC, hrows, hmR, hrow⟩ := take_out ht
    subst hmR
    have hn0 : 0 < n := by rw [hN]; exact Nat.mul_pos hR.1 hC.1
    obtain ⟨b, off, rfl⟩ := hc.some hn0
    have HA := Lib.hid (hc.alloc (.cells #[.int .i64 (m : Int), .int .i64 (C : Int), .slice (some ⟨b, off, none⟩) n n] 27))
    have HB := Lib.hid (hr.alloc (.cells #[.int .i64 (m : Int), .int .i64 (C : Int), .slice (some ⟨b, off, none⟩) n n] 27))
    have HT := Lib.hid (Tab.new w (m : Int) (C : Int) (some ⟨b, off, none⟩) n n 27)
    have HN := Lib.hid hN
    have HRR := Lib.hid hR
    have HCC := Lib.hid hC
    have hC8 := hC.2
    have hC1 := hC.1
    have HROW := Lib.hid hrow
    have HROWS := Lib.hid hrows
    have HV := Lib.hid hv
    clear hc hr hN hR hC hrows hrow hv
    go_enter Try.func30, Try.ntmps30
    go_wp2_with (first | (go_at_call 73; refine (take_spec _ (m : Int) (C : Int) _ n n zc a2 m _ zr _ HA.out HB.out hn hm (Nat.le_refl _) HT.out).mono ?_; rintro e w' ⟨rfl, q, rfl⟩) | (go_at_call 75; refine (th_spec _ b off m C n n zc a2 _ zr _ (Tab.drewN HT.out _) (HA.out.drewN _) (HB.out.drewN _) HN.out HRR.out HCC.out HROW.out HROWS.out).mono ?_; rintro e w2 ⟨v, rfl, hg, hb⟩; obtain ⟨g, cp, zg, rfl, hg1, hg2, hg3, hg4, hg5⟩ := hg.fin (by omega); have HG1 := Lib.hid hg1; have HG2 := Lib.hid hg2; have HG3 := Lib.hid hg3; have HG4 := Lib.hid hg4; have HG5 := Lib.hid hg5; have HW2 := Lib.hid (Below.next (below_alloc _ _) (Below.ofDrewN hb)); clear hg hg1 hg2 hg3 hg4 hg5 hb) | (go_at_call 74; refine (hgiveS_no _ C _ zg _ HG3.out (by omega) (by rw [rowB_V HG4.out]; exact HV.out)).mono ?_; rintro e w' ⟨rfl, q6, rfl⟩) | go_in)
    go_ret2
    exact ⟨rfl, Below.drewN' HW2.out _⟩
set_option maxRecDepth 100000 in
set_option maxHeartbeats 4000000 in
theorem thI (r c : Int) (a : Option Addr) (n : Nat) (zc : List Nat) (a2 : Option Addr) (m cap2 : Nat) (zr : List Nat) (w : World) (hc : FRow w a n zc) (hr : FRow w a2 m zr) (hn : n ≤ 1048576) (hm : m ≤ 1048576) (hok : okTh r c zc n zr m = true) :
    Calls Try.prog 32 #[.agg #[.int .i64 r, .int .i64 c, .slice a n n], .slice a2 m cap2] w fun e w' => ∃ g cp, e = .returned (.tuple #[.slice (some ⟨g, 0, none⟩) c.toNat cp, .bool true]) ∧ New w w' g (.cl c.toNat (thrV zr zc r.toNat c.toNat)) := by
  unfold okTh at hok
  rw [Bool.and_eq_true] at hok
  obtain ⟨ht, hv⟩ := hok
  obtain ⟨R, C, rfl, rfl, hN, hR, hC, hrows, hmR, hrow⟩ := take_out ht
  subst hmR
  have hn0 : 0 < n := by rw [hN]; exact Nat.mul_pos hR.1 hC.1
  obtain ⟨b, off, rfl⟩ := hc.some hn0
  have HA := Lib.hid (hc.alloc (.cells #[.int .i64 (m : Int), .int .i64 (C : Int), .slice (some ⟨b, off, none⟩) n n] 27))
  have HB := Lib.hid (hr.alloc (.cells #[.int .i64 (m : Int), .int .i64 (C : Int), .slice (some ⟨b, off, none⟩) n n] 27))
  have HT := Lib.hid (Tab.new w (m : Int) (C : Int) (some ⟨b, off, none⟩) n n 27)
  have HN := Lib.hid hN
  have HRR := Lib.hid hR
  have HCC := Lib.hid hC
  have hC8 := hC.2
  have hC1 := hC.1
  have HROW := Lib.hid hrow
  have HROWS := Lib.hid hrows
  have HV := Lib.hid hv
  clear hc hr hN hR hC hrows hrow hv
  go_enter Try.func32, Try.ntmps32
  go_wp2_with (first | (go_at_call 76; refine (take_impl (m : Int) (C : Int) _ n n zc a2 m _ zr _ HA.out HB.out hn hm (Nat.le_refl _)).mono ?_; rintro e w2 ⟨rfl, hb⟩; have HA := Lib.hid (HA.out.below hb); have HB := Lib.hid (HB.out.below hb); have HT := Lib.hid (HT.out.below hb); have HWT := Lib.hid (Below.next (below_alloc _ _) hb); obtain ⟨_, hc0, hc1, hc2⟩ := HT.out; clear hb) | (go_at_call 78; refine (th_impl b off m C n n zc a2 _ zr _ HA.out HB.out HN.out HRR.out HCC.out (Nat.le_refl _) HROW.out HROWS.out).mono ?_; rintro e w3 ⟨g, rfl, hg1, hg2, hg5, hb⟩; have HG1 := Lib.hid hg1; have HG2 := Lib.hid hg2; have HG5 := Lib.hid hg5; have HW2 := Lib.hid (Below.next HWT.out hb); obtain ⟨zg, hg4, hgl, hgc⟩ := hg5; have HG3 : Hid (FRow w3 (some ⟨g, 0, none⟩) C zg) := Lib.hid ⟨hgl, .inr ⟨g, 0, rfl, hg2, fun j hj => by rw [Nat.zero_add]; exact (hgc j hj).1⟩⟩; have HG4 := Lib.hid hg4; clear hg1 hg2 hb hg4 hgl hgc) | (go_at_call 77; refine (giveI_yes _ C _ zg _ HG3.out (by omega) (by rw [rowB_V HG4.out]; exact HV.out)).mono ?_; rintro e w' ⟨rfl, q6, rfl⟩) | go_in)
  go_ret2
  exact ⟨_, _, rfl, by have := HG1.out; have := HWT.out.size; omega, HG2.out, HG5.out, Below.drewN' HW2.out _⟩
set_option maxRecDepth 100000 in
set_option maxHeartbeats 4000000 in
theorem thI' (r c : Int) (a : Option Addr) (n : Nat) (zc : List Nat) (a2 : Option Addr) (m cap2 : Nat) (zr : List Nat) (w : World) (hc : FRow w a n zc) (hr : FRow w a2 m zr) (hn : n ≤ 1048576) (hm : m ≤ 1048576) (hok : okTh r c zc n zr m = false) :
    Calls Try.prog 32 #[.agg #[.int .i64 r, .int .i64 c, .slice a n n], .slice a2 m cap2] w fun e w' => e = .returned (.tuple #[.slice none 0 0, .bool false]) ∧ Below w.heap.size w w' := by
  unfold okTh at hok
  cases ht : takeB r c zc n zr m with
  | false =>
    have HA := Lib.hid (hc.alloc (.cells #[.int .i64 r, .int .i64 c, .slice a n n] 27))
    have HB := Lib.hid (hr.alloc (.cells #[.int .i64 r, .int .i64 c, .slice a n n] 27))
    have HT := Lib.hid (Tab.new w r c a n n 27)
    clear hc hr hok
    go_enter Try.func32, Try.ntmps32
    go_wp2_with (first | (go_at_call 76; refine (take_impl r c a n n zc a2 m _ zr _ HA.out HB.out hn hm (Nat.le_refl _)).mono ?_; rintro e w2 ⟨rfl, hb⟩; have HA := Lib.hid (HA.out.below hb); have HB := Lib.hid (HB.out.below hb); have HT := Lib.hid (HT.out.below hb); have HWT := Lib.hid (Below.next (below_alloc _ _) hb); obtain ⟨_, hc0, hc1, hc2⟩ := HT.out; clear hb) | go_in)
    go_ret2
    exact ⟨rfl, HWT.out⟩
  | true =>
    rw [ht, Bool.true_and] at hok
    have hv := hok
    clear hok
    obtain ⟨R, C, rfl, rfl, hN, hR, hC, hrows, hmR, hrow⟩ := take_out ht
    subst hmR
    have hn0 : 0 < n := by rw [hN]; exact Nat.mul_pos hR.1 hC.1
    obtain ⟨b, off, rfl⟩ := hc.some hn0
    have HA := Lib.hid (hc.alloc (.cells #[.int .i64 (m : Int), .int .i64 (C : Int), .slice (some ⟨b, off, none⟩) n n] 27))
    have HB := Lib.hid (hr.alloc (.cells #[.int .i64 (m : Int), .int .i64 (C : Int), .slice (some ⟨b, off, none⟩) n n] 27))
    have HT := Lib.hid (Tab.new w (m : Int) (C : Int) (some ⟨b, off, none⟩) n n 27)
    have HN := Lib.hid hN
    have HRR := Lib.hid hR
    have HCC := Lib.hid hC
    have hC8 := hC.2
    have hC1 := hC.1
    have HROW := Lib.hid hrow
    have HROWS := Lib.hid hrows
    have HV := Lib.hid hv
    clear hc hr hN hR hC hrows hrow hv
    go_enter Try.func32, Try.ntmps32
    go_wp2_with (first | (go_at_call 76; refine (take_impl (m : Int) (C : Int) _ n n zc a2 m _ zr _ HA.out HB.out hn hm (Nat.le_refl _)).mono ?_; rintro e w2 ⟨rfl, hb⟩; have HA := Lib.hid (HA.out.below hb); have HB := Lib.hid (HB.out.below hb); have HT := Lib.hid (HT.out.below hb); have HWT := Lib.hid (Below.next (below_alloc _ _) hb); obtain ⟨_, hc0, hc1, hc2⟩ := HT.out; clear hb) | (go_at_call 78; refine (th_impl b off m C n n zc a2 _ zr _ HA.out HB.out HN.out HRR.out HCC.out (Nat.le_refl _) HROW.out HROWS.out).mono ?_; rintro e w3 ⟨g, rfl, hg1, hg2, hg5, hb⟩; have HG1 := Lib.hid hg1; have HG2 := Lib.hid hg2; have HG5 := Lib.hid hg5; have HW2 := Lib.hid (Below.next HWT.out hb); obtain ⟨zg, hg4, hgl, hgc⟩ := hg5; have HG3 : Hid (FRow w3 (some ⟨g, 0, none⟩) C zg) := Lib.hid ⟨hgl, .inr ⟨g, 0, rfl, hg2, fun j hj => by rw [Nat.zero_add]; exact (hgc j hj).1⟩⟩; have HG4 := Lib.hid hg4; clear hg1 hg2 hb hg4 hgl hgc) | (go_at_call 77; refine (giveI_no _ C _ zg _ HG3.out (by omega) (by rw [rowB_V HG4.out]; exact HV.out)).mono ?_; rintro e w' ⟨rfl, q6, rfl⟩) | go_in)
    go_ret2
    exact ⟨rfl, Below.drewN' HW2.out _⟩
end Go.Proofs.Ytffamppflelflaa
