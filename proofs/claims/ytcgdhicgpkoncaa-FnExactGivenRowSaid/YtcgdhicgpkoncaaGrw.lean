/- GivenRow: the functions. -/
import Derived.Test.YtcgdhicgpkoncaaGrv
namespace Go.Proofs.Ytcgdhicgpkoncaa
open Go.Proofs.Ytcgdhicgpkoncaa.Flo Go.RowKit

set_option maxRecDepth 100000 in
set_option maxHeartbeats 4000000 in
theorem given_impl (R : Int) (b off C n i : Nat) (zs : List Nat) (w : World) (ha : FRow w (some ⟨b, off, none⟩) n zs) (hle : i * C + C ≤ n) (hC : 1 ≤ C) (hn64 : n ≤ 64) :
    Calls Try.prog 80 #[.agg #[.int .i64 R, .int .i64 (C : Int), .slice (some ⟨b, off, none⟩) n n], .int .i64 (i : Int)] w fun e w' => ∃ g zq, e = .returned (.slice (some ⟨g, 0, none⟩) C C) ∧ w.heap.size ≤ g ∧ g < w'.heap.size ∧ FRow w' (some ⟨g, 0, none⟩) C zq ∧ (∀ k, k < C → cls .f32 (zq.getD k 0) = givV zs i C k) ∧ (∀ j, j < C → w'.frozen? ⟨g, j, none⟩ = false) ∧ Below w.heap.size w w' := by
  have HP := Lib.hid ((ha.part hle hC).below (below_alloc w (.cells #[.int .i64 R, .int .i64 (C : Int), .slice (some ⟨b, off, none⟩) n n] 44)))
  have hC64 : C ≤ 64 := by omega
  clear ha
  go_enter Try.func80, Try.ntmps80
  go_wp2_with (first | (go_at_call 103; (refine (part_impl R b off n C i (i * C) (i * C + C) _ rfl rfl hle hC hn64).mono ?_); rintro e w2 ⟨rfl, hb⟩; have HB := Lib.hid hb; clear hb) | (go_at_call 102; (refine (sumOf_impl _ C _ (sub zs i C) _ (HP.out.below HB.out) (by omega)).mono ?_); rintro e w' ⟨y, rfl, hv, q2, rfl⟩; have HV := Lib.hid hv; clear hv) | (go_at_call 61; (refine (quot_impl _ C _ (sub zs i C) y _ ((HP.out.below HB.out).drewN _) (by omega)).mono ?_); rintro e w3 ⟨zq, rfl, h1, h2, h3, h4, h5⟩; have H1 := Lib.hid h1; have H2 := Lib.hid h2; have H3 := Lib.hid h3; have H4 := Lib.hid h4; have H5 := Lib.hid (Below.next (Below.ofAlloc HB.out) (Below.ofDrewN h5)); have H6 := Lib.hid (Below.ofAlloc HB.out).size; clear h1 h2 h3 h4 h5) | go_in)
  go_ret
  exact ⟨_, zq, rfl, H6.out, H4.out, H1.out, fun k hk => by rw [H2.out k hk]; unfold quoV givV rowsV; rw [HV.out], H3.out, H5.out⟩
theorem gr_out {r c i : Int} {zs : List Nat} {n : Nat} (h : okGR r c zs n i = true) : tabB r c zs n = true ∧ (0 ≤ i ∧ i < r) ∧ rowV (givV zs i.toNat c.toNat) c.toNat = true := by
  unfold okGR at h
  rw [Bool.and_eq_true, Bool.and_eq_true] at h
  exact ⟨h.1, of_decide_eq_true h.2.1, h.2.2⟩
theorem okGR_n {r c i : Int} {zs : List Nat} {n : Nat} (h : okGR r c zs n i = true) : c.toNat ≤ 1048576 := by
  have := (tab_out (gr_out h).1).2.1
  omega
theorem idx_nat {i : Int} {R : Nat} (h : 0 ≤ i ∧ i < (R : Int)) : ∃ I : Nat, i = (I : Int) ∧ I < R := ⟨i.toNat, by omega, by omega⟩
theorem row_fits {n R C I : Nat} (hn : n = R * C) (hI : I < R) : I * C + C ≤ n := by rw [hn, ← Nat.succ_mul]; exact Nat.mul_le_mul_right _ hI
set_option maxRecDepth 100000 in
set_option maxHeartbeats 4000000 in
theorem gvS (r c : Int) (a : Option Addr) (n : Nat) (zs : List Nat) (i : Int) (w : World) (ha : FRow w a n zs) (hn : n ≤ 1048576) (hok : okGR r c zs n i = true) :
    Calls Try.prog 38 #[.agg #[.int .i64 r, .int .i64 c, .slice a n n], .int .i64 i] w fun e w' => ∃ g cp, e = .returned (.tuple #[.slice (some ⟨g, 0, none⟩) c.toNat cp, .bool true]) ∧ New w w' g (.cl c.toNat (givV zs i.toNat c.toNat)) := by
  obtain ⟨ht, hi, hrow⟩ := gr_out hok
  obtain ⟨R, C, rfl, rfl, hnn, hR, hC⟩ := tab_nat ht
  obtain ⟨I, rfl, hI⟩ := idx_nat hi
  have hn0 : 0 < n := by rw [hnn]; exact Nat.mul_pos hR.1 hC.1
  have hle := row_fits hnn hI
  have hch := (tab_out ht).2.2.2.1
  have hn64 := (tab_out ht).2.2.2.2
  obtain ⟨y, hy1, hy2, hy3, hy4⟩ := part_num hch hle hC.2
  have hab := above_row hy1 hy2 hy3 hy4 (show 0 < C by omega) hrow
  obtain ⟨b, off, rfl⟩ := ha.some hn0
  have HA := Lib.hid (ha.alloc (.cells #[.int .i64 (R : Int), .int .i64 (C : Int), .slice (some ⟨b, off, none⟩) n n] 44))
  have HT := Lib.hid (Tab.new w R C (some ⟨b, off, none⟩) n n 44)
  have HR := Lib.hid hR
  have HC := Lib.hid hC
  have HROW := Lib.hid hrow
  have HY := Lib.hid hy1
  have HI : Hid ((0 : Int) ≤ (I : Int) ∧ (I : Int) ≤ (R : Int) - 1) := Lib.hid (by omega)
  obtain ⟨_, hc0, hc1, hc2⟩ := HT.out
  have hw : IntKind.i64.wrap ((R : Int) - 1) = (R : Int) - 1 := IntWalk.i64_in _ (by omega)
  clear ha hnn hrow hR hC hy1 hy2 hy3 hy4 hi hch hok
  go_enter Try.func38, Try.ntmps38
  go_wp2_with (first | (go_at_call 71; refine (tab_spec _ R C _ n n zs _ HA.out hn HT.out.2.1 HT.out.2.2.1 HT.out.2.2.2).mono ?_; rintro e w' ⟨rfl, q, rfl⟩) | (go_at_call 60; refine (in_true (I : Int) 0 ((R : Int) - 1) _ HI.out.1 HI.out.2).mono ?_; rintro e w' ⟨rfl, rfl⟩) | (go_at_call 78; refine (at_spec _ b off n C I (I * C) (I * C + C) _ (HT.out.drewN _).2.2.1 (HT.out.drewN _).2.2.2 rfl rfl hle HC.out.1 hn64).mono ?_; rintro e w' ⟨rfl, q1, rfl⟩) | (go_at_call 77; refine (sumOf_spec _ C _ (sub zs I C) _ ((HA.out.part hle HC.out.1).drewN _) (by have := HC.out; omega)).mono ?_; rintro e w' ⟨y2, rfl, hv, q2, rfl⟩; obtain ⟨rfl, _⟩ := cls_some (hv.trans HY.out); clear hv) | (go_at_call 66; refine (above_spec _ _).mono ?_; rintro e w' ⟨rfl, q3, rfl⟩) | (go_at_call 79; refine (given_spec _ b off R C n I zs _ (HT.out.drewN _) (HA.out.drewN _) hle HC.out.1 hn64).mono ?_; rintro e w2 ⟨v, rfl, hg, hb⟩; obtain ⟨g, cap, zr, rfl, hg1, hg2, hg3, hg4, hg5⟩ := hg.fin (by have := HC.out; omega); have HG1 := Lib.hid hg1; have HG2 := Lib.hid hg2; have HG3 := Lib.hid hg3; have HG4 := Lib.hid hg4; have HG5 := Lib.hid hg5; have HB := Lib.hid (Below.ofAlloc (Below.ofDrewN hb)); clear hg hg1 hg2 hg3 hg4 hg5 hb) | (go_at_call 54; refine (giveS_yes _ C _ zr _ HG3.out (by have := HC.out; omega) (by rw [rowB_V HG4.out]; exact HROW.out)).mono ?_; rintro e w' ⟨rfl, q6, rfl⟩) | go_in)
  go_ret2
  exact ⟨_, _, rfl, Nat.le_trans (by simp [World.drewN]) HG1.out, HG2.out, HG5.out, Below.drewN' HB.out _⟩
set_option maxRecDepth 100000 in
set_option maxHeartbeats 4000000 in
theorem gvS' (r c : Int) (a : Option Addr) (n : Nat) (zs : List Nat) (i : Int) (w : World) (ha : FRow w a n zs) (hn : n ≤ 1048576) (hok : okGR r c zs n i = false) :
    Calls Try.prog 38 #[.agg #[.int .i64 r, .int .i64 c, .slice a n n], .int .i64 i] w fun e w' => e = .returned (.tuple #[.slice none 0 0, .bool false]) ∧ Below w.heap.size w w' := by
  cases ht : tabB r c zs n with
  | false =>
    have HA := Lib.hid (ha.alloc (.cells #[.int .i64 r, .int .i64 c, .slice a n n] 44))
    have HT := Lib.hid (Tab.new w r c a n n 44)
    clear ha hok
    go_enter Try.func38, Try.ntmps38
    go_wp2_with (first | (go_at_call 71; refine (tab_spec _ r c _ n n zs _ HA.out hn HT.out.2.1 HT.out.2.2.1 HT.out.2.2.2).mono ?_; rintro e w' ⟨rfl, q, rfl⟩) | go_in)
    go_ret2
    exact ⟨rfl, Below.drewN' (below_alloc _ _) _⟩
  | true =>
    obtain ⟨R, C, rfl, rfl, hnn, hR, hC⟩ := tab_nat ht
    have hn0 : 0 < n := by rw [hnn]; exact Nat.mul_pos hR.1 hC.1
    have hch := (tab_out ht).2.2.2.1
    have hn64 := (tab_out ht).2.2.2.2
    obtain ⟨b, off, rfl⟩ := ha.some hn0
    have HA := Lib.hid (ha.alloc (.cells #[.int .i64 (R : Int), .int .i64 (C : Int), .slice (some ⟨b, off, none⟩) n n] 44))
    have HT := Lib.hid (Tab.new w R C (some ⟨b, off, none⟩) n n 44)
    have HR := Lib.hid hR
    have HC := Lib.hid hC
    have hw : IntKind.i64.wrap ((R : Int) - 1) = (R : Int) - 1 := IntWalk.i64_in _ (by omega)
    obtain ⟨_, hc0, hc1, hc2⟩ := HT.out
    by_cases hi : 0 ≤ i ∧ i < (R : Int)
    · obtain ⟨I, rfl, hI⟩ := idx_nat hi
      have hrow : rowV (givV zs I C) C = false := by unfold okGR at hok; rw [ht, Bool.true_and, decide_eq_true hi, Bool.true_and] at hok; exact hok
      have hle := row_fits hnn hI
      have HI : Hid ((0 : Int) ≤ (I : Int) ∧ (I : Int) ≤ (R : Int) - 1) := Lib.hid (by omega)
      obtain ⟨y, hy1, hy2, hy3, hy4⟩ := part_num hch hle hC.2
      have HROW := Lib.hid hrow
      have HY := Lib.hid hy1
      clear ha hnn hrow hR hC hok hy1 hy2 hy3 hy4 hi hch
      cases hab : aboveB y with
      | false =>
        go_enter Try.func38, Try.ntmps38
        go_wp2_with (first | (go_at_call 71; refine (tab_spec _ R C _ n n zs _ HA.out hn HT.out.2.1 HT.out.2.2.1 HT.out.2.2.2).mono ?_; rintro e w' ⟨rfl, q, rfl⟩) | (go_at_call 60; refine (in_true (I : Int) 0 ((R : Int) - 1) _ HI.out.1 HI.out.2).mono ?_; rintro e w' ⟨rfl, rfl⟩) | (go_at_call 78; refine (at_spec _ b off n C I (I * C) (I * C + C) _ (HT.out.drewN _).2.2.1 (HT.out.drewN _).2.2.2 rfl rfl hle HC.out.1 hn64).mono ?_; rintro e w' ⟨rfl, q1, rfl⟩) | (go_at_call 77; refine (sumOf_spec _ C _ (sub zs I C) _ ((HA.out.part hle HC.out.1).drewN _) (by have := HC.out; omega)).mono ?_; rintro e w' ⟨y2, rfl, hv, q2, rfl⟩; obtain ⟨rfl, _⟩ := cls_some (hv.trans HY.out); clear hv) | (go_at_call 66; refine (above_spec _ _).mono ?_; rintro e w' ⟨rfl, q3, rfl⟩) | go_in)
        go_ret2
        exact ⟨rfl, Below.drewN' (below_alloc _ _) _⟩
      | true =>
        go_enter Try.func38, Try.ntmps38
        go_wp2_with (first | (go_at_call 71; refine (tab_spec _ R C _ n n zs _ HA.out hn HT.out.2.1 HT.out.2.2.1 HT.out.2.2.2).mono ?_; rintro e w' ⟨rfl, q, rfl⟩) | (go_at_call 60; refine (in_true (I : Int) 0 ((R : Int) - 1) _ HI.out.1 HI.out.2).mono ?_; rintro e w' ⟨rfl, rfl⟩) | (go_at_call 78; refine (at_spec _ b off n C I (I * C) (I * C + C) _ (HT.out.drewN _).2.2.1 (HT.out.drewN _).2.2.2 rfl rfl hle HC.out.1 hn64).mono ?_; rintro e w' ⟨rfl, q1, rfl⟩) | (go_at_call 77; refine (sumOf_spec _ C _ (sub zs I C) _ ((HA.out.part hle HC.out.1).drewN _) (by have := HC.out; omega)).mono ?_; rintro e w' ⟨y2, rfl, hv, q2, rfl⟩; obtain ⟨rfl, _⟩ := cls_some (hv.trans HY.out); clear hv) | (go_at_call 66; refine (above_spec _ _).mono ?_; rintro e w' ⟨rfl, q3, rfl⟩) | (go_at_call 79; refine (given_spec _ b off R C n I zs _ (HT.out.drewN _) (HA.out.drewN _) hle HC.out.1 hn64).mono ?_; rintro e w2 ⟨v, rfl, hg, hb⟩; obtain ⟨g, cap, zr, rfl, hg1, hg2, hg3, hg4, hg5⟩ := hg.fin (by have := HC.out; omega); have HG3 := Lib.hid hg3; have HG4 := Lib.hid hg4; have HB := Lib.hid (Below.ofAlloc (Below.ofDrewN hb)); clear hg hg1 hg2 hg3 hg4 hg5 hb) | (go_at_call 54; refine (giveS_no _ C _ zr _ HG3.out (by have := HC.out; omega) (by rw [rowB_V HG4.out]; exact HROW.out)).mono ?_; rintro e w' ⟨rfl, q6, rfl⟩) | go_in)
        go_ret2
        exact ⟨rfl, Below.drewN' HB.out _⟩
    · have HI : Hid (¬ ((0 : Int) ≤ i ∧ i ≤ (R : Int) - 1)) := Lib.hid (fun h => hi ⟨h.1, by omega⟩)
      clear ha hnn hR hC hok hi hch
      go_enter Try.func38, Try.ntmps38
      go_wp2_with (first | (go_at_call 71; refine (tab_spec _ R C _ n n zs _ HA.out hn HT.out.2.1 HT.out.2.2.1 HT.out.2.2.2).mono ?_; rintro e w' ⟨rfl, q, rfl⟩) | (go_at_call 60; refine (in_false i 0 ((R : Int) - 1) _ HI.out).mono ?_; rintro e w' ⟨rfl, rfl⟩) | go_in)
      go_ret2
      exact ⟨rfl, Below.drewN' (below_alloc _ _) _⟩
set_option maxRecDepth 100000 in
set_option maxHeartbeats 4000000 in
theorem gvI (r c : Int) (a : Option Addr) (n : Nat) (zs : List Nat) (i : Int) (w : World) (ha : FRow w a n zs) (hn : n ≤ 1048576) (hok : okGR r c zs n i = true) :
    Calls Try.prog 39 #[.agg #[.int .i64 r, .int .i64 c, .slice a n n], .int .i64 i] w fun e w' => ∃ g cp, e = .returned (.tuple #[.slice (some ⟨g, 0, none⟩) c.toNat cp, .bool true]) ∧ New w w' g (.cl c.toNat (givV zs i.toNat c.toNat)) := by
  obtain ⟨ht, hi, hrow⟩ := gr_out hok
  obtain ⟨R, C, rfl, rfl, hnn, hR, hC⟩ := tab_nat ht
  obtain ⟨I, rfl, hI⟩ := idx_nat hi
  have hn0 : 0 < n := by rw [hnn]; exact Nat.mul_pos hR.1 hC.1
  have hle := row_fits hnn hI
  have hn64 := (tab_out ht).2.2.2.2
  obtain ⟨b, off, rfl⟩ := ha.some hn0
  have HA := Lib.hid (ha.alloc (.cells #[.int .i64 (R : Int), .int .i64 (C : Int), .slice (some ⟨b, off, none⟩) n n] 44))
  have HT := Lib.hid (Tab.new w R C (some ⟨b, off, none⟩) n n 44)
  have HC := Lib.hid hC
  have HROW := Lib.hid hrow
  have hd1 : decide ((R : Int) ≤ (I : Int)) = false := by simp; omega
  clear ha hnn hrow hR hC hi hok
  go_enter Try.func39, Try.ntmps39
  go_wp2_with (first | (go_at_call 73; refine (valid_impl R C _ n n zs _ HA.out hn).mono ?_; rintro e w2 ⟨rfl, hb⟩; have HB := Lib.hid hb; obtain ⟨_, hc0, hc1, hc2⟩ := HT.out.below hb; clear hb) | (go_at_call 80; refine (given_impl R b off C n I zs _ (HA.out.below HB.out) hle HC.out.1 hn64).mono ?_; rintro e w3 ⟨g, zr, rfl, hg1, hg2, hg3, hg4, hg5, hb⟩; have HG1 := Lib.hid hg1; have HG2 := Lib.hid hg2; have HG3 := Lib.hid hg3; have HG4 := Lib.hid hg4; have HG5 := Lib.hid hg5; have HB2 := Lib.hid (Below.next (Below.ofAlloc HB.out) hb); have HLE := Lib.hid (Below.ofAlloc HB.out).size; clear hg1 hg2 hg3 hg4 hg5 hb) | (go_at_call 57; refine (giveI_yes _ C _ zr _ HG3.out (by have := HC.out; omega) (by rw [rowB_V HG4.out]; exact HROW.out)).mono ?_; rintro e w' ⟨rfl, q6, rfl⟩) | go_in)
  go_ret2
  exact ⟨_, _, rfl, Nat.le_trans HLE.out HG1.out, HG2.out, ⟨zr, HG4.out, Ent.fl_ok (HG3.out.drewN _) HG5.out⟩, Below.drewN' HB2.out _⟩
set_option maxRecDepth 100000 in
set_option maxHeartbeats 4000000 in
theorem gvI' (r c : Int) (a : Option Addr) (n : Nat) (zs : List Nat) (i : Int) (w : World) (ha : FRow w a n zs) (hn : n ≤ 1048576) (hok : okGR r c zs n i = false) :
    Calls Try.prog 39 #[.agg #[.int .i64 r, .int .i64 c, .slice a n n], .int .i64 i] w fun e w' => e = .returned (.tuple #[.slice none 0 0, .bool false]) ∧ Below w.heap.size w w' := by
  cases ht : tabB r c zs n with
  | false =>
    have HA := Lib.hid (ha.alloc (.cells #[.int .i64 r, .int .i64 c, .slice a n n] 44))
    clear ha hok
    go_enter Try.func39, Try.ntmps39
    go_wp2_with (first | (go_at_call 73; refine (valid_impl r c _ n n zs _ HA.out hn).mono ?_; rintro e w2 ⟨rfl, hb⟩; have HB := Lib.hid hb; clear hb) | go_in)
    go_ret2
    exact ⟨rfl, Below.ofAlloc HB.out⟩
  | true =>
    obtain ⟨R, C, rfl, rfl, hnn, hR, hC⟩ := tab_nat ht
    have hn0 : 0 < n := by rw [hnn]; exact Nat.mul_pos hR.1 hC.1
    have hn64 := (tab_out ht).2.2.2.2
    obtain ⟨b, off, rfl⟩ := ha.some hn0
    have HA := Lib.hid (ha.alloc (.cells #[.int .i64 (R : Int), .int .i64 (C : Int), .slice (some ⟨b, off, none⟩) n n] 44))
    have HT := Lib.hid (Tab.new w R C (some ⟨b, off, none⟩) n n 44)
    have HC := Lib.hid hC
    by_cases hi0 : 0 ≤ i
    · have hdi : decide (i < 0) = false := decide_eq_false (by omega)
      by_cases hi1 : i < (R : Int)
      · obtain ⟨I, rfl, hI⟩ := idx_nat ⟨hi0, hi1⟩
        have hrow : rowV (givV zs I C) C = false := by unfold okGR at hok; rw [ht, Bool.true_and, decide_eq_true ⟨hi0, hi1⟩, Bool.true_and] at hok; exact hok
        have hle := row_fits hnn hI
        have HROW := Lib.hid hrow
        have hd1 : decide ((R : Int) ≤ (I : Int)) = false := by simp; omega
        clear ha hnn hrow hR hC hok hi0 hi1 hdi
        go_enter Try.func39, Try.ntmps39
        go_wp2_with (first | (go_at_call 73; refine (valid_impl R C _ n n zs _ HA.out hn).mono ?_; rintro e w2 ⟨rfl, hb⟩; have HB := Lib.hid hb; obtain ⟨_, hc0, hc1, hc2⟩ := HT.out.below hb; clear hb) | (go_at_call 80; refine (given_impl R b off C n I zs _ (HA.out.below HB.out) hle HC.out.1 hn64).mono ?_; rintro e w3 ⟨g, zr, rfl, hg1, hg2, hg3, hg4, hg5, hb⟩; have HG3 := Lib.hid hg3; have HG4 := Lib.hid hg4; have HB2 := Lib.hid (Below.next (Below.ofAlloc HB.out) hb); clear hg1 hg2 hg3 hg4 hg5 hb) | (go_at_call 57; refine (giveI_no _ C _ zr _ HG3.out (by have := HC.out; omega) (by rw [rowB_V HG4.out]; exact HROW.out)).mono ?_; rintro e w' ⟨rfl, q6, rfl⟩) | go_in)
        go_ret2
        exact ⟨rfl, Below.drewN' HB2.out _⟩
      · have hd1 : decide ((R : Int) ≤ i) = true := decide_eq_true (by omega)
        clear ha hnn hR hC hok hi1
        go_enter Try.func39, Try.ntmps39
        go_wp2_with (first | (go_at_call 73; refine (valid_impl R C _ n n zs _ HA.out hn).mono ?_; rintro e w2 ⟨rfl, hb⟩; have HB := Lib.hid hb; obtain ⟨_, hc0, hc1, hc2⟩ := HT.out.below hb; clear hb) | go_in)
        go_ret2
        exact ⟨rfl, Below.ofAlloc HB.out⟩
    · have hdi : decide (i < 0) = true := decide_eq_true (by omega)
      clear ha hnn hR hC hok hi0
      go_enter Try.func39, Try.ntmps39
      go_wp2_with (first | (go_at_call 73; refine (valid_impl R C _ n n zs _ HA.out hn).mono ?_; rintro e w2 ⟨rfl, hb⟩; have HB := Lib.hid hb; clear hb) | go_in)
      go_ret2
      exact ⟨rfl, Below.ofAlloc HB.out⟩
end Go.Proofs.Ytcgdhicgpkoncaa
