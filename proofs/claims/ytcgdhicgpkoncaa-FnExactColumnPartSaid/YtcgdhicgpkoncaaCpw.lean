/- ColumnPart: the functions. -/
import Derived.Test.YtcgdhicgpkoncaaTtw
import Derived.Test.YtcgdhicgpkoncaaRpc
namespace Go.Proofs.Ytcgdhicgpkoncaa
open Go.Proofs.Ytcgdhicgpkoncaa.Flo Go.RowKit

/-- The sums of the columns of a table. -/
def colsV (zs : List Nat) (R C : Nat) (i : Nat) : Option Nat := Flo.vsum (sub (repV (turnV zs R C) (R * C)) i R) R
theorem rows_cls {za zb : List Nat} {n c i : Nat} (h : ∀ j, j < n → cls .f32 (za.getD j 0) = cls .f32 (zb.getD j 0)) (hi : i * c + c ≤ n) : rowsV za c i = rowsV zb c i := by
  unfold rowsV
  exact vsum_cls c (fun j hj => by rw [sub_get za i c hj, sub_get zb i c hj]; exact h _ (by omega))
theorem cols_eq {zr zs : List Nat} {R C n : Nat} (hn : n = R * C) (h : ∀ j, j < n → cls .f32 (zr.getD j 0) = turnV zs R C j) : ∀ i, i < C → rowsV zr R i = colsV zs R C i := by
  intro i hi
  refine rows_cls (n := n) (fun j hj => ?_) ?_
  · rw [h j hj]
    have hj' : j < R * C := by omega
    rw [repV_get _ hj', ← h j hj, cls_repr]
  · rw [hn, Nat.mul_comm R C, ← Nat.succ_mul]; exact Nat.mul_le_mul_right _ hi
theorem Got.cls {w : World} {base : Nat} {T : TypeId} {v : Value} {k : Nat} {V V' : Nat → Option Nat} (h : Got w base T v k V) (e : ∀ i, i < k → V i = V' i) : Got w base T v k V' := by
  obtain ⟨zs, h1, h2⟩ := h
  exact ⟨zs, fun i hi => (h1 i hi).trans (e i hi), h2⟩
def okCP (r c : Int) (zs : List Nat) (n : Nat) : Bool := tabB r c zs n && rowV (colsV zs r.toNat c.toNat) c.toNat
theorem okCP_n {r c : Int} {zs : List Nat} {n : Nat} (h : okCP r c zs n = true) : c.toNat ≤ 1048576 := by
  unfold okCP at h
  rw [Bool.and_eq_true] at h
  have := (tab_out h.1).2.1
  omega
set_option maxRecDepth 100000 in
set_option maxHeartbeats 4000000 in
theorem cols_spec (p b off R C n : Nat) (zs : List Nat) (w : World) (ht : Tab w p R C (some ⟨b, off, none⟩) n n)
    (ha : FRow w (some ⟨b, off, none⟩) n zs) (hn : n = R * C) (hR : 1 ≤ R ∧ R ≤ 8) (hC : 1 ≤ C ∧ C ≤ 8) :
    Calls Try.prog 75 #[.pointer (some ⟨p, 0, none⟩)] w fun e w' => ∃ v, e = .returned v ∧ Got w' w.heap.size 23 v C (colsV zs R C) ∧ Below w.heap.size w w' := by
  have HA := Lib.hid ha
  have HT := Lib.hid ht
  have HN := Lib.hid hn
  have HR := Lib.hid hR
  have HC := Lib.hid hC
  have hn0 : n ≠ 0 := by rw [hn]; exact Nat.pos_iff_ne_zero.1 (Nat.mul_pos hR.1 hC.1)
  have HN2 : Hid (n = C * R) := Lib.hid (by rw [hn, Nat.mul_comm])
  clear ha ht hn hR hC
  go_enter Try.func75, Try.ntmps75
  go_wp2_with (first | (go_at_call 85; refine (turn_spec p b off R C n zs _ HT.out HA.out HN.out HR.out HC.out).mono ?_; rintro e w2 ⟨g, cp, rfl, hcp, hg, hb⟩; obtain ⟨zr, hg1, hg2, hg3, hg4, _⟩ := hg.fin' hn0; have HG3 := Lib.hid hg3; have HG4 := Lib.hid hg4; have HB := Lib.hid hb; have HCP := Lib.hid hcp; clear hg hg1 hg2 hg3 hg4 hb hcp) | (go_at_call 72; refine (rows_spec2 _ g 0 C R n cp zr _ (Tab.tin.tab) (HG3.out.alloc _) HN2.out HC.out HR.out HCP.out).mono ?_; rintro e w3 ⟨v, rfl, hg, hb⟩; have HO := Lib.hid hg; have HB2 := Lib.hid (Below.next HB.out (Below.ofAlloc hb)); have HLE := Lib.hid (HB.out.size); clear hg hb) | go_in)
  go_ret
  exact ⟨_, rfl, (HO.out.cls (cols_eq HN.out HG4.out)).mono (by have := HLE.out; simp; omega), HB2.out⟩
set_option maxRecDepth 100000 in
set_option maxHeartbeats 4000000 in
theorem cpS (r c : Int) (a : Option Addr) (n : Nat) (zs : List Nat) (w : World) (ha : FRow w a n zs) (hn : n ≤ 1048576) (hok : okCP r c zs n = true) :
    Calls Try.prog 36 #[.agg #[.int .i64 r, .int .i64 c, .slice a n n]] w fun e w' => ∃ g cp, e = .returned (.tuple #[.slice (some ⟨g, 0, none⟩) c.toNat cp, .bool true]) ∧ New w w' g (.cl c.toNat (colsV zs r.toNat c.toNat)) := by
  unfold okCP at hok
  rw [Bool.and_eq_true] at hok
  obtain ⟨ht, hrow⟩ := hok
  obtain ⟨R, C, rfl, rfl, hnn, hR, hC⟩ := tab_nat ht
  have hn0 : 0 < n := by rw [hnn]; exact Nat.mul_pos hR.1 hC.1
  obtain ⟨b, off, rfl⟩ := ha.some hn0
  have HA := Lib.hid (ha.alloc (.cells #[.int .i64 (R : Int), .int .i64 (C : Int), .slice (some ⟨b, off, none⟩) n n] 44))
  have HT := Lib.hid (Tab.new w R C (some ⟨b, off, none⟩) n n 44)
  have HN := Lib.hid hnn
  have HR := Lib.hid hR
  have HC := Lib.hid hC
  have HROW := Lib.hid hrow
  clear ha hnn hrow hR hC
  go_enter Try.func36, Try.ntmps36
  go_wp2_with (first | (go_at_call 71; refine (tab_spec _ R C _ n n zs _ HA.out hn HT.out.2.1 HT.out.2.2.1 HT.out.2.2.2).mono ?_; rintro e w' ⟨rfl, q, rfl⟩) | (go_at_call 75; refine (cols_spec _ b off R C n zs _ (HT.out.drewN _) (HA.out.drewN _) HN.out HR.out HC.out).mono ?_; rintro e w2 ⟨v, rfl, hg, hb⟩; obtain ⟨g, cap, zr, rfl, hg1, hg2, hg3, hg4, hg5⟩ := hg.fin (by have := HC.out; omega); have HG1 := Lib.hid hg1; have HG2 := Lib.hid hg2; have HG3 := Lib.hid hg3; have HG4 := Lib.hid hg4; have HG5 := Lib.hid hg5; have HB := Lib.hid (Below.ofAlloc (Below.ofDrewN hb)); clear hg hg1 hg2 hg3 hg4 hg5 hb) | (go_at_call 54; refine (giveS_yes _ C _ zr _ HG3.out (by have := HC.out; omega) (by rw [rowB_V HG4.out]; exact HROW.out)).mono ?_; rintro e w' ⟨rfl, q6, rfl⟩) | go_in)
  go_ret2
  exact ⟨_, _, rfl, Nat.le_trans (by simp [World.drewN]) HG1.out, HG2.out, HG5.out, Below.drewN' HB.out _⟩
set_option maxRecDepth 100000 in
set_option maxHeartbeats 4000000 in
theorem cpS' (r c : Int) (a : Option Addr) (n : Nat) (zs : List Nat) (w : World) (ha : FRow w a n zs) (hn : n ≤ 1048576) (hok : okCP r c zs n = false) :
    Calls Try.prog 36 #[.agg #[.int .i64 r, .int .i64 c, .slice a n n]] w fun e w' => e = .returned (.tuple #[.slice none 0 0, .bool false]) ∧ Below w.heap.size w w' := by
  cases ht : tabB r c zs n with
  | false =>
    have HA := Lib.hid (ha.alloc (.cells #[.int .i64 r, .int .i64 c, .slice a n n] 44))
    have HT := Lib.hid (Tab.new w r c a n n 44)
    clear ha hok
    go_enter Try.func36, Try.ntmps36
    go_wp2_with (first | (go_at_call 71; refine (tab_spec _ r c _ n n zs _ HA.out hn HT.out.2.1 HT.out.2.2.1 HT.out.2.2.2).mono ?_; rintro e w' ⟨rfl, q, rfl⟩) | go_in)
    go_ret2
    exact ⟨rfl, Below.drewN' (below_alloc _ _) _⟩
  | true =>
    have hrow : rowV (colsV zs r.toNat c.toNat) c.toNat = false := by unfold okCP at hok; rw [ht, Bool.true_and] at hok; exact hok
    obtain ⟨R, C, rfl, rfl, hnn, hR, hC⟩ := tab_nat ht
    have hn0 : 0 < n := by rw [hnn]; exact Nat.mul_pos hR.1 hC.1
    obtain ⟨b, off, rfl⟩ := ha.some hn0
    have HA := Lib.hid (ha.alloc (.cells #[.int .i64 (R : Int), .int .i64 (C : Int), .slice (some ⟨b, off, none⟩) n n] 44))
    have HT := Lib.hid (Tab.new w R C (some ⟨b, off, none⟩) n n 44)
    have HN := Lib.hid hnn
    have HR := Lib.hid hR
    have HC := Lib.hid hC
    have HROW := Lib.hid hrow
    clear ha hnn hrow hR hC hok
    go_enter Try.func36, Try.ntmps36
    go_wp2_with (first | (go_at_call 71; refine (tab_spec _ R C _ n n zs _ HA.out hn HT.out.2.1 HT.out.2.2.1 HT.out.2.2.2).mono ?_; rintro e w' ⟨rfl, q, rfl⟩) | (go_at_call 75; refine (cols_spec _ b off R C n zs _ (HT.out.drewN _) (HA.out.drewN _) HN.out HR.out HC.out).mono ?_; rintro e w2 ⟨v, rfl, hg, hb⟩; obtain ⟨g, cap, zr, rfl, hg1, hg2, hg3, hg4, hg5⟩ := hg.fin (by have := HC.out; omega); have HG3 := Lib.hid hg3; have HG4 := Lib.hid hg4; have HB := Lib.hid (Below.ofAlloc (Below.ofDrewN hb)); clear hg hg1 hg2 hg3 hg4 hg5 hb) | (go_at_call 54; refine (giveS_no _ C _ zr _ HG3.out (by have := HC.out; omega) (by rw [rowB_V HG4.out]; exact HROW.out)).mono ?_; rintro e w' ⟨rfl, q6, rfl⟩) | go_in)
    go_ret2
    exact ⟨rfl, Below.drewN' HB.out _⟩
set_option maxRecDepth 100000 in
set_option maxHeartbeats 4000000 in
theorem cpI (r c : Int) (a : Option Addr) (n : Nat) (zs : List Nat) (w : World) (ha : FRow w a n zs) (hn : n ≤ 1048576) (hok : okCP r c zs n = true) :
    Calls Try.prog 37 #[.agg #[.int .i64 r, .int .i64 c, .slice a n n]] w fun e w' => ∃ g cp, e = .returned (.tuple #[.slice (some ⟨g, 0, none⟩) c.toNat cp, .bool true]) ∧ New w w' g (.cl c.toNat (colsV zs r.toNat c.toNat)) := by
  unfold okCP at hok
  rw [Bool.and_eq_true] at hok
  obtain ⟨ht, hrow⟩ := hok
  obtain ⟨R, C, rfl, rfl, hnn, hR, hC⟩ := tab_nat ht
  have hn0 : 0 < n := by rw [hnn]; exact Nat.mul_pos hR.1 hC.1
  obtain ⟨b, off, rfl⟩ := ha.some hn0
  have HA := Lib.hid (ha.alloc (.cells #[.int .i64 (R : Int), .int .i64 (C : Int), .slice (some ⟨b, off, none⟩) n n] 44))
  have HT := Lib.hid (Tab.new w R C (some ⟨b, off, none⟩) n n 44)
  have HN := Lib.hid hnn
  have HR := Lib.hid hR
  have HC := Lib.hid hC
  have HROW := Lib.hid hrow
  clear ha hnn hrow hR hC
  go_enter Try.func37, Try.ntmps37
  go_wp2_with (first | (go_at_call 73; refine (valid_impl R C _ n n zs _ HA.out hn).mono ?_; rintro e w2 ⟨rfl, hb⟩; have HB := Lib.hid hb; obtain ⟨_, hc0, hc1, hc2⟩ := HT.out.below hb; clear hb) | (go_at_call 76; refine (turn_impl b off R C n zs _ (HA.out.below HB.out) HN.out HR.out HC.out).mono ?_; rintro e w4 ⟨g0, cp0, rfl, hcp, hg, hb⟩; obtain ⟨zt, hg1, hg2, hg3, hg4, _⟩ := hg.fin' (by omega); have HT3 := Lib.hid hg3; have HT4 := Lib.hid hg4; have HBT := Lib.hid (Below.next (Below.ofAlloc HB.out) hb); have HCP := Lib.hid hcp; clear hg hg1 hg2 hg3 hg4 hb hcp) | (go_at_call 74; refine (rows_impl2 g0 0 C R n cp0 zt _ HT3.out (by rw [HN.out, Nat.mul_comm]) HC.out HR.out HCP.out).mono ?_; rintro e w3 ⟨v, rfl, hg, hb⟩; have hg := hg.cls (cols_eq HN.out HT4.out); obtain ⟨g, cap, zr, rfl, hg1, hg2, hg3, hg4, hg5⟩ := hg.fin (by have := HC.out; omega); have HG1 := Lib.hid hg1; have HG2 := Lib.hid hg2; have HG3 := Lib.hid hg3; have HG4 := Lib.hid hg4; have HG5 := Lib.hid hg5; have HB2 := Lib.hid (Below.next HBT.out hb); have HLE := Lib.hid HBT.out.size; clear hg hg1 hg2 hg3 hg4 hg5 hb) | (go_at_call 57; refine (giveI_yes _ C _ zr _ HG3.out (by have := HC.out; omega) (by rw [rowB_V HG4.out]; exact HROW.out)).mono ?_; rintro e w' ⟨rfl, q6, rfl⟩) | go_in)
  go_ret2
  exact ⟨_, _, rfl, Nat.le_trans HLE.out HG1.out, HG2.out, HG5.out, Below.drewN' HB2.out _⟩
set_option maxRecDepth 100000 in
set_option maxHeartbeats 4000000 in
theorem cpI' (r c : Int) (a : Option Addr) (n : Nat) (zs : List Nat) (w : World) (ha : FRow w a n zs) (hn : n ≤ 1048576) (hok : okCP r c zs n = false) :
    Calls Try.prog 37 #[.agg #[.int .i64 r, .int .i64 c, .slice a n n]] w fun e w' => e = .returned (.tuple #[.slice none 0 0, .bool false]) ∧ Below w.heap.size w w' := by
  cases ht : tabB r c zs n with
  | false =>
    have HA := Lib.hid (ha.alloc (.cells #[.int .i64 r, .int .i64 c, .slice a n n] 44))
    clear ha hok
    go_enter Try.func37, Try.ntmps37
    go_wp2_with (first | (go_at_call 73; refine (valid_impl r c _ n n zs _ HA.out hn).mono ?_; rintro e w2 ⟨rfl, hb⟩; have HB := Lib.hid hb; clear hb) | go_in)
    go_ret2
    exact ⟨rfl, Below.ofAlloc HB.out⟩
  | true =>
    have hrow : rowV (colsV zs r.toNat c.toNat) c.toNat = false := by unfold okCP at hok; rw [ht, Bool.true_and] at hok; exact hok
    obtain ⟨R, C, rfl, rfl, hnn, hR, hC⟩ := tab_nat ht
    have hn0 : 0 < n := by rw [hnn]; exact Nat.mul_pos hR.1 hC.1
    obtain ⟨b, off, rfl⟩ := ha.some hn0
    have HA := Lib.hid (ha.alloc (.cells #[.int .i64 (R : Int), .int .i64 (C : Int), .slice (some ⟨b, off, none⟩) n n] 44))
    have HT := Lib.hid (Tab.new w R C (some ⟨b, off, none⟩) n n 44)
    have HN := Lib.hid hnn
    have HR := Lib.hid hR
    have HC := Lib.hid hC
    have HROW := Lib.hid hrow
    clear ha hnn hrow hR hC hok
    go_enter Try.func37, Try.ntmps37
    go_wp2_with (first | (go_at_call 73; refine (valid_impl R C _ n n zs _ HA.out hn).mono ?_; rintro e w2 ⟨rfl, hb⟩; have HB := Lib.hid hb; obtain ⟨_, hc0, hc1, hc2⟩ := HT.out.below hb; clear hb) | (go_at_call 76; refine (turn_impl b off R C n zs _ (HA.out.below HB.out) HN.out HR.out HC.out).mono ?_; rintro e w4 ⟨g0, cp0, rfl, hcp, hg, hb⟩; obtain ⟨zt, hg1, hg2, hg3, hg4, _⟩ := hg.fin' (by omega); have HT3 := Lib.hid hg3; have HT4 := Lib.hid hg4; have HBT := Lib.hid (Below.next (Below.ofAlloc HB.out) hb); have HCP := Lib.hid hcp; clear hg hg1 hg2 hg3 hg4 hb hcp) | (go_at_call 74; refine (rows_impl2 g0 0 C R n cp0 zt _ HT3.out (by rw [HN.out, Nat.mul_comm]) HC.out HR.out HCP.out).mono ?_; rintro e w3 ⟨v, rfl, hg, hb⟩; have hg := hg.cls (cols_eq HN.out HT4.out); obtain ⟨g, cap, zr, rfl, hg1, hg2, hg3, hg4, hg5⟩ := hg.fin (by have := HC.out; omega); have HG3 := Lib.hid hg3; have HG4 := Lib.hid hg4; have HB2 := Lib.hid (Below.next HBT.out hb); clear hg hg1 hg2 hg3 hg4 hg5 hb) | (go_at_call 57; refine (giveI_no _ C _ zr _ HG3.out (by have := HC.out; omega) (by rw [rowB_V HG4.out]; exact HROW.out)).mono ?_; rintro e w' ⟨rfl, q6, rfl⟩) | go_in)
    go_ret2
    exact ⟨rfl, Below.drewN' HB2.out _⟩
end Go.Proofs.Ytcgdhicgpkoncaa
