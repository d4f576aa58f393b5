/- RowPart: walks. -/
import Derived.Test.YtcgdhicgpkoncaaRpa
namespace Go.Proofs.Ytcgdhicgpkoncaa
open Go.Proofs.Ytcgdhicgpkoncaa.Flo Go.RowKit

/-- Whether a table has a row part. -/
def okRP (r c : Int) (zs : List Nat) (n : Nat) : Bool := tabB r c zs n && rowV (rowsV zs c.toNat) r.toNat
theorem tab_nat {r c : Int} {zs : List Nat} {n : Nat} (h : tabB r c zs n = true) : ∃ R C : Nat, r = (R : Int) ∧ c = (C : Int) ∧ n = R * C ∧ (1 ≤ R ∧ R ≤ 8) ∧ (1 ≤ C ∧ C ≤ 8) := by
  obtain ⟨h1, h2, h3, _, _⟩ := tab_out h
  refine ⟨r.toNat, c.toNat, by omega, by omega, ?_, by omega, by omega⟩
  have e1 : r = (r.toNat : Int) := by omega
  have e2 : c = (c.toNat : Int) := by omega
  rw [e1, e2, ← Int.natCast_mul] at h3
  exact Int.ofNat.inj h3
theorem FRow.some {w : World} {a : Option Addr} {n : Nat} {zs : List Nat} (h : FRow w a n zs) (hn : 0 < n) : ∃ b off, a = Option.some ⟨b, off, none⟩ := by
  rcases h.2 with h0 | ⟨b, off, e, _⟩
  · omega
  · exact ⟨b, off, e⟩
set_option maxRecDepth 100000 in
set_option maxHeartbeats 4000000 in
theorem rpS (r c : Int) (a : Option Addr) (n : Nat) (zs : List Nat) (w : World) (ha : FRow w a n zs) (hn : n ≤ 1048576) (hok : okRP r c zs n = true) :
    Calls Try.prog 31 #[.agg #[.int .i64 r, .int .i64 c, .slice a n n]] w fun e w' => ∃ g cp, e = .returned (.tuple #[.slice (some ⟨g, 0, none⟩) r.toNat cp, .bool true]) ∧ New w w' g (.cl r.toNat (rowsV zs c.toNat)) := by
  unfold okRP at hok
  rw [Bool.and_eq_true] at hok
  obtain ⟨ht, hrow⟩ := hok
  obtain ⟨R, C, rfl, rfl, hnn, hR, hC⟩ := tab_nat ht
  have hn0 : 0 < n := by rw [hnn]; exact Nat.mul_pos hR.1 hC.1
  obtain ⟨b, off, rfl⟩ := ha.some hn0
  have HA := Lib.hid (ha.alloc (.cells #[.int .i64 (R : Int), .int .i64 (C : Int), .slice (some ⟨b, off, none⟩) n n] 44))
  have HT := Lib.hid (Tab.new w R C (some ⟨b, off, none⟩) n n 44)
  have HN := Lib.hid hnn
  have HR := Lib.hid hR
  have HC := Lib.hid hC
  have HROW := Lib.hid hrow
  clear ha hnn hrow hR hC
  go_enter Try.func31, Try.ntmps31
  go_wp2_with (first | (go_at_call 71; refine (tab_spec _ R C _ n n zs _ HA.out hn HT.out.2.1 HT.out.2.2.1 HT.out.2.2.2).mono ?_; rintro e w' ⟨rfl, q, rfl⟩) | (go_at_call 72; refine (rows_spec _ b off R C n zs _ (HT.out.drewN _) (HA.out.drewN _) HN.out HR.out HC.out).mono ?_; rintro e w2 ⟨v, rfl, hg, hb⟩; obtain ⟨g, cap, zr, rfl, hg1, hg2, hg3, hg4, hg5⟩ := hg.fin (by have := HR.out; omega); have HG1 := Lib.hid hg1; have HG2 := Lib.hid hg2; have HG3 := Lib.hid hg3; have HG4 := Lib.hid hg4; have HG5 := Lib.hid hg5; have HB := Lib.hid (Below.ofAlloc (Below.ofDrewN hb)); clear hg hg1 hg2 hg3 hg4 hg5 hb) | (go_at_call 54; refine (giveS_yes _ R _ zr _ HG3.out (by have := HR.out; omega) (by rw [rowB_V HG4.out]; exact HROW.out)).mono ?_; rintro e w' ⟨rfl, q6, rfl⟩) | go_in)
  go_ret2
  exact ⟨_, _, rfl, Nat.le_trans (by simp [World.drewN]) HG1.out, HG2.out, HG5.out, Below.drewN' HB.out _⟩
set_option maxRecDepth 100000 in
set_option maxHeartbeats 4000000 in
theorem rpS' (r c : Int) (a : Option Addr) (n : Nat) (zs : List Nat) (w : World) (ha : FRow w a n zs) (hn : n ≤ 1048576) (hok : okRP r c zs n = false) :
    Calls Try.prog 31 #[.agg #[.int .i64 r, .int .i64 c, .slice a n n]] w fun e w' => e = .returned (.tuple #[.slice none 0 0, .bool false]) ∧ Below w.heap.size w w' := by
  cases ht : tabB r c zs n with
  | false =>
    have HA := Lib.hid (ha.alloc (.cells #[.int .i64 r, .int .i64 c, .slice a n n] 44))
    have HT := Lib.hid (Tab.new w r c a n n 44)
    clear ha hok
    go_enter Try.func31, Try.ntmps31
    go_wp2_with (first | (go_at_call 71; refine (tab_spec _ r c _ n n zs _ HA.out hn HT.out.2.1 HT.out.2.2.1 HT.out.2.2.2).mono ?_; rintro e w' ⟨rfl, q, rfl⟩) | go_in)
    go_ret2
    exact ⟨rfl, Below.drewN' (below_alloc _ _) _⟩
  | true =>
    have hrow : rowV (rowsV zs c.toNat) r.toNat = false := by unfold okRP at hok; rw [ht, Bool.true_and] at hok; exact hok
    obtain ⟨R, C, rfl, rfl, hnn, hR, hC⟩ := tab_nat ht
    have hn0 : 0 < n := by rw [hnn]; exact Nat.mul_pos hR.1 hC.1
    obtain ⟨b, off, rfl⟩ := ha.some hn0
    have HA := Lib.hid (ha.alloc (.cells #[.int .i64 (R : Int), .int .i64 (C : Int), .slice (some ⟨b, off, none⟩) n n] 44))
    have HT := Lib.hid (Tab.new w R C (some ⟨b, off, none⟩) n n 44)
    have HN := Lib.hid hnn
    have HR := Lib.hid hR
    have HC := Lib.hid hC
    have HROW := Lib.hid hrow
    clear ha hnn hrow hR hC hok
    go_enter Try.func31, Try.ntmps31
    go_wp2_with (first | (go_at_call 71; refine (tab_spec _ R C _ n n zs _ HA.out hn HT.out.2.1 HT.out.2.2.1 HT.out.2.2.2).mono ?_; rintro e w' ⟨rfl, q, rfl⟩) | (go_at_call 72; refine (rows_spec _ b off R C n zs _ (HT.out.drewN _) (HA.out.drewN _) HN.out HR.out HC.out).mono ?_; rintro e w2 ⟨v, rfl, hg, hb⟩; obtain ⟨g, cap, zr, rfl, hg1, hg2, hg3, hg4, hg5⟩ := hg.fin (by have := HR.out; omega); have HG3 := Lib.hid hg3; have HG4 := Lib.hid hg4; have HB := Lib.hid (Below.ofAlloc (Below.ofDrewN hb)); clear hg hg1 hg2 hg3 hg4 hg5 hb) | (go_at_call 54; refine (giveS_no _ R _ zr _ HG3.out (by have := HR.out; omega) (by rw [rowB_V HG4.out]; exact HROW.out)).mono ?_; rintro e w' ⟨rfl, q6, rfl⟩) | go_in)
    go_ret2
    exact ⟨rfl, Below.drewN' HB.out _⟩
set_option maxRecDepth 100000 in
set_option maxHeartbeats 4000000 in
theorem rpI (r c : Int) (a : Option Addr) (n : Nat) (zs : List Nat) (w : World) (ha : FRow w a n zs) (hn : n ≤ 1048576) (hok : okRP r c zs n = true) :
    Calls Try.prog 33 #[.agg #[.int .i64 r, .int .i64 c, .slice a n n]] w fun e w' => ∃ g cp, e = .returned (.tuple #[.slice (some ⟨g, 0, none⟩) r.toNat cp, .bool true]) ∧ New w w' g (.cl r.toNat (rowsV zs c.toNat)) := by
  unfold okRP at hok
  rw [Bool.and_eq_true] at hok
  obtain ⟨ht, hrow⟩ := hok
  obtain ⟨R, C, rfl, rfl, hnn, hR, hC⟩ := tab_nat ht
  have hn0 : 0 < n := by rw [hnn]; exact Nat.mul_pos hR.1 hC.1
  obtain ⟨b, off, rfl⟩ := ha.some hn0
  have HA := Lib.hid (ha.alloc (.cells #[.int .i64 (R : Int), .int .i64 (C : Int), .slice (some ⟨b, off, none⟩) n n] 44))
  have HT := Lib.hid (Tab.new w R C (some ⟨b, off, none⟩) n n 44)
  have HN := Lib.hid hnn
  have HR := Lib.hid hR
  have HC := Lib.hid hC
  have HROW := Lib.hid hrow
  clear ha hnn hrow hR hC
  go_enter Try.func33, Try.ntmps33
  go_wp2_with (first | (go_at_call 73; refine (valid_impl R C _ n n zs _ HA.out hn).mono ?_; rintro e w2 ⟨rfl, hb⟩; have HB := Lib.hid hb; obtain ⟨_, hc0, hc1, hc2⟩ := HT.out.below hb; clear hb) | (go_at_call 74; refine (rows_impl b off R C n zs _ (HA.out.below HB.out) HN.out HR.out HC.out).mono ?_; rintro e w3 ⟨v, rfl, hg, hb⟩; obtain ⟨g, cap, zr, rfl, hg1, hg2, hg3, hg4, hg5⟩ := hg.fin (by have := HR.out; omega); have HG1 := Lib.hid hg1; have HG2 := Lib.hid hg2; have HG3 := Lib.hid hg3; have HG4 := Lib.hid hg4; have HG5 := Lib.hid hg5; have HB2 := Lib.hid (Below.next (Below.ofAlloc HB.out) hb); have HLE := Lib.hid (Below.ofAlloc HB.out).size; clear hg hg1 hg2 hg3 hg4 hg5 hb) | (go_at_call 57; refine (giveI_yes _ R _ zr _ HG3.out (by have := HR.out; omega) (by rw [rowB_V HG4.out]; exact HROW.out)).mono ?_; rintro e w' ⟨rfl, q6, rfl⟩) | go_in)
  go_ret2
  exact ⟨_, _, rfl, Nat.le_trans HLE.out HG1.out, HG2.out, HG5.out, Below.drewN' HB2.out _⟩
set_option maxRecDepth 100000 in
set_option maxHeartbeats 4000000 in
theorem rpI' (r c : Int) (a : Option Addr) (n : Nat) (zs : List Nat) (w : World) (ha : FRow w a n zs) (hn : n ≤ 1048576) (hok : okRP r c zs n = false) :
    Calls Try.prog 33 #[.agg #[.int .i64 r, .int .i64 c, .slice a n n]] w fun e w' => e = .returned (.tuple #[.slice none 0 0, .bool false]) ∧ Below w.heap.size w w' := by
  cases ht : tabB r c zs n with
  | false =>
    have HA := Lib.hid (ha.alloc (.cells #[.int .i64 r, .int .i64 c, .slice a n n] 44))
    clear ha hok
    go_enter Try.func33, Try.ntmps33
    go_wp2_with (first | (go_at_call 73; refine (valid_impl r c _ n n zs _ HA.out hn).mono ?_; rintro e w2 ⟨rfl, hb⟩; have HB := Lib.hid hb; clear hb) | go_in)
    go_ret2
    exact ⟨rfl, Below.ofAlloc HB.out⟩
  | true =>
    have hrow : rowV (rowsV zs c.toNat) r.toNat = false := by unfold okRP at hok; rw [ht, Bool.true_and] at hok; exact hok
    obtain ⟨R, C, rfl, rfl, hnn, hR, hC⟩ := tab_nat ht
    have hn0 : 0 < n := by rw [hnn]; exact Nat.mul_pos hR.1 hC.1
    obtain ⟨b, off, rfl⟩ := ha.some hn0
    have HA := Lib.hid (ha.alloc (.cells #[.int .i64 (R : Int), .int .i64 (C : Int), .slice (some ⟨b, off, none⟩) n n] 44))
    have HT := Lib.hid (Tab.new w R C (some ⟨b, off, none⟩) n n 44)
    have HN := Lib.hid hnn
    have HR := Lib.hid hR
    have HC := Lib.hid hC
    have HROW := Lib.hid hrow
    clear ha hnn hrow hR hC hok
    go_enter Try.func33, Try.ntmps33
    go_wp2_with (first | (go_at_call 73; refine (valid_impl R C _ n n zs _ HA.out hn).mono ?_; rintro e w2 ⟨rfl, hb⟩; have HB := Lib.hid hb; obtain ⟨_, hc0, hc1, hc2⟩ := HT.out.below hb; clear hb) | (go_at_call 74; refine (rows_impl b off R C n zs _ (HA.out.below HB.out) HN.out HR.out HC.out).mono ?_; rintro e w3 ⟨v, rfl, hg, hb⟩; obtain ⟨g, cap, zr, rfl, hg1, hg2, hg3, hg4, hg5⟩ := hg.fin (by have := HR.out; omega); have HG3 := Lib.hid hg3; have HG4 := Lib.hid hg4; have HB2 := Lib.hid (Below.next (Below.ofAlloc HB.out) hb); clear hg hg1 hg2 hg3 hg4 hg5 hb) | (go_at_call 57; refine (giveI_no _ R _ zr _ HG3.out (by have := HR.out; omega) (by rw [rowB_V HG4.out]; exact HROW.out)).mono ?_; rintro e w' ⟨rfl, q6, rfl⟩) | go_in)
    go_ret2
    exact ⟨rfl, Below.drewN' HB2.out _⟩
end Go.Proofs.Ytcgdhicgpkoncaa
