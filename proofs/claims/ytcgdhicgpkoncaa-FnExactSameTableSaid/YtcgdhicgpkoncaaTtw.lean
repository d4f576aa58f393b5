/- TurnTable, ColumnPart: the functions. -/
import Derived.Test.YtcgdhicgpkoncaaTuw
namespace Go.Proofs.Ytcgdhicgpkoncaa
open Go.Proofs.Ytcgdhicgpkoncaa.Flo Go.RowKit

theorem Tab.tin {w : World} {r c : Int} {a : Option Addr} {n cap : Nat} {T : TypeId} : Tin (w.alloc (.cells #[.int .i64 r, .int .i64 c, .slice a n cap] T)) w.heap.size r c (.slice a n cap) := Tin.new
theorem Tin.tab {w : World} {p : Nat} {r c : Int} {a : Option Addr} {n cap : Nat} (h : Tin w p r c (.slice a n cap)) : Tab w p r c a n cap := ⟨h.1, h.2.1, h.2.2.1, h.2.2.2.1⟩
set_option maxRecDepth 100000 in
set_option maxHeartbeats 4000000 in
theorem gtS_yes (r c : Int) (a : Option Addr) (n cap : Nat) (zs : List Nat) (w : World) (ha : FRow w a n zs) (hn : n ≤ 1048576) (h : tabB r c zs n = true) :
    Calls Try.prog 82 #[.agg #[.int .i64 r, .int .i64 c, .slice a n cap]] w fun e w' => e = .returned (.tuple #[.agg #[.int .i64 r, .int .i64 c, .slice a n cap], .bool true]) ∧ Below w.heap.size w w' := by
  have HA := Lib.hid ((ha.alloc (.cells #[.int .i64 r, .int .i64 c, .slice a n cap] 44)).alloc (.cells #[.int .i64 0, .int .i64 0, .slice none 0 0] 44))
  have HT := Lib.hid ((Tab.tin (w := w) (r := r) (c := c) (a := a) (n := n) (cap := cap) (T := 44)).below (below_alloc _ (.cells #[.int .i64 0, .int .i64 0, .slice none 0 0] 44)))
  have HR := Lib.hid (Tin.new' (w := w.alloc (.cells #[.int .i64 r, .int .i64 c, .slice a n cap] 44)) (p := w.heap.size + 1) (r := 0) (c := 0) (v := .slice none 0 0) (T := 44) (by simp))
  clear ha
  go_enter Try.func82, Try.ntmps82
  go_wp2_with (first | (go_at_call 71; refine (tab_spec _ r c a n cap zs _ HA.out hn HT.out.2.1 HT.out.2.2.1 HT.out.2.2.2.1).mono ?_; rintro e w' ⟨rfl, q, rfl⟩) | go_in)
  exact bodyPost_ret (v := .tuple #[.agg #[.int .i64 r, .int .i64 c, .slice a n cap], .bool true]) (by simp [results, Try.results82, go_sem]) rfl
    ⟨rfl, (by repeat (first | exact Below.refl _ _ | refine Below.drew ?_ | refine Below.drewN' ?_ _ | refine Below.alloc ?_ (by first | (simp; done) | (simp; omega)) _ | refine Below.setCell ?_ (by first | (simp; done) | (simp; omega)) _))⟩
set_option maxRecDepth 100000 in
set_option maxHeartbeats 4000000 in
theorem gtS_no (r c : Int) (a : Option Addr) (n cap : Nat) (zs : List Nat) (w : World) (ha : FRow w a n zs) (hn : n ≤ 1048576) (h : tabB r c zs n = false) :
    Calls Try.prog 82 #[.agg #[.int .i64 r, .int .i64 c, .slice a n cap]] w fun e w' => e = .returned (.tuple #[.agg #[.int .i64 0, .int .i64 0, .slice none 0 0], .bool false]) ∧ Below w.heap.size w w' := by
  have HA := Lib.hid ((ha.alloc (.cells #[.int .i64 r, .int .i64 c, .slice a n cap] 44)).alloc (.cells #[.int .i64 0, .int .i64 0, .slice none 0 0] 44))
  have HT := Lib.hid ((Tab.tin (w := w) (r := r) (c := c) (a := a) (n := n) (cap := cap) (T := 44)).below (below_alloc _ (.cells #[.int .i64 0, .int .i64 0, .slice none 0 0] 44)))
  have HR := Lib.hid (Tin.new' (w := w.alloc (.cells #[.int .i64 r, .int .i64 c, .slice a n cap] 44)) (p := w.heap.size + 1) (r := 0) (c := 0) (v := .slice none 0 0) (T := 44) (by simp))
  clear ha
  go_enter Try.func82, Try.ntmps82
  go_wp2_with (first | (go_at_call 71; refine (tab_spec _ r c a n cap zs _ HA.out hn HT.out.2.1 HT.out.2.2.1 HT.out.2.2.2.1).mono ?_; rintro e w' ⟨rfl, q, rfl⟩) | go_in)
  exact bodyPost_ret (v := .tuple #[.agg #[.int .i64 0, .int .i64 0, .slice none 0 0], .bool false]) (by simp [results, Try.results82, go_sem]) rfl
    ⟨rfl, (by repeat (first | exact Below.refl _ _ | refine Below.drew ?_ | refine Below.drewN' ?_ _ | refine Below.alloc ?_ (by first | (simp; done) | (simp; omega)) _ | refine Below.setCell ?_ (by first | (simp; done) | (simp; omega)) _))⟩
set_option maxRecDepth 100000 in
set_option maxHeartbeats 4000000 in
theorem gtI_yes (r c : Int) (a : Option Addr) (n cap : Nat) (zs : List Nat) (w : World) (ha : FRow w a n zs) (hn : n ≤ 1048576) (h : tabB r c zs n = true) :
    Calls Try.prog 84 #[.agg #[.int .i64 r, .int .i64 c, .slice a n cap]] w fun e w' => e = .returned (.tuple #[.agg #[.int .i64 r, .int .i64 c, .slice a n cap], .bool true]) ∧ Below w.heap.size w w' := by
  have HA := Lib.hid ((ha.alloc (.cells #[.int .i64 r, .int .i64 c, .slice a n cap] 44)).alloc (.cells #[.int .i64 0, .int .i64 0, .slice none 0 0] 44))
  have HT := Lib.hid ((Tab.tin (w := w) (r := r) (c := c) (a := a) (n := n) (cap := cap) (T := 44)).below (below_alloc _ (.cells #[.int .i64 0, .int .i64 0, .slice none 0 0] 44)))
  have HR := Lib.hid (Tin.new' (w := w.alloc (.cells #[.int .i64 r, .int .i64 c, .slice a n cap] 44)) (p := w.heap.size + 1) (r := 0) (c := 0) (v := .slice none 0 0) (T := 44) (by simp))
  clear ha
  go_enter Try.func84, Try.ntmps84
  go_wp2_with (first | (go_at_call 73; refine (valid_impl r c a n cap zs _ HA.out hn).mono ?_; rintro e w2 ⟨rfl, hb⟩; have HB := Lib.hid hb; obtain ⟨_, hc0, hc1, hc2, _⟩ := HT.out.below hb; obtain ⟨_, hd0, hd1, hd2, hf0, hf1, hf2⟩ := HR.out.below hb; have HP3 := Lib.hid ((HR.out.below hb).put3 (.int .i64 r) (.int .i64 c) (.slice a n cap)); clear hb) | go_in)
  obtain ⟨hr0, hr1, hr2⟩ := HP3.out
  exact bodyPost_ret (v := .tuple #[.agg #[.int .i64 r, .int .i64 c, .slice a n cap], .bool true]) (by simp [results, Try.results84, go_sem, hr0, hr1, hr2]) rfl
    ⟨rfl, by repeat (first | exact Below.next (Below.next (below_alloc _ _) (below_alloc _ _)) HB.out | refine Below.setCell ?_ (by first | (simp; done) | (simp; omega)) _)⟩
set_option maxRecDepth 100000 in
set_option maxHeartbeats 4000000 in
theorem gtI_no (r c : Int) (a : Option Addr) (n cap : Nat) (zs : List Nat) (w : World) (ha : FRow w a n zs) (hn : n ≤ 1048576) (h : tabB r c zs n = false) :
    Calls Try.prog 84 #[.agg #[.int .i64 r, .int .i64 c, .slice a n cap]] w fun e w' => e = .returned (.tuple #[.agg #[.int .i64 0, .int .i64 0, .slice none 0 0], .bool false]) ∧ Below w.heap.size w w' := by
  have HA := Lib.hid ((ha.alloc (.cells #[.int .i64 r, .int .i64 c, .slice a n cap] 44)).alloc (.cells #[.int .i64 0, .int .i64 0, .slice none 0 0] 44))
  have HT := Lib.hid ((Tab.tin (w := w) (r := r) (c := c) (a := a) (n := n) (cap := cap) (T := 44)).below (below_alloc _ (.cells #[.int .i64 0, .int .i64 0, .slice none 0 0] 44)))
  have HR := Lib.hid (Tin.new' (w := w.alloc (.cells #[.int .i64 r, .int .i64 c, .slice a n cap] 44)) (p := w.heap.size + 1) (r := 0) (c := 0) (v := .slice none 0 0) (T := 44) (by simp))
  clear ha
  go_enter Try.func84, Try.ntmps84
  go_wp2_with (first | (go_at_call 73; refine (valid_impl r c a n cap zs _ HA.out hn).mono ?_; rintro e w2 ⟨rfl, hb⟩; have HB := Lib.hid hb; obtain ⟨_, hc0, hc1, hc2, _⟩ := HT.out.below hb; obtain ⟨_, hd0, hd1, hd2, hf0, hf1, hf2⟩ := HR.out.below hb; have HP3 := Lib.hid ((HR.out.below hb).put3 (.int .i64 0) (.int .i64 0) (.slice none 0 0)); clear hb) | go_in)
  obtain ⟨hr0, hr1, hr2⟩ := HP3.out
  exact bodyPost_ret (v := .tuple #[.agg #[.int .i64 0, .int .i64 0, .slice none 0 0], .bool false]) (by simp [results, Try.results84, go_sem, hr0, hr1, hr2]) rfl
    ⟨rfl, by repeat (first | exact Below.next (Below.next (below_alloc _ _) (below_alloc _ _)) HB.out | refine Below.setCell ?_ (by first | (simp; done) | (simp; omega)) _)⟩
theorem Ent.ok.set {w : World} {g : Nat} {e : Ent} (h : e.ok w g) {a : Addr} (ha : a.block ≠ g) (u : Value) : e.ok (w.setCell a u) g :=
  h.same fun _ => ⟨World.cell?_setCell_far _ _ _ _ ha, World.frozen?_setCell _ _ _ _⟩
theorem Tin.drewN {w : World} {p : Nat} {r c : Int} {v : Value} (h : Tin w p r c v) (q : Nat) : Tin (w.drewN q) p r c v := h
theorem Got.fin' {w w' : World} {T : TypeId} {g n cap : Nat} {V : Nat → Option Nat} (h : Got w' w.heap.size T (.slice (some ⟨g, 0, none⟩) n cap) n V) (hn : n ≠ 0) :
    ∃ zs, w.heap.size ≤ g ∧ g < w'.heap.size ∧ FRow w' (some ⟨g, 0, none⟩) n zs ∧ (∀ i, i < n → cls .f32 (zs.getD i 0) = V i) ∧ Ent.ok w' g (.cl n V) := by
  obtain ⟨g', cap', zs, e, h1, h2, h3, h4, h5⟩ := h.fin hn
  injection e with e1 e2 e3
  injection e1 with e1
  injection e1 with e1
  subst e1
  exact ⟨zs, h1, h2, h3, h4, h5⟩
theorem tab_V {R C n : Nat} {zr : List Nat} {V : Nat → Option Nat} (hR : 1 ≤ R ∧ R ≤ 8) (hC : 1 ≤ C ∧ C ≤ 8) (hn : n = R * C) (h : ∀ i, i < n → cls .f32 (zr.getD i 0) = V i) : tabB (C : Int) (R : Int) zr n = chV V n := by
  unfold tabB
  rw [decide_eq_true (by omega), decide_eq_true (by omega), decide_eq_true (by rw [hn, Nat.mul_comm]; exact Int.natCast_mul C R), chS_V h]
  rfl
def okT (r c : Int) (zs : List Nat) (n : Nat) : Bool := tabB r c zs n && chV (turnV zs r.toNat c.toNat) n
set_option maxRecDepth 100000 in
set_option maxHeartbeats 4000000 in
theorem ttS (r c : Int) (a : Option Addr) (n : Nat) (zs : List Nat) (w : World) (ha : FRow w a n zs) (hn : n ≤ 1048576) (hok : okT r c zs n = true) :
    Calls Try.prog 43 #[.agg #[.int .i64 r, .int .i64 c, .slice a n n]] w fun e w' => ∃ g cp, e = .returned (.tuple #[.agg #[.int .i64 c, .int .i64 r, .slice (some ⟨g, 0, none⟩) n cp], .bool true]) ∧ New w w' g (.cl n (turnV zs r.toNat c.toNat)) := by
  unfold okT at hok
  rw [Bool.and_eq_true] at hok
  obtain ⟨ht, hch⟩ := hok
  obtain ⟨R, C, rfl, rfl, hnn, hR, hC⟩ := tab_nat ht
  have hn0 : 0 < n := by rw [hnn]; exact Nat.mul_pos hR.1 hC.1
  obtain ⟨b, off, rfl⟩ := ha.some hn0
  have HA := Lib.hid ((ha.alloc (.cells #[.int .i64 (R : Int), .int .i64 (C : Int), .slice (some ⟨b, off, none⟩) n n] 44)).alloc (.cells #[.int .i64 0, .int .i64 0, .slice none 0 0] 44))
  have HT := Lib.hid ((Tab.tin (w := w) (r := (R : Int)) (c := (C : Int)) (a := some ⟨b, off, none⟩) (n := n) (cap := n) (T := 44)).below (below_alloc _ (.cells #[.int .i64 0, .int .i64 0, .slice none 0 0] 44)))
  have HR := Lib.hid (Tin.new' (w := w.alloc (.cells #[.int .i64 (R : Int), .int .i64 (C : Int), .slice (some ⟨b, off, none⟩) n n] 44)) (p := w.heap.size + 1) (r := 0) (c := 0) (v := .slice none 0 0) (T := 44) (by simp))
  have HRR := Lib.hid hR
  have HCC := Lib.hid hC
  have HN := Lib.hid hnn
  have HCH := Lib.hid hch
  clear ha hnn hR hC hch
  go_enter Try.func43, Try.ntmps43
  go_wp2_with (first | (go_at_call 71; refine (tab_spec _ R C _ n n zs _ HA.out hn HT.out.2.1 HT.out.2.2.1 HT.out.2.2.2.1).mono ?_; rintro e w' ⟨rfl, q, rfl⟩) | (go_at_call 85; refine (turn_spec _ b off R C n zs _ (HT.out.drewN _).tab (HA.out.drewN _) HN.out HRR.out HCC.out).mono ?_; rintro e w2 ⟨g, cp, rfl, hcp, hg, hb⟩; obtain ⟨zr, hg1, hg2, hg3, hg4, hg5⟩ := hg.fin' (by omega); have HG1 := Lib.hid (Nat.le_trans (by simp) hg1 : w.heap.size + 2 ≤ g); have HG2 := Lib.hid hg2; have HG3 := Lib.hid hg3; have HG4 := Lib.hid hg4; have HG5 := Lib.hid hg5; have HR := Lib.hid ((HR.out.drewN _).below hb); have HB2 : Hid (Below w.heap.size w w2) := Lib.hid (Below.next (Below.next (below_alloc _ _) (below_alloc _ _)) (Below.ofDrewN hb)); clear hg hg1 hg2 hg3 hg4 hg5 hb hcp) | (go_at_call 82; refine (gtS_yes (C : Int) (R : Int) _ n _ zr _ HG3.out hn (by rw [tab_V HRR.out HCC.out HN.out HG4.out]; exact HCH.out)).mono ?_; rintro e w3 ⟨rfl, hb⟩; have HR := Lib.hid (HR.out.below hb); have HG5 := Lib.hid (HG5.out.below HG2.out hb); have HG2 := Lib.hid (Nat.lt_of_lt_of_le HG2.out hb.size); have HB2 := Lib.hid (Below.next HB2.out hb); obtain ⟨_, hd0, hd1, hd2, hf0, hf1, hf2⟩ := HR.out; have HP3 := Lib.hid (HR.out.put3 (.int .i64 (C : Int)) (.int .i64 (R : Int)) (.slice (some ⟨g, 0, none⟩) n cp)); clear hb) | go_in)
  obtain ⟨hr0, hr1, hr2⟩ := HP3.out
  have hgne : w.heap.size + 1 ≠ g := by have := HG1.out; omega
  exact bodyPost_ret (v := .tuple #[.agg #[.int .i64 (C : Int), .int .i64 (R : Int), .slice (some ⟨g, 0, none⟩) n cp], .bool true]) (by simp [results, Try.results43, go_sem, hr0, hr1, hr2]) rfl
    ⟨g, cp, rfl, by have := HG1.out; omega, by simpa using HG2.out, Ent.ok.set (Ent.ok.set (Ent.ok.set HG5.out hgne _) hgne _) hgne _, by repeat (first | exact HB2.out | refine Below.setCell ?_ (by first | (simp; done) | (simp; omega)) _)⟩
set_option maxRecDepth 100000 in
set_option maxHeartbeats 4000000 in
theorem ttS' (r c : Int) (a : Option Addr) (n : Nat) (zs : List Nat) (w : World) (ha : FRow w a n zs) (hn : n ≤ 1048576) (hok : okT r c zs n = false) :
    Calls Try.prog 43 #[.agg #[.int .i64 r, .int .i64 c, .slice a n n]] w fun e w' => e = .returned (.tuple #[.agg #[.int .i64 0, .int .i64 0, .slice none 0 0], .bool false]) ∧ Below w.heap.size w w' := by
  cases ht : tabB r c zs n with
  | false =>
    have HA := Lib.hid ((ha.alloc (.cells #[.int .i64 r, .int .i64 c, .slice a n n] 44)).alloc (.cells #[.int .i64 0, .int .i64 0, .slice none 0 0] 44))
    have HT := Lib.hid ((Tab.tin (w := w) (r := r) (c := c) (a := a) (n := n) (cap := n) (T := 44)).below (below_alloc _ (.cells #[.int .i64 0, .int .i64 0, .slice none 0 0] 44)))
    have HR := Lib.hid (Tin.new' (w := w.alloc (.cells #[.int .i64 r, .int .i64 c, .slice a n n] 44)) (p := w.heap.size + 1) (r := 0) (c := 0) (v := .slice none 0 0) (T := 44) (by simp))
    clear ha hok
    go_enter Try.func43, Try.ntmps43
    go_wp2_with (first | (go_at_call 71; refine (tab_spec _ r c _ n n zs _ HA.out hn HT.out.2.1 HT.out.2.2.1 HT.out.2.2.2.1).mono ?_; rintro e w' ⟨rfl, q, rfl⟩) | go_in)
    exact bodyPost_ret (v := .tuple #[.agg #[.int .i64 0, .int .i64 0, .slice none 0 0], .bool false]) (by simp [results, Try.results43, go_sem]) rfl
      ⟨rfl, (by repeat (first | exact Below.refl _ _ | refine Below.drew ?_ | refine Below.drewN' ?_ _ | refine Below.alloc ?_ (by first | (simp; done) | (simp; omega)) _ | refine Below.setCell ?_ (by first | (simp; done) | (simp; omega)) _))⟩
  | true =>
    have hch : chV (turnV zs r.toNat c.toNat) n = false := by unfold okT at hok; rw [ht, Bool.true_and] at hok; exact hok
    clear hok
    obtain ⟨R, C, rfl, rfl, hnn, hR, hC⟩ := tab_nat ht
    have hn0 : 0 < n := by rw [hnn]; exact Nat.mul_pos hR.1 hC.1
    obtain ⟨b, off, rfl⟩ := ha.some hn0
    have HA := Lib.hid ((ha.alloc (.cells #[.int .i64 (R : Int), .int .i64 (C : Int), .slice (some ⟨b, off, none⟩) n n] 44)).alloc (.cells #[.int .i64 0, .int .i64 0, .slice none 0 0] 44))
    have HT := Lib.hid ((Tab.tin (w := w) (r := (R : Int)) (c := (C : Int)) (a := some ⟨b, off, none⟩) (n := n) (cap := n) (T := 44)).below (below_alloc _ (.cells #[.int .i64 0, .int .i64 0, .slice none 0 0] 44)))
    have HR := Lib.hid (Tin.new' (w := w.alloc (.cells #[.int .i64 (R : Int), .int .i64 (C : Int), .slice (some ⟨b, off, none⟩) n n] 44)) (p := w.heap.size + 1) (r := 0) (c := 0) (v := .slice none 0 0) (T := 44) (by simp))
    have HRR := Lib.hid hR
    have HCC := Lib.hid hC
    have HN := Lib.hid hnn
    have HCH := Lib.hid hch
    clear ha hnn hR hC hch
    go_enter Try.func43, Try.ntmps43
    go_wp2_with (first | (go_at_call 71; refine (tab_spec _ R C _ n n zs _ HA.out hn HT.out.2.1 HT.out.2.2.1 HT.out.2.2.2.1).mono ?_; rintro e w' ⟨rfl, q, rfl⟩) | (go_at_call 85; refine (turn_spec _ b off R C n zs _ (HT.out.drewN _).tab (HA.out.drewN _) HN.out HRR.out HCC.out).mono ?_; rintro e w2 ⟨g, cp, rfl, hcp, hg, hb⟩; obtain ⟨zr, hg1, hg2, hg3, hg4, hg5⟩ := hg.fin' (by omega); have HG1 := Lib.hid (Nat.le_trans (by simp) hg1 : w.heap.size + 2 ≤ g); have HG2 := Lib.hid hg2; have HG3 := Lib.hid hg3; have HG4 := Lib.hid hg4; have HG5 := Lib.hid hg5; have HR := Lib.hid ((HR.out.drewN _).below hb); have HB2 : Hid (Below w.heap.size w w2) := Lib.hid (Below.next (Below.next (below_alloc _ _) (below_alloc _ _)) (Below.ofDrewN hb)); clear hg hg1 hg2 hg3 hg4 hg5 hb hcp) | (go_at_call 82; refine (gtS_no (C : Int) (R : Int) _ n _ zr _ HG3.out hn (by rw [tab_V HRR.out HCC.out HN.out HG4.out]; exact HCH.out)).mono ?_; rintro e w3 ⟨rfl, hb⟩; have HR := Lib.hid (HR.out.below hb); have HG5 := Lib.hid (HG5.out.below HG2.out hb); have HG2 := Lib.hid (Nat.lt_of_lt_of_le HG2.out hb.size); have HB2 := Lib.hid (Below.next HB2.out hb); obtain ⟨_, hd0, hd1, hd2, hf0, hf1, hf2⟩ := HR.out; have HP3 := Lib.hid (HR.out.put3 (.int .i64 0) (.int .i64 0) (.slice none 0 0)); clear hb) | go_in)
    obtain ⟨hr0, hr1, hr2⟩ := HP3.out
    exact bodyPost_ret (v := .tuple #[.agg #[.int .i64 0, .int .i64 0, .slice none 0 0], .bool false]) (by simp [results, Try.results43, go_sem, hr0, hr1, hr2]) rfl
      ⟨rfl, by repeat (first | exact HB2.out | refine Below.setCell ?_ (by first | (simp; done) | (simp; omega)) _)⟩
set_option maxRecDepth 100000 in
set_option maxHeartbeats 4000000 in
theorem ttI (r c : Int) (a : Option Addr) (n : Nat) (zs : List Nat) (w : World) (ha : FRow w a n zs) (hn : n ≤ 1048576) (hok : okT r c zs n = true) :
    Calls Try.prog 44 #[.agg #[.int .i64 r, .int .i64 c, .slice a n n]] w fun e w' => ∃ g cp, e = .returned (.tuple #[.agg #[.int .i64 c, .int .i64 r, .slice (some ⟨g, 0, none⟩) n cp], .bool true]) ∧ New w w' g (.cl n (turnV zs r.toNat c.toNat)) := by
  unfold okT at hok
  rw [Bool.and_eq_true] at hok
  obtain ⟨ht, hch⟩ := hok
  obtain ⟨R, C, rfl, rfl, hnn, hR, hC⟩ := tab_nat ht
  have hn0 : 0 < n := by rw [hnn]; exact Nat.mul_pos hR.1 hC.1
  obtain ⟨b, off, rfl⟩ := ha.some hn0
  have HA := Lib.hid ((ha.alloc (.cells #[.int .i64 (R : Int), .int .i64 (C : Int), .slice (some ⟨b, off, none⟩) n n] 44)).alloc (.cells #[.int .i64 0, .int .i64 0, .slice none 0 0] 44))
  have HT := Lib.hid ((Tab.tin (w := w) (r := (R : Int)) (c := (C : Int)) (a := some ⟨b, off, none⟩) (n := n) (cap := n) (T := 44)).below (below_alloc _ (.cells #[.int .i64 0, .int .i64 0, .slice none 0 0] 44)))
  have HR := Lib.hid (Tin.new' (w := w.alloc (.cells #[.int .i64 (R : Int), .int .i64 (C : Int), .slice (some ⟨b, off, none⟩) n n] 44)) (p := w.heap.size + 1) (r := 0) (c := 0) (v := .slice none 0 0) (T := 44) (by simp))
  have HRR := Lib.hid hR
  have HCC := Lib.hid hC
  have HN := Lib.hid hnn
  have HCH := Lib.hid hch
  clear ha hnn hR hC hch
  go_enter Try.func44, Try.ntmps44
  go_wp2_with (first | (go_at_call 73; refine (valid_impl R C _ n n zs _ HA.out hn).mono ?_; rintro e w1 ⟨rfl, hb⟩; have HA := Lib.hid (HA.out.below hb); have HT := Lib.hid (HT.out.below hb); have HR := Lib.hid (HR.out.below hb); have HB1 := Lib.hid (Below.next (Below.next (below_alloc _ _) (below_alloc _ _)) hb); have HS1 := Lib.hid hb.size; obtain ⟨_, hc0, hc1, hc2, _⟩ := HT.out; clear hb) | (go_at_call 76; refine (turn_impl b off R C n zs _ HA.out HN.out HRR.out HCC.out).mono ?_; rintro e w2 ⟨g, cp, rfl, hcp, hg, hb⟩; obtain ⟨zr, hg1, hg2, hg3, hg4, hg5⟩ := hg.fin' (by omega); have HG1 := Lib.hid (Nat.le_trans (by simpa using HS1.out) hg1 : w.heap.size + 2 ≤ g); have HG2 := Lib.hid hg2; have HG3 := Lib.hid hg3; have HG4 := Lib.hid hg4; have HG5 := Lib.hid hg5; have HR := Lib.hid (HR.out.below hb); have HB2 : Hid (Below w.heap.size w w2) := Lib.hid (Below.next HB1.out hb); clear hg hg1 hg2 hg3 hg4 hg5 hb hcp) | (go_at_call 84; refine (gtI_yes (C : Int) (R : Int) _ n _ zr _ HG3.out hn (by rw [tab_V HRR.out HCC.out HN.out HG4.out]; exact HCH.out)).mono ?_; rintro e w3 ⟨rfl, hb⟩; have HR := Lib.hid (HR.out.below hb); have HG5 := Lib.hid (HG5.out.below HG2.out hb); have HG2 := Lib.hid (Nat.lt_of_lt_of_le HG2.out hb.size); have HB2 := Lib.hid (Below.next HB2.out hb); obtain ⟨_, hd0, hd1, hd2, hf0, hf1, hf2⟩ := HR.out; have HP3 := Lib.hid (HR.out.put3 (.int .i64 (C : Int)) (.int .i64 (R : Int)) (.slice (some ⟨g, 0, none⟩) n cp)); clear hb) | go_in)
  obtain ⟨hr0, hr1, hr2⟩ := HP3.out
  have hgne : w.heap.size + 1 ≠ g := by have := HG1.out; omega
  exact bodyPost_ret (v := .tuple #[.agg #[.int .i64 (C : Int), .int .i64 (R : Int), .slice (some ⟨g, 0, none⟩) n cp], .bool true]) (by simp [results, Try.results44, go_sem, hr0, hr1, hr2]) rfl
    ⟨g, cp, rfl, by have := HG1.out; omega, by simpa using HG2.out, Ent.ok.set (Ent.ok.set (Ent.ok.set HG5.out hgne _) hgne _) hgne _, by repeat (first | exact HB2.out | refine Below.setCell ?_ (by first | (simp; done) | (simp; omega)) _)⟩
set_option maxRecDepth 100000 in
set_option maxHeartbeats 4000000 in
theorem ttI' (r c : Int) (a : Option Addr) (n : Nat) (zs : List Nat) (w : World) (ha : FRow w a n zs) (hn : n ≤ 1048576) (hok : okT r c zs n = false) :
    Calls Try.prog 44 #[.agg #[.int .i64 r, .int .i64 c, .slice a n n]] w fun e w' => e = .returned (.tuple #[.agg #[.int .i64 0, .int .i64 0, .slice none 0 0], .bool false]) ∧ Below w.heap.size w w' := by
  cases ht : tabB r c zs n with
  | false =>
    have HA := Lib.hid ((ha.alloc (.cells #[.int .i64 r, .int .i64 c, .slice a n n] 44)).alloc (.cells #[.int .i64 0, .int .i64 0, .slice none 0 0] 44))
    have HT := Lib.hid ((Tab.tin (w := w) (r := r) (c := c) (a := a) (n := n) (cap := n) (T := 44)).below (below_alloc _ (.cells #[.int .i64 0, .int .i64 0, .slice none 0 0] 44)))
    have HR := Lib.hid (Tin.new' (w := w.alloc (.cells #[.int .i64 r, .int .i64 c, .slice a n n] 44)) (p := w.heap.size + 1) (r := 0) (c := 0) (v := .slice none 0 0) (T := 44) (by simp))
    clear ha hok
    go_enter Try.func44, Try.ntmps44
    go_wp2_with (first | (go_at_call 73; refine (valid_impl r c _ n n zs _ HA.out hn).mono ?_; rintro e w2 ⟨rfl, hb⟩; have HB := Lib.hid hb; obtain ⟨_, hd0, hd1, hd2, hf0, hf1, hf2⟩ := HR.out.below hb; have HP3 := Lib.hid ((HR.out.below hb).put3 (.int .i64 0) (.int .i64 0) (.slice none 0 0)); clear hb) | go_in)
    obtain ⟨hr0, hr1, hr2⟩ := HP3.out
    exact bodyPost_ret (v := .tuple #[.agg #[.int .i64 0, .int .i64 0, .slice none 0 0], .bool false]) (by simp [results, Try.results44, go_sem, hr0, hr1, hr2]) rfl
      ⟨rfl, by repeat (first | exact Below.next (Below.next (below_alloc _ _) (below_alloc _ _)) HB.out | refine Below.setCell ?_ (by first | (simp; done) | (simp; omega)) _)⟩
  | true =>
    have hch : chV (turnV zs r.toNat c.toNat) n = false := by unfold okT at hok; rw [ht, Bool.true_and] at hok; exact hok
    clear hok
    obtain ⟨R, C, rfl, rfl, hnn, hR, hC⟩ := tab_nat ht
    have hn0 : 0 < n := by rw [hnn]; exact Nat.mul_pos hR.1 hC.1
    obtain ⟨b, off, rfl⟩ := ha.some hn0
    have HA := Lib.hid ((ha.alloc (.cells #[.int .i64 (R : Int), .int .i64 (C : Int), .slice (some ⟨b, off, none⟩) n n] 44)).alloc (.cells #[.int .i64 0, .int .i64 0, .slice none 0 0] 44))
    have HT := Lib.hid ((Tab.tin (w := w) (r := (R : Int)) (c := (C : Int)) (a := some ⟨b, off, none⟩) (n := n) (cap := n) (T := 44)).below (below_alloc _ (.cells #[.int .i64 0, .int .i64 0, .slice none 0 0] 44)))
    have HR := Lib.hid (Tin.new' (w := w.alloc (.cells #[.int .i64 (R : Int), .int .i64 (C : Int), .slice (some ⟨b, off, none⟩) n n] 44)) (p := w.heap.size + 1) (r := 0) (c := 0) (v := .slice none 0 0) (T := 44) (by simp))
    have HRR := Lib.hid hR
    have HCC := Lib.hid hC
    have HN := Lib.hid hnn
    have HCH := Lib.hid hch
    clear ha hnn hR hC hch
    go_enter Try.func44, Try.ntmps44
    go_wp2_with (first | (go_at_call 73; refine (valid_impl R C _ n n zs _ HA.out hn).mono ?_; rintro e w1 ⟨rfl, hb⟩; have HA := Lib.hid (HA.out.below hb); have HT := Lib.hid (HT.out.below hb); have HR := Lib.hid (HR.out.below hb); have HB1 := Lib.hid (Below.next (Below.next (below_alloc _ _) (below_alloc _ _)) hb); have HS1 := Lib.hid hb.size; obtain ⟨_, hc0, hc1, hc2, _⟩ := HT.out; clear hb) | (go_at_call 76; refine (turn_impl b off R C n zs _ HA.out HN.out HRR.out HCC.out).mono ?_; rintro e w2 ⟨g, cp, rfl, hcp, hg, hb⟩; obtain ⟨zr, hg1, hg2, hg3, hg4, hg5⟩ := hg.fin' (by omega); have HG1 := Lib.hid (Nat.le_trans (by simpa using HS1.out) hg1 : w.heap.size + 2 ≤ g); have HG2 := Lib.hid hg2; have HG3 := Lib.hid hg3; have HG4 := Lib.hid hg4; have HG5 := Lib.hid hg5; have HR := Lib.hid (HR.out.below hb); have HB2 : Hid (Below w.heap.size w w2) := Lib.hid (Below.next HB1.out hb); clear hg hg1 hg2 hg3 hg4 hg5 hb hcp) | (go_at_call 84; refine (gtI_no (C : Int) (R : Int) _ n _ zr _ HG3.out hn (by rw [tab_V HRR.out HCC.out HN.out HG4.out]; exact HCH.out)).mono ?_; rintro e w3 ⟨rfl, hb⟩; have HR := Lib.hid (HR.out.below hb); have HG5 := Lib.hid (HG5.out.below HG2.out hb); have HG2 := Lib.hid (Nat.lt_of_lt_of_le HG2.out hb.size); have HB2 := Lib.hid (Below.next HB2.out hb); obtain ⟨_, hd0, hd1, hd2, hf0, hf1, hf2⟩ := HR.out; have HP3 := Lib.hid (HR.out.put3 (.int .i64 0) (.int .i64 0) (.slice none 0 0)); clear hb) | go_in)
    obtain ⟨hr0, hr1, hr2⟩ := HP3.out
    exact bodyPost_ret (v := .tuple #[.agg #[.int .i64 0, .int .i64 0, .slice none 0 0], .bool false]) (by simp [results, Try.results44, go_sem, hr0, hr1, hr2]) rfl
      ⟨rfl, by repeat (first | exact HB2.out | refine Below.setCell ?_ (by first | (simp; done) | (simp; omega)) _)⟩
theorem okT_n {r c : Int} {zs : List Nat} {n : Nat} (h : okT r c zs n = true) : n ≤ 1048576 := by
  unfold okT at h
  rw [Bool.and_eq_true] at h
  have := (tab_out h.1).2.2.2.2
  omega
end Go.Proofs.Ytcgdhicgpkoncaa
