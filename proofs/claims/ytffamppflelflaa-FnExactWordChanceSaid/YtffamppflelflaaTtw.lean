/- TurnTable, ColumnPart: the functions. -/
import Derived.Test.YtffamppflelflaaTuw
namespace Go.Proofs.Ytffamppflelflaa
open Go.Proofs.Ytffamppflelflaa.Flo Go.RowKit

theorem Tab.tin {w : World} {r c : Int} {a : Option Addr} {n cap : Nat} {T : TypeId} : Tin (w.alloc (.cells #[.int .i64 r, .int .i64 c, .slice a n cap] T)) w.heap.size r c (.slice a n cap) := Tin.new
theorem Tin.tab {w : World} {p : Nat} {r c : Int} {a : Option Addr} {n cap : Nat} (h : Tin w p r c (.slice a n cap)) : Tab w p r c a n cap := ⟨h.1, h.2.1, h.2.2.1, h.2.2.2.1⟩
set_option maxRecDepth 100000 in
set_option maxHeartbeats 4000000 in
theorem gtI_yes (r c : Int) (a : Option Addr) (n cap : Nat) (zs : List Nat) (w : World) (ha : FRow w a n zs) (hn : n ≤ 1048576) (h : tabB r c zs n = true) :
    Calls Try.prog 81 #[.agg #[.int .i64 r, .int .i64 c, .slice a n cap]] w fun e w' => e = .returned (.tuple #[.agg #[.int .i64 r, .int .i64 c, .slice a n cap], .bool true]) ∧ Below w.heap.size w w' := by
  have HA := Lib.hid ((ha.alloc (.cells #[.int .i64 r, .int .i64 c, .slice a n cap] 44)).alloc (.cells #[.int .i64 0, .int .i64 0, .slice none 0 0] 44))
  have HT := Lib.hid ((Tab.tin (w := w) (r := r) (c := c) (a := a) (n := n) (cap := cap) (T := 44)).below (below_alloc _ (.cells #[.int .i64 0, .int .i64 0, .slice none 0 0] 44)))
  have HR := Lib.hid (Tin.new' (w := w.alloc (.cells #[.int .i64 r, .int .i64 c, .slice a n cap] 44)) (p := w.heap.size + 1) (r := 0) (c := 0) (v := .slice none 0 0) (T := 44) (by simp))
  clear ha
  go_enter Try.func81, Try.ntmps81
  go_wp2_with (first | (go_at_call 96; refine (valid_impl r c a n cap zs _ HA.out hn).mono ?_; rintro e w2 ⟨rfl, hb⟩; have HB := Lib.hid hb; obtain ⟨_, hc0, hc1, hc2, _⟩ := HT.out.below hb; obtain ⟨_, hd0, hd1, hd2, hf0, hf1, hf2⟩ := HR.out.below hb; have HP3 := Lib.hid ((HR.out.below hb).put3 (.int .i64 r) (.int .i64 c) (.slice a n cap)); clear hb) | go_in)
  obtain ⟨hr0, hr1, hr2⟩ := HP3.out
  exact bodyPost_ret (v := .tuple #[.agg #[.int .i64 r, .int .i64 c, .slice a n cap], .bool true]) (by simp [results, Try.results81, go_sem, hr0, hr1, hr2]) rfl
    ⟨rfl, by repeat (first | exact Below.next (Below.next (below_alloc _ _) (below_alloc _ _)) HB.out | refine Below.setCell ?_ (by first | (simp; done) | (simp; omega)) _)⟩
set_option maxRecDepth 100000 in
set_option maxHeartbeats 4000000 in
theorem gtI_no (r c : Int) (a : Option Addr) (n cap : Nat) (zs : List Nat) (w : World) (ha : FRow w a n zs) (hn : n ≤ 1048576) (h : tabB r c zs n = false) :
    Calls Try.prog 81 #[.agg #[.int .i64 r, .int .i64 c, .slice a n cap]] w fun e w' => e = .returned (.tuple #[.agg #[.int .i64 0, .int .i64 0, .slice none 0 0], .bool false]) ∧ Below w.heap.size w w' := by
  have HA := Lib.hid ((ha.alloc (.cells #[.int .i64 r, .int .i64 c, .slice a n cap] 44)).alloc (.cells #[.int .i64 0, .int .i64 0, .slice none 0 0] 44))
  have HT := Lib.hid ((Tab.tin (w := w) (r := r) (c := c) (a := a) (n := n) (cap := cap) (T := 44)).below (below_alloc _ (.cells #[.int .i64 0, .int .i64 0, .slice none 0 0] 44)))
  have HR := Lib.hid (Tin.new' (w := w.alloc (.cells #[.int .i64 r, .int .i64 c, .slice a n cap] 44)) (p := w.heap.size + 1) (r := 0) (c := 0) (v := .slice none 0 0) (T := 44) (by simp))
  clear ha
  go_enter Try.func81, Try.ntmps81
  go_wp2_with (first | (go_at_call 96; refine (valid_impl r c a n cap zs _ HA.out hn).mono ?_; rintro e w2 ⟨rfl, hb⟩; have HB := Lib.hid hb; obtain ⟨_, hc0, hc1, hc2, _⟩ := HT.out.below hb; obtain ⟨_, hd0, hd1, hd2, hf0, hf1, hf2⟩ := HR.out.below hb; have HP3 := Lib.hid ((HR.out.below hb).put3 (.int .i64 0) (.int .i64 0) (.slice none 0 0)); clear hb) | go_in)
  obtain ⟨hr0, hr1, hr2⟩ := HP3.out
  exact bodyPost_ret (v := .tuple #[.agg #[.int .i64 0, .int .i64 0, .slice none 0 0], .bool false]) (by simp [results, Try.results81, go_sem, hr0, hr1, hr2]) rfl
    ⟨rfl, by repeat (first | exact Below.next (Below.next (below_alloc _ _) (below_alloc _ _)) HB.out | refine Below.setCell ?_ (by first | (simp; done) | (simp; omega)) _)⟩
theorem Ent.ok.set {w : World} {g : Nat} {e : Ent} (h : e.ok w g) {a : Addr} (ha : a.block ≠ g) (u : Value) : e.ok (w.setCell a u) g :=
  h.same fun _ => ⟨World.cell?_setCell_far _ _ _ _ ha, World.frozen?_setCell _ _ _ _⟩
theorem Tin.drewN {w : World} {p : Nat} {r c : Int} {v : Value} (h : Tin w p r c v) (q : Nat) : Tin (w.drewN q) p r c v := h
theorem Got.fin' {w w' : World} {T : TypeId} {g n cap : Nat} {V : Nat → Option Nat} (h : Got w' w.heap.size T (.slice (some ⟨g, 0, none⟩) n cap) n V) (hn : n ≠ 0) :
    ∃ zs, w.heap.size ≤ g ∧ g < w'.heap.size ∧ FRow w' (some ⟨g, 0, none⟩) n zs ∧ (∀ i, i < n → cls .f32 (zs.getD i 0) = V i) ∧ Ent.ok w' g (.cl n V) := by
  obtain ⟨g', cap', zs, e, h1, h2, h3, h4, h5⟩ := h.fin hn
  injection e with e1 e2 e3
  injection e1 with e1
  injection e1 with e1
  subst e1
  exact ⟨zs, h1, h2, h3, h4, h5⟩
theorem tab_V {R C n : Nat} {zr : List Nat} {V : Nat → Option Nat} (hR : 1 ≤ R ∧ R ≤ 8) (hC : 1 ≤ C ∧ C ≤ 8) (hn : n = R * C) (h : ∀ i, i < n → cls .f32 (zr.getD i 0) = V i) : tabB (C : Int) (R : Int) zr n = chV V n := by
  unfold tabB
  rw [decide_eq_true (by omega), decide_eq_true (by omega), decide_eq_true (by rw [hn, Nat.mul_comm]; exact Int.natCast_mul C R), chS_V h]
  rfl
def okT (r c : Int) (zs : List Nat) (n : Nat) : Bool := tabB r c zs n && chV (turnV zs r.toNat c.toNat) n
theorem okT_n {r c : Int} {zs : List Nat} {n : Nat} (h : okT r c zs n = true) : n ≤ 1048576 := by
  unfold okT at h
  rw [Bool.and_eq_true] at h
  have := (tab_out h.1).2.2.2.2
  omega
end Go.Proofs.Ytffamppflelflaa
