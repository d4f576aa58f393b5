/- Channels: those that are given; classes. -/
import Derived.Test.YtffamppflelflaaChv
namespace Go.Proofs.Ytffamppflelflaa
open Go.Proofs.Ytffamppflelflaa.Flo Go.RowKit

set_option maxRecDepth 100000 in
set_option maxHeartbeats 4000000 in
theorem hgS_yes (r c : Int) (a : Option Addr) (n cap : Nat) (zs : List Nat) (w : World) (ha : FRow w a n zs) (hn : n ≤ 1048576) (hcap : n ≤ cap) (h : chanB r c zs n = true) :
    Calls Try.prog 67 #[.agg #[.int .i64 r, .int .i64 c, .slice a n cap]] w fun e w' => e = .returned (.tuple #[.agg #[.int .i64 r, .int .i64 c, .slice a n cap], .bool true]) ∧ Below w.heap.size w w' := by
  have HA := Lib.hid ((ha.alloc (.cells #[.int .i64 r, .int .i64 c, .slice a n cap] 27)).alloc (.cells #[.int .i64 0, .int .i64 0, .slice none 0 0] 27))
  have HT := Lib.hid ((Tab.tin (w := w) (r := r) (c := c) (a := a) (n := n) (cap := cap) (T := 27)).below (below_alloc _ (.cells #[.int .i64 0, .int .i64 0, .slice none 0 0] 27)))
  have HR := Lib.hid (Tin.new' (w := w.alloc (.cells #[.int .i64 r, .int .i64 c, .slice a n cap] 27)) (p := w.heap.size + 1) (r := 0) (c := 0) (v := .slice none 0 0) (T := 27) (by simp))
  clear ha
  go_enter Try.func67, Try.ntmps67
  go_wp2_with (first | (go_at_call 57; refine (is_spec _ r c a n cap zs _ HA.out hn hcap HT.out.2.1 HT.out.2.2.1 HT.out.2.2.2.1).mono ?_; rintro e w' ⟨rfl, q, rfl⟩) | go_in)
  exact bodyPost_ret (v := .tuple #[.agg #[.int .i64 r, .int .i64 c, .slice a n cap], .bool true]) (by simp [results, Try.results67, go_sem]) rfl
    ⟨rfl, (by repeat (first | exact Below.refl _ _ | refine Below.drew ?_ | refine Below.drewN' ?_ _ | refine Below.alloc ?_ (by first | (simp; done) | (simp; omega)) _ | refine Below.setCell ?_ (by first | (simp; done) | (simp; omega)) _))⟩
set_option maxRecDepth 100000 in
set_option maxHeartbeats 4000000 in
theorem hgS_no (r c : Int) (a : Option Addr) (n cap : Nat) (zs : List Nat) (w : World) (ha : FRow w a n zs) (hn : n ≤ 1048576) (hcap : n ≤ cap) (h : chanB r c zs n = false) :
    Calls Try.prog 67 #[.agg #[.int .i64 r, .int .i64 c, .slice a n cap]] w fun e w' => e = .returned (.tuple #[.agg #[.int .i64 0, .int .i64 0, .slice none 0 0], .bool false]) ∧ Below w.heap.size w w' := by
  have HA := Lib.hid ((ha.alloc (.cells #[.int .i64 r, .int .i64 c, .slice a n cap] 27)).alloc (.cells #[.int .i64 0, .int .i64 0, .slice none 0 0] 27))
  have HT := Lib.hid ((Tab.tin (w := w) (r := r) (c := c) (a := a) (n := n) (cap := cap) (T := 27)).below (below_alloc _ (.cells #[.int .i64 0, .int .i64 0, .slice none 0 0] 27)))
  have HR := Lib.hid (Tin.new' (w := w.alloc (.cells #[.int .i64 r, .int .i64 c, .slice a n cap] 27)) (p := w.heap.size + 1) (r := 0) (c := 0) (v := .slice none 0 0) (T := 27) (by simp))
  clear ha
  go_enter Try.func67, Try.ntmps67
  go_wp2_with (first | (go_at_call 57; refine (is_spec _ r c a n cap zs _ HA.out hn hcap HT.out.2.1 HT.out.2.2.1 HT.out.2.2.2.1).mono ?_; rintro e w' ⟨rfl, q, rfl⟩) | go_in)
  exact bodyPost_ret (v := .tuple #[.agg #[.int .i64 0, .int .i64 0, .slice none 0 0], .bool false]) (by simp [results, Try.results67, go_sem]) rfl
    ⟨rfl, (by repeat (first | exact Below.refl _ _ | refine Below.drew ?_ | refine Below.drewN' ?_ _ | refine Below.alloc ?_ (by first | (simp; done) | (simp; omega)) _ | refine Below.setCell ?_ (by first | (simp; done) | (simp; omega)) _))⟩
set_option maxRecDepth 100000 in
set_option maxHeartbeats 4000000 in
theorem hgI_yes (r c : Int) (a : Option Addr) (n cap : Nat) (zs : List Nat) (w : World) (ha : FRow w a n zs) (hn : n ≤ 1048576) (hcap : n ≤ cap) (h : chanB r c zs n = true) :
    Calls Try.prog 83 #[.agg #[.int .i64 r, .int .i64 c, .slice a n cap]] w fun e w' => e = .returned (.tuple #[.agg #[.int .i64 r, .int .i64 c, .slice a n cap], .bool true]) ∧ Below w.heap.size w w' := by
  have HA := Lib.hid ((ha.alloc (.cells #[.int .i64 r, .int .i64 c, .slice a n cap] 27)).alloc (.cells #[.int .i64 0, .int .i64 0, .slice none 0 0] 27))
  have HT := Lib.hid ((Tab.tin (w := w) (r := r) (c := c) (a := a) (n := n) (cap := cap) (T := 27)).below (below_alloc _ (.cells #[.int .i64 0, .int .i64 0, .slice none 0 0] 27)))
  have HR := Lib.hid (Tin.new' (w := w.alloc (.cells #[.int .i64 r, .int .i64 c, .slice a n cap] 27)) (p := w.heap.size + 1) (r := 0) (c := 0) (v := .slice none 0 0) (T := 27) (by simp))
  clear ha
  go_enter Try.func83, Try.ntmps83
  go_wp2_with (first | (go_at_call 18; refine (hv_impl r c a n cap zs _ HA.out hn hcap).mono ?_; rintro e w2 ⟨rfl, hb⟩; have HB := Lib.hid hb; obtain ⟨_, hc0, hc1, hc2, _⟩ := HT.out.below hb; obtain ⟨_, hd0, hd1, hd2, hf0, hf1, hf2⟩ := HR.out.below hb; have HP3 := Lib.hid ((HR.out.below hb).put3 (.int .i64 r) (.int .i64 c) (.slice a n cap)); clear hb) | go_in)
  obtain ⟨hr0, hr1, hr2⟩ := HP3.out
  exact bodyPost_ret (v := .tuple #[.agg #[.int .i64 r, .int .i64 c, .slice a n cap], .bool true]) (by simp [results, Try.results83, go_sem, hr0, hr1, hr2]) rfl
    ⟨rfl, by repeat (first | exact Below.next (Below.next (below_alloc _ _) (below_alloc _ _)) HB.out | refine Below.setCell ?_ (by first | (simp; done) | (simp; omega)) _)⟩
set_option maxRecDepth 100000 in
set_option maxHeartbeats 4000000 in
theorem hgI_no (r c : Int) (a : Option Addr) (n cap : Nat) (zs : List Nat) (w : World) (ha : FRow w a n zs) (hn : n ≤ 1048576) (hcap : n ≤ cap) (h : chanB r c zs n = false) :
    Calls Try.prog 83 #[.agg #[.int .i64 r, .int .i64 c, .slice a n cap]] w fun e w' => e = .returned (.tuple #[.agg #[.int .i64 0, .int .i64 0, .slice none 0 0], .bool false]) ∧ Below w.heap.size w w' := by
  have HA := Lib.hid ((ha.alloc (.cells #[.int .i64 r, .int .i64 c, .slice a n cap] 27)).alloc (.cells #[.int .i64 0, .int .i64 0, .slice none 0 0] 27))
  have HT := Lib.hid ((Tab.tin (w := w) (r := r) (c := c) (a := a) (n := n) (cap := cap) (T := 27)).below (below_alloc _ (.cells #[.int .i64 0, .int .i64 0, .slice none 0 0] 27)))
  have HR := Lib.hid (Tin.new' (w := w.alloc (.cells #[.int .i64 r, .int .i64 c, .slice a n cap] 27)) (p := w.heap.size + 1) (r := 0) (c := 0) (v := .slice none 0 0) (T := 27) (by simp))
  clear ha
  go_enter Try.func83, Try.ntmps83
  go_wp2_with (first | (go_at_call 18; refine (hv_impl r c a n cap zs _ HA.out hn hcap).mono ?_; rintro e w2 ⟨rfl, hb⟩; have HB := Lib.hid hb; obtain ⟨_, hc0, hc1, hc2, _⟩ := HT.out.below hb; obtain ⟨_, hd0, hd1, hd2, hf0, hf1, hf2⟩ := HR.out.below hb; have HP3 := Lib.hid ((HR.out.below hb).put3 (.int .i64 0) (.int .i64 0) (.slice none 0 0)); clear hb) | go_in)
  obtain ⟨hr0, hr1, hr2⟩ := HP3.out
  exact bodyPost_ret (v := .tuple #[.agg #[.int .i64 0, .int .i64 0, .slice none 0 0], .bool false]) (by simp [results, Try.results83, go_sem, hr0, hr1, hr2]) rfl
    ⟨rfl, by repeat (first | exact Below.next (Below.next (below_alloc _ _) (below_alloc _ _)) HB.out | refine Below.setCell ?_ (by first | (simp; done) | (simp; omega)) _)⟩
/-- A share: from 0 to 1. -/
def shareH (x : Nat) : Bool := ((FloatKind.f32).format.order x 0 == some .gt || (FloatKind.f32).format.order x 0 == some .eq) && ((FloatKind.f32).format.order x 1065353216 == some .lt || (FloatKind.f32).format.order x 1065353216 == some .eq)
theorem shH_true {x : Nat} (h : shareH x = true) : ((FloatKind.f32).format.order x 0 == some .gt || (FloatKind.f32).format.order x 0 == some .eq) = true ∧ ((FloatKind.f32).format.order x 1065353216 == some .lt || (FloatKind.f32).format.order x 1065353216 == some .eq) = true := by
  unfold shareH at h
  rw [Bool.and_eq_true] at h
  exact h
theorem shH_false {x : Nat} (h : shareH x = false) : ((FloatKind.f32).format.order x 0 == some .gt || (FloatKind.f32).format.order x 0 == some .eq) = false ∨ (((FloatKind.f32).format.order x 0 == some .gt || (FloatKind.f32).format.order x 0 == some .eq) = true ∧ ((FloatKind.f32).format.order x 1065353216 == some .lt || (FloatKind.f32).format.order x 1065353216 == some .eq) = false) := by
  unfold shareH at h
  cases h1 : ((FloatKind.f32).format.order x 0 == some .gt || (FloatKind.f32).format.order x 0 == some .eq) with
  | false => exact .inl rfl
  | true => rw [h1, Bool.true_and] at h; exact .inr ⟨rfl, h⟩
set_option maxHeartbeats 1000000 in
theorem shH_spec (x : Nat) (w : World) : Calls Try.prog 66 #[.float .f32 x] w fun e w' => e = .returned (.bool (shareH x)) ∧ w = w' := by
  cases h : shareH x with
  | true =>
    obtain ⟨h1, h2⟩ := shH_true h
    clear h
    go_enter Try.func66, Try.ntmps66
    go_wp2
    go_ret
    exact ⟨rfl, rfl⟩
  | false =>
    rcases shH_false h with h1 | ⟨h1, h2⟩
    · clear h
      go_enter Try.func66, Try.ntmps66
      go_wp2
      go_ret
      exact ⟨rfl, rfl⟩
    · clear h
      go_enter Try.func66, Try.ntmps66
      go_wp2
      go_ret
      exact ⟨rfl, rfl⟩
set_option maxHeartbeats 1000000 in
theorem shH_impl (x : Nat) (w : World) : Calls Try.prog 68 #[.float .f32 x] w fun e w' => e = .returned (.bool (shareH x)) ∧ w = w' := by
  cases h : shareH x with
  | true =>
    obtain ⟨h1, h2⟩ := shH_true h
    clear h
    go_enter Try.func68, Try.ntmps68
    go_wp2
    go_ret
    exact ⟨rfl, rfl⟩
  | false =>
    rcases shH_false h with h1 | ⟨h1, h2⟩
    · clear h
      go_enter Try.func68, Try.ntmps68
      go_wp2
      go_ret
      exact ⟨rfl, rfl⟩
    · clear h
      go_enter Try.func68, Try.ntmps68
      go_wp2
      go_ret
      exact ⟨rfl, rfl⟩
/-- All rows are rows, of classes. -/
def rowsVB (V : Nat → Option Nat) (R C : Nat) : Bool := decide (∀ i, i < R → rowV (fun k => V (i * C + k)) C = true)
def chanVB (V : Nat → Option Nat) (R C : Nat) : Bool := decide (1 ≤ R ∧ R ≤ 8) && (decide (1 ≤ C ∧ C ≤ 8) && rowsVB V R C)
theorem chan_V {R C : Nat} {zr : List Nat} {V : Nat → Option Nat} (h : ∀ i, i < R * C → cls .f32 (zr.getD i 0) = V i) : chanB (R : Int) (C : Int) zr (R * C) = chanVB V R C := by
  have e : rowsB zr R C = rowsVB V R C := by
    unfold rowsB rowsVB
    refine decide_eq_decide.2 ⟨fun g i hi => ?_, fun g i hi => ?_⟩
    · rw [← g i hi]; exact (rowB_V (fun k hk => by rw [sub_get _ _ _ hk]; exact h _ (mul_in rfl hi hk))).symm
    · rw [← g i hi]; exact rowB_V (fun k hk => by rw [sub_get _ _ _ hk]; exact h _ (mul_in rfl hi hk))
  unfold chanB chanVB
  have e1 : decide (1 ≤ (R : Int) ∧ (R : Int) ≤ 8) = decide (1 ≤ R ∧ R ≤ 8) := decide_eq_decide.2 (by omega)
  have e2 : decide (1 ≤ (C : Int) ∧ (C : Int) ≤ 8) = decide (1 ≤ C ∧ C ≤ 8) := decide_eq_decide.2 (by omega)
  rw [e1, e2, decide_eq_true (Int.natCast_mul R C)]
  rw [Bool.true_and, ← e]
  rfl
theorem Got.fin'' {w : World} {base : Nat} {T : TypeId} {g n cap : Nat} {V : Nat → Option Nat} (h : Got w base T (.slice (some ⟨g, 0, none⟩) n cap) n V) (hn : n ≠ 0) :
    ∃ zs, base ≤ g ∧ g < w.heap.size ∧ FRow w (some ⟨g, 0, none⟩) n zs ∧ (∀ i, i < n → cls .f32 (zs.getD i 0) = V i) ∧ Ent.ok w g (.cl n V) := by
  obtain ⟨zs, h1, h2⟩ := h
  obtain ⟨g', cap', e, hg, hgl, hr, hf⟩ := own_row h2 hn
  injection e with e1 e2 e3
  injection e1 with e1
  injection e1 with e1
  subst e1
  exact ⟨zs, hg, hgl, hr, h1, zs, h1, Ent.fl_ok hr hf⟩
end Go.Proofs.Ytffamppflelflaa
