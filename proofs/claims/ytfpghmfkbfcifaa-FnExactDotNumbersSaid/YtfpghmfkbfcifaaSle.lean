/- DotNumbers: the law. -/
import Derived.Test.YtfpghmfkbfcifaaSld
import Derived.Test.YtfpghmfkbfcifaaLiv
namespace Go.Proofs.Ytfpghmfkbfcifaa
open Go.Proofs.Ytfpghmfkbfcifaa.Flo Go.RowKit

def ansD (b : Bool) (v : Option Nat) : Option Nat := if b then v else cls .f32 0
def okD (n m : Nat) : Bool := decide (n = m ∧ n ≤ 256)
theorem ret_fd {r : Nat} {b c : Bool} (h : b = c) : Ending.returned (.tuple #[.float .f32 r, .bool b]) = .returned (.tuple #[.float .f32 r, .bool c]) := by rw [h]
theorem dotS2 (a b : Option Addr) (n m cap capb : Nat) (za zb : List Nat) (w : World) (ha : FRow w a n za) (hb : FRow w b m zb) (hn : n ≤ 1048576) (hm : m ≤ 1048576) :
    Calls Try.prog 8 #[.slice a n cap, .slice b m capb] w fun e w' => ∃ r, e = .returned (.tuple #[.float .f32 r, .bool (okD n m)]) ∧ cls .f32 r = ansD (okD n m) (vdot za zb n) ∧ Drew w w' := by
  by_cases h : n = m ∧ n ≤ 256
  · have ho : okD n m = true := decide_eq_true h
    obtain ⟨rfl, h2⟩ := h
    refine (dotN_spec a b n cap capb za zb w ha hb h2).mono ?_
    rintro e w' ⟨r, rfl, hr, d⟩
    exact ⟨r, ret_fd ho.symm, by rw [ho]; exact hr, d⟩
  · have ho : okD n m = false := decide_eq_false h
    refine (dotN_spec' a b n m cap capb w h hn).mono ?_
    rintro e w' ⟨rfl, d⟩
    exact ⟨0, ret_fd ho.symm, by rw [ho]; rfl, d⟩
theorem dotI2 (a b : Option Addr) (n m cap capb : Nat) (za zb : List Nat) (w : World) (ha : FRow w a n za) (hb : FRow w b m zb) (hn : n ≤ 1048576) (hm : m ≤ 1048576) :
    Calls Try.prog 10 #[.slice a n cap, .slice b m capb] w fun e w' => ∃ r, e = .returned (.tuple #[.float .f32 r, .bool (okD n m)]) ∧ cls .f32 r = ansD (okD n m) (vdot za zb n) ∧ Drew w w' := by
  by_cases h : n = m ∧ n ≤ 256
  · have ho : okD n m = true := decide_eq_true h
    obtain ⟨rfl, h2⟩ := h
    refine (dotN_impl a b n cap capb za zb w ha hb h2).mono ?_
    rintro e w' ⟨r, rfl, hr, d⟩
    exact ⟨r, ret_fd ho.symm, by rw [ho]; exact hr, d⟩
  · have ho : okD n m = false := decide_eq_false h
    refine (dotN_impl' a b n m cap capb w h hn hm).mono ?_
    rintro e w' ⟨rfl, d⟩
    exact ⟨0, ret_fd ho.symm, by rw [ho]; rfl, d⟩
set_option maxRecDepth 100000 in
set_option maxHeartbeats 4000000 in
theorem dot_walk (a : Option Addr) (n capa : Nat) (za : List Nat) (b : Option Addr) (m capb : Nat) (zb : List Nat) (w : World) (ha : FRow w a n za) (hb : FRow w b m zb) :
    Calls Try.prog 3 #[.slice a n capa, .slice b m capb] w fun e w' => e = .returned (.bool true) ∧ Below w.heap.size w w' := by
  by_cases hma : n ≤ 1048576
  · have hd : decide (1048576 < (n : Int)) = false := by simp; omega
    by_cases hmb : m ≤ 1048576
    · have hd2 : decide (1048576 < (m : Int)) = false := by simp; omega
      have HL : Hid (Live w [(a, n, za), (b, m, zb)]) := Lib.hid (((Live.nil _).cons hb).cons ha)
      have HB : Hid (Below w.heap.size w w) := Lib.hid (Below.refl _ _)
      clear ha hb
      go_enter Try.func3, Try.ntmps3
      go_wp2_with (first | (go_at_call 9; (with_reducible refine (toL a n capa za _ _ HL.out ?_ hma).mono ?_); (next => simp); rintro e w2 ⟨p, rfl, hl, hb⟩; have HL := Lib.hid hl; have HB := Lib.hid (Below.next HB.out hb); clear hl hb) | (go_at_call 9; (with_reducible refine (toL a n capa za _ _ (HL.out.drewN _) ?_ hma).mono ?_); (next => simp); rintro e w2 ⟨p, rfl, hl, hb⟩; have HL := Lib.hid hl; have HB := Lib.hid (Below.next HB.out (Below.ofDrewN hb)); clear hl hb) | (go_at_call 9; (with_reducible refine (toL b m capb zb _ _ HL.out ?_ hmb).mono ?_); (next => simp); rintro e w2 ⟨p, rfl, hl, hb⟩; have HL := Lib.hid hl; have HB := Lib.hid (Below.next HB.out hb); clear hl hb) | (go_at_call 9; (with_reducible refine (toL b m capb zb _ _ (HL.out.drewN _) ?_ hmb).mono ?_); (next => simp); rintro e w2 ⟨p, rfl, hl, hb⟩; have HL := Lib.hid hl; have HB := Lib.hid (Below.next HB.out (Below.ofDrewN hb)); clear hl hb) | (go_at_call 8; refine (dotS2 _ _ _ _ _ _ za zb _ ?_ ?_ hma hmb).mono ?_; (next => (refine HL.out.get ?_; simp)); (next => (refine HL.out.get ?_; simp)); rintro e w2 ⟨r, rfl, hr, d⟩; have Hr := Lib.hid hr; clear hr; have HL := Lib.hid (HL.out.below d.below); have HB := Lib.hid (Below.next HB.out d.below); clear d) | (go_at_call 10; refine (dotI2 _ _ _ _ _ _ za zb _ ?_ ?_ hma hmb).mono ?_; (next => (refine HL.out.get ?_; simp)); (next => (refine HL.out.get ?_; simp)); rintro e w2 ⟨r2, rfl, hr, d⟩; have Hr2 := Lib.hid hr; clear hr; have HL := Lib.hid (HL.out.below d.below); have HB := Lib.hid (Below.next HB.out d.below); clear d) | (go_at_call 11; refine (sameFloat_true _ _ (by rw [cres_wide, cres_wide, Hr.out, Hr2.out]) _).mono ?_; rintro e w2 ⟨rfl, n3, rfl⟩) | (go_at_call 12; (with_reducible refine (eqL _ _ n _ _ za _ _ HL.out ?_ ?_ hma).mono ?_); (next => simp); (next => simp); rintro e w2 ⟨rfl, hl, hb⟩; have HL := Lib.hid hl; have HB := Lib.hid (Below.next HB.out hb); clear hl hb) | (go_at_call 12; (with_reducible refine (eqL _ _ n _ _ za _ _ (HL.out.drewN _) ?_ ?_ hma).mono ?_); (next => simp); (next => simp); rintro e w2 ⟨rfl, hl, hb⟩; have HL := Lib.hid hl; have HB := Lib.hid (Below.next HB.out (Below.ofDrewN hb)); clear hl hb) | (go_at_call 12; (with_reducible refine (eqL _ _ m _ _ zb _ _ HL.out ?_ ?_ hmb).mono ?_); (next => simp); (next => simp); rintro e w2 ⟨rfl, hl, hb⟩; have HL := Lib.hid hl; have HB := Lib.hid (Below.next HB.out hb); clear hl hb) | (go_at_call 12; (with_reducible refine (eqL _ _ m _ _ zb _ _ (HL.out.drewN _) ?_ ?_ hmb).mono ?_); (next => simp); (next => simp); rintro e w2 ⟨rfl, hl, hb⟩; have HL := Lib.hid hl; have HB := Lib.hid (Below.next HB.out (Below.ofDrewN hb)); clear hl hb) | go_in)
      go_ret
      first | exact ⟨rfl, HB.out⟩ | exact ⟨rfl, Below.drewN' HB.out _⟩
    · go_enter Try.func3, Try.ntmps3
      go_wp2
      go_ret
      exact ⟨rfl, Below.refl _ _⟩
  · go_enter Try.func3, Try.ntmps3
    go_wp2
    go_ret
    exact ⟨rfl, Below.refl _ _⟩
end Go.Proofs.Ytfpghmfkbfcifaa
