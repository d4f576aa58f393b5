/- The law MoreBits: its walk. -/
import Derived.Test.YtkllihdfafomnaaMrt
namespace Go.Proofs.Ytkllihdfafomnaa
open Go.Proofs.Ytkllihdfafomnaa.Flo Go.RowKit

set_option maxRecDepth 100000 in
set_option maxHeartbeats 4000000 in
theorem more_walk (a : Option Addr) (n capa : Nat) (za : List Nat) (b : Option Addr) (m capb : Nat) (zb : List Nat) (w : World) (ha : FRow w a n za) (hb : FRow w b m zb) :
    Calls Try.prog 5 #[.slice a n capa, .slice b m capb] w fun e w' => e = .returned (.bool true) ∧ Below w.heap.size w w' := by
  by_cases hma : n ≤ 1048576
  · have hd : decide (1048576 < (n : Int)) = false := by simp; omega
    by_cases hmb : m ≤ 1048576
    · have hd2 : decide (1048576 < (m : Int)) = false := by simp; omega
      have HL : Hid (Live w [(a, n, za), (b, m, zb)]) := Lib.hid (((Live.nil _).cons hb).cons ha)
      have HB : Hid (Below w.heap.size w w) := Lib.hid (Below.refl _ _)
      clear ha hb
      go_enter Try.func5, Try.ntmps5
      go_wp2_with (first | (go_at_call 26; (with_reducible refine (toL a n capa za _ _ HL.out ?_ hma).mono ?_); (next => simp); rintro e w2 ⟨p, rfl, hl, hb⟩; have HL := Lib.hid hl; have HB := Lib.hid (Below.next HB.out hb); clear hl hb) | (go_at_call 26; (with_reducible refine (toL a n capa za _ _ (HL.out.drewN _) ?_ hma).mono ?_); (next => simp); rintro e w2 ⟨p, rfl, hl, hb⟩; have HL := Lib.hid hl; have HB := Lib.hid (Below.next HB.out (Below.ofDrewN hb)); clear hl hb) | (go_at_call 26; (with_reducible refine (toL b m capb zb _ _ HL.out ?_ hmb).mono ?_); (next => simp); rintro e w2 ⟨p, rfl, hl, hb⟩; have HL := Lib.hid hl; have HB := Lib.hid (Below.next HB.out hb); clear hl hb) | (go_at_call 26; (with_reducible refine (toL b m capb zb _ _ (HL.out.drewN _) ?_ hmb).mono ?_); (next => simp); rintro e w2 ⟨p, rfl, hl, hb⟩; have HL := Lib.hid hl; have HB := Lib.hid (Below.next HB.out (Below.ofDrewN hb)); clear hl hb) | (go_at_call 25; refine (moreS _ _ _ _ _ _ za zb _ ?_ ?_ hma hmb).mono ?_; (next => (refine HL.out.get ?_; simp)); (next => (refine HL.out.get ?_; simp)); rintro e w2 ⟨r, rfl, hr, d⟩; have Hr := Lib.hid hr; clear hr; have HL := Lib.hid (HL.out.below d.below); have HB := Lib.hid (Below.next HB.out d.below); clear d) | (go_at_call 27; refine (moreI _ _ _ _ _ _ za zb _ ?_ ?_ hma hmb).mono ?_; (next => (refine HL.out.get ?_; simp)); (next => (refine HL.out.get ?_; simp)); rintro e w2 ⟨r2, rfl, hr, d⟩; have Hr2 := Lib.hid hr; clear hr; have HL := Lib.hid (HL.out.below d); have HB := Lib.hid (Below.next HB.out d); clear d) | (go_at_call 28; refine (sameFloat_true _ _ (by rw [cres_wide, cres_wide, Hr.out, Hr2.out]) _).mono ?_; rintro e w2 ⟨rfl, n3, rfl⟩) | (go_at_call 18; (with_reducible refine (eqL _ _ n _ _ za _ _ HL.out ?_ ?_ hma).mono ?_); (next => simp); (next => simp); rintro e w2 ⟨rfl, hl, hb⟩; have HL := Lib.hid hl; have HB := Lib.hid (Below.next HB.out hb); clear hl hb) | (go_at_call 18; (with_reducible refine (eqL _ _ n _ _ za _ _ (HL.out.drewN _) ?_ ?_ hma).mono ?_); (next => simp); (next => simp); rintro e w2 ⟨rfl, hl, hb⟩; have HL := Lib.hid hl; have HB := Lib.hid (Below.next HB.out (Below.ofDrewN hb)); clear hl hb) | (go_at_call 18; (with_reducible refine (eqL _ _ m _ _ zb _ _ HL.out ?_ ?_ hmb).mono ?_); (next => simp); (next => simp); rintro e w2 ⟨rfl, hl, hb⟩; have HL := Lib.hid hl; have HB := Lib.hid (Below.next HB.out hb); clear hl hb) | (go_at_call 18; (with_reducible refine (eqL _ _ m _ _ zb _ _ (HL.out.drewN _) ?_ ?_ hmb).mono ?_); (next => simp); (next => simp); rintro e w2 ⟨rfl, hl, hb⟩; have HL := Lib.hid hl; have HB := Lib.hid (Below.next HB.out (Below.ofDrewN hb)); clear hl hb) | go_in)
      go_ret
      first | exact ⟨rfl, HB.out⟩ | exact ⟨rfl, Below.drewN' HB.out _⟩
    · go_enter Try.func5, Try.ntmps5
      go_wp2
      go_ret
      exact ⟨rfl, Below.refl _ _⟩
  · go_enter Try.func5, Try.ntmps5
    go_wp2
    go_ret
    exact ⟨rfl, Below.refl _ _⟩
end Go.Proofs.Ytkllihdfafomnaa
