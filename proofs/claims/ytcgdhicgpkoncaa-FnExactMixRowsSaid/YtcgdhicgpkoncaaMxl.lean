/- MixRows: the law. -/
import Derived.Test.YtcgdhicgpkoncaaMxw
namespace Go.Proofs.Ytcgdhicgpkoncaa
open Go.Proofs.Ytcgdhicgpkoncaa.Flo Go.RowKit

theorem okM_n {za zb : List Nat} {sh n m : Nat} (h : okM za zb sh n m = true) : n = m := (two_out (okM_out h).1).1
set_option maxRecDepth 100000 in
set_option maxHeartbeats 8000000 in
theorem mr_walk_yes (a : Option Addr) (n capa : Nat) (za : List Nat) (b : Option Addr) (capb : Nat) (zb : List Nat) (sh : Nat) (w : World) (ha : FRow w a n za) (hb : FRow w b n zb) (hma : n ≤ 1048576) (hok : okM za zb sh n n = true) :
    Calls Try.prog 3 #[.slice a n capa, .slice b n capb, .float .f32 sh] w fun e w' => e = .returned (.bool true) ∧ Below w.heap.size w w' := by
  have hmb := hma
  have hd : decide (1048576 < (n : Int)) = false := by simp; omega
  have HA := Lib.hid ha
  have HBr := Lib.hid hb
  have HS := Lib.hid (Sep.nil w (Nat.le_refl w.heap.size))
  have HB : Hid (Below w.heap.size w w) := Lib.hid (Below.refl _ _)
  clear ha hb
  go_enter Try.func3, Try.ntmps3
  go_wp2_with (first | (go_at_call 16; (with_reducible refine (toS a n capa za _ w.heap.size _ HS.out ?_ hma).mono ?_); (next => (exact HA.out.below HB.out)); rintro e w2 ⟨p, rfl, hs, hb⟩; have HS := Lib.hid hs; have HB := Lib.hid (Below.next HB.out hb); clear hs hb) | (go_at_call 16; (with_reducible refine (toS a n capa za _ w.heap.size _ (HS.out.drewN _) ?_ hma).mono ?_); (next => (exact (HA.out.below HB.out).drewN _)); rintro e w2 ⟨p, rfl, hs, hb⟩; have HS := Lib.hid hs; have HB := Lib.hid (Below.next HB.out (Below.ofDrewN hb)); clear hs hb) | (go_at_call 16; (with_reducible refine (toS b n capb zb _ w.heap.size _ HS.out ?_ hma).mono ?_); (next => (exact HBr.out.below HB.out)); rintro e w2 ⟨p, rfl, hs, hb⟩; have HS := Lib.hid hs; have HB := Lib.hid (Below.next HB.out hb); clear hs hb) | (go_at_call 16; (with_reducible refine (toS b n capb zb _ w.heap.size _ (HS.out.drewN _) ?_ hma).mono ?_); (next => (exact (HBr.out.below HB.out).drewN _)); rintro e w2 ⟨p, rfl, hs, hb⟩; have HS := Lib.hid hs; have HB := Lib.hid (Below.next HB.out (Below.ofDrewN hb)); clear hs hb) | (go_at_call 15; refine (mrS _ _ _ _ _ _ za zb sh _ ?_ ?_ hma hmb hok).mono ?_; (next => (refine HS.out.get ?_; simp)); (next => (refine HS.out.get ?_; simp)); rintro e w2 ⟨g, cp, rfl, hg1, hg2, hr, hf, hb⟩; have HS := Lib.hid (HS.out.push hb hg1 hg2 hr hf); have HB := Lib.hid (Below.next HB.out hb); clear hr hf hb hg1 hg2) | (go_at_call 17; refine (mrI _ _ _ _ _ _ za zb sh _ ?_ ?_ hma hmb hok).mono ?_; (next => (refine HS.out.get ?_; simp)); (next => (refine HS.out.get ?_; simp)); rintro e w2 ⟨g, cp, rfl, hg1, hg2, hr, hf, hb⟩; have HS := Lib.hid (HS.out.push hb hg1 hg2 hr hf); have HB := Lib.hid (Below.next HB.out hb); clear hr hf hb hg1 hg2) | (go_at_call 18; (with_reducible refine (eqF _ _ n _ _ (mixL sh za zb n) _ ?_ ?_ hma).mono ?_); (next => (refine HS.out.get ?_; simp)); (next => (refine HS.out.get ?_; simp)); rintro e w2 ⟨rfl, d⟩; have HS := Lib.hid (HS.out.below d.below); have HB := Lib.hid (Below.next HB.out d.below); clear d) | (go_at_call 18; (with_reducible refine (eqF _ _ n _ _ za _ ?_ ?_ hma).mono ?_); (next => (refine HS.out.get ?_; simp)); (next => (refine HS.out.get ?_; simp)); rintro e w2 ⟨rfl, d⟩; have HS := Lib.hid (HS.out.below d.below); have HB := Lib.hid (Below.next HB.out d.below); clear d) | (go_at_call 18; (with_reducible refine (eqF _ _ n _ _ zb _ ?_ ?_ hma).mono ?_); (next => (refine HS.out.get ?_; simp)); (next => (refine HS.out.get ?_; simp)); rintro e w2 ⟨rfl, d⟩; have HS := Lib.hid (HS.out.below d.below); have HB := Lib.hid (Below.next HB.out d.below); clear d) | (go_at_call 19; (with_reducible refine (markI _ n _ _ _ _ _ 4 HS.out ?_ hma ?_).mono ?_); (next => rfl); (next => omega); rintro e w2 ⟨rfl, hs, hb⟩; have HS := Lib.hid hs; have HB := Lib.hid (HB.out.trans hb); clear hs hb) | (go_at_call 19; (with_reducible refine (markI _ n _ _ _ _ _ 3 HS.out ?_ hma ?_).mono ?_); (next => rfl); (next => omega); rintro e w2 ⟨rfl, hs, hb⟩; have HS := Lib.hid hs; have HB := Lib.hid (HB.out.trans hb); clear hs hb) | (go_at_call 19; (with_reducible refine (markI _ n _ _ _ _ _ 2 HS.out ?_ hma ?_).mono ?_); (next => rfl); (next => omega); rintro e w2 ⟨rfl, hs, hb⟩; have HS := Lib.hid hs; have HB := Lib.hid (HB.out.trans hb); clear hs hb) | (go_at_call 20; (with_reducible refine (heldS _ n _ _ _ _ _ HS.out ?_ hma ?_).mono ?_); (next => simp); (next => omega); rintro e w2 ⟨rfl, d⟩; have HS := Lib.hid (HS.out.below d.below); have HB := Lib.hid (Below.next HB.out d.below); clear d) | go_in)
  go_ret
  first | exact ⟨rfl, HB.out⟩ | exact ⟨rfl, Below.drewN' HB.out _⟩
set_option maxRecDepth 100000 in
set_option maxHeartbeats 8000000 in
theorem mr_walk_no (a : Option Addr) (n capa : Nat) (za : List Nat) (b : Option Addr) (m capb : Nat) (zb : List Nat) (sh : Nat) (w : World) (ha : FRow w a n za) (hb : FRow w b m zb) (hma : n ≤ 1048576) (hmb : m ≤ 1048576) (hok : okM za zb sh n m = false) :
    Calls Try.prog 3 #[.slice a n capa, .slice b m capb, .float .f32 sh] w fun e w' => e = .returned (.bool true) ∧ Below w.heap.size w w' := by
  have hd : decide (1048576 < (n : Int)) = false := by simp; omega
  have hd2 : decide (1048576 < (m : Int)) = false := by simp; omega
  have HA := Lib.hid ha
  have HBr := Lib.hid hb
  have HS := Lib.hid (Sep.nil w (Nat.le_refl w.heap.size))
  have HB : Hid (Below w.heap.size w w) := Lib.hid (Below.refl _ _)
  clear ha hb
  go_enter Try.func3, Try.ntmps3
  go_wp2_with (first | (go_at_call 16; (with_reducible refine (toS a n capa za _ w.heap.size _ HS.out ?_ hma).mono ?_); (next => (exact HA.out.below HB.out)); rintro e w2 ⟨p, rfl, hs, hb⟩; have HS := Lib.hid hs; have HB := Lib.hid (Below.next HB.out hb); clear hs hb) | (go_at_call 16; (with_reducible refine (toS a n capa za _ w.heap.size _ (HS.out.drewN _) ?_ hma).mono ?_); (next => (exact (HA.out.below HB.out).drewN _)); rintro e w2 ⟨p, rfl, hs, hb⟩; have HS := Lib.hid hs; have HB := Lib.hid (Below.next HB.out (Below.ofDrewN hb)); clear hs hb) | (go_at_call 16; (with_reducible refine (toS b m capb zb _ w.heap.size _ HS.out ?_ hmb).mono ?_); (next => (exact HBr.out.below HB.out)); rintro e w2 ⟨p, rfl, hs, hb⟩; have HS := Lib.hid hs; have HB := Lib.hid (Below.next HB.out hb); clear hs hb) | (go_at_call 16; (with_reducible refine (toS b m capb zb _ w.heap.size _ (HS.out.drewN _) ?_ hmb).mono ?_); (next => (exact (HBr.out.below HB.out).drewN _)); rintro e w2 ⟨p, rfl, hs, hb⟩; have HS := Lib.hid hs; have HB := Lib.hid (Below.next HB.out (Below.ofDrewN hb)); clear hs hb) | (go_at_call 15; refine (mrS' _ _ _ _ _ _ za zb sh _ ?_ ?_ hma hmb hok).mono ?_; (next => (refine HS.out.get ?_; simp)); (next => (refine HS.out.get ?_; simp)); rintro e w2 ⟨rfl, hb⟩; have HS := Lib.hid (HS.out.below hb); have HB := Lib.hid (Below.next HB.out hb); clear hb) | (go_at_call 17; refine (mrI' _ _ _ _ _ _ za zb sh _ ?_ ?_ hma hmb hok).mono ?_; (next => (refine HS.out.get ?_; simp)); (next => (refine HS.out.get ?_; simp)); rintro e w2 ⟨rfl, hb⟩; have HS := Lib.hid (HS.out.below hb); have HB := Lib.hid (Below.next HB.out hb); clear hb) | (go_at_call 18; (with_reducible refine (eqF none none 0 0 0 [] _ (FRow.nil _) (FRow.nil _) (Nat.zero_le _)).mono ?_); rintro e w2 ⟨rfl, d⟩; have HS := Lib.hid (HS.out.below d.below); have HB := Lib.hid (Below.next HB.out d.below); clear d) | (go_at_call 18; (with_reducible refine (eqF _ _ n _ _ za _ ?_ ?_ hma).mono ?_); (next => (refine HS.out.get ?_; simp)); (next => (refine HS.out.get ?_; simp)); rintro e w2 ⟨rfl, d⟩; have HS := Lib.hid (HS.out.below d.below); have HB := Lib.hid (Below.next HB.out d.below); clear d) | (go_at_call 18; (with_reducible refine (eqF _ _ m _ _ zb _ ?_ ?_ hmb).mono ?_); (next => (refine HS.out.get ?_; simp)); (next => (refine HS.out.get ?_; simp)); rintro e w2 ⟨rfl, d⟩; have HS := Lib.hid (HS.out.below d.below); have HB := Lib.hid (Below.next HB.out d.below); clear d) | (go_at_call 19; (with_reducible refine (markNil _ _).mono ?_); rintro e w2 ⟨rfl, rfl⟩) | (go_at_call 20; (with_reducible refine (heldNil _ _).mono ?_); rintro e w2 ⟨rfl, rfl⟩) | (go_at_call 19; (with_reducible refine (markI _ n _ _ _ _ _ 3 HS.out ?_ hma ?_).mono ?_); (next => rfl); (next => omega); rintro e w2 ⟨rfl, hs, hb⟩; have HS := Lib.hid hs; have HB := Lib.hid (HB.out.trans hb); clear hs hb) | (go_at_call 19; (with_reducible refine (markI _ m _ _ _ _ _ 2 HS.out ?_ hmb ?_).mono ?_); (next => rfl); (next => omega); rintro e w2 ⟨rfl, hs, hb⟩; have HS := Lib.hid hs; have HB := Lib.hid (HB.out.trans hb); clear hs hb) | go_in)
  go_ret
  first | exact ⟨rfl, HB.out⟩ | exact ⟨rfl, Below.drewN' HB.out _⟩
theorem mr_walk (a : Option Addr) (n capa : Nat) (za : List Nat) (b : Option Addr) (m capb : Nat) (zb : List Nat) (sh : Nat) (w : World) (ha : FRow w a n za) (hb : FRow w b m zb) (_ : (Lit.float .f32 sh).wf = true) :
    Calls Try.prog 3 #[.slice a n capa, .slice b m capb, .float .f32 sh] w fun e w' => e = .returned (.bool true) ∧ Below w.heap.size w w' := by
  by_cases hma : n ≤ 1048576
  · by_cases hmb : m ≤ 1048576
    · cases hok : okM za zb sh n m with
      | true =>
        obtain rfl : n = m := okM_n hok
        exact mr_walk_yes a n capa za b capb zb sh w ha hb hma hok
      | false => exact mr_walk_no a n capa za b m capb zb sh w ha hb hma hmb hok
    · go_enter Try.func3, Try.ntmps3
      go_wp2
      go_ret
      exact ⟨rfl, Below.refl _ _⟩
  · go_enter Try.func3, Try.ntmps3
    go_wp2
    go_ret
    exact ⟨rfl, Below.refl _ _⟩
end Go.Proofs.Ytcgdhicgpkoncaa
