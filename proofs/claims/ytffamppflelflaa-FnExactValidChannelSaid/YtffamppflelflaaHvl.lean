/- ValidChannel: the law. -/
import Derived.Test.YtffamppflelflaaChv
namespace Go.Proofs.Ytffamppflelflaa
open Go.Proofs.Ytffamppflelflaa.Flo Go.RowKit

set_option maxRecDepth 100000 in
set_option maxHeartbeats 4000000 in
theorem hv_walk (r c : Int) (a : Option Addr) (n cap : Nat) (za : List Nat) (w : World) (ha : FRow w a n za) (hmax : n ≤ 9223372036854775807) :
    Calls Try.prog 3 #[.agg #[.int .i64 r, .int .i64 c, .slice a n cap]] w fun e w' => e = .returned (.bool true) ∧ Below w.heap.size w w' := by
  have HL : Hid (Live (w.alloc (.cells #[.int .i64 r, .int .i64 c, .slice a n cap] 24)) [(a, n, za)]) := Lib.hid ((Live.nil _).cons (ha.alloc _))
  have HB : Hid (Below w.heap.size w (w.alloc (.cells #[.int .i64 r, .int .i64 c, .slice a n cap] 24))) := Lib.hid (below_alloc _ _)
  have HT := Lib.hid (Tab.new w r c a n cap 24)
  clear ha
  by_cases hm : n ≤ 1048576
  · have hd : decide (1048576 - (n : Int) < 0) = false := by simp; omega
    go_enter Try.func3, Try.ntmps3
    go_wp2_with (first | (go_at_call 15; refine (szH r c a n cap _ hm).mono ?_; rintro e w2 ⟨rfl, hb⟩; have HL := Lib.hid (HL.out.below hb); have HB := Lib.hid (Below.next HB.out hb); have HT := Lib.hid (HT.out.below hb); obtain ⟨_, hc0, hc1, hc2⟩ := HT.out; clear hb) | (go_at_call 17; refine (toH r c a n cap za _ _ HL.out ?_ hm).mono ?_; (next => simp); rintro e w2 ⟨p, rfl, hl, hb⟩; have HL := Lib.hid (HL.out.below hb); have HB := Lib.hid (Below.next HB.out hb); have HT := Lib.hid (HT.out.below hb); obtain ⟨_, hc0, hc1, hc2⟩ := HT.out; have HX := Lib.hid (HX.out.below hb); obtain ⟨_, hx0, hx1, hx2⟩ := HX.out; have HL := Lib.hid hl; clear hl hb) | (go_at_call 17; refine (toH r c a n cap za _ _ HL.out ?_ hm).mono ?_; (next => simp); rintro e w2 ⟨p, rfl, hl, hb⟩; have HL := Lib.hid (HL.out.below hb); have HB := Lib.hid (Below.next HB.out hb); have HT := Lib.hid (HT.out.below hb); obtain ⟨_, hc0, hc1, hc2⟩ := HT.out; have HL := Lib.hid hl; clear hl hb) | (go_at_call 16; refine (hv_spec r c _ n _ za _ ?_ hm (Nat.le_refl _)).mono ?_; (next => (refine HL.out.get ?_; simp)); rintro e w2 ⟨rfl, hb⟩; have HL := Lib.hid (HL.out.below hb); have HB := Lib.hid (Below.next HB.out hb); have HT := Lib.hid (HT.out.below hb); obtain ⟨_, hc0, hc1, hc2⟩ := HT.out; clear hb) | (go_at_call 18; refine (hv_impl r c _ n _ za _ ?_ hm (Nat.le_refl _)).mono ?_; (next => (refine FRow.alloc (HL.out.get ?_) _; simp)); rintro e w3 ⟨rfl, hb⟩; have HX := Lib.hid ((Tab.new w2 r c _ n _ _).below hb); obtain ⟨_, hx0, hx1, hx2⟩ := HX.out; have hb2 := Below.ofAlloc hb; have HL := Lib.hid (HL.out.below hb2); have HB := Lib.hid (Below.next HB.out hb2); have HT := Lib.hid (HT.out.below hb2); obtain ⟨_, hc0, hc1, hc2⟩ := HT.out; clear hb hb2) | (go_at_call 19; refine (eqH r c _ _ n _ _ za _ _ HL.out ?_ ?_ hm).mono ?_; (next => simp); (next => simp); rintro e w2 ⟨rfl, hl, hb⟩; have HL := Lib.hid hl; have HB := Lib.hid (Below.next HB.out hb); clear hl hb) | go_in)
    go_region_with (first | (go_at_call 17; refine (toH r c a n cap za _ _ HL.out.drew ?_ hm).mono ?_; (next => simp); rintro e w2 ⟨p, rfl, hl, hb⟩; have hb := Below.ofDrew hb; have HL := Lib.hid (HL.out.below hb); have HB := Lib.hid (Below.next HB.out hb); have HT := Lib.hid (HT.out.below hb); obtain ⟨_, hc0, hc1, hc2⟩ := HT.out; have HX := Lib.hid (HX.out.below hb); obtain ⟨_, hx0, hx1, hx2⟩ := HX.out; have HL := Lib.hid hl; clear hl hb) | (go_at_call 19; refine (eqH r c _ _ n _ _ za _ _ HL.out ?_ ?_ hm).mono ?_; (next => simp); (next => simp); rintro e w2 ⟨rfl, hl, hb⟩; have HL := Lib.hid hl; have HB := Lib.hid (Below.next HB.out hb); clear hl hb))
    all_goals
      go_wp2
      go_ret
      first | exact ⟨rfl, HB.out⟩ | exact ⟨rfl, Below.drewN' HB.out _⟩
  · go_enter Try.func3, Try.ntmps3
    go_wp2_with (first | (go_at_call 15; refine (szH' r c a n cap _ (by omega) hmax).mono ?_; rintro e w2 ⟨rfl, hb⟩; have HB := Lib.hid (Below.next HB.out hb); clear hb) | go_in)
    go_ret
    exact ⟨rfl, HB.out⟩
end Go.Proofs.Ytffamppflelflaa
