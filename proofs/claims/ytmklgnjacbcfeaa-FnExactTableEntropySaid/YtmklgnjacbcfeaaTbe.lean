/- TableEntropy: walks and law. -/
import Derived.Test.YtmklgnjacbcfeaaTbw
import Derived.Test.YtmklgnjacbcfeaaCrt
namespace Go.Proofs.Ytmklgnjacbcfeaa
open Go.Proofs.Ytmklgnjacbcfeaa.Flo Go.RowKit

set_option maxHeartbeats 1000000 in
theorem te_spec (r c : Int) (a : Option Addr) (n cap : Nat) (zs : List Nat) (w : World) (h : FRow w a n zs) (hn : n ≤ 1048576) :
    Calls Try.prog 35 #[.agg #[.int .i64 r, .int .i64 c, .slice a n cap]] w fun e w' => ∃ k, e = .returned (.tuple #[.float .f32 k, .bool (tabB r c zs n)]) ∧ cls .f32 k = ansV (tabB r c zs n) (entV zs n) ∧ Below w.heap.size w w' := by
  have HA := Lib.hid (h.alloc (.cells #[.int .i64 r, .int .i64 c, .slice a n cap] 30))
  have HT := Lib.hid (Tab.new w r c a n cap 30)
  clear h
  cases hb : tabB r c zs n with
  | false =>
    have HR := Lib.hid hb
    go_enter Try.func35, Try.ntmps35
    go_wp2_with (first | (go_at_call 52; refine (tab_spec _ r c a n cap zs _ HA.out hn HT.out.2.1 HT.out.2.2.1 HT.out.2.2.2).mono ?_; rintro e w' ⟨rfl, q, rfl⟩) | go_in)
    go_ret2
    exact ⟨0, rfl, rfl, Below.drewN' (below_alloc _ _) _⟩
  | true =>
    have HR := Lib.hid hb
    obtain ⟨_, _, _, hc, hn64⟩ := tab_out hb
    have HC := Lib.hid hc
    clear hc
    go_enter Try.func35, Try.ntmps35
    go_wp2_with (first | (go_at_call 52; refine (tab_spec _ r c a n cap zs _ HA.out hn HT.out.2.1 HT.out.2.2.1 HT.out.2.2.2).mono ?_; rintro e w' ⟨rfl, q, rfl⟩) | (go_at_call 67; refine (ent_spec _ _ _ zs _ (HA.out.drewN _) HC.out hn64).mono ?_; rintro e w' ⟨k, rfl, hr, n2, rfl⟩; have HK := Lib.hid hr; clear hr) | (go_at_call 64; refine (number_spec _ (le_fin (entV_le HC.out hn64) HK.out) _).mono ?_; rintro e w' ⟨rfl, q3, rfl⟩) | go_in)
    go_ret2
    exact ⟨_, rfl, HK.out, Below.drewN' (below_alloc _ _) _⟩
set_option maxHeartbeats 1000000 in
theorem te_impl (r c : Int) (a : Option Addr) (n cap : Nat) (zs : List Nat) (w : World) (h : FRow w a n zs) (hn : n ≤ 1048576) :
    Calls Try.prog 36 #[.agg #[.int .i64 r, .int .i64 c, .slice a n cap]] w fun e w' => ∃ k, e = .returned (.tuple #[.float .f32 k, .bool (tabB r c zs n)]) ∧ cls .f32 k = ansV (tabB r c zs n) (entV zs n) ∧ Below w.heap.size w w' := by
  have HA := Lib.hid (h.alloc (.cells #[.int .i64 r, .int .i64 c, .slice a n cap] 30))
  have HT := Lib.hid (Tab.new w r c a n cap 30)
  clear h
  cases hb : tabB r c zs n with
  | false =>
    have HR := Lib.hid hb
    go_enter Try.func36, Try.ntmps36
    go_wp2_with (first | (go_at_call 22; refine (valid_impl r c a n cap zs _ HA.out hn).mono ?_; rintro e w2 ⟨rfl, hb⟩; have HB := Lib.hid (Below.ofAlloc hb); clear hb) | go_in)
    go_ret2
    exact ⟨0, rfl, rfl, HB.out⟩
  | true =>
    have HR := Lib.hid hb
    obtain ⟨_, _, _, hc, hn64⟩ := tab_out hb
    have HC := Lib.hid hc
    clear hc
    go_enter Try.func36, Try.ntmps36
    go_wp2_with (first | (go_at_call 22; refine (valid_impl r c a n cap zs _ HA.out hn).mono ?_; rintro e w2 ⟨rfl, hb⟩; have HB := Lib.hid (Below.ofAlloc hb); have HA := Lib.hid (HA.out.below hb); obtain ⟨_, hc0, hc1, hc2⟩ := HT.out.below hb; clear hb) | (go_at_call 68; refine (ent_impl _ _ _ zs _ HA.out HC.out hn64).mono ?_; rintro e w' ⟨k, rfl, hr, n2, rfl⟩; have HK := Lib.hid hr; clear hr) | go_in)
    go_ret2
    exact ⟨_, rfl, HK.out, Below.drewN' HB.out _⟩
set_option maxRecDepth 100000 in
set_option maxHeartbeats 4000000 in
theorem te_walk (r c : Int) (a : Option Addr) (n cap : Nat) (za : List Nat) (w : World) (ha : FRow w a n za) (hmax : n ≤ 9223372036854775807) :
    Calls Try.prog 9 #[.agg #[.int .i64 r, .int .i64 c, .slice a n cap]] w fun e w' => e = .returned (.bool true) ∧ Below w.heap.size w w' := by
  have HL : Hid (Live (w.alloc (.cells #[.int .i64 r, .int .i64 c, .slice a n cap] 27)) [(a, n, za)]) := Lib.hid ((Live.nil _).cons (ha.alloc _))
  have HB : Hid (Below w.heap.size w (w.alloc (.cells #[.int .i64 r, .int .i64 c, .slice a n cap] 27))) := Lib.hid (below_alloc _ _)
  have HT := Lib.hid (Tab.new w r c a n cap 27)
  clear ha
  by_cases hm : n ≤ 1048576
  · have hd : decide (1048576 - (n : Int) < 0) = false := by simp; omega
    go_enter Try.func9, Try.ntmps9
    go_wp2_with (first | (go_at_call 19; refine (szT r c a n cap _ hm).mono ?_; rintro e w2 ⟨rfl, hb⟩; have HL := Lib.hid (HL.out.below hb); have HB := Lib.hid (Below.next HB.out hb); have HT := Lib.hid (HT.out.below hb); obtain ⟨_, hc0, hc1, hc2⟩ := HT.out; clear hb) | (go_at_call 21; refine (toT r c a n cap za _ _ HL.out ?_ hm).mono ?_; (next => simp); rintro e w2 ⟨p, rfl, hl, hb⟩; have HL := Lib.hid (HL.out.below hb); have HB := Lib.hid (Below.next HB.out hb); have HT := Lib.hid (HT.out.below hb); obtain ⟨_, hc0, hc1, hc2⟩ := HT.out; have HX := Lib.hid (HX.out.below hb); obtain ⟨_, hx0, hx1, hx2⟩ := HX.out; have HL := Lib.hid hl; clear hl hb) | (go_at_call 21; refine (toT r c a n cap za _ _ HL.out ?_ hm).mono ?_; (next => simp); rintro e w2 ⟨p, rfl, hl, hb⟩; have HL := Lib.hid (HL.out.below hb); have HB := Lib.hid (Below.next HB.out hb); have HT := Lib.hid (HT.out.below hb); obtain ⟨_, hc0, hc1, hc2⟩ := HT.out; have HL := Lib.hid hl; clear hl hb) | (go_at_call 35; refine (te_spec r c _ n _ za _ ?_ hm).mono ?_; (next => (refine HL.out.get ?_; simp)); rintro e w2 ⟨k1, rfl, hr, hb⟩; have Hr := Lib.hid hr; clear hr; have HL := Lib.hid (HL.out.below hb); have HB := Lib.hid (Below.next HB.out hb); have HT := Lib.hid (HT.out.below hb); obtain ⟨_, hc0, hc1, hc2⟩ := HT.out; clear hb) | (go_at_call 36; refine (te_impl r c _ n _ za _ ?_ hm).mono ?_; (next => (refine FRow.alloc (HL.out.get ?_) _; simp)); rintro e w3 ⟨k2, rfl, hr, hb⟩; have Hr2 := Lib.hid hr; clear hr; have HX := Lib.hid ((Tab.new w2 r c _ n _ _).below hb); obtain ⟨_, hx0, hx1, hx2⟩ := HX.out; have hb2 := Below.ofAlloc hb; have HL := Lib.hid (HL.out.below hb2); have HB := Lib.hid (Below.next HB.out hb2); have HT := Lib.hid (HT.out.below hb2); obtain ⟨_, hc0, hc1, hc2⟩ := HT.out; clear hb hb2) | (go_at_call 32; refine (sameFloat_true _ _ (by rw [cres_wide, cres_wide, Hr.out, Hr2.out]) _).mono ?_; rintro e w2 ⟨rfl, n3, rfl⟩) | (go_at_call 21; refine (toT r c a n cap za _ _ (HL.out.drewN _) ?_ hm).mono ?_; (next => simp); rintro e w2 ⟨p, rfl, hl, hb⟩; have hb := Below.ofDrewN hb; have HL := Lib.hid (HL.out.below hb); have HB := Lib.hid (Below.next HB.out hb); have HT := Lib.hid (HT.out.below hb); obtain ⟨_, hc0, hc1, hc2⟩ := HT.out; have HX := Lib.hid (HX.out.below hb); obtain ⟨_, hx0, hx1, hx2⟩ := HX.out; have HL := Lib.hid hl; clear hl hb) | (go_at_call 23; refine (eqT r c _ _ n _ _ za _ _ HL.out ?_ ?_ hm).mono ?_; (next => simp); (next => simp); rintro e w2 ⟨rfl, hl, hb⟩; have HL := Lib.hid hl; have HB := Lib.hid (Below.next HB.out hb); clear hl hb) | go_in)
    go_region_with (first | (go_at_call 21; refine (toT r c a n cap za _ _ HL.out.drew ?_ hm).mono ?_; (next => simp); rintro e w2 ⟨p, rfl, hl, hb⟩; have hb := Below.ofDrew hb; have HL := Lib.hid (HL.out.below hb); have HB := Lib.hid (Below.next HB.out hb); have HT := Lib.hid (HT.out.below hb); obtain ⟨_, hc0, hc1, hc2⟩ := HT.out; have HX := Lib.hid (HX.out.below hb); obtain ⟨_, hx0, hx1, hx2⟩ := HX.out; have HL := Lib.hid hl; clear hl hb) | (go_at_call 21; refine (toT r c a n cap za _ _ (HL.out.drewN _) ?_ hm).mono ?_; (next => simp); rintro e w2 ⟨p, rfl, hl, hb⟩; have hb := Below.ofDrewN hb; have HL := Lib.hid (HL.out.below hb); have HB := Lib.hid (Below.next HB.out hb); have HT := Lib.hid (HT.out.below hb); obtain ⟨_, hc0, hc1, hc2⟩ := HT.out; have HX := Lib.hid (HX.out.below hb); obtain ⟨_, hx0, hx1, hx2⟩ := HX.out; have HL := Lib.hid hl; clear hl hb) | (go_at_call 23; refine (eqT r c _ _ n _ _ za _ _ HL.out ?_ ?_ hm).mono ?_; (next => simp); (next => simp); rintro e w2 ⟨rfl, hl, hb⟩; have HL := Lib.hid hl; have HB := Lib.hid (Below.next HB.out hb); clear hl hb))
    all_goals
      go_wp2
      go_ret
      first | exact ⟨rfl, HB.out⟩ | exact ⟨rfl, Below.drewN' HB.out _⟩
  · go_enter Try.func9, Try.ntmps9
    go_wp2_with (first | (go_at_call 19; refine (szT' r c a n cap _ (by omega) hmax).mono ?_; rintro e w2 ⟨rfl, hb⟩; have HB := Lib.hid (Below.next HB.out hb); clear hb) | go_in)
    go_ret
    exact ⟨rfl, HB.out⟩
end Go.Proofs.Ytmklgnjacbcfeaa
