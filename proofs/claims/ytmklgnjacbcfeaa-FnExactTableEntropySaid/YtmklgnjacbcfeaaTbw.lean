/- Tables: how one is opened; the laws of ValidTable and TableEntropy. -/
import Derived.Test.YtmklgnjacbcfeaaTbl
import Derived.Test.YtmklgnjacbcfeaaSlo
import Derived.Test.YtmklgnjacbcfeaaIro
import Derived.Deep.Strs
namespace Go.Proofs.Ytmklgnjacbcfeaa
open Go.Proofs.Ytmklgnjacbcfeaa.Flo Go.RowKit

theorem cellsI : Try.prog.cellsOf 2 = 1 := by kernel_rfl
theorem cellsS : Try.prog.cellsOf 22 = 1 := by kernel_rfl
theorem cellsF : Try.prog.cellsOf 39 = 1 := by kernel_rfl
theorem cellsT : Try.prog.cellsOf 27 = 3 := by kernel_rfl
section
open Go.ChangeShapes Go.WideShapes Go.Deep
variable {H : Type} {enc : TypeId × Value → H} {w : World} {base : Nat} {spare : Nat → Bool} {held : Bool}
theorem open_table {fuel : Nat} {cs : List Value} {x : DataW H × List MemPlace} (h : DataW.trod enc Try.prog w base spare held fuel 27 cs = some x) (hs : cs.length = 3) :
    ∃ r c a n cap zs, cs = [.int .i64 r, .int .i64 c, .slice a n cap] ∧ FRow w a n zs ∧ n ≤ 9223372036854775807 := by
  obtain ⟨y0, y1, y2, m, -, -, h0, h1, h2⟩ := trod_struct3 Try.underlying27 h
  match cs, hs with
  | [v0, v1, v2], _ =>
    simp only [cellsI, cellsS, List.drop, List.take] at h0 h1 h2
    obtain ⟨r, e0, _⟩ := trod_i64 Try.underlying2 h0
    obtain ⟨c, e1, _⟩ := trod_i64 Try.underlying2 h1
    rcases open_slice1 Try.underlying22 cellsF h2 with ⟨e2, _⟩ | ⟨y, l, k, mm, q, V, D, Pl, e2, _, hl, hk, _⟩
    · simp at e0 e1 e2
      subst e0; subst e1; subst e2
      obtain ⟨zs, hz⟩ := open_frow Try.underlying22 Try.underlying39 cellsF h2
      exact ⟨r, c, none, 0, 0, zs, rfl, hz, by omega⟩
    · simp at e0 e1 e2
      subst e0; subst e1; subst e2
      obtain ⟨zs, hz⟩ := open_frow Try.underlying22 Try.underlying39 cellsF h2
      unfold maxLen at hk
      exact ⟨r, c, some y, l, k, zs, rfl, hz, by omega⟩
end
set_option maxRecDepth 100000 in
set_option maxHeartbeats 4000000 in
theorem valid_walk (r c : Int) (a : Option Addr) (n cap : Nat) (za : List Nat) (w : World) (ha : FRow w a n za) (hmax : n ≤ 9223372036854775807) :
    Calls Try.prog 4 #[.agg #[.int .i64 r, .int .i64 c, .slice a n cap]] w fun e w' => e = .returned (.bool true) ∧ Below w.heap.size w w' := by
  have HL : Hid (Live (w.alloc (.cells #[.int .i64 r, .int .i64 c, .slice a n cap] 27)) [(a, n, za)]) := Lib.hid ((Live.nil _).cons (ha.alloc _))
  have HB : Hid (Below w.heap.size w (w.alloc (.cells #[.int .i64 r, .int .i64 c, .slice a n cap] 27))) := Lib.hid (below_alloc _ _)
  have HT := Lib.hid (Tab.new w r c a n cap 27)
  clear ha
  by_cases hm : n ≤ 1048576
  · have hd : decide (1048576 - (n : Int) < 0) = false := by simp; omega
    go_enter Try.func4, Try.ntmps4
    go_wp2_with (first | (go_at_call 19; refine (szT r c a n cap _ hm).mono ?_; rintro e w2 ⟨rfl, hb⟩; have HL := Lib.hid (HL.out.below hb); have HB := Lib.hid (Below.next HB.out hb); have HT := Lib.hid (HT.out.below hb); obtain ⟨_, hc0, hc1, hc2⟩ := HT.out; clear hb) | (go_at_call 21; refine (toT r c a n cap za _ _ HL.out ?_ hm).mono ?_; (next => simp); rintro e w2 ⟨p, rfl, hl, hb⟩; have HL := Lib.hid (HL.out.below hb); have HB := Lib.hid (Below.next HB.out hb); have HT := Lib.hid (HT.out.below hb); obtain ⟨_, hc0, hc1, hc2⟩ := HT.out; have HX := Lib.hid (HX.out.below hb); obtain ⟨_, hx0, hx1, hx2⟩ := HX.out; have HL := Lib.hid hl; clear hl hb) | (go_at_call 21; refine (toT r c a n cap za _ _ HL.out ?_ hm).mono ?_; (next => simp); rintro e w2 ⟨p, rfl, hl, hb⟩; have HL := Lib.hid (HL.out.below hb); have HB := Lib.hid (Below.next HB.out hb); have HT := Lib.hid (HT.out.below hb); obtain ⟨_, hc0, hc1, hc2⟩ := HT.out; have HL := Lib.hid hl; clear hl hb) | (go_at_call 20; refine (valid_spec r c _ n _ za _ ?_ hm).mono ?_; (next => (refine HL.out.get ?_; simp)); rintro e w2 ⟨rfl, hb⟩; have HL := Lib.hid (HL.out.below hb); have HB := Lib.hid (Below.next HB.out hb); have HT := Lib.hid (HT.out.below hb); obtain ⟨_, hc0, hc1, hc2⟩ := HT.out; clear hb) | (go_at_call 22; refine (valid_impl r c _ n _ za _ ?_ hm).mono ?_; (next => (refine FRow.alloc (HL.out.get ?_) _; simp)); rintro e w3 ⟨rfl, hb⟩; have HX := Lib.hid ((Tab.new w2 r c _ n _ _).below hb); obtain ⟨_, hx0, hx1, hx2⟩ := HX.out; have hb2 := Below.ofAlloc hb; have HL := Lib.hid (HL.out.below hb2); have HB := Lib.hid (Below.next HB.out hb2); have HT := Lib.hid (HT.out.below hb2); obtain ⟨_, hc0, hc1, hc2⟩ := HT.out; clear hb hb2) | (go_at_call 23; refine (eqT r c _ _ n _ _ za _ _ HL.out ?_ ?_ hm).mono ?_; (next => simp); (next => simp); rintro e w2 ⟨rfl, hl, hb⟩; have HL := Lib.hid hl; have HB := Lib.hid (Below.next HB.out hb); clear hl hb) | go_in)
    go_region_with (first | (go_at_call 21; refine (toT r c a n cap za _ _ HL.out.drew ?_ hm).mono ?_; (next => simp); rintro e w2 ⟨p, rfl, hl, hb⟩; have hb := Below.ofDrew hb; have HL := Lib.hid (HL.out.below hb); have HB := Lib.hid (Below.next HB.out hb); have HT := Lib.hid (HT.out.below hb); obtain ⟨_, hc0, hc1, hc2⟩ := HT.out; have HX := Lib.hid (HX.out.below hb); obtain ⟨_, hx0, hx1, hx2⟩ := HX.out; have HL := Lib.hid hl; clear hl hb) | (go_at_call 23; refine (eqT r c _ _ n _ _ za _ _ HL.out ?_ ?_ hm).mono ?_; (next => simp); (next => simp); rintro e w2 ⟨rfl, hl, hb⟩; have HL := Lib.hid hl; have HB := Lib.hid (Below.next HB.out hb); clear hl hb))
    all_goals
      go_wp2
      go_ret
      first | exact ⟨rfl, HB.out⟩ | exact ⟨rfl, Below.drewN' HB.out _⟩
  · go_enter Try.func4, Try.ntmps4
    go_wp2_with (first | (go_at_call 19; refine (szT' r c a n cap _ (by omega) hmax).mono ?_; rintro e w2 ⟨rfl, hb⟩; have HB := Lib.hid (Below.next HB.out hb); clear hb) | go_in)
    go_ret
    exact ⟨rfl, HB.out⟩
end Go.Proofs.Ytmklgnjacbcfeaa
