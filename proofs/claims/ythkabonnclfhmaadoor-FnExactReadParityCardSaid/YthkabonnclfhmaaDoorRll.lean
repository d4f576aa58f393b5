
/- ReadList: the law. -/
import Derived.Test.YthkabonnclfhmaaDoorRlw
import Derived.Test.YthkabonnclfhmaaDoorFrz
namespace Go.Proofs.YthkabonnclfhmaaDoor
open Go.Proofs.YthkabonnclfhmaaDoor.Flo Go.RowKit

/-- The numbers that a text of a list tells. -/
def rlV (s : ByteArray) : List Int := if isNone s then [] else (cutL 44 s.data.toList).map fun p => (Dcn.rdO p).getD 0
theorem rl_n (s : ByteArray) (h : rlOk s = true) : rlN s ≤ 1048576 := by
  cases hno : isNone s
  · rw [rlN_else hno]
    rw [rlOk_else hno] at h
    unfold rlB at h
    rw [Bool.and_eq_true] at h
    have := of_decide_eq_true h.1
    omega
  · rw [rlN_none hno]; omega
theorem rl_new {s : ByteArray} {w w' : World} {e : Ending} (h : RlPost s w e w') (hok : rlOk s = true) (hpos : 0 < rlN s) : ∃ g cp, e = .returned (.tuple #[.slice (some ⟨g, 0, none⟩) (rlN s) cp, .bool true]) ∧ New w w' g (.il (rlN s) (rlV s)) := by
  obtain ⟨g, cp, he, h1, h2, h3, h4⟩ := GPost.yes h hok (by omega)
  have hno : isNone s = false := by
    cases hno : isNone s
    · rfl
    · rw [rlN_none hno] at hpos; omega
  have hN := rlN_else hno
  have hV : rlV s = (cutL 44 s.data.toList).map fun p => (Dcn.rdO p).getD 0 := by unfold rlV; rw [hno]; rfl
  refine ⟨g, cp, he, h1, h2, Ent.il_ok ⟨by rw [hV, List.length_map, hN], .inr ⟨g, 0, rfl, h2, fun i hi => ?_⟩⟩ (fun j hj => (h3.2 j hj).2), h4⟩
  rw [Nat.zero_add, (h3.2 i hi).1]
  show some (rlF (cutL 44 s.data.toList) i) = _
  rw [hN] at hi
  rw [hV]
  unfold rlF
  simp [List.getD_eq_getElem?_getD, hi]
theorem rl_zero {s : ByteArray} {w w' : World} {e : Ending} (h : RlPost s w e w') (hok : rlOk s = true) (h0 : rlN s = 0) : ∃ b cp, e = .returned (.tuple #[.slice b 0 cp, .bool true]) ∧ Below w.heap.size w w' := by
  rcases h with ⟨_, ⟨v, he, hg⟩, hb⟩ | ⟨h1, _⟩
  · rw [h0] at hg
    obtain ⟨a, cp, rfl⟩ := hg.zero
    exact ⟨a, cp, he, hb⟩
  · rw [hok] at h1; cases h1
theorem rl_none {s : ByteArray} {w w' : World} {e : Ending} (h : RlPost s w e w') (hok : rlOk s = false) : e = .returned (.tuple #[.slice none 0 0, .bool false]) ∧ Below w.heap.size w w' := by
  rcases h with ⟨h1, _⟩ | ⟨_, he, hb⟩
  · rw [hok] at h1; cases h1
  · exact ⟨he, hb⟩
set_option maxRecDepth 100000 in
set_option maxHeartbeats 64000000 in
theorem rl_yes (x1 : ByteArray) (w : World)   (hs1 : x1.size ≤ 1048576) (hok : rlOk x1 = true) (hpos : 0 < rlN x1) (hpw : Pow w) (her : Errs w) (hmx : MaxL w) :
    Calls Tryd.prog 6 #[.string x1] w fun e w' => e = .returned (.bool true) ∧ Below w.heap.size w w' := by
  have hmN : (rlN x1) ≤ 1048576 := rl_n x1 hok
  have hd1 : decide (1048576 < (x1.size : Int)) = false := decide_eq_false (by omega)
  have HPW := Lib.hid hpw
  have HER := Lib.hid her
  have HMX := Lib.hid hmx
  clear hpw her hmx
  have HPOS := Lib.hid hpos
  clear hpos
  have HS := Lib.hid (Mine.nil w)
  go_enter Tryd.func6, Tryd.ntmps6
  go_wp2_with (first | (go_at_call 23; (first | (refine (HS.out.keep ((rl_spec x1 hs1 _).mono fun _ _ q => rl_new q hok HPOS.out)).mono ?_) | (refine ((HS.out.drewN _).keep ((rl_spec x1 hs1 _).mono fun _ _ q => rl_new q hok HPOS.out)).mono ?_) | (refine (HS.out.drew.keep ((rl_spec x1 hs1 _).mono fun _ _ q => rl_new q hok HPOS.out)).mono ?_) | (refine ((HS.out.alloc3 _ _ _ _).keep ((rl_spec x1 hs1 _).mono fun _ _ q => rl_new q hok HPOS.out)).mono ?_) | (refine (((HS.out.alloc3 _ _ _ _).drewN _).keep (rlS x1 _   hok)).mono ?_) | (refine ((HS.out.alloc3 _ _ _ _).drew.keep ((rl_spec x1 hs1 _).mono fun _ _ q => rl_new q hok HPOS.out)).mono ?_)); rintro e w2 ⟨⟨g, cp, rfl, hn⟩, hs⟩; have hs := hs.add hn; clear hn; have HS := Lib.hid hs; clear hs; skip) | (go_at_call 24; (first | (refine (HS.out.keep ((rl_impl x1 hs1 w _ HPW.out HER.out HMX.out HS.out.out).mono fun _ _ q => rl_new q hok HPOS.out)).mono ?_) | (refine ((HS.out.drewN _).keep ((rl_impl x1 hs1 w _ HPW.out HER.out HMX.out (HS.out.drewN _).out).mono fun _ _ q => rl_new q hok HPOS.out)).mono ?_) | (refine (HS.out.drew.keep ((rl_impl x1 hs1 w _ HPW.out HER.out HMX.out HS.out.drew.out).mono fun _ _ q => rl_new q hok HPOS.out)).mono ?_) | (refine ((HS.out.alloc3 _ _ _ _).keep ((rl_impl x1 hs1 w _ HPW.out HER.out HMX.out (HS.out.alloc3 _ _ _ _).out).mono fun _ _ q => rl_new q hok HPOS.out)).mono ?_) | (refine (((HS.out.alloc3 _ _ _ _).drewN _).keep (rlI x1 _   hok)).mono ?_) | (refine ((HS.out.alloc3 _ _ _ _).drew.keep ((rl_impl x1 hs1 w _ HPW.out HER.out HMX.out (HS.out.alloc3 _ _ _ _).drew.out).mono fun _ _ q => rl_new q hok HPOS.out)).mono ?_)); rintro e w2 ⟨⟨g, cp, rfl, hn⟩, hs⟩; have hs := hs.add hn; clear hn; have HS := Lib.hid hs; clear hs; skip) | (go_at_call 22; (first | (with_reducible refine (eqMI _ _ (rlN x1) _ _ (rlV x1) _ w _ HS.out ?_ ?_ hmN).mono ?_) | (with_reducible refine (eqMI _ _ (rlN x1) _ _ (rlV x1) _ w _ (HS.out.drewN _) ?_ ?_ hmN).mono ?_) | (with_reducible refine (eqMI _ _ (rlN x1) _ _ (rlV x1) _ w _ HS.out.drew ?_ ?_ hmN).mono ?_) | (with_reducible refine (eqMI _ _ (rlN x1) _ _ (rlV x1) _ w _ (HS.out.alloc3 _ _ _ _) ?_ ?_ hmN).mono ?_) | (with_reducible refine (eqMI _ _ (rlN x1) _ _ (rlV x1) _ w _ ((HS.out.alloc3 _ _ _ _).drewN _) ?_ ?_ hmN).mono ?_) | (with_reducible refine (eqMI _ _ (rlN x1) _ _ (rlV x1) _ w _ (HS.out.alloc3 _ _ _ _).drew ?_ ?_ hmN).mono ?_)); (next => (simp; done)); (next => (simp; done)); rintro e w2 ⟨rfl, hs⟩; have HS := Lib.hid hs; clear hs; skip) | (go_at_call 25; (first | ((with_reducible refine (markMI _ (rlN x1) _ (rlV x1) _ _ w _ 0 HS.out ?_ hmN ?_).mono ?_); (next => rfl); (next => omega)) | ((with_reducible refine (markMI _ (rlN x1) _ (rlV x1) _ _ w _ 0 (HS.out.drewN _) ?_ hmN ?_).mono ?_); (next => rfl); (next => omega)) | ((with_reducible refine (markMI _ (rlN x1) _ (rlV x1) _ _ w _ 1 HS.out ?_ hmN ?_).mono ?_); (next => rfl); (next => omega)) | ((with_reducible refine (markMI _ (rlN x1) _ (rlV x1) _ _ w _ 1 (HS.out.drewN _) ?_ hmN ?_).mono ?_); (next => rfl); (next => omega)) | ((with_reducible refine (markMI _ (rlN x1) _ (rlV x1) _ _ w _ 2 HS.out ?_ hmN ?_).mono ?_); (next => rfl); (next => omega)) | ((with_reducible refine (markMI _ (rlN x1) _ (rlV x1) _ _ w _ 2 (HS.out.drewN _) ?_ hmN ?_).mono ?_); (next => rfl); (next => omega)) | ((with_reducible refine (markMI _ (rlN x1) _ (rlV x1) _ _ w _ 3 HS.out ?_ hmN ?_).mono ?_); (next => rfl); (next => omega)) | ((with_reducible refine (markMI _ (rlN x1) _ (rlV x1) _ _ w _ 3 (HS.out.drewN _) ?_ hmN ?_).mono ?_); (next => rfl); (next => omega)) | ((with_reducible refine (markMI _ (rlN x1) _ (rlV x1) _ _ w _ 4 HS.out ?_ hmN ?_).mono ?_); (next => rfl); (next => omega)) | ((with_reducible refine (markMI _ (rlN x1) _ (rlV x1) _ _ w _ 4 (HS.out.drewN _) ?_ hmN ?_).mono ?_); (next => rfl); (next => omega)) | ((with_reducible refine (markMI _ (rlN x1) _ (rlV x1) _ _ w _ 5 HS.out ?_ hmN ?_).mono ?_); (next => rfl); (next => omega)) | ((with_reducible refine (markMI _ (rlN x1) _ (rlV x1) _ _ w _ 5 (HS.out.drewN _) ?_ hmN ?_).mono ?_); (next => rfl); (next => omega)) | ((with_reducible refine (markMI _ (rlN x1) _ (rlV x1) _ _ w _ 6 HS.out ?_ hmN ?_).mono ?_); (next => rfl); (next => omega)) | ((with_reducible refine (markMI _ (rlN x1) _ (rlV x1) _ _ w _ 6 (HS.out.drewN _) ?_ hmN ?_).mono ?_); (next => rfl); (next => omega)) | ((with_reducible refine (markMI _ (rlN x1) _ (rlV x1) _ _ w _ 7 HS.out ?_ hmN ?_).mono ?_); (next => rfl); (next => omega)) | ((with_reducible refine (markMI _ (rlN x1) _ (rlV x1) _ _ w _ 7 (HS.out.drewN _) ?_ hmN ?_).mono ?_); (next => rfl); (next => omega))); rintro e w2 ⟨rfl, hs⟩; have HS := Lib.hid hs; clear hs; skip) | (go_at_call 26; (first | (with_reducible refine (heldMI _ (rlN x1) _ _ _ w _ HS.out ?_ hmN ?_).mono ?_) | (with_reducible refine (heldMI _ (rlN x1) _ _ _ w _ (HS.out.drewN _) ?_ hmN ?_).mono ?_) | (with_reducible refine (heldMI _ (rlN x1) _ _ _ w _ HS.out.drew ?_ hmN ?_).mono ?_) | (with_reducible refine (heldMI _ (rlN x1) _ _ _ w _ (HS.out.alloc3 _ _ _ _) ?_ hmN ?_).mono ?_) | (with_reducible refine (heldMI _ (rlN x1) _ _ _ w _ ((HS.out.alloc3 _ _ _ _).drewN _) ?_ hmN ?_).mono ?_) | (with_reducible refine (heldMI _ (rlN x1) _ _ _ w _ (HS.out.alloc3 _ _ _ _).drew ?_ hmN ?_).mono ?_)); (next => (simp; done)); (next => omega); rintro e w2 ⟨rfl, hs⟩; have HS := Lib.hid hs; clear hs; skip) | go_in)
  go_ret
  first | exact ⟨rfl, HS.out.out⟩ | exact ⟨rfl, (HS.out.drewN _).out⟩
set_option maxRecDepth 100000 in
set_option maxHeartbeats 64000000 in
theorem rl_no (x1 : ByteArray) (w : World)   (hs1 : x1.size ≤ 1048576) (hok : rlOk x1 = false) (hpw : Pow w) (her : Errs w) (hmx : MaxL w) :
    Calls Tryd.prog 6 #[.string x1] w fun e w' => e = .returned (.bool true) ∧ Below w.heap.size w w' := by
  have hd1 : decide (1048576 < (x1.size : Int)) = false := decide_eq_false (by omega)
  have HPW := Lib.hid hpw
  have HER := Lib.hid her
  have HMX := Lib.hid hmx
  clear hpw her hmx
  have HS := Lib.hid (Mine.nil w)
  go_enter Tryd.func6, Tryd.ntmps6
  go_wp2_with (first | (go_at_call 23; (first | (refine (HS.out.keep ((rl_spec x1 hs1 _).mono fun _ _ q => rl_none q hok)).mono ?_) | (refine ((HS.out.drewN _).keep ((rl_spec x1 hs1 _).mono fun _ _ q => rl_none q hok)).mono ?_) | (refine (HS.out.drew.keep ((rl_spec x1 hs1 _).mono fun _ _ q => rl_none q hok)).mono ?_) | (refine ((HS.out.alloc3 _ _ _ _).keep ((rl_spec x1 hs1 _).mono fun _ _ q => rl_none q hok)).mono ?_) | (refine (((HS.out.alloc3 _ _ _ _).drewN _).keep (rlSN x1 _   hok)).mono ?_) | (refine ((HS.out.alloc3 _ _ _ _).drew.keep ((rl_spec x1 hs1 _).mono fun _ _ q => rl_none q hok)).mono ?_)); rintro e w2 ⟨⟨rfl, hb⟩, hs⟩; have hs := hs.below hb; clear hb; have HS := Lib.hid hs; clear hs; skip) | (go_at_call 24; (first | (refine (HS.out.keep ((rl_impl x1 hs1 w _ HPW.out HER.out HMX.out HS.out.out).mono fun _ _ q => rl_none q hok)).mono ?_) | (refine ((HS.out.drewN _).keep ((rl_impl x1 hs1 w _ HPW.out HER.out HMX.out (HS.out.drewN _).out).mono fun _ _ q => rl_none q hok)).mono ?_) | (refine (HS.out.drew.keep ((rl_impl x1 hs1 w _ HPW.out HER.out HMX.out HS.out.drew.out).mono fun _ _ q => rl_none q hok)).mono ?_) | (refine ((HS.out.alloc3 _ _ _ _).keep ((rl_impl x1 hs1 w _ HPW.out HER.out HMX.out (HS.out.alloc3 _ _ _ _).out).mono fun _ _ q => rl_none q hok)).mono ?_) | (refine (((HS.out.alloc3 _ _ _ _).drewN _).keep (rlIN x1 _   hok)).mono ?_) | (refine ((HS.out.alloc3 _ _ _ _).drew.keep ((rl_impl x1 hs1 w _ HPW.out HER.out HMX.out (HS.out.alloc3 _ _ _ _).drew.out).mono fun _ _ q => rl_none q hok)).mono ?_)); rintro e w2 ⟨⟨rfl, hb⟩, hs⟩; have hs := hs.below hb; clear hb; have HS := Lib.hid hs; clear hs; skip) | (go_at_call 22; (first | (with_reducible refine (eqMI0 _ w _ HS.out).mono ?_) | (with_reducible refine (eqMI0 _ w _ (HS.out.drewN _)).mono ?_) | (with_reducible refine (eqMI0 _ w _ HS.out.drew).mono ?_) | (with_reducible refine (eqMI0 _ w _ (HS.out.alloc3 _ _ _ _)).mono ?_) | (with_reducible refine (eqMI0 _ w _ ((HS.out.alloc3 _ _ _ _).drewN _)).mono ?_) | (with_reducible refine (eqMI0 _ w _ (HS.out.alloc3 _ _ _ _).drew).mono ?_)); rintro e w2 ⟨rfl, hs⟩; have HS := Lib.hid hs; clear hs; skip) | (go_at_call 25; (with_reducible refine (markNilI _ _).mono ?_); rintro e w2 ⟨rfl, rfl⟩) | (go_at_call 26; (with_reducible refine (heldNilI _ _).mono ?_); rintro e w2 ⟨rfl, rfl⟩) | go_in)
  go_ret
  first | exact ⟨rfl, HS.out.out⟩ | exact ⟨rfl, (HS.out.drewN _).out⟩
set_option maxRecDepth 100000 in
set_option maxHeartbeats 64000000 in
theorem rl_zer (x1 : ByteArray) (w : World)   (hs1 : x1.size ≤ 1048576) (hok : rlOk x1 = true) (hz9 : rlN x1 = 0) (hpw : Pow w) (her : Errs w) (hmx : MaxL w) :
    Calls Tryd.prog 6 #[.string x1] w fun e w' => e = .returned (.bool true) ∧ Below w.heap.size w w' := by
  have hd1 : decide (1048576 < (x1.size : Int)) = false := decide_eq_false (by omega)
  have HPW := Lib.hid hpw
  have HER := Lib.hid her
  have HMX := Lib.hid hmx
  clear hpw her hmx
  have HZ9 := Lib.hid hz9
  clear hz9
  have HS := Lib.hid (Mine.nil w)
  go_enter Tryd.func6, Tryd.ntmps6
  go_wp2_with (first | (go_at_call 23; (first | (refine (HS.out.keep ((rl_spec x1 hs1 _).mono fun _ _ q => rl_zero q hok HZ9.out)).mono ?_) | (refine ((HS.out.drewN _).keep ((rl_spec x1 hs1 _).mono fun _ _ q => rl_zero q hok HZ9.out)).mono ?_) | (refine (HS.out.drew.keep ((rl_spec x1 hs1 _).mono fun _ _ q => rl_zero q hok HZ9.out)).mono ?_) | (refine ((HS.out.alloc3 _ _ _ _).keep ((rl_spec x1 hs1 _).mono fun _ _ q => rl_zero q hok HZ9.out)).mono ?_) | (refine (((HS.out.alloc3 _ _ _ _).drewN _).keep (rlSN x1 _   hok)).mono ?_) | (refine ((HS.out.alloc3 _ _ _ _).drew.keep ((rl_spec x1 hs1 _).mono fun _ _ q => rl_zero q hok HZ9.out)).mono ?_)); rintro e w2 ⟨⟨b, cp, rfl, hb⟩, hs⟩; have hs := hs.below hb; clear hb; have HS := Lib.hid hs; clear hs; skip) | (go_at_call 24; (first | (refine (HS.out.keep ((rl_impl x1 hs1 w _ HPW.out HER.out HMX.out HS.out.out).mono fun _ _ q => rl_zero q hok HZ9.out)).mono ?_) | (refine ((HS.out.drewN _).keep ((rl_impl x1 hs1 w _ HPW.out HER.out HMX.out (HS.out.drewN _).out).mono fun _ _ q => rl_zero q hok HZ9.out)).mono ?_) | (refine (HS.out.drew.keep ((rl_impl x1 hs1 w _ HPW.out HER.out HMX.out HS.out.drew.out).mono fun _ _ q => rl_zero q hok HZ9.out)).mono ?_) | (refine ((HS.out.alloc3 _ _ _ _).keep ((rl_impl x1 hs1 w _ HPW.out HER.out HMX.out (HS.out.alloc3 _ _ _ _).out).mono fun _ _ q => rl_zero q hok HZ9.out)).mono ?_) | (refine (((HS.out.alloc3 _ _ _ _).drewN _).keep (rlIN x1 _   hok)).mono ?_) | (refine ((HS.out.alloc3 _ _ _ _).drew.keep ((rl_impl x1 hs1 w _ HPW.out HER.out HMX.out (HS.out.alloc3 _ _ _ _).drew.out).mono fun _ _ q => rl_zero q hok HZ9.out)).mono ?_)); rintro e w2 ⟨⟨b, cp, rfl, hb⟩, hs⟩; have hs := hs.below hb; clear hb; have HS := Lib.hid hs; clear hs; skip) | (go_at_call 22; (first | (with_reducible refine (eqMIz _ _ _ _ _ w _ HS.out).mono ?_) | (with_reducible refine (eqMIz _ _ _ _ _ w _ (HS.out.drewN _)).mono ?_) | (with_reducible refine (eqMIz _ _ _ _ _ w _ HS.out.drew).mono ?_) | (with_reducible refine (eqMIz _ _ _ _ _ w _ (HS.out.alloc3 _ _ _ _)).mono ?_) | (with_reducible refine (eqMIz _ _ _ _ _ w _ ((HS.out.alloc3 _ _ _ _).drewN _)).mono ?_) | (with_reducible refine (eqMIz _ _ _ _ _ w _ (HS.out.alloc3 _ _ _ _).drew).mono ?_)); rintro e w2 ⟨rfl, hs⟩; have HS := Lib.hid hs; clear hs; skip) | (go_at_call 25; (with_reducible refine (markIz _ _ _ _).mono ?_); rintro e w2 ⟨rfl, rfl⟩) | (go_at_call 26; (with_reducible refine (heldIz _ _ _ _).mono ?_); rintro e w2 ⟨rfl, rfl⟩) | go_in)
  go_ret
  first | exact ⟨rfl, HS.out.out⟩ | exact ⟨rfl, (HS.out.drewN _).out⟩
set_option maxRecDepth 100000 in
set_option maxHeartbeats 4000000 in
theorem rll_walk (x1 : ByteArray) (w : World) (_ : x1.size ≤ maxLen) (hT : Lib.TabIs Tryd.prog w "internal/strconv.uint64pow10" .u64 Lib.pow10Tab) {t1 t2 : TypeId} {p1 p2 : Value} (h1 : w.var? Tryd.prog "strconv.ErrSyntax" = some #[.iface t1 p1]) (h2 : w.var? Tryd.prog "strconv.ErrRange" = some #[.iface t2 p2]) (h3 : ∃ m, w.cell? ⟨3, 0, none⟩ = some (.int .i64 m)) :
    Calls Tryd.prog 6 #[.string x1] w fun e w' => e = .returned (.bool true) ∧ Below w.heap.size w w' := by
  by_cases hs1 : x1.size ≤ 1048576
  · cases hok : rlOk x1 with
    | true =>
      by_cases hpos : 0 < rlN x1
      · exact rl_yes x1 w hs1 hok hpos (Pow.of hT) (Errs.of h1 h2) (MaxL.of h3)
      · exact rl_zer x1 w hs1 hok (by omega) (Pow.of hT) (Errs.of h1 h2) (MaxL.of h3)
    | false => exact rl_no x1 w hs1 hok (Pow.of hT) (Errs.of h1 h2) (MaxL.of h3)
  · have hd1 : decide (1048576 < (x1.size : Int)) = true := decide_eq_true (by omega)
    clear hT h1 h2 h3
    go_enter Tryd.func6, Tryd.ntmps6
    go_wp2
    go_ret
    exact ⟨rfl, Below.refl _ _⟩
end Go.Proofs.YthkabonnclfhmaaDoor
