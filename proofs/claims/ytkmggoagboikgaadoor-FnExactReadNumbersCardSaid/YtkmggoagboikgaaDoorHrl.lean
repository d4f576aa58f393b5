
/- ReadNumbers: the law. -/
import Derived.Test.YtkmggoagboikgaaDoorHrs
namespace Go.Proofs.YtkmggoagboikgaaDoor
open Go.Proofs.YtkmggoagboikgaaDoor.Flo Go.RowKit

set_option maxRecDepth 100000 in
theorem rl_spec (s : ByteArray) (hs : s.size ≤ 1048576) (w : World) :
    Calls Tryd.prog 9 #[.string s] w (RlPost s w) := by
  have HR := Lib.hid (rn_spec s hs w)
  go_enter Tryd.func9, Tryd.ntmps9
  go_wp2_with (first | (go_at_call 18; refine HR.out.mono ?_; rintro e w2 hq; obtain ⟨v, b, he⟩ := RlPost.form hq; subst he; have HQ := Lib.hid hq; clear hq) | fail)
  go_ret2
  exact HQ.out
/-- The numbers that a text tells. -/
def rlZ (s : ByteArray) (i : Nat) : Nat := (rpO ((cutL 44 s.data.toList).getD i [])).getD 0
theorem rl_n (s : ByteArray) (h : rlOk s = true) : rlN s ≤ 1048576 := by
  cases hno : isNone s
  · rw [rlN_else hno]
    rw [rlOk_else hno] at h
    unfold rlB at h
    rw [Bool.and_eq_true] at h
    have := of_decide_eq_true h.1
    omega
  · rw [rlN_none hno]; omega
theorem rl_new {s : ByteArray} {w w' : World} {e : Ending} (h : RlPost s w e w') (hok : rlOk s = true) (hpos : 0 < rlN s) : ∃ g cp, e = .returned (.tuple #[.slice (some ⟨g, 0, none⟩) (rlN s) cp, .bool true]) ∧ New w w' g (.cl (rlN s) (fun i => cls .f32 (rlZ s i))) := by
  obtain ⟨g, cp, he, hn⟩ := GPost.yes h hok (by omega)
  exact ⟨g, cp, he, New.cl (Z := rlZ s) hn⟩
theorem rl_zero {s : ByteArray} {w w' : World} {e : Ending} (h : RlPost s w e w') (hok : rlOk s = true) (h0 : rlN s = 0) : ∃ b cp, e = .returned (.tuple #[.slice b 0 cp, .bool true]) ∧ Below w.heap.size w w' := GPost.zero h hok h0
theorem rl_none {s : ByteArray} {w w' : World} {e : Ending} (h : RlPost s w e w') (hok : rlOk s = false) : e = .returned (.tuple #[.slice none 0 0, .bool false]) ∧ Below w.heap.size w w' := GPost.no h hok
set_option maxRecDepth 100000 in
set_option maxHeartbeats 64000000 in
theorem rl_yes (x1 : ByteArray) (w : World)   (hs1 : x1.size ≤ 1048576) (hok : rlOk x1 = true) (hpos : 0 < rlN x1) (hmx : MaxL w) :
    Calls Tryd.prog 4 #[.string x1] w fun e w' => e = .returned (.bool true) ∧ Below w.heap.size w w' := by
  have hmN : (rlN x1) ≤ 1048576 := rl_n x1 hok
  have hd1 : decide (1048576 < (x1.size : Int)) = false := decide_eq_false (by omega)
  have HMX := Lib.hid hmx
  clear hmx
  have HPOS := Lib.hid hpos
  clear hpos
  have HS := Lib.hid (Mine.nil w)
  go_enter Tryd.func4, Tryd.ntmps4
  go_wp2_with (first | (go_at_call 9; (first | (refine (HS.out.keep ((rl_spec x1 hs1 _).mono fun _ _ q => rl_new q hok HPOS.out)).mono ?_) | (refine ((HS.out.drewN _).keep ((rl_spec x1 hs1 _).mono fun _ _ q => rl_new q hok HPOS.out)).mono ?_) | (refine (HS.out.drew.keep ((rl_spec x1 hs1 _).mono fun _ _ q => rl_new q hok HPOS.out)).mono ?_) | (refine ((HS.out.alloc3 _ _ _ _).keep ((rl_spec x1 hs1 _).mono fun _ _ q => rl_new q hok HPOS.out)).mono ?_) | (refine (((HS.out.alloc3 _ _ _ _).drewN _).keep (rlS x1 _   hok)).mono ?_) | (refine ((HS.out.alloc3 _ _ _ _).drew.keep ((rl_spec x1 hs1 _).mono fun _ _ q => rl_new q hok HPOS.out)).mono ?_)); rintro e w2 ⟨⟨g, cp, rfl, hn⟩, hs⟩; have hs := hs.add hn; clear hn; have HS := Lib.hid hs; clear hs; skip) | (go_at_call 10; (first | (refine (HS.out.keep ((rl_impl x1 hs1 w _ HMX.out HS.out.out).mono fun _ _ q => rl_new q hok HPOS.out)).mono ?_) | (refine ((HS.out.drewN _).keep ((rl_impl x1 hs1 w _ HMX.out (HS.out.drewN _).out).mono fun _ _ q => rl_new q hok HPOS.out)).mono ?_) | (refine (HS.out.drew.keep ((rl_impl x1 hs1 w _ HMX.out HS.out.drew.out).mono fun _ _ q => rl_new q hok HPOS.out)).mono ?_) | (refine ((HS.out.alloc3 _ _ _ _).keep ((rl_impl x1 hs1 w _ HMX.out (HS.out.alloc3 _ _ _ _).out).mono fun _ _ q => rl_new q hok HPOS.out)).mono ?_) | (refine (((HS.out.alloc3 _ _ _ _).drewN _).keep (rlI x1 _   hok)).mono ?_) | (refine ((HS.out.alloc3 _ _ _ _).drew.keep ((rl_impl x1 hs1 w _ HMX.out (HS.out.alloc3 _ _ _ _).drew.out).mono fun _ _ q => rl_new q hok HPOS.out)).mono ?_)); rintro e w2 ⟨⟨g, cp, rfl, hn⟩, hs⟩; have hs := hs.add hn; clear hn; have HS := Lib.hid hs; clear hs; skip) | (go_at_call 8; (first | (with_reducible refine (eqMC _ _ (rlN x1) _ _ (fun i => cls .f32 (rlZ x1 i)) _ w _ HS.out ?_ ?_ hmN).mono ?_) | (with_reducible refine (eqMC _ _ (rlN x1) _ _ (fun i => cls .f32 (rlZ x1 i)) _ w _ (HS.out.drewN _) ?_ ?_ hmN).mono ?_) | (with_reducible refine (eqMC _ _ (rlN x1) _ _ (fun i => cls .f32 (rlZ x1 i)) _ w _ HS.out.drew ?_ ?_ hmN).mono ?_) | (with_reducible refine (eqMC _ _ (rlN x1) _ _ (fun i => cls .f32 (rlZ x1 i)) _ w _ (HS.out.alloc3 _ _ _ _) ?_ ?_ hmN).mono ?_) | (with_reducible refine (eqMC _ _ (rlN x1) _ _ (fun i => cls .f32 (rlZ x1 i)) _ w _ ((HS.out.alloc3 _ _ _ _).drewN _) ?_ ?_ hmN).mono ?_) | (with_reducible refine (eqMC _ _ (rlN x1) _ _ (fun i => cls .f32 (rlZ x1 i)) _ w _ (HS.out.alloc3 _ _ _ _).drew ?_ ?_ hmN).mono ?_)); (next => (simp; done)); (next => (simp; done)); rintro e w2 ⟨rfl, hs⟩; have HS := Lib.hid hs; clear hs; skip) | (go_at_call 11; (first | ((with_reducible refine (markMC _ (rlN x1) _ (fun i => cls .f32 (rlZ x1 i)) _ _ w _ 0 HS.out ?_ hmN ?_).mono ?_); (next => rfl); (next => omega)) | ((with_reducible refine (markMC _ (rlN x1) _ (fun i => cls .f32 (rlZ x1 i)) _ _ w _ 0 (HS.out.drewN _) ?_ hmN ?_).mono ?_); (next => rfl); (next => omega)) | ((with_reducible refine (markMC _ (rlN x1) _ (fun i => cls .f32 (rlZ x1 i)) _ _ w _ 1 HS.out ?_ hmN ?_).mono ?_); (next => rfl); (next => omega)) | ((with_reducible refine (markMC _ (rlN x1) _ (fun i => cls .f32 (rlZ x1 i)) _ _ w _ 1 (HS.out.drewN _) ?_ hmN ?_).mono ?_); (next => rfl); (next => omega)) | ((with_reducible refine (markMC _ (rlN x1) _ (fun i => cls .f32 (rlZ x1 i)) _ _ w _ 2 HS.out ?_ hmN ?_).mono ?_); (next => rfl); (next => omega)) | ((with_reducible refine (markMC _ (rlN x1) _ (fun i => cls .f32 (rlZ x1 i)) _ _ w _ 2 (HS.out.drewN _) ?_ hmN ?_).mono ?_); (next => rfl); (next => omega)) | ((with_reducible refine (markMC _ (rlN x1) _ (fun i => cls .f32 (rlZ x1 i)) _ _ w _ 3 HS.out ?_ hmN ?_).mono ?_); (next => rfl); (next => omega)) | ((with_reducible refine (markMC _ (rlN x1) _ (fun i => cls .f32 (rlZ x1 i)) _ _ w _ 3 (HS.out.drewN _) ?_ hmN ?_).mono ?_); (next => rfl); (next => omega)) | ((with_reducible refine (markMC _ (rlN x1) _ (fun i => cls .f32 (rlZ x1 i)) _ _ w _ 4 HS.out ?_ hmN ?_).mono ?_); (next => rfl); (next => omega)) | ((with_reducible refine (markMC _ (rlN x1) _ (fun i => cls .f32 (rlZ x1 i)) _ _ w _ 4 (HS.out.drewN _) ?_ hmN ?_).mono ?_); (next => rfl); (next => omega)) | ((with_reducible refine (markMC _ (rlN x1) _ (fun i => cls .f32 (rlZ x1 i)) _ _ w _ 5 HS.out ?_ hmN ?_).mono ?_); (next => rfl); (next => omega)) | ((with_reducible refine (markMC _ (rlN x1) _ (fun i => cls .f32 (rlZ x1 i)) _ _ w _ 5 (HS.out.drewN _) ?_ hmN ?_).mono ?_); (next => rfl); (next => omega)) | ((with_reducible refine (markMC _ (rlN x1) _ (fun i => cls .f32 (rlZ x1 i)) _ _ w _ 6 HS.out ?_ hmN ?_).mono ?_); (next => rfl); (next => omega)) | ((with_reducible refine (markMC _ (rlN x1) _ (fun i => cls .f32 (rlZ x1 i)) _ _ w _ 6 (HS.out.drewN _) ?_ hmN ?_).mono ?_); (next => rfl); (next => omega)) | ((with_reducible refine (markMC _ (rlN x1) _ (fun i => cls .f32 (rlZ x1 i)) _ _ w _ 7 HS.out ?_ hmN ?_).mono ?_); (next => rfl); (next => omega)) | ((with_reducible refine (markMC _ (rlN x1) _ (fun i => cls .f32 (rlZ x1 i)) _ _ w _ 7 (HS.out.drewN _) ?_ hmN ?_).mono ?_); (next => rfl); (next => omega))); rintro e w2 ⟨rfl, hs⟩; have HS := Lib.hid hs; clear hs; skip) | (go_at_call 12; (first | (with_reducible refine (heldM _ (rlN x1) _ _ _ w _ HS.out ?_ hmN ?_).mono ?_) | (with_reducible refine (heldM _ (rlN x1) _ _ _ w _ (HS.out.drewN _) ?_ hmN ?_).mono ?_) | (with_reducible refine (heldM _ (rlN x1) _ _ _ w _ HS.out.drew ?_ hmN ?_).mono ?_) | (with_reducible refine (heldM _ (rlN x1) _ _ _ w _ (HS.out.alloc3 _ _ _ _) ?_ hmN ?_).mono ?_) | (with_reducible refine (heldM _ (rlN x1) _ _ _ w _ ((HS.out.alloc3 _ _ _ _).drewN _) ?_ hmN ?_).mono ?_) | (with_reducible refine (heldM _ (rlN x1) _ _ _ w _ (HS.out.alloc3 _ _ _ _).drew ?_ hmN ?_).mono ?_)); (next => (simp; done)); (next => omega); rintro e w2 ⟨rfl, hs⟩; have HS := Lib.hid hs; clear hs; skip) | go_in)
  go_ret
  first | exact ⟨rfl, HS.out.out⟩ | exact ⟨rfl, (HS.out.drewN _).out⟩
set_option maxRecDepth 100000 in
set_option maxHeartbeats 64000000 in
theorem rl_no (x1 : ByteArray) (w : World)   (hs1 : x1.size ≤ 1048576) (hok : rlOk x1 = false) (hmx : MaxL w) :
    Calls Tryd.prog 4 #[.string x1] w fun e w' => e = .returned (.bool true) ∧ Below w.heap.size w w' := by
  have hd1 : decide (1048576 < (x1.size : Int)) = false := decide_eq_false (by omega)
  have HMX := Lib.hid hmx
  clear hmx
  have HS := Lib.hid (Mine.nil w)
  go_enter Tryd.func4, Tryd.ntmps4
  go_wp2_with (first | (go_at_call 9; (first | (refine (HS.out.keep ((rl_spec x1 hs1 _).mono fun _ _ q => rl_none q hok)).mono ?_) | (refine ((HS.out.drewN _).keep ((rl_spec x1 hs1 _).mono fun _ _ q => rl_none q hok)).mono ?_) | (refine (HS.out.drew.keep ((rl_spec x1 hs1 _).mono fun _ _ q => rl_none q hok)).mono ?_) | (refine ((HS.out.alloc3 _ _ _ _).keep ((rl_spec x1 hs1 _).mono fun _ _ q => rl_none q hok)).mono ?_) | (refine (((HS.out.alloc3 _ _ _ _).drewN _).keep (rlSN x1 _   hok)).mono ?_) | (refine ((HS.out.alloc3 _ _ _ _).drew.keep ((rl_spec x1 hs1 _).mono fun _ _ q => rl_none q hok)).mono ?_)); rintro e w2 ⟨⟨rfl, hb⟩, hs⟩; have hs := hs.below hb; clear hb; have HS := Lib.hid hs; clear hs; skip) | (go_at_call 10; (first | (refine (HS.out.keep ((rl_impl x1 hs1 w _ HMX.out HS.out.out).mono fun _ _ q => rl_none q hok)).mono ?_) | (refine ((HS.out.drewN _).keep ((rl_impl x1 hs1 w _ HMX.out (HS.out.drewN _).out).mono fun _ _ q => rl_none q hok)).mono ?_) | (refine (HS.out.drew.keep ((rl_impl x1 hs1 w _ HMX.out HS.out.drew.out).mono fun _ _ q => rl_none q hok)).mono ?_) | (refine ((HS.out.alloc3 _ _ _ _).keep ((rl_impl x1 hs1 w _ HMX.out (HS.out.alloc3 _ _ _ _).out).mono fun _ _ q => rl_none q hok)).mono ?_) | (refine (((HS.out.alloc3 _ _ _ _).drewN _).keep (rlIN x1 _   hok)).mono ?_) | (refine ((HS.out.alloc3 _ _ _ _).drew.keep ((rl_impl x1 hs1 w _ HMX.out (HS.out.alloc3 _ _ _ _).drew.out).mono fun _ _ q => rl_none q hok)).mono ?_)); rintro e w2 ⟨⟨rfl, hb⟩, hs⟩; have hs := hs.below hb; clear hb; have HS := Lib.hid hs; clear hs; skip) | (go_at_call 8; (first | (with_reducible refine (eqM0 _ w _ HS.out).mono ?_) | (with_reducible refine (eqM0 _ w _ (HS.out.drewN _)).mono ?_) | (with_reducible refine (eqM0 _ w _ HS.out.drew).mono ?_) | (with_reducible refine (eqM0 _ w _ (HS.out.alloc3 _ _ _ _)).mono ?_) | (with_reducible refine (eqM0 _ w _ ((HS.out.alloc3 _ _ _ _).drewN _)).mono ?_) | (with_reducible refine (eqM0 _ w _ (HS.out.alloc3 _ _ _ _).drew).mono ?_)); rintro e w2 ⟨rfl, hs⟩; have HS := Lib.hid hs; clear hs; skip) | (go_at_call 11; (with_reducible refine (markNil _ _).mono ?_); rintro e w2 ⟨rfl, rfl⟩) | (go_at_call 12; (with_reducible refine (heldNil _ _).mono ?_); rintro e w2 ⟨rfl, rfl⟩) | go_in)
  go_ret
  first | exact ⟨rfl, HS.out.out⟩ | exact ⟨rfl, (HS.out.drewN _).out⟩
set_option maxRecDepth 100000 in
set_option maxHeartbeats 64000000 in
theorem rl_zer (x1 : ByteArray) (w : World)   (hs1 : x1.size ≤ 1048576) (hok : rlOk x1 = true) (hz9 : rlN x1 = 0) (hmx : MaxL w) :
    Calls Tryd.prog 4 #[.string x1] w fun e w' => e = .returned (.bool true) ∧ Below w.heap.size w w' := by
  have hd1 : decide (1048576 < (x1.size : Int)) = false := decide_eq_false (by omega)
  have HMX := Lib.hid hmx
  clear hmx
  have HZ9 := Lib.hid hz9
  clear hz9
  have HS := Lib.hid (Mine.nil w)
  go_enter Tryd.func4, Tryd.ntmps4
  go_wp2_with (first | (go_at_call 9; (first | (refine (HS.out.keep ((rl_spec x1 hs1 _).mono fun _ _ q => rl_zero q hok HZ9.out)).mono ?_) | (refine ((HS.out.drewN _).keep ((rl_spec x1 hs1 _).mono fun _ _ q => rl_zero q hok HZ9.out)).mono ?_) | (refine (HS.out.drew.keep ((rl_spec x1 hs1 _).mono fun _ _ q => rl_zero q hok HZ9.out)).mono ?_) | (refine ((HS.out.alloc3 _ _ _ _).keep ((rl_spec x1 hs1 _).mono fun _ _ q => rl_zero q hok HZ9.out)).mono ?_) | (refine (((HS.out.alloc3 _ _ _ _).drewN _).keep (rlSN x1 _   hok)).mono ?_) | (refine ((HS.out.alloc3 _ _ _ _).drew.keep ((rl_spec x1 hs1 _).mono fun _ _ q => rl_zero q hok HZ9.out)).mono ?_)); rintro e w2 ⟨⟨b, cp, rfl, hb⟩, hs⟩; have hs := hs.below hb; clear hb; have HS := Lib.hid hs; clear hs; skip) | (go_at_call 10; (first | (refine (HS.out.keep ((rl_impl x1 hs1 w _ HMX.out HS.out.out).mono fun _ _ q => rl_zero q hok HZ9.out)).mono ?_) | (refine ((HS.out.drewN _).keep ((rl_impl x1 hs1 w _ HMX.out (HS.out.drewN _).out).mono fun _ _ q => rl_zero q hok HZ9.out)).mono ?_) | (refine (HS.out.drew.keep ((rl_impl x1 hs1 w _ HMX.out HS.out.drew.out).mono fun _ _ q => rl_zero q hok HZ9.out)).mono ?_) | (refine ((HS.out.alloc3 _ _ _ _).keep ((rl_impl x1 hs1 w _ HMX.out (HS.out.alloc3 _ _ _ _).out).mono fun _ _ q => rl_zero q hok HZ9.out)).mono ?_) | (refine (((HS.out.alloc3 _ _ _ _).drewN _).keep (rlIN x1 _   hok)).mono ?_) | (refine ((HS.out.alloc3 _ _ _ _).drew.keep ((rl_impl x1 hs1 w _ HMX.out (HS.out.alloc3 _ _ _ _).drew.out).mono fun _ _ q => rl_zero q hok HZ9.out)).mono ?_)); rintro e w2 ⟨⟨b, cp, rfl, hb⟩, hs⟩; have hs := hs.below hb; clear hb; have HS := Lib.hid hs; clear hs; skip) | (go_at_call 8; (first | (with_reducible refine (eqMz _ _ _ _ _ w _ HS.out).mono ?_) | (with_reducible refine (eqMz _ _ _ _ _ w _ (HS.out.drewN _)).mono ?_) | (with_reducible refine (eqMz _ _ _ _ _ w _ HS.out.drew).mono ?_) | (with_reducible refine (eqMz _ _ _ _ _ w _ (HS.out.alloc3 _ _ _ _)).mono ?_) | (with_reducible refine (eqMz _ _ _ _ _ w _ ((HS.out.alloc3 _ _ _ _).drewN _)).mono ?_) | (with_reducible refine (eqMz _ _ _ _ _ w _ (HS.out.alloc3 _ _ _ _).drew).mono ?_)); rintro e w2 ⟨rfl, hs⟩; have HS := Lib.hid hs; clear hs; skip) | (go_at_call 11; (with_reducible refine (markFz _ _ _ _).mono ?_); rintro e w2 ⟨rfl, rfl⟩) | (go_at_call 12; (with_reducible refine (heldFz _ _ _ _).mono ?_); rintro e w2 ⟨rfl, rfl⟩) | go_in)
  go_ret
  first | exact ⟨rfl, HS.out.out⟩ | exact ⟨rfl, (HS.out.drewN _).out⟩
set_option maxRecDepth 100000 in
set_option maxHeartbeats 4000000 in
theorem rnl_walk (x1 : ByteArray) (w : World) (_ : x1.size ≤ maxLen) (h3 : ∃ m, w.cell? ⟨1, 0, none⟩ = some (.int .i64 m)) :
    Calls Tryd.prog 4 #[.string x1] w fun e w' => e = .returned (.bool true) ∧ Below w.heap.size w w' := by
  by_cases hs1 : x1.size ≤ 1048576
  · cases hok : rlOk x1 with
    | true =>
      by_cases hpos : 0 < rlN x1
      · exact rl_yes x1 w hs1 hok hpos (MaxL.of h3)
      · exact rl_zer x1 w hs1 hok (by omega) (MaxL.of h3)
    | false => exact rl_no x1 w hs1 hok (MaxL.of h3)
  · have hd1 : decide (1048576 < (x1.size : Int)) = true := decide_eq_true (by omega)
    clear h3
    go_enter Tryd.func4, Tryd.ntmps4
    go_wp2
    go_ret
    exact ⟨rfl, Below.refl _ _⟩
end Go.Proofs.YtkmggoagboikgaaDoor
