/- RunsOf: the law. -/
import Derived.Test.YtaalddkpldbdkaaRuw
import Derived.Test.YtaalddkpldbdkaaFrz
namespace Go.Proofs.Ytaalddkpldbdkaa
open Go.Proofs.Ytaalddkpldbdkaa.Flo Go.RowKit

theorem ru_n (s : ByteArray) (h : bitsB s = true) : (ruL s s.size).length ≤ 1048576 := by
  have := (ru_len s s.size).1
  have := (bits_out h).1
  omega
set_option maxHeartbeats 1000000 in
theorem ruS0 (s : ByteArray) (w : World) (hs : s.size ≤ 1048576) (hok : bitsB s = true) (h0 : s.size = 0) :
    Calls Try.prog 15 #[.string s] w fun e w' => ∃ b cp, e = .returned (.tuple #[.slice b 0 cp, .bool true]) ∧ Below w.heap.size w w' := by
  have hz : decide ((0 : Int) < (s.size : Int)) = false := decide_eq_false (by omega)
  go_enter Try.func15, Try.ntmps15
  go_wp2_with (first | (go_at_call 52; refine (bt_spec s _ hs).mono ?_; rintro e w' ⟨rfl, rfl⟩) | go_in)
  clear hok
  go_wp2
  refine wp_loop_rounds 1 ?_
  rw [rounds_succ]
  go_wp2
  go_ret2
  exact ⟨_, _, rfl, below_alloc _ _⟩
set_option maxHeartbeats 1000000 in
theorem ruI0 (s : ByteArray) (w : World) (hs : s.size ≤ 1048576) (hok : bitsB s = true) (h0 : s.size = 0) :
    Calls Try.prog 16 #[.string s] w fun e w' => ∃ b cp, e = .returned (.tuple #[.slice b 0 cp, .bool true]) ∧ Below w.heap.size w w' := by
  have hz : decide ((0 : Int) < (s.size : Int)) = false := decide_eq_false (by omega)
  go_enter Try.func16, Try.ntmps16
  go_wp2_with (first | (go_at_call 53; refine (bt_impl s _ hs).mono ?_; rintro e w2 ⟨rfl, hbl⟩; have HBL := Lib.hid hbl; clear hbl) | go_in)
  clear hok
  have hnx : ∀ ty, (Instr.next (.pointer (some ⟨w2.heap.size, 0, none⟩)) true ty).run Try.prog (w2.iter s 0) = _ := fun ty => run_next_end w2 s 0 ty (by omega)
  refine wp_loop_rounds 1 ?_
  rw [rounds_succ]
  go_wp2
  go_ret2
  exact ⟨_, _, rfl, Below.next HBL.out (below_alloc _ _)⟩
set_option maxRecDepth 100000 in
set_option maxHeartbeats 64000000 in
theorem ru_yes (x1 : ByteArray) (w : World)   (hs1 : x1.size ≤ 1048576) (hok : bitsB x1 = true) (hpos : 0 < x1.size) :
    Calls Try.prog 3 #[.string x1] w fun e w' => e = .returned (.bool true) ∧ Below w.heap.size w w' := by
  have hmN : ((ruL x1 x1.size).length) ≤ 1048576 := ru_n x1 hok
  have hd1 : decide (1048576 < (x1.size : Int)) = false := decide_eq_false (by omega)
  have HS := Lib.hid (Mine.nil w)
  go_enter Try.func3, Try.ntmps3
  go_wp2_with (first | (go_at_call 15; (first | (refine (HS.out.keep (ruS x1 _ hs1 hok hpos)).mono ?_) | (refine ((HS.out.drewN _).keep (ruS x1 _ hs1 hok hpos)).mono ?_) | (refine (HS.out.drew.keep (ruS x1 _ hs1 hok hpos)).mono ?_) | (refine ((HS.out.alloc3 _ _ _ _).keep (ruS x1 _ hs1 hok hpos)).mono ?_) | (refine (((HS.out.alloc3 _ _ _ _).drewN _).keep (ruS x1 _ hs1 hok hpos)).mono ?_) | (refine ((HS.out.alloc3 _ _ _ _).drew.keep (ruS x1 _ hs1 hok hpos)).mono ?_)); rintro e w2 ⟨⟨g, cp, rfl, hn⟩, hs⟩; have hs := hs.add hn; clear hn; have HS := Lib.hid hs; clear hs; skip) | (go_at_call 16; (first | (refine (HS.out.keep (ruI x1 _ hs1 hok hpos)).mono ?_) | (refine ((HS.out.drewN _).keep (ruI x1 _ hs1 hok hpos)).mono ?_) | (refine (HS.out.drew.keep (ruI x1 _ hs1 hok hpos)).mono ?_) | (refine ((HS.out.alloc3 _ _ _ _).keep (ruI x1 _ hs1 hok hpos)).mono ?_) | (refine (((HS.out.alloc3 _ _ _ _).drewN _).keep (ruI x1 _ hs1 hok hpos)).mono ?_) | (refine ((HS.out.alloc3 _ _ _ _).drew.keep (ruI x1 _ hs1 hok hpos)).mono ?_)); rintro e w2 ⟨⟨g, cp, rfl, hn⟩, hs⟩; have hs := hs.add hn; clear hn; have HS := Lib.hid hs; clear hs; skip) | (go_at_call 17; (first | (with_reducible refine (eqMI _ _ ((ruL x1 x1.size).length) _ _ (ruL x1 x1.size) _ w _ HS.out ?_ ?_ hmN).mono ?_) | (with_reducible refine (eqMI _ _ ((ruL x1 x1.size).length) _ _ (ruL x1 x1.size) _ w _ (HS.out.drewN _) ?_ ?_ hmN).mono ?_) | (with_reducible refine (eqMI _ _ ((ruL x1 x1.size).length) _ _ (ruL x1 x1.size) _ w _ HS.out.drew ?_ ?_ hmN).mono ?_) | (with_reducible refine (eqMI _ _ ((ruL x1 x1.size).length) _ _ (ruL x1 x1.size) _ w _ (HS.out.alloc3 _ _ _ _) ?_ ?_ hmN).mono ?_) | (with_reducible refine (eqMI _ _ ((ruL x1 x1.size).length) _ _ (ruL x1 x1.size) _ w _ ((HS.out.alloc3 _ _ _ _).drewN _) ?_ ?_ hmN).mono ?_) | (with_reducible refine (eqMI _ _ ((ruL x1 x1.size).length) _ _ (ruL x1 x1.size) _ w _ (HS.out.alloc3 _ _ _ _).drew ?_ ?_ hmN).mono ?_)); (next => (simp; done)); (next => (simp; done)); rintro e w2 ⟨rfl, hs⟩; have HS := Lib.hid hs; clear hs; skip) | (go_at_call 18; (first | ((with_reducible refine (markMI _ ((ruL x1 x1.size).length) _ (ruL x1 x1.size) _ _ w _ 0 HS.out ?_ hmN ?_).mono ?_); (next => rfl); (next => omega)) | ((with_reducible refine (markMI _ ((ruL x1 x1.size).length) _ (ruL x1 x1.size) _ _ w _ 0 (HS.out.drewN _) ?_ hmN ?_).mono ?_); (next => rfl); (next => omega)) | ((with_reducible refine (markMI _ ((ruL x1 x1.size).length) _ (ruL x1 x1.size) _ _ w _ 1 HS.out ?_ hmN ?_).mono ?_); (next => rfl); (next => omega)) | ((with_reducible refine (markMI _ ((ruL x1 x1.size).length) _ (ruL x1 x1.size) _ _ w _ 1 (HS.out.drewN _) ?_ hmN ?_).mono ?_); (next => rfl); (next => omega)) | ((with_reducible refine (markMI _ ((ruL x1 x1.size).length) _ (ruL x1 x1.size) _ _ w _ 2 HS.out ?_ hmN ?_).mono ?_); (next => rfl); (next => omega)) | ((with_reducible refine (markMI _ ((ruL x1 x1.size).length) _ (ruL x1 x1.size) _ _ w _ 2 (HS.out.drewN _) ?_ hmN ?_).mono ?_); (next => rfl); (next => omega)) | ((with_reducible refine (markMI _ ((ruL x1 x1.size).length) _ (ruL x1 x1.size) _ _ w _ 3 HS.out ?_ hmN ?_).mono ?_); (next => rfl); (next => omega)) | ((with_reducible refine (markMI _ ((ruL x1 x1.size).length) _ (ruL x1 x1.size) _ _ w _ 3 (HS.out.drewN _) ?_ hmN ?_).mono ?_); (next => rfl); (next => omega)) | ((with_reducible refine (markMI _ ((ruL x1 x1.size).length) _ (ruL x1 x1.size) _ _ w _ 4 HS.out ?_ hmN ?_).mono ?_); (next => rfl); (next => omega)) | ((with_reducible refine (markMI _ ((ruL x1 x1.size).length) _ (ruL x1 x1.size) _ _ w _ 4 (HS.out.drewN _) ?_ hmN ?_).mono ?_); (next => rfl); (next => omega)) | ((with_reducible refine (markMI _ ((ruL x1 x1.size).length) _ (ruL x1 x1.size) _ _ w _ 5 HS.out ?_ hmN ?_).mono ?_); (next => rfl); (next => omega)) | ((with_reducible refine (markMI _ ((ruL x1 x1.size).length) _ (ruL x1 x1.size) _ _ w _ 5 (HS.out.drewN _) ?_ hmN ?_).mono ?_); (next => rfl); (next => omega)) | ((with_reducible refine (markMI _ ((ruL x1 x1.size).length) _ (ruL x1 x1.size) _ _ w _ 6 HS.out ?_ hmN ?_).mono ?_); (next => rfl); (next => omega)) | ((with_reducible refine (markMI _ ((ruL x1 x1.size).length) _ (ruL x1 x1.size) _ _ w _ 6 (HS.out.drewN _) ?_ hmN ?_).mono ?_); (next => rfl); (next => omega)) | ((with_reducible refine (markMI _ ((ruL x1 x1.size).length) _ (ruL x1 x1.size) _ _ w _ 7 HS.out ?_ hmN ?_).mono ?_); (next => rfl); (next => omega)) | ((with_reducible refine (markMI _ ((ruL x1 x1.size).length) _ (ruL x1 x1.size) _ _ w _ 7 (HS.out.drewN _) ?_ hmN ?_).mono ?_); (next => rfl); (next => omega))); rintro e w2 ⟨rfl, hs⟩; have HS := Lib.hid hs; clear hs; skip) | (go_at_call 19; (first | (with_reducible refine (heldMI _ ((ruL x1 x1.size).length) _ _ _ w _ HS.out ?_ hmN ?_).mono ?_) | (with_reducible refine (heldMI _ ((ruL x1 x1.size).length) _ _ _ w _ (HS.out.drewN _) ?_ hmN ?_).mono ?_) | (with_reducible refine (heldMI _ ((ruL x1 x1.size).length) _ _ _ w _ HS.out.drew ?_ hmN ?_).mono ?_) | (with_reducible refine (heldMI _ ((ruL x1 x1.size).length) _ _ _ w _ (HS.out.alloc3 _ _ _ _) ?_ hmN ?_).mono ?_) | (with_reducible refine (heldMI _ ((ruL x1 x1.size).length) _ _ _ w _ ((HS.out.alloc3 _ _ _ _).drewN _) ?_ hmN ?_).mono ?_) | (with_reducible refine (heldMI _ ((ruL x1 x1.size).length) _ _ _ w _ (HS.out.alloc3 _ _ _ _).drew ?_ hmN ?_).mono ?_)); (next => (simp; done)); (next => omega); rintro e w2 ⟨rfl, hs⟩; have HS := Lib.hid hs; clear hs; skip) | go_in)
  go_ret
  first | exact ⟨rfl, HS.out.out⟩ | exact ⟨rfl, (HS.out.drewN _).out⟩
set_option maxRecDepth 100000 in
set_option maxHeartbeats 64000000 in
theorem ru_no (x1 : ByteArray) (w : World)   (hs1 : x1.size ≤ 1048576) (hok : bitsB x1 = false) :
    Calls Try.prog 3 #[.string x1] w fun e w' => e = .returned (.bool true) ∧ Below w.heap.size w w' := by
  have hd1 : decide (1048576 < (x1.size : Int)) = false := decide_eq_false (by omega)
  have HS := Lib.hid (Mine.nil w)
  go_enter Try.func3, Try.ntmps3
  go_wp2_with (first | (go_at_call 15; (first | (refine (HS.out.keep (ruSN x1 _ hs1 hok)).mono ?_) | (refine ((HS.out.drewN _).keep (ruSN x1 _ hs1 hok)).mono ?_) | (refine (HS.out.drew.keep (ruSN x1 _ hs1 hok)).mono ?_) | (refine ((HS.out.alloc3 _ _ _ _).keep (ruSN x1 _ hs1 hok)).mono ?_) | (refine (((HS.out.alloc3 _ _ _ _).drewN _).keep (ruSN x1 _ hs1 hok)).mono ?_) | (refine ((HS.out.alloc3 _ _ _ _).drew.keep (ruSN x1 _ hs1 hok)).mono ?_)); rintro e w2 ⟨⟨rfl, hb⟩, hs⟩; have hs := hs.below hb; clear hb; have HS := Lib.hid hs; clear hs; skip) | (go_at_call 16; (first | (refine (HS.out.keep (ruIN x1 _ hs1 hok)).mono ?_) | (refine ((HS.out.drewN _).keep (ruIN x1 _ hs1 hok)).mono ?_) | (refine (HS.out.drew.keep (ruIN x1 _ hs1 hok)).mono ?_) | (refine ((HS.out.alloc3 _ _ _ _).keep (ruIN x1 _ hs1 hok)).mono ?_) | (refine (((HS.out.alloc3 _ _ _ _).drewN _).keep (ruIN x1 _ hs1 hok)).mono ?_) | (refine ((HS.out.alloc3 _ _ _ _).drew.keep (ruIN x1 _ hs1 hok)).mono ?_)); rintro e w2 ⟨⟨rfl, hb⟩, hs⟩; have hs := hs.below hb; clear hb; have HS := Lib.hid hs; clear hs; skip) | (go_at_call 17; (first | (with_reducible refine (eqMI0 _ w _ HS.out).mono ?_) | (with_reducible refine (eqMI0 _ w _ (HS.out.drewN _)).mono ?_) | (with_reducible refine (eqMI0 _ w _ HS.out.drew).mono ?_) | (with_reducible refine (eqMI0 _ w _ (HS.out.alloc3 _ _ _ _)).mono ?_) | (with_reducible refine (eqMI0 _ w _ ((HS.out.alloc3 _ _ _ _).drewN _)).mono ?_) | (with_reducible refine (eqMI0 _ w _ (HS.out.alloc3 _ _ _ _).drew).mono ?_)); rintro e w2 ⟨rfl, hs⟩; have HS := Lib.hid hs; clear hs; skip) | (go_at_call 18; (with_reducible refine (markNilI _ _).mono ?_); rintro e w2 ⟨rfl, rfl⟩) | (go_at_call 19; (with_reducible refine (heldNilI _ _).mono ?_); rintro e w2 ⟨rfl, rfl⟩) | go_in)
  go_ret
  first | exact ⟨rfl, HS.out.out⟩ | exact ⟨rfl, (HS.out.drewN _).out⟩
set_option maxRecDepth 100000 in
set_option maxHeartbeats 64000000 in
theorem ru_zero (x1 : ByteArray) (w : World)   (hs1 : x1.size ≤ 1048576) (hok : bitsB x1 = true) (hz9 : x1.size = 0) :
    Calls Try.prog 3 #[.string x1] w fun e w' => e = .returned (.bool true) ∧ Below w.heap.size w w' := by
  have hd1 : decide (1048576 < (x1.size : Int)) = false := decide_eq_false (by omega)
  have HZ9 := Lib.hid hz9
  clear hz9
  have HS := Lib.hid (Mine.nil w)
  go_enter Try.func3, Try.ntmps3
  go_wp2_with (first | (go_at_call 15; (first | (refine (HS.out.keep (ruS0 x1 _ hs1 hok HZ9.out)).mono ?_) | (refine ((HS.out.drewN _).keep (ruS0 x1 _ hs1 hok HZ9.out)).mono ?_) | (refine (HS.out.drew.keep (ruS0 x1 _ hs1 hok HZ9.out)).mono ?_) | (refine ((HS.out.alloc3 _ _ _ _).keep (ruS0 x1 _ hs1 hok HZ9.out)).mono ?_) | (refine (((HS.out.alloc3 _ _ _ _).drewN _).keep (ruS0 x1 _ hs1 hok HZ9.out)).mono ?_) | (refine ((HS.out.alloc3 _ _ _ _).drew.keep (ruS0 x1 _ hs1 hok HZ9.out)).mono ?_)); rintro e w2 ⟨⟨b, cp, rfl, hb⟩, hs⟩; have hs := hs.below hb; clear hb; have HS := Lib.hid hs; clear hs; skip) | (go_at_call 16; (first | (refine (HS.out.keep (ruI0 x1 _ hs1 hok HZ9.out)).mono ?_) | (refine ((HS.out.drewN _).keep (ruI0 x1 _ hs1 hok HZ9.out)).mono ?_) | (refine (HS.out.drew.keep (ruI0 x1 _ hs1 hok HZ9.out)).mono ?_) | (refine ((HS.out.alloc3 _ _ _ _).keep (ruI0 x1 _ hs1 hok HZ9.out)).mono ?_) | (refine (((HS.out.alloc3 _ _ _ _).drewN _).keep (ruI0 x1 _ hs1 hok HZ9.out)).mono ?_) | (refine ((HS.out.alloc3 _ _ _ _).drew.keep (ruI0 x1 _ hs1 hok HZ9.out)).mono ?_)); rintro e w2 ⟨⟨b, cp, rfl, hb⟩, hs⟩; have hs := hs.below hb; clear hb; have HS := Lib.hid hs; clear hs; skip) | (go_at_call 17; (first | (with_reducible refine (eqMIz _ _ _ _ _ w _ HS.out).mono ?_) | (with_reducible refine (eqMIz _ _ _ _ _ w _ (HS.out.drewN _)).mono ?_) | (with_reducible refine (eqMIz _ _ _ _ _ w _ HS.out.drew).mono ?_) | (with_reducible refine (eqMIz _ _ _ _ _ w _ (HS.out.alloc3 _ _ _ _)).mono ?_) | (with_reducible refine (eqMIz _ _ _ _ _ w _ ((HS.out.alloc3 _ _ _ _).drewN _)).mono ?_) | (with_reducible refine (eqMIz _ _ _ _ _ w _ (HS.out.alloc3 _ _ _ _).drew).mono ?_)); rintro e w2 ⟨rfl, hs⟩; have HS := Lib.hid hs; clear hs; skip) | (go_at_call 18; (with_reducible refine (markIz _ _ _ _).mono ?_); rintro e w2 ⟨rfl, rfl⟩) | (go_at_call 19; (with_reducible refine (heldIz _ _ _ _).mono ?_); rintro e w2 ⟨rfl, rfl⟩) | go_in)
  go_ret
  first | exact ⟨rfl, HS.out.out⟩ | exact ⟨rfl, (HS.out.drewN _).out⟩
set_option maxRecDepth 100000 in
set_option maxHeartbeats 4000000 in
theorem ru_walk (x1 : ByteArray) (w : World) (_ : x1.size ≤ maxLen) :
    Calls Try.prog 3 #[.string x1] w fun e w' => e = .returned (.bool true) ∧ Below w.heap.size w w' := by
  by_cases hs1 : x1.size ≤ 1048576
  · cases hok : bitsB x1 with
    | true =>
      by_cases hpos : 0 < x1.size
      · exact ru_yes x1 w hs1 hok hpos
      · exact ru_zero x1 w hs1 hok (by omega)
    | false => exact ru_no x1 w hs1 hok
  · have hd1 : decide (1048576 < (x1.size : Int)) = true := decide_eq_true (by omega)
    go_enter Try.func3, Try.ntmps3
    go_wp2
    go_ret
    exact ⟨rfl, Below.refl _ _⟩
end Go.Proofs.Ytaalddkpldbdkaa
