
/- RecoverJournal: the law. -/
import Derived.Test.YthkabonnclfhmaaDoorRjw
import Derived.Test.YthkabonnclfhmaaDoorMks
namespace Go.Proofs.YthkabonnclfhmaaDoor
open Go.Proofs.YthkabonnclfhmaaDoor.Flo Go.RowKit Go.Proofs.YthkabonnclfhmaaDoor.Dcn

def rjB (t : ByteArray) : Bool := decide (t.size ≤ 16000)
def jtx (t : ByteArray) (i : Nat) : ByteArray := txB ((jX t.data.toList).getD i [])
theorem jrec_len : ∀ (m : Nat) (c : Int) (r : List UInt8), (jrec m c r).1.length ≤ m
  | 0, _, _ => Nat.le_refl _
  | m + 1, c, r => by
    rw [jrec]
    split
    · next l b _ =>
      have := jrec_len m (chk c l) b
      simp; omega
    · simp
theorem jN_le {t : ByteArray} (h : rjB t = true) : jN t ≤ 1048576 := by
  have h1 := jrec_len t.data.toList.length 0 t.data.toList
  have h2 : t.data.toList.length = t.size := Array.length_toList
  have h3 : t.size ≤ 16000 := of_decide_eq_true h
  show (jrec _ _ _).1.length ≤ _
  omega
theorem rj_yes {t : ByteArray} {w w' : World} {e : Ending} (q : RjPost t w e w') (hok : rjB t = true) (hpos : 0 < jN t) : ∃ g cp, e = .returned (.tuple #[.slice (some ⟨g, 0, none⟩) (jN t) cp, .int .i64 (jM t), .bool true]) ∧ New w w' g (.sl (jN t) (jtx t)) := by
  obtain ⟨⟨_, v, rfl, hg⟩ | ⟨h, _⟩, hb⟩ := q
  · obtain ⟨g, cp, rfl, hn⟩ := hg.new hb (by omega)
    exact ⟨g, cp, rfl, hn⟩
  · exact absurd (of_decide_eq_true hok) h
theorem rj_zero {t : ByteArray} {w w' : World} {e : Ending} (q : RjPost t w e w') (hok : rjB t = true) (h0 : jN t = 0) : ∃ b cp, e = .returned (.tuple #[.slice b 0 cp, .int .i64 (jM t), .bool true]) ∧ Below w.heap.size w w' := by
  obtain ⟨⟨_, v, rfl, hg⟩ | ⟨h, _⟩, hb⟩ := q
  · rw [h0] at hg
    obtain ⟨b, cp, rfl⟩ := hg.zero
    exact ⟨b, cp, rfl, hb⟩
  · exact absurd (of_decide_eq_true hok) h
theorem rj_no {t : ByteArray} {w w' : World} {e : Ending} (q : RjPost t w e w') (hok : rjB t = false) : e = .returned (.tuple #[.slice none 0 0, .int .i64 0, .bool false]) ∧ Below w.heap.size w w' := by
  obtain ⟨⟨h, _⟩ | ⟨_, rfl⟩, hb⟩ := q
  · exact absurd h (of_decide_eq_false hok)
  · exact ⟨rfl, hb⟩
theorem eqMSz (a b : Option Addr) (cap capb : Nat) (w w0 : World) (L : List (Nat × Ent)) (h : Mine w0 w L) :
    Calls Tryd.prog 57 #[.slice a 0 cap, .slice b 0 capb] w fun e w' => e = .returned (.bool true) ∧ Mine w0 w' L := by
  refine (eqS a b 0 cap capb (fun _ => ⟨#[]⟩) w (.inl rfl) (.inl rfl) (Nat.zero_le _)).mono ?_
  rintro e w' ⟨he, d⟩
  exact ⟨he, h.below d.below⟩
theorem markSz (a : Option Addr) (cap : Nat) (k0 : Int) (w : World) : Calls Tryd.prog 60 #[.slice a 0 cap, .int .i64 k0] w fun e w' => e = .returned (.int .i64 k0) ∧ w = w' := by
  go_enter Tryd.func60, Tryd.ntmps60
  go_wp2
  refine wp_loop_rounds 1 ?_
  rw [rounds_succ]
  go_wp2
  go_ret
  exact ⟨rfl, rfl⟩
theorem heldSz (a : Option Addr) (cap : Nat) (k0 : Int) (w : World) : Calls Tryd.prog 61 #[.slice a 0 cap, .int .i64 k0] w fun e w' => e = .returned (.int .i64 k0) ∧ w = w' := by
  go_enter Tryd.func61, Tryd.ntmps61
  go_wp2
  refine wp_loop_rounds 1 ?_
  rw [rounds_succ]
  go_wp2
  go_ret
  exact ⟨rfl, rfl⟩
set_option maxRecDepth 100000 in
set_option maxHeartbeats 64000000 in
theorem rjl_yes (x1 : ByteArray) (w : World)   (hs1 : x1.size ≤ 1048576) (hok : rjB x1 = true) (hpos : 0 < jN x1) (hpw : Pow w) (hmx : MaxL w) :
    Calls Tryd.prog 14 #[.string x1] w fun e w' => e = .returned (.bool true) ∧ Below w.heap.size w w' := by
  have hmN : (jN x1) ≤ 1048576 := jN_le hok
  have hd1 : decide (1048576 < (x1.size : Int)) = false := decide_eq_false (by omega)
  have HPW := Lib.hid hpw
  have HMX := Lib.hid hmx
  clear hpw hmx
  have HPOS := Lib.hid hpos
  clear hpos
  have HS := Lib.hid (Mine.nil w)
  go_enter Tryd.func14, Tryd.ntmps14
  go_wp2_with (first | (go_at_call 58; (first | (refine (HS.out.keep ((rj_spec x1 hs1 _).mono fun _ _ q => rj_yes q hok HPOS.out)).mono ?_) | (refine ((HS.out.drewN _).keep ((rj_spec x1 hs1 _).mono fun _ _ q => rj_yes q hok HPOS.out)).mono ?_) | (refine (HS.out.drew.keep ((rj_spec x1 hs1 _).mono fun _ _ q => rj_yes q hok HPOS.out)).mono ?_) | (refine ((HS.out.alloc3 _ _ _ _).keep ((rj_spec x1 hs1 _).mono fun _ _ q => rj_yes q hok HPOS.out)).mono ?_) | (refine (((HS.out.alloc3 _ _ _ _).drewN _).keep (rjlS x1 _   hok)).mono ?_) | (refine ((HS.out.alloc3 _ _ _ _).drew.keep ((rj_spec x1 hs1 _).mono fun _ _ q => rj_yes q hok HPOS.out)).mono ?_)); rintro e w2 ⟨⟨g, cp, rfl, hn⟩, hs⟩; have hs := hs.add hn; clear hn; have HS := Lib.hid hs; clear hs; skip) | (go_at_call 59; (first | (refine (HS.out.keep ((rj_impl x1 hs1 w _ HPW.out HMX.out HS.out.out).mono fun _ _ q => rj_yes q hok HPOS.out)).mono ?_) | (refine ((HS.out.drewN _).keep ((rj_impl x1 hs1 w _ HPW.out HMX.out (HS.out.drewN _).out).mono fun _ _ q => rj_yes q hok HPOS.out)).mono ?_) | (refine (HS.out.drew.keep ((rj_impl x1 hs1 w _ HPW.out HMX.out HS.out.drew.out).mono fun _ _ q => rj_yes q hok HPOS.out)).mono ?_) | (refine ((HS.out.alloc3 _ _ _ _).keep ((rj_impl x1 hs1 w _ HPW.out HMX.out (HS.out.alloc3 _ _ _ _).out).mono fun _ _ q => rj_yes q hok HPOS.out)).mono ?_) | (refine (((HS.out.alloc3 _ _ _ _).drewN _).keep (rjlI x1 _   hok)).mono ?_) | (refine ((HS.out.alloc3 _ _ _ _).drew.keep ((rj_impl x1 hs1 w _ HPW.out HMX.out (HS.out.alloc3 _ _ _ _).drew.out).mono fun _ _ q => rj_yes q hok HPOS.out)).mono ?_)); rintro e w2 ⟨⟨g, cp, rfl, hn⟩, hs⟩; have hs := hs.add hn; clear hn; have HS := Lib.hid hs; clear hs; skip) | (go_at_call 57; (first | (with_reducible refine (eqMS _ _ (jN x1) _ _ (jtx x1) _ w _ HS.out ?_ ?_ hmN).mono ?_) | (with_reducible refine (eqMS _ _ (jN x1) _ _ (jtx x1) _ w _ (HS.out.drewN _) ?_ ?_ hmN).mono ?_) | (with_reducible refine (eqMS _ _ (jN x1) _ _ (jtx x1) _ w _ HS.out.drew ?_ ?_ hmN).mono ?_) | (with_reducible refine (eqMS _ _ (jN x1) _ _ (jtx x1) _ w _ (HS.out.alloc3 _ _ _ _) ?_ ?_ hmN).mono ?_) | (with_reducible refine (eqMS _ _ (jN x1) _ _ (jtx x1) _ w _ ((HS.out.alloc3 _ _ _ _).drewN _) ?_ ?_ hmN).mono ?_) | (with_reducible refine (eqMS _ _ (jN x1) _ _ (jtx x1) _ w _ (HS.out.alloc3 _ _ _ _).drew ?_ ?_ hmN).mono ?_)); (next => (simp; done)); (next => (simp; done)); rintro e w2 ⟨rfl, hs⟩; have HS := Lib.hid hs; clear hs; skip) | (go_at_call 60; (first | ((with_reducible refine (markMS _ (jN x1) _ (jtx x1) _ _ w _ 0 HS.out ?_ hmN ?_).mono ?_); (next => rfl); (next => omega)) | ((with_reducible refine (markMS _ (jN x1) _ (jtx x1) _ _ w _ 0 (HS.out.drewN _) ?_ hmN ?_).mono ?_); (next => rfl); (next => omega)) | ((with_reducible refine (markMS _ (jN x1) _ (jtx x1) _ _ w _ 1 HS.out ?_ hmN ?_).mono ?_); (next => rfl); (next => omega)) | ((with_reducible refine (markMS _ (jN x1) _ (jtx x1) _ _ w _ 1 (HS.out.drewN _) ?_ hmN ?_).mono ?_); (next => rfl); (next => omega)) | ((with_reducible refine (markMS _ (jN x1) _ (jtx x1) _ _ w _ 2 HS.out ?_ hmN ?_).mono ?_); (next => rfl); (next => omega)) | ((with_reducible refine (markMS _ (jN x1) _ (jtx x1) _ _ w _ 2 (HS.out.drewN _) ?_ hmN ?_).mono ?_); (next => rfl); (next => omega)) | ((with_reducible refine (markMS _ (jN x1) _ (jtx x1) _ _ w _ 3 HS.out ?_ hmN ?_).mono ?_); (next => rfl); (next => omega)) | ((with_reducible refine (markMS _ (jN x1) _ (jtx x1) _ _ w _ 3 (HS.out.drewN _) ?_ hmN ?_).mono ?_); (next => rfl); (next => omega)) | ((with_reducible refine (markMS _ (jN x1) _ (jtx x1) _ _ w _ 4 HS.out ?_ hmN ?_).mono ?_); (next => rfl); (next => omega)) | ((with_reducible refine (markMS _ (jN x1) _ (jtx x1) _ _ w _ 4 (HS.out.drewN _) ?_ hmN ?_).mono ?_); (next => rfl); (next => omega)) | ((with_reducible refine (markMS _ (jN x1) _ (jtx x1) _ _ w _ 5 HS.out ?_ hmN ?_).mono ?_); (next => rfl); (next => omega)) | ((with_reducible refine (markMS _ (jN x1) _ (jtx x1) _ _ w _ 5 (HS.out.drewN _) ?_ hmN ?_).mono ?_); (next => rfl); (next => omega)) | ((with_reducible refine (markMS _ (jN x1) _ (jtx x1) _ _ w _ 6 HS.out ?_ hmN ?_).mono ?_); (next => rfl); (next => omega)) | ((with_reducible refine (markMS _ (jN x1) _ (jtx x1) _ _ w _ 6 (HS.out.drewN _) ?_ hmN ?_).mono ?_); (next => rfl); (next => omega)) | ((with_reducible refine (markMS _ (jN x1) _ (jtx x1) _ _ w _ 7 HS.out ?_ hmN ?_).mono ?_); (next => rfl); (next => omega)) | ((with_reducible refine (markMS _ (jN x1) _ (jtx x1) _ _ w _ 7 (HS.out.drewN _) ?_ hmN ?_).mono ?_); (next => rfl); (next => omega))); rintro e w2 ⟨rfl, hs⟩; have HS := Lib.hid hs; clear hs; skip) | (go_at_call 61; (first | (with_reducible refine (heldMS _ (jN x1) _ _ _ w _ HS.out ?_ hmN ?_).mono ?_) | (with_reducible refine (heldMS _ (jN x1) _ _ _ w _ (HS.out.drewN _) ?_ hmN ?_).mono ?_) | (with_reducible refine (heldMS _ (jN x1) _ _ _ w _ HS.out.drew ?_ hmN ?_).mono ?_) | (with_reducible refine (heldMS _ (jN x1) _ _ _ w _ (HS.out.alloc3 _ _ _ _) ?_ hmN ?_).mono ?_) | (with_reducible refine (heldMS _ (jN x1) _ _ _ w _ ((HS.out.alloc3 _ _ _ _).drewN _) ?_ hmN ?_).mono ?_) | (with_reducible refine (heldMS _ (jN x1) _ _ _ w _ (HS.out.alloc3 _ _ _ _).drew ?_ hmN ?_).mono ?_)); (next => (simp; done)); (next => omega); rintro e w2 ⟨rfl, hs⟩; have HS := Lib.hid hs; clear hs; skip) | go_in)
  go_ret
  first | exact ⟨rfl, HS.out.out⟩ | exact ⟨rfl, (HS.out.drewN _).out⟩
set_option maxRecDepth 100000 in
set_option maxHeartbeats 64000000 in
theorem rjl_no (x1 : ByteArray) (w : World)   (hs1 : x1.size ≤ 1048576) (hok : rjB x1 = false) (hpw : Pow w) (hmx : MaxL w) :
    Calls Tryd.prog 14 #[.string x1] w fun e w' => e = .returned (.bool true) ∧ Below w.heap.size w w' := by
  have hd1 : decide (1048576 < (x1.size : Int)) = false := decide_eq_false (by omega)
  have HPW := Lib.hid hpw
  have HMX := Lib.hid hmx
  clear hpw hmx
  have HS := Lib.hid (Mine.nil w)
  go_enter Tryd.func14, Tryd.ntmps14
  go_wp2_with (first | (go_at_call 58; (first | (refine (HS.out.keep ((rj_spec x1 hs1 _).mono fun _ _ q => rj_no q hok)).mono ?_) | (refine ((HS.out.drewN _).keep ((rj_spec x1 hs1 _).mono fun _ _ q => rj_no q hok)).mono ?_) | (refine (HS.out.drew.keep ((rj_spec x1 hs1 _).mono fun _ _ q => rj_no q hok)).mono ?_) | (refine ((HS.out.alloc3 _ _ _ _).keep ((rj_spec x1 hs1 _).mono fun _ _ q => rj_no q hok)).mono ?_) | (refine (((HS.out.alloc3 _ _ _ _).drewN _).keep (rjlSN x1 _   hok)).mono ?_) | (refine ((HS.out.alloc3 _ _ _ _).drew.keep ((rj_spec x1 hs1 _).mono fun _ _ q => rj_no q hok)).mono ?_)); rintro e w2 ⟨⟨rfl, hb⟩, hs⟩; have hs := hs.below hb; clear hb; have HS := Lib.hid hs; clear hs; skip) | (go_at_call 59; (first | (refine (HS.out.keep ((rj_impl x1 hs1 w _ HPW.out HMX.out HS.out.out).mono fun _ _ q => rj_no q hok)).mono ?_) | (refine ((HS.out.drewN _).keep ((rj_impl x1 hs1 w _ HPW.out HMX.out (HS.out.drewN _).out).mono fun _ _ q => rj_no q hok)).mono ?_) | (refine (HS.out.drew.keep ((rj_impl x1 hs1 w _ HPW.out HMX.out HS.out.drew.out).mono fun _ _ q => rj_no q hok)).mono ?_) | (refine ((HS.out.alloc3 _ _ _ _).keep ((rj_impl x1 hs1 w _ HPW.out HMX.out (HS.out.alloc3 _ _ _ _).out).mono fun _ _ q => rj_no q hok)).mono ?_) | (refine (((HS.out.alloc3 _ _ _ _).drewN _).keep (rjlIN x1 _   hok)).mono ?_) | (refine ((HS.out.alloc3 _ _ _ _).drew.keep ((rj_impl x1 hs1 w _ HPW.out HMX.out (HS.out.alloc3 _ _ _ _).drew.out).mono fun _ _ q => rj_no q hok)).mono ?_)); rintro e w2 ⟨⟨rfl, hb⟩, hs⟩; have hs := hs.below hb; clear hb; have HS := Lib.hid hs; clear hs; skip) | (go_at_call 57; (first | (with_reducible refine (eqMS0 _ w _ HS.out).mono ?_) | (with_reducible refine (eqMS0 _ w _ (HS.out.drewN _)).mono ?_) | (with_reducible refine (eqMS0 _ w _ HS.out.drew).mono ?_) | (with_reducible refine (eqMS0 _ w _ (HS.out.alloc3 _ _ _ _)).mono ?_) | (with_reducible refine (eqMS0 _ w _ ((HS.out.alloc3 _ _ _ _).drewN _)).mono ?_) | (with_reducible refine (eqMS0 _ w _ (HS.out.alloc3 _ _ _ _).drew).mono ?_)); rintro e w2 ⟨rfl, hs⟩; have HS := Lib.hid hs; clear hs; skip) | (go_at_call 60; (with_reducible refine (markNilS _ _).mono ?_); rintro e w2 ⟨rfl, rfl⟩) | (go_at_call 61; (with_reducible refine (heldNilS _ _).mono ?_); rintro e w2 ⟨rfl, rfl⟩) | go_in)
  go_ret
  first | exact ⟨rfl, HS.out.out⟩ | exact ⟨rfl, (HS.out.drewN _).out⟩
set_option maxRecDepth 100000 in
set_option maxHeartbeats 64000000 in
theorem rjl_zer (x1 : ByteArray) (w : World)   (hs1 : x1.size ≤ 1048576) (hok : rjB x1 = true) (hz9 : jN x1 = 0) (hpw : Pow w) (hmx : MaxL w) :
    Calls Tryd.prog 14 #[.string x1] w fun e w' => e = .returned (.bool true) ∧ Below w.heap.size w w' := by
  have hd1 : decide (1048576 < (x1.size : Int)) = false := decide_eq_false (by omega)
  have HPW := Lib.hid hpw
  have HMX := Lib.hid hmx
  clear hpw hmx
  have HZ9 := Lib.hid hz9
  clear hz9
  have HS := Lib.hid (Mine.nil w)
  go_enter Tryd.func14, Tryd.ntmps14
  go_wp2_with (first | (go_at_call 58; (first | (refine (HS.out.keep ((rj_spec x1 hs1 _).mono fun _ _ q => rj_zero q hok HZ9.out)).mono ?_) | (refine ((HS.out.drewN _).keep ((rj_spec x1 hs1 _).mono fun _ _ q => rj_zero q hok HZ9.out)).mono ?_) | (refine (HS.out.drew.keep ((rj_spec x1 hs1 _).mono fun _ _ q => rj_zero q hok HZ9.out)).mono ?_) | (refine ((HS.out.alloc3 _ _ _ _).keep ((rj_spec x1 hs1 _).mono fun _ _ q => rj_zero q hok HZ9.out)).mono ?_) | (refine (((HS.out.alloc3 _ _ _ _).drewN _).keep (rjlSN x1 _   hok)).mono ?_) | (refine ((HS.out.alloc3 _ _ _ _).drew.keep ((rj_spec x1 hs1 _).mono fun _ _ q => rj_zero q hok HZ9.out)).mono ?_)); rintro e w2 ⟨⟨b, cp, rfl, hb⟩, hs⟩; have hs := hs.below hb; clear hb; have HS := Lib.hid hs; clear hs; skip) | (go_at_call 59; (first | (refine (HS.out.keep ((rj_impl x1 hs1 w _ HPW.out HMX.out HS.out.out).mono fun _ _ q => rj_zero q hok HZ9.out)).mono ?_) | (refine ((HS.out.drewN _).keep ((rj_impl x1 hs1 w _ HPW.out HMX.out (HS.out.drewN _).out).mono fun _ _ q => rj_zero q hok HZ9.out)).mono ?_) | (refine (HS.out.drew.keep ((rj_impl x1 hs1 w _ HPW.out HMX.out HS.out.drew.out).mono fun _ _ q => rj_zero q hok HZ9.out)).mono ?_) | (refine ((HS.out.alloc3 _ _ _ _).keep ((rj_impl x1 hs1 w _ HPW.out HMX.out (HS.out.alloc3 _ _ _ _).out).mono fun _ _ q => rj_zero q hok HZ9.out)).mono ?_) | (refine (((HS.out.alloc3 _ _ _ _).drewN _).keep (rjlIN x1 _   hok)).mono ?_) | (refine ((HS.out.alloc3 _ _ _ _).drew.keep ((rj_impl x1 hs1 w _ HPW.out HMX.out (HS.out.alloc3 _ _ _ _).drew.out).mono fun _ _ q => rj_zero q hok HZ9.out)).mono ?_)); rintro e w2 ⟨⟨b, cp, rfl, hb⟩, hs⟩; have hs := hs.below hb; clear hb; have HS := Lib.hid hs; clear hs; skip) | (go_at_call 57; (first | (with_reducible refine (eqMSz _ _ _ _ _ w _ HS.out).mono ?_) | (with_reducible refine (eqMSz _ _ _ _ _ w _ (HS.out.drewN _)).mono ?_) | (with_reducible refine (eqMSz _ _ _ _ _ w _ HS.out.drew).mono ?_) | (with_reducible refine (eqMSz _ _ _ _ _ w _ (HS.out.alloc3 _ _ _ _)).mono ?_) | (with_reducible refine (eqMSz _ _ _ _ _ w _ ((HS.out.alloc3 _ _ _ _).drewN _)).mono ?_) | (with_reducible refine (eqMSz _ _ _ _ _ w _ (HS.out.alloc3 _ _ _ _).drew).mono ?_)); rintro e w2 ⟨rfl, hs⟩; have HS := Lib.hid hs; clear hs; skip) | (go_at_call 60; (with_reducible refine (markSz _ _ _ _).mono ?_); rintro e w2 ⟨rfl, rfl⟩) | (go_at_call 61; (with_reducible refine (heldSz _ _ _ _).mono ?_); rintro e w2 ⟨rfl, rfl⟩) | go_in)
  go_ret
  first | exact ⟨rfl, HS.out.out⟩ | exact ⟨rfl, (HS.out.drewN _).out⟩
set_option maxRecDepth 100000 in
set_option maxHeartbeats 4000000 in
theorem rjll_walk (x1 : ByteArray) (w : World) (_ : x1.size ≤ maxLen) (hT : Lib.TabIs Tryd.prog w "internal/strconv.uint64pow10" .u64 Lib.pow10Tab) (h3 : ∃ m, w.cell? ⟨3, 0, none⟩ = some (.int .i64 m)) :
    Calls Tryd.prog 14 #[.string x1] w fun e w' => e = .returned (.bool true) ∧ Below w.heap.size w w' := by
  by_cases hs1 : x1.size ≤ 1048576
  · cases hok : rjB x1 with
    | true =>
      by_cases hpos : 0 < jN x1
      · exact rjl_yes x1 w hs1 hok hpos (Pow.of hT) (MaxL.of h3)
      · exact rjl_zer x1 w hs1 hok (by omega) (Pow.of hT) (MaxL.of h3)
    | false => exact rjl_no x1 w hs1 hok (Pow.of hT) (MaxL.of h3)
  · have hd1 : decide (1048576 < (x1.size : Int)) = true := decide_eq_true (by omega)
    clear hT h3
    go_enter Tryd.func14, Tryd.ntmps14
    go_wp2
    go_ret
    exact ⟨rfl, Below.refl _ _⟩
end Go.Proofs.YthkabonnclfhmaaDoor
