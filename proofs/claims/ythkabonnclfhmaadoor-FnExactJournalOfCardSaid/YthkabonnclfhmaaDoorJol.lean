
/- JournalOf: the law. -/
import Derived.Test.YthkabonnclfhmaaDoorJow
namespace Go.Proofs.YthkabonnclfhmaaDoor
open Go.Proofs.YthkabonnclfhmaaDoor.Flo Go.RowKit Go.Proofs.YthkabonnclfhmaaDoor.Dcn

set_option maxRecDepth 100000 in
set_option maxHeartbeats 16000000 in
theorem jol_yes (a1 : Option Addr) (n1 cap1 : Nat) (f1 : Nat → ByteArray) (w : World) (h1 : SRow w a1 n1 f1) (hx1 : n1 ≤ 9223372036854775807) (hy1 : ∀ k, k < n1 → (f1 k).size ≤ 9223372036854775807) (hpw : Pow w) (ht : n1 + totS f1 n1 ≤ 1048576) (hok : jOk f1 n1 = true) :
    Calls Tryd.prog 13 #[.slice a1 n1 cap1] w fun e w' => e = .returned (.bool true) ∧ Below w.heap.size w w' := by
  have hm1 : n1 ≤ 1048576 := by omega
  have HF : Hid (∀ k, k < n1 → (f1 k).size ≤ 1048576) := Lib.hid (fun k hk => by have := totS_each f1 hk; omega)
  have SZ : Hid (∀ W, SRow W a1 n1 f1 → Calls Tryd.prog 53 #[.slice a1 n1 cap1, .int .i64 1048576] W fun e w' => e = .returned (.int .i64 ((1048576 : Int) - n1 - totS f1 n1)) ∧ W = w') := Lib.hid (fun W hW => by
    have := szS a1 n1 cap1 1048576 f1 W hW hx1 hy1 (by omega)
    unfold szV at this
    rw [if_pos ht] at this
    exact this)
  have hd : decide ((1048576 : Int) - n1 - totS f1 n1 < 0) = false := decide_eq_false (by omega)
  generalize (1048576 : Int) - n1 - totS f1 n1 = left at SZ hd
  have H1 := Lib.hid h1
  have HPW := Lib.hid hpw
  clear hpw
  have HS := Lib.hid (Mine.nil w)
  clear h1 ht hx1 hy1
  go_enter Tryd.func13, Tryd.ntmps13
  go_wp2_with (first | (go_at_call 53; (first | (with_reducible refine (HS.out.keep (SZ.out _ H1.out)).mono ?_) | (with_reducible refine ((HS.out.drewN _).keep (SZ.out _ H1.out)).mono ?_) | (with_reducible refine (HS.out.drew.keep (SZ.out _ H1.out)).mono ?_)); rintro e w2 ⟨⟨rfl, rfl⟩, hs⟩; have HS := Lib.hid hs; clear hs; skip) | (go_at_call 55; (first | (with_reducible refine (toMS a1 n1 cap1 f1 _ w _ HS.out H1.out hm1).mono ?_) | (with_reducible refine (toMS a1 n1 cap1 f1 _ w _ (HS.out.drewN _) H1.out hm1).mono ?_) | (with_reducible refine (toMS a1 n1 cap1 f1 _ w _ HS.out.drew H1.out hm1).mono ?_)); rintro e w2 ⟨p, rfl, hs⟩; have HS := Lib.hid hs; clear hs; skip) | (go_at_call 54; (first | (refine (HS.out.keep (jo_sy _ n1 _ f1 _ ?_ hm1 HF.out hok)).mono ?_) | (refine ((HS.out.drewN _).keep (jo_sy _ n1 _ f1 _ ?_ hm1 HF.out hok)).mono ?_) | (refine (HS.out.drew.keep (jo_sy _ n1 _ f1 _ ?_ hm1 HF.out hok)).mono ?_)); (next => (first | (refine HS.out.srow ?_; simp; done) | (refine (HS.out.drewN _).srow ?_; simp; done) | (refine HS.out.drew.srow ?_; simp; done))); rintro e w2 ⟨⟨rfl, hb⟩, hs⟩; have hs := hs.below hb; clear hb; have HS := Lib.hid hs; clear hs; skip) | (go_at_call 56; (first | (refine (HS.out.keep (jo_iy _ n1 _ f1 w _ ?_ hm1 HF.out HPW.out HS.out.out hok)).mono ?_) | (refine ((HS.out.drewN _).keep (jo_iy _ n1 _ f1 w _ ?_ hm1 HF.out HPW.out (HS.out.drewN _).out hok)).mono ?_) | (refine (HS.out.drew.keep (jo_iy _ n1 _ f1 w _ ?_ hm1 HF.out HPW.out HS.out.drew.out hok)).mono ?_)); (next => (first | (refine HS.out.srow ?_; simp; done) | (refine (HS.out.drewN _).srow ?_; simp; done) | (refine HS.out.drew.srow ?_; simp; done))); rintro e w2 ⟨⟨rfl, hb⟩, hs⟩; have hs := hs.below hb; clear hb; have HS := Lib.hid hs; clear hs; skip) | (go_at_call 57; (first | (with_reducible refine (eqMS _ _ n1 _ _ f1 _ w _ HS.out ?_ ?_ hm1).mono ?_) | (with_reducible refine (eqMS _ _ n1 _ _ f1 _ w _ (HS.out.drewN _) ?_ ?_ hm1).mono ?_) | (with_reducible refine (eqMS _ _ n1 _ _ f1 _ w _ HS.out.drew ?_ ?_ hm1).mono ?_)); (next => (simp; done)); (next => (simp; done)); rintro e w2 ⟨rfl, hs⟩; have HS := Lib.hid hs; clear hs; skip) | go_in)
  go_ret
  first | exact ⟨rfl, HS.out.out⟩ | exact ⟨rfl, (HS.out.drewN _).out⟩
set_option maxRecDepth 100000 in
set_option maxHeartbeats 16000000 in
theorem jol_no (a1 : Option Addr) (n1 cap1 : Nat) (f1 : Nat → ByteArray) (w : World) (h1 : SRow w a1 n1 f1) (hx1 : n1 ≤ 9223372036854775807) (hy1 : ∀ k, k < n1 → (f1 k).size ≤ 9223372036854775807) (hpw : Pow w) (ht : n1 + totS f1 n1 ≤ 1048576) (hok : jOk f1 n1 = false) :
    Calls Tryd.prog 13 #[.slice a1 n1 cap1] w fun e w' => e = .returned (.bool true) ∧ Below w.heap.size w w' := by
  have hm1 : n1 ≤ 1048576 := by omega
  have HF : Hid (∀ k, k < n1 → (f1 k).size ≤ 1048576) := Lib.hid (fun k hk => by have := totS_each f1 hk; omega)
  have SZ : Hid (∀ W, SRow W a1 n1 f1 → Calls Tryd.prog 53 #[.slice a1 n1 cap1, .int .i64 1048576] W fun e w' => e = .returned (.int .i64 ((1048576 : Int) - n1 - totS f1 n1)) ∧ W = w') := Lib.hid (fun W hW => by
    have := szS a1 n1 cap1 1048576 f1 W hW hx1 hy1 (by omega)
    unfold szV at this
    rw [if_pos ht] at this
    exact this)
  have hd : decide ((1048576 : Int) - n1 - totS f1 n1 < 0) = false := decide_eq_false (by omega)
  generalize (1048576 : Int) - n1 - totS f1 n1 = left at SZ hd
  have H1 := Lib.hid h1
  have HPW := Lib.hid hpw
  clear hpw
  have HS := Lib.hid (Mine.nil w)
  clear h1 ht hx1 hy1
  go_enter Tryd.func13, Tryd.ntmps13
  go_wp2_with (first | (go_at_call 53; (first | (with_reducible refine (HS.out.keep (SZ.out _ H1.out)).mono ?_) | (with_reducible refine ((HS.out.drewN _).keep (SZ.out _ H1.out)).mono ?_) | (with_reducible refine (HS.out.drew.keep (SZ.out _ H1.out)).mono ?_)); rintro e w2 ⟨⟨rfl, rfl⟩, hs⟩; have HS := Lib.hid hs; clear hs; skip) | (go_at_call 55; (first | (with_reducible refine (toMS a1 n1 cap1 f1 _ w _ HS.out H1.out hm1).mono ?_) | (with_reducible refine (toMS a1 n1 cap1 f1 _ w _ (HS.out.drewN _) H1.out hm1).mono ?_) | (with_reducible refine (toMS a1 n1 cap1 f1 _ w _ HS.out.drew H1.out hm1).mono ?_)); rintro e w2 ⟨p, rfl, hs⟩; have HS := Lib.hid hs; clear hs; skip) | (go_at_call 54; (first | (refine (HS.out.keep (jo_sn _ n1 _ f1 _ ?_ hm1 HF.out hok)).mono ?_) | (refine ((HS.out.drewN _).keep (jo_sn _ n1 _ f1 _ ?_ hm1 HF.out hok)).mono ?_) | (refine (HS.out.drew.keep (jo_sn _ n1 _ f1 _ ?_ hm1 HF.out hok)).mono ?_)); (next => (first | (refine HS.out.srow ?_; simp; done) | (refine (HS.out.drewN _).srow ?_; simp; done) | (refine HS.out.drew.srow ?_; simp; done))); rintro e w2 ⟨⟨rfl, hb⟩, hs⟩; have hs := hs.below hb; clear hb; have HS := Lib.hid hs; clear hs; skip) | (go_at_call 56; (first | (refine (HS.out.keep (jo_in _ n1 _ f1 w _ ?_ hm1 HF.out HPW.out HS.out.out hok)).mono ?_) | (refine ((HS.out.drewN _).keep (jo_in _ n1 _ f1 w _ ?_ hm1 HF.out HPW.out (HS.out.drewN _).out hok)).mono ?_) | (refine (HS.out.drew.keep (jo_in _ n1 _ f1 w _ ?_ hm1 HF.out HPW.out HS.out.drew.out hok)).mono ?_)); (next => (first | (refine HS.out.srow ?_; simp; done) | (refine (HS.out.drewN _).srow ?_; simp; done) | (refine HS.out.drew.srow ?_; simp; done))); rintro e w2 ⟨⟨rfl, hb⟩, hs⟩; have hs := hs.below hb; clear hb; have HS := Lib.hid hs; clear hs; skip) | (go_at_call 57; (first | (with_reducible refine (eqMS _ _ n1 _ _ f1 _ w _ HS.out ?_ ?_ hm1).mono ?_) | (with_reducible refine (eqMS _ _ n1 _ _ f1 _ w _ (HS.out.drewN _) ?_ ?_ hm1).mono ?_) | (with_reducible refine (eqMS _ _ n1 _ _ f1 _ w _ HS.out.drew ?_ ?_ hm1).mono ?_)); (next => (simp; done)); (next => (simp; done)); rintro e w2 ⟨rfl, hs⟩; have HS := Lib.hid hs; clear hs; skip) | go_in)
  go_ret
  first | exact ⟨rfl, HS.out.out⟩ | exact ⟨rfl, (HS.out.drewN _).out⟩
set_option maxRecDepth 100000 in
set_option maxHeartbeats 4000000 in
theorem jol_walk (a1 : Option Addr) (n1 cap1 : Nat) (f1 : Nat → ByteArray) (w : World) (h1 : SRow w a1 n1 f1) (hy1 : ∀ k, k < n1 → (f1 k).size ≤ 9223372036854775807) (hx1 : n1 ≤ 9223372036854775807) (hT : Lib.TabIs Tryd.prog w "internal/strconv.uint64pow10" .u64 Lib.pow10Tab) :
    Calls Tryd.prog 13 #[.slice a1 n1 cap1] w fun e w' => e = .returned (.bool true) ∧ Below w.heap.size w w' := by
  by_cases ht : n1 + totS f1 n1 ≤ 1048576
  · cases hok : jOk f1 n1 with
    | true => exact jol_yes a1 n1 cap1 f1 w h1 hx1 hy1 (Pow.of hT) ht hok
    | false => exact jol_no a1 n1 cap1 f1 w h1 hx1 hy1 (Pow.of hT) ht hok
  · have SZ : Hid (Calls Tryd.prog 53 #[.slice a1 n1 cap1, .int .i64 1048576] w fun e w' => e = .returned (.int .i64 (-1)) ∧ w = w') := Lib.hid (by
      have := szS a1 n1 cap1 1048576 f1 w h1 hx1 hy1 (by omega)
      unfold szV at this
      rw [if_neg ht] at this
      exact this)
    clear h1 ht hx1 hy1 hT
    go_enter Tryd.func13, Tryd.ntmps13
    go_wp2_with (first | (go_at_call 53; refine SZ.out.mono ?_; rintro e w2 ⟨rfl, rfl⟩) | go_in)
    go_ret
    exact ⟨rfl, Below.refl _ _⟩
end Go.Proofs.YthkabonnclfhmaaDoor
