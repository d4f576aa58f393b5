/- IsPrefixFree: the law. -/
import Derived.Test.YtaalddkpldbdkaaPfw
namespace Go.Proofs.Ytaalddkpldbdkaa
open Go.Proofs.Ytaalddkpldbdkaa.Flo Go.RowKit

set_option maxRecDepth 100000 in
set_option maxHeartbeats 16000000 in
theorem pf_yes (a1 : Option Addr) (n1 cap1 : Nat) (f1 : Nat → ByteArray) (w : World) (h1 : SRow w a1 n1 f1) (hx1 : n1 ≤ 9223372036854775807) (hy1 : ∀ k, k < n1 → (f1 k).size ≤ 9223372036854775807) (ht : n1 + totS f1 n1 ≤ 1048576) (hok : wlB f1 n1 = true) :
    Calls Try.prog 6 #[.slice a1 n1 cap1] w fun e w' => e = .returned (.bool true) ∧ Below w.heap.size w w' := by
  have hm1 : n1 ≤ 1048576 := by omega
  have HF : Hid (∀ k, k < n1 → (f1 k).size ≤ 1048576) := Lib.hid (fun k hk => by have := totS_each f1 hk; omega)
  have SZ : Hid (∀ W, SRow W a1 n1 f1 → Calls Try.prog 25 #[.slice a1 n1 cap1, .int .i64 1048576] W fun e w' => e = .returned (.int .i64 ((1048576 : Int) - n1 - totS f1 n1)) ∧ W = w') := Lib.hid (fun W hW => by
    have := szS a1 n1 cap1 1048576 f1 W hW hx1 hy1 (by omega)
    unfold szV at this
    rw [if_pos ht] at this
    exact this)
  have hd : decide ((1048576 : Int) - n1 - totS f1 n1 < 0) = false := decide_eq_false (by omega)
  generalize (1048576 : Int) - n1 - totS f1 n1 = left at SZ hd
  have H1 := Lib.hid h1
  have HS := Lib.hid (Mine.nil w)
  clear h1 ht hx1 hy1
  go_enter Try.func6, Try.ntmps6
  go_wp2_with (first | (go_at_call 25; (first | (with_reducible refine (HS.out.keep (SZ.out _ H1.out)).mono ?_) | (with_reducible refine ((HS.out.drewN _).keep (SZ.out _ H1.out)).mono ?_) | (with_reducible refine (HS.out.drew.keep (SZ.out _ H1.out)).mono ?_)); rintro e w2 ⟨⟨rfl, rfl⟩, hs⟩; have HS := Lib.hid hs; clear hs; skip) | (go_at_call 27; (first | (with_reducible refine (toMS a1 n1 cap1 f1 _ w _ HS.out H1.out hm1).mono ?_) | (with_reducible refine (toMS a1 n1 cap1 f1 _ w _ (HS.out.drewN _) H1.out hm1).mono ?_) | (with_reducible refine (toMS a1 n1 cap1 f1 _ w _ HS.out.drew H1.out hm1).mono ?_)); rintro e w2 ⟨p, rfl, hs⟩; have HS := Lib.hid hs; clear hs; skip) | (go_at_call 26; (first | (refine (HS.out.keep (pf_spec _ n1 _ f1 _ ?_ hm1 HF.out hok)).mono ?_) | (refine ((HS.out.drewN _).keep (pf_spec _ n1 _ f1 _ ?_ hm1 HF.out hok)).mono ?_) | (refine (HS.out.drew.keep (pf_spec _ n1 _ f1 _ ?_ hm1 HF.out hok)).mono ?_)); (next => (first | (refine HS.out.srow ?_; simp; done) | (refine (HS.out.drewN _).srow ?_; simp; done) | (refine HS.out.drew.srow ?_; simp; done))); rintro e w2 ⟨⟨rfl, hb⟩, hs⟩; have hs := hs.below hb; clear hb; have HS := Lib.hid hs; clear hs; skip) | (go_at_call 28; (first | (refine (HS.out.keep (pf_impl _ n1 _ f1 _ ?_ hm1 HF.out hok)).mono ?_) | (refine ((HS.out.drewN _).keep (pf_impl _ n1 _ f1 _ ?_ hm1 HF.out hok)).mono ?_) | (refine (HS.out.drew.keep (pf_impl _ n1 _ f1 _ ?_ hm1 HF.out hok)).mono ?_)); (next => (first | (refine HS.out.srow ?_; simp; done) | (refine (HS.out.drewN _).srow ?_; simp; done) | (refine HS.out.drew.srow ?_; simp; done))); rintro e w2 ⟨⟨rfl, hb⟩, hs⟩; have hs := hs.below hb; clear hb; have HS := Lib.hid hs; clear hs; skip) | (go_at_call 29; (first | (with_reducible refine (eqMS _ _ n1 _ _ f1 _ w _ HS.out ?_ ?_ hm1).mono ?_) | (with_reducible refine (eqMS _ _ n1 _ _ f1 _ w _ (HS.out.drewN _) ?_ ?_ hm1).mono ?_) | (with_reducible refine (eqMS _ _ n1 _ _ f1 _ w _ HS.out.drew ?_ ?_ hm1).mono ?_)); (next => (simp; done)); (next => (simp; done)); rintro e w2 ⟨rfl, hs⟩; have HS := Lib.hid hs; clear hs; skip) | go_in)
  go_ret
  first | exact ⟨rfl, HS.out.out⟩ | exact ⟨rfl, (HS.out.drewN _).out⟩
set_option maxRecDepth 100000 in
set_option maxHeartbeats 16000000 in
theorem pf_no (a1 : Option Addr) (n1 cap1 : Nat) (f1 : Nat → ByteArray) (w : World) (h1 : SRow w a1 n1 f1) (hx1 : n1 ≤ 9223372036854775807) (hy1 : ∀ k, k < n1 → (f1 k).size ≤ 9223372036854775807) (ht : n1 + totS f1 n1 ≤ 1048576) (hok : wlB f1 n1 = false) :
    Calls Try.prog 6 #[.slice a1 n1 cap1] w fun e w' => e = .returned (.bool true) ∧ Below w.heap.size w w' := by
  have hm1 : n1 ≤ 1048576 := by omega
  have HF : Hid (∀ k, k < n1 → (f1 k).size ≤ 1048576) := Lib.hid (fun k hk => by have := totS_each f1 hk; omega)
  have SZ : Hid (∀ W, SRow W a1 n1 f1 → Calls Try.prog 25 #[.slice a1 n1 cap1, .int .i64 1048576] W fun e w' => e = .returned (.int .i64 ((1048576 : Int) - n1 - totS f1 n1)) ∧ W = w') := Lib.hid (fun W hW => by
    have := szS a1 n1 cap1 1048576 f1 W hW hx1 hy1 (by omega)
    unfold szV at this
    rw [if_pos ht] at this
    exact this)
  have hd : decide ((1048576 : Int) - n1 - totS f1 n1 < 0) = false := decide_eq_false (by omega)
  generalize (1048576 : Int) - n1 - totS f1 n1 = left at SZ hd
  have H1 := Lib.hid h1
  have HS := Lib.hid (Mine.nil w)
  clear h1 ht hx1 hy1
  go_enter Try.func6, Try.ntmps6
  go_wp2_with (first | (go_at_call 25; (first | (with_reducible refine (HS.out.keep (SZ.out _ H1.out)).mono ?_) | (with_reducible refine ((HS.out.drewN _).keep (SZ.out _ H1.out)).mono ?_) | (with_reducible refine (HS.out.drew.keep (SZ.out _ H1.out)).mono ?_)); rintro e w2 ⟨⟨rfl, rfl⟩, hs⟩; have HS := Lib.hid hs; clear hs; skip) | (go_at_call 27; (first | (with_reducible refine (toMS a1 n1 cap1 f1 _ w _ HS.out H1.out hm1).mono ?_) | (with_reducible refine (toMS a1 n1 cap1 f1 _ w _ (HS.out.drewN _) H1.out hm1).mono ?_) | (with_reducible refine (toMS a1 n1 cap1 f1 _ w _ HS.out.drew H1.out hm1).mono ?_)); rintro e w2 ⟨p, rfl, hs⟩; have HS := Lib.hid hs; clear hs; skip) | (go_at_call 26; (first | (refine (HS.out.keep (pf_spec' _ n1 _ f1 _ ?_ hm1 HF.out hok)).mono ?_) | (refine ((HS.out.drewN _).keep (pf_spec' _ n1 _ f1 _ ?_ hm1 HF.out hok)).mono ?_) | (refine (HS.out.drew.keep (pf_spec' _ n1 _ f1 _ ?_ hm1 HF.out hok)).mono ?_)); (next => (first | (refine HS.out.srow ?_; simp; done) | (refine (HS.out.drewN _).srow ?_; simp; done) | (refine HS.out.drew.srow ?_; simp; done))); rintro e w2 ⟨⟨rfl, hb⟩, hs⟩; have hs := hs.below hb; clear hb; have HS := Lib.hid hs; clear hs; skip) | (go_at_call 28; (first | (refine (HS.out.keep (pf_impl' _ n1 _ f1 _ ?_ hm1 HF.out hok)).mono ?_) | (refine ((HS.out.drewN _).keep (pf_impl' _ n1 _ f1 _ ?_ hm1 HF.out hok)).mono ?_) | (refine (HS.out.drew.keep (pf_impl' _ n1 _ f1 _ ?_ hm1 HF.out hok)).mono ?_)); (next => (first | (refine HS.out.srow ?_; simp; done) | (refine (HS.out.drewN _).srow ?_; simp; done) | (refine HS.out.drew.srow ?_; simp; done))); rintro e w2 ⟨⟨rfl, hb⟩, hs⟩; have hs := hs.below hb; clear hb; have HS := Lib.hid hs; clear hs; skip) | (go_at_call 29; (first | (with_reducible refine (eqMS _ _ n1 _ _ f1 _ w _ HS.out ?_ ?_ hm1).mono ?_) | (with_reducible refine (eqMS _ _ n1 _ _ f1 _ w _ (HS.out.drewN _) ?_ ?_ hm1).mono ?_) | (with_reducible refine (eqMS _ _ n1 _ _ f1 _ w _ HS.out.drew ?_ ?_ hm1).mono ?_)); (next => (simp; done)); (next => (simp; done)); rintro e w2 ⟨rfl, hs⟩; have HS := Lib.hid hs; clear hs; skip) | go_in)
  go_ret
  first | exact ⟨rfl, HS.out.out⟩ | exact ⟨rfl, (HS.out.drewN _).out⟩
set_option maxRecDepth 100000 in
set_option maxHeartbeats 4000000 in
theorem pf_walk (a1 : Option Addr) (n1 cap1 : Nat) (f1 : Nat → ByteArray) (w : World) (h1 : SRow w a1 n1 f1) (hy1 : ∀ k, k < n1 → (f1 k).size ≤ 9223372036854775807) (hx1 : n1 ≤ 9223372036854775807) :
    Calls Try.prog 6 #[.slice a1 n1 cap1] w fun e w' => e = .returned (.bool true) ∧ Below w.heap.size w w' := by
  by_cases ht : n1 + totS f1 n1 ≤ 1048576
  · cases hok : wlB f1 n1 with
    | true => exact pf_yes a1 n1 cap1 f1 w h1 hx1 hy1 ht hok
    | false => exact pf_no a1 n1 cap1 f1 w h1 hx1 hy1 ht hok
  · have SZ : Hid (Calls Try.prog 25 #[.slice a1 n1 cap1, .int .i64 1048576] w fun e w' => e = .returned (.int .i64 (-1)) ∧ w = w') := Lib.hid (by
      have := szS a1 n1 cap1 1048576 f1 w h1 hx1 hy1 (by omega)
      unfold szV at this
      rw [if_neg ht] at this
      exact this)
    clear h1 ht hx1 hy1
    go_enter Try.func6, Try.ntmps6
    go_wp2_with (first | (go_at_call 25; refine SZ.out.mono ?_; rintro e w2 ⟨rfl, rfl⟩) | go_in)
    go_ret
    exact ⟨rfl, Below.refl _ _⟩
end Go.Proofs.Ytaalddkpldbdkaa
