/- BitsOfRuns: the law. -/
import Derived.Test.YtaalddkpldbdkaaBrw
import Derived.Test.YtaalddkpldbdkaaGsp
namespace Go.Proofs.Ytaalddkpldbdkaa
open Go.Proofs.Ytaalddkpldbdkaa.Flo Go.RowKit

theorem br_specT (f : Bool) (a : Option Addr) (n cap : Nat) (zs : List Int) (w : World) (h : IRow w a n zs) (hn : n ≤ 1048576) (hok : okBR zs n = true) :
    Calls Try.prog 32 #[.bool f, .slice a n cap] w fun e w' => e = .returned (.tuple #[.string (txB (ruT f zs n)), .bool true]) ∧ Below w.heap.size w w' :=
  (br_spec f a n cap zs w h hn).mono fun _ _ ⟨h1, h2⟩ => ⟨by rw [h1, brA_yes (of_decide_eq_true hok)], h2 ▸ Below.refl _ _⟩
theorem br_specF (f : Bool) (a : Option Addr) (n cap : Nat) (zs : List Int) (w : World) (h : IRow w a n zs) (hn : n ≤ 1048576) (hok : okBR zs n = false) :
    Calls Try.prog 32 #[.bool f, .slice a n cap] w fun e w' => e = .returned (.tuple #[.string ⟨#[]⟩, .bool false]) ∧ Below w.heap.size w w' :=
  (br_spec f a n cap zs w h hn).mono fun _ _ ⟨h1, h2⟩ => ⟨by rw [h1, brA_no hok], h2 ▸ Below.refl _ _⟩
theorem br_implT (f : Bool) (a : Option Addr) (n cap : Nat) (zs : List Int) (w : World) (h : IRow w a n zs) (hn : n ≤ 1048576) (hok : okBR zs n = true) :
    Calls Try.prog 33 #[.bool f, .slice a n cap] w fun e w' => e = .returned (.tuple #[.string (txB (ruT f zs n)), .bool true]) ∧ Below w.heap.size w w' :=
  (br_impl f a n cap zs w h hn).mono fun _ _ ⟨h1, h2⟩ => ⟨by rw [h1, brA_yes (of_decide_eq_true hok)], h2⟩
theorem br_implF (f : Bool) (a : Option Addr) (n cap : Nat) (zs : List Int) (w : World) (h : IRow w a n zs) (hn : n ≤ 1048576) (hok : okBR zs n = false) :
    Calls Try.prog 33 #[.bool f, .slice a n cap] w fun e w' => e = .returned (.tuple #[.string ⟨#[]⟩, .bool false]) ∧ Below w.heap.size w w' :=
  (br_impl f a n cap zs w h hn).mono fun _ _ ⟨h1, h2⟩ => ⟨by rw [h1, brA_no hok], h2⟩
set_option maxRecDepth 100000 in
set_option maxHeartbeats 64000000 in
theorem br_yes (x1 : Bool) (a2 : Option Addr) (n2 cap2 : Nat) (z2 : List Int) (w : World) (h2 : IRow w a2 n2 z2) (hm2 : n2 ≤ 1048576) (hok : okBR z2 n2 = true) :
    Calls Try.prog 8 #[.bool x1, .slice a2 n2 cap2] w fun e w' => e = .returned (.bool true) ∧ Below w.heap.size w w' := by
  have hd2 : decide (1048576 < (n2 : Int)) = false := by simp; omega
  have H2 := Lib.hid h2
  have HS := Lib.hid (Mine.nil w)
  clear h2
  go_enter Try.func8, Try.ntmps8
  go_wp2_with (first | (go_at_call 21; (first | (with_reducible refine (toMI a2 n2 cap2 z2 _ w _ HS.out H2.out hm2).mono ?_) | (with_reducible refine (toMI a2 n2 cap2 z2 _ w _ (HS.out.drewN _) H2.out hm2).mono ?_) | (with_reducible refine (toMI a2 n2 cap2 z2 _ w _ HS.out.drew H2.out hm2).mono ?_) | (with_reducible refine (toMI a2 n2 cap2 z2 _ w _ (HS.out.alloc3 _ _ _ _) H2.out hm2).mono ?_) | (with_reducible refine (toMI a2 n2 cap2 z2 _ w _ ((HS.out.alloc3 _ _ _ _).drewN _) H2.out hm2).mono ?_) | (with_reducible refine (toMI a2 n2 cap2 z2 _ w _ (HS.out.alloc3 _ _ _ _).drew H2.out hm2).mono ?_)); rintro e w2 ⟨p, rfl, hs⟩; have HS := Lib.hid hs; clear hs; skip) | (go_at_call 32; (first | (refine (HS.out.keep (br_specT x1 _ n2 _ z2 _ ?_ hm2 hok)).mono ?_) | (refine ((HS.out.drewN _).keep (br_specT x1 _ n2 _ z2 _ ?_ hm2 hok)).mono ?_) | (refine (HS.out.drew.keep (br_specT x1 _ n2 _ z2 _ ?_ hm2 hok)).mono ?_) | (refine ((HS.out.alloc3 _ _ _ _).keep (br_specT x1 _ n2 _ z2 _ ?_ hm2 hok)).mono ?_) | (refine (((HS.out.alloc3 _ _ _ _).drewN _).keep (br_specT x1 _ n2 _ z2 _ ?_ hm2 hok)).mono ?_) | (refine ((HS.out.alloc3 _ _ _ _).drew.keep (br_specT x1 _ n2 _ z2 _ ?_ hm2 hok)).mono ?_)); (next => (first | (refine HS.out.irow ?_; simp; done) | (refine (HS.out.drewN _).irow ?_; simp; done) | (refine HS.out.drew.irow ?_; simp; done) | (refine (HS.out.alloc3 _ _ _ _).irow ?_; simp; done) | (refine ((HS.out.alloc3 _ _ _ _).drewN _).irow ?_; simp; done) | (refine (HS.out.alloc3 _ _ _ _).drew.irow ?_; simp; done))); rintro e w2 ⟨⟨rfl, hb⟩, hs⟩; have hs := hs.below hb; clear hb; have HS := Lib.hid hs; clear hs; skip) | (go_at_call 33; (first | (refine (HS.out.keep (br_implT x1 _ n2 _ z2 _ ?_ hm2 hok)).mono ?_) | (refine ((HS.out.drewN _).keep (br_implT x1 _ n2 _ z2 _ ?_ hm2 hok)).mono ?_) | (refine (HS.out.drew.keep (br_implT x1 _ n2 _ z2 _ ?_ hm2 hok)).mono ?_) | (refine ((HS.out.alloc3 _ _ _ _).keep (br_implT x1 _ n2 _ z2 _ ?_ hm2 hok)).mono ?_) | (refine (((HS.out.alloc3 _ _ _ _).drewN _).keep (br_implT x1 _ n2 _ z2 _ ?_ hm2 hok)).mono ?_) | (refine ((HS.out.alloc3 _ _ _ _).drew.keep (br_implT x1 _ n2 _ z2 _ ?_ hm2 hok)).mono ?_)); (next => (first | (refine HS.out.irow ?_; simp; done) | (refine (HS.out.drewN _).irow ?_; simp; done) | (refine HS.out.drew.irow ?_; simp; done) | (refine (HS.out.alloc3 _ _ _ _).irow ?_; simp; done) | (refine ((HS.out.alloc3 _ _ _ _).drewN _).irow ?_; simp; done) | (refine (HS.out.alloc3 _ _ _ _).drew.irow ?_; simp; done))); rintro e w2 ⟨⟨rfl, hb⟩, hs⟩; have hs := hs.below hb; clear hb; have HS := Lib.hid hs; clear hs; skip) | (go_at_call 17; (first | (with_reducible refine (eqMI _ _ n2 _ _ z2 _ w _ HS.out ?_ ?_ hm2).mono ?_) | (with_reducible refine (eqMI _ _ n2 _ _ z2 _ w _ (HS.out.drewN _) ?_ ?_ hm2).mono ?_) | (with_reducible refine (eqMI _ _ n2 _ _ z2 _ w _ HS.out.drew ?_ ?_ hm2).mono ?_) | (with_reducible refine (eqMI _ _ n2 _ _ z2 _ w _ (HS.out.alloc3 _ _ _ _) ?_ ?_ hm2).mono ?_) | (with_reducible refine (eqMI _ _ n2 _ _ z2 _ w _ ((HS.out.alloc3 _ _ _ _).drewN _) ?_ ?_ hm2).mono ?_) | (with_reducible refine (eqMI _ _ n2 _ _ z2 _ w _ (HS.out.alloc3 _ _ _ _).drew ?_ ?_ hm2).mono ?_)); (next => (simp; done)); (next => (simp; done)); rintro e w2 ⟨rfl, hs⟩; have HS := Lib.hid hs; clear hs; skip) | go_in)
  go_ret
  first | exact ⟨rfl, HS.out.out⟩ | exact ⟨rfl, (HS.out.drewN _).out⟩
set_option maxRecDepth 100000 in
set_option maxHeartbeats 64000000 in
theorem br_no (x1 : Bool) (a2 : Option Addr) (n2 cap2 : Nat) (z2 : List Int) (w : World) (h2 : IRow w a2 n2 z2) (hm2 : n2 ≤ 1048576) (hok : okBR z2 n2 = false) :
    Calls Try.prog 8 #[.bool x1, .slice a2 n2 cap2] w fun e w' => e = .returned (.bool true) ∧ Below w.heap.size w w' := by
  have hd2 : decide (1048576 < (n2 : Int)) = false := by simp; omega
  have H2 := Lib.hid h2
  have HS := Lib.hid (Mine.nil w)
  clear h2
  go_enter Try.func8, Try.ntmps8
  go_wp2_with (first | (go_at_call 21; (first | (with_reducible refine (toMI a2 n2 cap2 z2 _ w _ HS.out H2.out hm2).mono ?_) | (with_reducible refine (toMI a2 n2 cap2 z2 _ w _ (HS.out.drewN _) H2.out hm2).mono ?_) | (with_reducible refine (toMI a2 n2 cap2 z2 _ w _ HS.out.drew H2.out hm2).mono ?_) | (with_reducible refine (toMI a2 n2 cap2 z2 _ w _ (HS.out.alloc3 _ _ _ _) H2.out hm2).mono ?_) | (with_reducible refine (toMI a2 n2 cap2 z2 _ w _ ((HS.out.alloc3 _ _ _ _).drewN _) H2.out hm2).mono ?_) | (with_reducible refine (toMI a2 n2 cap2 z2 _ w _ (HS.out.alloc3 _ _ _ _).drew H2.out hm2).mono ?_)); rintro e w2 ⟨p, rfl, hs⟩; have HS := Lib.hid hs; clear hs; skip) | (go_at_call 32; (first | (refine (HS.out.keep (br_specF x1 _ n2 _ z2 _ ?_ hm2 hok)).mono ?_) | (refine ((HS.out.drewN _).keep (br_specF x1 _ n2 _ z2 _ ?_ hm2 hok)).mono ?_) | (refine (HS.out.drew.keep (br_specF x1 _ n2 _ z2 _ ?_ hm2 hok)).mono ?_) | (refine ((HS.out.alloc3 _ _ _ _).keep (br_specF x1 _ n2 _ z2 _ ?_ hm2 hok)).mono ?_) | (refine (((HS.out.alloc3 _ _ _ _).drewN _).keep (br_specF x1 _ n2 _ z2 _ ?_ hm2 hok)).mono ?_) | (refine ((HS.out.alloc3 _ _ _ _).drew.keep (br_specF x1 _ n2 _ z2 _ ?_ hm2 hok)).mono ?_)); (next => (first | (refine HS.out.irow ?_; simp; done) | (refine (HS.out.drewN _).irow ?_; simp; done) | (refine HS.out.drew.irow ?_; simp; done) | (refine (HS.out.alloc3 _ _ _ _).irow ?_; simp; done) | (refine ((HS.out.alloc3 _ _ _ _).drewN _).irow ?_; simp; done) | (refine (HS.out.alloc3 _ _ _ _).drew.irow ?_; simp; done))); rintro e w2 ⟨⟨rfl, hb⟩, hs⟩; have hs := hs.below hb; clear hb; have HS := Lib.hid hs; clear hs; skip) | (go_at_call 33; (first | (refine (HS.out.keep (br_implF x1 _ n2 _ z2 _ ?_ hm2 hok)).mono ?_) | (refine ((HS.out.drewN _).keep (br_implF x1 _ n2 _ z2 _ ?_ hm2 hok)).mono ?_) | (refine (HS.out.drew.keep (br_implF x1 _ n2 _ z2 _ ?_ hm2 hok)).mono ?_) | (refine ((HS.out.alloc3 _ _ _ _).keep (br_implF x1 _ n2 _ z2 _ ?_ hm2 hok)).mono ?_) | (refine (((HS.out.alloc3 _ _ _ _).drewN _).keep (br_implF x1 _ n2 _ z2 _ ?_ hm2 hok)).mono ?_) | (refine ((HS.out.alloc3 _ _ _ _).drew.keep (br_implF x1 _ n2 _ z2 _ ?_ hm2 hok)).mono ?_)); (next => (first | (refine HS.out.irow ?_; simp; done) | (refine (HS.out.drewN _).irow ?_; simp; done) | (refine HS.out.drew.irow ?_; simp; done) | (refine (HS.out.alloc3 _ _ _ _).irow ?_; simp; done) | (refine ((HS.out.alloc3 _ _ _ _).drewN _).irow ?_; simp; done) | (refine (HS.out.alloc3 _ _ _ _).drew.irow ?_; simp; done))); rintro e w2 ⟨⟨rfl, hb⟩, hs⟩; have hs := hs.below hb; clear hb; have HS := Lib.hid hs; clear hs; skip) | (go_at_call 17; (first | (with_reducible refine (eqMI _ _ n2 _ _ z2 _ w _ HS.out ?_ ?_ hm2).mono ?_) | (with_reducible refine (eqMI _ _ n2 _ _ z2 _ w _ (HS.out.drewN _) ?_ ?_ hm2).mono ?_) | (with_reducible refine (eqMI _ _ n2 _ _ z2 _ w _ HS.out.drew ?_ ?_ hm2).mono ?_) | (with_reducible refine (eqMI _ _ n2 _ _ z2 _ w _ (HS.out.alloc3 _ _ _ _) ?_ ?_ hm2).mono ?_) | (with_reducible refine (eqMI _ _ n2 _ _ z2 _ w _ ((HS.out.alloc3 _ _ _ _).drewN _) ?_ ?_ hm2).mono ?_) | (with_reducible refine (eqMI _ _ n2 _ _ z2 _ w _ (HS.out.alloc3 _ _ _ _).drew ?_ ?_ hm2).mono ?_)); (next => (simp; done)); (next => (simp; done)); rintro e w2 ⟨rfl, hs⟩; have HS := Lib.hid hs; clear hs; skip) | go_in)
  go_ret
  first | exact ⟨rfl, HS.out.out⟩ | exact ⟨rfl, (HS.out.drewN _).out⟩
set_option maxRecDepth 100000 in
set_option maxHeartbeats 4000000 in
theorem br_walk (x1 : Bool) (a2 : Option Addr) (n2 cap2 : Nat) (z2 : List Int) (w : World)  (h2 : IRow w a2 n2 z2) :
    Calls Try.prog 8 #[.bool x1, .slice a2 n2 cap2] w fun e w' => e = .returned (.bool true) ∧ Below w.heap.size w w' := by
  by_cases hm2 : n2 ≤ 1048576
  · skip
    cases hok : okBR z2 n2 with
    | true => exact br_yes x1 a2 n2 cap2 z2 w h2 hm2 hok
    | false => exact br_no x1 a2 n2 cap2 z2 w h2 hm2 hok
  · go_enter Try.func8, Try.ntmps8
    go_wp2
    go_ret
    first | exact ⟨rfl, Below.refl _ _⟩ | exact ⟨rfl, below_alloc _ _⟩
end Go.Proofs.Ytaalddkpldbdkaa
