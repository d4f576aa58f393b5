/- IsText: the law. -/
import Derived.Test.YtopcmbcdmceieaaItw
namespace Go.Proofs.Ytopcmbcdmceieaa
open Go.Proofs.Ytopcmbcdmceieaa.Flo Go.RowKit

theorem it_specT (a : Option Addr) (n cap : Nat) (zs : List Int) (x : Int) (w : World) (h : IRow w a n zs) (hn : n ≤ 1048576) (hok : itB zs n x = true) :
    Calls Try.prog 15 #[.slice a n cap, .int .i64 x] w fun e w' => e = .returned (.bool true) ∧ Below w.heap.size w w' := (is_specT a n cap zs x w h hn).mono fun _ _ ⟨h1, h2⟩ => ⟨hok ▸ h1, h2 ▸ Below.refl _ _⟩
theorem it_specF (a : Option Addr) (n cap : Nat) (zs : List Int) (x : Int) (w : World) (h : IRow w a n zs) (hn : n ≤ 1048576) (hok : itB zs n x = false) :
    Calls Try.prog 15 #[.slice a n cap, .int .i64 x] w fun e w' => e = .returned (.bool false) ∧ Below w.heap.size w w' := (is_specT a n cap zs x w h hn).mono fun _ _ ⟨h1, h2⟩ => ⟨hok ▸ h1, h2 ▸ Below.refl _ _⟩
theorem it_implT (a : Option Addr) (n cap : Nat) (zs : List Int) (x : Int) (w : World) (h : IRow w a n zs) (hn : n ≤ 1048576) (hok : itB zs n x = true) :
    Calls Try.prog 17 #[.slice a n cap, .int .i64 x] w fun e w' => e = .returned (.bool true) ∧ Below w.heap.size w w' := (itx_impl a n cap zs x w h hn).mono fun _ _ ⟨h1, h2⟩ => ⟨hok ▸ h1, h2 ▸ Below.refl _ _⟩
theorem it_implF (a : Option Addr) (n cap : Nat) (zs : List Int) (x : Int) (w : World) (h : IRow w a n zs) (hn : n ≤ 1048576) (hok : itB zs n x = false) :
    Calls Try.prog 17 #[.slice a n cap, .int .i64 x] w fun e w' => e = .returned (.bool false) ∧ Below w.heap.size w w' := (itx_impl a n cap zs x w h hn).mono fun _ _ ⟨h1, h2⟩ => ⟨hok ▸ h1, h2 ▸ Below.refl _ _⟩
set_option maxRecDepth 100000 in
set_option maxHeartbeats 64000000 in
theorem it_yes (a1 : Option Addr) (n1 cap1 : Nat) (z1 : List Int) (x2 : Int) (w : World) (h1 : IRow w a1 n1 z1) (hm1 : n1 ≤ 1048576) (hok : itB z1 n1 x2 = true) :
    Calls Try.prog 3 #[.slice a1 n1 cap1, .int .i64 x2] w fun e w' => e = .returned (.bool true) ∧ Below w.heap.size w w' := by
  have hd1 : decide (1048576 < (n1 : Int)) = false := by simp; omega
  have H1 := Lib.hid h1
  have HS := Lib.hid (Mine.nil w)
  clear h1
  go_enter Try.func3, Try.ntmps3
  go_wp2_with (first | (go_at_call 16; (first | (with_reducible refine (toMI a1 n1 cap1 z1 _ w _ HS.out H1.out hm1).mono ?_) | (with_reducible refine (toMI a1 n1 cap1 z1 _ w _ (HS.out.drewN _) H1.out hm1).mono ?_) | (with_reducible refine (toMI a1 n1 cap1 z1 _ w _ HS.out.drew H1.out hm1).mono ?_) | (with_reducible refine (toMI a1 n1 cap1 z1 _ w _ (HS.out.alloc3 _ _ _ _) H1.out hm1).mono ?_) | (with_reducible refine (toMI a1 n1 cap1 z1 _ w _ ((HS.out.alloc3 _ _ _ _).drewN _) H1.out hm1).mono ?_) | (with_reducible refine (toMI a1 n1 cap1 z1 _ w _ (HS.out.alloc3 _ _ _ _).drew H1.out hm1).mono ?_)); rintro e w2 ⟨p, rfl, hs⟩; have HS := Lib.hid hs; clear hs; skip) | (go_at_call 15; (first | (refine (HS.out.keep (it_specT _ n1 _ z1 x2 _ ?_ hm1 hok)).mono ?_) | (refine ((HS.out.drewN _).keep (it_specT _ n1 _ z1 x2 _ ?_ hm1 hok)).mono ?_) | (refine (HS.out.drew.keep (it_specT _ n1 _ z1 x2 _ ?_ hm1 hok)).mono ?_) | (refine ((HS.out.alloc3 _ _ _ _).keep (it_specT _ n1 _ z1 x2 _ ?_ hm1 hok)).mono ?_) | (refine (((HS.out.alloc3 _ _ _ _).drewN _).keep (it_specT _ n1 _ z1 x2 _ ?_ hm1 hok)).mono ?_) | (refine ((HS.out.alloc3 _ _ _ _).drew.keep (it_specT _ n1 _ z1 x2 _ ?_ hm1 hok)).mono ?_)); (next => (first | (refine HS.out.irow ?_; simp; done) | (refine (HS.out.drewN _).irow ?_; simp; done) | (refine HS.out.drew.irow ?_; simp; done) | (refine (HS.out.alloc3 _ _ _ _).irow ?_; simp; done) | (refine ((HS.out.alloc3 _ _ _ _).drewN _).irow ?_; simp; done) | (refine (HS.out.alloc3 _ _ _ _).drew.irow ?_; simp; done))); rintro e w2 ⟨⟨rfl, hb⟩, hs⟩; have hs := hs.below hb; clear hb; have HS := Lib.hid hs; clear hs; skip) | (go_at_call 17; (first | (refine (HS.out.keep (it_implT _ n1 _ z1 x2 _ ?_ hm1 hok)).mono ?_) | (refine ((HS.out.drewN _).keep (it_implT _ n1 _ z1 x2 _ ?_ hm1 hok)).mono ?_) | (refine (HS.out.drew.keep (it_implT _ n1 _ z1 x2 _ ?_ hm1 hok)).mono ?_) | (refine ((HS.out.alloc3 _ _ _ _).keep (it_implT _ n1 _ z1 x2 _ ?_ hm1 hok)).mono ?_) | (refine (((HS.out.alloc3 _ _ _ _).drewN _).keep (it_implT _ n1 _ z1 x2 _ ?_ hm1 hok)).mono ?_) | (refine ((HS.out.alloc3 _ _ _ _).drew.keep (it_implT _ n1 _ z1 x2 _ ?_ hm1 hok)).mono ?_)); (next => (first | (refine HS.out.irow ?_; simp; done) | (refine (HS.out.drewN _).irow ?_; simp; done) | (refine HS.out.drew.irow ?_; simp; done) | (refine (HS.out.alloc3 _ _ _ _).irow ?_; simp; done) | (refine ((HS.out.alloc3 _ _ _ _).drewN _).irow ?_; simp; done) | (refine (HS.out.alloc3 _ _ _ _).drew.irow ?_; simp; done))); rintro e w2 ⟨⟨rfl, hb⟩, hs⟩; have hs := hs.below hb; clear hb; have HS := Lib.hid hs; clear hs; skip) | (go_at_call 18; (first | (with_reducible refine (eqMI _ _ n1 _ _ z1 _ w _ HS.out ?_ ?_ hm1).mono ?_) | (with_reducible refine (eqMI _ _ n1 _ _ z1 _ w _ (HS.out.drewN _) ?_ ?_ hm1).mono ?_) | (with_reducible refine (eqMI _ _ n1 _ _ z1 _ w _ HS.out.drew ?_ ?_ hm1).mono ?_) | (with_reducible refine (eqMI _ _ n1 _ _ z1 _ w _ (HS.out.alloc3 _ _ _ _) ?_ ?_ hm1).mono ?_) | (with_reducible refine (eqMI _ _ n1 _ _ z1 _ w _ ((HS.out.alloc3 _ _ _ _).drewN _) ?_ ?_ hm1).mono ?_) | (with_reducible refine (eqMI _ _ n1 _ _ z1 _ w _ (HS.out.alloc3 _ _ _ _).drew ?_ ?_ hm1).mono ?_)); (next => (simp; done)); (next => (simp; done)); rintro e w2 ⟨rfl, hs⟩; have HS := Lib.hid hs; clear hs; skip) | go_in)
  go_ret
  first | exact ⟨rfl, HS.out.out⟩ | exact ⟨rfl, (HS.out.drewN _).out⟩
set_option maxRecDepth 100000 in
set_option maxHeartbeats 64000000 in
theorem it_no (a1 : Option Addr) (n1 cap1 : Nat) (z1 : List Int) (x2 : Int) (w : World) (h1 : IRow w a1 n1 z1) (hm1 : n1 ≤ 1048576) (hok : itB z1 n1 x2 = false) :
    Calls Try.prog 3 #[.slice a1 n1 cap1, .int .i64 x2] w fun e w' => e = .returned (.bool true) ∧ Below w.heap.size w w' := by
  have hd1 : decide (1048576 < (n1 : Int)) = false := by simp; omega
  have H1 := Lib.hid h1
  have HS := Lib.hid (Mine.nil w)
  clear h1
  go_enter Try.func3, Try.ntmps3
  go_wp2_with (first | (go_at_call 16; (first | (with_reducible refine (toMI a1 n1 cap1 z1 _ w _ HS.out H1.out hm1).mono ?_) | (with_reducible refine (toMI a1 n1 cap1 z1 _ w _ (HS.out.drewN _) H1.out hm1).mono ?_) | (with_reducible refine (toMI a1 n1 cap1 z1 _ w _ HS.out.drew H1.out hm1).mono ?_) | (with_reducible refine (toMI a1 n1 cap1 z1 _ w _ (HS.out.alloc3 _ _ _ _) H1.out hm1).mono ?_) | (with_reducible refine (toMI a1 n1 cap1 z1 _ w _ ((HS.out.alloc3 _ _ _ _).drewN _) H1.out hm1).mono ?_) | (with_reducible refine (toMI a1 n1 cap1 z1 _ w _ (HS.out.alloc3 _ _ _ _).drew H1.out hm1).mono ?_)); rintro e w2 ⟨p, rfl, hs⟩; have HS := Lib.hid hs; clear hs; skip) | (go_at_call 15; (first | (refine (HS.out.keep (it_specF _ n1 _ z1 x2 _ ?_ hm1 hok)).mono ?_) | (refine ((HS.out.drewN _).keep (it_specF _ n1 _ z1 x2 _ ?_ hm1 hok)).mono ?_) | (refine (HS.out.drew.keep (it_specF _ n1 _ z1 x2 _ ?_ hm1 hok)).mono ?_) | (refine ((HS.out.alloc3 _ _ _ _).keep (it_specF _ n1 _ z1 x2 _ ?_ hm1 hok)).mono ?_) | (refine (((HS.out.alloc3 _ _ _ _).drewN _).keep (it_specF _ n1 _ z1 x2 _ ?_ hm1 hok)).mono ?_) | (refine ((HS.out.alloc3 _ _ _ _).drew.keep (it_specF _ n1 _ z1 x2 _ ?_ hm1 hok)).mono ?_)); (next => (first | (refine HS.out.irow ?_; simp; done) | (refine (HS.out.drewN _).irow ?_; simp; done) | (refine HS.out.drew.irow ?_; simp; done) | (refine (HS.out.alloc3 _ _ _ _).irow ?_; simp; done) | (refine ((HS.out.alloc3 _ _ _ _).drewN _).irow ?_; simp; done) | (refine (HS.out.alloc3 _ _ _ _).drew.irow ?_; simp; done))); rintro e w2 ⟨⟨rfl, hb⟩, hs⟩; have hs := hs.below hb; clear hb; have HS := Lib.hid hs; clear hs; skip) | (go_at_call 17; (first | (refine (HS.out.keep (it_implF _ n1 _ z1 x2 _ ?_ hm1 hok)).mono ?_) | (refine ((HS.out.drewN _).keep (it_implF _ n1 _ z1 x2 _ ?_ hm1 hok)).mono ?_) | (refine (HS.out.drew.keep (it_implF _ n1 _ z1 x2 _ ?_ hm1 hok)).mono ?_) | (refine ((HS.out.alloc3 _ _ _ _).keep (it_implF _ n1 _ z1 x2 _ ?_ hm1 hok)).mono ?_) | (refine (((HS.out.alloc3 _ _ _ _).drewN _).keep (it_implF _ n1 _ z1 x2 _ ?_ hm1 hok)).mono ?_) | (refine ((HS.out.alloc3 _ _ _ _).drew.keep (it_implF _ n1 _ z1 x2 _ ?_ hm1 hok)).mono ?_)); (next => (first | (refine HS.out.irow ?_; simp; done) | (refine (HS.out.drewN _).irow ?_; simp; done) | (refine HS.out.drew.irow ?_; simp; done) | (refine (HS.out.alloc3 _ _ _ _).irow ?_; simp; done) | (refine ((HS.out.alloc3 _ _ _ _).drewN _).irow ?_; simp; done) | (refine (HS.out.alloc3 _ _ _ _).drew.irow ?_; simp; done))); rintro e w2 ⟨⟨rfl, hb⟩, hs⟩; have hs := hs.below hb; clear hb; have HS := Lib.hid hs; clear hs; skip) | (go_at_call 18; (first | (with_reducible refine (eqMI _ _ n1 _ _ z1 _ w _ HS.out ?_ ?_ hm1).mono ?_) | (with_reducible refine (eqMI _ _ n1 _ _ z1 _ w _ (HS.out.drewN _) ?_ ?_ hm1).mono ?_) | (with_reducible refine (eqMI _ _ n1 _ _ z1 _ w _ HS.out.drew ?_ ?_ hm1).mono ?_) | (with_reducible refine (eqMI _ _ n1 _ _ z1 _ w _ (HS.out.alloc3 _ _ _ _) ?_ ?_ hm1).mono ?_) | (with_reducible refine (eqMI _ _ n1 _ _ z1 _ w _ ((HS.out.alloc3 _ _ _ _).drewN _) ?_ ?_ hm1).mono ?_) | (with_reducible refine (eqMI _ _ n1 _ _ z1 _ w _ (HS.out.alloc3 _ _ _ _).drew ?_ ?_ hm1).mono ?_)); (next => (simp; done)); (next => (simp; done)); rintro e w2 ⟨rfl, hs⟩; have HS := Lib.hid hs; clear hs; skip) | go_in)
  go_ret
  first | exact ⟨rfl, HS.out.out⟩ | exact ⟨rfl, (HS.out.drewN _).out⟩
set_option maxRecDepth 100000 in
set_option maxHeartbeats 4000000 in
theorem it_walk (a1 : Option Addr) (n1 cap1 : Nat) (z1 : List Int) (x2 : Int) (w : World) (h1 : IRow w a1 n1 z1) (_ : (Lit.int .i64 x2).wf = true) :
    Calls Try.prog 3 #[.slice a1 n1 cap1, .int .i64 x2] w fun e w' => e = .returned (.bool true) ∧ Below w.heap.size w w' := by
  by_cases hm1 : n1 ≤ 1048576
  · skip
    cases hok : itB z1 n1 x2 with
    | true => exact it_yes a1 n1 cap1 z1 x2 w h1 hm1 hok
    | false => exact it_no a1 n1 cap1 z1 x2 w h1 hm1 hok
  · go_enter Try.func3, Try.ntmps3
    go_wp2
    go_ret
    first | exact ⟨rfl, Below.refl _ _⟩ | exact ⟨rfl, below_alloc _ _⟩
end Go.Proofs.Ytopcmbcdmceieaa
