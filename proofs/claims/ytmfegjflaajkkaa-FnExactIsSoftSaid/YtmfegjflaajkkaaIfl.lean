
/- IsSoft: the law. -/
import Derived.Test.YtmfegjflaajkkaaSof
namespace Go.Proofs.Ytmfegjflaajkkaa
open Go.Proofs.Ytmfegjflaajkkaa.Flo Go.RowKit

theorem if_specT (a : Option Addr) (n cap : Nat) (zs : List Nat) (w : World) (h : FRow w a n zs) (hn : n ≤ 1048576) (hok : sfB zs n = true) :
    Calls Try.prog 15 #[.slice a n cap] w fun e w' => e = .returned (.bool true) ∧ Below w.heap.size w w' := (sf_spec a n cap zs w h hn).mono fun _ _ ⟨h1, h2⟩ => ⟨hok ▸ h1, h2.below⟩
theorem if_specF (a : Option Addr) (n cap : Nat) (zs : List Nat) (w : World) (h : FRow w a n zs) (hn : n ≤ 1048576) (hok : sfB zs n = false) :
    Calls Try.prog 15 #[.slice a n cap] w fun e w' => e = .returned (.bool false) ∧ Below w.heap.size w w' := (sf_spec a n cap zs w h hn).mono fun _ _ ⟨h1, h2⟩ => ⟨hok ▸ h1, h2.below⟩
theorem if_implT (a : Option Addr) (n cap : Nat) (zs : List Nat) (w : World) (h : FRow w a n zs) (hn : n ≤ 1048576) (hok : sfB zs n = true) :
    Calls Try.prog 17 #[.slice a n cap] w fun e w' => e = .returned (.bool true) ∧ Below w.heap.size w w' := (sf_impl a n cap zs w h hn).mono fun _ _ ⟨h1, h2⟩ => ⟨hok ▸ h1, h2.below⟩
theorem if_implF (a : Option Addr) (n cap : Nat) (zs : List Nat) (w : World) (h : FRow w a n zs) (hn : n ≤ 1048576) (hok : sfB zs n = false) :
    Calls Try.prog 17 #[.slice a n cap] w fun e w' => e = .returned (.bool false) ∧ Below w.heap.size w w' := (sf_impl a n cap zs w h hn).mono fun _ _ ⟨h1, h2⟩ => ⟨hok ▸ h1, h2.below⟩
set_option maxRecDepth 100000 in
set_option maxHeartbeats 64000000 in
theorem ifs_yes (a1 : Option Addr) (n1 cap1 : Nat) (z1 : List Nat) (w : World) (h1 : FRow w a1 n1 z1) (hm1 : n1 ≤ 1048576) (hok : sfB z1 n1 = true) :
    Calls Try.prog 3 #[.slice a1 n1 cap1] w fun e w' => e = .returned (.bool true) ∧ Below w.heap.size w w' := by
  have hd1 : decide (1048576 < (n1 : Int)) = false := by simp; omega
  have H1 := Lib.hid h1
  have HS := Lib.hid (Mine.nil w)
  clear h1
  go_enter Try.func3, Try.ntmps3
  go_wp2_with (first | (go_at_call 16; (first | (with_reducible refine (toM a1 n1 cap1 z1 _ w _ HS.out H1.out hm1).mono ?_) | (with_reducible refine (toM a1 n1 cap1 z1 _ w _ (HS.out.drewN _) H1.out hm1).mono ?_) | (with_reducible refine (toM a1 n1 cap1 z1 _ w _ HS.out.drew H1.out hm1).mono ?_) | (with_reducible refine (toM a1 n1 cap1 z1 _ w _ (HS.out.alloc3 _ _ _ _) H1.out hm1).mono ?_) | (with_reducible refine (toM a1 n1 cap1 z1 _ w _ ((HS.out.alloc3 _ _ _ _).drewN _) H1.out hm1).mono ?_) | (with_reducible refine (toM a1 n1 cap1 z1 _ w _ (HS.out.alloc3 _ _ _ _).drew H1.out hm1).mono ?_)); rintro e w2 ⟨p, rfl, hs⟩; have HS := Lib.hid hs; clear hs; skip) | (go_at_call 15; (first | (refine (HS.out.keep (if_specT _ n1 _ z1 _ ?_ hm1 hok)).mono ?_) | (refine ((HS.out.drewN _).keep (if_specT _ n1 _ z1 _ ?_ hm1 hok)).mono ?_) | (refine (HS.out.drew.keep (if_specT _ n1 _ z1 _ ?_ hm1 hok)).mono ?_) | (refine ((HS.out.alloc3 _ _ _ _).keep (if_specT _ n1 _ z1 _ ?_ hm1 hok)).mono ?_) | (refine (((HS.out.alloc3 _ _ _ _).drewN _).keep (if_specT _ n1 _ z1 _ ?_ hm1 hok)).mono ?_) | (refine ((HS.out.alloc3 _ _ _ _).drew.keep (if_specT _ n1 _ z1 _ ?_ hm1 hok)).mono ?_)); (next => (first | (refine HS.out.frow ?_; simp; done) | (refine (HS.out.drewN _).frow ?_; simp; done) | (refine HS.out.drew.frow ?_; simp; done) | (refine (HS.out.alloc3 _ _ _ _).frow ?_; simp; done) | (refine ((HS.out.alloc3 _ _ _ _).drewN _).frow ?_; simp; done) | (refine (HS.out.alloc3 _ _ _ _).drew.frow ?_; simp; done))); rintro e w2 ⟨⟨rfl, hb⟩, hs⟩; have hs := hs.below hb; clear hb; have HS := Lib.hid hs; clear hs; skip) | (go_at_call 17; (first | (refine (HS.out.keep (if_implT _ n1 _ z1 _ ?_ hm1 hok)).mono ?_) | (refine ((HS.out.drewN _).keep (if_implT _ n1 _ z1 _ ?_ hm1 hok)).mono ?_) | (refine (HS.out.drew.keep (if_implT _ n1 _ z1 _ ?_ hm1 hok)).mono ?_) | (refine ((HS.out.alloc3 _ _ _ _).keep (if_implT _ n1 _ z1 _ ?_ hm1 hok)).mono ?_) | (refine (((HS.out.alloc3 _ _ _ _).drewN _).keep (if_implT _ n1 _ z1 _ ?_ hm1 hok)).mono ?_) | (refine ((HS.out.alloc3 _ _ _ _).drew.keep (if_implT _ n1 _ z1 _ ?_ hm1 hok)).mono ?_)); (next => (first | (refine HS.out.frow ?_; simp; done) | (refine (HS.out.drewN _).frow ?_; simp; done) | (refine HS.out.drew.frow ?_; simp; done) | (refine (HS.out.alloc3 _ _ _ _).frow ?_; simp; done) | (refine ((HS.out.alloc3 _ _ _ _).drewN _).frow ?_; simp; done) | (refine (HS.out.alloc3 _ _ _ _).drew.frow ?_; simp; done))); rintro e w2 ⟨⟨rfl, hb⟩, hs⟩; have hs := hs.below hb; clear hb; have HS := Lib.hid hs; clear hs; skip) | (go_at_call 18; (first | (with_reducible refine (eqM _ _ n1 _ _ z1 _ w _ HS.out ?_ ?_ hm1).mono ?_) | (with_reducible refine (eqM _ _ n1 _ _ z1 _ w _ (HS.out.drewN _) ?_ ?_ hm1).mono ?_) | (with_reducible refine (eqM _ _ n1 _ _ z1 _ w _ HS.out.drew ?_ ?_ hm1).mono ?_) | (with_reducible refine (eqM _ _ n1 _ _ z1 _ w _ (HS.out.alloc3 _ _ _ _) ?_ ?_ hm1).mono ?_) | (with_reducible refine (eqM _ _ n1 _ _ z1 _ w _ ((HS.out.alloc3 _ _ _ _).drewN _) ?_ ?_ hm1).mono ?_) | (with_reducible refine (eqM _ _ n1 _ _ z1 _ w _ (HS.out.alloc3 _ _ _ _).drew ?_ ?_ hm1).mono ?_)); (next => (simp; done)); (next => (simp; done)); rintro e w2 ⟨rfl, hs⟩; have HS := Lib.hid hs; clear hs; skip) | go_in)
  go_ret
  first | exact ⟨rfl, HS.out.out⟩ | exact ⟨rfl, (HS.out.drewN _).out⟩
set_option maxRecDepth 100000 in
set_option maxHeartbeats 64000000 in
theorem ifs_no (a1 : Option Addr) (n1 cap1 : Nat) (z1 : List Nat) (w : World) (h1 : FRow w a1 n1 z1) (hm1 : n1 ≤ 1048576) (hok : sfB z1 n1 = false) :
    Calls Try.prog 3 #[.slice a1 n1 cap1] w fun e w' => e = .returned (.bool true) ∧ Below w.heap.size w w' := by
  have hd1 : decide (1048576 < (n1 : Int)) = false := by simp; omega
  have H1 := Lib.hid h1
  have HS := Lib.hid (Mine.nil w)
  clear h1
  go_enter Try.func3, Try.ntmps3
  go_wp2_with (first | (go_at_call 16; (first | (with_reducible refine (toM a1 n1 cap1 z1 _ w _ HS.out H1.out hm1).mono ?_) | (with_reducible refine (toM a1 n1 cap1 z1 _ w _ (HS.out.drewN _) H1.out hm1).mono ?_) | (with_reducible refine (toM a1 n1 cap1 z1 _ w _ HS.out.drew H1.out hm1).mono ?_) | (with_reducible refine (toM a1 n1 cap1 z1 _ w _ (HS.out.alloc3 _ _ _ _) H1.out hm1).mono ?_) | (with_reducible refine (toM a1 n1 cap1 z1 _ w _ ((HS.out.alloc3 _ _ _ _).drewN _) H1.out hm1).mono ?_) | (with_reducible refine (toM a1 n1 cap1 z1 _ w _ (HS.out.alloc3 _ _ _ _).drew H1.out hm1).mono ?_)); rintro e w2 ⟨p, rfl, hs⟩; have HS := Lib.hid hs; clear hs; skip) | (go_at_call 15; (first | (refine (HS.out.keep (if_specF _ n1 _ z1 _ ?_ hm1 hok)).mono ?_) | (refine ((HS.out.drewN _).keep (if_specF _ n1 _ z1 _ ?_ hm1 hok)).mono ?_) | (refine (HS.out.drew.keep (if_specF _ n1 _ z1 _ ?_ hm1 hok)).mono ?_) | (refine ((HS.out.alloc3 _ _ _ _).keep (if_specF _ n1 _ z1 _ ?_ hm1 hok)).mono ?_) | (refine (((HS.out.alloc3 _ _ _ _).drewN _).keep (if_specF _ n1 _ z1 _ ?_ hm1 hok)).mono ?_) | (refine ((HS.out.alloc3 _ _ _ _).drew.keep (if_specF _ n1 _ z1 _ ?_ hm1 hok)).mono ?_)); (next => (first | (refine HS.out.frow ?_; simp; done) | (refine (HS.out.drewN _).frow ?_; simp; done) | (refine HS.out.drew.frow ?_; simp; done) | (refine (HS.out.alloc3 _ _ _ _).frow ?_; simp; done) | (refine ((HS.out.alloc3 _ _ _ _).drewN _).frow ?_; simp; done) | (refine (HS.out.alloc3 _ _ _ _).drew.frow ?_; simp; done))); rintro e w2 ⟨⟨rfl, hb⟩, hs⟩; have hs := hs.below hb; clear hb; have HS := Lib.hid hs; clear hs; skip) | (go_at_call 17; (first | (refine (HS.out.keep (if_implF _ n1 _ z1 _ ?_ hm1 hok)).mono ?_) | (refine ((HS.out.drewN _).keep (if_implF _ n1 _ z1 _ ?_ hm1 hok)).mono ?_) | (refine (HS.out.drew.keep (if_implF _ n1 _ z1 _ ?_ hm1 hok)).mono ?_) | (refine ((HS.out.alloc3 _ _ _ _).keep (if_implF _ n1 _ z1 _ ?_ hm1 hok)).mono ?_) | (refine (((HS.out.alloc3 _ _ _ _).drewN _).keep (if_implF _ n1 _ z1 _ ?_ hm1 hok)).mono ?_) | (refine ((HS.out.alloc3 _ _ _ _).drew.keep (if_implF _ n1 _ z1 _ ?_ hm1 hok)).mono ?_)); (next => (first | (refine HS.out.frow ?_; simp; done) | (refine (HS.out.drewN _).frow ?_; simp; done) | (refine HS.out.drew.frow ?_; simp; done) | (refine (HS.out.alloc3 _ _ _ _).frow ?_; simp; done) | (refine ((HS.out.alloc3 _ _ _ _).drewN _).frow ?_; simp; done) | (refine (HS.out.alloc3 _ _ _ _).drew.frow ?_; simp; done))); rintro e w2 ⟨⟨rfl, hb⟩, hs⟩; have hs := hs.below hb; clear hb; have HS := Lib.hid hs; clear hs; skip) | (go_at_call 18; (first | (with_reducible refine (eqM _ _ n1 _ _ z1 _ w _ HS.out ?_ ?_ hm1).mono ?_) | (with_reducible refine (eqM _ _ n1 _ _ z1 _ w _ (HS.out.drewN _) ?_ ?_ hm1).mono ?_) | (with_reducible refine (eqM _ _ n1 _ _ z1 _ w _ HS.out.drew ?_ ?_ hm1).mono ?_) | (with_reducible refine (eqM _ _ n1 _ _ z1 _ w _ (HS.out.alloc3 _ _ _ _) ?_ ?_ hm1).mono ?_) | (with_reducible refine (eqM _ _ n1 _ _ z1 _ w _ ((HS.out.alloc3 _ _ _ _).drewN _) ?_ ?_ hm1).mono ?_) | (with_reducible refine (eqM _ _ n1 _ _ z1 _ w _ (HS.out.alloc3 _ _ _ _).drew ?_ ?_ hm1).mono ?_)); (next => (simp; done)); (next => (simp; done)); rintro e w2 ⟨rfl, hs⟩; have HS := Lib.hid hs; clear hs; skip) | go_in)
  go_ret
  first | exact ⟨rfl, HS.out.out⟩ | exact ⟨rfl, (HS.out.drewN _).out⟩
set_option maxRecDepth 100000 in
set_option maxHeartbeats 4000000 in
theorem ifs_walk (a1 : Option Addr) (n1 cap1 : Nat) (z1 : List Nat) (w : World) (h1 : FRow w a1 n1 z1) :
    Calls Try.prog 3 #[.slice a1 n1 cap1] w fun e w' => e = .returned (.bool true) ∧ Below w.heap.size w w' := by
  by_cases hm1 : n1 ≤ 1048576
  · skip
    cases hok : sfB z1 n1 with
    | true => exact ifs_yes a1 n1 cap1 z1 w h1 hm1 hok
    | false => exact ifs_no a1 n1 cap1 z1 w h1 hm1 hok
  · go_enter Try.func3, Try.ntmps3
    go_wp2
    go_ret
    first | exact ⟨rfl, Below.refl _ _⟩ | exact ⟨rfl, below_alloc _ _⟩
end Go.Proofs.Ytmfegjflaajkkaa
