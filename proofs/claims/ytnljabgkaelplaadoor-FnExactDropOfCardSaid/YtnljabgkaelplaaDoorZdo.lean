
/- DropOf: the law. -/
import Derived.Test.YtnljabgkaelplaaDoorDro
import Derived.Test.YtnljabgkaelplaaDoorCoy
set_option linter.unusedVariables false
namespace Go.Proofs.YtnljabgkaelplaaDoor
open Go.Proofs.YtnljabgkaelplaaDoor.Flo Go.RowKit

set_option maxRecDepth 100000 in
set_option maxHeartbeats 64000000 in
theorem zdol_yes (a1 : Option Addr) (n1 cap1 : Nat) (z1 : List Int) (x2 : Int) (w : World) (hp : Db w) (h1 : IRow w a1 n1 z1) (hm1 : n1 ≤ 1048576) (hok : doB z1 n1 x2 = true) :
    Calls Tryd.prog 5 #[.slice a1 n1 cap1, .int .i64 x2] w fun e w' => e = .returned (.bool true) ∧ Below w.heap.size w w' := by
  have hd1 : decide (1048576 < (n1 : Int)) = false := by simp; omega
  have H1 := Lib.hid h1
  have HS := Lib.hid (Mine.nil w)
  clear h1
  go_enter Tryd.func5, Tryd.ntmps5
  go_wp2_with (first | (go_at_call 11; (first | (with_reducible refine (toMI a1 n1 cap1 z1 _ w _ HS.out H1.out hm1).mono ?_) | (with_reducible refine (toMI a1 n1 cap1 z1 _ w _ (HS.out.drewN _) H1.out hm1).mono ?_) | (with_reducible refine (toMI a1 n1 cap1 z1 _ w _ HS.out.drew H1.out hm1).mono ?_) | (with_reducible refine (toMI a1 n1 cap1 z1 _ w _ (HS.out.alloc3 _ _ _ _) H1.out hm1).mono ?_) | (with_reducible refine (toMI a1 n1 cap1 z1 _ w _ ((HS.out.alloc3 _ _ _ _).drewN _) H1.out hm1).mono ?_) | (with_reducible refine (toMI a1 n1 cap1 z1 _ w _ (HS.out.alloc3 _ _ _ _).drew H1.out hm1).mono ?_)); rintro e w2 ⟨p, rfl, hs⟩; have HS := Lib.hid hs; clear hs; skip) | (go_at_call 18; (first | (refine (HS.out.keep (dosY _ n1 _ z1 x2 _ ?_ hm1 hok)).mono ?_) | (refine ((HS.out.drewN _).keep (dosY _ n1 _ z1 x2 _ ?_ hm1 hok)).mono ?_) | (refine (HS.out.drew.keep (dosY _ n1 _ z1 x2 _ ?_ hm1 hok)).mono ?_) | (refine ((HS.out.alloc3 _ _ _ _).keep (dosY _ n1 _ z1 x2 _ ?_ hm1 hok)).mono ?_) | (refine (((HS.out.alloc3 _ _ _ _).drewN _).keep (dosY _ n1 _ z1 x2 _ ?_ hm1 hok)).mono ?_) | (refine ((HS.out.alloc3 _ _ _ _).drew.keep (dosY _ n1 _ z1 x2 _ ?_ hm1 hok)).mono ?_)); (next => (first | (refine HS.out.irow ?_; simp; done) | (refine (HS.out.drewN _).irow ?_; simp; done) | (refine HS.out.drew.irow ?_; simp; done) | (refine (HS.out.alloc3 _ _ _ _).irow ?_; simp; done) | (refine ((HS.out.alloc3 _ _ _ _).drewN _).irow ?_; simp; done) | (refine (HS.out.alloc3 _ _ _ _).drew.irow ?_; simp; done))); rintro e w2 ⟨⟨rfl, hb⟩, hs⟩; have hs := hs.below hb; clear hb; have HS := Lib.hid hs; clear hs; skip) | (go_at_call 19; (first | (refine (HS.out.keep (doiY _ n1 _ z1 x2 _ _ hp HS.out.out ?_ hm1 hok)).mono ?_) | (refine ((HS.out.drewN _).keep (doiY _ n1 _ z1 x2 _ _ hp (HS.out.drewN _).out ?_ hm1 hok)).mono ?_) | (refine (HS.out.drew.keep (doiY _ n1 _ z1 x2 _ _ hp HS.out.drew.out ?_ hm1 hok)).mono ?_) | (refine ((HS.out.alloc3 _ _ _ _).keep (doiY _ n1 _ z1 x2 _ _ hp (HS.out.alloc3 _ _ _ _).out ?_ hm1 hok)).mono ?_) | (refine (((HS.out.alloc3 _ _ _ _).drewN _).keep (doiY _ n1 _ z1 x2 _ _ hp ((HS.out.alloc3 _ _ _ _).drewN _).out ?_ hm1 hok)).mono ?_) | (refine ((HS.out.alloc3 _ _ _ _).drew.keep (doiY _ n1 _ z1 x2 _ _ hp (HS.out.alloc3 _ _ _ _).drew.out ?_ hm1 hok)).mono ?_)); (next => (first | (refine HS.out.irow ?_; simp; done) | (refine (HS.out.drewN _).irow ?_; simp; done) | (refine HS.out.drew.irow ?_; simp; done) | (refine (HS.out.alloc3 _ _ _ _).irow ?_; simp; done) | (refine ((HS.out.alloc3 _ _ _ _).drewN _).irow ?_; simp; done) | (refine (HS.out.alloc3 _ _ _ _).drew.irow ?_; simp; done))); rintro e w2 ⟨⟨rfl, hb⟩, hs⟩; have hs := hs.below hb; clear hb; have HS := Lib.hid hs; clear hs; skip) | (go_at_call 13; (first | (with_reducible refine (eqMI _ _ n1 _ _ z1 _ w _ HS.out ?_ ?_ hm1).mono ?_) | (with_reducible refine (eqMI _ _ n1 _ _ z1 _ w _ (HS.out.drewN _) ?_ ?_ hm1).mono ?_) | (with_reducible refine (eqMI _ _ n1 _ _ z1 _ w _ HS.out.drew ?_ ?_ hm1).mono ?_) | (with_reducible refine (eqMI _ _ n1 _ _ z1 _ w _ (HS.out.alloc3 _ _ _ _) ?_ ?_ hm1).mono ?_) | (with_reducible refine (eqMI _ _ n1 _ _ z1 _ w _ ((HS.out.alloc3 _ _ _ _).drewN _) ?_ ?_ hm1).mono ?_) | (with_reducible refine (eqMI _ _ n1 _ _ z1 _ w _ (HS.out.alloc3 _ _ _ _).drew ?_ ?_ hm1).mono ?_)); (next => (simp; done)); (next => (simp; done)); rintro e w2 ⟨rfl, hs⟩; have HS := Lib.hid hs; clear hs; skip) | go_in)
  go_ret
  first | exact ⟨rfl, HS.out.out⟩ | exact ⟨rfl, (HS.out.drewN _).out⟩
set_option maxRecDepth 100000 in
set_option maxHeartbeats 64000000 in
theorem zdol_no (a1 : Option Addr) (n1 cap1 : Nat) (z1 : List Int) (x2 : Int) (w : World) (hp : Db w) (h1 : IRow w a1 n1 z1) (hm1 : n1 ≤ 1048576) (hok : doB z1 n1 x2 = false) :
    Calls Tryd.prog 5 #[.slice a1 n1 cap1, .int .i64 x2] w fun e w' => e = .returned (.bool true) ∧ Below w.heap.size w w' := by
  have hd1 : decide (1048576 < (n1 : Int)) = false := by simp; omega
  have H1 := Lib.hid h1
  have HS := Lib.hid (Mine.nil w)
  clear h1
  go_enter Tryd.func5, Tryd.ntmps5
  go_wp2_with (first | (go_at_call 11; (first | (with_reducible refine (toMI a1 n1 cap1 z1 _ w _ HS.out H1.out hm1).mono ?_) | (with_reducible refine (toMI a1 n1 cap1 z1 _ w _ (HS.out.drewN _) H1.out hm1).mono ?_) | (with_reducible refine (toMI a1 n1 cap1 z1 _ w _ HS.out.drew H1.out hm1).mono ?_) | (with_reducible refine (toMI a1 n1 cap1 z1 _ w _ (HS.out.alloc3 _ _ _ _) H1.out hm1).mono ?_) | (with_reducible refine (toMI a1 n1 cap1 z1 _ w _ ((HS.out.alloc3 _ _ _ _).drewN _) H1.out hm1).mono ?_) | (with_reducible refine (toMI a1 n1 cap1 z1 _ w _ (HS.out.alloc3 _ _ _ _).drew H1.out hm1).mono ?_)); rintro e w2 ⟨p, rfl, hs⟩; have HS := Lib.hid hs; clear hs; skip) | (go_at_call 18; (first | (refine (HS.out.keep (dosN _ n1 _ z1 x2 _ ?_ hm1 hok)).mono ?_) | (refine ((HS.out.drewN _).keep (dosN _ n1 _ z1 x2 _ ?_ hm1 hok)).mono ?_) | (refine (HS.out.drew.keep (dosN _ n1 _ z1 x2 _ ?_ hm1 hok)).mono ?_) | (refine ((HS.out.alloc3 _ _ _ _).keep (dosN _ n1 _ z1 x2 _ ?_ hm1 hok)).mono ?_) | (refine (((HS.out.alloc3 _ _ _ _).drewN _).keep (dosN _ n1 _ z1 x2 _ ?_ hm1 hok)).mono ?_) | (refine ((HS.out.alloc3 _ _ _ _).drew.keep (dosN _ n1 _ z1 x2 _ ?_ hm1 hok)).mono ?_)); (next => (first | (refine HS.out.irow ?_; simp; done) | (refine (HS.out.drewN _).irow ?_; simp; done) | (refine HS.out.drew.irow ?_; simp; done) | (refine (HS.out.alloc3 _ _ _ _).irow ?_; simp; done) | (refine ((HS.out.alloc3 _ _ _ _).drewN _).irow ?_; simp; done) | (refine (HS.out.alloc3 _ _ _ _).drew.irow ?_; simp; done))); rintro e w2 ⟨⟨rfl, hb⟩, hs⟩; have hs := hs.below hb; clear hb; have HS := Lib.hid hs; clear hs; skip) | (go_at_call 19; (first | (refine (HS.out.keep (doiN _ n1 _ z1 x2 _ _ hp HS.out.out ?_ hm1 hok)).mono ?_) | (refine ((HS.out.drewN _).keep (doiN _ n1 _ z1 x2 _ _ hp (HS.out.drewN _).out ?_ hm1 hok)).mono ?_) | (refine (HS.out.drew.keep (doiN _ n1 _ z1 x2 _ _ hp HS.out.drew.out ?_ hm1 hok)).mono ?_) | (refine ((HS.out.alloc3 _ _ _ _).keep (doiN _ n1 _ z1 x2 _ _ hp (HS.out.alloc3 _ _ _ _).out ?_ hm1 hok)).mono ?_) | (refine (((HS.out.alloc3 _ _ _ _).drewN _).keep (doiN _ n1 _ z1 x2 _ _ hp ((HS.out.alloc3 _ _ _ _).drewN _).out ?_ hm1 hok)).mono ?_) | (refine ((HS.out.alloc3 _ _ _ _).drew.keep (doiN _ n1 _ z1 x2 _ _ hp (HS.out.alloc3 _ _ _ _).drew.out ?_ hm1 hok)).mono ?_)); (next => (first | (refine HS.out.irow ?_; simp; done) | (refine (HS.out.drewN _).irow ?_; simp; done) | (refine HS.out.drew.irow ?_; simp; done) | (refine (HS.out.alloc3 _ _ _ _).irow ?_; simp; done) | (refine ((HS.out.alloc3 _ _ _ _).drewN _).irow ?_; simp; done) | (refine (HS.out.alloc3 _ _ _ _).drew.irow ?_; simp; done))); rintro e w2 ⟨⟨rfl, hb⟩, hs⟩; have hs := hs.below hb; clear hb; have HS := Lib.hid hs; clear hs; skip) | (go_at_call 13; (first | (with_reducible refine (eqMI _ _ n1 _ _ z1 _ w _ HS.out ?_ ?_ hm1).mono ?_) | (with_reducible refine (eqMI _ _ n1 _ _ z1 _ w _ (HS.out.drewN _) ?_ ?_ hm1).mono ?_) | (with_reducible refine (eqMI _ _ n1 _ _ z1 _ w _ HS.out.drew ?_ ?_ hm1).mono ?_) | (with_reducible refine (eqMI _ _ n1 _ _ z1 _ w _ (HS.out.alloc3 _ _ _ _) ?_ ?_ hm1).mono ?_) | (with_reducible refine (eqMI _ _ n1 _ _ z1 _ w _ ((HS.out.alloc3 _ _ _ _).drewN _) ?_ ?_ hm1).mono ?_) | (with_reducible refine (eqMI _ _ n1 _ _ z1 _ w _ (HS.out.alloc3 _ _ _ _).drew ?_ ?_ hm1).mono ?_)); (next => (simp; done)); (next => (simp; done)); rintro e w2 ⟨rfl, hs⟩; have HS := Lib.hid hs; clear hs; skip) | go_in)
  go_ret
  first | exact ⟨rfl, HS.out.out⟩ | exact ⟨rfl, (HS.out.drewN _).out⟩
set_option maxRecDepth 100000 in
set_option maxHeartbeats 4000000 in
theorem zdol_walk (a1 : Option Addr) (n1 cap1 : Nat) (z1 : List Int) (x2 : Int) (w : World) (h1 : IRow w a1 n1 z1) (_ : (Lit.int .i64 x2).wf = true) (hT : Lib.TabIs Tryd.prog w "math/bits.deBruijn64tab" .u8 dbZ) :
    Calls Tryd.prog 5 #[.slice a1 n1 cap1, .int .i64 x2] w fun e w' => e = .returned (.bool true) ∧ Below w.heap.size w w' := by
  by_cases hm1 : n1 ≤ 1048576
  · skip
    cases hok : doB z1 n1 x2 with
    | true => exact zdol_yes a1 n1 cap1 z1 x2 w (Db.of hT) h1 hm1 hok
    | false => exact zdol_no a1 n1 cap1 z1 x2 w (Db.of hT) h1 hm1 hok
  · go_enter Tryd.func5, Tryd.ntmps5
    go_wp2
    go_ret
    first | exact ⟨rfl, Below.refl _ _⟩ | exact ⟨rfl, below_alloc _ _⟩
end Go.Proofs.YtnljabgkaelplaaDoor
