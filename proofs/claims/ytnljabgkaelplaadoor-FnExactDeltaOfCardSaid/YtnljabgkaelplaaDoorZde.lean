
/- DeltaOf: the law. -/
import Derived.Test.YtnljabgkaelplaaDoorGam
import Derived.Test.YtnljabgkaelplaaDoorCoy
set_option linter.unusedVariables false
namespace Go.Proofs.YtnljabgkaelplaaDoor
open Go.Proofs.YtnljabgkaelplaaDoor.Flo Go.RowKit Go.Proofs.YtnljabgkaelplaaDoor.Pr

set_option maxRecDepth 100000 in
set_option maxHeartbeats 64000000 in
theorem zdel_yes (x1 : Int) (w : World) (hp : Db w)   (hok : gaB x1 = true) :
    Calls Tryd.prog 8 #[.int .i64 x1] w fun e w' => e = .returned (.bool true) ∧ Below w.heap.size w w' := by
  obtain ⟨n, K, Q, hkk⟩ := de_ok hok
  have HS := Lib.hid (Mine.nil w)
  go_enter Tryd.func8, Tryd.ntmps8
  go_wp2_with (first | (go_at_call 24; (first | (refine (HS.out.keep (deSY2 x1 _ n K Q hkk)).mono ?_) | (refine ((HS.out.drewN _).keep (deSY2 x1 _ n K Q hkk)).mono ?_) | (refine (HS.out.drew.keep (deSY2 x1 _ n K Q hkk)).mono ?_) | (refine ((HS.out.alloc3 _ _ _ _).keep (deSY2 x1 _ n K Q hkk)).mono ?_) | (refine (((HS.out.alloc3 _ _ _ _).drewN _).keep (deSY2 x1 _ n K Q hkk)).mono ?_) | (refine ((HS.out.alloc3 _ _ _ _).drew.keep (deSY2 x1 _ n K Q hkk)).mono ?_)); rintro e w2 ⟨⟨rfl, hb⟩, hs⟩; have hs := hs.below hb; clear hb; have HS := Lib.hid hs; clear hs; skip) | (go_at_call 25; (first | (refine (HS.out.keep (deIY2 x1 _ _ hp HS.out.out n K Q hkk)).mono ?_) | (refine ((HS.out.drewN _).keep (deIY2 x1 _ _ hp (HS.out.drewN _).out n K Q hkk)).mono ?_) | (refine (HS.out.drew.keep (deIY2 x1 _ _ hp HS.out.drew.out n K Q hkk)).mono ?_) | (refine ((HS.out.alloc3 _ _ _ _).keep (deIY2 x1 _ _ hp (HS.out.alloc3 _ _ _ _).out n K Q hkk)).mono ?_) | (refine (((HS.out.alloc3 _ _ _ _).drewN _).keep (deIY2 x1 _ _ hp ((HS.out.alloc3 _ _ _ _).drewN _).out n K Q hkk)).mono ?_) | (refine ((HS.out.alloc3 _ _ _ _).drew.keep (deIY2 x1 _ _ hp (HS.out.alloc3 _ _ _ _).drew.out n K Q hkk)).mono ?_)); rintro e w2 ⟨⟨rfl, hb⟩, hs⟩; have hs := hs.below hb; clear hb; have HS := Lib.hid hs; clear hs; skip) | go_in)
  go_ret
  first | exact ⟨rfl, HS.out.out⟩ | exact ⟨rfl, (HS.out.drewN _).out⟩
set_option maxRecDepth 100000 in
set_option maxHeartbeats 64000000 in
theorem zdel_no (x1 : Int) (w : World) (hp : Db w)   (hok : gaB x1 = false) :
    Calls Tryd.prog 8 #[.int .i64 x1] w fun e w' => e = .returned (.bool true) ∧ Below w.heap.size w w' := by
  have HS := Lib.hid (Mine.nil w)
  go_enter Tryd.func8, Tryd.ntmps8
  go_wp2_with (first | (go_at_call 24; (first | (refine (HS.out.keep (deSN x1 _   hok)).mono ?_) | (refine ((HS.out.drewN _).keep (deSN x1 _   hok)).mono ?_) | (refine (HS.out.drew.keep (deSN x1 _   hok)).mono ?_) | (refine ((HS.out.alloc3 _ _ _ _).keep (deSN x1 _   hok)).mono ?_) | (refine (((HS.out.alloc3 _ _ _ _).drewN _).keep (deSN x1 _   hok)).mono ?_) | (refine ((HS.out.alloc3 _ _ _ _).drew.keep (deSN x1 _   hok)).mono ?_)); rintro e w2 ⟨⟨rfl, hb⟩, hs⟩; have hs := hs.below hb; clear hb; have HS := Lib.hid hs; clear hs; skip) | (go_at_call 25; (first | (refine (HS.out.keep (deIN x1 _ _ hp HS.out.out   hok)).mono ?_) | (refine ((HS.out.drewN _).keep (deIN x1 _ _ hp (HS.out.drewN _).out   hok)).mono ?_) | (refine (HS.out.drew.keep (deIN x1 _ _ hp HS.out.drew.out   hok)).mono ?_) | (refine ((HS.out.alloc3 _ _ _ _).keep (deIN x1 _ _ hp (HS.out.alloc3 _ _ _ _).out   hok)).mono ?_) | (refine (((HS.out.alloc3 _ _ _ _).drewN _).keep (deIN x1 _ _ hp ((HS.out.alloc3 _ _ _ _).drewN _).out   hok)).mono ?_) | (refine ((HS.out.alloc3 _ _ _ _).drew.keep (deIN x1 _ _ hp (HS.out.alloc3 _ _ _ _).drew.out   hok)).mono ?_)); rintro e w2 ⟨⟨rfl, hb⟩, hs⟩; have hs := hs.below hb; clear hb; have HS := Lib.hid hs; clear hs; skip) | go_in)
  go_ret
  first | exact ⟨rfl, HS.out.out⟩ | exact ⟨rfl, (HS.out.drewN _).out⟩
set_option maxRecDepth 100000 in
set_option maxHeartbeats 4000000 in
theorem zdel_walk (x1 : Int) (w : World) (_ : (Lit.int .i64 x1).wf = true) (hT : Lib.TabIs Tryd.prog w "math/bits.deBruijn64tab" .u8 dbZ) :
    Calls Tryd.prog 8 #[.int .i64 x1] w fun e w' => e = .returned (.bool true) ∧ Below w.heap.size w w' := by
  cases hok : gaB x1 with
  | true => exact zdel_yes x1 w (Db.of hT)   hok
  | false => exact zdel_no x1 w (Db.of hT)   hok
end Go.Proofs.YtnljabgkaelplaaDoor
