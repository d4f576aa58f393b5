
/- GammaOf: the law. -/
import Derived.Test.YtnljabgkaelplaaDoorGam
import Derived.Test.YtnljabgkaelplaaDoorCoy
set_option linter.unusedVariables false
namespace Go.Proofs.YtnljabgkaelplaaDoor
open Go.Proofs.YtnljabgkaelplaaDoor.Flo Go.RowKit Go.Proofs.YtnljabgkaelplaaDoor.Pr

set_option maxRecDepth 100000 in
set_option maxHeartbeats 64000000 in
theorem zgal_yes (x1 : Int) (w : World) (hp : Db w)   (hok : gaB x1 = true) :
    Calls Tryd.prog 7 #[.int .i64 x1] w fun e w' => e = .returned (.bool true) ∧ Below w.heap.size w w' := by
  obtain ⟨n, K, hkk⟩ := ga_ok hok
  have HS := Lib.hid (Mine.nil w)
  go_enter Tryd.func7, Tryd.ntmps7
  go_wp2_with (first | (go_at_call 22; (first | (refine (HS.out.keep (gaSY2 x1 _ n K hkk)).mono ?_) | (refine ((HS.out.drewN _).keep (gaSY2 x1 _ n K hkk)).mono ?_) | (refine (HS.out.drew.keep (gaSY2 x1 _ n K hkk)).mono ?_) | (refine ((HS.out.alloc3 _ _ _ _).keep (gaSY2 x1 _ n K hkk)).mono ?_) | (refine (((HS.out.alloc3 _ _ _ _).drewN _).keep (gaSY2 x1 _ n K hkk)).mono ?_) | (refine ((HS.out.alloc3 _ _ _ _).drew.keep (gaSY2 x1 _ n K hkk)).mono ?_)); rintro e w2 ⟨⟨rfl, hb⟩, hs⟩; have hs := hs.below hb; clear hb; have HS := Lib.hid hs; clear hs; skip) | (go_at_call 23; (first | (refine (HS.out.keep (gaIY2 x1 _ _ hp HS.out.out n K hkk)).mono ?_) | (refine ((HS.out.drewN _).keep (gaIY2 x1 _ _ hp (HS.out.drewN _).out n K hkk)).mono ?_) | (refine (HS.out.drew.keep (gaIY2 x1 _ _ hp HS.out.drew.out n K hkk)).mono ?_) | (refine ((HS.out.alloc3 _ _ _ _).keep (gaIY2 x1 _ _ hp (HS.out.alloc3 _ _ _ _).out n K hkk)).mono ?_) | (refine (((HS.out.alloc3 _ _ _ _).drewN _).keep (gaIY2 x1 _ _ hp ((HS.out.alloc3 _ _ _ _).drewN _).out n K hkk)).mono ?_) | (refine ((HS.out.alloc3 _ _ _ _).drew.keep (gaIY2 x1 _ _ hp (HS.out.alloc3 _ _ _ _).drew.out n K hkk)).mono ?_)); rintro e w2 ⟨⟨rfl, hb⟩, hs⟩; have hs := hs.below hb; clear hb; have HS := Lib.hid hs; clear hs; skip) | go_in)
  go_ret
  first | exact ⟨rfl, HS.out.out⟩ | exact ⟨rfl, (HS.out.drewN _).out⟩
set_option maxRecDepth 100000 in
set_option maxHeartbeats 64000000 in
theorem zgal_no (x1 : Int) (w : World) (hp : Db w)   (hok : gaB x1 = false) :
    Calls Tryd.prog 7 #[.int .i64 x1] w fun e w' => e = .returned (.bool true) ∧ Below w.heap.size w w' := by
  have HS := Lib.hid (Mine.nil w)
  go_enter Tryd.func7, Tryd.ntmps7
  go_wp2_with (first | (go_at_call 22; (first | (refine (HS.out.keep (gaSN x1 _   hok)).mono ?_) | (refine ((HS.out.drewN _).keep (gaSN x1 _   hok)).mono ?_) | (refine (HS.out.drew.keep (gaSN x1 _   hok)).mono ?_) | (refine ((HS.out.alloc3 _ _ _ _).keep (gaSN x1 _   hok)).mono ?_) | (refine (((HS.out.alloc3 _ _ _ _).drewN _).keep (gaSN x1 _   hok)).mono ?_) | (refine ((HS.out.alloc3 _ _ _ _).drew.keep (gaSN x1 _   hok)).mono ?_)); rintro e w2 ⟨⟨rfl, hb⟩, hs⟩; have hs := hs.below hb; clear hb; have HS := Lib.hid hs; clear hs; skip) | (go_at_call 23; (first | (refine (HS.out.keep (gaIN x1 _ _ hp HS.out.out   hok)).mono ?_) | (refine ((HS.out.drewN _).keep (gaIN x1 _ _ hp (HS.out.drewN _).out   hok)).mono ?_) | (refine (HS.out.drew.keep (gaIN x1 _ _ hp HS.out.drew.out   hok)).mono ?_) | (refine ((HS.out.alloc3 _ _ _ _).keep (gaIN x1 _ _ hp (HS.out.alloc3 _ _ _ _).out   hok)).mono ?_) | (refine (((HS.out.alloc3 _ _ _ _).drewN _).keep (gaIN x1 _ _ hp ((HS.out.alloc3 _ _ _ _).drewN _).out   hok)).mono ?_) | (refine ((HS.out.alloc3 _ _ _ _).drew.keep (gaIN x1 _ _ hp (HS.out.alloc3 _ _ _ _).drew.out   hok)).mono ?_)); rintro e w2 ⟨⟨rfl, hb⟩, hs⟩; have hs := hs.below hb; clear hb; have HS := Lib.hid hs; clear hs; skip) | go_in)
  go_ret
  first | exact ⟨rfl, HS.out.out⟩ | exact ⟨rfl, (HS.out.drewN _).out⟩
set_option maxRecDepth 100000 in
set_option maxHeartbeats 4000000 in
theorem zgal_walk (x1 : Int) (w : World) (_ : (Lit.int .i64 x1).wf = true) (hT : Lib.TabIs Tryd.prog w "math/bits.deBruijn64tab" .u8 dbZ) :
    Calls Tryd.prog 7 #[.int .i64 x1] w fun e w' => e = .returned (.bool true) ∧ Below w.heap.size w w' := by
  cases hok : gaB x1 with
  | true => exact zgal_yes x1 w (Db.of hT)   hok
  | false => exact zgal_no x1 w (Db.of hT)   hok
end Go.Proofs.YtnljabgkaelplaaDoor
