
/- FibonacciOf: the law. -/
import Derived.Test.YtaefmffmjbabcaaFbi
set_option linter.unusedVariables false
namespace Go.Proofs.Ytaefmffmjbabcaa
open Go.Proofs.Ytaefmffmjbabcaa.Flo Go.RowKit

set_option maxRecDepth 100000 in
set_option maxHeartbeats 64000000 in
theorem fbl_yes (x1 : Int) (w : World)   (hok : fbB x1 = true) :
    Calls Try.prog 11 #[.int .i64 x1] w fun e w' => e = .returned (.bool true) ∧ Below w.heap.size w w' := by
  obtain ⟨K, hkk⟩ := fb_ex hok
  have HS := Lib.hid (Mine.nil w)
  go_enter Try.func11, Try.ntmps11
  go_wp2_with (first | (go_at_call 43; (first | (refine (HS.out.keep (fbSY x1 K _ hkk)).mono ?_) | (refine ((HS.out.drewN _).keep (fbSY x1 K _ hkk)).mono ?_) | (refine (HS.out.drew.keep (fbSY x1 K _ hkk)).mono ?_) | (refine ((HS.out.alloc3 _ _ _ _).keep (fbSY x1 K _ hkk)).mono ?_) | (refine (((HS.out.alloc3 _ _ _ _).drewN _).keep (fbSY x1 K _ hkk)).mono ?_) | (refine ((HS.out.alloc3 _ _ _ _).drew.keep (fbSY x1 K _ hkk)).mono ?_)); rintro e w2 ⟨⟨rfl, hb⟩, hs⟩; have hs := hs.below hb; clear hb; have HS := Lib.hid hs; clear hs; skip) | (go_at_call 44; (first | (refine (HS.out.keep (fbIY x1 K _ hkk)).mono ?_) | (refine ((HS.out.drewN _).keep (fbIY x1 K _ hkk)).mono ?_) | (refine (HS.out.drew.keep (fbIY x1 K _ hkk)).mono ?_) | (refine ((HS.out.alloc3 _ _ _ _).keep (fbIY x1 K _ hkk)).mono ?_) | (refine (((HS.out.alloc3 _ _ _ _).drewN _).keep (fbIY x1 K _ hkk)).mono ?_) | (refine ((HS.out.alloc3 _ _ _ _).drew.keep (fbIY x1 K _ hkk)).mono ?_)); rintro e w2 ⟨⟨rfl, hb⟩, hs⟩; have hs := hs.below hb; clear hb; have HS := Lib.hid hs; clear hs; skip) | go_in)
  go_ret
  first | exact ⟨rfl, HS.out.out⟩ | exact ⟨rfl, (HS.out.drewN _).out⟩
set_option maxRecDepth 100000 in
set_option maxHeartbeats 64000000 in
theorem fbl_no (x1 : Int) (w : World)   (hok : fbB x1 = false) :
    Calls Try.prog 11 #[.int .i64 x1] w fun e w' => e = .returned (.bool true) ∧ Below w.heap.size w w' := by
  have HS := Lib.hid (Mine.nil w)
  go_enter Try.func11, Try.ntmps11
  go_wp2_with (first | (go_at_call 43; (first | (refine (HS.out.keep (fbSN x1 _   hok)).mono ?_) | (refine ((HS.out.drewN _).keep (fbSN x1 _   hok)).mono ?_) | (refine (HS.out.drew.keep (fbSN x1 _   hok)).mono ?_) | (refine ((HS.out.alloc3 _ _ _ _).keep (fbSN x1 _   hok)).mono ?_) | (refine (((HS.out.alloc3 _ _ _ _).drewN _).keep (fbSN x1 _   hok)).mono ?_) | (refine ((HS.out.alloc3 _ _ _ _).drew.keep (fbSN x1 _   hok)).mono ?_)); rintro e w2 ⟨⟨rfl, hb⟩, hs⟩; have hs := hs.below hb; clear hb; have HS := Lib.hid hs; clear hs; skip) | (go_at_call 44; (first | (refine (HS.out.keep (fbIN x1 _   hok)).mono ?_) | (refine ((HS.out.drewN _).keep (fbIN x1 _   hok)).mono ?_) | (refine (HS.out.drew.keep (fbIN x1 _   hok)).mono ?_) | (refine ((HS.out.alloc3 _ _ _ _).keep (fbIN x1 _   hok)).mono ?_) | (refine (((HS.out.alloc3 _ _ _ _).drewN _).keep (fbIN x1 _   hok)).mono ?_) | (refine ((HS.out.alloc3 _ _ _ _).drew.keep (fbIN x1 _   hok)).mono ?_)); rintro e w2 ⟨⟨rfl, hb⟩, hs⟩; have hs := hs.below hb; clear hb; have HS := Lib.hid hs; clear hs; skip) | go_in)
  go_ret
  first | exact ⟨rfl, HS.out.out⟩ | exact ⟨rfl, (HS.out.drewN _).out⟩
set_option maxRecDepth 100000 in
set_option maxHeartbeats 4000000 in
theorem fbl_walk (x1 : Int) (w : World) (_ : (Lit.int .i64 x1).wf = true) :
    Calls Try.prog 11 #[.int .i64 x1] w fun e w' => e = .returned (.bool true) ∧ Below w.heap.size w w' := by
  cases hok : fbB x1 with
  | true => exact fbl_yes x1 w   hok
  | false => exact fbl_no x1 w   hok
end Go.Proofs.Ytaefmffmjbabcaa
