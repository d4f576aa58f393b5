
/- NewDesk: the law. -/
import Derived.Test.YtjlifbnenngijaaDoorNdw
import Derived.Test.YtjlifbnenngijaaDoorDkm
set_option linter.unusedVariables false
namespace Go.Proofs.YtjlifbnenngijaaDoor
open Go.Proofs.YtjlifbnenngijaaDoor.Flo Go.RowKit

set_option maxRecDepth 100000 in
set_option maxHeartbeats 16000000 in
theorem ndl_walk (w : World) (hT : Lib.TabIs Tryd.prog w "math/bits.deBruijn64tab" .u8 dbZ) : Calls Tryd.prog 11 #[] w fun e w' => e = .returned (.bool true) ∧ Below w.heap.size w w' := by
  have HMS := Lib.hid (fun w3 => hm_specYes 3 w3 (by decide))
  have HMI := Lib.hid (fun w3 (hb : Below w.heap.size w w3) => hm_implYes 3 w w3 (Db.of hT) hb (by decide))
  have hK := hmK_le (x := 3) (by decide)
  clear hT
  generalize ((hmW (3 : Int).toNat : Nat) : Int) = W at HMS HMI
  generalize hmK (3 : Int).toNat = K at HMS HMI hK
  generalize hmQ (3 : Int).toNat = LR at HMS HMI
  have hd1 : decide ((1 : Int) + ((3 : Nat) : Int) + ((3 : Nat) : Int) + (K : Int) < 0) = false := decide_eq_false (by omega)
  go_enter Tryd.func11, Tryd.ntmps11
  go_wp2_with fail
  refine (nd_spec W K LR _ w [] (Mine.nil w) HMS).mono ?_
  rintro e w2 ⟨p1, c1, p2, c2, p3, c3, rfl, hs⟩
  have h2 := hs.alloc5 (.slice (some ⟨p1, 0, none⟩) 3 c1) (.slice (some ⟨p2, 0, none⟩) 3 c2) (.int .i64 W) (.slice (some ⟨p3, 0, none⟩) K c3) (.string ⟨#[48, 49, 48, 49, 49]⟩) 51
  clear hs
  go_wp2_with fail
  refine (nd_impl W K LR _ w _ h2 HMI).mono ?_
  rintro e w3 ⟨q1, d1, q2, d2, q3, d3, rfl, hs⟩
  have h3 := hs.alloc5 (.slice (some ⟨q1, 0, none⟩) 3 d1) (.slice (some ⟨q2, 0, none⟩) 3 d2) (.int .i64 W) (.slice (some ⟨q3, 0, none⟩) K d3) (.string ⟨#[48, 49, 48, 49, 49]⟩) 51
  clear hs h2
  obtain ⟨⟨a0, a1, a2, a3, a4⟩, fa0, fa1, fa2, fa3, fa4⟩ := h3.box5 0 rfl
  obtain ⟨⟨b0, b1, b2, b3, b4⟩, fb0, fb1, fb2, fb3, fb4⟩ := h3.box5 4 rfl
  have H3 := Lib.hid h3
  clear h3
  go_wp2_with fail
  refine (eqDM q1 q2 q3 p1 p2 p3 3 3 K d1 d2 d3 c1 c2 c3 ndZ ndI LR W _ _ w _ H3.out (by simp) (by simp) (by simp) (by simp) (by simp) (by simp) (by decide) (by decide) hK).mono ?_
  rintro e w4 ⟨rfl, hs⟩
  clear a0 fa0 a1 fa1 a2 fa2 a3 fa3 a4 fa4 b0 fb0 b1 fb1 b2 fb2 b3 fb3 b4 fb4
  obtain ⟨⟨a0, a1, a2, a3, a4⟩, fa0, fa1, fa2, fa3, fa4⟩ := hs.box5 0 rfl
  obtain ⟨⟨b0, b1, b2, b3, b4⟩, fb0, fb1, fb2, fb3, fb4⟩ := hs.box5 4 rfl
  have H4 := Lib.hid hs
  clear hs H3
  go_wp2_with fail
  refine (markDM q1 q2 q3 3 3 K d1 d2 d3 ndZ ndI LR W _ 1 _ w _ 3 2 1 H4.out rfl rfl rfl (by decide) (by decide) (by decide) (by decide) (by decide) hK (by decide)).mono ?_
  rintro e w5 ⟨rfl, hs⟩
  have hs : Mine w w5 [(w3.heap.size, .vs [.slice (some ⟨q1, 0, none⟩) 3 d1, .slice (some ⟨q2, 0, none⟩) 3 d2, .int .i64 W, .slice (some ⟨q3, 0, none⟩) K d3, .string ⟨#[48, 49, 48, 49, 49]⟩]), (q3, .il K (marksI ((1 : Int) + ((3 : Nat) : Int) + ((3 : Nat) : Int)) K)), (q2, .il 3 (marksI ((1 : Int) + ((3 : Nat) : Int)) 3)), (q1, .fl 3 (marks 1 3)), (w2.heap.size, .vs [.slice (some ⟨p1, 0, none⟩) 3 c1, .slice (some ⟨p2, 0, none⟩) 3 c2, .int .i64 W, .slice (some ⟨p3, 0, none⟩) K c3, .string ⟨#[48, 49, 48, 49, 49]⟩]), (p3, .il K LR), (p2, .il 3 ndI), (p1, .fl 3 ndZ)] := hs
  clear a0 fa0 a1 fa1 a2 fa2 a3 fa3 a4 fa4 b0 fb0 b1 fb1 b2 fb2 b3 fb3 b4 fb4
  obtain ⟨⟨a0, a1, a2, a3, a4⟩, fa0, fa1, fa2, fa3, fa4⟩ := hs.box5 0 rfl
  obtain ⟨⟨b0, b1, b2, b3, b4⟩, fb0, fb1, fb2, fb3, fb4⟩ := hs.box5 4 rfl
  have H5 := Lib.hid hs
  clear hs H4
  go_wp2_with fail
  refine (heldDM q1 q2 q3 3 3 K d1 d2 d3 W _ 1 _ w _ H5.out (by simp) (by simp) (by simp) (by decide) (by decide) hK (by decide)).mono ?_
  rintro e w6 ⟨rfl, hs⟩
  clear a0 fa0 a1 fa1 a2 fa2 a3 fa3 a4 fa4 b0 fb0 b1 fb1 b2 fb2 b3 fb3 b4 fb4
  obtain ⟨⟨a0, a1, a2, a3, a4⟩, fa0, fa1, fa2, fa3, fa4⟩ := hs.box5 0 rfl
  obtain ⟨⟨b0, b1, b2, b3, b4⟩, fb0, fb1, fb2, fb3, fb4⟩ := hs.box5 4 rfl
  have H6 := Lib.hid hs
  clear hs H5
  go_wp2_with fail
  refine (nd_impl W K LR _ w _ H6.out HMI).mono ?_
  rintro e w7 ⟨s1, g1, s2, g2, s3, g3, rfl, hs⟩
  have h7 := hs.alloc5 (.slice (some ⟨s1, 0, none⟩) 3 g1) (.slice (some ⟨s2, 0, none⟩) 3 g2) (.int .i64 W) (.slice (some ⟨s3, 0, none⟩) K g3) (.string ⟨#[48, 49, 48, 49, 49]⟩) 51
  clear hs H6
  clear a0 fa0 a1 fa1 a2 fa2 a3 fa3 a4 fa4 b0 fb0 b1 fb1 b2 fb2 b3 fb3 b4 fb4
  obtain ⟨⟨a0, a1, a2, a3, a4⟩, fa0, fa1, fa2, fa3, fa4⟩ := h7.box5 4 rfl
  obtain ⟨⟨b0, b1, b2, b3, b4⟩, fb0, fb1, fb2, fb3, fb4⟩ := h7.box5 8 rfl
  obtain ⟨⟨x0, x1, x2, x3, x4⟩, fx0, fx1, fx2, fx3, fx4⟩ := h7.box5 0 rfl
  have H7 := Lib.hid h7
  clear h7
  go_wp2_with fail
  refine (eqDM s1 s2 s3 p1 p2 p3 3 3 K g1 g2 g3 c1 c2 c3 ndZ ndI LR W _ _ w _ H7.out (by simp) (by simp) (by simp) (by simp) (by simp) (by simp) (by decide) (by decide) hK).mono ?_
  rintro e w8 ⟨rfl, hs⟩
  clear a0 fa0 a1 fa1 a2 fa2 a3 fa3 a4 fa4 b0 fb0 b1 fb1 b2 fb2 b3 fb3 b4 fb4 x0 fx0 x1 fx1 x2 fx2 x3 fx3 x4 fx4
  obtain ⟨⟨a0, a1, a2, a3, a4⟩, fa0, fa1, fa2, fa3, fa4⟩ := hs.box5 4 rfl
  obtain ⟨⟨b0, b1, b2, b3, b4⟩, fb0, fb1, fb2, fb3, fb4⟩ := hs.box5 8 rfl
  have H8 := Lib.hid hs
  clear hs H7
  go_wp2_with fail
  refine (heldDM q1 q2 q3 3 3 K d1 d2 d3 W _ 1 _ w _ H8.out (by simp) (by simp) (by simp) (by decide) (by decide) hK (by decide)).mono ?_
  rintro e w9 ⟨rfl, hs⟩
  have H9 := Lib.hid hs
  clear hs H8
  go_wp2
  go_ret
  exact ⟨rfl, H9.out.out⟩
end Go.Proofs.YtjlifbnenngijaaDoor
