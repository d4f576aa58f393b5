
/- CountOutputs: the law. -/
import Derived.Test.YtdmdgkjmecgpeaaDoorCnw
namespace Go.Proofs.YtdmdgkjmecgpeaaDoor
open Go.Proofs.YtdmdgkjmecgpeaaDoor.Flo Go.RowKit

set_option maxRecDepth 100000 in
set_option maxHeartbeats 4000000 in
theorem cnl_walk (x1 : ByteArray) (w : World) (_ : x1.size ≤ maxLen) (h3 : ∃ m, w.cell? ⟨1, 0, none⟩ = some (.int .i64 m)) :
    Calls Tryd.prog 3 #[.string x1] w fun e w' => e = .returned (.bool true) ∧ Below w.heap.size w w' := by
  by_cases hs1 : x1.size ≤ 1048576
  · have hd1 : decide (1048576 < (x1.size : Int)) = false := decide_eq_false (by omega)
    have HS := Lib.hid (fun W => cn_spec x1 hs1 W)
    have HM := Lib.hid (MaxLc.of h3)
    have HI := Lib.hid (fun W (h : Below w.heap.size w W) => cn_impl x1 hs1 w W HM.out h)
    unfold CnPost at HS HI
    obtain ⟨a, b, c, hv⟩ : ∃ a b c, (if lnOk x1 then Value.tuple #[.int .i64 (cnt (lnP x1) (lnM x1) : Int), .int .i64 ((lnM x1 : Int) - (cnt (lnP x1) (lnM x1) : Int)), .bool true] else .tuple #[.int .i64 0, .int .i64 0, .bool false]) = .tuple #[.int .i64 a, .int .i64 b, .bool c] := by
      split <;> exact ⟨_, _, _, rfl⟩
    rw [hv] at HS HI
    clear hv h3 HM
    go_enter Tryd.func3, Tryd.ntmps3
    go_wp2_with (first | (go_at_call 5; refine (HS.out _).mono ?_; rintro e w2 ⟨rfl, hb⟩; have HB := Lib.hid hb; clear hb) | (go_at_call 6; refine (HI.out _ HB.out).mono ?_; rintro e w3 ⟨rfl, hb⟩; have HB3 := Lib.hid (Below.next HB.out hb); clear hb) | fail)
    go_ret
    exact ⟨rfl, HB3.out⟩
  · have hd1 : decide (1048576 < (x1.size : Int)) = true := decide_eq_true (by omega)
    clear h3
    go_enter Tryd.func3, Tryd.ntmps3
    go_wp2
    go_ret
    exact ⟨rfl, Below.refl _ _⟩
end Go.Proofs.YtdmdgkjmecgpeaaDoor
