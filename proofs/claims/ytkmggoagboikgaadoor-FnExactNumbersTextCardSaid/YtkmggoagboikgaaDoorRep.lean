
/- strings.Repeat at a text of one letter. -/
import Derived.Test.YtkmggoagboikgaaDoorStx
import Derived.Test.YtkmggoagboikgaaDoorShf
namespace Go.Proofs.YtkmggoagboikgaaDoor
open Go.Proofs.YtkmggoagboikgaaDoor.Flo Go.RowKit

theorem rep1 (c : UInt8) (N : Nat) (w : World) (hN : N ≤ 1048576) :
    Calls Tryd.prog 24 #[.string ⟨#[c]⟩, .int .i64 (N : Int)] w fun e w' => e = .returned (.string (txB (repL c N))) ∧ Below w.heap.size w w' := by
  refine (Tryd.strings_Repeat ⟨#[c]⟩ N w (by omega) ?_).mono ?_
  · show 1 * N ≤ _
    omega
  · rintro e w' ⟨rfl, hb⟩
    refine ⟨?_, hb⟩
    show Ending.returned (.string ⟨(Lib.repeatL [c] N).toArray⟩) = _
    rw [repeatL_rep]; rfl
end Go.Proofs.YtkmggoagboikgaaDoor
