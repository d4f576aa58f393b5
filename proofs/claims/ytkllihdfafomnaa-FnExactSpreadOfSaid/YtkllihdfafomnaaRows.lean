/-
  No cell of these rows narrows 'for every input' (looked for: loops, veiled, ifaces, maps, wideKeys, modest, calm, conditions, laid).
  DERIVED. THE GIVEN ROWS OF THIS SEAT. 12 by the template 'for every input the law returns true; each argument reads behind the call as it read before'; 0 by the template 'total and deterministic' (their statements: YtkllihdfafomnaaTotals.lean).
  GIVEN WITH THE SEED: the statements are not yours to turn. If you find one false, say at which input.
  Laid BY PROGRAM, IN A SANDBOX (cutbox-rows.mjs): the forced cells as the released guide's own fill.sh prints them over the translation f54a4dd280cb504c… (all of the seat's roots in one cut). By AI agents, Wed Nov 11 2026. No macro, syntax, notation, axiom, sorry.
-/
import Derived.Test.YtkllihdfafomnaaChecked
import GoSem.Claim
import GoSem.ClaimJoined
import GoSem.ClaimMapViews
import Derived.JoinedTies
import Derived.KernelRfl
namespace Go.Proofs.Ytkllihdfafomnaa
/- THE CELL 'sum', in the pinned program and in every row, IS THE sha256 OF THE DUMP (.gsa) THAT YtkllihdfafomnaaProg.lean LOADS. Nothing in Lean hashes anything: it is a label: what it is worth is what the hold of that sum in a sandbox is worth. -/
noncomputable def Try.pinned : Pinned := { name := "ytkllihdfafomnaa", sum := "f54a4dd280cb504c1b17cb62f32f5bc7c865841d53be877d9575c8e841e5caa7", checked := Try.checked }
namespace Rows
def none {H : Type} : Left H := { results := [], args := [] }

/-- 'laws.FnExactRowOfCounts': WHATEVER THE INPUT: true; the input reads as it did. -/
def fnExactRowOfCountsSpec : ChangeSpec := { name := "fnExactRowOfCounts", fn := fun _ => fun
  | [d] => { results := [.lit (.bool true)], args := [d] }
  | _ => none }
def fnExactRowOfCountsRow : OpenClaim := { program := "ytkllihdfafomnaa", sum := "f54a4dd280cb504c1b17cb62f32f5bc7c865841d53be877d9575c8e841e5caa7", func := "loop.example/g01364/laws.FnExactRowOfCounts", spec := "fnExactRowOfCounts", inPlace := ["math.Float64bits", "math.Float64frombits"], apart := false }
def FnExactRowOfCountsSaid : Prop := fnExactRowOfCountsRow.holds Try.pinned (OpenSpec.ofChange fnExactRowOfCountsSpec)

/-- ITS FALSE NEIGHBOUR: 'it returns false'. Refute it at one input. -/
def fnExactRowOfCountsWrong : ChangeSpec := { name := "fnExactRowOfCounts", fn := fun _ => fun
  | [d] => { results := [.lit (.bool false)], args := [d] }
  | _ => none }
def FnExactRowOfCountsWrongFalsely : Prop := fnExactRowOfCountsRow.holds Try.pinned (OpenSpec.ofChange fnExactRowOfCountsWrong)

/-- 'laws.FnExactSmoothRow': WHATEVER THE INPUT: true; the input reads as it did. -/
def fnExactSmoothRowSpec : ChangeSpec := { name := "fnExactSmoothRow", fn := fun _ => fun
  | [d1, d2] => { results := [.lit (.bool true)], args := [d1, d2] }
  | _ => none }
def fnExactSmoothRowRow : OpenClaim := { program := "ytkllihdfafomnaa", sum := "f54a4dd280cb504c1b17cb62f32f5bc7c865841d53be877d9575c8e841e5caa7", func := "loop.example/g01364/laws.FnExactSmoothRow", spec := "fnExactSmoothRow", inPlace := ["math.Float64bits", "math.Float64frombits"], apart := false }
def FnExactSmoothRowSaid : Prop := fnExactSmoothRowRow.holds Try.pinned (OpenSpec.ofChange fnExactSmoothRowSpec)

/-- ITS FALSE NEIGHBOUR: 'it returns false'. Refute it at one input. -/
def fnExactSmoothRowWrong : ChangeSpec := { name := "fnExactSmoothRow", fn := fun _ => fun
  | [d1, d2] => { results := [.lit (.bool false)], args := [d1, d2] }
  | _ => none }
def FnExactSmoothRowWrongFalsely : Prop := fnExactSmoothRowRow.holds Try.pinned (OpenSpec.ofChange fnExactSmoothRowWrong)

/-- 'laws.FnExactMoreBits': WHATEVER THE INPUT: true; the input reads as it did. -/
def fnExactMoreBitsSpec : ChangeSpec := { name := "fnExactMoreBits", fn := fun _ => fun
  | [d1, d2] => { results := [.lit (.bool true)], args := [d1, d2] }
  | _ => none }
def fnExactMoreBitsRow : OpenClaim := { program := "ytkllihdfafomnaa", sum := "f54a4dd280cb504c1b17cb62f32f5bc7c865841d53be877d9575c8e841e5caa7", func := "loop.example/g01364/laws.FnExactMoreBits", spec := "fnExactMoreBits", inPlace := ["math.Float64frombits", "math.Float64bits", "math.Float32frombits"], unfollowed := true, recurses := true, apart := false }
def FnExactMoreBitsSaid : Prop := fnExactMoreBitsRow.holds Try.pinned (OpenSpec.ofChange fnExactMoreBitsSpec)

/-- ITS FALSE NEIGHBOUR: 'it returns false'. Refute it at one input. -/
def fnExactMoreBitsWrong : ChangeSpec := { name := "fnExactMoreBits", fn := fun _ => fun
  | [d1, d2] => { results := [.lit (.bool false)], args := [d1, d2] }
  | _ => none }
def FnExactMoreBitsWrongFalsely : Prop := fnExactMoreBitsRow.holds Try.pinned (OpenSpec.ofChange fnExactMoreBitsWrong)

/-- 'laws.FnExactSpreadOf': WHATEVER THE INPUT: true; the input reads as it did. -/
def fnExactSpreadOfSpec : ChangeSpec := { name := "fnExactSpreadOf", fn := fun _ => fun
  | [d1, d2] => { results := [.lit (.bool true)], args := [d1, d2] }
  | _ => none }
def fnExactSpreadOfRow : OpenClaim := { program := "ytkllihdfafomnaa", sum := "f54a4dd280cb504c1b17cb62f32f5bc7c865841d53be877d9575c8e841e5caa7", func := "loop.example/g01364/laws.FnExactSpreadOf", spec := "fnExactSpreadOf", inPlace := ["math.Float64frombits", "math.Float64bits", "math.Float32frombits"], unfollowed := true, recurses := true, apart := false }
def FnExactSpreadOfSaid : Prop := fnExactSpreadOfRow.holds Try.pinned (OpenSpec.ofChange fnExactSpreadOfSpec)

/-- ITS FALSE NEIGHBOUR: 'it returns false'. Refute it at one input. -/
def fnExactSpreadOfWrong : ChangeSpec := { name := "fnExactSpreadOf", fn := fun _ => fun
  | [d1, d2] => { results := [.lit (.bool false)], args := [d1, d2] }
  | _ => none }
def FnExactSpreadOfWrongFalsely : Prop := fnExactSpreadOfRow.holds Try.pinned (OpenSpec.ofChange fnExactSpreadOfWrong)

/-- 'laws.FnExactRootFar': WHATEVER THE INPUT: true; the input reads as it did. -/
def fnExactRootFarSpec : ChangeSpec := { name := "fnExactRootFar", fn := fun _ => fun
  | [d1, d2] => { results := [.lit (.bool true)], args := [d1, d2] }
  | _ => none }
def fnExactRootFarRow : OpenClaim := { program := "ytkllihdfafomnaa", sum := "f54a4dd280cb504c1b17cb62f32f5bc7c865841d53be877d9575c8e841e5caa7", func := "loop.example/g01364/laws.FnExactRootFar", spec := "fnExactRootFar", inPlace := ["math.sqrt"], unfollowed := true, recurses := true, apart := false }
def FnExactRootFarSaid : Prop := fnExactRootFarRow.holds Try.pinned (OpenSpec.ofChange fnExactRootFarSpec)

/-- ITS FALSE NEIGHBOUR: 'it returns false'. Refute it at one input. -/
def fnExactRootFarWrong : ChangeSpec := { name := "fnExactRootFar", fn := fun _ => fun
  | [d1, d2] => { results := [.lit (.bool false)], args := [d1, d2] }
  | _ => none }
def FnExactRootFarWrongFalsely : Prop := fnExactRootFarRow.holds Try.pinned (OpenSpec.ofChange fnExactRootFarWrong)

/-- 'laws.FnExactJoinRows': WHATEVER THE INPUT: true; the input reads as it did. -/
def fnExactJoinRowsSpec : ChangeSpec := { name := "fnExactJoinRows", fn := fun _ => fun
  | [d1, d2] => { results := [.lit (.bool true)], args := [d1, d2] }
  | _ => none }
def fnExactJoinRowsRow : OpenClaim := { program := "ytkllihdfafomnaa", sum := "f54a4dd280cb504c1b17cb62f32f5bc7c865841d53be877d9575c8e841e5caa7", func := "loop.example/g01364/laws.FnExactJoinRows", spec := "fnExactJoinRows", apart := false }
def FnExactJoinRowsSaid : Prop := fnExactJoinRowsRow.holds Try.pinned (OpenSpec.ofChange fnExactJoinRowsSpec)

/-- ITS FALSE NEIGHBOUR: 'it returns false'. Refute it at one input. -/
def fnExactJoinRowsWrong : ChangeSpec := { name := "fnExactJoinRows", fn := fun _ => fun
  | [d1, d2] => { results := [.lit (.bool false)], args := [d1, d2] }
  | _ => none }
def FnExactJoinRowsWrongFalsely : Prop := fnExactJoinRowsRow.holds Try.pinned (OpenSpec.ofChange fnExactJoinRowsWrong)

/-- 'laws.FnExactTurnTable': WHATEVER THE INPUT: true; the input reads as it did. -/
def fnExactTurnTableSpec : ChangeSpec := { name := "fnExactTurnTable", fn := fun _ => fun
  | [d] => { results := [.lit (.bool true)], args := [d] }
  | _ => none }
def fnExactTurnTableRow : OpenClaim := { program := "ytkllihdfafomnaa", sum := "f54a4dd280cb504c1b17cb62f32f5bc7c865841d53be877d9575c8e841e5caa7", func := "loop.example/g01364/laws.FnExactTurnTable", spec := "fnExactTurnTable", apart := false }
def FnExactTurnTableSaid : Prop := fnExactTurnTableRow.holds Try.pinned (OpenSpec.ofChange fnExactTurnTableSpec)

/-- ITS FALSE NEIGHBOUR: 'it returns false'. Refute it at one input. -/
def fnExactTurnTableWrong : ChangeSpec := { name := "fnExactTurnTable", fn := fun _ => fun
  | [d] => { results := [.lit (.bool false)], args := [d] }
  | _ => none }
def FnExactTurnTableWrongFalsely : Prop := fnExactTurnTableRow.holds Try.pinned (OpenSpec.ofChange fnExactTurnTableWrong)

/-- 'laws.FnExactRowPart': WHATEVER THE INPUT: true; the input reads as it did. -/
def fnExactRowPartSpec : ChangeSpec := { name := "fnExactRowPart", fn := fun _ => fun
  | [d] => { results := [.lit (.bool true)], args := [d] }
  | _ => none }
def fnExactRowPartRow : OpenClaim := { program := "ytkllihdfafomnaa", sum := "f54a4dd280cb504c1b17cb62f32f5bc7c865841d53be877d9575c8e841e5caa7", func := "loop.example/g01364/laws.FnExactRowPart", spec := "fnExactRowPart", apart := false }
def FnExactRowPartSaid : Prop := fnExactRowPartRow.holds Try.pinned (OpenSpec.ofChange fnExactRowPartSpec)

/-- ITS FALSE NEIGHBOUR: 'it returns false'. Refute it at one input. -/
def fnExactRowPartWrong : ChangeSpec := { name := "fnExactRowPart", fn := fun _ => fun
  | [d] => { results := [.lit (.bool false)], args := [d] }
  | _ => none }
def FnExactRowPartWrongFalsely : Prop := fnExactRowPartRow.holds Try.pinned (OpenSpec.ofChange fnExactRowPartWrong)

/-- 'laws.FnExactColumnPart': WHATEVER THE INPUT: true; the input reads as it did. -/
def fnExactColumnPartSpec : ChangeSpec := { name := "fnExactColumnPart", fn := fun _ => fun
  | [d] => { results := [.lit (.bool true)], args := [d] }
  | _ => none }
def fnExactColumnPartRow : OpenClaim := { program := "ytkllihdfafomnaa", sum := "f54a4dd280cb504c1b17cb62f32f5bc7c865841d53be877d9575c8e841e5caa7", func := "loop.example/g01364/laws.FnExactColumnPart", spec := "fnExactColumnPart", apart := false }
def FnExactColumnPartSaid : Prop := fnExactColumnPartRow.holds Try.pinned (OpenSpec.ofChange fnExactColumnPartSpec)

/-- ITS FALSE NEIGHBOUR: 'it returns false'. Refute it at one input. -/
def fnExactColumnPartWrong : ChangeSpec := { name := "fnExactColumnPart", fn := fun _ => fun
  | [d] => { results := [.lit (.bool false)], args := [d] }
  | _ => none }
def FnExactColumnPartWrongFalsely : Prop := fnExactColumnPartRow.holds Try.pinned (OpenSpec.ofChange fnExactColumnPartWrong)

/-- 'laws.FnExactGivenRow': WHATEVER THE INPUT: true; the input reads as it did. -/
def fnExactGivenRowSpec : ChangeSpec := { name := "fnExactGivenRow", fn := fun _ => fun
  | [d1, d2] => { results := [.lit (.bool true)], args := [d1, d2] }
  | _ => none }
def fnExactGivenRowRow : OpenClaim := { program := "ytkllihdfafomnaa", sum := "f54a4dd280cb504c1b17cb62f32f5bc7c865841d53be877d9575c8e841e5caa7", func := "loop.example/g01364/laws.FnExactGivenRow", spec := "fnExactGivenRow", apart := false }
def FnExactGivenRowSaid : Prop := fnExactGivenRowRow.holds Try.pinned (OpenSpec.ofChange fnExactGivenRowSpec)

/-- ITS FALSE NEIGHBOUR: 'it returns false'. Refute it at one input. -/
def fnExactGivenRowWrong : ChangeSpec := { name := "fnExactGivenRow", fn := fun _ => fun
  | [d1, d2] => { results := [.lit (.bool false)], args := [d1, d2] }
  | _ => none }
def FnExactGivenRowWrongFalsely : Prop := fnExactGivenRowRow.holds Try.pinned (OpenSpec.ofChange fnExactGivenRowWrong)

/-- 'laws.FnExactTypeChance': WHATEVER THE INPUT: true; the input reads as it did. -/
def fnExactTypeChanceSpec : ChangeSpec := { name := "fnExactTypeChance", fn := fun _ => fun
  | [d1, d2] => { results := [.lit (.bool true)], args := [d1, d2] }
  | _ => none }
def fnExactTypeChanceRow : OpenClaim := { program := "ytkllihdfafomnaa", sum := "f54a4dd280cb504c1b17cb62f32f5bc7c865841d53be877d9575c8e841e5caa7", func := "loop.example/g01364/laws.FnExactTypeChance", spec := "fnExactTypeChance", apart := false }
def FnExactTypeChanceSaid : Prop := fnExactTypeChanceRow.holds Try.pinned (OpenSpec.ofChange fnExactTypeChanceSpec)

/-- ITS FALSE NEIGHBOUR: 'it returns false'. Refute it at one input. -/
def fnExactTypeChanceWrong : ChangeSpec := { name := "fnExactTypeChance", fn := fun _ => fun
  | [d1, d2] => { results := [.lit (.bool false)], args := [d1, d2] }
  | _ => none }
def FnExactTypeChanceWrongFalsely : Prop := fnExactTypeChanceRow.holds Try.pinned (OpenSpec.ofChange fnExactTypeChanceWrong)

/-- 'laws.FnExactDrawLetters': WHATEVER THE INPUT: true; the input reads as it did. -/
def fnExactDrawLettersSpec : ChangeSpec := { name := "fnExactDrawLetters", fn := fun _ => fun
  | [d1, d2, d3] => { results := [.lit (.bool true)], args := [d1, d2, d3] }
  | _ => none }
def fnExactDrawLettersRow : OpenClaim := { program := "ytkllihdfafomnaa", sum := "f54a4dd280cb504c1b17cb62f32f5bc7c865841d53be877d9575c8e841e5caa7", func := "loop.example/g01364/laws.FnExactDrawLetters", spec := "fnExactDrawLetters", apart := false }
def FnExactDrawLettersSaid : Prop := fnExactDrawLettersRow.holds Try.pinned (OpenSpec.ofChange fnExactDrawLettersSpec)

/-- ITS FALSE NEIGHBOUR: 'it returns false'. Refute it at one input. -/
def fnExactDrawLettersWrong : ChangeSpec := { name := "fnExactDrawLetters", fn := fun _ => fun
  | [d1, d2, d3] => { results := [.lit (.bool false)], args := [d1, d2, d3] }
  | _ => none }
def FnExactDrawLettersWrongFalsely : Prop := fnExactDrawLettersRow.holds Try.pinned (OpenSpec.ofChange fnExactDrawLettersWrong)

/- THE SECOND FORM. 'bulk': how many values and letters a reading holds, each counted each time it is reached (what is shared counts as often as it is met; a slice's spare places count too). A statement '..UptoSaid' is the law's where the arguments, and the package variables that the reading takes, are together of bulk at most 1048576: NARROWER than '..Said'. Prove '..Said' where nothing that the law and all that it calls make is longer than what came in: it says more and counts as full. Else prove '..UptoSaid'. A law counts once. -/
mutual
def uptoBulk {H : Type} : DataW H → Nat
  | .lit (.string bytes) => bytes.length + 1
  | .lit _ => 1
  | .nil => 1
  | .ptr d => uptoBulk d + 1
  | .slice elems spare => uptoBulkAll elems + uptoBulkAll spare + 1
  | .agg parts => uptoBulkAll parts + 1
  | .iface _ d => uptoBulk d + 1
  | .map entries => uptoBulkEntries entries + 1
  | .held _ => 1
def uptoBulkAll {H : Type} : List (DataW H) → Nat
  | [] => 0
  | d :: r => uptoBulk d + uptoBulkAll r
def uptoBulkEntries {H : Type} : List (Lit × DataW H) → Nat
  | [] => 0
  | x :: r => uptoBulkEntry x + uptoBulkEntries r
def uptoBulkEntry {H : Type} : Lit × DataW H → Nat
  | (.string bytes, d) => bytes.length + uptoBulk d + 1
  | (_, d) => uptoBulk d + 1
 end
def uptoSmall : (H : Type) → List (DataW H) → Bool := fun _ ds => decide (uptoBulkAll ds ≤ 1048576)
def OpenSpec.upto (s : _root_.Go.ChangeSpec) : _root_.Go.OpenSpec := { _root_.Go.OpenSpec.ofChange s with cond := some uptoSmall }

/-- 'laws.FnExactRowOfCounts', WHERE WHAT IT READS IS OF BULK AT MOST 1048576: true; the input reads as it did. -/
def fnExactRowOfCountsUptoRow : OpenClaim := { program := "ytkllihdfafomnaa", sum := "f54a4dd280cb504c1b17cb62f32f5bc7c865841d53be877d9575c8e841e5caa7", func := "loop.example/g01364/laws.FnExactRowOfCounts", spec := "fnExactRowOfCounts", inPlace := ["math.Float64bits", "math.Float64frombits"], apart := false, narrowed := true }
def FnExactRowOfCountsUptoSaid : Prop := fnExactRowOfCountsUptoRow.holds Try.pinned (OpenSpec.upto fnExactRowOfCountsSpec)

/-- 'laws.FnExactSmoothRow', WHERE WHAT IT READS IS OF BULK AT MOST 1048576: true; the input reads as it did. -/
def fnExactSmoothRowUptoRow : OpenClaim := { program := "ytkllihdfafomnaa", sum := "f54a4dd280cb504c1b17cb62f32f5bc7c865841d53be877d9575c8e841e5caa7", func := "loop.example/g01364/laws.FnExactSmoothRow", spec := "fnExactSmoothRow", inPlace := ["math.Float64bits", "math.Float64frombits"], apart := false, narrowed := true }
def FnExactSmoothRowUptoSaid : Prop := fnExactSmoothRowUptoRow.holds Try.pinned (OpenSpec.upto fnExactSmoothRowSpec)

/-- 'laws.FnExactMoreBits', WHERE WHAT IT READS IS OF BULK AT MOST 1048576: true; the input reads as it did. -/
def fnExactMoreBitsUptoRow : OpenClaim := { program := "ytkllihdfafomnaa", sum := "f54a4dd280cb504c1b17cb62f32f5bc7c865841d53be877d9575c8e841e5caa7", func := "loop.example/g01364/laws.FnExactMoreBits", spec := "fnExactMoreBits", inPlace := ["math.Float64frombits", "math.Float64bits", "math.Float32frombits"], unfollowed := true, recurses := true, apart := false, narrowed := true }
def FnExactMoreBitsUptoSaid : Prop := fnExactMoreBitsUptoRow.holds Try.pinned (OpenSpec.upto fnExactMoreBitsSpec)

/-- 'laws.FnExactSpreadOf', WHERE WHAT IT READS IS OF BULK AT MOST 1048576: true; the input reads as it did. -/
def fnExactSpreadOfUptoRow : OpenClaim := { program := "ytkllihdfafomnaa", sum := "f54a4dd280cb504c1b17cb62f32f5bc7c865841d53be877d9575c8e841e5caa7", func := "loop.example/g01364/laws.FnExactSpreadOf", spec := "fnExactSpreadOf", inPlace := ["math.Float64frombits", "math.Float64bits", "math.Float32frombits"], unfollowed := true, recurses := true, apart := false, narrowed := true }
def FnExactSpreadOfUptoSaid : Prop := fnExactSpreadOfUptoRow.holds Try.pinned (OpenSpec.upto fnExactSpreadOfSpec)

/-- 'laws.FnExactRootFar', WHERE WHAT IT READS IS OF BULK AT MOST 1048576: true; the input reads as it did. -/
def fnExactRootFarUptoRow : OpenClaim := { program := "ytkllihdfafomnaa", sum := "f54a4dd280cb504c1b17cb62f32f5bc7c865841d53be877d9575c8e841e5caa7", func := "loop.example/g01364/laws.FnExactRootFar", spec := "fnExactRootFar", inPlace := ["math.sqrt"], unfollowed := true, recurses := true, apart := false, narrowed := true }
def FnExactRootFarUptoSaid : Prop := fnExactRootFarUptoRow.holds Try.pinned (OpenSpec.upto fnExactRootFarSpec)

/-- 'laws.FnExactJoinRows', WHERE WHAT IT READS IS OF BULK AT MOST 1048576: true; the input reads as it did. -/
def fnExactJoinRowsUptoRow : OpenClaim := { program := "ytkllihdfafomnaa", sum := "f54a4dd280cb504c1b17cb62f32f5bc7c865841d53be877d9575c8e841e5caa7", func := "loop.example/g01364/laws.FnExactJoinRows", spec := "fnExactJoinRows", apart := false, narrowed := true }
def FnExactJoinRowsUptoSaid : Prop := fnExactJoinRowsUptoRow.holds Try.pinned (OpenSpec.upto fnExactJoinRowsSpec)

/-- 'laws.FnExactTurnTable', WHERE WHAT IT READS IS OF BULK AT MOST 1048576: true; the input reads as it did. -/
def fnExactTurnTableUptoRow : OpenClaim := { program := "ytkllihdfafomnaa", sum := "f54a4dd280cb504c1b17cb62f32f5bc7c865841d53be877d9575c8e841e5caa7", func := "loop.example/g01364/laws.FnExactTurnTable", spec := "fnExactTurnTable", apart := false, narrowed := true }
def FnExactTurnTableUptoSaid : Prop := fnExactTurnTableUptoRow.holds Try.pinned (OpenSpec.upto fnExactTurnTableSpec)

/-- 'laws.FnExactRowPart', WHERE WHAT IT READS IS OF BULK AT MOST 1048576: true; the input reads as it did. -/
def fnExactRowPartUptoRow : OpenClaim := { program := "ytkllihdfafomnaa", sum := "f54a4dd280cb504c1b17cb62f32f5bc7c865841d53be877d9575c8e841e5caa7", func := "loop.example/g01364/laws.FnExactRowPart", spec := "fnExactRowPart", apart := false, narrowed := true }
def FnExactRowPartUptoSaid : Prop := fnExactRowPartUptoRow.holds Try.pinned (OpenSpec.upto fnExactRowPartSpec)

/-- 'laws.FnExactColumnPart', WHERE WHAT IT READS IS OF BULK AT MOST 1048576: true; the input reads as it did. -/
def fnExactColumnPartUptoRow : OpenClaim := { program := "ytkllihdfafomnaa", sum := "f54a4dd280cb504c1b17cb62f32f5bc7c865841d53be877d9575c8e841e5caa7", func := "loop.example/g01364/laws.FnExactColumnPart", spec := "fnExactColumnPart", apart := false, narrowed := true }
def FnExactColumnPartUptoSaid : Prop := fnExactColumnPartUptoRow.holds Try.pinned (OpenSpec.upto fnExactColumnPartSpec)

/-- 'laws.FnExactGivenRow', WHERE WHAT IT READS IS OF BULK AT MOST 1048576: true; the input reads as it did. -/
def fnExactGivenRowUptoRow : OpenClaim := { program := "ytkllihdfafomnaa", sum := "f54a4dd280cb504c1b17cb62f32f5bc7c865841d53be877d9575c8e841e5caa7", func := "loop.example/g01364/laws.FnExactGivenRow", spec := "fnExactGivenRow", apart := false, narrowed := true }
def FnExactGivenRowUptoSaid : Prop := fnExactGivenRowUptoRow.holds Try.pinned (OpenSpec.upto fnExactGivenRowSpec)

/-- 'laws.FnExactTypeChance', WHERE WHAT IT READS IS OF BULK AT MOST 1048576: true; the input reads as it did. -/
def fnExactTypeChanceUptoRow : OpenClaim := { program := "ytkllihdfafomnaa", sum := "f54a4dd280cb504c1b17cb62f32f5bc7c865841d53be877d9575c8e841e5caa7", func := "loop.example/g01364/laws.FnExactTypeChance", spec := "fnExactTypeChance", apart := false, narrowed := true }
def FnExactTypeChanceUptoSaid : Prop := fnExactTypeChanceUptoRow.holds Try.pinned (OpenSpec.upto fnExactTypeChanceSpec)

/-- 'laws.FnExactDrawLetters', WHERE WHAT IT READS IS OF BULK AT MOST 1048576: true; the input reads as it did. -/
def fnExactDrawLettersUptoRow : OpenClaim := { program := "ytkllihdfafomnaa", sum := "f54a4dd280cb504c1b17cb62f32f5bc7c865841d53be877d9575c8e841e5caa7", func := "loop.example/g01364/laws.FnExactDrawLetters", spec := "fnExactDrawLetters", apart := false, narrowed := true }
def FnExactDrawLettersUptoSaid : Prop := fnExactDrawLettersUptoRow.holds Try.pinned (OpenSpec.upto fnExactDrawLettersSpec)

end Rows
end Go.Proofs.Ytkllihdfafomnaa
