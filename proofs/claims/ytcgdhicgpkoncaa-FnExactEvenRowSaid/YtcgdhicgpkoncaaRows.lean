/-
  No cell of these rows narrows 'for every input' (looked for: loops, veiled, ifaces, maps, wideKeys, modest, calm, conditions, laid).
  DERIVED. THE GIVEN ROWS OF THIS SEAT. 12 by the template 'for every input the law returns true; each argument reads behind the call as it read before'; 0 by the template 'total and deterministic' (their statements: YtcgdhicgpkoncaaTotals.lean).
  GIVEN WITH THE SEED: the statements are not yours to turn. If you find one false, say at which input.
  Laid BY PROGRAM, IN A SANDBOX (cutbox-rows.mjs): the forced cells as the released guide's own fill.sh prints them over the translation ba6105d534ee9887… (all of the seat's roots in one cut). By AI agents, Wed Nov 11 2026. No macro, syntax, notation, axiom, sorry.
-/
import Derived.Test.YtcgdhicgpkoncaaChecked
import GoSem.Claim
import GoSem.ClaimJoined
import GoSem.ClaimMapViews
import Derived.JoinedTies
import Derived.KernelRfl
namespace Go.Proofs.Ytcgdhicgpkoncaa
/- THE CELL 'sum', in the pinned program and in every row, IS THE sha256 OF THE DUMP (.gsa) THAT YtcgdhicgpkoncaaProg.lean LOADS. Nothing in Lean hashes anything: it is a label: what it is worth is what the hold of that sum in a sandbox is worth. -/
noncomputable def Try.pinned : Pinned := { name := "ytcgdhicgpkoncaa", sum := "ba6105d534ee9887a77fffd366170fbc6318a6f515a21f065c867d6b8ad26aaf", checked := Try.checked }
namespace Rows
def none {H : Type} : Left H := { results := [], args := [] }

/-- 'laws.FnExactMixRows': WHATEVER THE INPUT: true; the input reads as it did. -/
def fnExactMixRowsSpec : ChangeSpec := { name := "fnExactMixRows", fn := fun _ => fun
  | [d1, d2, d3] => { results := [.lit (.bool true)], args := [d1, d2, d3] }
  | _ => none }
def fnExactMixRowsRow : OpenClaim := { program := "ytcgdhicgpkoncaa", sum := "ba6105d534ee9887a77fffd366170fbc6318a6f515a21f065c867d6b8ad26aaf", func := "loop.example/g01364/laws.FnExactMixRows", spec := "fnExactMixRows", apart := false }
def FnExactMixRowsSaid : Prop := fnExactMixRowsRow.holds Try.pinned (OpenSpec.ofChange fnExactMixRowsSpec)

/-- ITS FALSE NEIGHBOUR: 'it returns false'. Refute it at one input. -/
def fnExactMixRowsWrong : ChangeSpec := { name := "fnExactMixRows", fn := fun _ => fun
  | [d1, d2, d3] => { results := [.lit (.bool false)], args := [d1, d2, d3] }
  | _ => none }
def FnExactMixRowsWrongFalsely : Prop := fnExactMixRowsRow.holds Try.pinned (OpenSpec.ofChange fnExactMixRowsWrong)

/-- 'laws.FnExactEvenRow': WHATEVER THE INPUT: true; the input reads as it did. -/
def fnExactEvenRowSpec : ChangeSpec := { name := "fnExactEvenRow", fn := fun _ => fun
  | [d] => { results := [.lit (.bool true)], args := [d] }
  | _ => none }
def fnExactEvenRowRow : OpenClaim := { program := "ytcgdhicgpkoncaa", sum := "ba6105d534ee9887a77fffd366170fbc6318a6f515a21f065c867d6b8ad26aaf", func := "loop.example/g01364/laws.FnExactEvenRow", spec := "fnExactEvenRow", apart := false }
def FnExactEvenRowSaid : Prop := fnExactEvenRowRow.holds Try.pinned (OpenSpec.ofChange fnExactEvenRowSpec)

/-- ITS FALSE NEIGHBOUR: 'it returns false'. Refute it at one input. -/
def fnExactEvenRowWrong : ChangeSpec := { name := "fnExactEvenRow", fn := fun _ => fun
  | [d] => { results := [.lit (.bool false)], args := [d] }
  | _ => none }
def FnExactEvenRowWrongFalsely : Prop := fnExactEvenRowRow.holds Try.pinned (OpenSpec.ofChange fnExactEvenRowWrong)

/-- 'laws.FnExactSmoothRow': WHATEVER THE INPUT: true; the input reads as it did. -/
def fnExactSmoothRowSpec : ChangeSpec := { name := "fnExactSmoothRow", fn := fun _ => fun
  | [d1, d2] => { results := [.lit (.bool true)], args := [d1, d2] }
  | _ => none }
def fnExactSmoothRowRow : OpenClaim := { program := "ytcgdhicgpkoncaa", sum := "ba6105d534ee9887a77fffd366170fbc6318a6f515a21f065c867d6b8ad26aaf", func := "loop.example/g01364/laws.FnExactSmoothRow", spec := "fnExactSmoothRow", inPlace := ["math.Float64bits", "math.Float64frombits"], apart := false }
def FnExactSmoothRowSaid : Prop := fnExactSmoothRowRow.holds Try.pinned (OpenSpec.ofChange fnExactSmoothRowSpec)

/-- ITS FALSE NEIGHBOUR: 'it returns false'. Refute it at one input. -/
def fnExactSmoothRowWrong : ChangeSpec := { name := "fnExactSmoothRow", fn := fun _ => fun
  | [d1, d2] => { results := [.lit (.bool false)], args := [d1, d2] }
  | _ => none }
def FnExactSmoothRowWrongFalsely : Prop := fnExactSmoothRowRow.holds Try.pinned (OpenSpec.ofChange fnExactSmoothRowWrong)

/-- 'laws.FnExactRowOfCounts': WHATEVER THE INPUT: true; the input reads as it did. -/
def fnExactRowOfCountsSpec : ChangeSpec := { name := "fnExactRowOfCounts", fn := fun _ => fun
  | [d] => { results := [.lit (.bool true)], args := [d] }
  | _ => none }
def fnExactRowOfCountsRow : OpenClaim := { program := "ytcgdhicgpkoncaa", sum := "ba6105d534ee9887a77fffd366170fbc6318a6f515a21f065c867d6b8ad26aaf", func := "loop.example/g01364/laws.FnExactRowOfCounts", spec := "fnExactRowOfCounts", inPlace := ["math.Float64bits", "math.Float64frombits"], apart := false }
def FnExactRowOfCountsSaid : Prop := fnExactRowOfCountsRow.holds Try.pinned (OpenSpec.ofChange fnExactRowOfCountsSpec)

/-- ITS FALSE NEIGHBOUR: 'it returns false'. Refute it at one input. -/
def fnExactRowOfCountsWrong : ChangeSpec := { name := "fnExactRowOfCounts", fn := fun _ => fun
  | [d] => { results := [.lit (.bool false)], args := [d] }
  | _ => none }
def FnExactRowOfCountsWrongFalsely : Prop := fnExactRowOfCountsRow.holds Try.pinned (OpenSpec.ofChange fnExactRowOfCountsWrong)

/-- 'laws.FnExactRowPart': WHATEVER THE INPUT: true; the input reads as it did. -/
def fnExactRowPartSpec : ChangeSpec := { name := "fnExactRowPart", fn := fun _ => fun
  | [d] => { results := [.lit (.bool true)], args := [d] }
  | _ => none }
def fnExactRowPartRow : OpenClaim := { program := "ytcgdhicgpkoncaa", sum := "ba6105d534ee9887a77fffd366170fbc6318a6f515a21f065c867d6b8ad26aaf", func := "loop.example/g01364/laws.FnExactRowPart", spec := "fnExactRowPart", apart := false }
def FnExactRowPartSaid : Prop := fnExactRowPartRow.holds Try.pinned (OpenSpec.ofChange fnExactRowPartSpec)

/-- ITS FALSE NEIGHBOUR: 'it returns false'. Refute it at one input. -/
def fnExactRowPartWrong : ChangeSpec := { name := "fnExactRowPart", fn := fun _ => fun
  | [d] => { results := [.lit (.bool false)], args := [d] }
  | _ => none }
def FnExactRowPartWrongFalsely : Prop := fnExactRowPartRow.holds Try.pinned (OpenSpec.ofChange fnExactRowPartWrong)

/-- 'laws.FnExactColumnPart': WHATEVER THE INPUT: true; the input reads as it did. -/
def fnExactColumnPartSpec : ChangeSpec := { name := "fnExactColumnPart", fn := fun _ => fun
  | [d] => { results := [.lit (.bool true)], args := [d] }
  | _ => none }
def fnExactColumnPartRow : OpenClaim := { program := "ytcgdhicgpkoncaa", sum := "ba6105d534ee9887a77fffd366170fbc6318a6f515a21f065c867d6b8ad26aaf", func := "loop.example/g01364/laws.FnExactColumnPart", spec := "fnExactColumnPart", apart := false }
def FnExactColumnPartSaid : Prop := fnExactColumnPartRow.holds Try.pinned (OpenSpec.ofChange fnExactColumnPartSpec)

/-- ITS FALSE NEIGHBOUR: 'it returns false'. Refute it at one input. -/
def fnExactColumnPartWrong : ChangeSpec := { name := "fnExactColumnPart", fn := fun _ => fun
  | [d] => { results := [.lit (.bool false)], args := [d] }
  | _ => none }
def FnExactColumnPartWrongFalsely : Prop := fnExactColumnPartRow.holds Try.pinned (OpenSpec.ofChange fnExactColumnPartWrong)

/-- 'laws.FnExactGivenRow': WHATEVER THE INPUT: true; the input reads as it did. -/
def fnExactGivenRowSpec : ChangeSpec := { name := "fnExactGivenRow", fn := fun _ => fun
  | [d1, d2] => { results := [.lit (.bool true)], args := [d1, d2] }
  | _ => none }
def fnExactGivenRowRow : OpenClaim := { program := "ytcgdhicgpkoncaa", sum := "ba6105d534ee9887a77fffd366170fbc6318a6f515a21f065c867d6b8ad26aaf", func := "loop.example/g01364/laws.FnExactGivenRow", spec := "fnExactGivenRow", apart := false }
def FnExactGivenRowSaid : Prop := fnExactGivenRowRow.holds Try.pinned (OpenSpec.ofChange fnExactGivenRowSpec)

/-- ITS FALSE NEIGHBOUR: 'it returns false'. Refute it at one input. -/
def fnExactGivenRowWrong : ChangeSpec := { name := "fnExactGivenRow", fn := fun _ => fun
  | [d1, d2] => { results := [.lit (.bool false)], args := [d1, d2] }
  | _ => none }
def FnExactGivenRowWrongFalsely : Prop := fnExactGivenRowRow.holds Try.pinned (OpenSpec.ofChange fnExactGivenRowWrong)

/-- 'laws.FnExactJoinRows': WHATEVER THE INPUT: true; the input reads as it did. -/
def fnExactJoinRowsSpec : ChangeSpec := { name := "fnExactJoinRows", fn := fun _ => fun
  | [d1, d2] => { results := [.lit (.bool true)], args := [d1, d2] }
  | _ => none }
def fnExactJoinRowsRow : OpenClaim := { program := "ytcgdhicgpkoncaa", sum := "ba6105d534ee9887a77fffd366170fbc6318a6f515a21f065c867d6b8ad26aaf", func := "loop.example/g01364/laws.FnExactJoinRows", spec := "fnExactJoinRows", apart := false }
def FnExactJoinRowsSaid : Prop := fnExactJoinRowsRow.holds Try.pinned (OpenSpec.ofChange fnExactJoinRowsSpec)

/-- ITS FALSE NEIGHBOUR: 'it returns false'. Refute it at one input. -/
def fnExactJoinRowsWrong : ChangeSpec := { name := "fnExactJoinRows", fn := fun _ => fun
  | [d1, d2] => { results := [.lit (.bool false)], args := [d1, d2] }
  | _ => none }
def FnExactJoinRowsWrongFalsely : Prop := fnExactJoinRowsRow.holds Try.pinned (OpenSpec.ofChange fnExactJoinRowsWrong)

/-- 'laws.FnExactTurnTable': WHATEVER THE INPUT: true; the input reads as it did. -/
def fnExactTurnTableSpec : ChangeSpec := { name := "fnExactTurnTable", fn := fun _ => fun
  | [d] => { results := [.lit (.bool true)], args := [d] }
  | _ => none }
def fnExactTurnTableRow : OpenClaim := { program := "ytcgdhicgpkoncaa", sum := "ba6105d534ee9887a77fffd366170fbc6318a6f515a21f065c867d6b8ad26aaf", func := "loop.example/g01364/laws.FnExactTurnTable", spec := "fnExactTurnTable", apart := false }
def FnExactTurnTableSaid : Prop := fnExactTurnTableRow.holds Try.pinned (OpenSpec.ofChange fnExactTurnTableSpec)

/-- ITS FALSE NEIGHBOUR: 'it returns false'. Refute it at one input. -/
def fnExactTurnTableWrong : ChangeSpec := { name := "fnExactTurnTable", fn := fun _ => fun
  | [d] => { results := [.lit (.bool false)], args := [d] }
  | _ => none }
def FnExactTurnTableWrongFalsely : Prop := fnExactTurnTableRow.holds Try.pinned (OpenSpec.ofChange fnExactTurnTableWrong)

/-- 'laws.FnExactDrawLetters': WHATEVER THE INPUT: true; the input reads as it did. -/
def fnExactDrawLettersSpec : ChangeSpec := { name := "fnExactDrawLetters", fn := fun _ => fun
  | [d1, d2, d3] => { results := [.lit (.bool true)], args := [d1, d2, d3] }
  | _ => none }
def fnExactDrawLettersRow : OpenClaim := { program := "ytcgdhicgpkoncaa", sum := "ba6105d534ee9887a77fffd366170fbc6318a6f515a21f065c867d6b8ad26aaf", func := "loop.example/g01364/laws.FnExactDrawLetters", spec := "fnExactDrawLetters", apart := false }
def FnExactDrawLettersSaid : Prop := fnExactDrawLettersRow.holds Try.pinned (OpenSpec.ofChange fnExactDrawLettersSpec)

/-- ITS FALSE NEIGHBOUR: 'it returns false'. Refute it at one input. -/
def fnExactDrawLettersWrong : ChangeSpec := { name := "fnExactDrawLetters", fn := fun _ => fun
  | [d1, d2, d3] => { results := [.lit (.bool false)], args := [d1, d2, d3] }
  | _ => none }
def FnExactDrawLettersWrongFalsely : Prop := fnExactDrawLettersRow.holds Try.pinned (OpenSpec.ofChange fnExactDrawLettersWrong)

/-- 'laws.FnExactSameTable': WHATEVER THE INPUT: true; the input reads as it did. -/
def fnExactSameTableSpec : ChangeSpec := { name := "fnExactSameTable", fn := fun _ => fun
  | [d1, d2] => { results := [.lit (.bool true)], args := [d1, d2] }
  | _ => none }
def fnExactSameTableRow : OpenClaim := { program := "ytcgdhicgpkoncaa", sum := "ba6105d534ee9887a77fffd366170fbc6318a6f515a21f065c867d6b8ad26aaf", func := "loop.example/g01364/laws.FnExactSameTable", spec := "fnExactSameTable", inPlace := ["math.Float32bits"], unfollowed := true, recurses := true, apart := false }
def FnExactSameTableSaid : Prop := fnExactSameTableRow.holds Try.pinned (OpenSpec.ofChange fnExactSameTableSpec)

/-- ITS FALSE NEIGHBOUR: 'it returns false'. Refute it at one input. -/
def fnExactSameTableWrong : ChangeSpec := { name := "fnExactSameTable", fn := fun _ => fun
  | [d1, d2] => { results := [.lit (.bool false)], args := [d1, d2] }
  | _ => none }
def FnExactSameTableWrongFalsely : Prop := fnExactSameTableRow.holds Try.pinned (OpenSpec.ofChange fnExactSameTableWrong)

/-- 'laws.FnExactIsMoreEven': WHATEVER THE INPUT: true; the input reads as it did. -/
def fnExactIsMoreEvenSpec : ChangeSpec := { name := "fnExactIsMoreEven", fn := fun _ => fun
  | [d1, d2] => { results := [.lit (.bool true)], args := [d1, d2] }
  | _ => none }
def fnExactIsMoreEvenRow : OpenClaim := { program := "ytcgdhicgpkoncaa", sum := "ba6105d534ee9887a77fffd366170fbc6318a6f515a21f065c867d6b8ad26aaf", func := "loop.example/g01364/laws.FnExactIsMoreEven", spec := "fnExactIsMoreEven", unfollowed := true, recurses := true, apart := false }
def FnExactIsMoreEvenSaid : Prop := fnExactIsMoreEvenRow.holds Try.pinned (OpenSpec.ofChange fnExactIsMoreEvenSpec)

/-- ITS FALSE NEIGHBOUR: 'it returns false'. Refute it at one input. -/
def fnExactIsMoreEvenWrong : ChangeSpec := { name := "fnExactIsMoreEven", fn := fun _ => fun
  | [d1, d2] => { results := [.lit (.bool false)], args := [d1, d2] }
  | _ => none }
def FnExactIsMoreEvenWrongFalsely : Prop := fnExactIsMoreEvenRow.holds Try.pinned (OpenSpec.ofChange fnExactIsMoreEvenWrong)

/- THE SECOND FORM. 'bulk': how many values and letters a reading holds, each counted each time it is reached (what is shared counts as often as it is met; a slice's spare places count too). A statement '..UptoSaid' is the law's where the arguments, and the package variables that the reading takes, are together of bulk at most 1048576: NARROWER than '..Said'. Prove '..Said' where nothing that the law and all that it calls make is longer than what came in: it says more and counts as full. Else prove '..UptoSaid'. A law counts once. -/
mutual
def uptoBulk {H : Type} : DataW H → Nat
  | .lit (.string bytes) => bytes.length + 1
  | .lit _ => 1
  | .nil => 1
  | .ptr d => uptoBulk d + 1
  | .slice elems spare => uptoBulkAll elems + uptoBulkAll spare + 1
  | .agg parts => uptoBulkAll parts + 1
  | .iface _ d => uptoBulk d + 1
  | .map entries => uptoBulkEntries entries + 1
  | .held _ => 1
def uptoBulkAll {H : Type} : List (DataW H) → Nat
  | [] => 0
  | d :: r => uptoBulk d + uptoBulkAll r
def uptoBulkEntries {H : Type} : List (Lit × DataW H) → Nat
  | [] => 0
  | x :: r => uptoBulkEntry x + uptoBulkEntries r
def uptoBulkEntry {H : Type} : Lit × DataW H → Nat
  | (.string bytes, d) => bytes.length + uptoBulk d + 1
  | (_, d) => uptoBulk d + 1
 end
def uptoSmall : (H : Type) → List (DataW H) → Bool := fun _ ds => decide (uptoBulkAll ds ≤ 1048576)
def OpenSpec.upto (s : _root_.Go.ChangeSpec) : _root_.Go.OpenSpec := { _root_.Go.OpenSpec.ofChange s with cond := some uptoSmall }

/-- 'laws.FnExactMixRows', WHERE WHAT IT READS IS OF BULK AT MOST 1048576: true; the input reads as it did. -/
def fnExactMixRowsUptoRow : OpenClaim := { program := "ytcgdhicgpkoncaa", sum := "ba6105d534ee9887a77fffd366170fbc6318a6f515a21f065c867d6b8ad26aaf", func := "loop.example/g01364/laws.FnExactMixRows", spec := "fnExactMixRows", apart := false, narrowed := true }
def FnExactMixRowsUptoSaid : Prop := fnExactMixRowsUptoRow.holds Try.pinned (OpenSpec.upto fnExactMixRowsSpec)

/-- 'laws.FnExactEvenRow', WHERE WHAT IT READS IS OF BULK AT MOST 1048576: true; the input reads as it did. -/
def fnExactEvenRowUptoRow : OpenClaim := { program := "ytcgdhicgpkoncaa", sum := "ba6105d534ee9887a77fffd366170fbc6318a6f515a21f065c867d6b8ad26aaf", func := "loop.example/g01364/laws.FnExactEvenRow", spec := "fnExactEvenRow", apart := false, narrowed := true }
def FnExactEvenRowUptoSaid : Prop := fnExactEvenRowUptoRow.holds Try.pinned (OpenSpec.upto fnExactEvenRowSpec)

/-- 'laws.FnExactSmoothRow', WHERE WHAT IT READS IS OF BULK AT MOST 1048576: true; the input reads as it did. -/
def fnExactSmoothRowUptoRow : OpenClaim := { program := "ytcgdhicgpkoncaa", sum := "ba6105d534ee9887a77fffd366170fbc6318a6f515a21f065c867d6b8ad26aaf", func := "loop.example/g01364/laws.FnExactSmoothRow", spec := "fnExactSmoothRow", inPlace := ["math.Float64bits", "math.Float64frombits"], apart := false, narrowed := true }
def FnExactSmoothRowUptoSaid : Prop := fnExactSmoothRowUptoRow.holds Try.pinned (OpenSpec.upto fnExactSmoothRowSpec)

/-- 'laws.FnExactRowOfCounts', WHERE WHAT IT READS IS OF BULK AT MOST 1048576: true; the input reads as it did. -/
def fnExactRowOfCountsUptoRow : OpenClaim := { program := "ytcgdhicgpkoncaa", sum := "ba6105d534ee9887a77fffd366170fbc6318a6f515a21f065c867d6b8ad26aaf", func := "loop.example/g01364/laws.FnExactRowOfCounts", spec := "fnExactRowOfCounts", inPlace := ["math.Float64bits", "math.Float64frombits"], apart := false, narrowed := true }
def FnExactRowOfCountsUptoSaid : Prop := fnExactRowOfCountsUptoRow.holds Try.pinned (OpenSpec.upto fnExactRowOfCountsSpec)

/-- 'laws.FnExactRowPart', WHERE WHAT IT READS IS OF BULK AT MOST 1048576: true; the input reads as it did. -/
def fnExactRowPartUptoRow : OpenClaim := { program := "ytcgdhicgpkoncaa", sum := "ba6105d534ee9887a77fffd366170fbc6318a6f515a21f065c867d6b8ad26aaf", func := "loop.example/g01364/laws.FnExactRowPart", spec := "fnExactRowPart", apart := false, narrowed := true }
def FnExactRowPartUptoSaid : Prop := fnExactRowPartUptoRow.holds Try.pinned (OpenSpec.upto fnExactRowPartSpec)

/-- 'laws.FnExactColumnPart', WHERE WHAT IT READS IS OF BULK AT MOST 1048576: true; the input reads as it did. -/
def fnExactColumnPartUptoRow : OpenClaim := { program := "ytcgdhicgpkoncaa", sum := "ba6105d534ee9887a77fffd366170fbc6318a6f515a21f065c867d6b8ad26aaf", func := "loop.example/g01364/laws.FnExactColumnPart", spec := "fnExactColumnPart", apart := false, narrowed := true }
def FnExactColumnPartUptoSaid : Prop := fnExactColumnPartUptoRow.holds Try.pinned (OpenSpec.upto fnExactColumnPartSpec)

/-- 'laws.FnExactGivenRow', WHERE WHAT IT READS IS OF BULK AT MOST 1048576: true; the input reads as it did. -/
def fnExactGivenRowUptoRow : OpenClaim := { program := "ytcgdhicgpkoncaa", sum := "ba6105d534ee9887a77fffd366170fbc6318a6f515a21f065c867d6b8ad26aaf", func := "loop.example/g01364/laws.FnExactGivenRow", spec := "fnExactGivenRow", apart := false, narrowed := true }
def FnExactGivenRowUptoSaid : Prop := fnExactGivenRowUptoRow.holds Try.pinned (OpenSpec.upto fnExactGivenRowSpec)

/-- 'laws.FnExactJoinRows', WHERE WHAT IT READS IS OF BULK AT MOST 1048576: true; the input reads as it did. -/
def fnExactJoinRowsUptoRow : OpenClaim := { program := "ytcgdhicgpkoncaa", sum := "ba6105d534ee9887a77fffd366170fbc6318a6f515a21f065c867d6b8ad26aaf", func := "loop.example/g01364/laws.FnExactJoinRows", spec := "fnExactJoinRows", apart := false, narrowed := true }
def FnExactJoinRowsUptoSaid : Prop := fnExactJoinRowsUptoRow.holds Try.pinned (OpenSpec.upto fnExactJoinRowsSpec)

/-- 'laws.FnExactTurnTable', WHERE WHAT IT READS IS OF BULK AT MOST 1048576: true; the input reads as it did. -/
def fnExactTurnTableUptoRow : OpenClaim := { program := "ytcgdhicgpkoncaa", sum := "ba6105d534ee9887a77fffd366170fbc6318a6f515a21f065c867d6b8ad26aaf", func := "loop.example/g01364/laws.FnExactTurnTable", spec := "fnExactTurnTable", apart := false, narrowed := true }
def FnExactTurnTableUptoSaid : Prop := fnExactTurnTableUptoRow.holds Try.pinned (OpenSpec.upto fnExactTurnTableSpec)

/-- 'laws.FnExactDrawLetters', WHERE WHAT IT READS IS OF BULK AT MOST 1048576: true; the input reads as it did. -/
def fnExactDrawLettersUptoRow : OpenClaim := { program := "ytcgdhicgpkoncaa", sum := "ba6105d534ee9887a77fffd366170fbc6318a6f515a21f065c867d6b8ad26aaf", func := "loop.example/g01364/laws.FnExactDrawLetters", spec := "fnExactDrawLetters", apart := false, narrowed := true }
def FnExactDrawLettersUptoSaid : Prop := fnExactDrawLettersUptoRow.holds Try.pinned (OpenSpec.upto fnExactDrawLettersSpec)

/-- 'laws.FnExactSameTable', WHERE WHAT IT READS IS OF BULK AT MOST 1048576: true; the input reads as it did. -/
def fnExactSameTableUptoRow : OpenClaim := { program := "ytcgdhicgpkoncaa", sum := "ba6105d534ee9887a77fffd366170fbc6318a6f515a21f065c867d6b8ad26aaf", func := "loop.example/g01364/laws.FnExactSameTable", spec := "fnExactSameTable", inPlace := ["math.Float32bits"], unfollowed := true, recurses := true, apart := false, narrowed := true }
def FnExactSameTableUptoSaid : Prop := fnExactSameTableUptoRow.holds Try.pinned (OpenSpec.upto fnExactSameTableSpec)

/-- 'laws.FnExactIsMoreEven', WHERE WHAT IT READS IS OF BULK AT MOST 1048576: true; the input reads as it did. -/
def fnExactIsMoreEvenUptoRow : OpenClaim := { program := "ytcgdhicgpkoncaa", sum := "ba6105d534ee9887a77fffd366170fbc6318a6f515a21f065c867d6b8ad26aaf", func := "loop.example/g01364/laws.FnExactIsMoreEven", spec := "fnExactIsMoreEven", unfollowed := true, recurses := true, apart := false, narrowed := true }
def FnExactIsMoreEvenUptoSaid : Prop := fnExactIsMoreEvenUptoRow.holds Try.pinned (OpenSpec.upto fnExactIsMoreEvenSpec)

end Rows
end Go.Proofs.Ytcgdhicgpkoncaa
