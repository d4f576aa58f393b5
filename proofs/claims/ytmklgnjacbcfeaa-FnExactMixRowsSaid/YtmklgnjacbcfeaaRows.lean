/-
  No cell of these rows narrows 'for every input' (looked for: loops, veiled, ifaces, maps, wideKeys, modest, calm, conditions, laid).
  DERIVED. THE GIVEN ROWS OF THIS SEAT. 12 by the template 'for every input the law returns true; each argument reads behind the call as it read before'; 0 by the template 'total and deterministic' (their statements: YtmklgnjacbcfeaaTotals.lean).
  GIVEN WITH THE SEED: the statements are not yours to turn. If you find one false, say at which input.
  Laid BY PROGRAM, IN A SANDBOX (cutbox-rows.mjs): the forced cells as the released guide's own fill.sh prints them over the translation 4f37fbfa27ed040d… (all of the seat's roots in one cut). By AI agents, Wed Nov 11 2026. No macro, syntax, notation, axiom, sorry.
-/
import Derived.Test.YtmklgnjacbcfeaaChecked
import GoSem.Claim
import GoSem.ClaimJoined
import GoSem.ClaimMapViews
import Derived.JoinedTies
import Derived.KernelRfl
namespace Go.Proofs.Ytmklgnjacbcfeaa
/- THE CELL 'sum', in the pinned program and in every row, IS THE sha256 OF THE DUMP (.gsa) THAT YtmklgnjacbcfeaaProg.lean LOADS. Nothing in Lean hashes anything: it is a label: what it is worth is what the hold of that sum in a sandbox is worth. -/
noncomputable def Try.pinned : Pinned := { name := "ytmklgnjacbcfeaa", sum := "4f37fbfa27ed040d129828543cb438833d0aab6a44bdd5df905d641882b4d5c6", checked := Try.checked }
namespace Rows
def none {H : Type} : Left H := { results := [], args := [] }

/-- 'laws.FnExactIsRow': WHATEVER THE INPUT: true; the input reads as it did. -/
def fnExactIsRowSpec : ChangeSpec := { name := "fnExactIsRow", fn := fun _ => fun
  | [d] => { results := [.lit (.bool true)], args := [d] }
  | _ => none }
def fnExactIsRowRow : OpenClaim := { program := "ytmklgnjacbcfeaa", sum := "4f37fbfa27ed040d129828543cb438833d0aab6a44bdd5df905d641882b4d5c6", func := "loop.example/g01364/laws.FnExactIsRow", spec := "fnExactIsRow", apart := false }
def FnExactIsRowSaid : Prop := fnExactIsRowRow.holds Try.pinned (OpenSpec.ofChange fnExactIsRowSpec)

/-- ITS FALSE NEIGHBOUR: 'it returns false'. Refute it at one input. -/
def fnExactIsRowWrong : ChangeSpec := { name := "fnExactIsRow", fn := fun _ => fun
  | [d] => { results := [.lit (.bool false)], args := [d] }
  | _ => none }
def FnExactIsRowWrongFalsely : Prop := fnExactIsRowRow.holds Try.pinned (OpenSpec.ofChange fnExactIsRowWrong)

/-- 'laws.FnExactValidTable': WHATEVER THE INPUT: true; the input reads as it did. -/
def fnExactValidTableSpec : ChangeSpec := { name := "fnExactValidTable", fn := fun _ => fun
  | [d] => { results := [.lit (.bool true)], args := [d] }
  | _ => none }
def fnExactValidTableRow : OpenClaim := { program := "ytmklgnjacbcfeaa", sum := "4f37fbfa27ed040d129828543cb438833d0aab6a44bdd5df905d641882b4d5c6", func := "loop.example/g01364/laws.FnExactValidTable", spec := "fnExactValidTable", apart := false }
def FnExactValidTableSaid : Prop := fnExactValidTableRow.holds Try.pinned (OpenSpec.ofChange fnExactValidTableSpec)

/-- ITS FALSE NEIGHBOUR: 'it returns false'. Refute it at one input. -/
def fnExactValidTableWrong : ChangeSpec := { name := "fnExactValidTable", fn := fun _ => fun
  | [d] => { results := [.lit (.bool false)], args := [d] }
  | _ => none }
def FnExactValidTableWrongFalsely : Prop := fnExactValidTableRow.holds Try.pinned (OpenSpec.ofChange fnExactValidTableWrong)

/-- 'laws.FnExactSameTable': WHATEVER THE INPUT: true; the input reads as it did. -/
def fnExactSameTableSpec : ChangeSpec := { name := "fnExactSameTable", fn := fun _ => fun
  | [d1, d2] => { results := [.lit (.bool true)], args := [d1, d2] }
  | _ => none }
def fnExactSameTableRow : OpenClaim := { program := "ytmklgnjacbcfeaa", sum := "4f37fbfa27ed040d129828543cb438833d0aab6a44bdd5df905d641882b4d5c6", func := "loop.example/g01364/laws.FnExactSameTable", spec := "fnExactSameTable", inPlace := ["math.Float32bits"], unfollowed := true, recurses := true, apart := false }
def FnExactSameTableSaid : Prop := fnExactSameTableRow.holds Try.pinned (OpenSpec.ofChange fnExactSameTableSpec)

/-- ITS FALSE NEIGHBOUR: 'it returns false'. Refute it at one input. -/
def fnExactSameTableWrong : ChangeSpec := { name := "fnExactSameTable", fn := fun _ => fun
  | [d1, d2] => { results := [.lit (.bool false)], args := [d1, d2] }
  | _ => none }
def FnExactSameTableWrongFalsely : Prop := fnExactSameTableRow.holds Try.pinned (OpenSpec.ofChange fnExactSameTableWrong)

/-- 'laws.FnExactEvenRow': WHATEVER THE INPUT: true; the input reads as it did. -/
def fnExactEvenRowSpec : ChangeSpec := { name := "fnExactEvenRow", fn := fun _ => fun
  | [d] => { results := [.lit (.bool true)], args := [d] }
  | _ => none }
def fnExactEvenRowRow : OpenClaim := { program := "ytmklgnjacbcfeaa", sum := "4f37fbfa27ed040d129828543cb438833d0aab6a44bdd5df905d641882b4d5c6", func := "loop.example/g01364/laws.FnExactEvenRow", spec := "fnExactEvenRow", apart := false }
def FnExactEvenRowSaid : Prop := fnExactEvenRowRow.holds Try.pinned (OpenSpec.ofChange fnExactEvenRowSpec)

/-- ITS FALSE NEIGHBOUR: 'it returns false'. Refute it at one input. -/
def fnExactEvenRowWrong : ChangeSpec := { name := "fnExactEvenRow", fn := fun _ => fun
  | [d] => { results := [.lit (.bool false)], args := [d] }
  | _ => none }
def FnExactEvenRowWrongFalsely : Prop := fnExactEvenRowRow.holds Try.pinned (OpenSpec.ofChange fnExactEvenRowWrong)

/-- 'laws.FnExactSurpriseOf': WHATEVER THE INPUT: true; the input reads as it did. -/
def fnExactSurpriseOfSpec : ChangeSpec := { name := "fnExactSurpriseOf", fn := fun _ => fun
  | [d] => { results := [.lit (.bool true)], args := [d] }
  | _ => none }
def fnExactSurpriseOfRow : OpenClaim := { program := "ytmklgnjacbcfeaa", sum := "4f37fbfa27ed040d129828543cb438833d0aab6a44bdd5df905d641882b4d5c6", func := "loop.example/g01364/laws.FnExactSurpriseOf", spec := "fnExactSurpriseOf", inPlace := ["math.Float64frombits", "math.Float64bits", "math.Float32frombits"], apart := false }
def FnExactSurpriseOfSaid : Prop := fnExactSurpriseOfRow.holds Try.pinned (OpenSpec.ofChange fnExactSurpriseOfSpec)

/-- ITS FALSE NEIGHBOUR: 'it returns false'. Refute it at one input. -/
def fnExactSurpriseOfWrong : ChangeSpec := { name := "fnExactSurpriseOf", fn := fun _ => fun
  | [d] => { results := [.lit (.bool false)], args := [d] }
  | _ => none }
def FnExactSurpriseOfWrongFalsely : Prop := fnExactSurpriseOfRow.holds Try.pinned (OpenSpec.ofChange fnExactSurpriseOfWrong)

/-- 'laws.FnExactEntropyOf': WHATEVER THE INPUT: true; the input reads as it did. -/
def fnExactEntropyOfSpec : ChangeSpec := { name := "fnExactEntropyOf", fn := fun _ => fun
  | [d] => { results := [.lit (.bool true)], args := [d] }
  | _ => none }
def fnExactEntropyOfRow : OpenClaim := { program := "ytmklgnjacbcfeaa", sum := "4f37fbfa27ed040d129828543cb438833d0aab6a44bdd5df905d641882b4d5c6", func := "loop.example/g01364/laws.FnExactEntropyOf", spec := "fnExactEntropyOf", inPlace := ["math.Float64frombits", "math.Float64bits", "math.Float32frombits"], unfollowed := true, recurses := true, apart := false }
def FnExactEntropyOfSaid : Prop := fnExactEntropyOfRow.holds Try.pinned (OpenSpec.ofChange fnExactEntropyOfSpec)

/-- ITS FALSE NEIGHBOUR: 'it returns false'. Refute it at one input. -/
def fnExactEntropyOfWrong : ChangeSpec := { name := "fnExactEntropyOf", fn := fun _ => fun
  | [d] => { results := [.lit (.bool false)], args := [d] }
  | _ => none }
def FnExactEntropyOfWrongFalsely : Prop := fnExactEntropyOfRow.holds Try.pinned (OpenSpec.ofChange fnExactEntropyOfWrong)

/-- 'laws.FnExactTableEntropy': WHATEVER THE INPUT: true; the input reads as it did. -/
def fnExactTableEntropySpec : ChangeSpec := { name := "fnExactTableEntropy", fn := fun _ => fun
  | [d] => { results := [.lit (.bool true)], args := [d] }
  | _ => none }
def fnExactTableEntropyRow : OpenClaim := { program := "ytmklgnjacbcfeaa", sum := "4f37fbfa27ed040d129828543cb438833d0aab6a44bdd5df905d641882b4d5c6", func := "loop.example/g01364/laws.FnExactTableEntropy", spec := "fnExactTableEntropy", inPlace := ["math.Float64frombits", "math.Float64bits", "math.Float32frombits"], unfollowed := true, recurses := true, apart := false }
def FnExactTableEntropySaid : Prop := fnExactTableEntropyRow.holds Try.pinned (OpenSpec.ofChange fnExactTableEntropySpec)

/-- ITS FALSE NEIGHBOUR: 'it returns false'. Refute it at one input. -/
def fnExactTableEntropyWrong : ChangeSpec := { name := "fnExactTableEntropy", fn := fun _ => fun
  | [d] => { results := [.lit (.bool false)], args := [d] }
  | _ => none }
def FnExactTableEntropyWrongFalsely : Prop := fnExactTableEntropyRow.holds Try.pinned (OpenSpec.ofChange fnExactTableEntropyWrong)

/-- 'laws.FnExactCountTypes': WHATEVER THE INPUT: true; the input reads as it did. -/
def fnExactCountTypesSpec : ChangeSpec := { name := "fnExactCountTypes", fn := fun _ => fun
  | [d1, d2] => { results := [.lit (.bool true)], args := [d1, d2] }
  | _ => none }
def fnExactCountTypesRow : OpenClaim := { program := "ytmklgnjacbcfeaa", sum := "4f37fbfa27ed040d129828543cb438833d0aab6a44bdd5df905d641882b4d5c6", func := "loop.example/g01364/laws.FnExactCountTypes", spec := "fnExactCountTypes", apart := false }
def FnExactCountTypesSaid : Prop := fnExactCountTypesRow.holds Try.pinned (OpenSpec.ofChange fnExactCountTypesSpec)

/-- ITS FALSE NEIGHBOUR: 'it returns false'. Refute it at one input. -/
def fnExactCountTypesWrong : ChangeSpec := { name := "fnExactCountTypes", fn := fun _ => fun
  | [d1, d2] => { results := [.lit (.bool false)], args := [d1, d2] }
  | _ => none }
def FnExactCountTypesWrongFalsely : Prop := fnExactCountTypesRow.holds Try.pinned (OpenSpec.ofChange fnExactCountTypesWrong)

/-- 'laws.FnExactWordsOfType': WHATEVER THE INPUT: true; the input reads as it did. -/
def fnExactWordsOfTypeSpec : ChangeSpec := { name := "fnExactWordsOfType", fn := fun _ => fun
  | [d] => { results := [.lit (.bool true)], args := [d] }
  | _ => none }
def fnExactWordsOfTypeRow : OpenClaim := { program := "ytmklgnjacbcfeaa", sum := "4f37fbfa27ed040d129828543cb438833d0aab6a44bdd5df905d641882b4d5c6", func := "loop.example/g01364/laws.FnExactWordsOfType", spec := "fnExactWordsOfType", apart := false }
def FnExactWordsOfTypeSaid : Prop := fnExactWordsOfTypeRow.holds Try.pinned (OpenSpec.ofChange fnExactWordsOfTypeSpec)

/-- ITS FALSE NEIGHBOUR: 'it returns false'. Refute it at one input. -/
def fnExactWordsOfTypeWrong : ChangeSpec := { name := "fnExactWordsOfType", fn := fun _ => fun
  | [d] => { results := [.lit (.bool false)], args := [d] }
  | _ => none }
def FnExactWordsOfTypeWrongFalsely : Prop := fnExactWordsOfTypeRow.holds Try.pinned (OpenSpec.ofChange fnExactWordsOfTypeWrong)

/-- 'laws.FnExactMixRows': WHATEVER THE INPUT: true; the input reads as it did. -/
def fnExactMixRowsSpec : ChangeSpec := { name := "fnExactMixRows", fn := fun _ => fun
  | [d1, d2, d3] => { results := [.lit (.bool true)], args := [d1, d2, d3] }
  | _ => none }
def fnExactMixRowsRow : OpenClaim := { program := "ytmklgnjacbcfeaa", sum := "4f37fbfa27ed040d129828543cb438833d0aab6a44bdd5df905d641882b4d5c6", func := "loop.example/g01364/laws.FnExactMixRows", spec := "fnExactMixRows", apart := false }
def FnExactMixRowsSaid : Prop := fnExactMixRowsRow.holds Try.pinned (OpenSpec.ofChange fnExactMixRowsSpec)

/-- ITS FALSE NEIGHBOUR: 'it returns false'. Refute it at one input. -/
def fnExactMixRowsWrong : ChangeSpec := { name := "fnExactMixRows", fn := fun _ => fun
  | [d1, d2, d3] => { results := [.lit (.bool false)], args := [d1, d2, d3] }
  | _ => none }
def FnExactMixRowsWrongFalsely : Prop := fnExactMixRowsRow.holds Try.pinned (OpenSpec.ofChange fnExactMixRowsWrong)

/-- 'laws.FnExactFarOfRows': WHATEVER THE INPUT: true; the input reads as it did. -/
def fnExactFarOfRowsSpec : ChangeSpec := { name := "fnExactFarOfRows", fn := fun _ => fun
  | [d1, d2] => { results := [.lit (.bool true)], args := [d1, d2] }
  | _ => none }
def fnExactFarOfRowsRow : OpenClaim := { program := "ytmklgnjacbcfeaa", sum := "4f37fbfa27ed040d129828543cb438833d0aab6a44bdd5df905d641882b4d5c6", func := "loop.example/g01364/laws.FnExactFarOfRows", spec := "fnExactFarOfRows", apart := false }
def FnExactFarOfRowsSaid : Prop := fnExactFarOfRowsRow.holds Try.pinned (OpenSpec.ofChange fnExactFarOfRowsSpec)

/-- ITS FALSE NEIGHBOUR: 'it returns false'. Refute it at one input. -/
def fnExactFarOfRowsWrong : ChangeSpec := { name := "fnExactFarOfRows", fn := fun _ => fun
  | [d1, d2] => { results := [.lit (.bool false)], args := [d1, d2] }
  | _ => none }
def FnExactFarOfRowsWrongFalsely : Prop := fnExactFarOfRowsRow.holds Try.pinned (OpenSpec.ofChange fnExactFarOfRowsWrong)

/-- 'laws.FnExactCrossEntropy': WHATEVER THE INPUT: true; the input reads as it did. -/
def fnExactCrossEntropySpec : ChangeSpec := { name := "fnExactCrossEntropy", fn := fun _ => fun
  | [d1, d2] => { results := [.lit (.bool true)], args := [d1, d2] }
  | _ => none }
def fnExactCrossEntropyRow : OpenClaim := { program := "ytmklgnjacbcfeaa", sum := "4f37fbfa27ed040d129828543cb438833d0aab6a44bdd5df905d641882b4d5c6", func := "loop.example/g01364/laws.FnExactCrossEntropy", spec := "fnExactCrossEntropy", inPlace := ["math.Float64frombits", "math.Float64bits", "math.Float32frombits"], unfollowed := true, recurses := true, apart := false }
def FnExactCrossEntropySaid : Prop := fnExactCrossEntropyRow.holds Try.pinned (OpenSpec.ofChange fnExactCrossEntropySpec)

/-- ITS FALSE NEIGHBOUR: 'it returns false'. Refute it at one input. -/
def fnExactCrossEntropyWrong : ChangeSpec := { name := "fnExactCrossEntropy", fn := fun _ => fun
  | [d1, d2] => { results := [.lit (.bool false)], args := [d1, d2] }
  | _ => none }
def FnExactCrossEntropyWrongFalsely : Prop := fnExactCrossEntropyRow.holds Try.pinned (OpenSpec.ofChange fnExactCrossEntropyWrong)

/- THE SECOND FORM. 'bulk': how many values and letters a reading holds, each counted each time it is reached (what is shared counts as often as it is met; a slice's spare places count too). A statement '..UptoSaid' is the law's where the arguments, and the package variables that the reading takes, are together of bulk at most 1048576: NARROWER than '..Said'. Prove '..Said' where nothing that the law and all that it calls make is longer than what came in: it says more and counts as full. Else prove '..UptoSaid'. A law counts once. -/
mutual
def uptoBulk {H : Type} : DataW H → Nat
  | .lit (.string bytes) => bytes.length + 1
  | .lit _ => 1
  | .nil => 1
  | .ptr d => uptoBulk d + 1
  | .slice elems spare => uptoBulkAll elems + uptoBulkAll spare + 1
  | .agg parts => uptoBulkAll parts + 1
  | .iface _ d => uptoBulk d + 1
  | .map entries => uptoBulkEntries entries + 1
  | .held _ => 1
def uptoBulkAll {H : Type} : List (DataW H) → Nat
  | [] => 0
  | d :: r => uptoBulk d + uptoBulkAll r
def uptoBulkEntries {H : Type} : List (Lit × DataW H) → Nat
  | [] => 0
  | x :: r => uptoBulkEntry x + uptoBulkEntries r
def uptoBulkEntry {H : Type} : Lit × DataW H → Nat
  | (.string bytes, d) => bytes.length + uptoBulk d + 1
  | (_, d) => uptoBulk d + 1
 end
def uptoSmall : (H : Type) → List (DataW H) → Bool := fun _ ds => decide (uptoBulkAll ds ≤ 1048576)
def OpenSpec.upto (s : _root_.Go.ChangeSpec) : _root_.Go.OpenSpec := { _root_.Go.OpenSpec.ofChange s with cond := some uptoSmall }

/-- 'laws.FnExactIsRow', WHERE WHAT IT READS IS OF BULK AT MOST 1048576: true; the input reads as it did. -/
def fnExactIsRowUptoRow : OpenClaim := { program := "ytmklgnjacbcfeaa", sum := "4f37fbfa27ed040d129828543cb438833d0aab6a44bdd5df905d641882b4d5c6", func := "loop.example/g01364/laws.FnExactIsRow", spec := "fnExactIsRow", apart := false, narrowed := true }
def FnExactIsRowUptoSaid : Prop := fnExactIsRowUptoRow.holds Try.pinned (OpenSpec.upto fnExactIsRowSpec)

/-- 'laws.FnExactValidTable', WHERE WHAT IT READS IS OF BULK AT MOST 1048576: true; the input reads as it did. -/
def fnExactValidTableUptoRow : OpenClaim := { program := "ytmklgnjacbcfeaa", sum := "4f37fbfa27ed040d129828543cb438833d0aab6a44bdd5df905d641882b4d5c6", func := "loop.example/g01364/laws.FnExactValidTable", spec := "fnExactValidTable", apart := false, narrowed := true }
def FnExactValidTableUptoSaid : Prop := fnExactValidTableUptoRow.holds Try.pinned (OpenSpec.upto fnExactValidTableSpec)

/-- 'laws.FnExactSameTable', WHERE WHAT IT READS IS OF BULK AT MOST 1048576: true; the input reads as it did. -/
def fnExactSameTableUptoRow : OpenClaim := { program := "ytmklgnjacbcfeaa", sum := "4f37fbfa27ed040d129828543cb438833d0aab6a44bdd5df905d641882b4d5c6", func := "loop.example/g01364/laws.FnExactSameTable", spec := "fnExactSameTable", inPlace := ["math.Float32bits"], unfollowed := true, recurses := true, apart := false, narrowed := true }
def FnExactSameTableUptoSaid : Prop := fnExactSameTableUptoRow.holds Try.pinned (OpenSpec.upto fnExactSameTableSpec)

/-- 'laws.FnExactEvenRow', WHERE WHAT IT READS IS OF BULK AT MOST 1048576: true; the input reads as it did. -/
def fnExactEvenRowUptoRow : OpenClaim := { program := "ytmklgnjacbcfeaa", sum := "4f37fbfa27ed040d129828543cb438833d0aab6a44bdd5df905d641882b4d5c6", func := "loop.example/g01364/laws.FnExactEvenRow", spec := "fnExactEvenRow", apart := false, narrowed := true }
def FnExactEvenRowUptoSaid : Prop := fnExactEvenRowUptoRow.holds Try.pinned (OpenSpec.upto fnExactEvenRowSpec)

/-- 'laws.FnExactSurpriseOf', WHERE WHAT IT READS IS OF BULK AT MOST 1048576: true; the input reads as it did. -/
def fnExactSurpriseOfUptoRow : OpenClaim := { program := "ytmklgnjacbcfeaa", sum := "4f37fbfa27ed040d129828543cb438833d0aab6a44bdd5df905d641882b4d5c6", func := "loop.example/g01364/laws.FnExactSurpriseOf", spec := "fnExactSurpriseOf", inPlace := ["math.Float64frombits", "math.Float64bits", "math.Float32frombits"], apart := false, narrowed := true }
def FnExactSurpriseOfUptoSaid : Prop := fnExactSurpriseOfUptoRow.holds Try.pinned (OpenSpec.upto fnExactSurpriseOfSpec)

/-- 'laws.FnExactEntropyOf', WHERE WHAT IT READS IS OF BULK AT MOST 1048576: true; the input reads as it did. -/
def fnExactEntropyOfUptoRow : OpenClaim := { program := "ytmklgnjacbcfeaa", sum := "4f37fbfa27ed040d129828543cb438833d0aab6a44bdd5df905d641882b4d5c6", func := "loop.example/g01364/laws.FnExactEntropyOf", spec := "fnExactEntropyOf", inPlace := ["math.Float64frombits", "math.Float64bits", "math.Float32frombits"], unfollowed := true, recurses := true, apart := false, narrowed := true }
def FnExactEntropyOfUptoSaid : Prop := fnExactEntropyOfUptoRow.holds Try.pinned (OpenSpec.upto fnExactEntropyOfSpec)

/-- 'laws.FnExactTableEntropy', WHERE WHAT IT READS IS OF BULK AT MOST 1048576: true; the input reads as it did. -/
def fnExactTableEntropyUptoRow : OpenClaim := { program := "ytmklgnjacbcfeaa", sum := "4f37fbfa27ed040d129828543cb438833d0aab6a44bdd5df905d641882b4d5c6", func := "loop.example/g01364/laws.FnExactTableEntropy", spec := "fnExactTableEntropy", inPlace := ["math.Float64frombits", "math.Float64bits", "math.Float32frombits"], unfollowed := true, recurses := true, apart := false, narrowed := true }
def FnExactTableEntropyUptoSaid : Prop := fnExactTableEntropyUptoRow.holds Try.pinned (OpenSpec.upto fnExactTableEntropySpec)

/-- 'laws.FnExactCountTypes', WHERE WHAT IT READS IS OF BULK AT MOST 1048576: true; the input reads as it did. -/
def fnExactCountTypesUptoRow : OpenClaim := { program := "ytmklgnjacbcfeaa", sum := "4f37fbfa27ed040d129828543cb438833d0aab6a44bdd5df905d641882b4d5c6", func := "loop.example/g01364/laws.FnExactCountTypes", spec := "fnExactCountTypes", apart := false, narrowed := true }
def FnExactCountTypesUptoSaid : Prop := fnExactCountTypesUptoRow.holds Try.pinned (OpenSpec.upto fnExactCountTypesSpec)

/-- 'laws.FnExactWordsOfType', WHERE WHAT IT READS IS OF BULK AT MOST 1048576: true; the input reads as it did. -/
def fnExactWordsOfTypeUptoRow : OpenClaim := { program := "ytmklgnjacbcfeaa", sum := "4f37fbfa27ed040d129828543cb438833d0aab6a44bdd5df905d641882b4d5c6", func := "loop.example/g01364/laws.FnExactWordsOfType", spec := "fnExactWordsOfType", apart := false, narrowed := true }
def FnExactWordsOfTypeUptoSaid : Prop := fnExactWordsOfTypeUptoRow.holds Try.pinned (OpenSpec.upto fnExactWordsOfTypeSpec)

/-- 'laws.FnExactMixRows', WHERE WHAT IT READS IS OF BULK AT MOST 1048576: true; the input reads as it did. -/
def fnExactMixRowsUptoRow : OpenClaim := { program := "ytmklgnjacbcfeaa", sum := "4f37fbfa27ed040d129828543cb438833d0aab6a44bdd5df905d641882b4d5c6", func := "loop.example/g01364/laws.FnExactMixRows", spec := "fnExactMixRows", apart := false, narrowed := true }
def FnExactMixRowsUptoSaid : Prop := fnExactMixRowsUptoRow.holds Try.pinned (OpenSpec.upto fnExactMixRowsSpec)

/-- 'laws.FnExactFarOfRows', WHERE WHAT IT READS IS OF BULK AT MOST 1048576: true; the input reads as it did. -/
def fnExactFarOfRowsUptoRow : OpenClaim := { program := "ytmklgnjacbcfeaa", sum := "4f37fbfa27ed040d129828543cb438833d0aab6a44bdd5df905d641882b4d5c6", func := "loop.example/g01364/laws.FnExactFarOfRows", spec := "fnExactFarOfRows", apart := false, narrowed := true }
def FnExactFarOfRowsUptoSaid : Prop := fnExactFarOfRowsUptoRow.holds Try.pinned (OpenSpec.upto fnExactFarOfRowsSpec)

/-- 'laws.FnExactCrossEntropy', WHERE WHAT IT READS IS OF BULK AT MOST 1048576: true; the input reads as it did. -/
def fnExactCrossEntropyUptoRow : OpenClaim := { program := "ytmklgnjacbcfeaa", sum := "4f37fbfa27ed040d129828543cb438833d0aab6a44bdd5df905d641882b4d5c6", func := "loop.example/g01364/laws.FnExactCrossEntropy", spec := "fnExactCrossEntropy", inPlace := ["math.Float64frombits", "math.Float64bits", "math.Float32frombits"], unfollowed := true, recurses := true, apart := false, narrowed := true }
def FnExactCrossEntropyUptoSaid : Prop := fnExactCrossEntropyUptoRow.holds Try.pinned (OpenSpec.upto fnExactCrossEntropySpec)

end Rows
end Go.Proofs.Ytmklgnjacbcfeaa
