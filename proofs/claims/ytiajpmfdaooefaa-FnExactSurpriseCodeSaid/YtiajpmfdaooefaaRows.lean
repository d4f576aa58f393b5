/-
  No cell of these rows narrows 'for every input' (looked for: loops, veiled, ifaces, maps, wideKeys, modest, calm, conditions, laid).
  DERIVED. THE GIVEN ROWS OF THIS SEAT. 12 by the template 'for every input the law returns true; each argument reads behind the call as it read before'; 0 by the template 'total and deterministic' (their statements: YtiajpmfdaooefaaTotals.lean).
  GIVEN WITH THE SEED: the statements are not yours to turn. If you find one false, say at which input.
  Laid BY PROGRAM, IN A SANDBOX (cutbox-rows.mjs): the forced cells as the released guide's own fill.sh prints them over the translation 648369e4c623a421… (all of the seat's roots in one cut). By AI agents, Wed Nov 11 2026. No macro, syntax, notation, axiom, sorry.
-/
import Derived.Test.YtiajpmfdaooefaaChecked
import GoSem.Claim
import GoSem.ClaimJoined
import GoSem.ClaimMapViews
import Derived.JoinedTies
import Derived.KernelRfl
namespace Go.Proofs.Ytiajpmfdaooefaa
/- THE CELL 'sum', in the pinned program and in every row, IS THE sha256 OF THE DUMP (.gsa) THAT YtiajpmfdaooefaaProg.lean LOADS. Nothing in Lean hashes anything: it is a label: what it is worth is what the hold of that sum in a sandbox is worth. -/
noncomputable def Try.pinned : Pinned := { name := "ytiajpmfdaooefaa", sum := "648369e4c623a4214f4288566823db5a58409ab8d76db1ab2623069904ce91ae", checked := Try.checked }
namespace Rows
def none {H : Type} : Left H := { results := [], args := [] }

/-- 'laws.FnExactValidCode': WHATEVER THE INPUT: true; the input reads as it did. -/
def fnExactValidCodeSpec : ChangeSpec := { name := "fnExactValidCode", fn := fun _ => fun
  | [d] => { results := [.lit (.bool true)], args := [d] }
  | _ => none }
def fnExactValidCodeRow : OpenClaim := { program := "ytiajpmfdaooefaa", sum := "648369e4c623a4214f4288566823db5a58409ab8d76db1ab2623069904ce91ae", func := "loop.example/g01364/laws.FnExactValidCode", spec := "fnExactValidCode", apart := false }
def FnExactValidCodeSaid : Prop := fnExactValidCodeRow.holds Try.pinned (OpenSpec.ofChange fnExactValidCodeSpec)

/-- ITS FALSE NEIGHBOUR: 'it returns false'. Refute it at one input. -/
def fnExactValidCodeWrong : ChangeSpec := { name := "fnExactValidCode", fn := fun _ => fun
  | [d] => { results := [.lit (.bool false)], args := [d] }
  | _ => none }
def FnExactValidCodeWrongFalsely : Prop := fnExactValidCodeRow.holds Try.pinned (OpenSpec.ofChange fnExactValidCodeWrong)

/-- 'laws.FnExactSameCode': WHATEVER THE INPUT: true; the input reads as it did. -/
def fnExactSameCodeSpec : ChangeSpec := { name := "fnExactSameCode", fn := fun _ => fun
  | [d1, d2] => { results := [.lit (.bool true)], args := [d1, d2] }
  | _ => none }
def fnExactSameCodeRow : OpenClaim := { program := "ytiajpmfdaooefaa", sum := "648369e4c623a4214f4288566823db5a58409ab8d76db1ab2623069904ce91ae", func := "loop.example/g01364/laws.FnExactSameCode", spec := "fnExactSameCode", apart := false }
def FnExactSameCodeSaid : Prop := fnExactSameCodeRow.holds Try.pinned (OpenSpec.ofChange fnExactSameCodeSpec)

/-- ITS FALSE NEIGHBOUR: 'it returns false'. Refute it at one input. -/
def fnExactSameCodeWrong : ChangeSpec := { name := "fnExactSameCode", fn := fun _ => fun
  | [d1, d2] => { results := [.lit (.bool false)], args := [d1, d2] }
  | _ => none }
def FnExactSameCodeWrongFalsely : Prop := fnExactSameCodeRow.holds Try.pinned (OpenSpec.ofChange fnExactSameCodeWrong)

/-- 'laws.FnExactKraftOf': WHATEVER THE INPUT: true; the input reads as it did. -/
def fnExactKraftOfSpec : ChangeSpec := { name := "fnExactKraftOf", fn := fun _ => fun
  | [d] => { results := [.lit (.bool true)], args := [d] }
  | _ => none }
def fnExactKraftOfRow : OpenClaim := { program := "ytiajpmfdaooefaa", sum := "648369e4c623a4214f4288566823db5a58409ab8d76db1ab2623069904ce91ae", func := "loop.example/g01364/laws.FnExactKraftOf", spec := "fnExactKraftOf", apart := false }
def FnExactKraftOfSaid : Prop := fnExactKraftOfRow.holds Try.pinned (OpenSpec.ofChange fnExactKraftOfSpec)

/-- ITS FALSE NEIGHBOUR: 'it returns false'. Refute it at one input. -/
def fnExactKraftOfWrong : ChangeSpec := { name := "fnExactKraftOf", fn := fun _ => fun
  | [d] => { results := [.lit (.bool false)], args := [d] }
  | _ => none }
def FnExactKraftOfWrongFalsely : Prop := fnExactKraftOfRow.holds Try.pinned (OpenSpec.ofChange fnExactKraftOfWrong)

/-- 'laws.FnExactTotalLong': WHATEVER THE INPUT: true; the input reads as it did. -/
def fnExactTotalLongSpec : ChangeSpec := { name := "fnExactTotalLong", fn := fun _ => fun
  | [d1, d2] => { results := [.lit (.bool true)], args := [d1, d2] }
  | _ => none }
def fnExactTotalLongRow : OpenClaim := { program := "ytiajpmfdaooefaa", sum := "648369e4c623a4214f4288566823db5a58409ab8d76db1ab2623069904ce91ae", func := "loop.example/g01364/laws.FnExactTotalLong", spec := "fnExactTotalLong", apart := false }
def FnExactTotalLongSaid : Prop := fnExactTotalLongRow.holds Try.pinned (OpenSpec.ofChange fnExactTotalLongSpec)

/-- ITS FALSE NEIGHBOUR: 'it returns false'. Refute it at one input. -/
def fnExactTotalLongWrong : ChangeSpec := { name := "fnExactTotalLong", fn := fun _ => fun
  | [d1, d2] => { results := [.lit (.bool false)], args := [d1, d2] }
  | _ => none }
def FnExactTotalLongWrongFalsely : Prop := fnExactTotalLongRow.holds Try.pinned (OpenSpec.ofChange fnExactTotalLongWrong)

/-- 'laws.FnExactMeanLong': WHATEVER THE INPUT: true; the input reads as it did. -/
def fnExactMeanLongSpec : ChangeSpec := { name := "fnExactMeanLong", fn := fun _ => fun
  | [d1, d2] => { results := [.lit (.bool true)], args := [d1, d2] }
  | _ => none }
def fnExactMeanLongRow : OpenClaim := { program := "ytiajpmfdaooefaa", sum := "648369e4c623a4214f4288566823db5a58409ab8d76db1ab2623069904ce91ae", func := "loop.example/g01364/laws.FnExactMeanLong", spec := "fnExactMeanLong", apart := false }
def FnExactMeanLongSaid : Prop := fnExactMeanLongRow.holds Try.pinned (OpenSpec.ofChange fnExactMeanLongSpec)

/-- ITS FALSE NEIGHBOUR: 'it returns false'. Refute it at one input. -/
def fnExactMeanLongWrong : ChangeSpec := { name := "fnExactMeanLong", fn := fun _ => fun
  | [d1, d2] => { results := [.lit (.bool false)], args := [d1, d2] }
  | _ => none }
def FnExactMeanLongWrongFalsely : Prop := fnExactMeanLongRow.holds Try.pinned (OpenSpec.ofChange fnExactMeanLongWrong)

/-- 'laws.FnExactWordsOf': WHATEVER THE INPUT: true; the input reads as it did. -/
def fnExactWordsOfSpec : ChangeSpec := { name := "fnExactWordsOf", fn := fun _ => fun
  | [d] => { results := [.lit (.bool true)], args := [d] }
  | _ => none }
def fnExactWordsOfRow : OpenClaim := { program := "ytiajpmfdaooefaa", sum := "648369e4c623a4214f4288566823db5a58409ab8d76db1ab2623069904ce91ae", func := "loop.example/g01364/laws.FnExactWordsOf", spec := "fnExactWordsOf", unfollowed := true, recurses := true, apart := false }
def FnExactWordsOfSaid : Prop := fnExactWordsOfRow.holds Try.pinned (OpenSpec.ofChange fnExactWordsOfSpec)

/-- ITS FALSE NEIGHBOUR: 'it returns false'. Refute it at one input. -/
def fnExactWordsOfWrong : ChangeSpec := { name := "fnExactWordsOf", fn := fun _ => fun
  | [d] => { results := [.lit (.bool false)], args := [d] }
  | _ => none }
def FnExactWordsOfWrongFalsely : Prop := fnExactWordsOfRow.holds Try.pinned (OpenSpec.ofChange fnExactWordsOfWrong)

/-- 'laws.FnExactMergedCode': WHATEVER THE INPUT: true; the input reads as it did. -/
def fnExactMergedCodeSpec : ChangeSpec := { name := "fnExactMergedCode", fn := fun _ => fun
  | [d] => { results := [.lit (.bool true)], args := [d] }
  | _ => none }
def fnExactMergedCodeRow : OpenClaim := { program := "ytiajpmfdaooefaa", sum := "648369e4c623a4214f4288566823db5a58409ab8d76db1ab2623069904ce91ae", func := "loop.example/g01364/laws.FnExactMergedCode", spec := "fnExactMergedCode", unfollowed := true, recurses := true, apart := false }
def FnExactMergedCodeSaid : Prop := fnExactMergedCodeRow.holds Try.pinned (OpenSpec.ofChange fnExactMergedCodeSpec)

/-- ITS FALSE NEIGHBOUR: 'it returns false'. Refute it at one input. -/
def fnExactMergedCodeWrong : ChangeSpec := { name := "fnExactMergedCode", fn := fun _ => fun
  | [d] => { results := [.lit (.bool false)], args := [d] }
  | _ => none }
def FnExactMergedCodeWrongFalsely : Prop := fnExactMergedCodeRow.holds Try.pinned (OpenSpec.ofChange fnExactMergedCodeWrong)

/-- 'laws.FnExactBoundedCode': WHATEVER THE INPUT: true; the input reads as it did. -/
def fnExactBoundedCodeSpec : ChangeSpec := { name := "fnExactBoundedCode", fn := fun _ => fun
  | [d1, d2] => { results := [.lit (.bool true)], args := [d1, d2] }
  | _ => none }
def fnExactBoundedCodeRow : OpenClaim := { program := "ytiajpmfdaooefaa", sum := "648369e4c623a4214f4288566823db5a58409ab8d76db1ab2623069904ce91ae", func := "loop.example/g01364/laws.FnExactBoundedCode", spec := "fnExactBoundedCode", unfollowed := true, recurses := true, apart := false }
def FnExactBoundedCodeSaid : Prop := fnExactBoundedCodeRow.holds Try.pinned (OpenSpec.ofChange fnExactBoundedCodeSpec)

/-- ITS FALSE NEIGHBOUR: 'it returns false'. Refute it at one input. -/
def fnExactBoundedCodeWrong : ChangeSpec := { name := "fnExactBoundedCode", fn := fun _ => fun
  | [d1, d2] => { results := [.lit (.bool false)], args := [d1, d2] }
  | _ => none }
def FnExactBoundedCodeWrongFalsely : Prop := fnExactBoundedCodeRow.holds Try.pinned (OpenSpec.ofChange fnExactBoundedCodeWrong)

/-- 'laws.FnExactOrderedCode': WHATEVER THE INPUT: true; the input reads as it did. -/
def fnExactOrderedCodeSpec : ChangeSpec := { name := "fnExactOrderedCode", fn := fun _ => fun
  | [d] => { results := [.lit (.bool true)], args := [d] }
  | _ => none }
def fnExactOrderedCodeRow : OpenClaim := { program := "ytiajpmfdaooefaa", sum := "648369e4c623a4214f4288566823db5a58409ab8d76db1ab2623069904ce91ae", func := "loop.example/g01364/laws.FnExactOrderedCode", spec := "fnExactOrderedCode", unfollowed := true, recurses := true, apart := false }
def FnExactOrderedCodeSaid : Prop := fnExactOrderedCodeRow.holds Try.pinned (OpenSpec.ofChange fnExactOrderedCodeSpec)

/-- ITS FALSE NEIGHBOUR: 'it returns false'. Refute it at one input. -/
def fnExactOrderedCodeWrong : ChangeSpec := { name := "fnExactOrderedCode", fn := fun _ => fun
  | [d] => { results := [.lit (.bool false)], args := [d] }
  | _ => none }
def FnExactOrderedCodeWrongFalsely : Prop := fnExactOrderedCodeRow.holds Try.pinned (OpenSpec.ofChange fnExactOrderedCodeWrong)

/-- 'laws.FnExactSurpriseCode': WHATEVER THE INPUT: true; the input reads as it did. -/
def fnExactSurpriseCodeSpec : ChangeSpec := { name := "fnExactSurpriseCode", fn := fun _ => fun
  | [d] => { results := [.lit (.bool true)], args := [d] }
  | _ => none }
def fnExactSurpriseCodeRow : OpenClaim := { program := "ytiajpmfdaooefaa", sum := "648369e4c623a4214f4288566823db5a58409ab8d76db1ab2623069904ce91ae", func := "loop.example/g01364/laws.FnExactSurpriseCode", spec := "fnExactSurpriseCode", inPlace := ["math.Float64frombits", "math.Float64bits", "math.Float32frombits"], apart := false }
def FnExactSurpriseCodeSaid : Prop := fnExactSurpriseCodeRow.holds Try.pinned (OpenSpec.ofChange fnExactSurpriseCodeSpec)

/-- ITS FALSE NEIGHBOUR: 'it returns false'. Refute it at one input. -/
def fnExactSurpriseCodeWrong : ChangeSpec := { name := "fnExactSurpriseCode", fn := fun _ => fun
  | [d] => { results := [.lit (.bool false)], args := [d] }
  | _ => none }
def FnExactSurpriseCodeWrongFalsely : Prop := fnExactSurpriseCodeRow.holds Try.pinned (OpenSpec.ofChange fnExactSurpriseCodeWrong)

/-- 'laws.FnExactEncodeLetters': WHATEVER THE INPUT: true; the input reads as it did. -/
def fnExactEncodeLettersSpec : ChangeSpec := { name := "fnExactEncodeLetters", fn := fun _ => fun
  | [d1, d2] => { results := [.lit (.bool true)], args := [d1, d2] }
  | _ => none }
def fnExactEncodeLettersRow : OpenClaim := { program := "ytiajpmfdaooefaa", sum := "648369e4c623a4214f4288566823db5a58409ab8d76db1ab2623069904ce91ae", func := "loop.example/g01364/laws.FnExactEncodeLetters", spec := "fnExactEncodeLetters", inPlace := ["internal/abi.NoEscape"], unfollowed := true, recurses := true, apart := false }
def FnExactEncodeLettersSaid : Prop := fnExactEncodeLettersRow.holds Try.pinned (OpenSpec.ofChange fnExactEncodeLettersSpec)

/-- ITS FALSE NEIGHBOUR: 'it returns false'. Refute it at one input. -/
def fnExactEncodeLettersWrong : ChangeSpec := { name := "fnExactEncodeLetters", fn := fun _ => fun
  | [d1, d2] => { results := [.lit (.bool false)], args := [d1, d2] }
  | _ => none }
def FnExactEncodeLettersWrongFalsely : Prop := fnExactEncodeLettersRow.holds Try.pinned (OpenSpec.ofChange fnExactEncodeLettersWrong)

/-- 'laws.FnExactDecodeLetters': WHATEVER THE INPUT: true; the input reads as it did. -/
def fnExactDecodeLettersSpec : ChangeSpec := { name := "fnExactDecodeLetters", fn := fun _ => fun
  | [d1, d2] => { results := [.lit (.bool true)], args := [d1, d2] }
  | _ => none }
def fnExactDecodeLettersRow : OpenClaim := { program := "ytiajpmfdaooefaa", sum := "648369e4c623a4214f4288566823db5a58409ab8d76db1ab2623069904ce91ae", func := "loop.example/g01364/laws.FnExactDecodeLetters", spec := "fnExactDecodeLetters", unfollowed := true, recurses := true, apart := false }
def FnExactDecodeLettersSaid : Prop := fnExactDecodeLettersRow.holds Try.pinned (OpenSpec.ofChange fnExactDecodeLettersSpec)

/-- ITS FALSE NEIGHBOUR: 'it returns false'. Refute it at one input. -/
def fnExactDecodeLettersWrong : ChangeSpec := { name := "fnExactDecodeLetters", fn := fun _ => fun
  | [d1, d2] => { results := [.lit (.bool false)], args := [d1, d2] }
  | _ => none }
def FnExactDecodeLettersWrongFalsely : Prop := fnExactDecodeLettersRow.holds Try.pinned (OpenSpec.ofChange fnExactDecodeLettersWrong)

/- THE SECOND FORM. 'bulk': how many values and letters a reading holds, each counted each time it is reached (what is shared counts as often as it is met; a slice's spare places count too). A statement '..UptoSaid' is the law's where the arguments, and the package variables that the reading takes, are together of bulk at most 1048576: NARROWER than '..Said'. Prove '..Said' where nothing that the law and all that it calls make is longer than what came in: it says more and counts as full. Else prove '..UptoSaid'. A law counts once. -/
mutual
def uptoBulk {H : Type} : DataW H → Nat
  | .lit (.string bytes) => bytes.length + 1
  | .lit _ => 1
  | .nil => 1
  | .ptr d => uptoBulk d + 1
  | .slice elems spare => uptoBulkAll elems + uptoBulkAll spare + 1
  | .agg parts => uptoBulkAll parts + 1
  | .iface _ d => uptoBulk d + 1
  | .map entries => uptoBulkEntries entries + 1
  | .held _ => 1
def uptoBulkAll {H : Type} : List (DataW H) → Nat
  | [] => 0
  | d :: r => uptoBulk d + uptoBulkAll r
def uptoBulkEntries {H : Type} : List (Lit × DataW H) → Nat
  | [] => 0
  | x :: r => uptoBulkEntry x + uptoBulkEntries r
def uptoBulkEntry {H : Type} : Lit × DataW H → Nat
  | (.string bytes, d) => bytes.length + uptoBulk d + 1
  | (_, d) => uptoBulk d + 1
 end
def uptoSmall : (H : Type) → List (DataW H) → Bool := fun _ ds => decide (uptoBulkAll ds ≤ 1048576)
def OpenSpec.upto (s : _root_.Go.ChangeSpec) : _root_.Go.OpenSpec := { _root_.Go.OpenSpec.ofChange s with cond := some uptoSmall }

/-- 'laws.FnExactValidCode', WHERE WHAT IT READS IS OF BULK AT MOST 1048576: true; the input reads as it did. -/
def fnExactValidCodeUptoRow : OpenClaim := { program := "ytiajpmfdaooefaa", sum := "648369e4c623a4214f4288566823db5a58409ab8d76db1ab2623069904ce91ae", func := "loop.example/g01364/laws.FnExactValidCode", spec := "fnExactValidCode", apart := false, narrowed := true }
def FnExactValidCodeUptoSaid : Prop := fnExactValidCodeUptoRow.holds Try.pinned (OpenSpec.upto fnExactValidCodeSpec)

/-- 'laws.FnExactSameCode', WHERE WHAT IT READS IS OF BULK AT MOST 1048576: true; the input reads as it did. -/
def fnExactSameCodeUptoRow : OpenClaim := { program := "ytiajpmfdaooefaa", sum := "648369e4c623a4214f4288566823db5a58409ab8d76db1ab2623069904ce91ae", func := "loop.example/g01364/laws.FnExactSameCode", spec := "fnExactSameCode", apart := false, narrowed := true }
def FnExactSameCodeUptoSaid : Prop := fnExactSameCodeUptoRow.holds Try.pinned (OpenSpec.upto fnExactSameCodeSpec)

/-- 'laws.FnExactKraftOf', WHERE WHAT IT READS IS OF BULK AT MOST 1048576: true; the input reads as it did. -/
def fnExactKraftOfUptoRow : OpenClaim := { program := "ytiajpmfdaooefaa", sum := "648369e4c623a4214f4288566823db5a58409ab8d76db1ab2623069904ce91ae", func := "loop.example/g01364/laws.FnExactKraftOf", spec := "fnExactKraftOf", apart := false, narrowed := true }
def FnExactKraftOfUptoSaid : Prop := fnExactKraftOfUptoRow.holds Try.pinned (OpenSpec.upto fnExactKraftOfSpec)

/-- 'laws.FnExactTotalLong', WHERE WHAT IT READS IS OF BULK AT MOST 1048576: true; the input reads as it did. -/
def fnExactTotalLongUptoRow : OpenClaim := { program := "ytiajpmfdaooefaa", sum := "648369e4c623a4214f4288566823db5a58409ab8d76db1ab2623069904ce91ae", func := "loop.example/g01364/laws.FnExactTotalLong", spec := "fnExactTotalLong", apart := false, narrowed := true }
def FnExactTotalLongUptoSaid : Prop := fnExactTotalLongUptoRow.holds Try.pinned (OpenSpec.upto fnExactTotalLongSpec)

/-- 'laws.FnExactMeanLong', WHERE WHAT IT READS IS OF BULK AT MOST 1048576: true; the input reads as it did. -/
def fnExactMeanLongUptoRow : OpenClaim := { program := "ytiajpmfdaooefaa", sum := "648369e4c623a4214f4288566823db5a58409ab8d76db1ab2623069904ce91ae", func := "loop.example/g01364/laws.FnExactMeanLong", spec := "fnExactMeanLong", apart := false, narrowed := true }
def FnExactMeanLongUptoSaid : Prop := fnExactMeanLongUptoRow.holds Try.pinned (OpenSpec.upto fnExactMeanLongSpec)

/-- 'laws.FnExactWordsOf', WHERE WHAT IT READS IS OF BULK AT MOST 1048576: true; the input reads as it did. -/
def fnExactWordsOfUptoRow : OpenClaim := { program := "ytiajpmfdaooefaa", sum := "648369e4c623a4214f4288566823db5a58409ab8d76db1ab2623069904ce91ae", func := "loop.example/g01364/laws.FnExactWordsOf", spec := "fnExactWordsOf", unfollowed := true, recurses := true, apart := false, narrowed := true }
def FnExactWordsOfUptoSaid : Prop := fnExactWordsOfUptoRow.holds Try.pinned (OpenSpec.upto fnExactWordsOfSpec)

/-- 'laws.FnExactMergedCode', WHERE WHAT IT READS IS OF BULK AT MOST 1048576: true; the input reads as it did. -/
def fnExactMergedCodeUptoRow : OpenClaim := { program := "ytiajpmfdaooefaa", sum := "648369e4c623a4214f4288566823db5a58409ab8d76db1ab2623069904ce91ae", func := "loop.example/g01364/laws.FnExactMergedCode", spec := "fnExactMergedCode", unfollowed := true, recurses := true, apart := false, narrowed := true }
def FnExactMergedCodeUptoSaid : Prop := fnExactMergedCodeUptoRow.holds Try.pinned (OpenSpec.upto fnExactMergedCodeSpec)

/-- 'laws.FnExactBoundedCode', WHERE WHAT IT READS IS OF BULK AT MOST 1048576: true; the input reads as it did. -/
def fnExactBoundedCodeUptoRow : OpenClaim := { program := "ytiajpmfdaooefaa", sum := "648369e4c623a4214f4288566823db5a58409ab8d76db1ab2623069904ce91ae", func := "loop.example/g01364/laws.FnExactBoundedCode", spec := "fnExactBoundedCode", unfollowed := true, recurses := true, apart := false, narrowed := true }
def FnExactBoundedCodeUptoSaid : Prop := fnExactBoundedCodeUptoRow.holds Try.pinned (OpenSpec.upto fnExactBoundedCodeSpec)

/-- 'laws.FnExactOrderedCode', WHERE WHAT IT READS IS OF BULK AT MOST 1048576: true; the input reads as it did. -/
def fnExactOrderedCodeUptoRow : OpenClaim := { program := "ytiajpmfdaooefaa", sum := "648369e4c623a4214f4288566823db5a58409ab8d76db1ab2623069904ce91ae", func := "loop.example/g01364/laws.FnExactOrderedCode", spec := "fnExactOrderedCode", unfollowed := true, recurses := true, apart := false, narrowed := true }
def FnExactOrderedCodeUptoSaid : Prop := fnExactOrderedCodeUptoRow.holds Try.pinned (OpenSpec.upto fnExactOrderedCodeSpec)

/-- 'laws.FnExactSurpriseCode', WHERE WHAT IT READS IS OF BULK AT MOST 1048576: true; the input reads as it did. -/
def fnExactSurpriseCodeUptoRow : OpenClaim := { program := "ytiajpmfdaooefaa", sum := "648369e4c623a4214f4288566823db5a58409ab8d76db1ab2623069904ce91ae", func := "loop.example/g01364/laws.FnExactSurpriseCode", spec := "fnExactSurpriseCode", inPlace := ["math.Float64frombits", "math.Float64bits", "math.Float32frombits"], apart := false, narrowed := true }
def FnExactSurpriseCodeUptoSaid : Prop := fnExactSurpriseCodeUptoRow.holds Try.pinned (OpenSpec.upto fnExactSurpriseCodeSpec)

/-- 'laws.FnExactEncodeLetters', WHERE WHAT IT READS IS OF BULK AT MOST 1048576: true; the input reads as it did. -/
def fnExactEncodeLettersUptoRow : OpenClaim := { program := "ytiajpmfdaooefaa", sum := "648369e4c623a4214f4288566823db5a58409ab8d76db1ab2623069904ce91ae", func := "loop.example/g01364/laws.FnExactEncodeLetters", spec := "fnExactEncodeLetters", inPlace := ["internal/abi.NoEscape"], unfollowed := true, recurses := true, apart := false, narrowed := true }
def FnExactEncodeLettersUptoSaid : Prop := fnExactEncodeLettersUptoRow.holds Try.pinned (OpenSpec.upto fnExactEncodeLettersSpec)

/-- 'laws.FnExactDecodeLetters', WHERE WHAT IT READS IS OF BULK AT MOST 1048576: true; the input reads as it did. -/
def fnExactDecodeLettersUptoRow : OpenClaim := { program := "ytiajpmfdaooefaa", sum := "648369e4c623a4214f4288566823db5a58409ab8d76db1ab2623069904ce91ae", func := "loop.example/g01364/laws.FnExactDecodeLetters", spec := "fnExactDecodeLetters", unfollowed := true, recurses := true, apart := false, narrowed := true }
def FnExactDecodeLettersUptoSaid : Prop := fnExactDecodeLettersUptoRow.holds Try.pinned (OpenSpec.upto fnExactDecodeLettersSpec)

end Rows
end Go.Proofs.Ytiajpmfdaooefaa
