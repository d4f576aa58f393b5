/-
  No cell of these rows narrows 'for every input' (looked for: loops, veiled, ifaces, maps, wideKeys, modest, calm, conditions, laid).
  DERIVED. THE GIVEN ROWS OF THIS SEAT. 12 by the template 'for every input the law returns true; each argument reads behind the call as it read before'; 0 by the template 'total and deterministic' (their statements: YtaalddkpldbdkaaTotals.lean).
  GIVEN WITH THE SEED: the statements are not yours to turn. If you find one false, say at which input.
  Laid BY PROGRAM, IN A SANDBOX (cutbox-rows.mjs): the forced cells as the released guide's own fill.sh prints them over the translation 1a82dee8bfd48b30… (all of the seat's roots in one cut). By AI agents, Wed Nov 11 2026. No macro, syntax, notation, axiom, sorry.
-/
import Derived.Test.YtaalddkpldbdkaaChecked
import GoSem.Claim
import GoSem.ClaimJoined
import GoSem.ClaimMapViews
import Derived.JoinedTies
import Derived.KernelRfl
namespace Go.Proofs.Ytaalddkpldbdkaa
/- THE CELL 'sum', in the pinned program and in every row, IS THE sha256 OF THE DUMP (.gsa) THAT YtaalddkpldbdkaaProg.lean LOADS. Nothing in Lean hashes anything: it is a label: what it is worth is what the hold of that sum in a sandbox is worth. -/
noncomputable def Try.pinned : Pinned := { name := "ytaalddkpldbdkaa", sum := "1a82dee8bfd48b30b17cc901448afcf4ddc460b260faba047f1eb0f5813217e0", checked := Try.checked }
namespace Rows
def none {H : Type} : Left H := { results := [], args := [] }

/-- 'laws.FnExactRunsOf': WHATEVER THE INPUT: true; the input reads as it did. -/
def fnExactRunsOfSpec : ChangeSpec := { name := "fnExactRunsOf", fn := fun _ => fun
  | [d] => { results := [.lit (.bool true)], args := [d] }
  | _ => none }
def fnExactRunsOfRow : OpenClaim := { program := "ytaalddkpldbdkaa", sum := "1a82dee8bfd48b30b17cc901448afcf4ddc460b260faba047f1eb0f5813217e0", func := "loop.example/g01364/laws.FnExactRunsOf", spec := "fnExactRunsOf", apart := false }
def FnExactRunsOfSaid : Prop := fnExactRunsOfRow.holds Try.pinned (OpenSpec.ofChange fnExactRunsOfSpec)

/-- ITS FALSE NEIGHBOUR: 'it returns false'. Refute it at one input. -/
def fnExactRunsOfWrong : ChangeSpec := { name := "fnExactRunsOf", fn := fun _ => fun
  | [d] => { results := [.lit (.bool false)], args := [d] }
  | _ => none }
def FnExactRunsOfWrongFalsely : Prop := fnExactRunsOfRow.holds Try.pinned (OpenSpec.ofChange fnExactRunsOfWrong)

/-- 'laws.FnExactFrontOf': WHATEVER THE INPUT: true; the input reads as it did. -/
def fnExactFrontOfSpec : ChangeSpec := { name := "fnExactFrontOf", fn := fun _ => fun
  | [d1, d2] => { results := [.lit (.bool true)], args := [d1, d2] }
  | _ => none }
def fnExactFrontOfRow : OpenClaim := { program := "ytaalddkpldbdkaa", sum := "1a82dee8bfd48b30b17cc901448afcf4ddc460b260faba047f1eb0f5813217e0", func := "loop.example/g01364/laws.FnExactFrontOf", spec := "fnExactFrontOf", apart := false }
def FnExactFrontOfSaid : Prop := fnExactFrontOfRow.holds Try.pinned (OpenSpec.ofChange fnExactFrontOfSpec)

/-- ITS FALSE NEIGHBOUR: 'it returns false'. Refute it at one input. -/
def fnExactFrontOfWrong : ChangeSpec := { name := "fnExactFrontOf", fn := fun _ => fun
  | [d1, d2] => { results := [.lit (.bool false)], args := [d1, d2] }
  | _ => none }
def FnExactFrontOfWrongFalsely : Prop := fnExactFrontOfRow.holds Try.pinned (OpenSpec.ofChange fnExactFrontOfWrong)

/-- 'laws.FnExactBackOfFront': WHATEVER THE INPUT: true; the input reads as it did. -/
def fnExactBackOfFrontSpec : ChangeSpec := { name := "fnExactBackOfFront", fn := fun _ => fun
  | [d1, d2] => { results := [.lit (.bool true)], args := [d1, d2] }
  | _ => none }
def fnExactBackOfFrontRow : OpenClaim := { program := "ytaalddkpldbdkaa", sum := "1a82dee8bfd48b30b17cc901448afcf4ddc460b260faba047f1eb0f5813217e0", func := "loop.example/g01364/laws.FnExactBackOfFront", spec := "fnExactBackOfFront", apart := false }
def FnExactBackOfFrontSaid : Prop := fnExactBackOfFrontRow.holds Try.pinned (OpenSpec.ofChange fnExactBackOfFrontSpec)

/-- ITS FALSE NEIGHBOUR: 'it returns false'. Refute it at one input. -/
def fnExactBackOfFrontWrong : ChangeSpec := { name := "fnExactBackOfFront", fn := fun _ => fun
  | [d1, d2] => { results := [.lit (.bool false)], args := [d1, d2] }
  | _ => none }
def FnExactBackOfFrontWrongFalsely : Prop := fnExactBackOfFrontRow.holds Try.pinned (OpenSpec.ofChange fnExactBackOfFrontWrong)

/-- 'laws.FnExactIsPrefixFree': WHATEVER THE INPUT: true; the input reads as it did. -/
def fnExactIsPrefixFreeSpec : ChangeSpec := { name := "fnExactIsPrefixFree", fn := fun _ => fun
  | [d] => { results := [.lit (.bool true)], args := [d] }
  | _ => none }
def fnExactIsPrefixFreeRow : OpenClaim := { program := "ytaalddkpldbdkaa", sum := "1a82dee8bfd48b30b17cc901448afcf4ddc460b260faba047f1eb0f5813217e0", func := "loop.example/g01364/laws.FnExactIsPrefixFree", spec := "fnExactIsPrefixFree", apart := false }
def FnExactIsPrefixFreeSaid : Prop := fnExactIsPrefixFreeRow.holds Try.pinned (OpenSpec.ofChange fnExactIsPrefixFreeSpec)

/-- ITS FALSE NEIGHBOUR: 'it returns false'. Refute it at one input. -/
def fnExactIsPrefixFreeWrong : ChangeSpec := { name := "fnExactIsPrefixFree", fn := fun _ => fun
  | [d] => { results := [.lit (.bool false)], args := [d] }
  | _ => none }
def FnExactIsPrefixFreeWrongFalsely : Prop := fnExactIsPrefixFreeRow.holds Try.pinned (OpenSpec.ofChange fnExactIsPrefixFreeWrong)

/-- 'laws.FnExactUnaryOf': WHATEVER THE INPUT: true; the input reads as it did. -/
def fnExactUnaryOfSpec : ChangeSpec := { name := "fnExactUnaryOf", fn := fun _ => fun
  | [d] => { results := [.lit (.bool true)], args := [d] }
  | _ => none }
def fnExactUnaryOfRow : OpenClaim := { program := "ytaalddkpldbdkaa", sum := "1a82dee8bfd48b30b17cc901448afcf4ddc460b260faba047f1eb0f5813217e0", func := "loop.example/g01364/laws.FnExactUnaryOf", spec := "fnExactUnaryOf", inPlace := ["internal/abi.NoEscape", "internal/bytealg.MakeNoZero"], apart := false }
def FnExactUnaryOfSaid : Prop := fnExactUnaryOfRow.holds Try.pinned (OpenSpec.ofChange fnExactUnaryOfSpec)

/-- ITS FALSE NEIGHBOUR: 'it returns false'. Refute it at one input. -/
def fnExactUnaryOfWrong : ChangeSpec := { name := "fnExactUnaryOf", fn := fun _ => fun
  | [d] => { results := [.lit (.bool false)], args := [d] }
  | _ => none }
def FnExactUnaryOfWrongFalsely : Prop := fnExactUnaryOfRow.holds Try.pinned (OpenSpec.ofChange fnExactUnaryOfWrong)

/-- 'laws.FnExactBitsOfRuns': WHATEVER THE INPUT: true; the input reads as it did. -/
def fnExactBitsOfRunsSpec : ChangeSpec := { name := "fnExactBitsOfRuns", fn := fun _ => fun
  | [d1, d2] => { results := [.lit (.bool true)], args := [d1, d2] }
  | _ => none }
def fnExactBitsOfRunsRow : OpenClaim := { program := "ytaalddkpldbdkaa", sum := "1a82dee8bfd48b30b17cc901448afcf4ddc460b260faba047f1eb0f5813217e0", func := "loop.example/g01364/laws.FnExactBitsOfRuns", spec := "fnExactBitsOfRuns", inPlace := ["internal/abi.NoEscape", "internal/bytealg.MakeNoZero"], apart := false }
def FnExactBitsOfRunsSaid : Prop := fnExactBitsOfRunsRow.holds Try.pinned (OpenSpec.ofChange fnExactBitsOfRunsSpec)

/-- ITS FALSE NEIGHBOUR: 'it returns false'. Refute it at one input. -/
def fnExactBitsOfRunsWrong : ChangeSpec := { name := "fnExactBitsOfRuns", fn := fun _ => fun
  | [d1, d2] => { results := [.lit (.bool false)], args := [d1, d2] }
  | _ => none }
def FnExactBitsOfRunsWrongFalsely : Prop := fnExactBitsOfRunsRow.holds Try.pinned (OpenSpec.ofChange fnExactBitsOfRunsWrong)

/-- 'laws.FnExactRiceOf': WHATEVER THE INPUT: true; the input reads as it did. -/
def fnExactRiceOfSpec : ChangeSpec := { name := "fnExactRiceOf", fn := fun _ => fun
  | [d1, d2] => { results := [.lit (.bool true)], args := [d1, d2] }
  | _ => none }
def fnExactRiceOfRow : OpenClaim := { program := "ytaalddkpldbdkaa", sum := "1a82dee8bfd48b30b17cc901448afcf4ddc460b260faba047f1eb0f5813217e0", func := "loop.example/g01364/laws.FnExactRiceOf", spec := "fnExactRiceOf", inPlace := ["internal/abi.NoEscape", "internal/bytealg.MakeNoZero"], apart := false }
def FnExactRiceOfSaid : Prop := fnExactRiceOfRow.holds Try.pinned (OpenSpec.ofChange fnExactRiceOfSpec)

/-- ITS FALSE NEIGHBOUR: 'it returns false'. Refute it at one input. -/
def fnExactRiceOfWrong : ChangeSpec := { name := "fnExactRiceOf", fn := fun _ => fun
  | [d1, d2] => { results := [.lit (.bool false)], args := [d1, d2] }
  | _ => none }
def FnExactRiceOfWrongFalsely : Prop := fnExactRiceOfRow.holds Try.pinned (OpenSpec.ofChange fnExactRiceOfWrong)

/-- 'laws.FnExactFibonacciOf': WHATEVER THE INPUT: true; the input reads as it did. -/
def fnExactFibonacciOfSpec : ChangeSpec := { name := "fnExactFibonacciOf", fn := fun _ => fun
  | [d] => { results := [.lit (.bool true)], args := [d] }
  | _ => none }
def fnExactFibonacciOfRow : OpenClaim := { program := "ytaalddkpldbdkaa", sum := "1a82dee8bfd48b30b17cc901448afcf4ddc460b260faba047f1eb0f5813217e0", func := "loop.example/g01364/laws.FnExactFibonacciOf", spec := "fnExactFibonacciOf", inPlace := ["internal/abi.NoEscape", "internal/bytealg.MakeNoZero"], unfollowed := true, recurses := true, apart := false }
def FnExactFibonacciOfSaid : Prop := fnExactFibonacciOfRow.holds Try.pinned (OpenSpec.ofChange fnExactFibonacciOfSpec)

/-- ITS FALSE NEIGHBOUR: 'it returns false'. Refute it at one input. -/
def fnExactFibonacciOfWrong : ChangeSpec := { name := "fnExactFibonacciOf", fn := fun _ => fun
  | [d] => { results := [.lit (.bool false)], args := [d] }
  | _ => none }
def FnExactFibonacciOfWrongFalsely : Prop := fnExactFibonacciOfRow.holds Try.pinned (OpenSpec.ofChange fnExactFibonacciOfWrong)

/-- 'laws.FnExactTurnsOf': WHATEVER THE INPUT: true; the input reads as it did. -/
def fnExactTurnsOfSpec : ChangeSpec := { name := "fnExactTurnsOf", fn := fun _ => fun
  | [d] => { results := [.lit (.bool true)], args := [d] }
  | _ => none }
def fnExactTurnsOfRow : OpenClaim := { program := "ytaalddkpldbdkaa", sum := "1a82dee8bfd48b30b17cc901448afcf4ddc460b260faba047f1eb0f5813217e0", func := "loop.example/g01364/laws.FnExactTurnsOf", spec := "fnExactTurnsOf", inPlace := ["internal/bytealg.abigen_runtime_cmpstring"], unfollowed := true, recurses := true, apart := false }
def FnExactTurnsOfSaid : Prop := fnExactTurnsOfRow.holds Try.pinned (OpenSpec.ofChange fnExactTurnsOfSpec)

/-- ITS FALSE NEIGHBOUR: 'it returns false'. Refute it at one input. -/
def fnExactTurnsOfWrong : ChangeSpec := { name := "fnExactTurnsOf", fn := fun _ => fun
  | [d] => { results := [.lit (.bool false)], args := [d] }
  | _ => none }
def FnExactTurnsOfWrongFalsely : Prop := fnExactTurnsOfRow.holds Try.pinned (OpenSpec.ofChange fnExactTurnsOfWrong)

/-- 'laws.FnExactBackOfTurns': WHATEVER THE INPUT: true; the input reads as it did. -/
def fnExactBackOfTurnsSpec : ChangeSpec := { name := "fnExactBackOfTurns", fn := fun _ => fun
  | [d1, d2] => { results := [.lit (.bool true)], args := [d1, d2] }
  | _ => none }
def fnExactBackOfTurnsRow : OpenClaim := { program := "ytaalddkpldbdkaa", sum := "1a82dee8bfd48b30b17cc901448afcf4ddc460b260faba047f1eb0f5813217e0", func := "loop.example/g01364/laws.FnExactBackOfTurns", spec := "fnExactBackOfTurns", inPlace := ["internal/bytealg.abigen_runtime_cmpstring"], unfollowed := true, recurses := true, apart := false }
def FnExactBackOfTurnsSaid : Prop := fnExactBackOfTurnsRow.holds Try.pinned (OpenSpec.ofChange fnExactBackOfTurnsSpec)

/-- ITS FALSE NEIGHBOUR: 'it returns false'. Refute it at one input. -/
def fnExactBackOfTurnsWrong : ChangeSpec := { name := "fnExactBackOfTurns", fn := fun _ => fun
  | [d1, d2] => { results := [.lit (.bool false)], args := [d1, d2] }
  | _ => none }
def FnExactBackOfTurnsWrongFalsely : Prop := fnExactBackOfTurnsRow.holds Try.pinned (OpenSpec.ofChange fnExactBackOfTurnsWrong)

/-- 'laws.FnExactMeanLong': WHATEVER THE INPUT: true; the input reads as it did. -/
def fnExactMeanLongSpec : ChangeSpec := { name := "fnExactMeanLong", fn := fun _ => fun
  | [d1, d2] => { results := [.lit (.bool true)], args := [d1, d2] }
  | _ => none }
def fnExactMeanLongRow : OpenClaim := { program := "ytaalddkpldbdkaa", sum := "1a82dee8bfd48b30b17cc901448afcf4ddc460b260faba047f1eb0f5813217e0", func := "loop.example/g01364/laws.FnExactMeanLong", spec := "fnExactMeanLong", apart := false }
def FnExactMeanLongSaid : Prop := fnExactMeanLongRow.holds Try.pinned (OpenSpec.ofChange fnExactMeanLongSpec)

/-- ITS FALSE NEIGHBOUR: 'it returns false'. Refute it at one input. -/
def fnExactMeanLongWrong : ChangeSpec := { name := "fnExactMeanLong", fn := fun _ => fun
  | [d1, d2] => { results := [.lit (.bool false)], args := [d1, d2] }
  | _ => none }
def FnExactMeanLongWrongFalsely : Prop := fnExactMeanLongRow.holds Try.pinned (OpenSpec.ofChange fnExactMeanLongWrong)

/-- 'laws.FnExactValidCode': WHATEVER THE INPUT: true; the input reads as it did. -/
def fnExactValidCodeSpec : ChangeSpec := { name := "fnExactValidCode", fn := fun _ => fun
  | [d] => { results := [.lit (.bool true)], args := [d] }
  | _ => none }
def fnExactValidCodeRow : OpenClaim := { program := "ytaalddkpldbdkaa", sum := "1a82dee8bfd48b30b17cc901448afcf4ddc460b260faba047f1eb0f5813217e0", func := "loop.example/g01364/laws.FnExactValidCode", spec := "fnExactValidCode", apart := false }
def FnExactValidCodeSaid : Prop := fnExactValidCodeRow.holds Try.pinned (OpenSpec.ofChange fnExactValidCodeSpec)

/-- ITS FALSE NEIGHBOUR: 'it returns false'. Refute it at one input. -/
def fnExactValidCodeWrong : ChangeSpec := { name := "fnExactValidCode", fn := fun _ => fun
  | [d] => { results := [.lit (.bool false)], args := [d] }
  | _ => none }
def FnExactValidCodeWrongFalsely : Prop := fnExactValidCodeRow.holds Try.pinned (OpenSpec.ofChange fnExactValidCodeWrong)

/- THE SECOND FORM. 'bulk': how many values and letters a reading holds, each counted each time it is reached (what is shared counts as often as it is met; a slice's spare places count too). A statement '..UptoSaid' is the law's where the arguments, and the package variables that the reading takes, are together of bulk at most 1048576: NARROWER than '..Said'. Prove '..Said' where nothing that the law and all that it calls make is longer than what came in: it says more and counts as full. Else prove '..UptoSaid'. A law counts once. -/
mutual
def uptoBulk {H : Type} : DataW H → Nat
  | .lit (.string bytes) => bytes.length + 1
  | .lit _ => 1
  | .nil => 1
  | .ptr d => uptoBulk d + 1
  | .slice elems spare => uptoBulkAll elems + uptoBulkAll spare + 1
  | .agg parts => uptoBulkAll parts + 1
  | .iface _ d => uptoBulk d + 1
  | .map entries => uptoBulkEntries entries + 1
  | .held _ => 1
def uptoBulkAll {H : Type} : List (DataW H) → Nat
  | [] => 0
  | d :: r => uptoBulk d + uptoBulkAll r
def uptoBulkEntries {H : Type} : List (Lit × DataW H) → Nat
  | [] => 0
  | x :: r => uptoBulkEntry x + uptoBulkEntries r
def uptoBulkEntry {H : Type} : Lit × DataW H → Nat
  | (.string bytes, d) => bytes.length + uptoBulk d + 1
  | (_, d) => uptoBulk d + 1
 end
def uptoSmall : (H : Type) → List (DataW H) → Bool := fun _ ds => decide (uptoBulkAll ds ≤ 1048576)
def OpenSpec.upto (s : _root_.Go.ChangeSpec) : _root_.Go.OpenSpec := { _root_.Go.OpenSpec.ofChange s with cond := some uptoSmall }

/-- 'laws.FnExactRunsOf', WHERE WHAT IT READS IS OF BULK AT MOST 1048576: true; the input reads as it did. -/
def fnExactRunsOfUptoRow : OpenClaim := { program := "ytaalddkpldbdkaa", sum := "1a82dee8bfd48b30b17cc901448afcf4ddc460b260faba047f1eb0f5813217e0", func := "loop.example/g01364/laws.FnExactRunsOf", spec := "fnExactRunsOf", apart := false, narrowed := true }
def FnExactRunsOfUptoSaid : Prop := fnExactRunsOfUptoRow.holds Try.pinned (OpenSpec.upto fnExactRunsOfSpec)

/-- 'laws.FnExactFrontOf', WHERE WHAT IT READS IS OF BULK AT MOST 1048576: true; the input reads as it did. -/
def fnExactFrontOfUptoRow : OpenClaim := { program := "ytaalddkpldbdkaa", sum := "1a82dee8bfd48b30b17cc901448afcf4ddc460b260faba047f1eb0f5813217e0", func := "loop.example/g01364/laws.FnExactFrontOf", spec := "fnExactFrontOf", apart := false, narrowed := true }
def FnExactFrontOfUptoSaid : Prop := fnExactFrontOfUptoRow.holds Try.pinned (OpenSpec.upto fnExactFrontOfSpec)

/-- 'laws.FnExactBackOfFront', WHERE WHAT IT READS IS OF BULK AT MOST 1048576: true; the input reads as it did. -/
def fnExactBackOfFrontUptoRow : OpenClaim := { program := "ytaalddkpldbdkaa", sum := "1a82dee8bfd48b30b17cc901448afcf4ddc460b260faba047f1eb0f5813217e0", func := "loop.example/g01364/laws.FnExactBackOfFront", spec := "fnExactBackOfFront", apart := false, narrowed := true }
def FnExactBackOfFrontUptoSaid : Prop := fnExactBackOfFrontUptoRow.holds Try.pinned (OpenSpec.upto fnExactBackOfFrontSpec)

/-- 'laws.FnExactIsPrefixFree', WHERE WHAT IT READS IS OF BULK AT MOST 1048576: true; the input reads as it did. -/
def fnExactIsPrefixFreeUptoRow : OpenClaim := { program := "ytaalddkpldbdkaa", sum := "1a82dee8bfd48b30b17cc901448afcf4ddc460b260faba047f1eb0f5813217e0", func := "loop.example/g01364/laws.FnExactIsPrefixFree", spec := "fnExactIsPrefixFree", apart := false, narrowed := true }
def FnExactIsPrefixFreeUptoSaid : Prop := fnExactIsPrefixFreeUptoRow.holds Try.pinned (OpenSpec.upto fnExactIsPrefixFreeSpec)

/-- 'laws.FnExactUnaryOf', WHERE WHAT IT READS IS OF BULK AT MOST 1048576: true; the input reads as it did. -/
def fnExactUnaryOfUptoRow : OpenClaim := { program := "ytaalddkpldbdkaa", sum := "1a82dee8bfd48b30b17cc901448afcf4ddc460b260faba047f1eb0f5813217e0", func := "loop.example/g01364/laws.FnExactUnaryOf", spec := "fnExactUnaryOf", inPlace := ["internal/abi.NoEscape", "internal/bytealg.MakeNoZero"], apart := false, narrowed := true }
def FnExactUnaryOfUptoSaid : Prop := fnExactUnaryOfUptoRow.holds Try.pinned (OpenSpec.upto fnExactUnaryOfSpec)

/-- 'laws.FnExactBitsOfRuns', WHERE WHAT IT READS IS OF BULK AT MOST 1048576: true; the input reads as it did. -/
def fnExactBitsOfRunsUptoRow : OpenClaim := { program := "ytaalddkpldbdkaa", sum := "1a82dee8bfd48b30b17cc901448afcf4ddc460b260faba047f1eb0f5813217e0", func := "loop.example/g01364/laws.FnExactBitsOfRuns", spec := "fnExactBitsOfRuns", inPlace := ["internal/abi.NoEscape", "internal/bytealg.MakeNoZero"], apart := false, narrowed := true }
def FnExactBitsOfRunsUptoSaid : Prop := fnExactBitsOfRunsUptoRow.holds Try.pinned (OpenSpec.upto fnExactBitsOfRunsSpec)

/-- 'laws.FnExactRiceOf', WHERE WHAT IT READS IS OF BULK AT MOST 1048576: true; the input reads as it did. -/
def fnExactRiceOfUptoRow : OpenClaim := { program := "ytaalddkpldbdkaa", sum := "1a82dee8bfd48b30b17cc901448afcf4ddc460b260faba047f1eb0f5813217e0", func := "loop.example/g01364/laws.FnExactRiceOf", spec := "fnExactRiceOf", inPlace := ["internal/abi.NoEscape", "internal/bytealg.MakeNoZero"], apart := false, narrowed := true }
def FnExactRiceOfUptoSaid : Prop := fnExactRiceOfUptoRow.holds Try.pinned (OpenSpec.upto fnExactRiceOfSpec)

/-- 'laws.FnExactFibonacciOf', WHERE WHAT IT READS IS OF BULK AT MOST 1048576: true; the input reads as it did. -/
def fnExactFibonacciOfUptoRow : OpenClaim := { program := "ytaalddkpldbdkaa", sum := "1a82dee8bfd48b30b17cc901448afcf4ddc460b260faba047f1eb0f5813217e0", func := "loop.example/g01364/laws.FnExactFibonacciOf", spec := "fnExactFibonacciOf", inPlace := ["internal/abi.NoEscape", "internal/bytealg.MakeNoZero"], unfollowed := true, recurses := true, apart := false, narrowed := true }
def FnExactFibonacciOfUptoSaid : Prop := fnExactFibonacciOfUptoRow.holds Try.pinned (OpenSpec.upto fnExactFibonacciOfSpec)

/-- 'laws.FnExactTurnsOf', WHERE WHAT IT READS IS OF BULK AT MOST 1048576: true; the input reads as it did. -/
def fnExactTurnsOfUptoRow : OpenClaim := { program := "ytaalddkpldbdkaa", sum := "1a82dee8bfd48b30b17cc901448afcf4ddc460b260faba047f1eb0f5813217e0", func := "loop.example/g01364/laws.FnExactTurnsOf", spec := "fnExactTurnsOf", inPlace := ["internal/bytealg.abigen_runtime_cmpstring"], unfollowed := true, recurses := true, apart := false, narrowed := true }
def FnExactTurnsOfUptoSaid : Prop := fnExactTurnsOfUptoRow.holds Try.pinned (OpenSpec.upto fnExactTurnsOfSpec)

/-- 'laws.FnExactBackOfTurns', WHERE WHAT IT READS IS OF BULK AT MOST 1048576: true; the input reads as it did. -/
def fnExactBackOfTurnsUptoRow : OpenClaim := { program := "ytaalddkpldbdkaa", sum := "1a82dee8bfd48b30b17cc901448afcf4ddc460b260faba047f1eb0f5813217e0", func := "loop.example/g01364/laws.FnExactBackOfTurns", spec := "fnExactBackOfTurns", inPlace := ["internal/bytealg.abigen_runtime_cmpstring"], unfollowed := true, recurses := true, apart := false, narrowed := true }
def FnExactBackOfTurnsUptoSaid : Prop := fnExactBackOfTurnsUptoRow.holds Try.pinned (OpenSpec.upto fnExactBackOfTurnsSpec)

/-- 'laws.FnExactMeanLong', WHERE WHAT IT READS IS OF BULK AT MOST 1048576: true; the input reads as it did. -/
def fnExactMeanLongUptoRow : OpenClaim := { program := "ytaalddkpldbdkaa", sum := "1a82dee8bfd48b30b17cc901448afcf4ddc460b260faba047f1eb0f5813217e0", func := "loop.example/g01364/laws.FnExactMeanLong", spec := "fnExactMeanLong", apart := false, narrowed := true }
def FnExactMeanLongUptoSaid : Prop := fnExactMeanLongUptoRow.holds Try.pinned (OpenSpec.upto fnExactMeanLongSpec)

/-- 'laws.FnExactValidCode', WHERE WHAT IT READS IS OF BULK AT MOST 1048576: true; the input reads as it did. -/
def fnExactValidCodeUptoRow : OpenClaim := { program := "ytaalddkpldbdkaa", sum := "1a82dee8bfd48b30b17cc901448afcf4ddc460b260faba047f1eb0f5813217e0", func := "loop.example/g01364/laws.FnExactValidCode", spec := "fnExactValidCode", apart := false, narrowed := true }
def FnExactValidCodeUptoSaid : Prop := fnExactValidCodeUptoRow.holds Try.pinned (OpenSpec.upto fnExactValidCodeSpec)

end Rows
end Go.Proofs.Ytaalddkpldbdkaa
