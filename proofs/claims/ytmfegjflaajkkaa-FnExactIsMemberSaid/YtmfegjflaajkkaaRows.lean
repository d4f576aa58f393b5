/-
  No cell of these rows narrows 'for every input' (looked for: loops, veiled, ifaces, maps, wideKeys, modest, calm, conditions, laid).
  DERIVED. THE GIVEN ROWS OF THIS SEAT. 12 by the template 'for every input the law returns true; each argument reads behind the call as it read before'; 0 by the template 'total and deterministic' (their statements: YtmfegjflaajkkaaTotals.lean).
  GIVEN WITH THE SEED: the statements are not yours to turn. If you find one false, say at which input.
  Laid BY PROGRAM, IN A SANDBOX (cutbox-rows.mjs): the forced cells as the released guide's own fill.sh prints them over the translation c416244f0036a419… (all of the seat's roots in one cut). By AI agents, Wed Nov 11 2026. No macro, syntax, notation, axiom, sorry.
-/
import Derived.Test.YtmfegjflaajkkaaChecked
import GoSem.Claim
import GoSem.ClaimJoined
import GoSem.ClaimMapViews
import Derived.JoinedTies
import Derived.KernelRfl
namespace Go.Proofs.Ytmfegjflaajkkaa
/- THE CELL 'sum', in the pinned program and in every row, IS THE sha256 OF THE DUMP (.gsa) THAT YtmfegjflaajkkaaProg.lean LOADS. Nothing in Lean hashes anything: it is a label: what it is worth is what the hold of that sum in a sandbox is worth. -/
noncomputable def Try.pinned : Pinned := { name := "ytmfegjflaajkkaa", sum := "c416244f0036a4199a7ed360a2d594057c50ec97d91065122ac53e947279b171", checked := Try.checked }
namespace Rows
def none {H : Type} : Left H := { results := [], args := [] }

/-- 'laws.FnExactIsSoft': WHATEVER THE INPUT: true; the input reads as it did. -/
def fnExactIsSoftSpec : ChangeSpec := { name := "fnExactIsSoft", fn := fun _ => fun
  | [d] => { results := [.lit (.bool true)], args := [d] }
  | _ => none }
def fnExactIsSoftRow : OpenClaim := { program := "ytmfegjflaajkkaa", sum := "c416244f0036a4199a7ed360a2d594057c50ec97d91065122ac53e947279b171", func := "loop.example/g01364/laws.FnExactIsSoft", spec := "fnExactIsSoft", inPlace := ["math.Float64bits", "math.Float64frombits"], apart := false }
def FnExactIsSoftSaid : Prop := fnExactIsSoftRow.holds Try.pinned (OpenSpec.ofChange fnExactIsSoftSpec)

/-- ITS FALSE NEIGHBOUR: 'it returns false'. Refute it at one input. -/
def fnExactIsSoftWrong : ChangeSpec := { name := "fnExactIsSoft", fn := fun _ => fun
  | [d] => { results := [.lit (.bool false)], args := [d] }
  | _ => none }
def FnExactIsSoftWrongFalsely : Prop := fnExactIsSoftRow.holds Try.pinned (OpenSpec.ofChange fnExactIsSoftWrong)

/-- 'laws.FnExactValidCoder': WHATEVER THE INPUT: true; the input reads as it did. -/
def fnExactValidCoderSpec : ChangeSpec := { name := "fnExactValidCoder", fn := fun _ => fun
  | [d] => { results := [.lit (.bool true)], args := [d] }
  | _ => none }
def fnExactValidCoderRow : OpenClaim := { program := "ytmfegjflaajkkaa", sum := "c416244f0036a4199a7ed360a2d594057c50ec97d91065122ac53e947279b171", func := "loop.example/g01364/laws.FnExactValidCoder", spec := "fnExactValidCoder", apart := false }
def FnExactValidCoderSaid : Prop := fnExactValidCoderRow.holds Try.pinned (OpenSpec.ofChange fnExactValidCoderSpec)

/-- ITS FALSE NEIGHBOUR: 'it returns false'. Refute it at one input. -/
def fnExactValidCoderWrong : ChangeSpec := { name := "fnExactValidCoder", fn := fun _ => fun
  | [d] => { results := [.lit (.bool false)], args := [d] }
  | _ => none }
def FnExactValidCoderWrongFalsely : Prop := fnExactValidCoderRow.holds Try.pinned (OpenSpec.ofChange fnExactValidCoderWrong)

/-- 'laws.FnExactSameCoder': WHATEVER THE INPUT: true; the input reads as it did. -/
def fnExactSameCoderSpec : ChangeSpec := { name := "fnExactSameCoder", fn := fun _ => fun
  | [d1, d2] => { results := [.lit (.bool true)], args := [d1, d2] }
  | _ => none }
def fnExactSameCoderRow : OpenClaim := { program := "ytmfegjflaajkkaa", sum := "c416244f0036a4199a7ed360a2d594057c50ec97d91065122ac53e947279b171", func := "loop.example/g01364/laws.FnExactSameCoder", spec := "fnExactSameCoder", apart := false }
def FnExactSameCoderSaid : Prop := fnExactSameCoderRow.holds Try.pinned (OpenSpec.ofChange fnExactSameCoderSpec)

/-- ITS FALSE NEIGHBOUR: 'it returns false'. Refute it at one input. -/
def fnExactSameCoderWrong : ChangeSpec := { name := "fnExactSameCoder", fn := fun _ => fun
  | [d1, d2] => { results := [.lit (.bool false)], args := [d1, d2] }
  | _ => none }
def FnExactSameCoderWrongFalsely : Prop := fnExactSameCoderRow.holds Try.pinned (OpenSpec.ofChange fnExactSameCoderWrong)

/-- 'laws.FnExactSoftOf': WHATEVER THE INPUT: true; the input reads as it did. -/
def fnExactSoftOfSpec : ChangeSpec := { name := "fnExactSoftOf", fn := fun _ => fun
  | [d1, d2] => { results := [.lit (.bool true)], args := [d1, d2] }
  | _ => none }
def fnExactSoftOfRow : OpenClaim := { program := "ytmfegjflaajkkaa", sum := "c416244f0036a4199a7ed360a2d594057c50ec97d91065122ac53e947279b171", func := "loop.example/g01364/laws.FnExactSoftOf", spec := "fnExactSoftOf", inPlace := ["math.Float64bits", "math.Float64frombits"], apart := false }
def FnExactSoftOfSaid : Prop := fnExactSoftOfRow.holds Try.pinned (OpenSpec.ofChange fnExactSoftOfSpec)

/-- ITS FALSE NEIGHBOUR: 'it returns false'. Refute it at one input. -/
def fnExactSoftOfWrong : ChangeSpec := { name := "fnExactSoftOf", fn := fun _ => fun
  | [d1, d2] => { results := [.lit (.bool false)], args := [d1, d2] }
  | _ => none }
def FnExactSoftOfWrongFalsely : Prop := fnExactSoftOfRow.holds Try.pinned (OpenSpec.ofChange fnExactSoftOfWrong)

/-- 'laws.FnExactHardOf': WHATEVER THE INPUT: true; the input reads as it did. -/
def fnExactHardOfSpec : ChangeSpec := { name := "fnExactHardOf", fn := fun _ => fun
  | [d] => { results := [.lit (.bool true)], args := [d] }
  | _ => none }
def fnExactHardOfRow : OpenClaim := { program := "ytmfegjflaajkkaa", sum := "c416244f0036a4199a7ed360a2d594057c50ec97d91065122ac53e947279b171", func := "loop.example/g01364/laws.FnExactHardOf", spec := "fnExactHardOf", inPlace := ["math.Float64bits", "math.Float64frombits"], apart := false }
def FnExactHardOfSaid : Prop := fnExactHardOfRow.holds Try.pinned (OpenSpec.ofChange fnExactHardOfSpec)

/-- ITS FALSE NEIGHBOUR: 'it returns false'. Refute it at one input. -/
def fnExactHardOfWrong : ChangeSpec := { name := "fnExactHardOf", fn := fun _ => fun
  | [d] => { results := [.lit (.bool false)], args := [d] }
  | _ => none }
def FnExactHardOfWrongFalsely : Prop := fnExactHardOfRow.holds Try.pinned (OpenSpec.ofChange fnExactHardOfWrong)

/-- 'laws.FnExactSendBits': WHATEVER THE INPUT: true; the input reads as it did. -/
def fnExactSendBitsSpec : ChangeSpec := { name := "fnExactSendBits", fn := fun _ => fun
  | [d1, d2] => { results := [.lit (.bool true)], args := [d1, d2] }
  | _ => none }
def fnExactSendBitsRow : OpenClaim := { program := "ytmfegjflaajkkaa", sum := "c416244f0036a4199a7ed360a2d594057c50ec97d91065122ac53e947279b171", func := "loop.example/g01364/laws.FnExactSendBits", spec := "fnExactSendBits", apart := false }
def FnExactSendBitsSaid : Prop := fnExactSendBitsRow.holds Try.pinned (OpenSpec.ofChange fnExactSendBitsSpec)

/-- ITS FALSE NEIGHBOUR: 'it returns false'. Refute it at one input. -/
def fnExactSendBitsWrong : ChangeSpec := { name := "fnExactSendBits", fn := fun _ => fun
  | [d1, d2] => { results := [.lit (.bool false)], args := [d1, d2] }
  | _ => none }
def FnExactSendBitsWrongFalsely : Prop := fnExactSendBitsRow.holds Try.pinned (OpenSpec.ofChange fnExactSendBitsWrong)

/-- 'laws.FnExactValidGraph': WHATEVER THE INPUT: true; the input reads as it did. -/
def fnExactValidGraphSpec : ChangeSpec := { name := "fnExactValidGraph", fn := fun _ => fun
  | [d] => { results := [.lit (.bool true)], args := [d] }
  | _ => none }
def fnExactValidGraphRow : OpenClaim := { program := "ytmfegjflaajkkaa", sum := "c416244f0036a4199a7ed360a2d594057c50ec97d91065122ac53e947279b171", func := "loop.example/g01364/laws.FnExactValidGraph", spec := "fnExactValidGraph", apart := false }
def FnExactValidGraphSaid : Prop := fnExactValidGraphRow.holds Try.pinned (OpenSpec.ofChange fnExactValidGraphSpec)

/-- ITS FALSE NEIGHBOUR: 'it returns false'. Refute it at one input. -/
def fnExactValidGraphWrong : ChangeSpec := { name := "fnExactValidGraph", fn := fun _ => fun
  | [d] => { results := [.lit (.bool false)], args := [d] }
  | _ => none }
def FnExactValidGraphWrongFalsely : Prop := fnExactValidGraphRow.holds Try.pinned (OpenSpec.ofChange fnExactValidGraphWrong)

/-- 'laws.FnExactSameGraph': WHATEVER THE INPUT: true; the input reads as it did. -/
def fnExactSameGraphSpec : ChangeSpec := { name := "fnExactSameGraph", fn := fun _ => fun
  | [d1, d2] => { results := [.lit (.bool true)], args := [d1, d2] }
  | _ => none }
def fnExactSameGraphRow : OpenClaim := { program := "ytmfegjflaajkkaa", sum := "c416244f0036a4199a7ed360a2d594057c50ec97d91065122ac53e947279b171", func := "loop.example/g01364/laws.FnExactSameGraph", spec := "fnExactSameGraph", unfollowed := true, recurses := true, apart := false }
def FnExactSameGraphSaid : Prop := fnExactSameGraphRow.holds Try.pinned (OpenSpec.ofChange fnExactSameGraphSpec)

/-- ITS FALSE NEIGHBOUR: 'it returns false'. Refute it at one input. -/
def fnExactSameGraphWrong : ChangeSpec := { name := "fnExactSameGraph", fn := fun _ => fun
  | [d1, d2] => { results := [.lit (.bool false)], args := [d1, d2] }
  | _ => none }
def FnExactSameGraphWrongFalsely : Prop := fnExactSameGraphRow.holds Try.pinned (OpenSpec.ofChange fnExactSameGraphWrong)

/-- 'laws.FnExactIsMember': WHATEVER THE INPUT: true; the input reads as it did. -/
def fnExactIsMemberSpec : ChangeSpec := { name := "fnExactIsMember", fn := fun _ => fun
  | [d1, d2] => { results := [.lit (.bool true)], args := [d1, d2] }
  | _ => none }
def fnExactIsMemberRow : OpenClaim := { program := "ytmfegjflaajkkaa", sum := "c416244f0036a4199a7ed360a2d594057c50ec97d91065122ac53e947279b171", func := "loop.example/g01364/laws.FnExactIsMember", spec := "fnExactIsMember", apart := false }
def FnExactIsMemberSaid : Prop := fnExactIsMemberRow.holds Try.pinned (OpenSpec.ofChange fnExactIsMemberSpec)

/-- ITS FALSE NEIGHBOUR: 'it returns false'. Refute it at one input. -/
def fnExactIsMemberWrong : ChangeSpec := { name := "fnExactIsMember", fn := fun _ => fun
  | [d1, d2] => { results := [.lit (.bool false)], args := [d1, d2] }
  | _ => none }
def FnExactIsMemberWrongFalsely : Prop := fnExactIsMemberRow.holds Try.pinned (OpenSpec.ofChange fnExactIsMemberWrong)

/-- 'laws.FnExactPolarTurn': WHATEVER THE INPUT: true; the input reads as it did. -/
def fnExactPolarTurnSpec : ChangeSpec := { name := "fnExactPolarTurn", fn := fun _ => fun
  | [d] => { results := [.lit (.bool true)], args := [d] }
  | _ => none }
def fnExactPolarTurnRow : OpenClaim := { program := "ytmfegjflaajkkaa", sum := "c416244f0036a4199a7ed360a2d594057c50ec97d91065122ac53e947279b171", func := "loop.example/g01364/laws.FnExactPolarTurn", spec := "fnExactPolarTurn", apart := false }
def FnExactPolarTurnSaid : Prop := fnExactPolarTurnRow.holds Try.pinned (OpenSpec.ofChange fnExactPolarTurnSpec)

/-- ITS FALSE NEIGHBOUR: 'it returns false'. Refute it at one input. -/
def fnExactPolarTurnWrong : ChangeSpec := { name := "fnExactPolarTurn", fn := fun _ => fun
  | [d] => { results := [.lit (.bool false)], args := [d] }
  | _ => none }
def FnExactPolarTurnWrongFalsely : Prop := fnExactPolarTurnRow.holds Try.pinned (OpenSpec.ofChange fnExactPolarTurnWrong)

/-- 'laws.FnExactPolarLosses': WHATEVER THE INPUT: true; the input reads as it did. -/
def fnExactPolarLossesSpec : ChangeSpec := { name := "fnExactPolarLosses", fn := fun _ => fun
  | [d1, d2] => { results := [.lit (.bool true)], args := [d1, d2] }
  | _ => none }
def fnExactPolarLossesRow : OpenClaim := { program := "ytmfegjflaajkkaa", sum := "c416244f0036a4199a7ed360a2d594057c50ec97d91065122ac53e947279b171", func := "loop.example/g01364/laws.FnExactPolarLosses", spec := "fnExactPolarLosses", apart := false }
def FnExactPolarLossesSaid : Prop := fnExactPolarLossesRow.holds Try.pinned (OpenSpec.ofChange fnExactPolarLossesSpec)

/-- ITS FALSE NEIGHBOUR: 'it returns false'. Refute it at one input. -/
def fnExactPolarLossesWrong : ChangeSpec := { name := "fnExactPolarLosses", fn := fun _ => fun
  | [d1, d2] => { results := [.lit (.bool false)], args := [d1, d2] }
  | _ => none }
def FnExactPolarLossesWrongFalsely : Prop := fnExactPolarLossesRow.holds Try.pinned (OpenSpec.ofChange fnExactPolarLossesWrong)

/-- 'laws.FnExactPolarSend': WHATEVER THE INPUT: true; the input reads as it did. -/
def fnExactPolarSendSpec : ChangeSpec := { name := "fnExactPolarSend", fn := fun _ => fun
  | [d1, d2, d3] => { results := [.lit (.bool true)], args := [d1, d2, d3] }
  | _ => none }
def fnExactPolarSendRow : OpenClaim := { program := "ytmfegjflaajkkaa", sum := "c416244f0036a4199a7ed360a2d594057c50ec97d91065122ac53e947279b171", func := "loop.example/g01364/laws.FnExactPolarSend", spec := "fnExactPolarSend", apart := false }
def FnExactPolarSendSaid : Prop := fnExactPolarSendRow.holds Try.pinned (OpenSpec.ofChange fnExactPolarSendSpec)

/-- ITS FALSE NEIGHBOUR: 'it returns false'. Refute it at one input. -/
def fnExactPolarSendWrong : ChangeSpec := { name := "fnExactPolarSend", fn := fun _ => fun
  | [d1, d2, d3] => { results := [.lit (.bool false)], args := [d1, d2, d3] }
  | _ => none }
def FnExactPolarSendWrongFalsely : Prop := fnExactPolarSendRow.holds Try.pinned (OpenSpec.ofChange fnExactPolarSendWrong)

/- THE SECOND FORM. 'bulk': how many values and letters a reading holds, each counted each time it is reached (what is shared counts as often as it is met; a slice's spare places count too). A statement '..UptoSaid' is the law's where the arguments, and the package variables that the reading takes, are together of bulk at most 1048576: NARROWER than '..Said'. Prove '..Said' where nothing that the law and all that it calls make is longer than what came in: it says more and counts as full. Else prove '..UptoSaid'. A law counts once. -/
mutual
def uptoBulk {H : Type} : DataW H → Nat
  | .lit (.string bytes) => bytes.length + 1
  | .lit _ => 1
  | .nil => 1
  | .ptr d => uptoBulk d + 1
  | .slice elems spare => uptoBulkAll elems + uptoBulkAll spare + 1
  | .agg parts => uptoBulkAll parts + 1
  | .iface _ d => uptoBulk d + 1
  | .map entries => uptoBulkEntries entries + 1
  | .held _ => 1
def uptoBulkAll {H : Type} : List (DataW H) → Nat
  | [] => 0
  | d :: r => uptoBulk d + uptoBulkAll r
def uptoBulkEntries {H : Type} : List (Lit × DataW H) → Nat
  | [] => 0
  | x :: r => uptoBulkEntry x + uptoBulkEntries r
def uptoBulkEntry {H : Type} : Lit × DataW H → Nat
  | (.string bytes, d) => bytes.length + uptoBulk d + 1
  | (_, d) => uptoBulk d + 1
 end
def uptoSmall : (H : Type) → List (DataW H) → Bool := fun _ ds => decide (uptoBulkAll ds ≤ 1048576)
def OpenSpec.upto (s : _root_.Go.ChangeSpec) : _root_.Go.OpenSpec := { _root_.Go.OpenSpec.ofChange s with cond := some uptoSmall }

/-- 'laws.FnExactIsSoft', WHERE WHAT IT READS IS OF BULK AT MOST 1048576: true; the input reads as it did. -/
def fnExactIsSoftUptoRow : OpenClaim := { program := "ytmfegjflaajkkaa", sum := "c416244f0036a4199a7ed360a2d594057c50ec97d91065122ac53e947279b171", func := "loop.example/g01364/laws.FnExactIsSoft", spec := "fnExactIsSoft", inPlace := ["math.Float64bits", "math.Float64frombits"], apart := false, narrowed := true }
def FnExactIsSoftUptoSaid : Prop := fnExactIsSoftUptoRow.holds Try.pinned (OpenSpec.upto fnExactIsSoftSpec)

/-- 'laws.FnExactValidCoder', WHERE WHAT IT READS IS OF BULK AT MOST 1048576: true; the input reads as it did. -/
def fnExactValidCoderUptoRow : OpenClaim := { program := "ytmfegjflaajkkaa", sum := "c416244f0036a4199a7ed360a2d594057c50ec97d91065122ac53e947279b171", func := "loop.example/g01364/laws.FnExactValidCoder", spec := "fnExactValidCoder", apart := false, narrowed := true }
def FnExactValidCoderUptoSaid : Prop := fnExactValidCoderUptoRow.holds Try.pinned (OpenSpec.upto fnExactValidCoderSpec)

/-- 'laws.FnExactSameCoder', WHERE WHAT IT READS IS OF BULK AT MOST 1048576: true; the input reads as it did. -/
def fnExactSameCoderUptoRow : OpenClaim := { program := "ytmfegjflaajkkaa", sum := "c416244f0036a4199a7ed360a2d594057c50ec97d91065122ac53e947279b171", func := "loop.example/g01364/laws.FnExactSameCoder", spec := "fnExactSameCoder", apart := false, narrowed := true }
def FnExactSameCoderUptoSaid : Prop := fnExactSameCoderUptoRow.holds Try.pinned (OpenSpec.upto fnExactSameCoderSpec)

/-- 'laws.FnExactSoftOf', WHERE WHAT IT READS IS OF BULK AT MOST 1048576: true; the input reads as it did. -/
def fnExactSoftOfUptoRow : OpenClaim := { program := "ytmfegjflaajkkaa", sum := "c416244f0036a4199a7ed360a2d594057c50ec97d91065122ac53e947279b171", func := "loop.example/g01364/laws.FnExactSoftOf", spec := "fnExactSoftOf", inPlace := ["math.Float64bits", "math.Float64frombits"], apart := false, narrowed := true }
def FnExactSoftOfUptoSaid : Prop := fnExactSoftOfUptoRow.holds Try.pinned (OpenSpec.upto fnExactSoftOfSpec)

/-- 'laws.FnExactHardOf', WHERE WHAT IT READS IS OF BULK AT MOST 1048576: true; the input reads as it did. -/
def fnExactHardOfUptoRow : OpenClaim := { program := "ytmfegjflaajkkaa", sum := "c416244f0036a4199a7ed360a2d594057c50ec97d91065122ac53e947279b171", func := "loop.example/g01364/laws.FnExactHardOf", spec := "fnExactHardOf", inPlace := ["math.Float64bits", "math.Float64frombits"], apart := false, narrowed := true }
def FnExactHardOfUptoSaid : Prop := fnExactHardOfUptoRow.holds Try.pinned (OpenSpec.upto fnExactHardOfSpec)

/-- 'laws.FnExactSendBits', WHERE WHAT IT READS IS OF BULK AT MOST 1048576: true; the input reads as it did. -/
def fnExactSendBitsUptoRow : OpenClaim := { program := "ytmfegjflaajkkaa", sum := "c416244f0036a4199a7ed360a2d594057c50ec97d91065122ac53e947279b171", func := "loop.example/g01364/laws.FnExactSendBits", spec := "fnExactSendBits", apart := false, narrowed := true }
def FnExactSendBitsUptoSaid : Prop := fnExactSendBitsUptoRow.holds Try.pinned (OpenSpec.upto fnExactSendBitsSpec)

/-- 'laws.FnExactValidGraph', WHERE WHAT IT READS IS OF BULK AT MOST 1048576: true; the input reads as it did. -/
def fnExactValidGraphUptoRow : OpenClaim := { program := "ytmfegjflaajkkaa", sum := "c416244f0036a4199a7ed360a2d594057c50ec97d91065122ac53e947279b171", func := "loop.example/g01364/laws.FnExactValidGraph", spec := "fnExactValidGraph", apart := false, narrowed := true }
def FnExactValidGraphUptoSaid : Prop := fnExactValidGraphUptoRow.holds Try.pinned (OpenSpec.upto fnExactValidGraphSpec)

/-- 'laws.FnExactSameGraph', WHERE WHAT IT READS IS OF BULK AT MOST 1048576: true; the input reads as it did. -/
def fnExactSameGraphUptoRow : OpenClaim := { program := "ytmfegjflaajkkaa", sum := "c416244f0036a4199a7ed360a2d594057c50ec97d91065122ac53e947279b171", func := "loop.example/g01364/laws.FnExactSameGraph", spec := "fnExactSameGraph", unfollowed := true, recurses := true, apart := false, narrowed := true }
def FnExactSameGraphUptoSaid : Prop := fnExactSameGraphUptoRow.holds Try.pinned (OpenSpec.upto fnExactSameGraphSpec)

/-- 'laws.FnExactIsMember', WHERE WHAT IT READS IS OF BULK AT MOST 1048576: true; the input reads as it did. -/
def fnExactIsMemberUptoRow : OpenClaim := { program := "ytmfegjflaajkkaa", sum := "c416244f0036a4199a7ed360a2d594057c50ec97d91065122ac53e947279b171", func := "loop.example/g01364/laws.FnExactIsMember", spec := "fnExactIsMember", apart := false, narrowed := true }
def FnExactIsMemberUptoSaid : Prop := fnExactIsMemberUptoRow.holds Try.pinned (OpenSpec.upto fnExactIsMemberSpec)

/-- 'laws.FnExactPolarTurn', WHERE WHAT IT READS IS OF BULK AT MOST 1048576: true; the input reads as it did. -/
def fnExactPolarTurnUptoRow : OpenClaim := { program := "ytmfegjflaajkkaa", sum := "c416244f0036a4199a7ed360a2d594057c50ec97d91065122ac53e947279b171", func := "loop.example/g01364/laws.FnExactPolarTurn", spec := "fnExactPolarTurn", apart := false, narrowed := true }
def FnExactPolarTurnUptoSaid : Prop := fnExactPolarTurnUptoRow.holds Try.pinned (OpenSpec.upto fnExactPolarTurnSpec)

/-- 'laws.FnExactPolarLosses', WHERE WHAT IT READS IS OF BULK AT MOST 1048576: true; the input reads as it did. -/
def fnExactPolarLossesUptoRow : OpenClaim := { program := "ytmfegjflaajkkaa", sum := "c416244f0036a4199a7ed360a2d594057c50ec97d91065122ac53e947279b171", func := "loop.example/g01364/laws.FnExactPolarLosses", spec := "fnExactPolarLosses", apart := false, narrowed := true }
def FnExactPolarLossesUptoSaid : Prop := fnExactPolarLossesUptoRow.holds Try.pinned (OpenSpec.upto fnExactPolarLossesSpec)

/-- 'laws.FnExactPolarSend', WHERE WHAT IT READS IS OF BULK AT MOST 1048576: true; the input reads as it did. -/
def fnExactPolarSendUptoRow : OpenClaim := { program := "ytmfegjflaajkkaa", sum := "c416244f0036a4199a7ed360a2d594057c50ec97d91065122ac53e947279b171", func := "loop.example/g01364/laws.FnExactPolarSend", spec := "fnExactPolarSend", apart := false, narrowed := true }
def FnExactPolarSendUptoSaid : Prop := fnExactPolarSendUptoRow.holds Try.pinned (OpenSpec.upto fnExactPolarSendSpec)

end Rows
end Go.Proofs.Ytmfegjflaajkkaa
