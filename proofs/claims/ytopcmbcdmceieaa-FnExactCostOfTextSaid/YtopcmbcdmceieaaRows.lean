/-
  No cell of these rows narrows 'for every input' (looked for: loops, veiled, ifaces, maps, wideKeys, modest, calm, conditions, laid).
  DERIVED. THE GIVEN ROWS OF THIS SEAT. 12 by the template 'for every input the law returns true; each argument reads behind the call as it read before'; 0 by the template 'total and deterministic' (their statements: YtopcmbcdmceieaaTotals.lean).
  GIVEN WITH THE SEED: the statements are not yours to turn. If you find one false, say at which input.
  Laid BY PROGRAM, IN A SANDBOX (cutbox-rows.mjs): the forced cells as the released guide's own fill.sh prints them over the translation 6f1cd1be05758af6… (all of the seat's roots in one cut). By AI agents, Wed Nov 11 2026. No macro, syntax, notation, axiom, sorry.
-/
import Derived.Test.YtopcmbcdmceieaaChecked
import GoSem.Claim
import GoSem.ClaimJoined
import GoSem.ClaimMapViews
import Derived.JoinedTies
import Derived.KernelRfl
namespace Go.Proofs.Ytopcmbcdmceieaa
/- THE CELL 'sum', in the pinned program and in every row, IS THE sha256 OF THE DUMP (.gsa) THAT YtopcmbcdmceieaaProg.lean LOADS. Nothing in Lean hashes anything: it is a label: what it is worth is what the hold of that sum in a sandbox is worth. -/
noncomputable def Try.pinned : Pinned := { name := "ytopcmbcdmceieaa", sum := "6f1cd1be05758af60e3fad5515616889ca118789ca51bb5e1fd57c74cf900e4b", checked := Try.checked }
namespace Rows
def none {H : Type} : Left H := { results := [], args := [] }

/-- 'laws.FnExactIsText': WHATEVER THE INPUT: true; the input reads as it did. -/
def fnExactIsTextSpec : ChangeSpec := { name := "fnExactIsText", fn := fun _ => fun
  | [d1, d2] => { results := [.lit (.bool true)], args := [d1, d2] }
  | _ => none }
def fnExactIsTextRow : OpenClaim := { program := "ytopcmbcdmceieaa", sum := "6f1cd1be05758af60e3fad5515616889ca118789ca51bb5e1fd57c74cf900e4b", func := "loop.example/g01364/laws.FnExactIsText", spec := "fnExactIsText", apart := false }
def FnExactIsTextSaid : Prop := fnExactIsTextRow.holds Try.pinned (OpenSpec.ofChange fnExactIsTextSpec)

/-- ITS FALSE NEIGHBOUR: 'it returns false'. Refute it at one input. -/
def fnExactIsTextWrong : ChangeSpec := { name := "fnExactIsText", fn := fun _ => fun
  | [d1, d2] => { results := [.lit (.bool false)], args := [d1, d2] }
  | _ => none }
def FnExactIsTextWrongFalsely : Prop := fnExactIsTextRow.holds Try.pinned (OpenSpec.ofChange fnExactIsTextWrong)

/-- 'laws.FnExactValidCounts': WHATEVER THE INPUT: true; the input reads as it did. -/
def fnExactValidCountsSpec : ChangeSpec := { name := "fnExactValidCounts", fn := fun _ => fun
  | [d] => { results := [.lit (.bool true)], args := [d] }
  | _ => none }
def fnExactValidCountsRow : OpenClaim := { program := "ytopcmbcdmceieaa", sum := "6f1cd1be05758af60e3fad5515616889ca118789ca51bb5e1fd57c74cf900e4b", func := "loop.example/g01364/laws.FnExactValidCounts", spec := "fnExactValidCounts", apart := false }
def FnExactValidCountsSaid : Prop := fnExactValidCountsRow.holds Try.pinned (OpenSpec.ofChange fnExactValidCountsSpec)

/-- ITS FALSE NEIGHBOUR: 'it returns false'. Refute it at one input. -/
def fnExactValidCountsWrong : ChangeSpec := { name := "fnExactValidCounts", fn := fun _ => fun
  | [d] => { results := [.lit (.bool false)], args := [d] }
  | _ => none }
def FnExactValidCountsWrongFalsely : Prop := fnExactValidCountsRow.holds Try.pinned (OpenSpec.ofChange fnExactValidCountsWrong)

/-- 'laws.FnExactSameCounts': WHATEVER THE INPUT: true; the input reads as it did. -/
def fnExactSameCountsSpec : ChangeSpec := { name := "fnExactSameCounts", fn := fun _ => fun
  | [d1, d2] => { results := [.lit (.bool true)], args := [d1, d2] }
  | _ => none }
def fnExactSameCountsRow : OpenClaim := { program := "ytopcmbcdmceieaa", sum := "6f1cd1be05758af60e3fad5515616889ca118789ca51bb5e1fd57c74cf900e4b", func := "loop.example/g01364/laws.FnExactSameCounts", spec := "fnExactSameCounts", apart := false }
def FnExactSameCountsSaid : Prop := fnExactSameCountsRow.holds Try.pinned (OpenSpec.ofChange fnExactSameCountsSpec)

/-- ITS FALSE NEIGHBOUR: 'it returns false'. Refute it at one input. -/
def fnExactSameCountsWrong : ChangeSpec := { name := "fnExactSameCounts", fn := fun _ => fun
  | [d1, d2] => { results := [.lit (.bool false)], args := [d1, d2] }
  | _ => none }
def FnExactSameCountsWrongFalsely : Prop := fnExactSameCountsRow.holds Try.pinned (OpenSpec.ofChange fnExactSameCountsWrong)

/-- 'laws.FnExactEvenCounts': WHATEVER THE INPUT: true; the input reads as it did. -/
def fnExactEvenCountsSpec : ChangeSpec := { name := "fnExactEvenCounts", fn := fun _ => fun
  | [d] => { results := [.lit (.bool true)], args := [d] }
  | _ => none }
def fnExactEvenCountsRow : OpenClaim := { program := "ytopcmbcdmceieaa", sum := "6f1cd1be05758af60e3fad5515616889ca118789ca51bb5e1fd57c74cf900e4b", func := "loop.example/g01364/laws.FnExactEvenCounts", spec := "fnExactEvenCounts", apart := false }
def FnExactEvenCountsSaid : Prop := fnExactEvenCountsRow.holds Try.pinned (OpenSpec.ofChange fnExactEvenCountsSpec)

/-- ITS FALSE NEIGHBOUR: 'it returns false'. Refute it at one input. -/
def fnExactEvenCountsWrong : ChangeSpec := { name := "fnExactEvenCounts", fn := fun _ => fun
  | [d] => { results := [.lit (.bool false)], args := [d] }
  | _ => none }
def FnExactEvenCountsWrongFalsely : Prop := fnExactEvenCountsRow.holds Try.pinned (OpenSpec.ofChange fnExactEvenCountsWrong)

/-- 'laws.FnExactCountsOf': WHATEVER THE INPUT: true; the input reads as it did. -/
def fnExactCountsOfSpec : ChangeSpec := { name := "fnExactCountsOf", fn := fun _ => fun
  | [d1, d2] => { results := [.lit (.bool true)], args := [d1, d2] }
  | _ => none }
def fnExactCountsOfRow : OpenClaim := { program := "ytopcmbcdmceieaa", sum := "6f1cd1be05758af60e3fad5515616889ca118789ca51bb5e1fd57c74cf900e4b", func := "loop.example/g01364/laws.FnExactCountsOf", spec := "fnExactCountsOf", apart := false }
def FnExactCountsOfSaid : Prop := fnExactCountsOfRow.holds Try.pinned (OpenSpec.ofChange fnExactCountsOfSpec)

/-- ITS FALSE NEIGHBOUR: 'it returns false'. Refute it at one input. -/
def fnExactCountsOfWrong : ChangeSpec := { name := "fnExactCountsOf", fn := fun _ => fun
  | [d1, d2] => { results := [.lit (.bool false)], args := [d1, d2] }
  | _ => none }
def FnExactCountsOfWrongFalsely : Prop := fnExactCountsOfRow.holds Try.pinned (OpenSpec.ofChange fnExactCountsOfWrong)

/-- 'laws.FnExactPutCount': WHATEVER THE INPUT: true; the input reads as it did. -/
def fnExactPutCountSpec : ChangeSpec := { name := "fnExactPutCount", fn := fun _ => fun
  | [d1, d2, d3] => { results := [.lit (.bool true)], args := [d1, d2, d3] }
  | _ => none }
def fnExactPutCountRow : OpenClaim := { program := "ytopcmbcdmceieaa", sum := "6f1cd1be05758af60e3fad5515616889ca118789ca51bb5e1fd57c74cf900e4b", func := "loop.example/g01364/laws.FnExactPutCount", spec := "fnExactPutCount", apart := false }
def FnExactPutCountSaid : Prop := fnExactPutCountRow.holds Try.pinned (OpenSpec.ofChange fnExactPutCountSpec)

/-- ITS FALSE NEIGHBOUR: 'it returns false'. Refute it at one input. -/
def fnExactPutCountWrong : ChangeSpec := { name := "fnExactPutCount", fn := fun _ => fun
  | [d1, d2, d3] => { results := [.lit (.bool false)], args := [d1, d2, d3] }
  | _ => none }
def FnExactPutCountWrongFalsely : Prop := fnExactPutCountRow.holds Try.pinned (OpenSpec.ofChange fnExactPutCountWrong)

/-- 'laws.FnExactHalveCounts': WHATEVER THE INPUT: true; the input reads as it did. -/
def fnExactHalveCountsSpec : ChangeSpec := { name := "fnExactHalveCounts", fn := fun _ => fun
  | [d] => { results := [.lit (.bool true)], args := [d] }
  | _ => none }
def fnExactHalveCountsRow : OpenClaim := { program := "ytopcmbcdmceieaa", sum := "6f1cd1be05758af60e3fad5515616889ca118789ca51bb5e1fd57c74cf900e4b", func := "loop.example/g01364/laws.FnExactHalveCounts", spec := "fnExactHalveCounts", apart := false }
def FnExactHalveCountsSaid : Prop := fnExactHalveCountsRow.holds Try.pinned (OpenSpec.ofChange fnExactHalveCountsSpec)

/-- ITS FALSE NEIGHBOUR: 'it returns false'. Refute it at one input. -/
def fnExactHalveCountsWrong : ChangeSpec := { name := "fnExactHalveCounts", fn := fun _ => fun
  | [d] => { results := [.lit (.bool false)], args := [d] }
  | _ => none }
def FnExactHalveCountsWrongFalsely : Prop := fnExactHalveCountsRow.holds Try.pinned (OpenSpec.ofChange fnExactHalveCountsWrong)

/-- 'laws.FnExactValidShares': WHATEVER THE INPUT: true; the input reads as it did. -/
def fnExactValidSharesSpec : ChangeSpec := { name := "fnExactValidShares", fn := fun _ => fun
  | [d] => { results := [.lit (.bool true)], args := [d] }
  | _ => none }
def fnExactValidSharesRow : OpenClaim := { program := "ytopcmbcdmceieaa", sum := "6f1cd1be05758af60e3fad5515616889ca118789ca51bb5e1fd57c74cf900e4b", func := "loop.example/g01364/laws.FnExactValidShares", spec := "fnExactValidShares", apart := false }
def FnExactValidSharesSaid : Prop := fnExactValidSharesRow.holds Try.pinned (OpenSpec.ofChange fnExactValidSharesSpec)

/-- ITS FALSE NEIGHBOUR: 'it returns false'. Refute it at one input. -/
def fnExactValidSharesWrong : ChangeSpec := { name := "fnExactValidShares", fn := fun _ => fun
  | [d] => { results := [.lit (.bool false)], args := [d] }
  | _ => none }
def FnExactValidSharesWrongFalsely : Prop := fnExactValidSharesRow.holds Try.pinned (OpenSpec.ofChange fnExactValidSharesWrong)

/-- 'laws.FnExactCostOfText': WHATEVER THE INPUT: true; the input reads as it did. -/
def fnExactCostOfTextSpec : ChangeSpec := { name := "fnExactCostOfText", fn := fun _ => fun
  | [d1, d2] => { results := [.lit (.bool true)], args := [d1, d2] }
  | _ => none }
def fnExactCostOfTextRow : OpenClaim := { program := "ytopcmbcdmceieaa", sum := "6f1cd1be05758af60e3fad5515616889ca118789ca51bb5e1fd57c74cf900e4b", func := "loop.example/g01364/laws.FnExactCostOfText", spec := "fnExactCostOfText", inPlace := ["math.Float64frombits", "math.Float64bits", "math.Float32frombits"], apart := false }
def FnExactCostOfTextSaid : Prop := fnExactCostOfTextRow.holds Try.pinned (OpenSpec.ofChange fnExactCostOfTextSpec)

/-- ITS FALSE NEIGHBOUR: 'it returns false'. Refute it at one input. -/
def fnExactCostOfTextWrong : ChangeSpec := { name := "fnExactCostOfText", fn := fun _ => fun
  | [d1, d2] => { results := [.lit (.bool false)], args := [d1, d2] }
  | _ => none }
def FnExactCostOfTextWrongFalsely : Prop := fnExactCostOfTextRow.holds Try.pinned (OpenSpec.ofChange fnExactCostOfTextWrong)

/-- 'laws.FnExactSharesOf': WHATEVER THE INPUT: true; the input reads as it did. -/
def fnExactSharesOfSpec : ChangeSpec := { name := "fnExactSharesOf", fn := fun _ => fun
  | [d1, d2] => { results := [.lit (.bool true)], args := [d1, d2] }
  | _ => none }
def fnExactSharesOfRow : OpenClaim := { program := "ytopcmbcdmceieaa", sum := "6f1cd1be05758af60e3fad5515616889ca118789ca51bb5e1fd57c74cf900e4b", func := "loop.example/g01364/laws.FnExactSharesOf", spec := "fnExactSharesOf", unfollowed := true, recurses := true, apart := false }
def FnExactSharesOfSaid : Prop := fnExactSharesOfRow.holds Try.pinned (OpenSpec.ofChange fnExactSharesOfSpec)

/-- ITS FALSE NEIGHBOUR: 'it returns false'. Refute it at one input. -/
def fnExactSharesOfWrong : ChangeSpec := { name := "fnExactSharesOf", fn := fun _ => fun
  | [d1, d2] => { results := [.lit (.bool false)], args := [d1, d2] }
  | _ => none }
def FnExactSharesOfWrongFalsely : Prop := fnExactSharesOfRow.holds Try.pinned (OpenSpec.ofChange fnExactSharesOfWrong)

/-- 'laws.FnExactSpreadTable': WHATEVER THE INPUT: true; the input reads as it did. -/
def fnExactSpreadTableSpec : ChangeSpec := { name := "fnExactSpreadTable", fn := fun _ => fun
  | [d] => { results := [.lit (.bool true)], args := [d] }
  | _ => none }
def fnExactSpreadTableRow : OpenClaim := { program := "ytopcmbcdmceieaa", sum := "6f1cd1be05758af60e3fad5515616889ca118789ca51bb5e1fd57c74cf900e4b", func := "loop.example/g01364/laws.FnExactSpreadTable", spec := "fnExactSpreadTable", apart := false }
def FnExactSpreadTableSaid : Prop := fnExactSpreadTableRow.holds Try.pinned (OpenSpec.ofChange fnExactSpreadTableSpec)

/-- ITS FALSE NEIGHBOUR: 'it returns false'. Refute it at one input. -/
def fnExactSpreadTableWrong : ChangeSpec := { name := "fnExactSpreadTable", fn := fun _ => fun
  | [d] => { results := [.lit (.bool false)], args := [d] }
  | _ => none }
def FnExactSpreadTableWrongFalsely : Prop := fnExactSpreadTableRow.holds Try.pinned (OpenSpec.ofChange fnExactSpreadTableWrong)

/-- 'laws.FnExactMixChance': WHATEVER THE INPUT: true; the input reads as it did. -/
def fnExactMixChanceSpec : ChangeSpec := { name := "fnExactMixChance", fn := fun _ => fun
  | [d1, d2] => { results := [.lit (.bool true)], args := [d1, d2] }
  | _ => none }
def fnExactMixChanceRow : OpenClaim := { program := "ytopcmbcdmceieaa", sum := "6f1cd1be05758af60e3fad5515616889ca118789ca51bb5e1fd57c74cf900e4b", func := "loop.example/g01364/laws.FnExactMixChance", spec := "fnExactMixChance", inPlace := ["math.Float64frombits", "math.Float64bits", "math.Float32frombits"], apart := false }
def FnExactMixChanceSaid : Prop := fnExactMixChanceRow.holds Try.pinned (OpenSpec.ofChange fnExactMixChanceSpec)

/-- ITS FALSE NEIGHBOUR: 'it returns false'. Refute it at one input. -/
def fnExactMixChanceWrong : ChangeSpec := { name := "fnExactMixChance", fn := fun _ => fun
  | [d1, d2] => { results := [.lit (.bool false)], args := [d1, d2] }
  | _ => none }
def FnExactMixChanceWrongFalsely : Prop := fnExactMixChanceRow.holds Try.pinned (OpenSpec.ofChange fnExactMixChanceWrong)

/- THE SECOND FORM. 'bulk': how many values and letters a reading holds, each counted each time it is reached (what is shared counts as often as it is met; a slice's spare places count too). A statement '..UptoSaid' is the law's where the arguments, and the package variables that the reading takes, are together of bulk at most 1048576: NARROWER than '..Said'. Prove '..Said' where nothing that the law and all that it calls make is longer than what came in: it says more and counts as full. Else prove '..UptoSaid'. A law counts once. -/
mutual
def uptoBulk {H : Type} : DataW H → Nat
  | .lit (.string bytes) => bytes.length + 1
  | .lit _ => 1
  | .nil => 1
  | .ptr d => uptoBulk d + 1
  | .slice elems spare => uptoBulkAll elems + uptoBulkAll spare + 1
  | .agg parts => uptoBulkAll parts + 1
  | .iface _ d => uptoBulk d + 1
  | .map entries => uptoBulkEntries entries + 1
  | .held _ => 1
def uptoBulkAll {H : Type} : List (DataW H) → Nat
  | [] => 0
  | d :: r => uptoBulk d + uptoBulkAll r
def uptoBulkEntries {H : Type} : List (Lit × DataW H) → Nat
  | [] => 0
  | x :: r => uptoBulkEntry x + uptoBulkEntries r
def uptoBulkEntry {H : Type} : Lit × DataW H → Nat
  | (.string bytes, d) => bytes.length + uptoBulk d + 1
  | (_, d) => uptoBulk d + 1
 end
def uptoSmall : (H : Type) → List (DataW H) → Bool := fun _ ds => decide (uptoBulkAll ds ≤ 1048576)
def OpenSpec.upto (s : _root_.Go.ChangeSpec) : _root_.Go.OpenSpec := { _root_.Go.OpenSpec.ofChange s with cond := some uptoSmall }

/-- 'laws.FnExactIsText', WHERE WHAT IT READS IS OF BULK AT MOST 1048576: true; the input reads as it did. -/
def fnExactIsTextUptoRow : OpenClaim := { program := "ytopcmbcdmceieaa", sum := "6f1cd1be05758af60e3fad5515616889ca118789ca51bb5e1fd57c74cf900e4b", func := "loop.example/g01364/laws.FnExactIsText", spec := "fnExactIsText", apart := false, narrowed := true }
def FnExactIsTextUptoSaid : Prop := fnExactIsTextUptoRow.holds Try.pinned (OpenSpec.upto fnExactIsTextSpec)

/-- 'laws.FnExactValidCounts', WHERE WHAT IT READS IS OF BULK AT MOST 1048576: true; the input reads as it did. -/
def fnExactValidCountsUptoRow : OpenClaim := { program := "ytopcmbcdmceieaa", sum := "6f1cd1be05758af60e3fad5515616889ca118789ca51bb5e1fd57c74cf900e4b", func := "loop.example/g01364/laws.FnExactValidCounts", spec := "fnExactValidCounts", apart := false, narrowed := true }
def FnExactValidCountsUptoSaid : Prop := fnExactValidCountsUptoRow.holds Try.pinned (OpenSpec.upto fnExactValidCountsSpec)

/-- 'laws.FnExactSameCounts', WHERE WHAT IT READS IS OF BULK AT MOST 1048576: true; the input reads as it did. -/
def fnExactSameCountsUptoRow : OpenClaim := { program := "ytopcmbcdmceieaa", sum := "6f1cd1be05758af60e3fad5515616889ca118789ca51bb5e1fd57c74cf900e4b", func := "loop.example/g01364/laws.FnExactSameCounts", spec := "fnExactSameCounts", apart := false, narrowed := true }
def FnExactSameCountsUptoSaid : Prop := fnExactSameCountsUptoRow.holds Try.pinned (OpenSpec.upto fnExactSameCountsSpec)

/-- 'laws.FnExactEvenCounts', WHERE WHAT IT READS IS OF BULK AT MOST 1048576: true; the input reads as it did. -/
def fnExactEvenCountsUptoRow : OpenClaim := { program := "ytopcmbcdmceieaa", sum := "6f1cd1be05758af60e3fad5515616889ca118789ca51bb5e1fd57c74cf900e4b", func := "loop.example/g01364/laws.FnExactEvenCounts", spec := "fnExactEvenCounts", apart := false, narrowed := true }
def FnExactEvenCountsUptoSaid : Prop := fnExactEvenCountsUptoRow.holds Try.pinned (OpenSpec.upto fnExactEvenCountsSpec)

/-- 'laws.FnExactCountsOf', WHERE WHAT IT READS IS OF BULK AT MOST 1048576: true; the input reads as it did. -/
def fnExactCountsOfUptoRow : OpenClaim := { program := "ytopcmbcdmceieaa", sum := "6f1cd1be05758af60e3fad5515616889ca118789ca51bb5e1fd57c74cf900e4b", func := "loop.example/g01364/laws.FnExactCountsOf", spec := "fnExactCountsOf", apart := false, narrowed := true }
def FnExactCountsOfUptoSaid : Prop := fnExactCountsOfUptoRow.holds Try.pinned (OpenSpec.upto fnExactCountsOfSpec)

/-- 'laws.FnExactPutCount', WHERE WHAT IT READS IS OF BULK AT MOST 1048576: true; the input reads as it did. -/
def fnExactPutCountUptoRow : OpenClaim := { program := "ytopcmbcdmceieaa", sum := "6f1cd1be05758af60e3fad5515616889ca118789ca51bb5e1fd57c74cf900e4b", func := "loop.example/g01364/laws.FnExactPutCount", spec := "fnExactPutCount", apart := false, narrowed := true }
def FnExactPutCountUptoSaid : Prop := fnExactPutCountUptoRow.holds Try.pinned (OpenSpec.upto fnExactPutCountSpec)

/-- 'laws.FnExactHalveCounts', WHERE WHAT IT READS IS OF BULK AT MOST 1048576: true; the input reads as it did. -/
def fnExactHalveCountsUptoRow : OpenClaim := { program := "ytopcmbcdmceieaa", sum := "6f1cd1be05758af60e3fad5515616889ca118789ca51bb5e1fd57c74cf900e4b", func := "loop.example/g01364/laws.FnExactHalveCounts", spec := "fnExactHalveCounts", apart := false, narrowed := true }
def FnExactHalveCountsUptoSaid : Prop := fnExactHalveCountsUptoRow.holds Try.pinned (OpenSpec.upto fnExactHalveCountsSpec)

/-- 'laws.FnExactValidShares', WHERE WHAT IT READS IS OF BULK AT MOST 1048576: true; the input reads as it did. -/
def fnExactValidSharesUptoRow : OpenClaim := { program := "ytopcmbcdmceieaa", sum := "6f1cd1be05758af60e3fad5515616889ca118789ca51bb5e1fd57c74cf900e4b", func := "loop.example/g01364/laws.FnExactValidShares", spec := "fnExactValidShares", apart := false, narrowed := true }
def FnExactValidSharesUptoSaid : Prop := fnExactValidSharesUptoRow.holds Try.pinned (OpenSpec.upto fnExactValidSharesSpec)

/-- 'laws.FnExactCostOfText', WHERE WHAT IT READS IS OF BULK AT MOST 1048576: true; the input reads as it did. -/
def fnExactCostOfTextUptoRow : OpenClaim := { program := "ytopcmbcdmceieaa", sum := "6f1cd1be05758af60e3fad5515616889ca118789ca51bb5e1fd57c74cf900e4b", func := "loop.example/g01364/laws.FnExactCostOfText", spec := "fnExactCostOfText", inPlace := ["math.Float64frombits", "math.Float64bits", "math.Float32frombits"], apart := false, narrowed := true }
def FnExactCostOfTextUptoSaid : Prop := fnExactCostOfTextUptoRow.holds Try.pinned (OpenSpec.upto fnExactCostOfTextSpec)

/-- 'laws.FnExactSharesOf', WHERE WHAT IT READS IS OF BULK AT MOST 1048576: true; the input reads as it did. -/
def fnExactSharesOfUptoRow : OpenClaim := { program := "ytopcmbcdmceieaa", sum := "6f1cd1be05758af60e3fad5515616889ca118789ca51bb5e1fd57c74cf900e4b", func := "loop.example/g01364/laws.FnExactSharesOf", spec := "fnExactSharesOf", unfollowed := true, recurses := true, apart := false, narrowed := true }
def FnExactSharesOfUptoSaid : Prop := fnExactSharesOfUptoRow.holds Try.pinned (OpenSpec.upto fnExactSharesOfSpec)

/-- 'laws.FnExactSpreadTable', WHERE WHAT IT READS IS OF BULK AT MOST 1048576: true; the input reads as it did. -/
def fnExactSpreadTableUptoRow : OpenClaim := { program := "ytopcmbcdmceieaa", sum := "6f1cd1be05758af60e3fad5515616889ca118789ca51bb5e1fd57c74cf900e4b", func := "loop.example/g01364/laws.FnExactSpreadTable", spec := "fnExactSpreadTable", apart := false, narrowed := true }
def FnExactSpreadTableUptoSaid : Prop := fnExactSpreadTableUptoRow.holds Try.pinned (OpenSpec.upto fnExactSpreadTableSpec)

/-- 'laws.FnExactMixChance', WHERE WHAT IT READS IS OF BULK AT MOST 1048576: true; the input reads as it did. -/
def fnExactMixChanceUptoRow : OpenClaim := { program := "ytopcmbcdmceieaa", sum := "6f1cd1be05758af60e3fad5515616889ca118789ca51bb5e1fd57c74cf900e4b", func := "loop.example/g01364/laws.FnExactMixChance", spec := "fnExactMixChance", inPlace := ["math.Float64frombits", "math.Float64bits", "math.Float32frombits"], apart := false, narrowed := true }
def FnExactMixChanceUptoSaid : Prop := fnExactMixChanceUptoRow.holds Try.pinned (OpenSpec.upto fnExactMixChanceSpec)

end Rows
end Go.Proofs.Ytopcmbcdmceieaa
