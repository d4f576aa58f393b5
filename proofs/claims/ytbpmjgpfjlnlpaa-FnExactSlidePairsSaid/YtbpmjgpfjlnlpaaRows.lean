/-
  No cell of these rows narrows 'for every input' (looked for: loops, veiled, ifaces, maps, wideKeys, modest, calm, conditions, laid).
  DERIVED. THE GIVEN ROWS OF THIS SEAT. 12 by the template 'for every input the law returns true; each argument reads behind the call as it read before'; 0 by the template 'total and deterministic' (their statements: YtbpmjgpfjlnlpaaTotals.lean).
  GIVEN WITH THE SEED: the statements are not yours to turn. If you find one false, say at which input.
  Laid BY PROGRAM, IN A SANDBOX (cutbox-rows.mjs): the forced cells as the released guide's own fill.sh prints them over the translation 64aa3bb0a81eca98… (all of the seat's roots in one cut). By AI agents, Wed Nov 11 2026. No macro, syntax, notation, axiom, sorry.
-/
import Derived.Test.YtbpmjgpfjlnlpaaChecked
import GoSem.Claim
import GoSem.ClaimJoined
import GoSem.ClaimMapViews
import Derived.JoinedTies
import Derived.KernelRfl
namespace Go.Proofs.Ytbpmjgpfjlnlpaa
/- THE CELL 'sum', in the pinned program and in every row, IS THE sha256 OF THE DUMP (.gsa) THAT YtbpmjgpfjlnlpaaProg.lean LOADS. Nothing in Lean hashes anything: it is a label: what it is worth is what the hold of that sum in a sandbox is worth. -/
noncomputable def Try.pinned : Pinned := { name := "ytbpmjgpfjlnlpaa", sum := "64aa3bb0a81eca982807c63f839fda9b5fd97a3af36883b8cbeafdc30abe93e5", checked := Try.checked }
namespace Rows
def none {H : Type} : Left H := { results := [], args := [] }

/-- 'laws.FnExactMixLearn': WHATEVER THE INPUT: true; the input reads as it did. -/
def fnExactMixLearnSpec : ChangeSpec := { name := "fnExactMixLearn", fn := fun _ => fun
  | [d1, d2, d3, d4] => { results := [.lit (.bool true)], args := [d1, d2, d3, d4] }
  | _ => none }
def fnExactMixLearnRow : OpenClaim := { program := "ytbpmjgpfjlnlpaa", sum := "64aa3bb0a81eca982807c63f839fda9b5fd97a3af36883b8cbeafdc30abe93e5", func := "loop.example/g01364/laws.FnExactMixLearn", spec := "fnExactMixLearn", inPlace := ["math.Float64frombits", "math.Float64bits", "math.Float32frombits"], plainKeys := false, apart := false }
def FnExactMixLearnSaid : Prop := fnExactMixLearnRow.holds Try.pinned (OpenSpec.ofChange fnExactMixLearnSpec)

/-- ITS FALSE NEIGHBOUR: 'it returns false'. Refute it at one input. -/
def fnExactMixLearnWrong : ChangeSpec := { name := "fnExactMixLearn", fn := fun _ => fun
  | [d1, d2, d3, d4] => { results := [.lit (.bool false)], args := [d1, d2, d3, d4] }
  | _ => none }
def FnExactMixLearnWrongFalsely : Prop := fnExactMixLearnRow.holds Try.pinned (OpenSpec.ofChange fnExactMixLearnWrong)

/-- 'laws.FnExactGuessBits': WHATEVER THE INPUT: true; the input reads as it did. -/
def fnExactGuessBitsSpec : ChangeSpec := { name := "fnExactGuessBits", fn := fun _ => fun
  | [d1, d2] => { results := [.lit (.bool true)], args := [d1, d2] }
  | _ => none }
def fnExactGuessBitsRow : OpenClaim := { program := "ytbpmjgpfjlnlpaa", sum := "64aa3bb0a81eca982807c63f839fda9b5fd97a3af36883b8cbeafdc30abe93e5", func := "loop.example/g01364/laws.FnExactGuessBits", spec := "fnExactGuessBits", inPlace := ["math.Float64frombits", "math.Float64bits", "math.Float32frombits"], unfollowed := true, recurses := true, plainKeys := false, apart := false }
def FnExactGuessBitsSaid : Prop := fnExactGuessBitsRow.holds Try.pinned (OpenSpec.ofChange fnExactGuessBitsSpec)

/-- ITS FALSE NEIGHBOUR: 'it returns false'. Refute it at one input. -/
def fnExactGuessBitsWrong : ChangeSpec := { name := "fnExactGuessBits", fn := fun _ => fun
  | [d1, d2] => { results := [.lit (.bool false)], args := [d1, d2] }
  | _ => none }
def FnExactGuessBitsWrongFalsely : Prop := fnExactGuessBitsRow.holds Try.pinned (OpenSpec.ofChange fnExactGuessBitsWrong)

/-- 'laws.FnExactWeighBits': WHATEVER THE INPUT: true; the input reads as it did. -/
def fnExactWeighBitsSpec : ChangeSpec := { name := "fnExactWeighBits", fn := fun _ => fun
  | [d1, d2] => { results := [.lit (.bool true)], args := [d1, d2] }
  | _ => none }
def fnExactWeighBitsRow : OpenClaim := { program := "ytbpmjgpfjlnlpaa", sum := "64aa3bb0a81eca982807c63f839fda9b5fd97a3af36883b8cbeafdc30abe93e5", func := "loop.example/g01364/laws.FnExactWeighBits", spec := "fnExactWeighBits", inPlace := ["math.Float64frombits", "math.Float64bits", "math.Float32frombits"], unfollowed := true, recurses := true, plainKeys := false, apart := false }
def FnExactWeighBitsSaid : Prop := fnExactWeighBitsRow.holds Try.pinned (OpenSpec.ofChange fnExactWeighBitsSpec)

/-- ITS FALSE NEIGHBOUR: 'it returns false'. Refute it at one input. -/
def fnExactWeighBitsWrong : ChangeSpec := { name := "fnExactWeighBits", fn := fun _ => fun
  | [d1, d2] => { results := [.lit (.bool false)], args := [d1, d2] }
  | _ => none }
def FnExactWeighBitsWrongFalsely : Prop := fnExactWeighBitsRow.holds Try.pinned (OpenSpec.ofChange fnExactWeighBitsWrong)

/-- 'laws.FnExactSlidePairs': WHATEVER THE INPUT: true; the input reads as it did. -/
def fnExactSlidePairsSpec : ChangeSpec := { name := "fnExactSlidePairs", fn := fun _ => fun
  | [d1, d2, d3] => { results := [.lit (.bool true)], args := [d1, d2, d3] }
  | _ => none }
def fnExactSlidePairsRow : OpenClaim := { program := "ytbpmjgpfjlnlpaa", sum := "64aa3bb0a81eca982807c63f839fda9b5fd97a3af36883b8cbeafdc30abe93e5", func := "loop.example/g01364/laws.FnExactSlidePairs", spec := "fnExactSlidePairs", plainKeys := false, apart := false }
def FnExactSlidePairsSaid : Prop := fnExactSlidePairsRow.holds Try.pinned (OpenSpec.ofChange fnExactSlidePairsSpec)

/-- ITS FALSE NEIGHBOUR: 'it returns false'. Refute it at one input. -/
def fnExactSlidePairsWrong : ChangeSpec := { name := "fnExactSlidePairs", fn := fun _ => fun
  | [d1, d2, d3] => { results := [.lit (.bool false)], args := [d1, d2, d3] }
  | _ => none }
def FnExactSlidePairsWrongFalsely : Prop := fnExactSlidePairsRow.holds Try.pinned (OpenSpec.ofChange fnExactSlidePairsWrong)

/-- 'laws.FnExactSlidText': WHATEVER THE INPUT: true; the input reads as it did. -/
def fnExactSlidTextSpec : ChangeSpec := { name := "fnExactSlidText", fn := fun _ => fun
  | [d1, d2] => { results := [.lit (.bool true)], args := [d1, d2] }
  | _ => none }
def fnExactSlidTextRow : OpenClaim := { program := "ytbpmjgpfjlnlpaa", sum := "64aa3bb0a81eca982807c63f839fda9b5fd97a3af36883b8cbeafdc30abe93e5", func := "loop.example/g01364/laws.FnExactSlidText", spec := "fnExactSlidText", unfollowed := true, recurses := true, plainKeys := false, apart := false }
def FnExactSlidTextSaid : Prop := fnExactSlidTextRow.holds Try.pinned (OpenSpec.ofChange fnExactSlidTextSpec)

/-- ITS FALSE NEIGHBOUR: 'it returns false'. Refute it at one input. -/
def fnExactSlidTextWrong : ChangeSpec := { name := "fnExactSlidText", fn := fun _ => fun
  | [d1, d2] => { results := [.lit (.bool false)], args := [d1, d2] }
  | _ => none }
def FnExactSlidTextWrongFalsely : Prop := fnExactSlidTextRow.holds Try.pinned (OpenSpec.ofChange fnExactSlidTextWrong)

/-- 'laws.FnExactUnmergeText': WHATEVER THE INPUT: true; the input reads as it did. -/
def fnExactUnmergeTextSpec : ChangeSpec := { name := "fnExactUnmergeText", fn := fun _ => fun
  | [d1, d2, d3] => { results := [.lit (.bool true)], args := [d1, d2, d3] }
  | _ => none }
def fnExactUnmergeTextRow : OpenClaim := { program := "ytbpmjgpfjlnlpaa", sum := "64aa3bb0a81eca982807c63f839fda9b5fd97a3af36883b8cbeafdc30abe93e5", func := "loop.example/g01364/laws.FnExactUnmergeText", spec := "fnExactUnmergeText", plainKeys := false, apart := false }
def FnExactUnmergeTextSaid : Prop := fnExactUnmergeTextRow.holds Try.pinned (OpenSpec.ofChange fnExactUnmergeTextSpec)

/-- ITS FALSE NEIGHBOUR: 'it returns false'. Refute it at one input. -/
def fnExactUnmergeTextWrong : ChangeSpec := { name := "fnExactUnmergeText", fn := fun _ => fun
  | [d1, d2, d3] => { results := [.lit (.bool false)], args := [d1, d2, d3] }
  | _ => none }
def FnExactUnmergeTextWrongFalsely : Prop := fnExactUnmergeTextRow.holds Try.pinned (OpenSpec.ofChange fnExactUnmergeTextWrong)

/-- 'laws.FnExactStateText': WHATEVER THE INPUT: true; the input reads as it did. -/
def fnExactStateTextSpec : ChangeSpec := { name := "fnExactStateText", fn := fun _ => fun
  | [d1, d2, d3, d4] => { results := [.lit (.bool true)], args := [d1, d2, d3, d4] }
  | _ => none }
def fnExactStateTextRow : OpenClaim := { program := "ytbpmjgpfjlnlpaa", sum := "64aa3bb0a81eca982807c63f839fda9b5fd97a3af36883b8cbeafdc30abe93e5", func := "loop.example/g01364/laws.FnExactStateText", spec := "fnExactStateText", plainKeys := false, apart := false }
def FnExactStateTextSaid : Prop := fnExactStateTextRow.holds Try.pinned (OpenSpec.ofChange fnExactStateTextSpec)

/-- ITS FALSE NEIGHBOUR: 'it returns false'. Refute it at one input. -/
def fnExactStateTextWrong : ChangeSpec := { name := "fnExactStateText", fn := fun _ => fun
  | [d1, d2, d3, d4] => { results := [.lit (.bool false)], args := [d1, d2, d3, d4] }
  | _ => none }
def FnExactStateTextWrongFalsely : Prop := fnExactStateTextRow.holds Try.pinned (OpenSpec.ofChange fnExactStateTextWrong)

/-- 'laws.FnExactStateBits': WHATEVER THE INPUT: true; the input reads as it did. -/
def fnExactStateBitsSpec : ChangeSpec := { name := "fnExactStateBits", fn := fun _ => fun
  | [d1, d2] => { results := [.lit (.bool true)], args := [d1, d2] }
  | _ => none }
def fnExactStateBitsRow : OpenClaim := { program := "ytbpmjgpfjlnlpaa", sum := "64aa3bb0a81eca982807c63f839fda9b5fd97a3af36883b8cbeafdc30abe93e5", func := "loop.example/g01364/laws.FnExactStateBits", spec := "fnExactStateBits", unfollowed := true, recurses := true, plainKeys := false, apart := false }
def FnExactStateBitsSaid : Prop := fnExactStateBitsRow.holds Try.pinned (OpenSpec.ofChange fnExactStateBitsSpec)

/-- ITS FALSE NEIGHBOUR: 'it returns false'. Refute it at one input. -/
def fnExactStateBitsWrong : ChangeSpec := { name := "fnExactStateBits", fn := fun _ => fun
  | [d1, d2] => { results := [.lit (.bool false)], args := [d1, d2] }
  | _ => none }
def FnExactStateBitsWrongFalsely : Prop := fnExactStateBitsRow.holds Try.pinned (OpenSpec.ofChange fnExactStateBitsWrong)

/-- 'laws.FnExactGrowPairs': WHATEVER THE INPUT: true; the input reads as it did. -/
def fnExactGrowPairsSpec : ChangeSpec := { name := "fnExactGrowPairs", fn := fun _ => fun
  | [d1, d2] => { results := [.lit (.bool true)], args := [d1, d2] }
  | _ => none }
def fnExactGrowPairsRow : OpenClaim := { program := "ytbpmjgpfjlnlpaa", sum := "64aa3bb0a81eca982807c63f839fda9b5fd97a3af36883b8cbeafdc30abe93e5", func := "loop.example/g01364/laws.FnExactGrowPairs", spec := "fnExactGrowPairs", plainKeys := false, apart := false }
def FnExactGrowPairsSaid : Prop := fnExactGrowPairsRow.holds Try.pinned (OpenSpec.ofChange fnExactGrowPairsSpec)

/-- ITS FALSE NEIGHBOUR: 'it returns false'. Refute it at one input. -/
def fnExactGrowPairsWrong : ChangeSpec := { name := "fnExactGrowPairs", fn := fun _ => fun
  | [d1, d2] => { results := [.lit (.bool false)], args := [d1, d2] }
  | _ => none }
def FnExactGrowPairsWrongFalsely : Prop := fnExactGrowPairsRow.holds Try.pinned (OpenSpec.ofChange fnExactGrowPairsWrong)

/-- 'laws.FnExactGrownText': WHATEVER THE INPUT: true; the input reads as it did. -/
def fnExactGrownTextSpec : ChangeSpec := { name := "fnExactGrownText", fn := fun _ => fun
  | [d1, d2] => { results := [.lit (.bool true)], args := [d1, d2] }
  | _ => none }
def fnExactGrownTextRow : OpenClaim := { program := "ytbpmjgpfjlnlpaa", sum := "64aa3bb0a81eca982807c63f839fda9b5fd97a3af36883b8cbeafdc30abe93e5", func := "loop.example/g01364/laws.FnExactGrownText", spec := "fnExactGrownText", unfollowed := true, recurses := true, plainKeys := false, apart := false }
def FnExactGrownTextSaid : Prop := fnExactGrownTextRow.holds Try.pinned (OpenSpec.ofChange fnExactGrownTextSpec)

/-- ITS FALSE NEIGHBOUR: 'it returns false'. Refute it at one input. -/
def fnExactGrownTextWrong : ChangeSpec := { name := "fnExactGrownText", fn := fun _ => fun
  | [d1, d2] => { results := [.lit (.bool false)], args := [d1, d2] }
  | _ => none }
def FnExactGrownTextWrongFalsely : Prop := fnExactGrownTextRow.holds Try.pinned (OpenSpec.ofChange fnExactGrownTextWrong)

/-- 'laws.FnExactMergeText': WHATEVER THE INPUT: true; the input reads as it did. -/
def fnExactMergeTextSpec : ChangeSpec := { name := "fnExactMergeText", fn := fun _ => fun
  | [d1, d2, d3] => { results := [.lit (.bool true)], args := [d1, d2, d3] }
  | _ => none }
def fnExactMergeTextRow : OpenClaim := { program := "ytbpmjgpfjlnlpaa", sum := "64aa3bb0a81eca982807c63f839fda9b5fd97a3af36883b8cbeafdc30abe93e5", func := "loop.example/g01364/laws.FnExactMergeText", spec := "fnExactMergeText", unfollowed := true, recurses := true, plainKeys := false, apart := false }
def FnExactMergeTextSaid : Prop := fnExactMergeTextRow.holds Try.pinned (OpenSpec.ofChange fnExactMergeTextSpec)

/-- ITS FALSE NEIGHBOUR: 'it returns false'. Refute it at one input. -/
def fnExactMergeTextWrong : ChangeSpec := { name := "fnExactMergeText", fn := fun _ => fun
  | [d1, d2, d3] => { results := [.lit (.bool false)], args := [d1, d2, d3] }
  | _ => none }
def FnExactMergeTextWrongFalsely : Prop := fnExactMergeTextRow.holds Try.pinned (OpenSpec.ofChange fnExactMergeTextWrong)

/-- 'laws.FnExactRangeText': WHATEVER THE INPUT: true; the input reads as it did. -/
def fnExactRangeTextSpec : ChangeSpec := { name := "fnExactRangeText", fn := fun _ => fun
  | [d1, d2, d3] => { results := [.lit (.bool true)], args := [d1, d2, d3] }
  | _ => none }
def fnExactRangeTextRow : OpenClaim := { program := "ytbpmjgpfjlnlpaa", sum := "64aa3bb0a81eca982807c63f839fda9b5fd97a3af36883b8cbeafdc30abe93e5", func := "loop.example/g01364/laws.FnExactRangeText", spec := "fnExactRangeText", unfollowed := true, recurses := true, plainKeys := false, apart := false }
def FnExactRangeTextSaid : Prop := fnExactRangeTextRow.holds Try.pinned (OpenSpec.ofChange fnExactRangeTextSpec)

/-- ITS FALSE NEIGHBOUR: 'it returns false'. Refute it at one input. -/
def fnExactRangeTextWrong : ChangeSpec := { name := "fnExactRangeText", fn := fun _ => fun
  | [d1, d2, d3] => { results := [.lit (.bool false)], args := [d1, d2, d3] }
  | _ => none }
def FnExactRangeTextWrongFalsely : Prop := fnExactRangeTextRow.holds Try.pinned (OpenSpec.ofChange fnExactRangeTextWrong)

/- THE SECOND FORM. 'bulk': how many values and letters a reading holds, each counted each time it is reached (what is shared counts as often as it is met; a slice's spare places count too). A statement '..UptoSaid' is the law's where the arguments, and the package variables that the reading takes, are together of bulk at most 1048576: NARROWER than '..Said'. Prove '..Said' where nothing that the law and all that it calls make is longer than what came in: it says more and counts as full. Else prove '..UptoSaid'. A law counts once. -/
mutual
def uptoBulk {H : Type} : DataW H → Nat
  | .lit (.string bytes) => bytes.length + 1
  | .lit _ => 1
  | .nil => 1
  | .ptr d => uptoBulk d + 1
  | .slice elems spare => uptoBulkAll elems + uptoBulkAll spare + 1
  | .agg parts => uptoBulkAll parts + 1
  | .iface _ d => uptoBulk d + 1
  | .map entries => uptoBulkEntries entries + 1
  | .held _ => 1
def uptoBulkAll {H : Type} : List (DataW H) → Nat
  | [] => 0
  | d :: r => uptoBulk d + uptoBulkAll r
def uptoBulkEntries {H : Type} : List (Lit × DataW H) → Nat
  | [] => 0
  | x :: r => uptoBulkEntry x + uptoBulkEntries r
def uptoBulkEntry {H : Type} : Lit × DataW H → Nat
  | (.string bytes, d) => bytes.length + uptoBulk d + 1
  | (_, d) => uptoBulk d + 1
 end
def uptoSmall : (H : Type) → List (DataW H) → Bool := fun _ ds => decide (uptoBulkAll ds ≤ 1048576)
def OpenSpec.upto (s : _root_.Go.ChangeSpec) : _root_.Go.OpenSpec := { _root_.Go.OpenSpec.ofChange s with cond := some uptoSmall }

/-- 'laws.FnExactMixLearn', WHERE WHAT IT READS IS OF BULK AT MOST 1048576: true; the input reads as it did. -/
def fnExactMixLearnUptoRow : OpenClaim := { program := "ytbpmjgpfjlnlpaa", sum := "64aa3bb0a81eca982807c63f839fda9b5fd97a3af36883b8cbeafdc30abe93e5", func := "loop.example/g01364/laws.FnExactMixLearn", spec := "fnExactMixLearn", inPlace := ["math.Float64frombits", "math.Float64bits", "math.Float32frombits"], plainKeys := false, apart := false, narrowed := true }
def FnExactMixLearnUptoSaid : Prop := fnExactMixLearnUptoRow.holds Try.pinned (OpenSpec.upto fnExactMixLearnSpec)

/-- 'laws.FnExactGuessBits', WHERE WHAT IT READS IS OF BULK AT MOST 1048576: true; the input reads as it did. -/
def fnExactGuessBitsUptoRow : OpenClaim := { program := "ytbpmjgpfjlnlpaa", sum := "64aa3bb0a81eca982807c63f839fda9b5fd97a3af36883b8cbeafdc30abe93e5", func := "loop.example/g01364/laws.FnExactGuessBits", spec := "fnExactGuessBits", inPlace := ["math.Float64frombits", "math.Float64bits", "math.Float32frombits"], unfollowed := true, recurses := true, plainKeys := false, apart := false, narrowed := true }
def FnExactGuessBitsUptoSaid : Prop := fnExactGuessBitsUptoRow.holds Try.pinned (OpenSpec.upto fnExactGuessBitsSpec)

/-- 'laws.FnExactWeighBits', WHERE WHAT IT READS IS OF BULK AT MOST 1048576: true; the input reads as it did. -/
def fnExactWeighBitsUptoRow : OpenClaim := { program := "ytbpmjgpfjlnlpaa", sum := "64aa3bb0a81eca982807c63f839fda9b5fd97a3af36883b8cbeafdc30abe93e5", func := "loop.example/g01364/laws.FnExactWeighBits", spec := "fnExactWeighBits", inPlace := ["math.Float64frombits", "math.Float64bits", "math.Float32frombits"], unfollowed := true, recurses := true, plainKeys := false, apart := false, narrowed := true }
def FnExactWeighBitsUptoSaid : Prop := fnExactWeighBitsUptoRow.holds Try.pinned (OpenSpec.upto fnExactWeighBitsSpec)

/-- 'laws.FnExactSlidePairs', WHERE WHAT IT READS IS OF BULK AT MOST 1048576: true; the input reads as it did. -/
def fnExactSlidePairsUptoRow : OpenClaim := { program := "ytbpmjgpfjlnlpaa", sum := "64aa3bb0a81eca982807c63f839fda9b5fd97a3af36883b8cbeafdc30abe93e5", func := "loop.example/g01364/laws.FnExactSlidePairs", spec := "fnExactSlidePairs", plainKeys := false, apart := false, narrowed := true }
def FnExactSlidePairsUptoSaid : Prop := fnExactSlidePairsUptoRow.holds Try.pinned (OpenSpec.upto fnExactSlidePairsSpec)

/-- 'laws.FnExactSlidText', WHERE WHAT IT READS IS OF BULK AT MOST 1048576: true; the input reads as it did. -/
def fnExactSlidTextUptoRow : OpenClaim := { program := "ytbpmjgpfjlnlpaa", sum := "64aa3bb0a81eca982807c63f839fda9b5fd97a3af36883b8cbeafdc30abe93e5", func := "loop.example/g01364/laws.FnExactSlidText", spec := "fnExactSlidText", unfollowed := true, recurses := true, plainKeys := false, apart := false, narrowed := true }
def FnExactSlidTextUptoSaid : Prop := fnExactSlidTextUptoRow.holds Try.pinned (OpenSpec.upto fnExactSlidTextSpec)

/-- 'laws.FnExactUnmergeText', WHERE WHAT IT READS IS OF BULK AT MOST 1048576: true; the input reads as it did. -/
def fnExactUnmergeTextUptoRow : OpenClaim := { program := "ytbpmjgpfjlnlpaa", sum := "64aa3bb0a81eca982807c63f839fda9b5fd97a3af36883b8cbeafdc30abe93e5", func := "loop.example/g01364/laws.FnExactUnmergeText", spec := "fnExactUnmergeText", plainKeys := false, apart := false, narrowed := true }
def FnExactUnmergeTextUptoSaid : Prop := fnExactUnmergeTextUptoRow.holds Try.pinned (OpenSpec.upto fnExactUnmergeTextSpec)

/-- 'laws.FnExactStateText', WHERE WHAT IT READS IS OF BULK AT MOST 1048576: true; the input reads as it did. -/
def fnExactStateTextUptoRow : OpenClaim := { program := "ytbpmjgpfjlnlpaa", sum := "64aa3bb0a81eca982807c63f839fda9b5fd97a3af36883b8cbeafdc30abe93e5", func := "loop.example/g01364/laws.FnExactStateText", spec := "fnExactStateText", plainKeys := false, apart := false, narrowed := true }
def FnExactStateTextUptoSaid : Prop := fnExactStateTextUptoRow.holds Try.pinned (OpenSpec.upto fnExactStateTextSpec)

/-- 'laws.FnExactStateBits', WHERE WHAT IT READS IS OF BULK AT MOST 1048576: true; the input reads as it did. -/
def fnExactStateBitsUptoRow : OpenClaim := { program := "ytbpmjgpfjlnlpaa", sum := "64aa3bb0a81eca982807c63f839fda9b5fd97a3af36883b8cbeafdc30abe93e5", func := "loop.example/g01364/laws.FnExactStateBits", spec := "fnExactStateBits", unfollowed := true, recurses := true, plainKeys := false, apart := false, narrowed := true }
def FnExactStateBitsUptoSaid : Prop := fnExactStateBitsUptoRow.holds Try.pinned (OpenSpec.upto fnExactStateBitsSpec)

/-- 'laws.FnExactGrowPairs', WHERE WHAT IT READS IS OF BULK AT MOST 1048576: true; the input reads as it did. -/
def fnExactGrowPairsUptoRow : OpenClaim := { program := "ytbpmjgpfjlnlpaa", sum := "64aa3bb0a81eca982807c63f839fda9b5fd97a3af36883b8cbeafdc30abe93e5", func := "loop.example/g01364/laws.FnExactGrowPairs", spec := "fnExactGrowPairs", plainKeys := false, apart := false, narrowed := true }
def FnExactGrowPairsUptoSaid : Prop := fnExactGrowPairsUptoRow.holds Try.pinned (OpenSpec.upto fnExactGrowPairsSpec)

/-- 'laws.FnExactGrownText', WHERE WHAT IT READS IS OF BULK AT MOST 1048576: true; the input reads as it did. -/
def fnExactGrownTextUptoRow : OpenClaim := { program := "ytbpmjgpfjlnlpaa", sum := "64aa3bb0a81eca982807c63f839fda9b5fd97a3af36883b8cbeafdc30abe93e5", func := "loop.example/g01364/laws.FnExactGrownText", spec := "fnExactGrownText", unfollowed := true, recurses := true, plainKeys := false, apart := false, narrowed := true }
def FnExactGrownTextUptoSaid : Prop := fnExactGrownTextUptoRow.holds Try.pinned (OpenSpec.upto fnExactGrownTextSpec)

/-- 'laws.FnExactMergeText', WHERE WHAT IT READS IS OF BULK AT MOST 1048576: true; the input reads as it did. -/
def fnExactMergeTextUptoRow : OpenClaim := { program := "ytbpmjgpfjlnlpaa", sum := "64aa3bb0a81eca982807c63f839fda9b5fd97a3af36883b8cbeafdc30abe93e5", func := "loop.example/g01364/laws.FnExactMergeText", spec := "fnExactMergeText", unfollowed := true, recurses := true, plainKeys := false, apart := false, narrowed := true }
def FnExactMergeTextUptoSaid : Prop := fnExactMergeTextUptoRow.holds Try.pinned (OpenSpec.upto fnExactMergeTextSpec)

/-- 'laws.FnExactRangeText', WHERE WHAT IT READS IS OF BULK AT MOST 1048576: true; the input reads as it did. -/
def fnExactRangeTextUptoRow : OpenClaim := { program := "ytbpmjgpfjlnlpaa", sum := "64aa3bb0a81eca982807c63f839fda9b5fd97a3af36883b8cbeafdc30abe93e5", func := "loop.example/g01364/laws.FnExactRangeText", spec := "fnExactRangeText", unfollowed := true, recurses := true, plainKeys := false, apart := false, narrowed := true }
def FnExactRangeTextUptoSaid : Prop := fnExactRangeTextUptoRow.holds Try.pinned (OpenSpec.upto fnExactRangeTextSpec)

end Rows
end Go.Proofs.Ytbpmjgpfjlnlpaa
