/-
  No cell of these rows narrows 'for every input' (looked for: loops, veiled, ifaces, maps, wideKeys, modest, calm, conditions, laid).
  DERIVED. THE GIVEN ROWS OF THIS SEAT. 5 by the template 'for every input the law returns true; each argument reads behind the call as it read before'; 0 by the template 'total and deterministic' (their statements: YtfpghmfkbfcifaaTotals.lean).
  GIVEN WITH THE SEED: the statements are not yours to turn. If you find one false, say at which input.
  Laid BY PROGRAM, IN A SANDBOX (cutbox-rows.mjs): the forced cells as the released guide's own fill.sh prints them over the translation 939326e147f1a71b… (all of the seat's roots in one cut). By AI agents, Wed Nov 11 2026. No macro, syntax, notation, axiom, sorry.
-/
import Derived.Test.YtfpghmfkbfcifaaChecked
import GoSem.Claim
import GoSem.ClaimJoined
import GoSem.ClaimMapViews
import Derived.JoinedTies
import Derived.KernelRfl
namespace Go.Proofs.Ytfpghmfkbfcifaa
/- THE CELL 'sum', in the pinned program and in every row, IS THE sha256 OF THE DUMP (.gsa) THAT YtfpghmfkbfcifaaProg.lean LOADS. Nothing in Lean hashes anything: it is a label: what it is worth is what the hold of that sum in a sandbox is worth. -/
noncomputable def Try.pinned : Pinned := { name := "ytfpghmfkbfcifaa", sum := "939326e147f1a71bab79d634cd7790bb296ac3ebe5cd3f704c8acafb6f59a9b9", checked := Try.checked }
namespace Rows
def none {H : Type} : Left H := { results := [], args := [] }

/-- 'laws.FnExactDotNumbers': WHATEVER THE INPUT: true; the input reads as it did. -/
def fnExactDotNumbersSpec : ChangeSpec := { name := "fnExactDotNumbers", fn := fun _ => fun
  | [d1, d2] => { results := [.lit (.bool true)], args := [d1, d2] }
  | _ => none }
def fnExactDotNumbersRow : OpenClaim := { program := "ytfpghmfkbfcifaa", sum := "939326e147f1a71bab79d634cd7790bb296ac3ebe5cd3f704c8acafb6f59a9b9", func := "loop.example/g01364/laws.FnExactDotNumbers", spec := "fnExactDotNumbers", apart := false }
def FnExactDotNumbersSaid : Prop := fnExactDotNumbersRow.holds Try.pinned (OpenSpec.ofChange fnExactDotNumbersSpec)

/-- ITS FALSE NEIGHBOUR: 'it returns false'. Refute it at one input. -/
def fnExactDotNumbersWrong : ChangeSpec := { name := "fnExactDotNumbers", fn := fun _ => fun
  | [d1, d2] => { results := [.lit (.bool false)], args := [d1, d2] }
  | _ => none }
def FnExactDotNumbersWrongFalsely : Prop := fnExactDotNumbersRow.holds Try.pinned (OpenSpec.ofChange fnExactDotNumbersWrong)

/-- 'laws.FnExactGivenEntropy': WHATEVER THE INPUT: true; the input reads as it did. -/
def fnExactGivenEntropySpec : ChangeSpec := { name := "fnExactGivenEntropy", fn := fun _ => fun
  | [d] => { results := [.lit (.bool true)], args := [d] }
  | _ => none }
def fnExactGivenEntropyRow : OpenClaim := { program := "ytfpghmfkbfcifaa", sum := "939326e147f1a71bab79d634cd7790bb296ac3ebe5cd3f704c8acafb6f59a9b9", func := "loop.example/g01364/laws.FnExactGivenEntropy", spec := "fnExactGivenEntropy", inPlace := ["math.Float64frombits", "math.Float64bits", "math.Float32frombits"], unfollowed := true, recurses := true, apart := false }
def FnExactGivenEntropySaid : Prop := fnExactGivenEntropyRow.holds Try.pinned (OpenSpec.ofChange fnExactGivenEntropySpec)

/-- ITS FALSE NEIGHBOUR: 'it returns false'. Refute it at one input. -/
def fnExactGivenEntropyWrong : ChangeSpec := { name := "fnExactGivenEntropy", fn := fun _ => fun
  | [d] => { results := [.lit (.bool false)], args := [d] }
  | _ => none }
def FnExactGivenEntropyWrongFalsely : Prop := fnExactGivenEntropyRow.holds Try.pinned (OpenSpec.ofChange fnExactGivenEntropyWrong)

/-- 'laws.FnExactCommonBits': WHATEVER THE INPUT: true; the input reads as it did. -/
def fnExactCommonBitsSpec : ChangeSpec := { name := "fnExactCommonBits", fn := fun _ => fun
  | [d] => { results := [.lit (.bool true)], args := [d] }
  | _ => none }
def fnExactCommonBitsRow : OpenClaim := { program := "ytfpghmfkbfcifaa", sum := "939326e147f1a71bab79d634cd7790bb296ac3ebe5cd3f704c8acafb6f59a9b9", func := "loop.example/g01364/laws.FnExactCommonBits", spec := "fnExactCommonBits", inPlace := ["math.Float64frombits", "math.Float64bits", "math.Float32frombits"], unfollowed := true, recurses := true, apart := false }
def FnExactCommonBitsSaid : Prop := fnExactCommonBitsRow.holds Try.pinned (OpenSpec.ofChange fnExactCommonBitsSpec)

/-- ITS FALSE NEIGHBOUR: 'it returns false'. Refute it at one input. -/
def fnExactCommonBitsWrong : ChangeSpec := { name := "fnExactCommonBits", fn := fun _ => fun
  | [d] => { results := [.lit (.bool false)], args := [d] }
  | _ => none }
def FnExactCommonBitsWrongFalsely : Prop := fnExactCommonBitsRow.holds Try.pinned (OpenSpec.ofChange fnExactCommonBitsWrong)

/-- 'laws.FnExactOrderEntropy': WHATEVER THE INPUT: true; the input reads as it did. -/
def fnExactOrderEntropySpec : ChangeSpec := { name := "fnExactOrderEntropy", fn := fun _ => fun
  | [d1, d2] => { results := [.lit (.bool true)], args := [d1, d2] }
  | _ => none }
def fnExactOrderEntropyRow : OpenClaim := { program := "ytfpghmfkbfcifaa", sum := "939326e147f1a71bab79d634cd7790bb296ac3ebe5cd3f704c8acafb6f59a9b9", func := "loop.example/g01364/laws.FnExactOrderEntropy", spec := "fnExactOrderEntropy", inPlace := ["math.Float64frombits", "math.Float64bits", "math.Float32frombits"], unfollowed := true, recurses := true, apart := false }
def FnExactOrderEntropySaid : Prop := fnExactOrderEntropyRow.holds Try.pinned (OpenSpec.ofChange fnExactOrderEntropySpec)

/-- ITS FALSE NEIGHBOUR: 'it returns false'. Refute it at one input. -/
def fnExactOrderEntropyWrong : ChangeSpec := { name := "fnExactOrderEntropy", fn := fun _ => fun
  | [d1, d2] => { results := [.lit (.bool false)], args := [d1, d2] }
  | _ => none }
def FnExactOrderEntropyWrongFalsely : Prop := fnExactOrderEntropyRow.holds Try.pinned (OpenSpec.ofChange fnExactOrderEntropyWrong)

/-- 'laws.FnExactTiltRow': WHATEVER THE INPUT: true; the input reads as it did. -/
def fnExactTiltRowSpec : ChangeSpec := { name := "fnExactTiltRow", fn := fun _ => fun
  | [d1, d2, d3] => { results := [.lit (.bool true)], args := [d1, d2, d3] }
  | _ => none }
def fnExactTiltRowRow : OpenClaim := { program := "ytfpghmfkbfcifaa", sum := "939326e147f1a71bab79d634cd7790bb296ac3ebe5cd3f704c8acafb6f59a9b9", func := "loop.example/g01364/laws.FnExactTiltRow", spec := "fnExactTiltRow", inPlace := ["math.Float64frombits", "math.Float64bits"], apart := false }
def FnExactTiltRowSaid : Prop := fnExactTiltRowRow.holds Try.pinned (OpenSpec.ofChange fnExactTiltRowSpec)

/-- ITS FALSE NEIGHBOUR: 'it returns false'. Refute it at one input. -/
def fnExactTiltRowWrong : ChangeSpec := { name := "fnExactTiltRow", fn := fun _ => fun
  | [d1, d2, d3] => { results := [.lit (.bool false)], args := [d1, d2, d3] }
  | _ => none }
def FnExactTiltRowWrongFalsely : Prop := fnExactTiltRowRow.holds Try.pinned (OpenSpec.ofChange fnExactTiltRowWrong)

/- THE SECOND FORM. 'bulk': how many values and letters a reading holds, each counted each time it is reached (what is shared counts as often as it is met; a slice's spare places count too). A statement '..UptoSaid' is the law's where the arguments, and the package variables that the reading takes, are together of bulk at most 1048576: NARROWER than '..Said'. Prove '..Said' where nothing that the law and all that it calls make is longer than what came in: it says more and counts as full. Else prove '..UptoSaid'. A law counts once. -/
mutual
def uptoBulk {H : Type} : DataW H → Nat
  | .lit (.string bytes) => bytes.length + 1
  | .lit _ => 1
  | .nil => 1
  | .ptr d => uptoBulk d + 1
  | .slice elems spare => uptoBulkAll elems + uptoBulkAll spare + 1
  | .agg parts => uptoBulkAll parts + 1
  | .iface _ d => uptoBulk d + 1
  | .map entries => uptoBulkEntries entries + 1
  | .held _ => 1
def uptoBulkAll {H : Type} : List (DataW H) → Nat
  | [] => 0
  | d :: r => uptoBulk d + uptoBulkAll r
def uptoBulkEntries {H : Type} : List (Lit × DataW H) → Nat
  | [] => 0
  | x :: r => uptoBulkEntry x + uptoBulkEntries r
def uptoBulkEntry {H : Type} : Lit × DataW H → Nat
  | (.string bytes, d) => bytes.length + uptoBulk d + 1
  | (_, d) => uptoBulk d + 1
 end
def uptoSmall : (H : Type) → List (DataW H) → Bool := fun _ ds => decide (uptoBulkAll ds ≤ 1048576)
def OpenSpec.upto (s : _root_.Go.ChangeSpec) : _root_.Go.OpenSpec := { _root_.Go.OpenSpec.ofChange s with cond := some uptoSmall }

/-- 'laws.FnExactDotNumbers', WHERE WHAT IT READS IS OF BULK AT MOST 1048576: true; the input reads as it did. -/
def fnExactDotNumbersUptoRow : OpenClaim := { program := "ytfpghmfkbfcifaa", sum := "939326e147f1a71bab79d634cd7790bb296ac3ebe5cd3f704c8acafb6f59a9b9", func := "loop.example/g01364/laws.FnExactDotNumbers", spec := "fnExactDotNumbers", apart := false, narrowed := true }
def FnExactDotNumbersUptoSaid : Prop := fnExactDotNumbersUptoRow.holds Try.pinned (OpenSpec.upto fnExactDotNumbersSpec)

/-- 'laws.FnExactGivenEntropy', WHERE WHAT IT READS IS OF BULK AT MOST 1048576: true; the input reads as it did. -/
def fnExactGivenEntropyUptoRow : OpenClaim := { program := "ytfpghmfkbfcifaa", sum := "939326e147f1a71bab79d634cd7790bb296ac3ebe5cd3f704c8acafb6f59a9b9", func := "loop.example/g01364/laws.FnExactGivenEntropy", spec := "fnExactGivenEntropy", inPlace := ["math.Float64frombits", "math.Float64bits", "math.Float32frombits"], unfollowed := true, recurses := true, apart := false, narrowed := true }
def FnExactGivenEntropyUptoSaid : Prop := fnExactGivenEntropyUptoRow.holds Try.pinned (OpenSpec.upto fnExactGivenEntropySpec)

/-- 'laws.FnExactCommonBits', WHERE WHAT IT READS IS OF BULK AT MOST 1048576: true; the input reads as it did. -/
def fnExactCommonBitsUptoRow : OpenClaim := { program := "ytfpghmfkbfcifaa", sum := "939326e147f1a71bab79d634cd7790bb296ac3ebe5cd3f704c8acafb6f59a9b9", func := "loop.example/g01364/laws.FnExactCommonBits", spec := "fnExactCommonBits", inPlace := ["math.Float64frombits", "math.Float64bits", "math.Float32frombits"], unfollowed := true, recurses := true, apart := false, narrowed := true }
def FnExactCommonBitsUptoSaid : Prop := fnExactCommonBitsUptoRow.holds Try.pinned (OpenSpec.upto fnExactCommonBitsSpec)

/-- 'laws.FnExactOrderEntropy', WHERE WHAT IT READS IS OF BULK AT MOST 1048576: true; the input reads as it did. -/
def fnExactOrderEntropyUptoRow : OpenClaim := { program := "ytfpghmfkbfcifaa", sum := "939326e147f1a71bab79d634cd7790bb296ac3ebe5cd3f704c8acafb6f59a9b9", func := "loop.example/g01364/laws.FnExactOrderEntropy", spec := "fnExactOrderEntropy", inPlace := ["math.Float64frombits", "math.Float64bits", "math.Float32frombits"], unfollowed := true, recurses := true, apart := false, narrowed := true }
def FnExactOrderEntropyUptoSaid : Prop := fnExactOrderEntropyUptoRow.holds Try.pinned (OpenSpec.upto fnExactOrderEntropySpec)

/-- 'laws.FnExactTiltRow', WHERE WHAT IT READS IS OF BULK AT MOST 1048576: true; the input reads as it did. -/
def fnExactTiltRowUptoRow : OpenClaim := { program := "ytfpghmfkbfcifaa", sum := "939326e147f1a71bab79d634cd7790bb296ac3ebe5cd3f704c8acafb6f59a9b9", func := "loop.example/g01364/laws.FnExactTiltRow", spec := "fnExactTiltRow", inPlace := ["math.Float64frombits", "math.Float64bits"], apart := false, narrowed := true }
def FnExactTiltRowUptoSaid : Prop := fnExactTiltRowUptoRow.holds Try.pinned (OpenSpec.upto fnExactTiltRowSpec)

end Rows
end Go.Proofs.Ytfpghmfkbfcifaa
