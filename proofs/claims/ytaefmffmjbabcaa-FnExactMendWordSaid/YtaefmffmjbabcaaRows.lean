/-
  No cell of these rows narrows 'for every input' (looked for: loops, veiled, ifaces, maps, wideKeys, modest, calm, conditions, laid).
  DERIVED. THE GIVEN ROWS OF THIS SEAT. 10 by the template 'for every input the law returns true; each argument reads behind the call as it read before'; 0 by the template 'total and deterministic' (their statements: YtaefmffmjbabcaaTotals.lean).
  GIVEN WITH THE SEED: the statements are not yours to turn. If you find one false, say at which input.
  Laid BY PROGRAM, IN A SANDBOX (cutbox-rows.mjs): the forced cells as the released guide's own fill.sh prints them over the translation 8830133429beeb6b… (all of the seat's roots in one cut). By AI agents, Wed Nov 11 2026. No macro, syntax, notation, axiom, sorry.
-/
import Derived.Test.YtaefmffmjbabcaaChecked
import GoSem.Claim
import GoSem.ClaimJoined
import GoSem.ClaimMapViews
import Derived.JoinedTies
import Derived.KernelRfl
namespace Go.Proofs.Ytaefmffmjbabcaa
/- THE CELL 'sum', in the pinned program and in every row, IS THE sha256 OF THE DUMP (.gsa) THAT YtaefmffmjbabcaaProg.lean LOADS. Nothing in Lean hashes anything: it is a label: what it is worth is what the hold of that sum in a sandbox is worth. -/
noncomputable def Try.pinned : Pinned := { name := "ytaefmffmjbabcaa", sum := "8830133429beeb6b5a5ddcead3f45bb99c6e366ec6d19eae8f6b9bdf8a5962c0", checked := Try.checked }
namespace Rows
def none {H : Type} : Left H := { results := [], args := [] }

/-- 'laws.FnExactLeadersOf': WHATEVER THE INPUT: true; the input reads as it did. -/
def fnExactLeadersOfSpec : ChangeSpec := { name := "fnExactLeadersOf", fn := fun _ => fun
  | [d] => { results := [.lit (.bool true)], args := [d] }
  | _ => none }
def fnExactLeadersOfRow : OpenClaim := { program := "ytaefmffmjbabcaa", sum := "8830133429beeb6b5a5ddcead3f45bb99c6e366ec6d19eae8f6b9bdf8a5962c0", func := "loop.example/g01364/laws.FnExactLeadersOf", spec := "fnExactLeadersOf", unfollowed := true, recurses := true, apart := false }
def FnExactLeadersOfSaid : Prop := fnExactLeadersOfRow.holds Try.pinned (OpenSpec.ofChange fnExactLeadersOfSpec)

/-- ITS FALSE NEIGHBOUR: 'it returns false'. Refute it at one input. -/
def fnExactLeadersOfWrong : ChangeSpec := { name := "fnExactLeadersOf", fn := fun _ => fun
  | [d] => { results := [.lit (.bool false)], args := [d] }
  | _ => none }
def FnExactLeadersOfWrongFalsely : Prop := fnExactLeadersOfRow.holds Try.pinned (OpenSpec.ofChange fnExactLeadersOfWrong)

/-- 'laws.FnExactMendWord': WHATEVER THE INPUT: true; the input reads as it did. -/
def fnExactMendWordSpec : ChangeSpec := { name := "fnExactMendWord", fn := fun _ => fun
  | [d1, d2] => { results := [.lit (.bool true)], args := [d1, d2] }
  | _ => none }
def fnExactMendWordRow : OpenClaim := { program := "ytaefmffmjbabcaa", sum := "8830133429beeb6b5a5ddcead3f45bb99c6e366ec6d19eae8f6b9bdf8a5962c0", func := "loop.example/g01364/laws.FnExactMendWord", spec := "fnExactMendWord", unfollowed := true, recurses := true, apart := false }
def FnExactMendWordSaid : Prop := fnExactMendWordRow.holds Try.pinned (OpenSpec.ofChange fnExactMendWordSpec)

/-- ITS FALSE NEIGHBOUR: 'it returns false'. Refute it at one input. -/
def fnExactMendWordWrong : ChangeSpec := { name := "fnExactMendWord", fn := fun _ => fun
  | [d1, d2] => { results := [.lit (.bool false)], args := [d1, d2] }
  | _ => none }
def FnExactMendWordWrongFalsely : Prop := fnExactMendWordRow.holds Try.pinned (OpenSpec.ofChange fnExactMendWordWrong)

/-- 'laws.FnExactShareSecret': WHATEVER THE INPUT: true; the input reads as it did. -/
def fnExactShareSecretSpec : ChangeSpec := { name := "fnExactShareSecret", fn := fun _ => fun
  | [d1, d2, d3, d4] => { results := [.lit (.bool true)], args := [d1, d2, d3, d4] }
  | _ => none }
def fnExactShareSecretRow : OpenClaim := { program := "ytaefmffmjbabcaa", sum := "8830133429beeb6b5a5ddcead3f45bb99c6e366ec6d19eae8f6b9bdf8a5962c0", func := "loop.example/g01364/laws.FnExactShareSecret", spec := "fnExactShareSecret", unfollowed := true, recurses := true, apart := false }
def FnExactShareSecretSaid : Prop := fnExactShareSecretRow.holds Try.pinned (OpenSpec.ofChange fnExactShareSecretSpec)

/-- ITS FALSE NEIGHBOUR: 'it returns false'. Refute it at one input. -/
def fnExactShareSecretWrong : ChangeSpec := { name := "fnExactShareSecret", fn := fun _ => fun
  | [d1, d2, d3, d4] => { results := [.lit (.bool false)], args := [d1, d2, d3, d4] }
  | _ => none }
def FnExactShareSecretWrongFalsely : Prop := fnExactShareSecretRow.holds Try.pinned (OpenSpec.ofChange fnExactShareSecretWrong)

/-- 'laws.FnExactValuesOver': WHATEVER THE INPUT: true; the input reads as it did. -/
def fnExactValuesOverSpec : ChangeSpec := { name := "fnExactValuesOver", fn := fun _ => fun
  | [d1, d2, d3] => { results := [.lit (.bool true)], args := [d1, d2, d3] }
  | _ => none }
def fnExactValuesOverRow : OpenClaim := { program := "ytaefmffmjbabcaa", sum := "8830133429beeb6b5a5ddcead3f45bb99c6e366ec6d19eae8f6b9bdf8a5962c0", func := "loop.example/g01364/laws.FnExactValuesOver", spec := "fnExactValuesOver", unfollowed := true, recurses := true, apart := false }
def FnExactValuesOverSaid : Prop := fnExactValuesOverRow.holds Try.pinned (OpenSpec.ofChange fnExactValuesOverSpec)

/-- ITS FALSE NEIGHBOUR: 'it returns false'. Refute it at one input. -/
def fnExactValuesOverWrong : ChangeSpec := { name := "fnExactValuesOver", fn := fun _ => fun
  | [d1, d2, d3] => { results := [.lit (.bool false)], args := [d1, d2, d3] }
  | _ => none }
def FnExactValuesOverWrongFalsely : Prop := fnExactValuesOverRow.holds Try.pinned (OpenSpec.ofChange fnExactValuesOverWrong)

/-- 'laws.FnExactJoinShares': WHATEVER THE INPUT: true; the input reads as it did. -/
def fnExactJoinSharesSpec : ChangeSpec := { name := "fnExactJoinShares", fn := fun _ => fun
  | [d1, d2, d3] => { results := [.lit (.bool true)], args := [d1, d2, d3] }
  | _ => none }
def fnExactJoinSharesRow : OpenClaim := { program := "ytaefmffmjbabcaa", sum := "8830133429beeb6b5a5ddcead3f45bb99c6e366ec6d19eae8f6b9bdf8a5962c0", func := "loop.example/g01364/laws.FnExactJoinShares", spec := "fnExactJoinShares", unfollowed := true, recurses := true, apart := false }
def FnExactJoinSharesSaid : Prop := fnExactJoinSharesRow.holds Try.pinned (OpenSpec.ofChange fnExactJoinSharesSpec)

/-- ITS FALSE NEIGHBOUR: 'it returns false'. Refute it at one input. -/
def fnExactJoinSharesWrong : ChangeSpec := { name := "fnExactJoinShares", fn := fun _ => fun
  | [d1, d2, d3] => { results := [.lit (.bool false)], args := [d1, d2, d3] }
  | _ => none }
def FnExactJoinSharesWrongFalsely : Prop := fnExactJoinSharesRow.holds Try.pinned (OpenSpec.ofChange fnExactJoinSharesWrong)

/-- 'laws.FnExactFitsShares': WHATEVER THE INPUT: true; the input reads as it did. -/
def fnExactFitsSharesSpec : ChangeSpec := { name := "fnExactFitsShares", fn := fun _ => fun
  | [d1, d2, d3, d4] => { results := [.lit (.bool true)], args := [d1, d2, d3, d4] }
  | _ => none }
def fnExactFitsSharesRow : OpenClaim := { program := "ytaefmffmjbabcaa", sum := "8830133429beeb6b5a5ddcead3f45bb99c6e366ec6d19eae8f6b9bdf8a5962c0", func := "loop.example/g01364/laws.FnExactFitsShares", spec := "fnExactFitsShares", unfollowed := true, recurses := true, apart := false }
def FnExactFitsSharesSaid : Prop := fnExactFitsSharesRow.holds Try.pinned (OpenSpec.ofChange fnExactFitsSharesSpec)

/-- ITS FALSE NEIGHBOUR: 'it returns false'. Refute it at one input. -/
def fnExactFitsSharesWrong : ChangeSpec := { name := "fnExactFitsShares", fn := fun _ => fun
  | [d1, d2, d3, d4] => { results := [.lit (.bool false)], args := [d1, d2, d3, d4] }
  | _ => none }
def FnExactFitsSharesWrongFalsely : Prop := fnExactFitsSharesRow.holds Try.pinned (OpenSpec.ofChange fnExactFitsSharesWrong)

/-- 'laws.FnExactStoreSaved': WHATEVER THE INPUT: true; the input reads as it did. -/
def fnExactStoreSavedSpec : ChangeSpec := { name := "fnExactStoreSaved", fn := fun _ => fun
  | [d] => { results := [.lit (.bool true)], args := [d] }
  | _ => none }
def fnExactStoreSavedRow : OpenClaim := { program := "ytaefmffmjbabcaa", sum := "8830133429beeb6b5a5ddcead3f45bb99c6e366ec6d19eae8f6b9bdf8a5962c0", func := "loop.example/g01364/laws.FnExactStoreSaved", spec := "fnExactStoreSaved", inPlace := ["math.Float32bits", "math.Float64bits", "math.Float64frombits", "internal/abi.NoEscape"], apart := false }
def FnExactStoreSavedSaid : Prop := fnExactStoreSavedRow.holds Try.pinned (OpenSpec.ofChange fnExactStoreSavedSpec)

/-- ITS FALSE NEIGHBOUR: 'it returns false'. Refute it at one input. -/
def fnExactStoreSavedWrong : ChangeSpec := { name := "fnExactStoreSaved", fn := fun _ => fun
  | [d] => { results := [.lit (.bool false)], args := [d] }
  | _ => none }
def FnExactStoreSavedWrongFalsely : Prop := fnExactStoreSavedRow.holds Try.pinned (OpenSpec.ofChange fnExactStoreSavedWrong)

/-- 'laws.FnExactStoreAll': WHATEVER THE INPUT: true; the input reads as it did. -/
def fnExactStoreAllSpec : ChangeSpec := { name := "fnExactStoreAll", fn := fun _ => fun
  | [d] => { results := [.lit (.bool true)], args := [d] }
  | _ => none }
def fnExactStoreAllRow : OpenClaim := { program := "ytaefmffmjbabcaa", sum := "8830133429beeb6b5a5ddcead3f45bb99c6e366ec6d19eae8f6b9bdf8a5962c0", func := "loop.example/g01364/laws.FnExactStoreAll", spec := "fnExactStoreAll", inPlace := ["math.Float32bits", "math.Float64bits", "math.Float64frombits", "internal/abi.NoEscape"], apart := false }
def FnExactStoreAllSaid : Prop := fnExactStoreAllRow.holds Try.pinned (OpenSpec.ofChange fnExactStoreAllSpec)

/-- ITS FALSE NEIGHBOUR: 'it returns false'. Refute it at one input. -/
def fnExactStoreAllWrong : ChangeSpec := { name := "fnExactStoreAll", fn := fun _ => fun
  | [d] => { results := [.lit (.bool false)], args := [d] }
  | _ => none }
def FnExactStoreAllWrongFalsely : Prop := fnExactStoreAllRow.holds Try.pinned (OpenSpec.ofChange fnExactStoreAllWrong)

/-- 'laws.FnExactFibonacciOf': WHATEVER THE INPUT: true; the input reads as it did. -/
def fnExactFibonacciOfSpec : ChangeSpec := { name := "fnExactFibonacciOf", fn := fun _ => fun
  | [d] => { results := [.lit (.bool true)], args := [d] }
  | _ => none }
def fnExactFibonacciOfRow : OpenClaim := { program := "ytaefmffmjbabcaa", sum := "8830133429beeb6b5a5ddcead3f45bb99c6e366ec6d19eae8f6b9bdf8a5962c0", func := "loop.example/g01364/laws.FnExactFibonacciOf", spec := "fnExactFibonacciOf", inPlace := ["internal/abi.NoEscape", "internal/bytealg.MakeNoZero"], unfollowed := true, recurses := true, apart := false }
def FnExactFibonacciOfSaid : Prop := fnExactFibonacciOfRow.holds Try.pinned (OpenSpec.ofChange fnExactFibonacciOfSpec)

/-- ITS FALSE NEIGHBOUR: 'it returns false'. Refute it at one input. -/
def fnExactFibonacciOfWrong : ChangeSpec := { name := "fnExactFibonacciOf", fn := fun _ => fun
  | [d] => { results := [.lit (.bool false)], args := [d] }
  | _ => none }
def FnExactFibonacciOfWrongFalsely : Prop := fnExactFibonacciOfRow.holds Try.pinned (OpenSpec.ofChange fnExactFibonacciOfWrong)

/-- 'laws.FnExactStateBits': WHATEVER THE INPUT: true; the input reads as it did. -/
def fnExactStateBitsSpec : ChangeSpec := { name := "fnExactStateBits", fn := fun _ => fun
  | [d1, d2] => { results := [.lit (.bool true)], args := [d1, d2] }
  | _ => none }
def fnExactStateBitsRow : OpenClaim := { program := "ytaefmffmjbabcaa", sum := "8830133429beeb6b5a5ddcead3f45bb99c6e366ec6d19eae8f6b9bdf8a5962c0", func := "loop.example/g01364/laws.FnExactStateBits", spec := "fnExactStateBits", unfollowed := true, recurses := true, apart := false }
def FnExactStateBitsSaid : Prop := fnExactStateBitsRow.holds Try.pinned (OpenSpec.ofChange fnExactStateBitsSpec)

/-- ITS FALSE NEIGHBOUR: 'it returns false'. Refute it at one input. -/
def fnExactStateBitsWrong : ChangeSpec := { name := "fnExactStateBits", fn := fun _ => fun
  | [d1, d2] => { results := [.lit (.bool false)], args := [d1, d2] }
  | _ => none }
def FnExactStateBitsWrongFalsely : Prop := fnExactStateBitsRow.holds Try.pinned (OpenSpec.ofChange fnExactStateBitsWrong)

/- THE SECOND FORM. 'bulk': how many values and letters a reading holds, each counted each time it is reached (what is shared counts as often as it is met; a slice's spare places count too). A statement '..UptoSaid' is the law's where the arguments, and the package variables that the reading takes, are together of bulk at most 1048576: NARROWER than '..Said'. Prove '..Said' where nothing that the law and all that it calls make is longer than what came in: it says more and counts as full. Else prove '..UptoSaid'. A law counts once. -/
mutual
def uptoBulk {H : Type} : DataW H → Nat
  | .lit (.string bytes) => bytes.length + 1
  | .lit _ => 1
  | .nil => 1
  | .ptr d => uptoBulk d + 1
  | .slice elems spare => uptoBulkAll elems + uptoBulkAll spare + 1
  | .agg parts => uptoBulkAll parts + 1
  | .iface _ d => uptoBulk d + 1
  | .map entries => uptoBulkEntries entries + 1
  | .held _ => 1
def uptoBulkAll {H : Type} : List (DataW H) → Nat
  | [] => 0
  | d :: r => uptoBulk d + uptoBulkAll r
def uptoBulkEntries {H : Type} : List (Lit × DataW H) → Nat
  | [] => 0
  | x :: r => uptoBulkEntry x + uptoBulkEntries r
def uptoBulkEntry {H : Type} : Lit × DataW H → Nat
  | (.string bytes, d) => bytes.length + uptoBulk d + 1
  | (_, d) => uptoBulk d + 1
 end
def uptoSmall : (H : Type) → List (DataW H) → Bool := fun _ ds => decide (uptoBulkAll ds ≤ 1048576)
def OpenSpec.upto (s : _root_.Go.ChangeSpec) : _root_.Go.OpenSpec := { _root_.Go.OpenSpec.ofChange s with cond := some uptoSmall }

/-- 'laws.FnExactLeadersOf', WHERE WHAT IT READS IS OF BULK AT MOST 1048576: true; the input reads as it did. -/
def fnExactLeadersOfUptoRow : OpenClaim := { program := "ytaefmffmjbabcaa", sum := "8830133429beeb6b5a5ddcead3f45bb99c6e366ec6d19eae8f6b9bdf8a5962c0", func := "loop.example/g01364/laws.FnExactLeadersOf", spec := "fnExactLeadersOf", unfollowed := true, recurses := true, apart := false, narrowed := true }
def FnExactLeadersOfUptoSaid : Prop := fnExactLeadersOfUptoRow.holds Try.pinned (OpenSpec.upto fnExactLeadersOfSpec)

/-- 'laws.FnExactMendWord', WHERE WHAT IT READS IS OF BULK AT MOST 1048576: true; the input reads as it did. -/
def fnExactMendWordUptoRow : OpenClaim := { program := "ytaefmffmjbabcaa", sum := "8830133429beeb6b5a5ddcead3f45bb99c6e366ec6d19eae8f6b9bdf8a5962c0", func := "loop.example/g01364/laws.FnExactMendWord", spec := "fnExactMendWord", unfollowed := true, recurses := true, apart := false, narrowed := true }
def FnExactMendWordUptoSaid : Prop := fnExactMendWordUptoRow.holds Try.pinned (OpenSpec.upto fnExactMendWordSpec)

/-- 'laws.FnExactShareSecret', WHERE WHAT IT READS IS OF BULK AT MOST 1048576: true; the input reads as it did. -/
def fnExactShareSecretUptoRow : OpenClaim := { program := "ytaefmffmjbabcaa", sum := "8830133429beeb6b5a5ddcead3f45bb99c6e366ec6d19eae8f6b9bdf8a5962c0", func := "loop.example/g01364/laws.FnExactShareSecret", spec := "fnExactShareSecret", unfollowed := true, recurses := true, apart := false, narrowed := true }
def FnExactShareSecretUptoSaid : Prop := fnExactShareSecretUptoRow.holds Try.pinned (OpenSpec.upto fnExactShareSecretSpec)

/-- 'laws.FnExactValuesOver', WHERE WHAT IT READS IS OF BULK AT MOST 1048576: true; the input reads as it did. -/
def fnExactValuesOverUptoRow : OpenClaim := { program := "ytaefmffmjbabcaa", sum := "8830133429beeb6b5a5ddcead3f45bb99c6e366ec6d19eae8f6b9bdf8a5962c0", func := "loop.example/g01364/laws.FnExactValuesOver", spec := "fnExactValuesOver", unfollowed := true, recurses := true, apart := false, narrowed := true }
def FnExactValuesOverUptoSaid : Prop := fnExactValuesOverUptoRow.holds Try.pinned (OpenSpec.upto fnExactValuesOverSpec)

/-- 'laws.FnExactJoinShares', WHERE WHAT IT READS IS OF BULK AT MOST 1048576: true; the input reads as it did. -/
def fnExactJoinSharesUptoRow : OpenClaim := { program := "ytaefmffmjbabcaa", sum := "8830133429beeb6b5a5ddcead3f45bb99c6e366ec6d19eae8f6b9bdf8a5962c0", func := "loop.example/g01364/laws.FnExactJoinShares", spec := "fnExactJoinShares", unfollowed := true, recurses := true, apart := false, narrowed := true }
def FnExactJoinSharesUptoSaid : Prop := fnExactJoinSharesUptoRow.holds Try.pinned (OpenSpec.upto fnExactJoinSharesSpec)

/-- 'laws.FnExactFitsShares', WHERE WHAT IT READS IS OF BULK AT MOST 1048576: true; the input reads as it did. -/
def fnExactFitsSharesUptoRow : OpenClaim := { program := "ytaefmffmjbabcaa", sum := "8830133429beeb6b5a5ddcead3f45bb99c6e366ec6d19eae8f6b9bdf8a5962c0", func := "loop.example/g01364/laws.FnExactFitsShares", spec := "fnExactFitsShares", unfollowed := true, recurses := true, apart := false, narrowed := true }
def FnExactFitsSharesUptoSaid : Prop := fnExactFitsSharesUptoRow.holds Try.pinned (OpenSpec.upto fnExactFitsSharesSpec)

/-- 'laws.FnExactStoreSaved', WHERE WHAT IT READS IS OF BULK AT MOST 1048576: true; the input reads as it did. -/
def fnExactStoreSavedUptoRow : OpenClaim := { program := "ytaefmffmjbabcaa", sum := "8830133429beeb6b5a5ddcead3f45bb99c6e366ec6d19eae8f6b9bdf8a5962c0", func := "loop.example/g01364/laws.FnExactStoreSaved", spec := "fnExactStoreSaved", inPlace := ["math.Float32bits", "math.Float64bits", "math.Float64frombits", "internal/abi.NoEscape"], apart := false, narrowed := true }
def FnExactStoreSavedUptoSaid : Prop := fnExactStoreSavedUptoRow.holds Try.pinned (OpenSpec.upto fnExactStoreSavedSpec)

/-- 'laws.FnExactStoreAll', WHERE WHAT IT READS IS OF BULK AT MOST 1048576: true; the input reads as it did. -/
def fnExactStoreAllUptoRow : OpenClaim := { program := "ytaefmffmjbabcaa", sum := "8830133429beeb6b5a5ddcead3f45bb99c6e366ec6d19eae8f6b9bdf8a5962c0", func := "loop.example/g01364/laws.FnExactStoreAll", spec := "fnExactStoreAll", inPlace := ["math.Float32bits", "math.Float64bits", "math.Float64frombits", "internal/abi.NoEscape"], apart := false, narrowed := true }
def FnExactStoreAllUptoSaid : Prop := fnExactStoreAllUptoRow.holds Try.pinned (OpenSpec.upto fnExactStoreAllSpec)

/-- 'laws.FnExactFibonacciOf', WHERE WHAT IT READS IS OF BULK AT MOST 1048576: true; the input reads as it did. -/
def fnExactFibonacciOfUptoRow : OpenClaim := { program := "ytaefmffmjbabcaa", sum := "8830133429beeb6b5a5ddcead3f45bb99c6e366ec6d19eae8f6b9bdf8a5962c0", func := "loop.example/g01364/laws.FnExactFibonacciOf", spec := "fnExactFibonacciOf", inPlace := ["internal/abi.NoEscape", "internal/bytealg.MakeNoZero"], unfollowed := true, recurses := true, apart := false, narrowed := true }
def FnExactFibonacciOfUptoSaid : Prop := fnExactFibonacciOfUptoRow.holds Try.pinned (OpenSpec.upto fnExactFibonacciOfSpec)

/-- 'laws.FnExactStateBits', WHERE WHAT IT READS IS OF BULK AT MOST 1048576: true; the input reads as it did. -/
def fnExactStateBitsUptoRow : OpenClaim := { program := "ytaefmffmjbabcaa", sum := "8830133429beeb6b5a5ddcead3f45bb99c6e366ec6d19eae8f6b9bdf8a5962c0", func := "loop.example/g01364/laws.FnExactStateBits", spec := "fnExactStateBits", unfollowed := true, recurses := true, apart := false, narrowed := true }
def FnExactStateBitsUptoSaid : Prop := fnExactStateBitsUptoRow.holds Try.pinned (OpenSpec.upto fnExactStateBitsSpec)

end Rows
end Go.Proofs.Ytaefmffmjbabcaa
