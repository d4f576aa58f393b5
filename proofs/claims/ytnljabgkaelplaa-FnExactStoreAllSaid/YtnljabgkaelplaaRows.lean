/-
  No cell of these rows narrows 'for every input' (looked for: loops, veiled, ifaces, maps, wideKeys, modest, calm, conditions, laid).
  DERIVED. THE GIVEN ROWS OF THIS SEAT. 5 by the template 'for every input the law returns true; each argument reads behind the call as it read before'; 0 by the template 'total and deterministic' (their statements: YtnljabgkaelplaaTotals.lean).
  GIVEN WITH THE SEED: the statements are not yours to turn. If you find one false, say at which input.
  Laid BY PROGRAM, IN A SANDBOX (cutbox-rows.mjs): the forced cells as the released guide's own fill.sh prints them over the translation 5bb8b25d02d502c2… (all of the seat's roots in one cut). By AI agents, Wed Nov 11 2026. No macro, syntax, notation, axiom, sorry.
-/
import Derived.Test.YtnljabgkaelplaaChecked
import GoSem.Claim
import GoSem.ClaimJoined
import GoSem.ClaimMapViews
import Derived.JoinedTies
import Derived.KernelRfl
namespace Go.Proofs.Ytnljabgkaelplaa
/- THE CELL 'sum', in the pinned program and in every row, IS THE sha256 OF THE DUMP (.gsa) THAT YtnljabgkaelplaaProg.lean LOADS. Nothing in Lean hashes anything: it is a label: what it is worth is what the hold of that sum in a sandbox is worth. -/
noncomputable def Try.pinned : Pinned := { name := "ytnljabgkaelplaa", sum := "5bb8b25d02d502c2c1cd1f65a47f1f6c37d6a4c56c666dcda173e6808ce82b30", checked := Try.checked }
namespace Rows
def none {H : Type} : Left H := { results := [], args := [] }

/-- 'laws.FnExactStoreSaved': WHATEVER THE INPUT: true; the input reads as it did. -/
def fnExactStoreSavedSpec : ChangeSpec := { name := "fnExactStoreSaved", fn := fun _ => fun
  | [d] => { results := [.lit (.bool true)], args := [d] }
  | _ => none }
def fnExactStoreSavedRow : OpenClaim := { program := "ytnljabgkaelplaa", sum := "5bb8b25d02d502c2c1cd1f65a47f1f6c37d6a4c56c666dcda173e6808ce82b30", func := "loop.example/g01364/laws.FnExactStoreSaved", spec := "fnExactStoreSaved", inPlace := ["math.Float32bits", "math.Float64bits", "math.Float64frombits", "internal/abi.NoEscape"], apart := false }
def FnExactStoreSavedSaid : Prop := fnExactStoreSavedRow.holds Try.pinned (OpenSpec.ofChange fnExactStoreSavedSpec)

/-- ITS FALSE NEIGHBOUR: 'it returns false'. Refute it at one input. -/
def fnExactStoreSavedWrong : ChangeSpec := { name := "fnExactStoreSaved", fn := fun _ => fun
  | [d] => { results := [.lit (.bool false)], args := [d] }
  | _ => none }
def FnExactStoreSavedWrongFalsely : Prop := fnExactStoreSavedRow.holds Try.pinned (OpenSpec.ofChange fnExactStoreSavedWrong)

/-- 'laws.FnExactStoreAll': WHATEVER THE INPUT: true; the input reads as it did. -/
def fnExactStoreAllSpec : ChangeSpec := { name := "fnExactStoreAll", fn := fun _ => fun
  | [d] => { results := [.lit (.bool true)], args := [d] }
  | _ => none }
def fnExactStoreAllRow : OpenClaim := { program := "ytnljabgkaelplaa", sum := "5bb8b25d02d502c2c1cd1f65a47f1f6c37d6a4c56c666dcda173e6808ce82b30", func := "loop.example/g01364/laws.FnExactStoreAll", spec := "fnExactStoreAll", inPlace := ["math.Float32bits", "math.Float64bits", "math.Float64frombits", "internal/abi.NoEscape"], apart := false }
def FnExactStoreAllSaid : Prop := fnExactStoreAllRow.holds Try.pinned (OpenSpec.ofChange fnExactStoreAllSpec)

/-- ITS FALSE NEIGHBOUR: 'it returns false'. Refute it at one input. -/
def fnExactStoreAllWrong : ChangeSpec := { name := "fnExactStoreAll", fn := fun _ => fun
  | [d] => { results := [.lit (.bool false)], args := [d] }
  | _ => none }
def FnExactStoreAllWrongFalsely : Prop := fnExactStoreAllRow.holds Try.pinned (OpenSpec.ofChange fnExactStoreAllWrong)

/-- 'laws.FnExactStateBits': WHATEVER THE INPUT: true; the input reads as it did. -/
def fnExactStateBitsSpec : ChangeSpec := { name := "fnExactStateBits", fn := fun _ => fun
  | [d1, d2] => { results := [.lit (.bool true)], args := [d1, d2] }
  | _ => none }
def fnExactStateBitsRow : OpenClaim := { program := "ytnljabgkaelplaa", sum := "5bb8b25d02d502c2c1cd1f65a47f1f6c37d6a4c56c666dcda173e6808ce82b30", func := "loop.example/g01364/laws.FnExactStateBits", spec := "fnExactStateBits", unfollowed := true, recurses := true, apart := false }
def FnExactStateBitsSaid : Prop := fnExactStateBitsRow.holds Try.pinned (OpenSpec.ofChange fnExactStateBitsSpec)

/-- ITS FALSE NEIGHBOUR: 'it returns false'. Refute it at one input. -/
def fnExactStateBitsWrong : ChangeSpec := { name := "fnExactStateBits", fn := fun _ => fun
  | [d1, d2] => { results := [.lit (.bool false)], args := [d1, d2] }
  | _ => none }
def FnExactStateBitsWrongFalsely : Prop := fnExactStateBitsRow.holds Try.pinned (OpenSpec.ofChange fnExactStateBitsWrong)

/-- 'laws.FnExactIsMoreEven': WHATEVER THE INPUT: true; the input reads as it did. -/
def fnExactIsMoreEvenSpec : ChangeSpec := { name := "fnExactIsMoreEven", fn := fun _ => fun
  | [d1, d2] => { results := [.lit (.bool true)], args := [d1, d2] }
  | _ => none }
def fnExactIsMoreEvenRow : OpenClaim := { program := "ytnljabgkaelplaa", sum := "5bb8b25d02d502c2c1cd1f65a47f1f6c37d6a4c56c666dcda173e6808ce82b30", func := "loop.example/g01364/laws.FnExactIsMoreEven", spec := "fnExactIsMoreEven", unfollowed := true, recurses := true, apart := false }
def FnExactIsMoreEvenSaid : Prop := fnExactIsMoreEvenRow.holds Try.pinned (OpenSpec.ofChange fnExactIsMoreEvenSpec)

/-- ITS FALSE NEIGHBOUR: 'it returns false'. Refute it at one input. -/
def fnExactIsMoreEvenWrong : ChangeSpec := { name := "fnExactIsMoreEven", fn := fun _ => fun
  | [d1, d2] => { results := [.lit (.bool false)], args := [d1, d2] }
  | _ => none }
def FnExactIsMoreEvenWrongFalsely : Prop := fnExactIsMoreEvenRow.holds Try.pinned (OpenSpec.ofChange fnExactIsMoreEvenWrong)

/-- 'laws.FnExactFlipRounds': WHATEVER THE INPUT: true; the input reads as it did. -/
def fnExactFlipRoundsSpec : ChangeSpec := { name := "fnExactFlipRounds", fn := fun _ => fun
  | [d1, d2, d3] => { results := [.lit (.bool true)], args := [d1, d2, d3] }
  | _ => none }
def fnExactFlipRoundsRow : OpenClaim := { program := "ytnljabgkaelplaa", sum := "5bb8b25d02d502c2c1cd1f65a47f1f6c37d6a4c56c666dcda173e6808ce82b30", func := "loop.example/g01364/laws.FnExactFlipRounds", spec := "fnExactFlipRounds", apart := false }
def FnExactFlipRoundsSaid : Prop := fnExactFlipRoundsRow.holds Try.pinned (OpenSpec.ofChange fnExactFlipRoundsSpec)

/-- ITS FALSE NEIGHBOUR: 'it returns false'. Refute it at one input. -/
def fnExactFlipRoundsWrong : ChangeSpec := { name := "fnExactFlipRounds", fn := fun _ => fun
  | [d1, d2, d3] => { results := [.lit (.bool false)], args := [d1, d2, d3] }
  | _ => none }
def FnExactFlipRoundsWrongFalsely : Prop := fnExactFlipRoundsRow.holds Try.pinned (OpenSpec.ofChange fnExactFlipRoundsWrong)

/- THE SECOND FORM. 'bulk': how many values and letters a reading holds, each counted each time it is reached (what is shared counts as often as it is met; a slice's spare places count too). A statement '..UptoSaid' is the law's where the arguments, and the package variables that the reading takes, are together of bulk at most 1048576: NARROWER than '..Said'. Prove '..Said' where nothing that the law and all that it calls make is longer than what came in: it says more and counts as full. Else prove '..UptoSaid'. A law counts once. -/
mutual
def uptoBulk {H : Type} : DataW H → Nat
  | .lit (.string bytes) => bytes.length + 1
  | .lit _ => 1
  | .nil => 1
  | .ptr d => uptoBulk d + 1
  | .slice elems spare => uptoBulkAll elems + uptoBulkAll spare + 1
  | .agg parts => uptoBulkAll parts + 1
  | .iface _ d => uptoBulk d + 1
  | .map entries => uptoBulkEntries entries + 1
  | .held _ => 1
def uptoBulkAll {H : Type} : List (DataW H) → Nat
  | [] => 0
  | d :: r => uptoBulk d + uptoBulkAll r
def uptoBulkEntries {H : Type} : List (Lit × DataW H) → Nat
  | [] => 0
  | x :: r => uptoBulkEntry x + uptoBulkEntries r
def uptoBulkEntry {H : Type} : Lit × DataW H → Nat
  | (.string bytes, d) => bytes.length + uptoBulk d + 1
  | (_, d) => uptoBulk d + 1
 end
def uptoSmall : (H : Type) → List (DataW H) → Bool := fun _ ds => decide (uptoBulkAll ds ≤ 1048576)
def OpenSpec.upto (s : _root_.Go.ChangeSpec) : _root_.Go.OpenSpec := { _root_.Go.OpenSpec.ofChange s with cond := some uptoSmall }

/-- 'laws.FnExactStoreSaved', WHERE WHAT IT READS IS OF BULK AT MOST 1048576: true; the input reads as it did. -/
def fnExactStoreSavedUptoRow : OpenClaim := { program := "ytnljabgkaelplaa", sum := "5bb8b25d02d502c2c1cd1f65a47f1f6c37d6a4c56c666dcda173e6808ce82b30", func := "loop.example/g01364/laws.FnExactStoreSaved", spec := "fnExactStoreSaved", inPlace := ["math.Float32bits", "math.Float64bits", "math.Float64frombits", "internal/abi.NoEscape"], apart := false, narrowed := true }
def FnExactStoreSavedUptoSaid : Prop := fnExactStoreSavedUptoRow.holds Try.pinned (OpenSpec.upto fnExactStoreSavedSpec)

/-- 'laws.FnExactStoreAll', WHERE WHAT IT READS IS OF BULK AT MOST 1048576: true; the input reads as it did. -/
def fnExactStoreAllUptoRow : OpenClaim := { program := "ytnljabgkaelplaa", sum := "5bb8b25d02d502c2c1cd1f65a47f1f6c37d6a4c56c666dcda173e6808ce82b30", func := "loop.example/g01364/laws.FnExactStoreAll", spec := "fnExactStoreAll", inPlace := ["math.Float32bits", "math.Float64bits", "math.Float64frombits", "internal/abi.NoEscape"], apart := false, narrowed := true }
def FnExactStoreAllUptoSaid : Prop := fnExactStoreAllUptoRow.holds Try.pinned (OpenSpec.upto fnExactStoreAllSpec)

/-- 'laws.FnExactStateBits', WHERE WHAT IT READS IS OF BULK AT MOST 1048576: true; the input reads as it did. -/
def fnExactStateBitsUptoRow : OpenClaim := { program := "ytnljabgkaelplaa", sum := "5bb8b25d02d502c2c1cd1f65a47f1f6c37d6a4c56c666dcda173e6808ce82b30", func := "loop.example/g01364/laws.FnExactStateBits", spec := "fnExactStateBits", unfollowed := true, recurses := true, apart := false, narrowed := true }
def FnExactStateBitsUptoSaid : Prop := fnExactStateBitsUptoRow.holds Try.pinned (OpenSpec.upto fnExactStateBitsSpec)

/-- 'laws.FnExactIsMoreEven', WHERE WHAT IT READS IS OF BULK AT MOST 1048576: true; the input reads as it did. -/
def fnExactIsMoreEvenUptoRow : OpenClaim := { program := "ytnljabgkaelplaa", sum := "5bb8b25d02d502c2c1cd1f65a47f1f6c37d6a4c56c666dcda173e6808ce82b30", func := "loop.example/g01364/laws.FnExactIsMoreEven", spec := "fnExactIsMoreEven", unfollowed := true, recurses := true, apart := false, narrowed := true }
def FnExactIsMoreEvenUptoSaid : Prop := fnExactIsMoreEvenUptoRow.holds Try.pinned (OpenSpec.upto fnExactIsMoreEvenSpec)

/-- 'laws.FnExactFlipRounds', WHERE WHAT IT READS IS OF BULK AT MOST 1048576: true; the input reads as it did. -/
def fnExactFlipRoundsUptoRow : OpenClaim := { program := "ytnljabgkaelplaa", sum := "5bb8b25d02d502c2c1cd1f65a47f1f6c37d6a4c56c666dcda173e6808ce82b30", func := "loop.example/g01364/laws.FnExactFlipRounds", spec := "fnExactFlipRounds", apart := false, narrowed := true }
def FnExactFlipRoundsUptoSaid : Prop := fnExactFlipRoundsUptoRow.holds Try.pinned (OpenSpec.upto fnExactFlipRoundsSpec)

end Rows
end Go.Proofs.Ytnljabgkaelplaa
