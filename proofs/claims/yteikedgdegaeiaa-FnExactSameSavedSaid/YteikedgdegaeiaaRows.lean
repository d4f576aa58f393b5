/-
  No cell of these rows narrows 'for every input' (looked for: loops, veiled, ifaces, maps, wideKeys, modest, calm, conditions, laid).
  DERIVED. THE GIVEN ROWS OF THIS SEAT. 10 by the template 'for every input the law returns true; each argument reads behind the call as it read before'; 0 by the template 'total and deterministic' (their statements: YteikedgdegaeiaaTotals.lean).
  GIVEN WITH THE SEED: the statements are not yours to turn. If you find one false, say at which input.
  Laid BY PROGRAM, IN A SANDBOX (cutbox-rows.mjs): the forced cells as the released guide's own fill.sh prints them over the translation d09810528f1c4b41… (all of the seat's roots in one cut). By AI agents, Wed Nov 11 2026. No macro, syntax, notation, axiom, sorry.
-/
import Derived.Test.YteikedgdegaeiaaChecked
import GoSem.Claim
import GoSem.ClaimJoined
import GoSem.ClaimMapViews
import Derived.JoinedTies
import Derived.KernelRfl
namespace Go.Proofs.Yteikedgdegaeiaa
/- THE CELL 'sum', in the pinned program and in every row, IS THE sha256 OF THE DUMP (.gsa) THAT YteikedgdegaeiaaProg.lean LOADS. Nothing in Lean hashes anything: it is a label: what it is worth is what the hold of that sum in a sandbox is worth. -/
noncomputable def Try.pinned : Pinned := { name := "yteikedgdegaeiaa", sum := "d09810528f1c4b4108fdf832b85464b7ec7e26834f2f65d257f5e46732563907", checked := Try.checked }
namespace Rows
def none {H : Type} : Left H := { results := [], args := [] }

/-- 'laws.FnExactValidSaved': WHATEVER THE INPUT: true; the input reads as it did. -/
def fnExactValidSavedSpec : ChangeSpec := { name := "fnExactValidSaved", fn := fun _ => fun
  | [d] => { results := [.lit (.bool true)], args := [d] }
  | _ => none }
def fnExactValidSavedRow : OpenClaim := { program := "yteikedgdegaeiaa", sum := "d09810528f1c4b4108fdf832b85464b7ec7e26834f2f65d257f5e46732563907", func := "loop.example/g01364/laws.FnExactValidSaved", spec := "fnExactValidSaved", inPlace := ["math.Float64bits", "math.Float64frombits"], apart := false }
def FnExactValidSavedSaid : Prop := fnExactValidSavedRow.holds Try.pinned (OpenSpec.ofChange fnExactValidSavedSpec)

/-- ITS FALSE NEIGHBOUR: 'it returns false'. Refute it at one input. -/
def fnExactValidSavedWrong : ChangeSpec := { name := "fnExactValidSaved", fn := fun _ => fun
  | [d] => { results := [.lit (.bool false)], args := [d] }
  | _ => none }
def FnExactValidSavedWrongFalsely : Prop := fnExactValidSavedRow.holds Try.pinned (OpenSpec.ofChange fnExactValidSavedWrong)

/-- 'laws.FnExactSameSaved': WHATEVER THE INPUT: true; the input reads as it did. -/
def fnExactSameSavedSpec : ChangeSpec := { name := "fnExactSameSaved", fn := fun _ => fun
  | [d1, d2] => { results := [.lit (.bool true)], args := [d1, d2] }
  | _ => none }
def fnExactSameSavedRow : OpenClaim := { program := "yteikedgdegaeiaa", sum := "d09810528f1c4b4108fdf832b85464b7ec7e26834f2f65d257f5e46732563907", func := "loop.example/g01364/laws.FnExactSameSaved", spec := "fnExactSameSaved", inPlace := ["math.Float32bits"], unfollowed := true, recurses := true, apart := false }
def FnExactSameSavedSaid : Prop := fnExactSameSavedRow.holds Try.pinned (OpenSpec.ofChange fnExactSameSavedSpec)

/-- ITS FALSE NEIGHBOUR: 'it returns false'. Refute it at one input. -/
def fnExactSameSavedWrong : ChangeSpec := { name := "fnExactSameSaved", fn := fun _ => fun
  | [d1, d2] => { results := [.lit (.bool false)], args := [d1, d2] }
  | _ => none }
def FnExactSameSavedWrongFalsely : Prop := fnExactSameSavedRow.holds Try.pinned (OpenSpec.ofChange fnExactSameSavedWrong)

/-- 'laws.FnExactStoreSaved': WHATEVER THE INPUT: true; the input reads as it did. -/
def fnExactStoreSavedSpec : ChangeSpec := { name := "fnExactStoreSaved", fn := fun _ => fun
  | [d] => { results := [.lit (.bool true)], args := [d] }
  | _ => none }
def fnExactStoreSavedRow : OpenClaim := { program := "yteikedgdegaeiaa", sum := "d09810528f1c4b4108fdf832b85464b7ec7e26834f2f65d257f5e46732563907", func := "loop.example/g01364/laws.FnExactStoreSaved", spec := "fnExactStoreSaved", inPlace := ["math.Float32bits", "math.Float64bits", "math.Float64frombits", "internal/abi.NoEscape"], apart := false }
def FnExactStoreSavedSaid : Prop := fnExactStoreSavedRow.holds Try.pinned (OpenSpec.ofChange fnExactStoreSavedSpec)

/-- ITS FALSE NEIGHBOUR: 'it returns false'. Refute it at one input. -/
def fnExactStoreSavedWrong : ChangeSpec := { name := "fnExactStoreSaved", fn := fun _ => fun
  | [d] => { results := [.lit (.bool false)], args := [d] }
  | _ => none }
def FnExactStoreSavedWrongFalsely : Prop := fnExactStoreSavedRow.holds Try.pinned (OpenSpec.ofChange fnExactStoreSavedWrong)

/-- 'laws.FnExactStoreAll': WHATEVER THE INPUT: true; the input reads as it did. -/
def fnExactStoreAllSpec : ChangeSpec := { name := "fnExactStoreAll", fn := fun _ => fun
  | [d] => { results := [.lit (.bool true)], args := [d] }
  | _ => none }
def fnExactStoreAllRow : OpenClaim := { program := "yteikedgdegaeiaa", sum := "d09810528f1c4b4108fdf832b85464b7ec7e26834f2f65d257f5e46732563907", func := "loop.example/g01364/laws.FnExactStoreAll", spec := "fnExactStoreAll", inPlace := ["math.Float32bits", "math.Float64bits", "math.Float64frombits", "internal/abi.NoEscape"], apart := false }
def FnExactStoreAllSaid : Prop := fnExactStoreAllRow.holds Try.pinned (OpenSpec.ofChange fnExactStoreAllSpec)

/-- ITS FALSE NEIGHBOUR: 'it returns false'. Refute it at one input. -/
def fnExactStoreAllWrong : ChangeSpec := { name := "fnExactStoreAll", fn := fun _ => fun
  | [d] => { results := [.lit (.bool false)], args := [d] }
  | _ => none }
def FnExactStoreAllWrongFalsely : Prop := fnExactStoreAllRow.holds Try.pinned (OpenSpec.ofChange fnExactStoreAllWrong)

/-- 'laws.FnExactPolarRead': WHATEVER THE INPUT: true; the input reads as it did. -/
def fnExactPolarReadSpec : ChangeSpec := { name := "fnExactPolarRead", fn := fun _ => fun
  | [d1, d2, d3] => { results := [.lit (.bool true)], args := [d1, d2, d3] }
  | _ => none }
def fnExactPolarReadRow : OpenClaim := { program := "yteikedgdegaeiaa", sum := "d09810528f1c4b4108fdf832b85464b7ec7e26834f2f65d257f5e46732563907", func := "loop.example/g01364/laws.FnExactPolarRead", spec := "fnExactPolarRead", inPlace := ["math.Float64bits", "math.Float64frombits"], recurses := true, apart := false }
def FnExactPolarReadSaid : Prop := fnExactPolarReadRow.holds Try.pinned (OpenSpec.ofChange fnExactPolarReadSpec)

/-- ITS FALSE NEIGHBOUR: 'it returns false'. Refute it at one input. -/
def fnExactPolarReadWrong : ChangeSpec := { name := "fnExactPolarRead", fn := fun _ => fun
  | [d1, d2, d3] => { results := [.lit (.bool false)], args := [d1, d2, d3] }
  | _ => none }
def FnExactPolarReadWrongFalsely : Prop := fnExactPolarReadRow.holds Try.pinned (OpenSpec.ofChange fnExactPolarReadWrong)

/-- 'laws.FnExactLeastRounds': WHATEVER THE INPUT: true; the input reads as it did. -/
def fnExactLeastRoundsSpec : ChangeSpec := { name := "fnExactLeastRounds", fn := fun _ => fun
  | [d1, d2, d3] => { results := [.lit (.bool true)], args := [d1, d2, d3] }
  | _ => none }
def fnExactLeastRoundsRow : OpenClaim := { program := "yteikedgdegaeiaa", sum := "d09810528f1c4b4108fdf832b85464b7ec7e26834f2f65d257f5e46732563907", func := "loop.example/g01364/laws.FnExactLeastRounds", spec := "fnExactLeastRounds", inPlace := ["math.Float64bits", "math.Float64frombits"], apart := false }
def FnExactLeastRoundsSaid : Prop := fnExactLeastRoundsRow.holds Try.pinned (OpenSpec.ofChange fnExactLeastRoundsSpec)

/-- ITS FALSE NEIGHBOUR: 'it returns false'. Refute it at one input. -/
def fnExactLeastRoundsWrong : ChangeSpec := { name := "fnExactLeastRounds", fn := fun _ => fun
  | [d1, d2, d3] => { results := [.lit (.bool false)], args := [d1, d2, d3] }
  | _ => none }
def FnExactLeastRoundsWrongFalsely : Prop := fnExactLeastRoundsRow.holds Try.pinned (OpenSpec.ofChange fnExactLeastRoundsWrong)

/-- 'laws.FnExactFlipRounds': WHATEVER THE INPUT: true; the input reads as it did. -/
def fnExactFlipRoundsSpec : ChangeSpec := { name := "fnExactFlipRounds", fn := fun _ => fun
  | [d1, d2, d3] => { results := [.lit (.bool true)], args := [d1, d2, d3] }
  | _ => none }
def fnExactFlipRoundsRow : OpenClaim := { program := "yteikedgdegaeiaa", sum := "d09810528f1c4b4108fdf832b85464b7ec7e26834f2f65d257f5e46732563907", func := "loop.example/g01364/laws.FnExactFlipRounds", spec := "fnExactFlipRounds", apart := false }
def FnExactFlipRoundsSaid : Prop := fnExactFlipRoundsRow.holds Try.pinned (OpenSpec.ofChange fnExactFlipRoundsSpec)

/-- ITS FALSE NEIGHBOUR: 'it returns false'. Refute it at one input. -/
def fnExactFlipRoundsWrong : ChangeSpec := { name := "fnExactFlipRounds", fn := fun _ => fun
  | [d1, d2, d3] => { results := [.lit (.bool false)], args := [d1, d2, d3] }
  | _ => none }
def FnExactFlipRoundsWrongFalsely : Prop := fnExactFlipRoundsRow.holds Try.pinned (OpenSpec.ofChange fnExactFlipRoundsWrong)

/-- 'laws.FnExactBestWay': WHATEVER THE INPUT: true; the input reads as it did. -/
def fnExactBestWaySpec : ChangeSpec := { name := "fnExactBestWay", fn := fun _ => fun
  | [d1, d2] => { results := [.lit (.bool true)], args := [d1, d2] }
  | _ => none }
def fnExactBestWayRow : OpenClaim := { program := "yteikedgdegaeiaa", sum := "d09810528f1c4b4108fdf832b85464b7ec7e26834f2f65d257f5e46732563907", func := "loop.example/g01364/laws.FnExactBestWay", spec := "fnExactBestWay", inPlace := ["math.Float64bits", "math.Float64frombits"], unfollowed := true, recurses := true, apart := false }
def FnExactBestWaySaid : Prop := fnExactBestWayRow.holds Try.pinned (OpenSpec.ofChange fnExactBestWaySpec)

/-- ITS FALSE NEIGHBOUR: 'it returns false'. Refute it at one input. -/
def fnExactBestWayWrong : ChangeSpec := { name := "fnExactBestWay", fn := fun _ => fun
  | [d1, d2] => { results := [.lit (.bool false)], args := [d1, d2] }
  | _ => none }
def FnExactBestWayWrongFalsely : Prop := fnExactBestWayRow.holds Try.pinned (OpenSpec.ofChange fnExactBestWayWrong)

/-- 'laws.FnExactAllWays': WHATEVER THE INPUT: true; the input reads as it did. -/
def fnExactAllWaysSpec : ChangeSpec := { name := "fnExactAllWays", fn := fun _ => fun
  | [d1, d2] => { results := [.lit (.bool true)], args := [d1, d2] }
  | _ => none }
def fnExactAllWaysRow : OpenClaim := { program := "yteikedgdegaeiaa", sum := "d09810528f1c4b4108fdf832b85464b7ec7e26834f2f65d257f5e46732563907", func := "loop.example/g01364/laws.FnExactAllWays", spec := "fnExactAllWays", inPlace := ["math.Float64frombits", "math.Float64bits", "math.Float32frombits"], unfollowed := true, recurses := true, apart := false }
def FnExactAllWaysSaid : Prop := fnExactAllWaysRow.holds Try.pinned (OpenSpec.ofChange fnExactAllWaysSpec)

/-- ITS FALSE NEIGHBOUR: 'it returns false'. Refute it at one input. -/
def fnExactAllWaysWrong : ChangeSpec := { name := "fnExactAllWays", fn := fun _ => fun
  | [d1, d2] => { results := [.lit (.bool false)], args := [d1, d2] }
  | _ => none }
def FnExactAllWaysWrongFalsely : Prop := fnExactAllWaysRow.holds Try.pinned (OpenSpec.ofChange fnExactAllWaysWrong)

/-- 'laws.FnExactPolarBest': WHATEVER THE INPUT: true; the input reads as it did. -/
def fnExactPolarBestSpec : ChangeSpec := { name := "fnExactPolarBest", fn := fun _ => fun
  | [d1, d2, d3] => { results := [.lit (.bool true)], args := [d1, d2, d3] }
  | _ => none }
def fnExactPolarBestRow : OpenClaim := { program := "yteikedgdegaeiaa", sum := "d09810528f1c4b4108fdf832b85464b7ec7e26834f2f65d257f5e46732563907", func := "loop.example/g01364/laws.FnExactPolarBest", spec := "fnExactPolarBest", unfollowed := true, recurses := true, apart := false }
def FnExactPolarBestSaid : Prop := fnExactPolarBestRow.holds Try.pinned (OpenSpec.ofChange fnExactPolarBestSpec)

/-- ITS FALSE NEIGHBOUR: 'it returns false'. Refute it at one input. -/
def fnExactPolarBestWrong : ChangeSpec := { name := "fnExactPolarBest", fn := fun _ => fun
  | [d1, d2, d3] => { results := [.lit (.bool false)], args := [d1, d2, d3] }
  | _ => none }
def FnExactPolarBestWrongFalsely : Prop := fnExactPolarBestRow.holds Try.pinned (OpenSpec.ofChange fnExactPolarBestWrong)

/- THE SECOND FORM. 'bulk': how many values and letters a reading holds, each counted each time it is reached (what is shared counts as often as it is met; a slice's spare places count too). A statement '..UptoSaid' is the law's where the arguments, and the package variables that the reading takes, are together of bulk at most 1048576: NARROWER than '..Said'. Prove '..Said' where nothing that the law and all that it calls make is longer than what came in: it says more and counts as full. Else prove '..UptoSaid'. A law counts once. -/
mutual
def uptoBulk {H : Type} : DataW H → Nat
  | .lit (.string bytes) => bytes.length + 1
  | .lit _ => 1
  | .nil => 1
  | .ptr d => uptoBulk d + 1
  | .slice elems spare => uptoBulkAll elems + uptoBulkAll spare + 1
  | .agg parts => uptoBulkAll parts + 1
  | .iface _ d => uptoBulk d + 1
  | .map entries => uptoBulkEntries entries + 1
  | .held _ => 1
def uptoBulkAll {H : Type} : List (DataW H) → Nat
  | [] => 0
  | d :: r => uptoBulk d + uptoBulkAll r
def uptoBulkEntries {H : Type} : List (Lit × DataW H) → Nat
  | [] => 0
  | x :: r => uptoBulkEntry x + uptoBulkEntries r
def uptoBulkEntry {H : Type} : Lit × DataW H → Nat
  | (.string bytes, d) => bytes.length + uptoBulk d + 1
  | (_, d) => uptoBulk d + 1
 end
def uptoSmall : (H : Type) → List (DataW H) → Bool := fun _ ds => decide (uptoBulkAll ds ≤ 1048576)
def OpenSpec.upto (s : _root_.Go.ChangeSpec) : _root_.Go.OpenSpec := { _root_.Go.OpenSpec.ofChange s with cond := some uptoSmall }

/-- 'laws.FnExactValidSaved', WHERE WHAT IT READS IS OF BULK AT MOST 1048576: true; the input reads as it did. -/
def fnExactValidSavedUptoRow : OpenClaim := { program := "yteikedgdegaeiaa", sum := "d09810528f1c4b4108fdf832b85464b7ec7e26834f2f65d257f5e46732563907", func := "loop.example/g01364/laws.FnExactValidSaved", spec := "fnExactValidSaved", inPlace := ["math.Float64bits", "math.Float64frombits"], apart := false, narrowed := true }
def FnExactValidSavedUptoSaid : Prop := fnExactValidSavedUptoRow.holds Try.pinned (OpenSpec.upto fnExactValidSavedSpec)

/-- 'laws.FnExactSameSaved', WHERE WHAT IT READS IS OF BULK AT MOST 1048576: true; the input reads as it did. -/
def fnExactSameSavedUptoRow : OpenClaim := { program := "yteikedgdegaeiaa", sum := "d09810528f1c4b4108fdf832b85464b7ec7e26834f2f65d257f5e46732563907", func := "loop.example/g01364/laws.FnExactSameSaved", spec := "fnExactSameSaved", inPlace := ["math.Float32bits"], unfollowed := true, recurses := true, apart := false, narrowed := true }
def FnExactSameSavedUptoSaid : Prop := fnExactSameSavedUptoRow.holds Try.pinned (OpenSpec.upto fnExactSameSavedSpec)

/-- 'laws.FnExactStoreSaved', WHERE WHAT IT READS IS OF BULK AT MOST 1048576: true; the input reads as it did. -/
def fnExactStoreSavedUptoRow : OpenClaim := { program := "yteikedgdegaeiaa", sum := "d09810528f1c4b4108fdf832b85464b7ec7e26834f2f65d257f5e46732563907", func := "loop.example/g01364/laws.FnExactStoreSaved", spec := "fnExactStoreSaved", inPlace := ["math.Float32bits", "math.Float64bits", "math.Float64frombits", "internal/abi.NoEscape"], apart := false, narrowed := true }
def FnExactStoreSavedUptoSaid : Prop := fnExactStoreSavedUptoRow.holds Try.pinned (OpenSpec.upto fnExactStoreSavedSpec)

/-- 'laws.FnExactStoreAll', WHERE WHAT IT READS IS OF BULK AT MOST 1048576: true; the input reads as it did. -/
def fnExactStoreAllUptoRow : OpenClaim := { program := "yteikedgdegaeiaa", sum := "d09810528f1c4b4108fdf832b85464b7ec7e26834f2f65d257f5e46732563907", func := "loop.example/g01364/laws.FnExactStoreAll", spec := "fnExactStoreAll", inPlace := ["math.Float32bits", "math.Float64bits", "math.Float64frombits", "internal/abi.NoEscape"], apart := false, narrowed := true }
def FnExactStoreAllUptoSaid : Prop := fnExactStoreAllUptoRow.holds Try.pinned (OpenSpec.upto fnExactStoreAllSpec)

/-- 'laws.FnExactPolarRead', WHERE WHAT IT READS IS OF BULK AT MOST 1048576: true; the input reads as it did. -/
def fnExactPolarReadUptoRow : OpenClaim := { program := "yteikedgdegaeiaa", sum := "d09810528f1c4b4108fdf832b85464b7ec7e26834f2f65d257f5e46732563907", func := "loop.example/g01364/laws.FnExactPolarRead", spec := "fnExactPolarRead", inPlace := ["math.Float64bits", "math.Float64frombits"], recurses := true, apart := false, narrowed := true }
def FnExactPolarReadUptoSaid : Prop := fnExactPolarReadUptoRow.holds Try.pinned (OpenSpec.upto fnExactPolarReadSpec)

/-- 'laws.FnExactLeastRounds', WHERE WHAT IT READS IS OF BULK AT MOST 1048576: true; the input reads as it did. -/
def fnExactLeastRoundsUptoRow : OpenClaim := { program := "yteikedgdegaeiaa", sum := "d09810528f1c4b4108fdf832b85464b7ec7e26834f2f65d257f5e46732563907", func := "loop.example/g01364/laws.FnExactLeastRounds", spec := "fnExactLeastRounds", inPlace := ["math.Float64bits", "math.Float64frombits"], apart := false, narrowed := true }
def FnExactLeastRoundsUptoSaid : Prop := fnExactLeastRoundsUptoRow.holds Try.pinned (OpenSpec.upto fnExactLeastRoundsSpec)

/-- 'laws.FnExactFlipRounds', WHERE WHAT IT READS IS OF BULK AT MOST 1048576: true; the input reads as it did. -/
def fnExactFlipRoundsUptoRow : OpenClaim := { program := "yteikedgdegaeiaa", sum := "d09810528f1c4b4108fdf832b85464b7ec7e26834f2f65d257f5e46732563907", func := "loop.example/g01364/laws.FnExactFlipRounds", spec := "fnExactFlipRounds", apart := false, narrowed := true }
def FnExactFlipRoundsUptoSaid : Prop := fnExactFlipRoundsUptoRow.holds Try.pinned (OpenSpec.upto fnExactFlipRoundsSpec)

/-- 'laws.FnExactBestWay', WHERE WHAT IT READS IS OF BULK AT MOST 1048576: true; the input reads as it did. -/
def fnExactBestWayUptoRow : OpenClaim := { program := "yteikedgdegaeiaa", sum := "d09810528f1c4b4108fdf832b85464b7ec7e26834f2f65d257f5e46732563907", func := "loop.example/g01364/laws.FnExactBestWay", spec := "fnExactBestWay", inPlace := ["math.Float64bits", "math.Float64frombits"], unfollowed := true, recurses := true, apart := false, narrowed := true }
def FnExactBestWayUptoSaid : Prop := fnExactBestWayUptoRow.holds Try.pinned (OpenSpec.upto fnExactBestWaySpec)

/-- 'laws.FnExactAllWays', WHERE WHAT IT READS IS OF BULK AT MOST 1048576: true; the input reads as it did. -/
def fnExactAllWaysUptoRow : OpenClaim := { program := "yteikedgdegaeiaa", sum := "d09810528f1c4b4108fdf832b85464b7ec7e26834f2f65d257f5e46732563907", func := "loop.example/g01364/laws.FnExactAllWays", spec := "fnExactAllWays", inPlace := ["math.Float64frombits", "math.Float64bits", "math.Float32frombits"], unfollowed := true, recurses := true, apart := false, narrowed := true }
def FnExactAllWaysUptoSaid : Prop := fnExactAllWaysUptoRow.holds Try.pinned (OpenSpec.upto fnExactAllWaysSpec)

/-- 'laws.FnExactPolarBest', WHERE WHAT IT READS IS OF BULK AT MOST 1048576: true; the input reads as it did. -/
def fnExactPolarBestUptoRow : OpenClaim := { program := "yteikedgdegaeiaa", sum := "d09810528f1c4b4108fdf832b85464b7ec7e26834f2f65d257f5e46732563907", func := "loop.example/g01364/laws.FnExactPolarBest", spec := "fnExactPolarBest", unfollowed := true, recurses := true, apart := false, narrowed := true }
def FnExactPolarBestUptoSaid : Prop := fnExactPolarBestUptoRow.holds Try.pinned (OpenSpec.upto fnExactPolarBestSpec)

end Rows
end Go.Proofs.Yteikedgdegaeiaa
