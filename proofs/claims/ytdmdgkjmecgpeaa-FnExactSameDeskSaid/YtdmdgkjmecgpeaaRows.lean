/-
  No cell of these rows narrows 'for every input' (looked for: loops, veiled, ifaces, maps, wideKeys, modest, calm, conditions, laid).
  DERIVED. THE GIVEN ROWS OF THIS SEAT. 10 by the template 'for every input the law returns true; each argument reads behind the call as it read before'; 0 by the template 'total and deterministic' (their statements: YtdmdgkjmecgpeaaTotals.lean).
  GIVEN WITH THE SEED: the statements are not yours to turn. If you find one false, say at which input.
  Laid BY PROGRAM, IN A SANDBOX (cutbox-rows.mjs): the forced cells as the released guide's own fill.sh prints them over the translation 65e2e462d9c1349c… (all of the seat's roots in one cut). By AI agents, Wed Nov 11 2026. No macro, syntax, notation, axiom, sorry.
-/
import Derived.Test.YtdmdgkjmecgpeaaChecked
import GoSem.Claim
import GoSem.ClaimJoined
import GoSem.ClaimMapViews
import Derived.JoinedTies
import Derived.KernelRfl
namespace Go.Proofs.Ytdmdgkjmecgpeaa
/- THE CELL 'sum', in the pinned program and in every row, IS THE sha256 OF THE DUMP (.gsa) THAT YtdmdgkjmecgpeaaProg.lean LOADS. Nothing in Lean hashes anything: it is a label: what it is worth is what the hold of that sum in a sandbox is worth. -/
noncomputable def Try.pinned : Pinned := { name := "ytdmdgkjmecgpeaa", sum := "65e2e462d9c1349c790c2f6305e20512c7654e284df0e07a55ca25cdc6f231ec", checked := Try.checked }
namespace Rows
def none {H : Type} : Left H := { results := [], args := [] }

/-- 'laws.FnExactValidDesk': WHATEVER THE INPUT: true; the input reads as it did. -/
def fnExactValidDeskSpec : ChangeSpec := { name := "fnExactValidDesk", fn := fun _ => fun
  | [d] => { results := [.lit (.bool true)], args := [d] }
  | _ => none }
def fnExactValidDeskRow : OpenClaim := { program := "ytdmdgkjmecgpeaa", sum := "65e2e462d9c1349c790c2f6305e20512c7654e284df0e07a55ca25cdc6f231ec", func := "loop.example/g01364/laws.FnExactValidDesk", spec := "fnExactValidDesk", apart := false }
def FnExactValidDeskSaid : Prop := fnExactValidDeskRow.holds Try.pinned (OpenSpec.ofChange fnExactValidDeskSpec)

/-- ITS FALSE NEIGHBOUR: 'it returns false'. Refute it at one input. -/
def fnExactValidDeskWrong : ChangeSpec := { name := "fnExactValidDesk", fn := fun _ => fun
  | [d] => { results := [.lit (.bool false)], args := [d] }
  | _ => none }
def FnExactValidDeskWrongFalsely : Prop := fnExactValidDeskRow.holds Try.pinned (OpenSpec.ofChange fnExactValidDeskWrong)

/-- 'laws.FnExactSameDesk': WHATEVER THE INPUT: true; the input reads as it did. -/
def fnExactSameDeskSpec : ChangeSpec := { name := "fnExactSameDesk", fn := fun _ => fun
  | [d1, d2] => { results := [.lit (.bool true)], args := [d1, d2] }
  | _ => none }
def fnExactSameDeskRow : OpenClaim := { program := "ytdmdgkjmecgpeaa", sum := "65e2e462d9c1349c790c2f6305e20512c7654e284df0e07a55ca25cdc6f231ec", func := "loop.example/g01364/laws.FnExactSameDesk", spec := "fnExactSameDesk", inPlace := ["math.Float32bits"], unfollowed := true, recurses := true, apart := false }
def FnExactSameDeskSaid : Prop := fnExactSameDeskRow.holds Try.pinned (OpenSpec.ofChange fnExactSameDeskSpec)

/-- ITS FALSE NEIGHBOUR: 'it returns false'. Refute it at one input. -/
def fnExactSameDeskWrong : ChangeSpec := { name := "fnExactSameDesk", fn := fun _ => fun
  | [d1, d2] => { results := [.lit (.bool false)], args := [d1, d2] }
  | _ => none }
def FnExactSameDeskWrongFalsely : Prop := fnExactSameDeskRow.holds Try.pinned (OpenSpec.ofChange fnExactSameDeskWrong)

/-- 'laws.FnExactFlipRounds': WHATEVER THE INPUT: true; the input reads as it did. -/
def fnExactFlipRoundsSpec : ChangeSpec := { name := "fnExactFlipRounds", fn := fun _ => fun
  | [d1, d2, d3] => { results := [.lit (.bool true)], args := [d1, d2, d3] }
  | _ => none }
def fnExactFlipRoundsRow : OpenClaim := { program := "ytdmdgkjmecgpeaa", sum := "65e2e462d9c1349c790c2f6305e20512c7654e284df0e07a55ca25cdc6f231ec", func := "loop.example/g01364/laws.FnExactFlipRounds", spec := "fnExactFlipRounds", apart := false }
def FnExactFlipRoundsSaid : Prop := fnExactFlipRoundsRow.holds Try.pinned (OpenSpec.ofChange fnExactFlipRoundsSpec)

/-- ITS FALSE NEIGHBOUR: 'it returns false'. Refute it at one input. -/
def fnExactFlipRoundsWrong : ChangeSpec := { name := "fnExactFlipRounds", fn := fun _ => fun
  | [d1, d2, d3] => { results := [.lit (.bool false)], args := [d1, d2, d3] }
  | _ => none }
def FnExactFlipRoundsWrongFalsely : Prop := fnExactFlipRoundsRow.holds Try.pinned (OpenSpec.ofChange fnExactFlipRoundsWrong)

/-- 'laws.FnExactBestWay': WHATEVER THE INPUT: true; the input reads as it did. -/
def fnExactBestWaySpec : ChangeSpec := { name := "fnExactBestWay", fn := fun _ => fun
  | [d1, d2] => { results := [.lit (.bool true)], args := [d1, d2] }
  | _ => none }
def fnExactBestWayRow : OpenClaim := { program := "ytdmdgkjmecgpeaa", sum := "65e2e462d9c1349c790c2f6305e20512c7654e284df0e07a55ca25cdc6f231ec", func := "loop.example/g01364/laws.FnExactBestWay", spec := "fnExactBestWay", inPlace := ["math.Float64bits", "math.Float64frombits"], unfollowed := true, recurses := true, apart := false }
def FnExactBestWaySaid : Prop := fnExactBestWayRow.holds Try.pinned (OpenSpec.ofChange fnExactBestWaySpec)

/-- ITS FALSE NEIGHBOUR: 'it returns false'. Refute it at one input. -/
def fnExactBestWayWrong : ChangeSpec := { name := "fnExactBestWay", fn := fun _ => fun
  | [d1, d2] => { results := [.lit (.bool false)], args := [d1, d2] }
  | _ => none }
def FnExactBestWayWrongFalsely : Prop := fnExactBestWayRow.holds Try.pinned (OpenSpec.ofChange fnExactBestWayWrong)

/-- 'laws.FnExactAllWays': WHATEVER THE INPUT: true; the input reads as it did. -/
def fnExactAllWaysSpec : ChangeSpec := { name := "fnExactAllWays", fn := fun _ => fun
  | [d1, d2] => { results := [.lit (.bool true)], args := [d1, d2] }
  | _ => none }
def fnExactAllWaysRow : OpenClaim := { program := "ytdmdgkjmecgpeaa", sum := "65e2e462d9c1349c790c2f6305e20512c7654e284df0e07a55ca25cdc6f231ec", func := "loop.example/g01364/laws.FnExactAllWays", spec := "fnExactAllWays", inPlace := ["math.Float64frombits", "math.Float64bits", "math.Float32frombits"], unfollowed := true, recurses := true, apart := false }
def FnExactAllWaysSaid : Prop := fnExactAllWaysRow.holds Try.pinned (OpenSpec.ofChange fnExactAllWaysSpec)

/-- ITS FALSE NEIGHBOUR: 'it returns false'. Refute it at one input. -/
def fnExactAllWaysWrong : ChangeSpec := { name := "fnExactAllWays", fn := fun _ => fun
  | [d1, d2] => { results := [.lit (.bool false)], args := [d1, d2] }
  | _ => none }
def FnExactAllWaysWrongFalsely : Prop := fnExactAllWaysRow.holds Try.pinned (OpenSpec.ofChange fnExactAllWaysWrong)

/-- 'laws.FnExactPolarBest': WHATEVER THE INPUT: true; the input reads as it did. -/
def fnExactPolarBestSpec : ChangeSpec := { name := "fnExactPolarBest", fn := fun _ => fun
  | [d1, d2, d3] => { results := [.lit (.bool true)], args := [d1, d2, d3] }
  | _ => none }
def fnExactPolarBestRow : OpenClaim := { program := "ytdmdgkjmecgpeaa", sum := "65e2e462d9c1349c790c2f6305e20512c7654e284df0e07a55ca25cdc6f231ec", func := "loop.example/g01364/laws.FnExactPolarBest", spec := "fnExactPolarBest", unfollowed := true, recurses := true, apart := false }
def FnExactPolarBestSaid : Prop := fnExactPolarBestRow.holds Try.pinned (OpenSpec.ofChange fnExactPolarBestSpec)

/-- ITS FALSE NEIGHBOUR: 'it returns false'. Refute it at one input. -/
def fnExactPolarBestWrong : ChangeSpec := { name := "fnExactPolarBest", fn := fun _ => fun
  | [d1, d2, d3] => { results := [.lit (.bool false)], args := [d1, d2, d3] }
  | _ => none }
def FnExactPolarBestWrongFalsely : Prop := fnExactPolarBestRow.holds Try.pinned (OpenSpec.ofChange fnExactPolarBestWrong)

/-- 'laws.FnExactStoreSaved': WHATEVER THE INPUT: true; the input reads as it did. -/
def fnExactStoreSavedSpec : ChangeSpec := { name := "fnExactStoreSaved", fn := fun _ => fun
  | [d] => { results := [.lit (.bool true)], args := [d] }
  | _ => none }
def fnExactStoreSavedRow : OpenClaim := { program := "ytdmdgkjmecgpeaa", sum := "65e2e462d9c1349c790c2f6305e20512c7654e284df0e07a55ca25cdc6f231ec", func := "loop.example/g01364/laws.FnExactStoreSaved", spec := "fnExactStoreSaved", inPlace := ["math.Float32bits", "math.Float64bits", "math.Float64frombits", "internal/abi.NoEscape"], apart := false }
def FnExactStoreSavedSaid : Prop := fnExactStoreSavedRow.holds Try.pinned (OpenSpec.ofChange fnExactStoreSavedSpec)

/-- ITS FALSE NEIGHBOUR: 'it returns false'. Refute it at one input. -/
def fnExactStoreSavedWrong : ChangeSpec := { name := "fnExactStoreSaved", fn := fun _ => fun
  | [d] => { results := [.lit (.bool false)], args := [d] }
  | _ => none }
def FnExactStoreSavedWrongFalsely : Prop := fnExactStoreSavedRow.holds Try.pinned (OpenSpec.ofChange fnExactStoreSavedWrong)

/-- 'laws.FnExactStoreAll': WHATEVER THE INPUT: true; the input reads as it did. -/
def fnExactStoreAllSpec : ChangeSpec := { name := "fnExactStoreAll", fn := fun _ => fun
  | [d] => { results := [.lit (.bool true)], args := [d] }
  | _ => none }
def fnExactStoreAllRow : OpenClaim := { program := "ytdmdgkjmecgpeaa", sum := "65e2e462d9c1349c790c2f6305e20512c7654e284df0e07a55ca25cdc6f231ec", func := "loop.example/g01364/laws.FnExactStoreAll", spec := "fnExactStoreAll", inPlace := ["math.Float32bits", "math.Float64bits", "math.Float64frombits", "internal/abi.NoEscape"], apart := false }
def FnExactStoreAllSaid : Prop := fnExactStoreAllRow.holds Try.pinned (OpenSpec.ofChange fnExactStoreAllSpec)

/-- ITS FALSE NEIGHBOUR: 'it returns false'. Refute it at one input. -/
def fnExactStoreAllWrong : ChangeSpec := { name := "fnExactStoreAll", fn := fun _ => fun
  | [d] => { results := [.lit (.bool false)], args := [d] }
  | _ => none }
def FnExactStoreAllWrongFalsely : Prop := fnExactStoreAllRow.holds Try.pinned (OpenSpec.ofChange fnExactStoreAllWrong)

/-- 'laws.FnExactLeadersOf': WHATEVER THE INPUT: true; the input reads as it did. -/
def fnExactLeadersOfSpec : ChangeSpec := { name := "fnExactLeadersOf", fn := fun _ => fun
  | [d] => { results := [.lit (.bool true)], args := [d] }
  | _ => none }
def fnExactLeadersOfRow : OpenClaim := { program := "ytdmdgkjmecgpeaa", sum := "65e2e462d9c1349c790c2f6305e20512c7654e284df0e07a55ca25cdc6f231ec", func := "loop.example/g01364/laws.FnExactLeadersOf", spec := "fnExactLeadersOf", unfollowed := true, recurses := true, apart := false }
def FnExactLeadersOfSaid : Prop := fnExactLeadersOfRow.holds Try.pinned (OpenSpec.ofChange fnExactLeadersOfSpec)

/-- ITS FALSE NEIGHBOUR: 'it returns false'. Refute it at one input. -/
def fnExactLeadersOfWrong : ChangeSpec := { name := "fnExactLeadersOf", fn := fun _ => fun
  | [d] => { results := [.lit (.bool false)], args := [d] }
  | _ => none }
def FnExactLeadersOfWrongFalsely : Prop := fnExactLeadersOfRow.holds Try.pinned (OpenSpec.ofChange fnExactLeadersOfWrong)

/-- 'laws.FnExactMendWord': WHATEVER THE INPUT: true; the input reads as it did. -/
def fnExactMendWordSpec : ChangeSpec := { name := "fnExactMendWord", fn := fun _ => fun
  | [d1, d2] => { results := [.lit (.bool true)], args := [d1, d2] }
  | _ => none }
def fnExactMendWordRow : OpenClaim := { program := "ytdmdgkjmecgpeaa", sum := "65e2e462d9c1349c790c2f6305e20512c7654e284df0e07a55ca25cdc6f231ec", func := "loop.example/g01364/laws.FnExactMendWord", spec := "fnExactMendWord", unfollowed := true, recurses := true, apart := false }
def FnExactMendWordSaid : Prop := fnExactMendWordRow.holds Try.pinned (OpenSpec.ofChange fnExactMendWordSpec)

/-- ITS FALSE NEIGHBOUR: 'it returns false'. Refute it at one input. -/
def fnExactMendWordWrong : ChangeSpec := { name := "fnExactMendWord", fn := fun _ => fun
  | [d1, d2] => { results := [.lit (.bool false)], args := [d1, d2] }
  | _ => none }
def FnExactMendWordWrongFalsely : Prop := fnExactMendWordRow.holds Try.pinned (OpenSpec.ofChange fnExactMendWordWrong)

/- THE SECOND FORM. 'bulk': how many values and letters a reading holds, each counted each time it is reached (what is shared counts as often as it is met; a slice's spare places count too). A statement '..UptoSaid' is the law's where the arguments, and the package variables that the reading takes, are together of bulk at most 1048576: NARROWER than '..Said'. Prove '..Said' where nothing that the law and all that it calls make is longer than what came in: it says more and counts as full. Else prove '..UptoSaid'. A law counts once. -/
mutual
def uptoBulk {H : Type} : DataW H → Nat
  | .lit (.string bytes) => bytes.length + 1
  | .lit _ => 1
  | .nil => 1
  | .ptr d => uptoBulk d + 1
  | .slice elems spare => uptoBulkAll elems + uptoBulkAll spare + 1
  | .agg parts => uptoBulkAll parts + 1
  | .iface _ d => uptoBulk d + 1
  | .map entries => uptoBulkEntries entries + 1
  | .held _ => 1
def uptoBulkAll {H : Type} : List (DataW H) → Nat
  | [] => 0
  | d :: r => uptoBulk d + uptoBulkAll r
def uptoBulkEntries {H : Type} : List (Lit × DataW H) → Nat
  | [] => 0
  | x :: r => uptoBulkEntry x + uptoBulkEntries r
def uptoBulkEntry {H : Type} : Lit × DataW H → Nat
  | (.string bytes, d) => bytes.length + uptoBulk d + 1
  | (_, d) => uptoBulk d + 1
 end
def uptoSmall : (H : Type) → List (DataW H) → Bool := fun _ ds => decide (uptoBulkAll ds ≤ 1048576)
def OpenSpec.upto (s : _root_.Go.ChangeSpec) : _root_.Go.OpenSpec := { _root_.Go.OpenSpec.ofChange s with cond := some uptoSmall }

/-- 'laws.FnExactValidDesk', WHERE WHAT IT READS IS OF BULK AT MOST 1048576: true; the input reads as it did. -/
def fnExactValidDeskUptoRow : OpenClaim := { program := "ytdmdgkjmecgpeaa", sum := "65e2e462d9c1349c790c2f6305e20512c7654e284df0e07a55ca25cdc6f231ec", func := "loop.example/g01364/laws.FnExactValidDesk", spec := "fnExactValidDesk", apart := false, narrowed := true }
def FnExactValidDeskUptoSaid : Prop := fnExactValidDeskUptoRow.holds Try.pinned (OpenSpec.upto fnExactValidDeskSpec)

/-- 'laws.FnExactSameDesk', WHERE WHAT IT READS IS OF BULK AT MOST 1048576: true; the input reads as it did. -/
def fnExactSameDeskUptoRow : OpenClaim := { program := "ytdmdgkjmecgpeaa", sum := "65e2e462d9c1349c790c2f6305e20512c7654e284df0e07a55ca25cdc6f231ec", func := "loop.example/g01364/laws.FnExactSameDesk", spec := "fnExactSameDesk", inPlace := ["math.Float32bits"], unfollowed := true, recurses := true, apart := false, narrowed := true }
def FnExactSameDeskUptoSaid : Prop := fnExactSameDeskUptoRow.holds Try.pinned (OpenSpec.upto fnExactSameDeskSpec)

/-- 'laws.FnExactFlipRounds', WHERE WHAT IT READS IS OF BULK AT MOST 1048576: true; the input reads as it did. -/
def fnExactFlipRoundsUptoRow : OpenClaim := { program := "ytdmdgkjmecgpeaa", sum := "65e2e462d9c1349c790c2f6305e20512c7654e284df0e07a55ca25cdc6f231ec", func := "loop.example/g01364/laws.FnExactFlipRounds", spec := "fnExactFlipRounds", apart := false, narrowed := true }
def FnExactFlipRoundsUptoSaid : Prop := fnExactFlipRoundsUptoRow.holds Try.pinned (OpenSpec.upto fnExactFlipRoundsSpec)

/-- 'laws.FnExactBestWay', WHERE WHAT IT READS IS OF BULK AT MOST 1048576: true; the input reads as it did. -/
def fnExactBestWayUptoRow : OpenClaim := { program := "ytdmdgkjmecgpeaa", sum := "65e2e462d9c1349c790c2f6305e20512c7654e284df0e07a55ca25cdc6f231ec", func := "loop.example/g01364/laws.FnExactBestWay", spec := "fnExactBestWay", inPlace := ["math.Float64bits", "math.Float64frombits"], unfollowed := true, recurses := true, apart := false, narrowed := true }
def FnExactBestWayUptoSaid : Prop := fnExactBestWayUptoRow.holds Try.pinned (OpenSpec.upto fnExactBestWaySpec)

/-- 'laws.FnExactAllWays', WHERE WHAT IT READS IS OF BULK AT MOST 1048576: true; the input reads as it did. -/
def fnExactAllWaysUptoRow : OpenClaim := { program := "ytdmdgkjmecgpeaa", sum := "65e2e462d9c1349c790c2f6305e20512c7654e284df0e07a55ca25cdc6f231ec", func := "loop.example/g01364/laws.FnExactAllWays", spec := "fnExactAllWays", inPlace := ["math.Float64frombits", "math.Float64bits", "math.Float32frombits"], unfollowed := true, recurses := true, apart := false, narrowed := true }
def FnExactAllWaysUptoSaid : Prop := fnExactAllWaysUptoRow.holds Try.pinned (OpenSpec.upto fnExactAllWaysSpec)

/-- 'laws.FnExactPolarBest', WHERE WHAT IT READS IS OF BULK AT MOST 1048576: true; the input reads as it did. -/
def fnExactPolarBestUptoRow : OpenClaim := { program := "ytdmdgkjmecgpeaa", sum := "65e2e462d9c1349c790c2f6305e20512c7654e284df0e07a55ca25cdc6f231ec", func := "loop.example/g01364/laws.FnExactPolarBest", spec := "fnExactPolarBest", unfollowed := true, recurses := true, apart := false, narrowed := true }
def FnExactPolarBestUptoSaid : Prop := fnExactPolarBestUptoRow.holds Try.pinned (OpenSpec.upto fnExactPolarBestSpec)

/-- 'laws.FnExactStoreSaved', WHERE WHAT IT READS IS OF BULK AT MOST 1048576: true; the input reads as it did. -/
def fnExactStoreSavedUptoRow : OpenClaim := { program := "ytdmdgkjmecgpeaa", sum := "65e2e462d9c1349c790c2f6305e20512c7654e284df0e07a55ca25cdc6f231ec", func := "loop.example/g01364/laws.FnExactStoreSaved", spec := "fnExactStoreSaved", inPlace := ["math.Float32bits", "math.Float64bits", "math.Float64frombits", "internal/abi.NoEscape"], apart := false, narrowed := true }
def FnExactStoreSavedUptoSaid : Prop := fnExactStoreSavedUptoRow.holds Try.pinned (OpenSpec.upto fnExactStoreSavedSpec)

/-- 'laws.FnExactStoreAll', WHERE WHAT IT READS IS OF BULK AT MOST 1048576: true; the input reads as it did. -/
def fnExactStoreAllUptoRow : OpenClaim := { program := "ytdmdgkjmecgpeaa", sum := "65e2e462d9c1349c790c2f6305e20512c7654e284df0e07a55ca25cdc6f231ec", func := "loop.example/g01364/laws.FnExactStoreAll", spec := "fnExactStoreAll", inPlace := ["math.Float32bits", "math.Float64bits", "math.Float64frombits", "internal/abi.NoEscape"], apart := false, narrowed := true }
def FnExactStoreAllUptoSaid : Prop := fnExactStoreAllUptoRow.holds Try.pinned (OpenSpec.upto fnExactStoreAllSpec)

/-- 'laws.FnExactLeadersOf', WHERE WHAT IT READS IS OF BULK AT MOST 1048576: true; the input reads as it did. -/
def fnExactLeadersOfUptoRow : OpenClaim := { program := "ytdmdgkjmecgpeaa", sum := "65e2e462d9c1349c790c2f6305e20512c7654e284df0e07a55ca25cdc6f231ec", func := "loop.example/g01364/laws.FnExactLeadersOf", spec := "fnExactLeadersOf", unfollowed := true, recurses := true, apart := false, narrowed := true }
def FnExactLeadersOfUptoSaid : Prop := fnExactLeadersOfUptoRow.holds Try.pinned (OpenSpec.upto fnExactLeadersOfSpec)

/-- 'laws.FnExactMendWord', WHERE WHAT IT READS IS OF BULK AT MOST 1048576: true; the input reads as it did. -/
def fnExactMendWordUptoRow : OpenClaim := { program := "ytdmdgkjmecgpeaa", sum := "65e2e462d9c1349c790c2f6305e20512c7654e284df0e07a55ca25cdc6f231ec", func := "loop.example/g01364/laws.FnExactMendWord", spec := "fnExactMendWord", unfollowed := true, recurses := true, apart := false, narrowed := true }
def FnExactMendWordUptoSaid : Prop := fnExactMendWordUptoRow.holds Try.pinned (OpenSpec.upto fnExactMendWordSpec)

end Rows
end Go.Proofs.Ytdmdgkjmecgpeaa
