/-
  No cell of these rows narrows 'for every input' (looked for: loops, veiled, ifaces, maps, wideKeys, modest, calm, conditions, laid).
  DERIVED. THE GIVEN ROWS OF THIS SEAT. 12 by the template 'for every input the law returns true; each argument reads behind the call as it read before'; 0 by the template 'total and deterministic' (their statements: YtffamppflelflaaTotals.lean).
  GIVEN WITH THE SEED: the statements are not yours to turn. If you find one false, say at which input.
  Laid BY PROGRAM, IN A SANDBOX (cutbox-rows.mjs): the forced cells as the released guide's own fill.sh prints them over the translation e22287bd52150704… (all of the seat's roots in one cut). By AI agents, Wed Nov 11 2026. No macro, syntax, notation, axiom, sorry.
-/
import Derived.Test.YtffamppflelflaaChecked
import GoSem.Claim
import GoSem.ClaimJoined
import GoSem.ClaimMapViews
import Derived.JoinedTies
import Derived.KernelRfl
namespace Go.Proofs.Ytffamppflelflaa
/- THE CELL 'sum', in the pinned program and in every row, IS THE sha256 OF THE DUMP (.gsa) THAT YtffamppflelflaaProg.lean LOADS. Nothing in Lean hashes anything: it is a label: what it is worth is what the hold of that sum in a sandbox is worth. -/
noncomputable def Try.pinned : Pinned := { name := "ytffamppflelflaa", sum := "e22287bd52150704c41faeb5babfc7ae2e71e2eb4948e367547e4c20f3eae505", checked := Try.checked }
namespace Rows
def none {H : Type} : Left H := { results := [], args := [] }

/-- 'laws.FnExactValidChannel': WHATEVER THE INPUT: true; the input reads as it did. -/
def fnExactValidChannelSpec : ChangeSpec := { name := "fnExactValidChannel", fn := fun _ => fun
  | [d] => { results := [.lit (.bool true)], args := [d] }
  | _ => none }
def fnExactValidChannelRow : OpenClaim := { program := "ytffamppflelflaa", sum := "e22287bd52150704c41faeb5babfc7ae2e71e2eb4948e367547e4c20f3eae505", func := "loop.example/g01364/laws.FnExactValidChannel", spec := "fnExactValidChannel", apart := false }
def FnExactValidChannelSaid : Prop := fnExactValidChannelRow.holds Try.pinned (OpenSpec.ofChange fnExactValidChannelSpec)

/-- ITS FALSE NEIGHBOUR: 'it returns false'. Refute it at one input. -/
def fnExactValidChannelWrong : ChangeSpec := { name := "fnExactValidChannel", fn := fun _ => fun
  | [d] => { results := [.lit (.bool false)], args := [d] }
  | _ => none }
def FnExactValidChannelWrongFalsely : Prop := fnExactValidChannelRow.holds Try.pinned (OpenSpec.ofChange fnExactValidChannelWrong)

/-- 'laws.FnExactSameChannel': WHATEVER THE INPUT: true; the input reads as it did. -/
def fnExactSameChannelSpec : ChangeSpec := { name := "fnExactSameChannel", fn := fun _ => fun
  | [d1, d2] => { results := [.lit (.bool true)], args := [d1, d2] }
  | _ => none }
def fnExactSameChannelRow : OpenClaim := { program := "ytffamppflelflaa", sum := "e22287bd52150704c41faeb5babfc7ae2e71e2eb4948e367547e4c20f3eae505", func := "loop.example/g01364/laws.FnExactSameChannel", spec := "fnExactSameChannel", inPlace := ["math.Float32bits"], unfollowed := true, recurses := true, apart := false }
def FnExactSameChannelSaid : Prop := fnExactSameChannelRow.holds Try.pinned (OpenSpec.ofChange fnExactSameChannelSpec)

/-- ITS FALSE NEIGHBOUR: 'it returns false'. Refute it at one input. -/
def fnExactSameChannelWrong : ChangeSpec := { name := "fnExactSameChannel", fn := fun _ => fun
  | [d1, d2] => { results := [.lit (.bool false)], args := [d1, d2] }
  | _ => none }
def FnExactSameChannelWrongFalsely : Prop := fnExactSameChannelRow.holds Try.pinned (OpenSpec.ofChange fnExactSameChannelWrong)

/-- 'laws.FnExactFlipChannel': WHATEVER THE INPUT: true; the input reads as it did. -/
def fnExactFlipChannelSpec : ChangeSpec := { name := "fnExactFlipChannel", fn := fun _ => fun
  | [d1, d2] => { results := [.lit (.bool true)], args := [d1, d2] }
  | _ => none }
def fnExactFlipChannelRow : OpenClaim := { program := "ytffamppflelflaa", sum := "e22287bd52150704c41faeb5babfc7ae2e71e2eb4948e367547e4c20f3eae505", func := "loop.example/g01364/laws.FnExactFlipChannel", spec := "fnExactFlipChannel", unfollowed := true, recurses := true, apart := false }
def FnExactFlipChannelSaid : Prop := fnExactFlipChannelRow.holds Try.pinned (OpenSpec.ofChange fnExactFlipChannelSpec)

/-- ITS FALSE NEIGHBOUR: 'it returns false'. Refute it at one input. -/
def fnExactFlipChannelWrong : ChangeSpec := { name := "fnExactFlipChannel", fn := fun _ => fun
  | [d1, d2] => { results := [.lit (.bool false)], args := [d1, d2] }
  | _ => none }
def FnExactFlipChannelWrongFalsely : Prop := fnExactFlipChannelRow.holds Try.pinned (OpenSpec.ofChange fnExactFlipChannelWrong)

/-- 'laws.FnExactLoseChannel': WHATEVER THE INPUT: true; the input reads as it did. -/
def fnExactLoseChannelSpec : ChangeSpec := { name := "fnExactLoseChannel", fn := fun _ => fun
  | [d1, d2] => { results := [.lit (.bool true)], args := [d1, d2] }
  | _ => none }
def fnExactLoseChannelRow : OpenClaim := { program := "ytffamppflelflaa", sum := "e22287bd52150704c41faeb5babfc7ae2e71e2eb4948e367547e4c20f3eae505", func := "loop.example/g01364/laws.FnExactLoseChannel", spec := "fnExactLoseChannel", unfollowed := true, recurses := true, apart := false }
def FnExactLoseChannelSaid : Prop := fnExactLoseChannelRow.holds Try.pinned (OpenSpec.ofChange fnExactLoseChannelSpec)

/-- ITS FALSE NEIGHBOUR: 'it returns false'. Refute it at one input. -/
def fnExactLoseChannelWrong : ChangeSpec := { name := "fnExactLoseChannel", fn := fun _ => fun
  | [d1, d2] => { results := [.lit (.bool false)], args := [d1, d2] }
  | _ => none }
def FnExactLoseChannelWrongFalsely : Prop := fnExactLoseChannelRow.holds Try.pinned (OpenSpec.ofChange fnExactLoseChannelWrong)

/-- 'laws.FnExactNextChannel': WHATEVER THE INPUT: true; the input reads as it did. -/
def fnExactNextChannelSpec : ChangeSpec := { name := "fnExactNextChannel", fn := fun _ => fun
  | [d1, d2] => { results := [.lit (.bool true)], args := [d1, d2] }
  | _ => none }
def fnExactNextChannelRow : OpenClaim := { program := "ytffamppflelflaa", sum := "e22287bd52150704c41faeb5babfc7ae2e71e2eb4948e367547e4c20f3eae505", func := "loop.example/g01364/laws.FnExactNextChannel", spec := "fnExactNextChannel", unfollowed := true, recurses := true, apart := false }
def FnExactNextChannelSaid : Prop := fnExactNextChannelRow.holds Try.pinned (OpenSpec.ofChange fnExactNextChannelSpec)

/-- ITS FALSE NEIGHBOUR: 'it returns false'. Refute it at one input. -/
def fnExactNextChannelWrong : ChangeSpec := { name := "fnExactNextChannel", fn := fun _ => fun
  | [d1, d2] => { results := [.lit (.bool false)], args := [d1, d2] }
  | _ => none }
def FnExactNextChannelWrongFalsely : Prop := fnExactNextChannelRow.holds Try.pinned (OpenSpec.ofChange fnExactNextChannelWrong)

/-- 'laws.FnExactThroughOf': WHATEVER THE INPUT: true; the input reads as it did. -/
def fnExactThroughOfSpec : ChangeSpec := { name := "fnExactThroughOf", fn := fun _ => fun
  | [d1, d2] => { results := [.lit (.bool true)], args := [d1, d2] }
  | _ => none }
def fnExactThroughOfRow : OpenClaim := { program := "ytffamppflelflaa", sum := "e22287bd52150704c41faeb5babfc7ae2e71e2eb4948e367547e4c20f3eae505", func := "loop.example/g01364/laws.FnExactThroughOf", spec := "fnExactThroughOf", apart := false }
def FnExactThroughOfSaid : Prop := fnExactThroughOfRow.holds Try.pinned (OpenSpec.ofChange fnExactThroughOfSpec)

/-- ITS FALSE NEIGHBOUR: 'it returns false'. Refute it at one input. -/
def fnExactThroughOfWrong : ChangeSpec := { name := "fnExactThroughOf", fn := fun _ => fun
  | [d1, d2] => { results := [.lit (.bool false)], args := [d1, d2] }
  | _ => none }
def FnExactThroughOfWrongFalsely : Prop := fnExactThroughOfRow.holds Try.pinned (OpenSpec.ofChange fnExactThroughOfWrong)

/-- 'laws.FnExactJointOf': WHATEVER THE INPUT: true; the input reads as it did. -/
def fnExactJointOfSpec : ChangeSpec := { name := "fnExactJointOf", fn := fun _ => fun
  | [d1, d2] => { results := [.lit (.bool true)], args := [d1, d2] }
  | _ => none }
def fnExactJointOfRow : OpenClaim := { program := "ytffamppflelflaa", sum := "e22287bd52150704c41faeb5babfc7ae2e71e2eb4948e367547e4c20f3eae505", func := "loop.example/g01364/laws.FnExactJointOf", spec := "fnExactJointOf", apart := false }
def FnExactJointOfSaid : Prop := fnExactJointOfRow.holds Try.pinned (OpenSpec.ofChange fnExactJointOfSpec)

/-- ITS FALSE NEIGHBOUR: 'it returns false'. Refute it at one input. -/
def fnExactJointOfWrong : ChangeSpec := { name := "fnExactJointOf", fn := fun _ => fun
  | [d1, d2] => { results := [.lit (.bool false)], args := [d1, d2] }
  | _ => none }
def FnExactJointOfWrongFalsely : Prop := fnExactJointOfRow.holds Try.pinned (OpenSpec.ofChange fnExactJointOfWrong)

/-- 'laws.FnExactChainChannels': WHATEVER THE INPUT: true; the input reads as it did. -/
def fnExactChainChannelsSpec : ChangeSpec := { name := "fnExactChainChannels", fn := fun _ => fun
  | [d1, d2] => { results := [.lit (.bool true)], args := [d1, d2] }
  | _ => none }
def fnExactChainChannelsRow : OpenClaim := { program := "ytffamppflelflaa", sum := "e22287bd52150704c41faeb5babfc7ae2e71e2eb4948e367547e4c20f3eae505", func := "loop.example/g01364/laws.FnExactChainChannels", spec := "fnExactChainChannels", apart := false }
def FnExactChainChannelsSaid : Prop := fnExactChainChannelsRow.holds Try.pinned (OpenSpec.ofChange fnExactChainChannelsSpec)

/-- ITS FALSE NEIGHBOUR: 'it returns false'. Refute it at one input. -/
def fnExactChainChannelsWrong : ChangeSpec := { name := "fnExactChainChannels", fn := fun _ => fun
  | [d1, d2] => { results := [.lit (.bool false)], args := [d1, d2] }
  | _ => none }
def FnExactChainChannelsWrongFalsely : Prop := fnExactChainChannelsRow.holds Try.pinned (OpenSpec.ofChange fnExactChainChannelsWrong)

/-- 'laws.FnExactSideChannels': WHATEVER THE INPUT: true; the input reads as it did. -/
def fnExactSideChannelsSpec : ChangeSpec := { name := "fnExactSideChannels", fn := fun _ => fun
  | [d1, d2] => { results := [.lit (.bool true)], args := [d1, d2] }
  | _ => none }
def fnExactSideChannelsRow : OpenClaim := { program := "ytffamppflelflaa", sum := "e22287bd52150704c41faeb5babfc7ae2e71e2eb4948e367547e4c20f3eae505", func := "loop.example/g01364/laws.FnExactSideChannels", spec := "fnExactSideChannels", unfollowed := true, recurses := true, apart := false }
def FnExactSideChannelsSaid : Prop := fnExactSideChannelsRow.holds Try.pinned (OpenSpec.ofChange fnExactSideChannelsSpec)

/-- ITS FALSE NEIGHBOUR: 'it returns false'. Refute it at one input. -/
def fnExactSideChannelsWrong : ChangeSpec := { name := "fnExactSideChannels", fn := fun _ => fun
  | [d1, d2] => { results := [.lit (.bool false)], args := [d1, d2] }
  | _ => none }
def FnExactSideChannelsWrongFalsely : Prop := fnExactSideChannelsRow.holds Try.pinned (OpenSpec.ofChange fnExactSideChannelsWrong)

/-- 'laws.FnExactBackOf': WHATEVER THE INPUT: true; the input reads as it did. -/
def fnExactBackOfSpec : ChangeSpec := { name := "fnExactBackOf", fn := fun _ => fun
  | [d1, d2, d3] => { results := [.lit (.bool true)], args := [d1, d2, d3] }
  | _ => none }
def fnExactBackOfRow : OpenClaim := { program := "ytffamppflelflaa", sum := "e22287bd52150704c41faeb5babfc7ae2e71e2eb4948e367547e4c20f3eae505", func := "loop.example/g01364/laws.FnExactBackOf", spec := "fnExactBackOf", apart := false }
def FnExactBackOfSaid : Prop := fnExactBackOfRow.holds Try.pinned (OpenSpec.ofChange fnExactBackOfSpec)

/-- ITS FALSE NEIGHBOUR: 'it returns false'. Refute it at one input. -/
def fnExactBackOfWrong : ChangeSpec := { name := "fnExactBackOf", fn := fun _ => fun
  | [d1, d2, d3] => { results := [.lit (.bool false)], args := [d1, d2, d3] }
  | _ => none }
def FnExactBackOfWrongFalsely : Prop := fnExactBackOfRow.holds Try.pinned (OpenSpec.ofChange fnExactBackOfWrong)

/-- 'laws.FnExactBestGuesses': WHATEVER THE INPUT: true; the input reads as it did. -/
def fnExactBestGuessesSpec : ChangeSpec := { name := "fnExactBestGuesses", fn := fun _ => fun
  | [d1, d2] => { results := [.lit (.bool true)], args := [d1, d2] }
  | _ => none }
def fnExactBestGuessesRow : OpenClaim := { program := "ytffamppflelflaa", sum := "e22287bd52150704c41faeb5babfc7ae2e71e2eb4948e367547e4c20f3eae505", func := "loop.example/g01364/laws.FnExactBestGuesses", spec := "fnExactBestGuesses", apart := false }
def FnExactBestGuessesSaid : Prop := fnExactBestGuessesRow.holds Try.pinned (OpenSpec.ofChange fnExactBestGuessesSpec)

/-- ITS FALSE NEIGHBOUR: 'it returns false'. Refute it at one input. -/
def fnExactBestGuessesWrong : ChangeSpec := { name := "fnExactBestGuesses", fn := fun _ => fun
  | [d1, d2] => { results := [.lit (.bool false)], args := [d1, d2] }
  | _ => none }
def FnExactBestGuessesWrongFalsely : Prop := fnExactBestGuessesRow.holds Try.pinned (OpenSpec.ofChange fnExactBestGuessesWrong)

/-- 'laws.FnExactWordChance': WHATEVER THE INPUT: true; the input reads as it did. -/
def fnExactWordChanceSpec : ChangeSpec := { name := "fnExactWordChance", fn := fun _ => fun
  | [d1, d2, d3] => { results := [.lit (.bool true)], args := [d1, d2, d3] }
  | _ => none }
def fnExactWordChanceRow : OpenClaim := { program := "ytffamppflelflaa", sum := "e22287bd52150704c41faeb5babfc7ae2e71e2eb4948e367547e4c20f3eae505", func := "loop.example/g01364/laws.FnExactWordChance", spec := "fnExactWordChance", apart := false }
def FnExactWordChanceSaid : Prop := fnExactWordChanceRow.holds Try.pinned (OpenSpec.ofChange fnExactWordChanceSpec)

/-- ITS FALSE NEIGHBOUR: 'it returns false'. Refute it at one input. -/
def fnExactWordChanceWrong : ChangeSpec := { name := "fnExactWordChance", fn := fun _ => fun
  | [d1, d2, d3] => { results := [.lit (.bool false)], args := [d1, d2, d3] }
  | _ => none }
def FnExactWordChanceWrongFalsely : Prop := fnExactWordChanceRow.holds Try.pinned (OpenSpec.ofChange fnExactWordChanceWrong)

/- THE SECOND FORM. 'bulk': how many values and letters a reading holds, each counted each time it is reached (what is shared counts as often as it is met; a slice's spare places count too). A statement '..UptoSaid' is the law's where the arguments, and the package variables that the reading takes, are together of bulk at most 1048576: NARROWER than '..Said'. Prove '..Said' where nothing that the law and all that it calls make is longer than what came in: it says more and counts as full. Else prove '..UptoSaid'. A law counts once. -/
mutual
def uptoBulk {H : Type} : DataW H → Nat
  | .lit (.string bytes) => bytes.length + 1
  | .lit _ => 1
  | .nil => 1
  | .ptr d => uptoBulk d + 1
  | .slice elems spare => uptoBulkAll elems + uptoBulkAll spare + 1
  | .agg parts => uptoBulkAll parts + 1
  | .iface _ d => uptoBulk d + 1
  | .map entries => uptoBulkEntries entries + 1
  | .held _ => 1
def uptoBulkAll {H : Type} : List (DataW H) → Nat
  | [] => 0
  | d :: r => uptoBulk d + uptoBulkAll r
def uptoBulkEntries {H : Type} : List (Lit × DataW H) → Nat
  | [] => 0
  | x :: r => uptoBulkEntry x + uptoBulkEntries r
def uptoBulkEntry {H : Type} : Lit × DataW H → Nat
  | (.string bytes, d) => bytes.length + uptoBulk d + 1
  | (_, d) => uptoBulk d + 1
 end
def uptoSmall : (H : Type) → List (DataW H) → Bool := fun _ ds => decide (uptoBulkAll ds ≤ 1048576)
def OpenSpec.upto (s : _root_.Go.ChangeSpec) : _root_.Go.OpenSpec := { _root_.Go.OpenSpec.ofChange s with cond := some uptoSmall }

/-- 'laws.FnExactValidChannel', WHERE WHAT IT READS IS OF BULK AT MOST 1048576: true; the input reads as it did. -/
def fnExactValidChannelUptoRow : OpenClaim := { program := "ytffamppflelflaa", sum := "e22287bd52150704c41faeb5babfc7ae2e71e2eb4948e367547e4c20f3eae505", func := "loop.example/g01364/laws.FnExactValidChannel", spec := "fnExactValidChannel", apart := false, narrowed := true }
def FnExactValidChannelUptoSaid : Prop := fnExactValidChannelUptoRow.holds Try.pinned (OpenSpec.upto fnExactValidChannelSpec)

/-- 'laws.FnExactSameChannel', WHERE WHAT IT READS IS OF BULK AT MOST 1048576: true; the input reads as it did. -/
def fnExactSameChannelUptoRow : OpenClaim := { program := "ytffamppflelflaa", sum := "e22287bd52150704c41faeb5babfc7ae2e71e2eb4948e367547e4c20f3eae505", func := "loop.example/g01364/laws.FnExactSameChannel", spec := "fnExactSameChannel", inPlace := ["math.Float32bits"], unfollowed := true, recurses := true, apart := false, narrowed := true }
def FnExactSameChannelUptoSaid : Prop := fnExactSameChannelUptoRow.holds Try.pinned (OpenSpec.upto fnExactSameChannelSpec)

/-- 'laws.FnExactFlipChannel', WHERE WHAT IT READS IS OF BULK AT MOST 1048576: true; the input reads as it did. -/
def fnExactFlipChannelUptoRow : OpenClaim := { program := "ytffamppflelflaa", sum := "e22287bd52150704c41faeb5babfc7ae2e71e2eb4948e367547e4c20f3eae505", func := "loop.example/g01364/laws.FnExactFlipChannel", spec := "fnExactFlipChannel", unfollowed := true, recurses := true, apart := false, narrowed := true }
def FnExactFlipChannelUptoSaid : Prop := fnExactFlipChannelUptoRow.holds Try.pinned (OpenSpec.upto fnExactFlipChannelSpec)

/-- 'laws.FnExactLoseChannel', WHERE WHAT IT READS IS OF BULK AT MOST 1048576: true; the input reads as it did. -/
def fnExactLoseChannelUptoRow : OpenClaim := { program := "ytffamppflelflaa", sum := "e22287bd52150704c41faeb5babfc7ae2e71e2eb4948e367547e4c20f3eae505", func := "loop.example/g01364/laws.FnExactLoseChannel", spec := "fnExactLoseChannel", unfollowed := true, recurses := true, apart := false, narrowed := true }
def FnExactLoseChannelUptoSaid : Prop := fnExactLoseChannelUptoRow.holds Try.pinned (OpenSpec.upto fnExactLoseChannelSpec)

/-- 'laws.FnExactNextChannel', WHERE WHAT IT READS IS OF BULK AT MOST 1048576: true; the input reads as it did. -/
def fnExactNextChannelUptoRow : OpenClaim := { program := "ytffamppflelflaa", sum := "e22287bd52150704c41faeb5babfc7ae2e71e2eb4948e367547e4c20f3eae505", func := "loop.example/g01364/laws.FnExactNextChannel", spec := "fnExactNextChannel", unfollowed := true, recurses := true, apart := false, narrowed := true }
def FnExactNextChannelUptoSaid : Prop := fnExactNextChannelUptoRow.holds Try.pinned (OpenSpec.upto fnExactNextChannelSpec)

/-- 'laws.FnExactThroughOf', WHERE WHAT IT READS IS OF BULK AT MOST 1048576: true; the input reads as it did. -/
def fnExactThroughOfUptoRow : OpenClaim := { program := "ytffamppflelflaa", sum := "e22287bd52150704c41faeb5babfc7ae2e71e2eb4948e367547e4c20f3eae505", func := "loop.example/g01364/laws.FnExactThroughOf", spec := "fnExactThroughOf", apart := false, narrowed := true }
def FnExactThroughOfUptoSaid : Prop := fnExactThroughOfUptoRow.holds Try.pinned (OpenSpec.upto fnExactThroughOfSpec)

/-- 'laws.FnExactJointOf', WHERE WHAT IT READS IS OF BULK AT MOST 1048576: true; the input reads as it did. -/
def fnExactJointOfUptoRow : OpenClaim := { program := "ytffamppflelflaa", sum := "e22287bd52150704c41faeb5babfc7ae2e71e2eb4948e367547e4c20f3eae505", func := "loop.example/g01364/laws.FnExactJointOf", spec := "fnExactJointOf", apart := false, narrowed := true }
def FnExactJointOfUptoSaid : Prop := fnExactJointOfUptoRow.holds Try.pinned (OpenSpec.upto fnExactJointOfSpec)

/-- 'laws.FnExactChainChannels', WHERE WHAT IT READS IS OF BULK AT MOST 1048576: true; the input reads as it did. -/
def fnExactChainChannelsUptoRow : OpenClaim := { program := "ytffamppflelflaa", sum := "e22287bd52150704c41faeb5babfc7ae2e71e2eb4948e367547e4c20f3eae505", func := "loop.example/g01364/laws.FnExactChainChannels", spec := "fnExactChainChannels", apart := false, narrowed := true }
def FnExactChainChannelsUptoSaid : Prop := fnExactChainChannelsUptoRow.holds Try.pinned (OpenSpec.upto fnExactChainChannelsSpec)

/-- 'laws.FnExactSideChannels', WHERE WHAT IT READS IS OF BULK AT MOST 1048576: true; the input reads as it did. -/
def fnExactSideChannelsUptoRow : OpenClaim := { program := "ytffamppflelflaa", sum := "e22287bd52150704c41faeb5babfc7ae2e71e2eb4948e367547e4c20f3eae505", func := "loop.example/g01364/laws.FnExactSideChannels", spec := "fnExactSideChannels", unfollowed := true, recurses := true, apart := false, narrowed := true }
def FnExactSideChannelsUptoSaid : Prop := fnExactSideChannelsUptoRow.holds Try.pinned (OpenSpec.upto fnExactSideChannelsSpec)

/-- 'laws.FnExactBackOf', WHERE WHAT IT READS IS OF BULK AT MOST 1048576: true; the input reads as it did. -/
def fnExactBackOfUptoRow : OpenClaim := { program := "ytffamppflelflaa", sum := "e22287bd52150704c41faeb5babfc7ae2e71e2eb4948e367547e4c20f3eae505", func := "loop.example/g01364/laws.FnExactBackOf", spec := "fnExactBackOf", apart := false, narrowed := true }
def FnExactBackOfUptoSaid : Prop := fnExactBackOfUptoRow.holds Try.pinned (OpenSpec.upto fnExactBackOfSpec)

/-- 'laws.FnExactBestGuesses', WHERE WHAT IT READS IS OF BULK AT MOST 1048576: true; the input reads as it did. -/
def fnExactBestGuessesUptoRow : OpenClaim := { program := "ytffamppflelflaa", sum := "e22287bd52150704c41faeb5babfc7ae2e71e2eb4948e367547e4c20f3eae505", func := "loop.example/g01364/laws.FnExactBestGuesses", spec := "fnExactBestGuesses", apart := false, narrowed := true }
def FnExactBestGuessesUptoSaid : Prop := fnExactBestGuessesUptoRow.holds Try.pinned (OpenSpec.upto fnExactBestGuessesSpec)

/-- 'laws.FnExactWordChance', WHERE WHAT IT READS IS OF BULK AT MOST 1048576: true; the input reads as it did. -/
def fnExactWordChanceUptoRow : OpenClaim := { program := "ytffamppflelflaa", sum := "e22287bd52150704c41faeb5babfc7ae2e71e2eb4948e367547e4c20f3eae505", func := "loop.example/g01364/laws.FnExactWordChance", spec := "fnExactWordChance", apart := false, narrowed := true }
def FnExactWordChanceUptoSaid : Prop := fnExactWordChanceUptoRow.holds Try.pinned (OpenSpec.upto fnExactWordChanceSpec)

end Rows
end Go.Proofs.Ytffamppflelflaa
