/-
  No cell of these rows narrows 'for every input' (looked for: loops, veiled, ifaces, maps, wideKeys, modest, calm, conditions, laid).
  DERIVED. THE GIVEN ROWS OF THIS SEAT. 8 by the template 'for every input the law returns true; each argument reads behind the call as it read before'; 0 by the template 'total and deterministic' (their statements: YthjijfghbchhpaaTotals.lean).
  GIVEN WITH THE SEED: the statements are not yours to turn. If you find one false, say at which input.
  Laid BY PROGRAM, IN A SANDBOX (cutbox-rows.mjs): the forced cells as the released guide's own fill.sh prints them over the translation d02375309170590a… (all of the seat's roots in one cut). By AI agents, Wed Nov 11 2026. No macro, syntax, notation, axiom, sorry.
-/
import Derived.Test.YthjijfghbchhpaaChecked
import GoSem.Claim
import GoSem.ClaimJoined
import GoSem.ClaimMapViews
import Derived.JoinedTies
import Derived.KernelRfl
namespace Go.Proofs.Ythjijfghbchhpaa
/- THE CELL 'sum', in the pinned program and in every row, IS THE sha256 OF THE DUMP (.gsa) THAT YthjijfghbchhpaaProg.lean LOADS. Nothing in Lean hashes anything: it is a label: what it is worth is what the hold of that sum in a sandbox is worth. -/
noncomputable def Try.pinned : Pinned := { name := "ythjijfghbchhpaa", sum := "d02375309170590aa0ccc261757b33b076394e431a933c334b3d02c55f0e33a8", checked := Try.checked }
namespace Rows
def none {H : Type} : Left H := { results := [], args := [] }

/-- 'laws.FnExactValidParity': WHATEVER THE INPUT: true; the input reads as it did. -/
def fnExactValidParitySpec : ChangeSpec := { name := "fnExactValidParity", fn := fun _ => fun
  | [d] => { results := [.lit (.bool true)], args := [d] }
  | _ => none }
def fnExactValidParityRow : OpenClaim := { program := "ythjijfghbchhpaa", sum := "d02375309170590aa0ccc261757b33b076394e431a933c334b3d02c55f0e33a8", func := "loop.example/g01364/laws.FnExactValidParity", spec := "fnExactValidParity", apart := false }
def FnExactValidParitySaid : Prop := fnExactValidParityRow.holds Try.pinned (OpenSpec.ofChange fnExactValidParitySpec)

/-- ITS FALSE NEIGHBOUR: 'it returns false'. Refute it at one input. -/
def fnExactValidParityWrong : ChangeSpec := { name := "fnExactValidParity", fn := fun _ => fun
  | [d] => { results := [.lit (.bool false)], args := [d] }
  | _ => none }
def FnExactValidParityWrongFalsely : Prop := fnExactValidParityRow.holds Try.pinned (OpenSpec.ofChange fnExactValidParityWrong)

/-- 'laws.FnExactSameParity': WHATEVER THE INPUT: true; the input reads as it did. -/
def fnExactSameParitySpec : ChangeSpec := { name := "fnExactSameParity", fn := fun _ => fun
  | [d1, d2] => { results := [.lit (.bool true)], args := [d1, d2] }
  | _ => none }
def fnExactSameParityRow : OpenClaim := { program := "ythjijfghbchhpaa", sum := "d02375309170590aa0ccc261757b33b076394e431a933c334b3d02c55f0e33a8", func := "loop.example/g01364/laws.FnExactSameParity", spec := "fnExactSameParity", apart := false }
def FnExactSameParitySaid : Prop := fnExactSameParityRow.holds Try.pinned (OpenSpec.ofChange fnExactSameParitySpec)

/-- ITS FALSE NEIGHBOUR: 'it returns false'. Refute it at one input. -/
def fnExactSameParityWrong : ChangeSpec := { name := "fnExactSameParity", fn := fun _ => fun
  | [d1, d2] => { results := [.lit (.bool false)], args := [d1, d2] }
  | _ => none }
def FnExactSameParityWrongFalsely : Prop := fnExactSameParityRow.holds Try.pinned (OpenSpec.ofChange fnExactSameParityWrong)

/-- 'laws.FnExactRepeatParity': WHATEVER THE INPUT: true; the input reads as it did. -/
def fnExactRepeatParitySpec : ChangeSpec := { name := "fnExactRepeatParity", fn := fun _ => fun
  | [d] => { results := [.lit (.bool true)], args := [d] }
  | _ => none }
def fnExactRepeatParityRow : OpenClaim := { program := "ythjijfghbchhpaa", sum := "d02375309170590aa0ccc261757b33b076394e431a933c334b3d02c55f0e33a8", func := "loop.example/g01364/laws.FnExactRepeatParity", spec := "fnExactRepeatParity", apart := false }
def FnExactRepeatParitySaid : Prop := fnExactRepeatParityRow.holds Try.pinned (OpenSpec.ofChange fnExactRepeatParitySpec)

/-- ITS FALSE NEIGHBOUR: 'it returns false'. Refute it at one input. -/
def fnExactRepeatParityWrong : ChangeSpec := { name := "fnExactRepeatParity", fn := fun _ => fun
  | [d] => { results := [.lit (.bool false)], args := [d] }
  | _ => none }
def FnExactRepeatParityWrongFalsely : Prop := fnExactRepeatParityRow.holds Try.pinned (OpenSpec.ofChange fnExactRepeatParityWrong)

/-- 'laws.FnExactCyclicOf': WHATEVER THE INPUT: true; the input reads as it did. -/
def fnExactCyclicOfSpec : ChangeSpec := { name := "fnExactCyclicOf", fn := fun _ => fun
  | [d1, d2] => { results := [.lit (.bool true)], args := [d1, d2] }
  | _ => none }
def fnExactCyclicOfRow : OpenClaim := { program := "ythjijfghbchhpaa", sum := "d02375309170590aa0ccc261757b33b076394e431a933c334b3d02c55f0e33a8", func := "loop.example/g01364/laws.FnExactCyclicOf", spec := "fnExactCyclicOf", apart := false }
def FnExactCyclicOfSaid : Prop := fnExactCyclicOfRow.holds Try.pinned (OpenSpec.ofChange fnExactCyclicOfSpec)

/-- ITS FALSE NEIGHBOUR: 'it returns false'. Refute it at one input. -/
def fnExactCyclicOfWrong : ChangeSpec := { name := "fnExactCyclicOf", fn := fun _ => fun
  | [d1, d2] => { results := [.lit (.bool false)], args := [d1, d2] }
  | _ => none }
def FnExactCyclicOfWrongFalsely : Prop := fnExactCyclicOfRow.holds Try.pinned (OpenSpec.ofChange fnExactCyclicOfWrong)

/-- 'laws.FnExactEchelonOf': WHATEVER THE INPUT: true; the input reads as it did. -/
def fnExactEchelonOfSpec : ChangeSpec := { name := "fnExactEchelonOf", fn := fun _ => fun
  | [d] => { results := [.lit (.bool true)], args := [d] }
  | _ => none }
def fnExactEchelonOfRow : OpenClaim := { program := "ythjijfghbchhpaa", sum := "d02375309170590aa0ccc261757b33b076394e431a933c334b3d02c55f0e33a8", func := "loop.example/g01364/laws.FnExactEchelonOf", spec := "fnExactEchelonOf", unfollowed := true, recurses := true, apart := false }
def FnExactEchelonOfSaid : Prop := fnExactEchelonOfRow.holds Try.pinned (OpenSpec.ofChange fnExactEchelonOfSpec)

/-- ITS FALSE NEIGHBOUR: 'it returns false'. Refute it at one input. -/
def fnExactEchelonOfWrong : ChangeSpec := { name := "fnExactEchelonOf", fn := fun _ => fun
  | [d] => { results := [.lit (.bool false)], args := [d] }
  | _ => none }
def FnExactEchelonOfWrongFalsely : Prop := fnExactEchelonOfRow.holds Try.pinned (OpenSpec.ofChange fnExactEchelonOfWrong)

/-- 'laws.FnExactDualOf': WHATEVER THE INPUT: true; the input reads as it did. -/
def fnExactDualOfSpec : ChangeSpec := { name := "fnExactDualOf", fn := fun _ => fun
  | [d] => { results := [.lit (.bool true)], args := [d] }
  | _ => none }
def fnExactDualOfRow : OpenClaim := { program := "ythjijfghbchhpaa", sum := "d02375309170590aa0ccc261757b33b076394e431a933c334b3d02c55f0e33a8", func := "loop.example/g01364/laws.FnExactDualOf", spec := "fnExactDualOf", unfollowed := true, recurses := true, apart := false }
def FnExactDualOfSaid : Prop := fnExactDualOfRow.holds Try.pinned (OpenSpec.ofChange fnExactDualOfSpec)

/-- ITS FALSE NEIGHBOUR: 'it returns false'. Refute it at one input. -/
def fnExactDualOfWrong : ChangeSpec := { name := "fnExactDualOf", fn := fun _ => fun
  | [d] => { results := [.lit (.bool false)], args := [d] }
  | _ => none }
def FnExactDualOfWrongFalsely : Prop := fnExactDualOfRow.holds Try.pinned (OpenSpec.ofChange fnExactDualOfWrong)

/-- 'laws.FnExactFarOfBits': WHATEVER THE INPUT: true; the input reads as it did. -/
def fnExactFarOfBitsSpec : ChangeSpec := { name := "fnExactFarOfBits", fn := fun _ => fun
  | [d1, d2] => { results := [.lit (.bool true)], args := [d1, d2] }
  | _ => none }
def fnExactFarOfBitsRow : OpenClaim := { program := "ythjijfghbchhpaa", sum := "d02375309170590aa0ccc261757b33b076394e431a933c334b3d02c55f0e33a8", func := "loop.example/g01364/laws.FnExactFarOfBits", spec := "fnExactFarOfBits", apart := false }
def FnExactFarOfBitsSaid : Prop := fnExactFarOfBitsRow.holds Try.pinned (OpenSpec.ofChange fnExactFarOfBitsSpec)

/-- ITS FALSE NEIGHBOUR: 'it returns false'. Refute it at one input. -/
def fnExactFarOfBitsWrong : ChangeSpec := { name := "fnExactFarOfBits", fn := fun _ => fun
  | [d1, d2] => { results := [.lit (.bool false)], args := [d1, d2] }
  | _ => none }
def FnExactFarOfBitsWrongFalsely : Prop := fnExactFarOfBitsRow.holds Try.pinned (OpenSpec.ofChange fnExactFarOfBitsWrong)

/-- 'laws.FnExactExtendParity': WHATEVER THE INPUT: true; the input reads as it did. -/
def fnExactExtendParitySpec : ChangeSpec := { name := "fnExactExtendParity", fn := fun _ => fun
  | [d] => { results := [.lit (.bool true)], args := [d] }
  | _ => none }
def fnExactExtendParityRow : OpenClaim := { program := "ythjijfghbchhpaa", sum := "d02375309170590aa0ccc261757b33b076394e431a933c334b3d02c55f0e33a8", func := "loop.example/g01364/laws.FnExactExtendParity", spec := "fnExactExtendParity", apart := false }
def FnExactExtendParitySaid : Prop := fnExactExtendParityRow.holds Try.pinned (OpenSpec.ofChange fnExactExtendParitySpec)

/-- ITS FALSE NEIGHBOUR: 'it returns false'. Refute it at one input. -/
def fnExactExtendParityWrong : ChangeSpec := { name := "fnExactExtendParity", fn := fun _ => fun
  | [d] => { results := [.lit (.bool false)], args := [d] }
  | _ => none }
def FnExactExtendParityWrongFalsely : Prop := fnExactExtendParityRow.holds Try.pinned (OpenSpec.ofChange fnExactExtendParityWrong)

/- THE SECOND FORM. 'bulk': how many values and letters a reading holds, each counted each time it is reached (what is shared counts as often as it is met; a slice's spare places count too). A statement '..UptoSaid' is the law's where the arguments, and the package variables that the reading takes, are together of bulk at most 1048576: NARROWER than '..Said'. Prove '..Said' where nothing that the law and all that it calls make is longer than what came in: it says more and counts as full. Else prove '..UptoSaid'. A law counts once. -/
mutual
def uptoBulk {H : Type} : DataW H → Nat
  | .lit (.string bytes) => bytes.length + 1
  | .lit _ => 1
  | .nil => 1
  | .ptr d => uptoBulk d + 1
  | .slice elems spare => uptoBulkAll elems + uptoBulkAll spare + 1
  | .agg parts => uptoBulkAll parts + 1
  | .iface _ d => uptoBulk d + 1
  | .map entries => uptoBulkEntries entries + 1
  | .held _ => 1
def uptoBulkAll {H : Type} : List (DataW H) → Nat
  | [] => 0
  | d :: r => uptoBulk d + uptoBulkAll r
def uptoBulkEntries {H : Type} : List (Lit × DataW H) → Nat
  | [] => 0
  | x :: r => uptoBulkEntry x + uptoBulkEntries r
def uptoBulkEntry {H : Type} : Lit × DataW H → Nat
  | (.string bytes, d) => bytes.length + uptoBulk d + 1
  | (_, d) => uptoBulk d + 1
 end
def uptoSmall : (H : Type) → List (DataW H) → Bool := fun _ ds => decide (uptoBulkAll ds ≤ 1048576)
def OpenSpec.upto (s : _root_.Go.ChangeSpec) : _root_.Go.OpenSpec := { _root_.Go.OpenSpec.ofChange s with cond := some uptoSmall }

/-- 'laws.FnExactValidParity', WHERE WHAT IT READS IS OF BULK AT MOST 1048576: true; the input reads as it did. -/
def fnExactValidParityUptoRow : OpenClaim := { program := "ythjijfghbchhpaa", sum := "d02375309170590aa0ccc261757b33b076394e431a933c334b3d02c55f0e33a8", func := "loop.example/g01364/laws.FnExactValidParity", spec := "fnExactValidParity", apart := false, narrowed := true }
def FnExactValidParityUptoSaid : Prop := fnExactValidParityUptoRow.holds Try.pinned (OpenSpec.upto fnExactValidParitySpec)

/-- 'laws.FnExactSameParity', WHERE WHAT IT READS IS OF BULK AT MOST 1048576: true; the input reads as it did. -/
def fnExactSameParityUptoRow : OpenClaim := { program := "ythjijfghbchhpaa", sum := "d02375309170590aa0ccc261757b33b076394e431a933c334b3d02c55f0e33a8", func := "loop.example/g01364/laws.FnExactSameParity", spec := "fnExactSameParity", apart := false, narrowed := true }
def FnExactSameParityUptoSaid : Prop := fnExactSameParityUptoRow.holds Try.pinned (OpenSpec.upto fnExactSameParitySpec)

/-- 'laws.FnExactRepeatParity', WHERE WHAT IT READS IS OF BULK AT MOST 1048576: true; the input reads as it did. -/
def fnExactRepeatParityUptoRow : OpenClaim := { program := "ythjijfghbchhpaa", sum := "d02375309170590aa0ccc261757b33b076394e431a933c334b3d02c55f0e33a8", func := "loop.example/g01364/laws.FnExactRepeatParity", spec := "fnExactRepeatParity", apart := false, narrowed := true }
def FnExactRepeatParityUptoSaid : Prop := fnExactRepeatParityUptoRow.holds Try.pinned (OpenSpec.upto fnExactRepeatParitySpec)

/-- 'laws.FnExactCyclicOf', WHERE WHAT IT READS IS OF BULK AT MOST 1048576: true; the input reads as it did. -/
def fnExactCyclicOfUptoRow : OpenClaim := { program := "ythjijfghbchhpaa", sum := "d02375309170590aa0ccc261757b33b076394e431a933c334b3d02c55f0e33a8", func := "loop.example/g01364/laws.FnExactCyclicOf", spec := "fnExactCyclicOf", apart := false, narrowed := true }
def FnExactCyclicOfUptoSaid : Prop := fnExactCyclicOfUptoRow.holds Try.pinned (OpenSpec.upto fnExactCyclicOfSpec)

/-- 'laws.FnExactEchelonOf', WHERE WHAT IT READS IS OF BULK AT MOST 1048576: true; the input reads as it did. -/
def fnExactEchelonOfUptoRow : OpenClaim := { program := "ythjijfghbchhpaa", sum := "d02375309170590aa0ccc261757b33b076394e431a933c334b3d02c55f0e33a8", func := "loop.example/g01364/laws.FnExactEchelonOf", spec := "fnExactEchelonOf", unfollowed := true, recurses := true, apart := false, narrowed := true }
def FnExactEchelonOfUptoSaid : Prop := fnExactEchelonOfUptoRow.holds Try.pinned (OpenSpec.upto fnExactEchelonOfSpec)

/-- 'laws.FnExactDualOf', WHERE WHAT IT READS IS OF BULK AT MOST 1048576: true; the input reads as it did. -/
def fnExactDualOfUptoRow : OpenClaim := { program := "ythjijfghbchhpaa", sum := "d02375309170590aa0ccc261757b33b076394e431a933c334b3d02c55f0e33a8", func := "loop.example/g01364/laws.FnExactDualOf", spec := "fnExactDualOf", unfollowed := true, recurses := true, apart := false, narrowed := true }
def FnExactDualOfUptoSaid : Prop := fnExactDualOfUptoRow.holds Try.pinned (OpenSpec.upto fnExactDualOfSpec)

/-- 'laws.FnExactFarOfBits', WHERE WHAT IT READS IS OF BULK AT MOST 1048576: true; the input reads as it did. -/
def fnExactFarOfBitsUptoRow : OpenClaim := { program := "ythjijfghbchhpaa", sum := "d02375309170590aa0ccc261757b33b076394e431a933c334b3d02c55f0e33a8", func := "loop.example/g01364/laws.FnExactFarOfBits", spec := "fnExactFarOfBits", apart := false, narrowed := true }
def FnExactFarOfBitsUptoSaid : Prop := fnExactFarOfBitsUptoRow.holds Try.pinned (OpenSpec.upto fnExactFarOfBitsSpec)

/-- 'laws.FnExactExtendParity', WHERE WHAT IT READS IS OF BULK AT MOST 1048576: true; the input reads as it did. -/
def fnExactExtendParityUptoRow : OpenClaim := { program := "ythjijfghbchhpaa", sum := "d02375309170590aa0ccc261757b33b076394e431a933c334b3d02c55f0e33a8", func := "loop.example/g01364/laws.FnExactExtendParity", spec := "fnExactExtendParity", apart := false, narrowed := true }
def FnExactExtendParityUptoSaid : Prop := fnExactExtendParityUptoRow.holds Try.pinned (OpenSpec.upto fnExactExtendParitySpec)

end Rows
end Go.Proofs.Ythjijfghbchhpaa
