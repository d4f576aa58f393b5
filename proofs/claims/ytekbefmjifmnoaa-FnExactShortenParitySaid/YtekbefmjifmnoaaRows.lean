/-
  No cell of these rows narrows 'for every input' (looked for: loops, veiled, ifaces, maps, wideKeys, modest, calm, conditions, laid).
  DERIVED. THE GIVEN ROWS OF THIS SEAT. 8 by the template 'for every input the law returns true; each argument reads behind the call as it read before'; 0 by the template 'total and deterministic' (their statements: YtekbefmjifmnoaaTotals.lean).
  GIVEN WITH THE SEED: the statements are not yours to turn. If you find one false, say at which input.
  Laid BY PROGRAM, IN A SANDBOX (cutbox-rows.mjs): the forced cells as the released guide's own fill.sh prints them over the translation ce36f99c4865f724… (all of the seat's roots in one cut). By AI agents, Wed Nov 11 2026. No macro, syntax, notation, axiom, sorry.
-/
import Derived.Test.YtekbefmjifmnoaaChecked
import GoSem.Claim
import GoSem.ClaimJoined
import GoSem.ClaimMapViews
import Derived.JoinedTies
import Derived.KernelRfl
namespace Go.Proofs.Ytekbefmjifmnoaa
/- THE CELL 'sum', in the pinned program and in every row, IS THE sha256 OF THE DUMP (.gsa) THAT YtekbefmjifmnoaaProg.lean LOADS. Nothing in Lean hashes anything: it is a label: what it is worth is what the hold of that sum in a sandbox is worth. -/
noncomputable def Try.pinned : Pinned := { name := "ytekbefmjifmnoaa", sum := "ce36f99c4865f724623a511ac8826acc92d23ec134c00f3a22ab9f05171d2b77", checked := Try.checked }
namespace Rows
def none {H : Type} : Left H := { results := [], args := [] }

/-- 'laws.FnExactSyndromeOf': WHATEVER THE INPUT: true; the input reads as it did. -/
def fnExactSyndromeOfSpec : ChangeSpec := { name := "fnExactSyndromeOf", fn := fun _ => fun
  | [d1, d2] => { results := [.lit (.bool true)], args := [d1, d2] }
  | _ => none }
def fnExactSyndromeOfRow : OpenClaim := { program := "ytekbefmjifmnoaa", sum := "ce36f99c4865f724623a511ac8826acc92d23ec134c00f3a22ab9f05171d2b77", func := "loop.example/g01364/laws.FnExactSyndromeOf", spec := "fnExactSyndromeOf", unfollowed := true, recurses := true, apart := false }
def FnExactSyndromeOfSaid : Prop := fnExactSyndromeOfRow.holds Try.pinned (OpenSpec.ofChange fnExactSyndromeOfSpec)

/-- ITS FALSE NEIGHBOUR: 'it returns false'. Refute it at one input. -/
def fnExactSyndromeOfWrong : ChangeSpec := { name := "fnExactSyndromeOf", fn := fun _ => fun
  | [d1, d2] => { results := [.lit (.bool false)], args := [d1, d2] }
  | _ => none }
def FnExactSyndromeOfWrongFalsely : Prop := fnExactSyndromeOfRow.holds Try.pinned (OpenSpec.ofChange fnExactSyndromeOfWrong)

/-- 'laws.FnExactLeadersOf': WHATEVER THE INPUT: true; the input reads as it did. -/
def fnExactLeadersOfSpec : ChangeSpec := { name := "fnExactLeadersOf", fn := fun _ => fun
  | [d] => { results := [.lit (.bool true)], args := [d] }
  | _ => none }
def fnExactLeadersOfRow : OpenClaim := { program := "ytekbefmjifmnoaa", sum := "ce36f99c4865f724623a511ac8826acc92d23ec134c00f3a22ab9f05171d2b77", func := "loop.example/g01364/laws.FnExactLeadersOf", spec := "fnExactLeadersOf", unfollowed := true, recurses := true, apart := false }
def FnExactLeadersOfSaid : Prop := fnExactLeadersOfRow.holds Try.pinned (OpenSpec.ofChange fnExactLeadersOfSpec)

/-- ITS FALSE NEIGHBOUR: 'it returns false'. Refute it at one input. -/
def fnExactLeadersOfWrong : ChangeSpec := { name := "fnExactLeadersOf", fn := fun _ => fun
  | [d] => { results := [.lit (.bool false)], args := [d] }
  | _ => none }
def FnExactLeadersOfWrongFalsely : Prop := fnExactLeadersOfRow.holds Try.pinned (OpenSpec.ofChange fnExactLeadersOfWrong)

/-- 'laws.FnExactMendWord': WHATEVER THE INPUT: true; the input reads as it did. -/
def fnExactMendWordSpec : ChangeSpec := { name := "fnExactMendWord", fn := fun _ => fun
  | [d1, d2] => { results := [.lit (.bool true)], args := [d1, d2] }
  | _ => none }
def fnExactMendWordRow : OpenClaim := { program := "ytekbefmjifmnoaa", sum := "ce36f99c4865f724623a511ac8826acc92d23ec134c00f3a22ab9f05171d2b77", func := "loop.example/g01364/laws.FnExactMendWord", spec := "fnExactMendWord", unfollowed := true, recurses := true, apart := false }
def FnExactMendWordSaid : Prop := fnExactMendWordRow.holds Try.pinned (OpenSpec.ofChange fnExactMendWordSpec)

/-- ITS FALSE NEIGHBOUR: 'it returns false'. Refute it at one input. -/
def fnExactMendWordWrong : ChangeSpec := { name := "fnExactMendWord", fn := fun _ => fun
  | [d1, d2] => { results := [.lit (.bool false)], args := [d1, d2] }
  | _ => none }
def FnExactMendWordWrongFalsely : Prop := fnExactMendWordRow.holds Try.pinned (OpenSpec.ofChange fnExactMendWordWrong)

/-- 'laws.FnExactShortenParity': WHATEVER THE INPUT: true; the input reads as it did. -/
def fnExactShortenParitySpec : ChangeSpec := { name := "fnExactShortenParity", fn := fun _ => fun
  | [d] => { results := [.lit (.bool true)], args := [d] }
  | _ => none }
def fnExactShortenParityRow : OpenClaim := { program := "ytekbefmjifmnoaa", sum := "ce36f99c4865f724623a511ac8826acc92d23ec134c00f3a22ab9f05171d2b77", func := "loop.example/g01364/laws.FnExactShortenParity", spec := "fnExactShortenParity", unfollowed := true, recurses := true, apart := false }
def FnExactShortenParitySaid : Prop := fnExactShortenParityRow.holds Try.pinned (OpenSpec.ofChange fnExactShortenParitySpec)

/-- ITS FALSE NEIGHBOUR: 'it returns false'. Refute it at one input. -/
def fnExactShortenParityWrong : ChangeSpec := { name := "fnExactShortenParity", fn := fun _ => fun
  | [d] => { results := [.lit (.bool false)], args := [d] }
  | _ => none }
def FnExactShortenParityWrongFalsely : Prop := fnExactShortenParityRow.holds Try.pinned (OpenSpec.ofChange fnExactShortenParityWrong)

/-- 'laws.FnExactKeyOfBits': WHATEVER THE INPUT: true; the input reads as it did. -/
def fnExactKeyOfBitsSpec : ChangeSpec := { name := "fnExactKeyOfBits", fn := fun _ => fun
  | [d1, d2, d3] => { results := [.lit (.bool true)], args := [d1, d2, d3] }
  | _ => none }
def fnExactKeyOfBitsRow : OpenClaim := { program := "ytekbefmjifmnoaa", sum := "ce36f99c4865f724623a511ac8826acc92d23ec134c00f3a22ab9f05171d2b77", func := "loop.example/g01364/laws.FnExactKeyOfBits", spec := "fnExactKeyOfBits", apart := false }
def FnExactKeyOfBitsSaid : Prop := fnExactKeyOfBitsRow.holds Try.pinned (OpenSpec.ofChange fnExactKeyOfBitsSpec)

/-- ITS FALSE NEIGHBOUR: 'it returns false'. Refute it at one input. -/
def fnExactKeyOfBitsWrong : ChangeSpec := { name := "fnExactKeyOfBits", fn := fun _ => fun
  | [d1, d2, d3] => { results := [.lit (.bool false)], args := [d1, d2, d3] }
  | _ => none }
def FnExactKeyOfBitsWrongFalsely : Prop := fnExactKeyOfBitsRow.holds Try.pinned (OpenSpec.ofChange fnExactKeyOfBitsWrong)

/-- 'laws.FnExactShareSecret': WHATEVER THE INPUT: true; the input reads as it did. -/
def fnExactShareSecretSpec : ChangeSpec := { name := "fnExactShareSecret", fn := fun _ => fun
  | [d1, d2, d3, d4] => { results := [.lit (.bool true)], args := [d1, d2, d3, d4] }
  | _ => none }
def fnExactShareSecretRow : OpenClaim := { program := "ytekbefmjifmnoaa", sum := "ce36f99c4865f724623a511ac8826acc92d23ec134c00f3a22ab9f05171d2b77", func := "loop.example/g01364/laws.FnExactShareSecret", spec := "fnExactShareSecret", unfollowed := true, recurses := true, apart := false }
def FnExactShareSecretSaid : Prop := fnExactShareSecretRow.holds Try.pinned (OpenSpec.ofChange fnExactShareSecretSpec)

/-- ITS FALSE NEIGHBOUR: 'it returns false'. Refute it at one input. -/
def fnExactShareSecretWrong : ChangeSpec := { name := "fnExactShareSecret", fn := fun _ => fun
  | [d1, d2, d3, d4] => { results := [.lit (.bool false)], args := [d1, d2, d3, d4] }
  | _ => none }
def FnExactShareSecretWrongFalsely : Prop := fnExactShareSecretRow.holds Try.pinned (OpenSpec.ofChange fnExactShareSecretWrong)

/-- 'laws.FnExactValuesOver': WHATEVER THE INPUT: true; the input reads as it did. -/
def fnExactValuesOverSpec : ChangeSpec := { name := "fnExactValuesOver", fn := fun _ => fun
  | [d1, d2, d3] => { results := [.lit (.bool true)], args := [d1, d2, d3] }
  | _ => none }
def fnExactValuesOverRow : OpenClaim := { program := "ytekbefmjifmnoaa", sum := "ce36f99c4865f724623a511ac8826acc92d23ec134c00f3a22ab9f05171d2b77", func := "loop.example/g01364/laws.FnExactValuesOver", spec := "fnExactValuesOver", unfollowed := true, recurses := true, apart := false }
def FnExactValuesOverSaid : Prop := fnExactValuesOverRow.holds Try.pinned (OpenSpec.ofChange fnExactValuesOverSpec)

/-- ITS FALSE NEIGHBOUR: 'it returns false'. Refute it at one input. -/
def fnExactValuesOverWrong : ChangeSpec := { name := "fnExactValuesOver", fn := fun _ => fun
  | [d1, d2, d3] => { results := [.lit (.bool false)], args := [d1, d2, d3] }
  | _ => none }
def FnExactValuesOverWrongFalsely : Prop := fnExactValuesOverRow.holds Try.pinned (OpenSpec.ofChange fnExactValuesOverWrong)

/-- 'laws.FnExactJoinShares': WHATEVER THE INPUT: true; the input reads as it did. -/
def fnExactJoinSharesSpec : ChangeSpec := { name := "fnExactJoinShares", fn := fun _ => fun
  | [d1, d2, d3] => { results := [.lit (.bool true)], args := [d1, d2, d3] }
  | _ => none }
def fnExactJoinSharesRow : OpenClaim := { program := "ytekbefmjifmnoaa", sum := "ce36f99c4865f724623a511ac8826acc92d23ec134c00f3a22ab9f05171d2b77", func := "loop.example/g01364/laws.FnExactJoinShares", spec := "fnExactJoinShares", unfollowed := true, recurses := true, apart := false }
def FnExactJoinSharesSaid : Prop := fnExactJoinSharesRow.holds Try.pinned (OpenSpec.ofChange fnExactJoinSharesSpec)

/-- ITS FALSE NEIGHBOUR: 'it returns false'. Refute it at one input. -/
def fnExactJoinSharesWrong : ChangeSpec := { name := "fnExactJoinShares", fn := fun _ => fun
  | [d1, d2, d3] => { results := [.lit (.bool false)], args := [d1, d2, d3] }
  | _ => none }
def FnExactJoinSharesWrongFalsely : Prop := fnExactJoinSharesRow.holds Try.pinned (OpenSpec.ofChange fnExactJoinSharesWrong)

/- THE SECOND FORM. 'bulk': how many values and letters a reading holds, each counted each time it is reached (what is shared counts as often as it is met; a slice's spare places count too). A statement '..UptoSaid' is the law's where the arguments, and the package variables that the reading takes, are together of bulk at most 1048576: NARROWER than '..Said'. Prove '..Said' where nothing that the law and all that it calls make is longer than what came in: it says more and counts as full. Else prove '..UptoSaid'. A law counts once. -/
mutual
def uptoBulk {H : Type} : DataW H → Nat
  | .lit (.string bytes) => bytes.length + 1
  | .lit _ => 1
  | .nil => 1
  | .ptr d => uptoBulk d + 1
  | .slice elems spare => uptoBulkAll elems + uptoBulkAll spare + 1
  | .agg parts => uptoBulkAll parts + 1
  | .iface _ d => uptoBulk d + 1
  | .map entries => uptoBulkEntries entries + 1
  | .held _ => 1
def uptoBulkAll {H : Type} : List (DataW H) → Nat
  | [] => 0
  | d :: r => uptoBulk d + uptoBulkAll r
def uptoBulkEntries {H : Type} : List (Lit × DataW H) → Nat
  | [] => 0
  | x :: r => uptoBulkEntry x + uptoBulkEntries r
def uptoBulkEntry {H : Type} : Lit × DataW H → Nat
  | (.string bytes, d) => bytes.length + uptoBulk d + 1
  | (_, d) => uptoBulk d + 1
 end
def uptoSmall : (H : Type) → List (DataW H) → Bool := fun _ ds => decide (uptoBulkAll ds ≤ 1048576)
def OpenSpec.upto (s : _root_.Go.ChangeSpec) : _root_.Go.OpenSpec := { _root_.Go.OpenSpec.ofChange s with cond := some uptoSmall }

/-- 'laws.FnExactSyndromeOf', WHERE WHAT IT READS IS OF BULK AT MOST 1048576: true; the input reads as it did. -/
def fnExactSyndromeOfUptoRow : OpenClaim := { program := "ytekbefmjifmnoaa", sum := "ce36f99c4865f724623a511ac8826acc92d23ec134c00f3a22ab9f05171d2b77", func := "loop.example/g01364/laws.FnExactSyndromeOf", spec := "fnExactSyndromeOf", unfollowed := true, recurses := true, apart := false, narrowed := true }
def FnExactSyndromeOfUptoSaid : Prop := fnExactSyndromeOfUptoRow.holds Try.pinned (OpenSpec.upto fnExactSyndromeOfSpec)

/-- 'laws.FnExactLeadersOf', WHERE WHAT IT READS IS OF BULK AT MOST 1048576: true; the input reads as it did. -/
def fnExactLeadersOfUptoRow : OpenClaim := { program := "ytekbefmjifmnoaa", sum := "ce36f99c4865f724623a511ac8826acc92d23ec134c00f3a22ab9f05171d2b77", func := "loop.example/g01364/laws.FnExactLeadersOf", spec := "fnExactLeadersOf", unfollowed := true, recurses := true, apart := false, narrowed := true }
def FnExactLeadersOfUptoSaid : Prop := fnExactLeadersOfUptoRow.holds Try.pinned (OpenSpec.upto fnExactLeadersOfSpec)

/-- 'laws.FnExactMendWord', WHERE WHAT IT READS IS OF BULK AT MOST 1048576: true; the input reads as it did. -/
def fnExactMendWordUptoRow : OpenClaim := { program := "ytekbefmjifmnoaa", sum := "ce36f99c4865f724623a511ac8826acc92d23ec134c00f3a22ab9f05171d2b77", func := "loop.example/g01364/laws.FnExactMendWord", spec := "fnExactMendWord", unfollowed := true, recurses := true, apart := false, narrowed := true }
def FnExactMendWordUptoSaid : Prop := fnExactMendWordUptoRow.holds Try.pinned (OpenSpec.upto fnExactMendWordSpec)

/-- 'laws.FnExactShortenParity', WHERE WHAT IT READS IS OF BULK AT MOST 1048576: true; the input reads as it did. -/
def fnExactShortenParityUptoRow : OpenClaim := { program := "ytekbefmjifmnoaa", sum := "ce36f99c4865f724623a511ac8826acc92d23ec134c00f3a22ab9f05171d2b77", func := "loop.example/g01364/laws.FnExactShortenParity", spec := "fnExactShortenParity", unfollowed := true, recurses := true, apart := false, narrowed := true }
def FnExactShortenParityUptoSaid : Prop := fnExactShortenParityUptoRow.holds Try.pinned (OpenSpec.upto fnExactShortenParitySpec)

/-- 'laws.FnExactKeyOfBits', WHERE WHAT IT READS IS OF BULK AT MOST 1048576: true; the input reads as it did. -/
def fnExactKeyOfBitsUptoRow : OpenClaim := { program := "ytekbefmjifmnoaa", sum := "ce36f99c4865f724623a511ac8826acc92d23ec134c00f3a22ab9f05171d2b77", func := "loop.example/g01364/laws.FnExactKeyOfBits", spec := "fnExactKeyOfBits", apart := false, narrowed := true }
def FnExactKeyOfBitsUptoSaid : Prop := fnExactKeyOfBitsUptoRow.holds Try.pinned (OpenSpec.upto fnExactKeyOfBitsSpec)

/-- 'laws.FnExactShareSecret', WHERE WHAT IT READS IS OF BULK AT MOST 1048576: true; the input reads as it did. -/
def fnExactShareSecretUptoRow : OpenClaim := { program := "ytekbefmjifmnoaa", sum := "ce36f99c4865f724623a511ac8826acc92d23ec134c00f3a22ab9f05171d2b77", func := "loop.example/g01364/laws.FnExactShareSecret", spec := "fnExactShareSecret", unfollowed := true, recurses := true, apart := false, narrowed := true }
def FnExactShareSecretUptoSaid : Prop := fnExactShareSecretUptoRow.holds Try.pinned (OpenSpec.upto fnExactShareSecretSpec)

/-- 'laws.FnExactValuesOver', WHERE WHAT IT READS IS OF BULK AT MOST 1048576: true; the input reads as it did. -/
def fnExactValuesOverUptoRow : OpenClaim := { program := "ytekbefmjifmnoaa", sum := "ce36f99c4865f724623a511ac8826acc92d23ec134c00f3a22ab9f05171d2b77", func := "loop.example/g01364/laws.FnExactValuesOver", spec := "fnExactValuesOver", unfollowed := true, recurses := true, apart := false, narrowed := true }
def FnExactValuesOverUptoSaid : Prop := fnExactValuesOverUptoRow.holds Try.pinned (OpenSpec.upto fnExactValuesOverSpec)

/-- 'laws.FnExactJoinShares', WHERE WHAT IT READS IS OF BULK AT MOST 1048576: true; the input reads as it did. -/
def fnExactJoinSharesUptoRow : OpenClaim := { program := "ytekbefmjifmnoaa", sum := "ce36f99c4865f724623a511ac8826acc92d23ec134c00f3a22ab9f05171d2b77", func := "loop.example/g01364/laws.FnExactJoinShares", spec := "fnExactJoinShares", unfollowed := true, recurses := true, apart := false, narrowed := true }
def FnExactJoinSharesUptoSaid : Prop := fnExactJoinSharesUptoRow.holds Try.pinned (OpenSpec.upto fnExactJoinSharesSpec)

end Rows
end Go.Proofs.Ytekbefmjifmnoaa
