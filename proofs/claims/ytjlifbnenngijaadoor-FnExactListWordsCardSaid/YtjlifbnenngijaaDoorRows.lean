/-
  NARROWER THAN 'FOR EVERY INPUT', by the rows' own cells (each row's printed sentence says how): FnExactHammingOf: laid · FnExactEncodeBits: laid · FnExactInCode: laid · FnExactDecodeBits: laid · FnExactListWords: laid · FnExactWeightsOf: laid · FnExactDistanceOf: laid · FnExactIsPerfect: laid · FnExactNewDesk: laid.
  DERIVED. THE GIVEN ROWS OF THIS SEAT. 9 by the template 'for every input the law returns true; each argument reads behind the call as it read before'; 0 by the template 'total and deterministic' (their statements: YtjlifbnenngijaaDoorTotals.lean).
  GIVEN WITH THE SEED: the statements are not yours to turn. If you find one false, say at which input.
  Laid BY PROGRAM, IN A SANDBOX (cutbox-rows.mjs): the forced cells as the released guide's own fill.sh prints them over the translation 3f96b2fc66d5ce56… (all of the seat's roots in one cut). By AI agents, Wed Nov 11 2026. No macro, syntax, notation, axiom, sorry.
-/
import Derived.Test.YtjlifbnenngijaaDoorChecked
import GoSem.Claim
import GoSem.ClaimJoined
import GoSem.ClaimMapViews
import Derived.JoinedTies
import Derived.KernelRfl
namespace Go.Proofs.YtjlifbnenngijaaDoor
/- THE CELL 'sum', in the pinned program and in every row, IS THE sha256 OF THE DUMP (.gsa) THAT YtjlifbnenngijaaDoorProg.lean LOADS. Nothing in Lean hashes anything: it is a label: what it is worth is what the hold of that sum in a sandbox is worth. -/
noncomputable def Tryd.pinned : Pinned := { name := "ytjlifbnenngijaadoor", sum := "3f96b2fc66d5ce568e0b1195b2657f11bfa9ec743e2c1d7e05208d6de320e2d9", checked := Tryd.checked }
namespace Rows
def none {H : Type} : Left H := { results := [], args := [] }

/- WHAT THE LISTED PACKAGE-LEVEL VARIABLES READ AS WHEN THE CALL BEGINS. Each datum BY PROGRAM (the guide's laid-datum.mjs) off the statement by which the dump's own 'gosem.cut.vars' lays the variable. In a bare row this is a premise. The card (YtjlifbnenngijaaDoorCards.lean) ties it to the program's text. -/
def laid_math_bits_deBruijn64tab {H : Type} : DataW H := .agg [.lit (.int .u8 0), .lit (.int .u8 1), .lit (.int .u8 56), .lit (.int .u8 2), .lit (.int .u8 57), .lit (.int .u8 49), .lit (.int .u8 28), .lit (.int .u8 3), .lit (.int .u8 61), .lit (.int .u8 58), .lit (.int .u8 42), .lit (.int .u8 50), .lit (.int .u8 38), .lit (.int .u8 29), .lit (.int .u8 17), .lit (.int .u8 4), .lit (.int .u8 62), .lit (.int .u8 47), .lit (.int .u8 59), .lit (.int .u8 36), .lit (.int .u8 45), .lit (.int .u8 43), .lit (.int .u8 51), .lit (.int .u8 22), .lit (.int .u8 53), .lit (.int .u8 39), .lit (.int .u8 33), .lit (.int .u8 30), .lit (.int .u8 24), .lit (.int .u8 18), .lit (.int .u8 12), .lit (.int .u8 5), .lit (.int .u8 63), .lit (.int .u8 55), .lit (.int .u8 48), .lit (.int .u8 27), .lit (.int .u8 60), .lit (.int .u8 41), .lit (.int .u8 37), .lit (.int .u8 16), .lit (.int .u8 46), .lit (.int .u8 35), .lit (.int .u8 44), .lit (.int .u8 21), .lit (.int .u8 52), .lit (.int .u8 32), .lit (.int .u8 23), .lit (.int .u8 11), .lit (.int .u8 54), .lit (.int .u8 26), .lit (.int .u8 40), .lit (.int .u8 15), .lit (.int .u8 34), .lit (.int .u8 20), .lit (.int .u8 31), .lit (.int .u8 10), .lit (.int .u8 25), .lit (.int .u8 14), .lit (.int .u8 19), .lit (.int .u8 9), .lit (.int .u8 13), .lit (.int .u8 8), .lit (.int .u8 7), .lit (.int .u8 6)]

/-- 'laws.FnExactHammingOf': WHATEVER THE INPUT: true; the input reads as it did. -/
def fnExactHammingOfSpec : ChangeSpec := { name := "fnExactHammingOf", fn := fun _ => fun
  | [d] => { results := [.lit (.bool true)], args := [d] }
  | _ => none }
def fnExactHammingOfRow : OpenClaim := { program := "ytjlifbnenngijaadoor", sum := "3f96b2fc66d5ce568e0b1195b2657f11bfa9ec743e2c1d7e05208d6de320e2d9", func := "loop.example/g01364/laws.FnExactHammingOf", spec := "fnExactHammingOf", unfollowed := true, recurses := true, named := ["math/bits.deBruijn64tab"], apart := false, laid := [("math/bits.deBruijn64tab", laid_math_bits_deBruijn64tab)] }
def FnExactHammingOfSaid : Prop := fnExactHammingOfRow.holds Tryd.pinned (OpenSpec.ofChange fnExactHammingOfSpec)

/-- ITS FALSE NEIGHBOUR: 'it returns false'. Refute it at one input. -/
def fnExactHammingOfWrong : ChangeSpec := { name := "fnExactHammingOf", fn := fun _ => fun
  | [d] => { results := [.lit (.bool false)], args := [d] }
  | _ => none }
def FnExactHammingOfWrongFalsely : Prop := fnExactHammingOfRow.holds Tryd.pinned (OpenSpec.ofChange fnExactHammingOfWrong)

/-- 'laws.FnExactEncodeBits': WHATEVER THE INPUT: true; the input reads as it did. -/
def fnExactEncodeBitsSpec : ChangeSpec := { name := "fnExactEncodeBits", fn := fun _ => fun
  | [d1, d2] => { results := [.lit (.bool true)], args := [d1, d2] }
  | _ => none }
def fnExactEncodeBitsRow : OpenClaim := { program := "ytjlifbnenngijaadoor", sum := "3f96b2fc66d5ce568e0b1195b2657f11bfa9ec743e2c1d7e05208d6de320e2d9", func := "loop.example/g01364/laws.FnExactEncodeBits", spec := "fnExactEncodeBits", unfollowed := true, recurses := true, named := ["math/bits.deBruijn64tab"], apart := false, laid := [("math/bits.deBruijn64tab", laid_math_bits_deBruijn64tab)] }
def FnExactEncodeBitsSaid : Prop := fnExactEncodeBitsRow.holds Tryd.pinned (OpenSpec.ofChange fnExactEncodeBitsSpec)

/-- ITS FALSE NEIGHBOUR: 'it returns false'. Refute it at one input. -/
def fnExactEncodeBitsWrong : ChangeSpec := { name := "fnExactEncodeBits", fn := fun _ => fun
  | [d1, d2] => { results := [.lit (.bool false)], args := [d1, d2] }
  | _ => none }
def FnExactEncodeBitsWrongFalsely : Prop := fnExactEncodeBitsRow.holds Tryd.pinned (OpenSpec.ofChange fnExactEncodeBitsWrong)

/-- 'laws.FnExactInCode': WHATEVER THE INPUT: true; the input reads as it did. -/
def fnExactInCodeSpec : ChangeSpec := { name := "fnExactInCode", fn := fun _ => fun
  | [d1, d2] => { results := [.lit (.bool true)], args := [d1, d2] }
  | _ => none }
def fnExactInCodeRow : OpenClaim := { program := "ytjlifbnenngijaadoor", sum := "3f96b2fc66d5ce568e0b1195b2657f11bfa9ec743e2c1d7e05208d6de320e2d9", func := "loop.example/g01364/laws.FnExactInCode", spec := "fnExactInCode", unfollowed := true, recurses := true, named := ["math/bits.deBruijn64tab"], apart := false, laid := [("math/bits.deBruijn64tab", laid_math_bits_deBruijn64tab)] }
def FnExactInCodeSaid : Prop := fnExactInCodeRow.holds Tryd.pinned (OpenSpec.ofChange fnExactInCodeSpec)

/-- ITS FALSE NEIGHBOUR: 'it returns false'. Refute it at one input. -/
def fnExactInCodeWrong : ChangeSpec := { name := "fnExactInCode", fn := fun _ => fun
  | [d1, d2] => { results := [.lit (.bool false)], args := [d1, d2] }
  | _ => none }
def FnExactInCodeWrongFalsely : Prop := fnExactInCodeRow.holds Tryd.pinned (OpenSpec.ofChange fnExactInCodeWrong)

/-- 'laws.FnExactDecodeBits': WHATEVER THE INPUT: true; the input reads as it did. -/
def fnExactDecodeBitsSpec : ChangeSpec := { name := "fnExactDecodeBits", fn := fun _ => fun
  | [d1, d2] => { results := [.lit (.bool true)], args := [d1, d2] }
  | _ => none }
def fnExactDecodeBitsRow : OpenClaim := { program := "ytjlifbnenngijaadoor", sum := "3f96b2fc66d5ce568e0b1195b2657f11bfa9ec743e2c1d7e05208d6de320e2d9", func := "loop.example/g01364/laws.FnExactDecodeBits", spec := "fnExactDecodeBits", unfollowed := true, recurses := true, named := ["math/bits.deBruijn64tab"], apart := false, laid := [("math/bits.deBruijn64tab", laid_math_bits_deBruijn64tab)] }
def FnExactDecodeBitsSaid : Prop := fnExactDecodeBitsRow.holds Tryd.pinned (OpenSpec.ofChange fnExactDecodeBitsSpec)

/-- ITS FALSE NEIGHBOUR: 'it returns false'. Refute it at one input. -/
def fnExactDecodeBitsWrong : ChangeSpec := { name := "fnExactDecodeBits", fn := fun _ => fun
  | [d1, d2] => { results := [.lit (.bool false)], args := [d1, d2] }
  | _ => none }
def FnExactDecodeBitsWrongFalsely : Prop := fnExactDecodeBitsRow.holds Tryd.pinned (OpenSpec.ofChange fnExactDecodeBitsWrong)

/-- 'laws.FnExactListWords': WHATEVER THE INPUT: true; the input reads as it did. -/
def fnExactListWordsSpec : ChangeSpec := { name := "fnExactListWords", fn := fun _ => fun
  | [d1, d2, d3] => { results := [.lit (.bool true)], args := [d1, d2, d3] }
  | _ => none }
def fnExactListWordsRow : OpenClaim := { program := "ytjlifbnenngijaadoor", sum := "3f96b2fc66d5ce568e0b1195b2657f11bfa9ec743e2c1d7e05208d6de320e2d9", func := "loop.example/g01364/laws.FnExactListWords", spec := "fnExactListWords", unfollowed := true, recurses := true, named := ["math/bits.deBruijn64tab"], apart := false, laid := [("math/bits.deBruijn64tab", laid_math_bits_deBruijn64tab)] }
def FnExactListWordsSaid : Prop := fnExactListWordsRow.holds Tryd.pinned (OpenSpec.ofChange fnExactListWordsSpec)

/-- ITS FALSE NEIGHBOUR: 'it returns false'. Refute it at one input. -/
def fnExactListWordsWrong : ChangeSpec := { name := "fnExactListWords", fn := fun _ => fun
  | [d1, d2, d3] => { results := [.lit (.bool false)], args := [d1, d2, d3] }
  | _ => none }
def FnExactListWordsWrongFalsely : Prop := fnExactListWordsRow.holds Tryd.pinned (OpenSpec.ofChange fnExactListWordsWrong)

/-- 'laws.FnExactWeightsOf': WHATEVER THE INPUT: true; the input reads as it did. -/
def fnExactWeightsOfSpec : ChangeSpec := { name := "fnExactWeightsOf", fn := fun _ => fun
  | [d] => { results := [.lit (.bool true)], args := [d] }
  | _ => none }
def fnExactWeightsOfRow : OpenClaim := { program := "ytjlifbnenngijaadoor", sum := "3f96b2fc66d5ce568e0b1195b2657f11bfa9ec743e2c1d7e05208d6de320e2d9", func := "loop.example/g01364/laws.FnExactWeightsOf", spec := "fnExactWeightsOf", unfollowed := true, recurses := true, named := ["math/bits.deBruijn64tab"], apart := false, laid := [("math/bits.deBruijn64tab", laid_math_bits_deBruijn64tab)] }
def FnExactWeightsOfSaid : Prop := fnExactWeightsOfRow.holds Tryd.pinned (OpenSpec.ofChange fnExactWeightsOfSpec)

/-- ITS FALSE NEIGHBOUR: 'it returns false'. Refute it at one input. -/
def fnExactWeightsOfWrong : ChangeSpec := { name := "fnExactWeightsOf", fn := fun _ => fun
  | [d] => { results := [.lit (.bool false)], args := [d] }
  | _ => none }
def FnExactWeightsOfWrongFalsely : Prop := fnExactWeightsOfRow.holds Tryd.pinned (OpenSpec.ofChange fnExactWeightsOfWrong)

/-- 'laws.FnExactDistanceOf': WHATEVER THE INPUT: true; the input reads as it did. -/
def fnExactDistanceOfSpec : ChangeSpec := { name := "fnExactDistanceOf", fn := fun _ => fun
  | [d] => { results := [.lit (.bool true)], args := [d] }
  | _ => none }
def fnExactDistanceOfRow : OpenClaim := { program := "ytjlifbnenngijaadoor", sum := "3f96b2fc66d5ce568e0b1195b2657f11bfa9ec743e2c1d7e05208d6de320e2d9", func := "loop.example/g01364/laws.FnExactDistanceOf", spec := "fnExactDistanceOf", unfollowed := true, recurses := true, named := ["math/bits.deBruijn64tab"], apart := false, laid := [("math/bits.deBruijn64tab", laid_math_bits_deBruijn64tab)] }
def FnExactDistanceOfSaid : Prop := fnExactDistanceOfRow.holds Tryd.pinned (OpenSpec.ofChange fnExactDistanceOfSpec)

/-- ITS FALSE NEIGHBOUR: 'it returns false'. Refute it at one input. -/
def fnExactDistanceOfWrong : ChangeSpec := { name := "fnExactDistanceOf", fn := fun _ => fun
  | [d] => { results := [.lit (.bool false)], args := [d] }
  | _ => none }
def FnExactDistanceOfWrongFalsely : Prop := fnExactDistanceOfRow.holds Tryd.pinned (OpenSpec.ofChange fnExactDistanceOfWrong)

/-- 'laws.FnExactIsPerfect': WHATEVER THE INPUT: true; the input reads as it did. -/
def fnExactIsPerfectSpec : ChangeSpec := { name := "fnExactIsPerfect", fn := fun _ => fun
  | [d] => { results := [.lit (.bool true)], args := [d] }
  | _ => none }
def fnExactIsPerfectRow : OpenClaim := { program := "ytjlifbnenngijaadoor", sum := "3f96b2fc66d5ce568e0b1195b2657f11bfa9ec743e2c1d7e05208d6de320e2d9", func := "loop.example/g01364/laws.FnExactIsPerfect", spec := "fnExactIsPerfect", unfollowed := true, recurses := true, named := ["math/bits.deBruijn64tab"], apart := false, laid := [("math/bits.deBruijn64tab", laid_math_bits_deBruijn64tab)] }
def FnExactIsPerfectSaid : Prop := fnExactIsPerfectRow.holds Tryd.pinned (OpenSpec.ofChange fnExactIsPerfectSpec)

/-- ITS FALSE NEIGHBOUR: 'it returns false'. Refute it at one input. -/
def fnExactIsPerfectWrong : ChangeSpec := { name := "fnExactIsPerfect", fn := fun _ => fun
  | [d] => { results := [.lit (.bool false)], args := [d] }
  | _ => none }
def FnExactIsPerfectWrongFalsely : Prop := fnExactIsPerfectRow.holds Tryd.pinned (OpenSpec.ofChange fnExactIsPerfectWrong)

/-- 'laws.FnExactNewDesk': WHATEVER THE INPUT: true; the input reads as it did. -/
def fnExactNewDeskSpec : ChangeSpec := { name := "fnExactNewDesk", fn := fun _ => fun
  | [] => { results := [.lit (.bool true)], args := [] }
  | _ => none }
def fnExactNewDeskRow : OpenClaim := { program := "ytjlifbnenngijaadoor", sum := "3f96b2fc66d5ce568e0b1195b2657f11bfa9ec743e2c1d7e05208d6de320e2d9", func := "loop.example/g01364/laws.FnExactNewDesk", spec := "fnExactNewDesk", unfollowed := true, recurses := true, named := ["math/bits.deBruijn64tab"], apart := false, laid := [("math/bits.deBruijn64tab", laid_math_bits_deBruijn64tab)] }
def FnExactNewDeskSaid : Prop := fnExactNewDeskRow.holds Tryd.pinned (OpenSpec.ofChange fnExactNewDeskSpec)

/-- ITS FALSE NEIGHBOUR: 'it returns false'. Refute it at one input. -/
def fnExactNewDeskWrong : ChangeSpec := { name := "fnExactNewDesk", fn := fun _ => fun
  | [] => { results := [.lit (.bool false)], args := [] }
  | _ => none }
def FnExactNewDeskWrongFalsely : Prop := fnExactNewDeskRow.holds Tryd.pinned (OpenSpec.ofChange fnExactNewDeskWrong)

/- THE SECOND FORM. 'bulk': how many values and letters a reading holds, each counted each time it is reached (what is shared counts as often as it is met; a slice's spare places count too). A statement '..UptoSaid' is the law's where the arguments, and the package variables that the reading takes, are together of bulk at most 1048576: NARROWER than '..Said'. Prove '..Said' where nothing that the law and all that it calls make is longer than what came in: it says more and counts as full. Else prove '..UptoSaid'. A law counts once. -/
mutual
def uptoBulk {H : Type} : DataW H → Nat
  | .lit (.string bytes) => bytes.length + 1
  | .lit _ => 1
  | .nil => 1
  | .ptr d => uptoBulk d + 1
  | .slice elems spare => uptoBulkAll elems + uptoBulkAll spare + 1
  | .agg parts => uptoBulkAll parts + 1
  | .iface _ d => uptoBulk d + 1
  | .map entries => uptoBulkEntries entries + 1
  | .held _ => 1
def uptoBulkAll {H : Type} : List (DataW H) → Nat
  | [] => 0
  | d :: r => uptoBulk d + uptoBulkAll r
def uptoBulkEntries {H : Type} : List (Lit × DataW H) → Nat
  | [] => 0
  | x :: r => uptoBulkEntry x + uptoBulkEntries r
def uptoBulkEntry {H : Type} : Lit × DataW H → Nat
  | (.string bytes, d) => bytes.length + uptoBulk d + 1
  | (_, d) => uptoBulk d + 1
 end
def uptoSmall : (H : Type) → List (DataW H) → Bool := fun _ ds => decide (uptoBulkAll ds ≤ 1048576)
def OpenSpec.upto (s : _root_.Go.ChangeSpec) : _root_.Go.OpenSpec := { _root_.Go.OpenSpec.ofChange s with cond := some uptoSmall }

/-- 'laws.FnExactHammingOf', WHERE WHAT IT READS IS OF BULK AT MOST 1048576: true; the input reads as it did. -/
def fnExactHammingOfUptoRow : OpenClaim := { program := "ytjlifbnenngijaadoor", sum := "3f96b2fc66d5ce568e0b1195b2657f11bfa9ec743e2c1d7e05208d6de320e2d9", func := "loop.example/g01364/laws.FnExactHammingOf", spec := "fnExactHammingOf", unfollowed := true, recurses := true, named := ["math/bits.deBruijn64tab"], apart := false, laid := [("math/bits.deBruijn64tab", laid_math_bits_deBruijn64tab)], narrowed := true }
def FnExactHammingOfUptoSaid : Prop := fnExactHammingOfUptoRow.holds Tryd.pinned (OpenSpec.upto fnExactHammingOfSpec)

/-- 'laws.FnExactEncodeBits', WHERE WHAT IT READS IS OF BULK AT MOST 1048576: true; the input reads as it did. -/
def fnExactEncodeBitsUptoRow : OpenClaim := { program := "ytjlifbnenngijaadoor", sum := "3f96b2fc66d5ce568e0b1195b2657f11bfa9ec743e2c1d7e05208d6de320e2d9", func := "loop.example/g01364/laws.FnExactEncodeBits", spec := "fnExactEncodeBits", unfollowed := true, recurses := true, named := ["math/bits.deBruijn64tab"], apart := false, laid := [("math/bits.deBruijn64tab", laid_math_bits_deBruijn64tab)], narrowed := true }
def FnExactEncodeBitsUptoSaid : Prop := fnExactEncodeBitsUptoRow.holds Tryd.pinned (OpenSpec.upto fnExactEncodeBitsSpec)

/-- 'laws.FnExactInCode', WHERE WHAT IT READS IS OF BULK AT MOST 1048576: true; the input reads as it did. -/
def fnExactInCodeUptoRow : OpenClaim := { program := "ytjlifbnenngijaadoor", sum := "3f96b2fc66d5ce568e0b1195b2657f11bfa9ec743e2c1d7e05208d6de320e2d9", func := "loop.example/g01364/laws.FnExactInCode", spec := "fnExactInCode", unfollowed := true, recurses := true, named := ["math/bits.deBruijn64tab"], apart := false, laid := [("math/bits.deBruijn64tab", laid_math_bits_deBruijn64tab)], narrowed := true }
def FnExactInCodeUptoSaid : Prop := fnExactInCodeUptoRow.holds Tryd.pinned (OpenSpec.upto fnExactInCodeSpec)

/-- 'laws.FnExactDecodeBits', WHERE WHAT IT READS IS OF BULK AT MOST 1048576: true; the input reads as it did. -/
def fnExactDecodeBitsUptoRow : OpenClaim := { program := "ytjlifbnenngijaadoor", sum := "3f96b2fc66d5ce568e0b1195b2657f11bfa9ec743e2c1d7e05208d6de320e2d9", func := "loop.example/g01364/laws.FnExactDecodeBits", spec := "fnExactDecodeBits", unfollowed := true, recurses := true, named := ["math/bits.deBruijn64tab"], apart := false, laid := [("math/bits.deBruijn64tab", laid_math_bits_deBruijn64tab)], narrowed := true }
def FnExactDecodeBitsUptoSaid : Prop := fnExactDecodeBitsUptoRow.holds Tryd.pinned (OpenSpec.upto fnExactDecodeBitsSpec)

/-- 'laws.FnExactListWords', WHERE WHAT IT READS IS OF BULK AT MOST 1048576: true; the input reads as it did. -/
def fnExactListWordsUptoRow : OpenClaim := { program := "ytjlifbnenngijaadoor", sum := "3f96b2fc66d5ce568e0b1195b2657f11bfa9ec743e2c1d7e05208d6de320e2d9", func := "loop.example/g01364/laws.FnExactListWords", spec := "fnExactListWords", unfollowed := true, recurses := true, named := ["math/bits.deBruijn64tab"], apart := false, laid := [("math/bits.deBruijn64tab", laid_math_bits_deBruijn64tab)], narrowed := true }
def FnExactListWordsUptoSaid : Prop := fnExactListWordsUptoRow.holds Tryd.pinned (OpenSpec.upto fnExactListWordsSpec)

/-- 'laws.FnExactWeightsOf', WHERE WHAT IT READS IS OF BULK AT MOST 1048576: true; the input reads as it did. -/
def fnExactWeightsOfUptoRow : OpenClaim := { program := "ytjlifbnenngijaadoor", sum := "3f96b2fc66d5ce568e0b1195b2657f11bfa9ec743e2c1d7e05208d6de320e2d9", func := "loop.example/g01364/laws.FnExactWeightsOf", spec := "fnExactWeightsOf", unfollowed := true, recurses := true, named := ["math/bits.deBruijn64tab"], apart := false, laid := [("math/bits.deBruijn64tab", laid_math_bits_deBruijn64tab)], narrowed := true }
def FnExactWeightsOfUptoSaid : Prop := fnExactWeightsOfUptoRow.holds Tryd.pinned (OpenSpec.upto fnExactWeightsOfSpec)

/-- 'laws.FnExactDistanceOf', WHERE WHAT IT READS IS OF BULK AT MOST 1048576: true; the input reads as it did. -/
def fnExactDistanceOfUptoRow : OpenClaim := { program := "ytjlifbnenngijaadoor", sum := "3f96b2fc66d5ce568e0b1195b2657f11bfa9ec743e2c1d7e05208d6de320e2d9", func := "loop.example/g01364/laws.FnExactDistanceOf", spec := "fnExactDistanceOf", unfollowed := true, recurses := true, named := ["math/bits.deBruijn64tab"], apart := false, laid := [("math/bits.deBruijn64tab", laid_math_bits_deBruijn64tab)], narrowed := true }
def FnExactDistanceOfUptoSaid : Prop := fnExactDistanceOfUptoRow.holds Tryd.pinned (OpenSpec.upto fnExactDistanceOfSpec)

/-- 'laws.FnExactIsPerfect', WHERE WHAT IT READS IS OF BULK AT MOST 1048576: true; the input reads as it did. -/
def fnExactIsPerfectUptoRow : OpenClaim := { program := "ytjlifbnenngijaadoor", sum := "3f96b2fc66d5ce568e0b1195b2657f11bfa9ec743e2c1d7e05208d6de320e2d9", func := "loop.example/g01364/laws.FnExactIsPerfect", spec := "fnExactIsPerfect", unfollowed := true, recurses := true, named := ["math/bits.deBruijn64tab"], apart := false, laid := [("math/bits.deBruijn64tab", laid_math_bits_deBruijn64tab)], narrowed := true }
def FnExactIsPerfectUptoSaid : Prop := fnExactIsPerfectUptoRow.holds Tryd.pinned (OpenSpec.upto fnExactIsPerfectSpec)

/-- 'laws.FnExactNewDesk', WHERE WHAT IT READS IS OF BULK AT MOST 1048576: true; the input reads as it did. -/
def fnExactNewDeskUptoRow : OpenClaim := { program := "ytjlifbnenngijaadoor", sum := "3f96b2fc66d5ce568e0b1195b2657f11bfa9ec743e2c1d7e05208d6de320e2d9", func := "loop.example/g01364/laws.FnExactNewDesk", spec := "fnExactNewDesk", unfollowed := true, recurses := true, named := ["math/bits.deBruijn64tab"], apart := false, laid := [("math/bits.deBruijn64tab", laid_math_bits_deBruijn64tab)], narrowed := true }
def FnExactNewDeskUptoSaid : Prop := fnExactNewDeskUptoRow.holds Tryd.pinned (OpenSpec.upto fnExactNewDeskSpec)

end Rows
end Go.Proofs.YtjlifbnenngijaaDoor
