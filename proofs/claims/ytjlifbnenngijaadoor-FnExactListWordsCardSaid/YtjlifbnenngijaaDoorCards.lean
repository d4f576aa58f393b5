/-
  DERIVED. GIVEN WITH THE SEED: THE CARDS: each row of YtjlifbnenngijaaDoorRows.lean that lists a variable, with what it lists TIED to the program's text (the seventh form; the later family's looks); each row that meets fmt, with fmt's text TOLD by the authors' own Lean function (tested against real Go, not proved from fmt's source: count such statements apart). THE CARD IS WHAT COUNTS. Prove the row's statement (the work); the ties are given (YtjlifbnenngijaaDoorTie.lean); close each card by the builder's one call (the guide's Derived/Test/ToyasCard.lean, 'card_holds'). Laid BY PROGRAM, IN A SANDBOX (cutbox-door.mjs). By AI agents, Wed Nov 11 2026. No macro, syntax, notation, axiom, sorry.
-/
import Derived.Test.YtjlifbnenngijaaDoorRows
import GoSem.ClaimSeven
namespace Go.Proofs.YtjlifbnenngijaaDoor
namespace Rows

/-- THE TIED CARD OF 'laws.FnExactHammingOf'. -/
def fnExactHammingOfCard : Claim7 := { stood := { row := fnExactHammingOfRow, standIns := [], harness := (true, "4f6ce8cf4c3c22c0884d24b7becd219da6f21e7c4450dd25c299ba8a031c28b4"), looks := false }, kinds := [], alts := [], laidByText := true, laidKinds := [.data], laidTests := true, laidLooks := .later }
def FnExactHammingOfCardSaid : Prop := Claim7.holds Tryd.pinned (.plain (OpenSpec.ofChange fnExactHammingOfSpec)) fnExactHammingOfCard

/-- THE TIED CARD OF 'laws.FnExactEncodeBits'. -/
def fnExactEncodeBitsCard : Claim7 := { stood := { row := fnExactEncodeBitsRow, standIns := [], harness := (true, "4f6ce8cf4c3c22c0884d24b7becd219da6f21e7c4450dd25c299ba8a031c28b4"), looks := false }, kinds := [], alts := [], laidByText := true, laidKinds := [.data], laidTests := true, laidLooks := .later }
def FnExactEncodeBitsCardSaid : Prop := Claim7.holds Tryd.pinned (.plain (OpenSpec.ofChange fnExactEncodeBitsSpec)) fnExactEncodeBitsCard

/-- THE TIED CARD OF 'laws.FnExactInCode'. -/
def fnExactInCodeCard : Claim7 := { stood := { row := fnExactInCodeRow, standIns := [], harness := (true, "4f6ce8cf4c3c22c0884d24b7becd219da6f21e7c4450dd25c299ba8a031c28b4"), looks := false }, kinds := [], alts := [], laidByText := true, laidKinds := [.data], laidTests := true, laidLooks := .later }
def FnExactInCodeCardSaid : Prop := Claim7.holds Tryd.pinned (.plain (OpenSpec.ofChange fnExactInCodeSpec)) fnExactInCodeCard

/-- THE TIED CARD OF 'laws.FnExactDecodeBits'. -/
def fnExactDecodeBitsCard : Claim7 := { stood := { row := fnExactDecodeBitsRow, standIns := [], harness := (true, "4f6ce8cf4c3c22c0884d24b7becd219da6f21e7c4450dd25c299ba8a031c28b4"), looks := false }, kinds := [], alts := [], laidByText := true, laidKinds := [.data], laidTests := true, laidLooks := .later }
def FnExactDecodeBitsCardSaid : Prop := Claim7.holds Tryd.pinned (.plain (OpenSpec.ofChange fnExactDecodeBitsSpec)) fnExactDecodeBitsCard

/-- THE TIED CARD OF 'laws.FnExactListWords'. -/
def fnExactListWordsCard : Claim7 := { stood := { row := fnExactListWordsRow, standIns := [], harness := (true, "4f6ce8cf4c3c22c0884d24b7becd219da6f21e7c4450dd25c299ba8a031c28b4"), looks := false }, kinds := [], alts := [], laidByText := true, laidKinds := [.data], laidTests := true, laidLooks := .later }
def FnExactListWordsCardSaid : Prop := Claim7.holds Tryd.pinned (.plain (OpenSpec.ofChange fnExactListWordsSpec)) fnExactListWordsCard

/-- THE TIED CARD OF 'laws.FnExactWeightsOf'. -/
def fnExactWeightsOfCard : Claim7 := { stood := { row := fnExactWeightsOfRow, standIns := [], harness := (true, "4f6ce8cf4c3c22c0884d24b7becd219da6f21e7c4450dd25c299ba8a031c28b4"), looks := false }, kinds := [], alts := [], laidByText := true, laidKinds := [.data], laidTests := true, laidLooks := .later }
def FnExactWeightsOfCardSaid : Prop := Claim7.holds Tryd.pinned (.plain (OpenSpec.ofChange fnExactWeightsOfSpec)) fnExactWeightsOfCard

/-- THE TIED CARD OF 'laws.FnExactDistanceOf'. -/
def fnExactDistanceOfCard : Claim7 := { stood := { row := fnExactDistanceOfRow, standIns := [], harness := (true, "4f6ce8cf4c3c22c0884d24b7becd219da6f21e7c4450dd25c299ba8a031c28b4"), looks := false }, kinds := [], alts := [], laidByText := true, laidKinds := [.data], laidTests := true, laidLooks := .later }
def FnExactDistanceOfCardSaid : Prop := Claim7.holds Tryd.pinned (.plain (OpenSpec.ofChange fnExactDistanceOfSpec)) fnExactDistanceOfCard

/-- THE TIED CARD OF 'laws.FnExactIsPerfect'. -/
def fnExactIsPerfectCard : Claim7 := { stood := { row := fnExactIsPerfectRow, standIns := [], harness := (true, "4f6ce8cf4c3c22c0884d24b7becd219da6f21e7c4450dd25c299ba8a031c28b4"), looks := false }, kinds := [], alts := [], laidByText := true, laidKinds := [.data], laidTests := true, laidLooks := .later }
def FnExactIsPerfectCardSaid : Prop := Claim7.holds Tryd.pinned (.plain (OpenSpec.ofChange fnExactIsPerfectSpec)) fnExactIsPerfectCard

/-- THE TIED CARD OF 'laws.FnExactNewDesk'. -/
def fnExactNewDeskCard : Claim7 := { stood := { row := fnExactNewDeskRow, standIns := [], harness := (true, "4f6ce8cf4c3c22c0884d24b7becd219da6f21e7c4450dd25c299ba8a031c28b4"), looks := false }, kinds := [], alts := [], laidByText := true, laidKinds := [.data], laidTests := true, laidLooks := .later }
def FnExactNewDeskCardSaid : Prop := Claim7.holds Tryd.pinned (.plain (OpenSpec.ofChange fnExactNewDeskSpec)) fnExactNewDeskCard

/-- THE SECOND FORM's CARD OF 'laws.FnExactHammingOf'. -/
def fnExactHammingOfUptoCard : Claim7 := { stood := { row := fnExactHammingOfUptoRow, standIns := [], harness := (true, "4f6ce8cf4c3c22c0884d24b7becd219da6f21e7c4450dd25c299ba8a031c28b4"), looks := false }, kinds := [], alts := [], laidByText := true, laidKinds := [.data], laidTests := true, laidLooks := .later }
def FnExactHammingOfUptoCardSaid : Prop := Claim7.holds Tryd.pinned (.plain (OpenSpec.upto fnExactHammingOfSpec)) fnExactHammingOfUptoCard

/-- THE SECOND FORM's CARD OF 'laws.FnExactEncodeBits'. -/
def fnExactEncodeBitsUptoCard : Claim7 := { stood := { row := fnExactEncodeBitsUptoRow, standIns := [], harness := (true, "4f6ce8cf4c3c22c0884d24b7becd219da6f21e7c4450dd25c299ba8a031c28b4"), looks := false }, kinds := [], alts := [], laidByText := true, laidKinds := [.data], laidTests := true, laidLooks := .later }
def FnExactEncodeBitsUptoCardSaid : Prop := Claim7.holds Tryd.pinned (.plain (OpenSpec.upto fnExactEncodeBitsSpec)) fnExactEncodeBitsUptoCard

/-- THE SECOND FORM's CARD OF 'laws.FnExactInCode'. -/
def fnExactInCodeUptoCard : Claim7 := { stood := { row := fnExactInCodeUptoRow, standIns := [], harness := (true, "4f6ce8cf4c3c22c0884d24b7becd219da6f21e7c4450dd25c299ba8a031c28b4"), looks := false }, kinds := [], alts := [], laidByText := true, laidKinds := [.data], laidTests := true, laidLooks := .later }
def FnExactInCodeUptoCardSaid : Prop := Claim7.holds Tryd.pinned (.plain (OpenSpec.upto fnExactInCodeSpec)) fnExactInCodeUptoCard

/-- THE SECOND FORM's CARD OF 'laws.FnExactDecodeBits'. -/
def fnExactDecodeBitsUptoCard : Claim7 := { stood := { row := fnExactDecodeBitsUptoRow, standIns := [], harness := (true, "4f6ce8cf4c3c22c0884d24b7becd219da6f21e7c4450dd25c299ba8a031c28b4"), looks := false }, kinds := [], alts := [], laidByText := true, laidKinds := [.data], laidTests := true, laidLooks := .later }
def FnExactDecodeBitsUptoCardSaid : Prop := Claim7.holds Tryd.pinned (.plain (OpenSpec.upto fnExactDecodeBitsSpec)) fnExactDecodeBitsUptoCard

/-- THE SECOND FORM's CARD OF 'laws.FnExactListWords'. -/
def fnExactListWordsUptoCard : Claim7 := { stood := { row := fnExactListWordsUptoRow, standIns := [], harness := (true, "4f6ce8cf4c3c22c0884d24b7becd219da6f21e7c4450dd25c299ba8a031c28b4"), looks := false }, kinds := [], alts := [], laidByText := true, laidKinds := [.data], laidTests := true, laidLooks := .later }
def FnExactListWordsUptoCardSaid : Prop := Claim7.holds Tryd.pinned (.plain (OpenSpec.upto fnExactListWordsSpec)) fnExactListWordsUptoCard

/-- THE SECOND FORM's CARD OF 'laws.FnExactWeightsOf'. -/
def fnExactWeightsOfUptoCard : Claim7 := { stood := { row := fnExactWeightsOfUptoRow, standIns := [], harness := (true, "4f6ce8cf4c3c22c0884d24b7becd219da6f21e7c4450dd25c299ba8a031c28b4"), looks := false }, kinds := [], alts := [], laidByText := true, laidKinds := [.data], laidTests := true, laidLooks := .later }
def FnExactWeightsOfUptoCardSaid : Prop := Claim7.holds Tryd.pinned (.plain (OpenSpec.upto fnExactWeightsOfSpec)) fnExactWeightsOfUptoCard

/-- THE SECOND FORM's CARD OF 'laws.FnExactDistanceOf'. -/
def fnExactDistanceOfUptoCard : Claim7 := { stood := { row := fnExactDistanceOfUptoRow, standIns := [], harness := (true, "4f6ce8cf4c3c22c0884d24b7becd219da6f21e7c4450dd25c299ba8a031c28b4"), looks := false }, kinds := [], alts := [], laidByText := true, laidKinds := [.data], laidTests := true, laidLooks := .later }
def FnExactDistanceOfUptoCardSaid : Prop := Claim7.holds Tryd.pinned (.plain (OpenSpec.upto fnExactDistanceOfSpec)) fnExactDistanceOfUptoCard

/-- THE SECOND FORM's CARD OF 'laws.FnExactIsPerfect'. -/
def fnExactIsPerfectUptoCard : Claim7 := { stood := { row := fnExactIsPerfectUptoRow, standIns := [], harness := (true, "4f6ce8cf4c3c22c0884d24b7becd219da6f21e7c4450dd25c299ba8a031c28b4"), looks := false }, kinds := [], alts := [], laidByText := true, laidKinds := [.data], laidTests := true, laidLooks := .later }
def FnExactIsPerfectUptoCardSaid : Prop := Claim7.holds Tryd.pinned (.plain (OpenSpec.upto fnExactIsPerfectSpec)) fnExactIsPerfectUptoCard

/-- THE SECOND FORM's CARD OF 'laws.FnExactNewDesk'. -/
def fnExactNewDeskUptoCard : Claim7 := { stood := { row := fnExactNewDeskUptoRow, standIns := [], harness := (true, "4f6ce8cf4c3c22c0884d24b7becd219da6f21e7c4450dd25c299ba8a031c28b4"), looks := false }, kinds := [], alts := [], laidByText := true, laidKinds := [.data], laidTests := true, laidLooks := .later }
def FnExactNewDeskUptoCardSaid : Prop := Claim7.holds Tryd.pinned (.plain (OpenSpec.upto fnExactNewDeskSpec)) fnExactNewDeskUptoCard
end Rows
end Go.Proofs.YtjlifbnenngijaaDoor
