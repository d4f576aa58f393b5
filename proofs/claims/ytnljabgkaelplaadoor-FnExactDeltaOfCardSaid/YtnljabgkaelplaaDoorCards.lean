/-
  DERIVED. GIVEN WITH THE SEED: THE CARDS: each row of YtnljabgkaelplaaDoorRows.lean that lists a variable, with what it lists TIED to the program's text (the seventh form; the later family's looks); each row that meets fmt, with fmt's text TOLD by the authors' own Lean function (tested against real Go, not proved from fmt's source: count such statements apart). THE CARD IS WHAT COUNTS. Prove the row's statement (the work); the ties are given (YtnljabgkaelplaaDoorTie.lean); close each card by the builder's one call (the guide's Derived/Test/ToyasCard.lean, 'card_holds'). Laid BY PROGRAM, IN A SANDBOX (cutbox-door.mjs). By AI agents, Wed Nov 11 2026. No macro, syntax, notation, axiom, sorry.
-/
import Derived.Test.YtnljabgkaelplaaDoorRows
import GoSem.ClaimSeven
namespace Go.Proofs.YtnljabgkaelplaaDoor
namespace Rows

/-- THE TIED CARD OF 'laws.FnExactMendValues'. -/
def fnExactMendValuesCard : Claim7 := { stood := { row := fnExactMendValuesRow, standIns := [], harness := (true, "f6a4677cb31ae2d07c0f4db8aca6615dd179af8b1d089161950236f040028a56"), looks := true }, kinds := [], alts := [], laidByText := true, laidKinds := [.data], laidTests := true, laidLooks := .later }
def FnExactMendValuesCardSaid : Prop := Claim7.holds Tryd.pinned (.plain (OpenSpec.ofChange fnExactMendValuesSpec)) fnExactMendValuesCard

/-- THE TIED CARD OF 'laws.FnExactDropPlaces'. -/
def fnExactDropPlacesCard : Claim7 := { stood := { row := fnExactDropPlacesRow, standIns := [], harness := (true, "f6a4677cb31ae2d07c0f4db8aca6615dd179af8b1d089161950236f040028a56"), looks := true }, kinds := [], alts := [], laidByText := true, laidKinds := [.data], laidTests := true, laidLooks := .later }
def FnExactDropPlacesCardSaid : Prop := Claim7.holds Tryd.pinned (.plain (OpenSpec.ofChange fnExactDropPlacesSpec)) fnExactDropPlacesCard

/-- THE TIED CARD OF 'laws.FnExactDropOf'. -/
def fnExactDropOfCard : Claim7 := { stood := { row := fnExactDropOfRow, standIns := [], harness := (true, "f6a4677cb31ae2d07c0f4db8aca6615dd179af8b1d089161950236f040028a56"), looks := true }, kinds := [], alts := [], laidByText := true, laidKinds := [.data], laidTests := true, laidLooks := .later }
def FnExactDropOfCardSaid : Prop := Claim7.holds Tryd.pinned (.plain (OpenSpec.ofChange fnExactDropOfSpec)) fnExactDropOfCard

/-- THE TIED CARD OF 'laws.FnExactPeelDrops'. -/
def fnExactPeelDropsCard : Claim7 := { stood := { row := fnExactPeelDropsRow, standIns := [], harness := (true, "f6a4677cb31ae2d07c0f4db8aca6615dd179af8b1d089161950236f040028a56"), looks := true }, kinds := [], alts := [], laidByText := true, laidKinds := [.data], laidTests := true, laidLooks := .later }
def FnExactPeelDropsCardSaid : Prop := Claim7.holds Tryd.pinned (.plain (OpenSpec.ofChange fnExactPeelDropsSpec)) fnExactPeelDropsCard

/-- THE TIED CARD OF 'laws.FnExactGammaOf'. -/
def fnExactGammaOfCard : Claim7 := { stood := { row := fnExactGammaOfRow, standIns := [], harness := (true, "f6a4677cb31ae2d07c0f4db8aca6615dd179af8b1d089161950236f040028a56"), looks := true }, kinds := [], alts := [], laidByText := true, laidKinds := [.data, .data, .data], laidTests := true, laidLooks := .later }
def FnExactGammaOfCardSaid : Prop := Claim7.holds Tryd.pinned (.plain (OpenSpec.ofChange fnExactGammaOfSpec)) fnExactGammaOfCard

/-- THE TIED CARD OF 'laws.FnExactDeltaOf'. -/
def fnExactDeltaOfCard : Claim7 := { stood := { row := fnExactDeltaOfRow, standIns := [], harness := (true, "f6a4677cb31ae2d07c0f4db8aca6615dd179af8b1d089161950236f040028a56"), looks := true }, kinds := [], alts := [], laidByText := true, laidKinds := [.data, .data, .data], laidTests := true, laidLooks := .later }
def FnExactDeltaOfCardSaid : Prop := Claim7.holds Tryd.pinned (.plain (OpenSpec.ofChange fnExactDeltaOfSpec)) fnExactDeltaOfCard

/-- THE TIED CARD OF 'laws.FnExactNumbersOfBits'. -/
def fnExactNumbersOfBitsCard : Claim7 := { stood := { row := fnExactNumbersOfBitsRow, standIns := [], harness := (true, "f6a4677cb31ae2d07c0f4db8aca6615dd179af8b1d089161950236f040028a56"), looks := true }, kinds := [], alts := [], laidByText := true, laidKinds := [.data, .data, .data, .sentinel, .sentinel], laidTests := true, laidLooks := .later }
def FnExactNumbersOfBitsCardSaid : Prop := Claim7.holds Tryd.pinned (.plain (OpenSpec.ofChange fnExactNumbersOfBitsSpec)) fnExactNumbersOfBitsCard

/-- THE SECOND FORM's CARD OF 'laws.FnExactMendValues'. -/
def fnExactMendValuesUptoCard : Claim7 := { stood := { row := fnExactMendValuesUptoRow, standIns := [], harness := (true, "f6a4677cb31ae2d07c0f4db8aca6615dd179af8b1d089161950236f040028a56"), looks := true }, kinds := [], alts := [], laidByText := true, laidKinds := [.data], laidTests := true, laidLooks := .later }
def FnExactMendValuesUptoCardSaid : Prop := Claim7.holds Tryd.pinned (.plain (OpenSpec.upto fnExactMendValuesSpec)) fnExactMendValuesUptoCard

/-- THE SECOND FORM's CARD OF 'laws.FnExactDropPlaces'. -/
def fnExactDropPlacesUptoCard : Claim7 := { stood := { row := fnExactDropPlacesUptoRow, standIns := [], harness := (true, "f6a4677cb31ae2d07c0f4db8aca6615dd179af8b1d089161950236f040028a56"), looks := true }, kinds := [], alts := [], laidByText := true, laidKinds := [.data], laidTests := true, laidLooks := .later }
def FnExactDropPlacesUptoCardSaid : Prop := Claim7.holds Tryd.pinned (.plain (OpenSpec.upto fnExactDropPlacesSpec)) fnExactDropPlacesUptoCard

/-- THE SECOND FORM's CARD OF 'laws.FnExactDropOf'. -/
def fnExactDropOfUptoCard : Claim7 := { stood := { row := fnExactDropOfUptoRow, standIns := [], harness := (true, "f6a4677cb31ae2d07c0f4db8aca6615dd179af8b1d089161950236f040028a56"), looks := true }, kinds := [], alts := [], laidByText := true, laidKinds := [.data], laidTests := true, laidLooks := .later }
def FnExactDropOfUptoCardSaid : Prop := Claim7.holds Tryd.pinned (.plain (OpenSpec.upto fnExactDropOfSpec)) fnExactDropOfUptoCard

/-- THE SECOND FORM's CARD OF 'laws.FnExactPeelDrops'. -/
def fnExactPeelDropsUptoCard : Claim7 := { stood := { row := fnExactPeelDropsUptoRow, standIns := [], harness := (true, "f6a4677cb31ae2d07c0f4db8aca6615dd179af8b1d089161950236f040028a56"), looks := true }, kinds := [], alts := [], laidByText := true, laidKinds := [.data], laidTests := true, laidLooks := .later }
def FnExactPeelDropsUptoCardSaid : Prop := Claim7.holds Tryd.pinned (.plain (OpenSpec.upto fnExactPeelDropsSpec)) fnExactPeelDropsUptoCard

/-- THE SECOND FORM's CARD OF 'laws.FnExactGammaOf'. -/
def fnExactGammaOfUptoCard : Claim7 := { stood := { row := fnExactGammaOfUptoRow, standIns := [], harness := (true, "f6a4677cb31ae2d07c0f4db8aca6615dd179af8b1d089161950236f040028a56"), looks := true }, kinds := [], alts := [], laidByText := true, laidKinds := [.data, .data, .data], laidTests := true, laidLooks := .later }
def FnExactGammaOfUptoCardSaid : Prop := Claim7.holds Tryd.pinned (.plain (OpenSpec.upto fnExactGammaOfSpec)) fnExactGammaOfUptoCard

/-- THE SECOND FORM's CARD OF 'laws.FnExactDeltaOf'. -/
def fnExactDeltaOfUptoCard : Claim7 := { stood := { row := fnExactDeltaOfUptoRow, standIns := [], harness := (true, "f6a4677cb31ae2d07c0f4db8aca6615dd179af8b1d089161950236f040028a56"), looks := true }, kinds := [], alts := [], laidByText := true, laidKinds := [.data, .data, .data], laidTests := true, laidLooks := .later }
def FnExactDeltaOfUptoCardSaid : Prop := Claim7.holds Tryd.pinned (.plain (OpenSpec.upto fnExactDeltaOfSpec)) fnExactDeltaOfUptoCard

/-- THE SECOND FORM's CARD OF 'laws.FnExactNumbersOfBits'. -/
def fnExactNumbersOfBitsUptoCard : Claim7 := { stood := { row := fnExactNumbersOfBitsUptoRow, standIns := [], harness := (true, "f6a4677cb31ae2d07c0f4db8aca6615dd179af8b1d089161950236f040028a56"), looks := true }, kinds := [], alts := [], laidByText := true, laidKinds := [.data, .data, .data, .sentinel, .sentinel], laidTests := true, laidLooks := .later }
def FnExactNumbersOfBitsUptoCardSaid : Prop := Claim7.holds Tryd.pinned (.plain (OpenSpec.upto fnExactNumbersOfBitsSpec)) fnExactNumbersOfBitsUptoCard
end Rows
end Go.Proofs.YtnljabgkaelplaaDoor
