/-
  DERIVED. GIVEN WITH THE SEED: THE CARDS: each row of YtkbaiegfloajlaaDoorRows.lean that lists a variable, with what it lists TIED to the program's text (the seventh form; the later family's looks); each row that meets fmt, with fmt's text TOLD by the authors' own Lean function (tested against real Go, not proved from fmt's source: count such statements apart). THE CARD IS WHAT COUNTS. Prove the row's statement (the work); the ties are given (YtkbaiegfloajlaaDoorTie.lean); close each card by the builder's one call (the guide's Derived/Test/ToyasCard.lean, 'card_holds'). Laid BY PROGRAM, IN A SANDBOX (cutbox-door.mjs). By AI agents, Wed Nov 11 2026. No macro, syntax, notation, axiom, sorry.
-/
import Derived.Test.YtkbaiegfloajlaaDoorRows
import GoSem.ClaimSeven
namespace Go.Proofs.YtkbaiegfloajlaaDoor
namespace Rows

/-- THE TIED CARD OF 'standstilllaw01.TapeRuns'. -/
def tapeRunsCard : Claim7 := { stood := { row := tapeRunsRow, standIns := [], harness := (true, "3ed791c8b078443454e529ab2ab713710849951de269be38eaa07a50ea8017ae"), looks := false }, kinds := [], alts := [], laidByText := true, laidKinds := [.data, .pinned], laidTests := true, laidLooks := .later }
def TapeRunsCardSaid : Prop := Claim7.holds Tryd.pinned (.plain (OpenSpec.ofChange tapeRunsSpec)) tapeRunsCard

/-- THE TIED CARD OF 'standstilllaw01.TapeTexts'. -/
def tapeTextsCard : Claim7 := { stood := { row := tapeTextsRow, standIns := [], harness := (true, "3ed791c8b078443454e529ab2ab713710849951de269be38eaa07a50ea8017ae"), looks := false }, kinds := [], alts := [], laidByText := true, laidKinds := [.data, .pinned], laidTests := true, laidLooks := .later }
def TapeTextsCardSaid : Prop := Claim7.holds Tryd.pinned (.plain (OpenSpec.ofChange tapeTextsSpec)) tapeTextsCard

/-- THE TIED CARD OF 'standstilllaw01.TapeTurns'. -/
def tapeTurnsCard : Claim7 := { stood := { row := tapeTurnsRow, standIns := [], harness := (true, "3ed791c8b078443454e529ab2ab713710849951de269be38eaa07a50ea8017ae"), looks := false }, kinds := [], alts := [], laidByText := true, laidKinds := [.data, .pinned], laidTests := true, laidLooks := .later }
def TapeTurnsCardSaid : Prop := Claim7.holds Tryd.pinned (.plain (OpenSpec.ofChange tapeTurnsSpec)) tapeTurnsCard

/-- THE TIED CARD OF 'standstilllaw01.TapeParts'. -/
def tapePartsCard : Claim7 := { stood := { row := tapePartsRow, standIns := [], harness := (true, "3ed791c8b078443454e529ab2ab713710849951de269be38eaa07a50ea8017ae"), looks := false }, kinds := [], alts := [], laidByText := true, laidKinds := [.data, .pinned], laidTests := true, laidLooks := .later }
def TapePartsCardSaid : Prop := Claim7.holds Tryd.pinned (.plain (OpenSpec.ofChange tapePartsSpec)) tapePartsCard

/-- THE TIED CARD OF 'standstilllaw01.TapeSame'. -/
def tapeSameCard : Claim7 := { stood := { row := tapeSameRow, standIns := [], harness := (true, "3ed791c8b078443454e529ab2ab713710849951de269be38eaa07a50ea8017ae"), looks := false }, kinds := [], alts := [], laidByText := true, laidKinds := [.data, .pinned], laidTests := true, laidLooks := .later }
def TapeSameCardSaid : Prop := Claim7.holds Tryd.pinned (.plain (OpenSpec.ofChange tapeSameSpec)) tapeSameCard

/-- THE TIED CARD OF 'standstilllaw01.TapeNear'. -/
def tapeNearCard : Claim7 := { stood := { row := tapeNearRow, standIns := [], harness := (true, "3ed791c8b078443454e529ab2ab713710849951de269be38eaa07a50ea8017ae"), looks := false }, kinds := [], alts := [], laidByText := true, laidKinds := [.data, .pinned], laidTests := true, laidLooks := .later }
def TapeNearCardSaid : Prop := Claim7.holds Tryd.pinned (.plain (OpenSpec.ofChange tapeNearSpec)) tapeNearCard

/-- THE SECOND FORM's CARD OF 'standstilllaw01.TapeRuns'. -/
def tapeRunsUptoCard : Claim7 := { stood := { row := tapeRunsUptoRow, standIns := [], harness := (true, "3ed791c8b078443454e529ab2ab713710849951de269be38eaa07a50ea8017ae"), looks := false }, kinds := [], alts := [], laidByText := true, laidKinds := [.data, .pinned], laidTests := true, laidLooks := .later }
def TapeRunsUptoCardSaid : Prop := Claim7.holds Tryd.pinned (.plain (OpenSpec.upto tapeRunsSpec)) tapeRunsUptoCard

/-- THE SECOND FORM's CARD OF 'standstilllaw01.TapeTexts'. -/
def tapeTextsUptoCard : Claim7 := { stood := { row := tapeTextsUptoRow, standIns := [], harness := (true, "3ed791c8b078443454e529ab2ab713710849951de269be38eaa07a50ea8017ae"), looks := false }, kinds := [], alts := [], laidByText := true, laidKinds := [.data, .pinned], laidTests := true, laidLooks := .later }
def TapeTextsUptoCardSaid : Prop := Claim7.holds Tryd.pinned (.plain (OpenSpec.upto tapeTextsSpec)) tapeTextsUptoCard

/-- THE SECOND FORM's CARD OF 'standstilllaw01.TapeTurns'. -/
def tapeTurnsUptoCard : Claim7 := { stood := { row := tapeTurnsUptoRow, standIns := [], harness := (true, "3ed791c8b078443454e529ab2ab713710849951de269be38eaa07a50ea8017ae"), looks := false }, kinds := [], alts := [], laidByText := true, laidKinds := [.data, .pinned], laidTests := true, laidLooks := .later }
def TapeTurnsUptoCardSaid : Prop := Claim7.holds Tryd.pinned (.plain (OpenSpec.upto tapeTurnsSpec)) tapeTurnsUptoCard

/-- THE SECOND FORM's CARD OF 'standstilllaw01.TapeParts'. -/
def tapePartsUptoCard : Claim7 := { stood := { row := tapePartsUptoRow, standIns := [], harness := (true, "3ed791c8b078443454e529ab2ab713710849951de269be38eaa07a50ea8017ae"), looks := false }, kinds := [], alts := [], laidByText := true, laidKinds := [.data, .pinned], laidTests := true, laidLooks := .later }
def TapePartsUptoCardSaid : Prop := Claim7.holds Tryd.pinned (.plain (OpenSpec.upto tapePartsSpec)) tapePartsUptoCard

/-- THE SECOND FORM's CARD OF 'standstilllaw01.TapeSame'. -/
def tapeSameUptoCard : Claim7 := { stood := { row := tapeSameUptoRow, standIns := [], harness := (true, "3ed791c8b078443454e529ab2ab713710849951de269be38eaa07a50ea8017ae"), looks := false }, kinds := [], alts := [], laidByText := true, laidKinds := [.data, .pinned], laidTests := true, laidLooks := .later }
def TapeSameUptoCardSaid : Prop := Claim7.holds Tryd.pinned (.plain (OpenSpec.upto tapeSameSpec)) tapeSameUptoCard

/-- THE SECOND FORM's CARD OF 'standstilllaw01.TapeNear'. -/
def tapeNearUptoCard : Claim7 := { stood := { row := tapeNearUptoRow, standIns := [], harness := (true, "3ed791c8b078443454e529ab2ab713710849951de269be38eaa07a50ea8017ae"), looks := false }, kinds := [], alts := [], laidByText := true, laidKinds := [.data, .pinned], laidTests := true, laidLooks := .later }
def TapeNearUptoCardSaid : Prop := Claim7.holds Tryd.pinned (.plain (OpenSpec.upto tapeNearSpec)) tapeNearUptoCard
end Rows
end Go.Proofs.YtkbaiegfloajlaaDoor
