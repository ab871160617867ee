/-
  DERIVED. GIVEN WITH THE SEED: THE CARDS: each row of YtbdimfcdpkldpaaGreatDoorRows.lean that lists a variable, with what it lists TIED to the program's text (the seventh form; the later family's looks); each row that meets fmt, with fmt's text TOLD by the authors' own Lean function (tested against real Go, not proved from fmt's source: count such statements apart). THE CARD IS WHAT COUNTS. Prove the row's statement (the work); the ties are given (YtbdimfcdpkldpaaGreatDoorTie.lean); close each card by the builder's one call (the guide's Derived/Test/ToyasCard.lean, 'card_holds'). Laid BY PROGRAM, IN A SANDBOX (cutbox-door.mjs). By AI agents, Wed Nov 11 2026. No macro, syntax, notation, axiom, sorry.
-/
import Derived.Test.YtbdimfcdpkldpaaGreatDoorRows
import GoSem.ClaimSeven
namespace Go.Proofs.YtbdimfcdpkldpaaGreatDoor
namespace Rows

/-- THE TIED CARD OF 'bosunlaw09.DutyTexts'. -/
def dutyTextsCard : Claim7 := { stood := { row := dutyTextsRow, standIns := [], harness := (true, "e75921a6cfd8d448047e0f78480c064efd107e44f9eda1b90d41952c61a0a6d2"), looks := false }, kinds := [], alts := [], laidByText := true, laidKinds := [.data, .data, .data], laidTests := true, laidLooks := .later }
def DutyTextsCardSaid : Prop := Claim7.holds Tryz.pinned (.plain (OpenSpec.ofChange dutyTextsSpec)) dutyTextsCard

/-- THE TIED CARD OF 'bosunlaw09.DutyParses'. -/
def dutyParsesCard : Claim7 := { stood := { row := dutyParsesRow, standIns := [], harness := (true, "e75921a6cfd8d448047e0f78480c064efd107e44f9eda1b90d41952c61a0a6d2"), looks := false }, kinds := [], alts := [], laidByText := true, laidKinds := [.data, .data, .data], laidTests := true, laidLooks := .later }
def DutyParsesCardSaid : Prop := Claim7.holds Tryz.pinned (.plain (OpenSpec.ofChange dutyParsesSpec)) dutyParsesCard

/-- THE TIED CARD OF 'bosunlaw09.DutyBytes'. -/
def dutyBytesCard : Claim7 := { stood := { row := dutyBytesRow, standIns := [], harness := (true, "e75921a6cfd8d448047e0f78480c064efd107e44f9eda1b90d41952c61a0a6d2"), looks := false }, kinds := [], alts := [], laidByText := true, laidKinds := [.data, .data, .data], laidTests := true, laidLooks := .later }
def DutyBytesCardSaid : Prop := Claim7.holds Tryz.pinned (.plain (OpenSpec.ofChange dutyBytesSpec)) dutyBytesCard

/-- THE TIED CARD OF 'bosunlaw09.DutyDecodes'. -/
def dutyDecodesCard : Claim7 := { stood := { row := dutyDecodesRow, standIns := [], harness := (true, "e75921a6cfd8d448047e0f78480c064efd107e44f9eda1b90d41952c61a0a6d2"), looks := false }, kinds := [], alts := [], laidByText := true, laidKinds := [.data, .data, .data], laidTests := true, laidLooks := .later }
def DutyDecodesCardSaid : Prop := Claim7.holds Tryz.pinned (.plain (OpenSpec.ofChange dutyDecodesSpec)) dutyDecodesCard

/-- THE SECOND FORM's CARD OF 'bosunlaw09.DutyTexts'. -/
def dutyTextsUptoCard : Claim7 := { stood := { row := dutyTextsUptoRow, standIns := [], harness := (true, "e75921a6cfd8d448047e0f78480c064efd107e44f9eda1b90d41952c61a0a6d2"), looks := false }, kinds := [], alts := [], laidByText := true, laidKinds := [.data, .data, .data], laidTests := true, laidLooks := .later }
def DutyTextsUptoCardSaid : Prop := Claim7.holds Tryz.pinned (.plain (OpenSpec.upto dutyTextsSpec)) dutyTextsUptoCard

/-- THE SECOND FORM's CARD OF 'bosunlaw09.DutyParses'. -/
def dutyParsesUptoCard : Claim7 := { stood := { row := dutyParsesUptoRow, standIns := [], harness := (true, "e75921a6cfd8d448047e0f78480c064efd107e44f9eda1b90d41952c61a0a6d2"), looks := false }, kinds := [], alts := [], laidByText := true, laidKinds := [.data, .data, .data], laidTests := true, laidLooks := .later }
def DutyParsesUptoCardSaid : Prop := Claim7.holds Tryz.pinned (.plain (OpenSpec.upto dutyParsesSpec)) dutyParsesUptoCard

/-- THE SECOND FORM's CARD OF 'bosunlaw09.DutyBytes'. -/
def dutyBytesUptoCard : Claim7 := { stood := { row := dutyBytesUptoRow, standIns := [], harness := (true, "e75921a6cfd8d448047e0f78480c064efd107e44f9eda1b90d41952c61a0a6d2"), looks := false }, kinds := [], alts := [], laidByText := true, laidKinds := [.data, .data, .data], laidTests := true, laidLooks := .later }
def DutyBytesUptoCardSaid : Prop := Claim7.holds Tryz.pinned (.plain (OpenSpec.upto dutyBytesSpec)) dutyBytesUptoCard

/-- THE SECOND FORM's CARD OF 'bosunlaw09.DutyDecodes'. -/
def dutyDecodesUptoCard : Claim7 := { stood := { row := dutyDecodesUptoRow, standIns := [], harness := (true, "e75921a6cfd8d448047e0f78480c064efd107e44f9eda1b90d41952c61a0a6d2"), looks := false }, kinds := [], alts := [], laidByText := true, laidKinds := [.data, .data, .data], laidTests := true, laidLooks := .later }
def DutyDecodesUptoCardSaid : Prop := Claim7.holds Tryz.pinned (.plain (OpenSpec.upto dutyDecodesSpec)) dutyDecodesUptoCard
end Rows
end Go.Proofs.YtbdimfcdpkldpaaGreatDoor
