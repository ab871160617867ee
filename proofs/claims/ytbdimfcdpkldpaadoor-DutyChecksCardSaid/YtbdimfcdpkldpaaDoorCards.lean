/-
  DERIVED. GIVEN WITH THE SEED: THE CARDS: each row of YtbdimfcdpkldpaaDoorRows.lean that lists a variable, with what it lists TIED to the program's text (the seventh form; the later family's looks); each row that meets fmt, with fmt's text TOLD by the authors' own Lean function (tested against real Go, not proved from fmt's source: count such statements apart). THE CARD IS WHAT COUNTS. Prove the row's statement (the work); the ties are given (YtbdimfcdpkldpaaDoorTie.lean); close each card by the builder's one call (the guide's Derived/Test/ToyasCard.lean, 'card_holds'). Laid BY PROGRAM, IN A SANDBOX (cutbox-door.mjs). By AI agents, Wed Nov 11 2026. No macro, syntax, notation, axiom, sorry.
-/
import Derived.Test.YtbdimfcdpkldpaaDoorRows
import GoSem.ClaimSeven
namespace Go.Proofs.YtbdimfcdpkldpaaDoor
namespace Rows

/-- THE TIED CARD OF 'bosunlaw09.DutyChecks'. -/
def dutyChecksCard : Claim7 := { stood := { row := dutyChecksRow, standIns := [], harness := (true, "f586ab470a7ee4d100a38d66fcc8d6376f5c056aa3a9c2a7f0fd81216b204d39"), looks := false }, kinds := [], alts := [], laidByText := true, laidKinds := [.data, .data, .data], laidTests := true, laidLooks := .later }
def DutyChecksCardSaid : Prop := Claim7.holds Tryd.pinned (.plain (OpenSpec.ofChange dutyChecksSpec)) dutyChecksCard

/-- THE SECOND FORM's CARD OF 'bosunlaw09.DutyChecks'. -/
def dutyChecksUptoCard : Claim7 := { stood := { row := dutyChecksUptoRow, standIns := [], harness := (true, "f586ab470a7ee4d100a38d66fcc8d6376f5c056aa3a9c2a7f0fd81216b204d39"), looks := false }, kinds := [], alts := [], laidByText := true, laidKinds := [.data, .data, .data], laidTests := true, laidLooks := .later }
def DutyChecksUptoCardSaid : Prop := Claim7.holds Tryd.pinned (.plain (OpenSpec.upto dutyChecksSpec)) dutyChecksUptoCard
end Rows
end Go.Proofs.YtbdimfcdpkldpaaDoor
