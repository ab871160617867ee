/-
  DERIVED. GIVEN WITH THE SEED: THE CARDS: each row of YtdgcgedppebjfaaDoorRows.lean that lists a variable, with what it lists TIED to the program's text (the seventh form; the later family's looks); each row that meets fmt, with fmt's text TOLD by the authors' own Lean function (tested against real Go, not proved from fmt's source: count such statements apart). THE CARD IS WHAT COUNTS. Prove the row's statement (the work); the ties are given (YtdgcgedppebjfaaDoorTie.lean); close each card by the builder's one call (the guide's Derived/Test/ToyasCard.lean, 'card_holds'). Laid BY PROGRAM, IN A SANDBOX (cutbox-door.mjs). By AI agents, Wed Nov 11 2026. No macro, syntax, notation, axiom, sorry.
-/
import Derived.Test.YtdgcgedppebjfaaDoorRows
import GoSem.ClaimSeven
namespace Go.Proofs.YtdgcgedppebjfaaDoor
namespace Rows

/-- THE TIED CARD OF 'bosunlaw03.NumsPrints'. -/
def numsPrintsCard : Claim7 := { stood := { row := numsPrintsRow, standIns := [], harness := (true, "ed6bb7d0b3a4e8005068164325d4ee3e469a66a2d875bf3c17ba49f3a7e0fb62"), looks := false }, kinds := [], alts := [], laidByText := true, laidKinds := [.data, .data, .data], laidTests := true, laidLooks := .later }
def NumsPrintsCardSaid : Prop := Claim7.holds Tryd.pinned (.plain (OpenSpec.ofChange numsPrintsSpec)) numsPrintsCard

/-- THE TIED CARD OF 'bosunlaw03.NumsReads'. -/
def numsReadsCard : Claim7 := { stood := { row := numsReadsRow, standIns := [], harness := (true, "ed6bb7d0b3a4e8005068164325d4ee3e469a66a2d875bf3c17ba49f3a7e0fb62"), looks := false }, kinds := [], alts := [], laidByText := true, laidKinds := [.data, .data, .data], laidTests := true, laidLooks := .later }
def NumsReadsCardSaid : Prop := Claim7.holds Tryd.pinned (.plain (OpenSpec.ofChange numsReadsSpec)) numsReadsCard

/-- THE TIED CARD OF 'bosunlaw03.NumsHexes'. -/
def numsHexesCard : Claim7 := { stood := { row := numsHexesRow, standIns := [], harness := (true, "ed6bb7d0b3a4e8005068164325d4ee3e469a66a2d875bf3c17ba49f3a7e0fb62"), looks := false }, kinds := [], alts := [], laidByText := true, laidKinds := [.data, .data, .data], laidTests := true, laidLooks := .later }
def NumsHexesCardSaid : Prop := Claim7.holds Tryd.pinned (.plain (OpenSpec.ofChange numsHexesSpec)) numsHexesCard

/-- THE TIED CARD OF 'bosunlaw03.NumsWords'. -/
def numsWordsCard : Claim7 := { stood := { row := numsWordsRow, standIns := [], harness := (true, "ed6bb7d0b3a4e8005068164325d4ee3e469a66a2d875bf3c17ba49f3a7e0fb62"), looks := false }, kinds := [], alts := [], laidByText := true, laidKinds := [.data, .data, .data], laidTests := true, laidLooks := .later }
def NumsWordsCardSaid : Prop := Claim7.holds Tryd.pinned (.plain (OpenSpec.ofChange numsWordsSpec)) numsWordsCard

/-- THE SECOND FORM's CARD OF 'bosunlaw03.NumsPrints'. -/
def numsPrintsUptoCard : Claim7 := { stood := { row := numsPrintsUptoRow, standIns := [], harness := (true, "ed6bb7d0b3a4e8005068164325d4ee3e469a66a2d875bf3c17ba49f3a7e0fb62"), looks := false }, kinds := [], alts := [], laidByText := true, laidKinds := [.data, .data, .data], laidTests := true, laidLooks := .later }
def NumsPrintsUptoCardSaid : Prop := Claim7.holds Tryd.pinned (.plain (OpenSpec.upto numsPrintsSpec)) numsPrintsUptoCard

/-- THE SECOND FORM's CARD OF 'bosunlaw03.NumsReads'. -/
def numsReadsUptoCard : Claim7 := { stood := { row := numsReadsUptoRow, standIns := [], harness := (true, "ed6bb7d0b3a4e8005068164325d4ee3e469a66a2d875bf3c17ba49f3a7e0fb62"), looks := false }, kinds := [], alts := [], laidByText := true, laidKinds := [.data, .data, .data], laidTests := true, laidLooks := .later }
def NumsReadsUptoCardSaid : Prop := Claim7.holds Tryd.pinned (.plain (OpenSpec.upto numsReadsSpec)) numsReadsUptoCard

/-- THE SECOND FORM's CARD OF 'bosunlaw03.NumsHexes'. -/
def numsHexesUptoCard : Claim7 := { stood := { row := numsHexesUptoRow, standIns := [], harness := (true, "ed6bb7d0b3a4e8005068164325d4ee3e469a66a2d875bf3c17ba49f3a7e0fb62"), looks := false }, kinds := [], alts := [], laidByText := true, laidKinds := [.data, .data, .data], laidTests := true, laidLooks := .later }
def NumsHexesUptoCardSaid : Prop := Claim7.holds Tryd.pinned (.plain (OpenSpec.upto numsHexesSpec)) numsHexesUptoCard

/-- THE SECOND FORM's CARD OF 'bosunlaw03.NumsWords'. -/
def numsWordsUptoCard : Claim7 := { stood := { row := numsWordsUptoRow, standIns := [], harness := (true, "ed6bb7d0b3a4e8005068164325d4ee3e469a66a2d875bf3c17ba49f3a7e0fb62"), looks := false }, kinds := [], alts := [], laidByText := true, laidKinds := [.data, .data, .data], laidTests := true, laidLooks := .later }
def NumsWordsUptoCardSaid : Prop := Claim7.holds Tryd.pinned (.plain (OpenSpec.upto numsWordsSpec)) numsWordsUptoCard
end Rows
end Go.Proofs.YtdgcgedppebjfaaDoor
