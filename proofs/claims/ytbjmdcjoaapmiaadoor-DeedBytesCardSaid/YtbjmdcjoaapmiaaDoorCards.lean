/-
  DERIVED. GIVEN WITH THE SEED: THE CARDS: each row of YtbjmdcjoaapmiaaDoorRows.lean that lists a variable, with what it lists TIED to the program's text (the seventh form; the later family's looks); each row that meets fmt, with fmt's text TOLD by the authors' own Lean function (tested against real Go, not proved from fmt's source: count such statements apart). THE CARD IS WHAT COUNTS. Prove the row's statement (the work); the ties are given (YtbjmdcjoaapmiaaDoorTie.lean); close each card by the builder's one call (the guide's Derived/Test/ToyasCard.lean, 'card_holds'). Laid BY PROGRAM, IN A SANDBOX (cutbox-door.mjs). By AI agents, Wed Nov 11 2026. No macro, syntax, notation, axiom, sorry.
-/
import Derived.Test.YtbjmdcjoaapmiaaDoorRows
import GoSem.ClaimSeven
namespace Go.Proofs.YtbjmdcjoaapmiaaDoor
namespace Rows

/-- THE TIED CARD OF 'bosunlaw07.DeedGood'. -/
def deedGoodCard : Claim7 := { stood := { row := deedGoodRow, standIns := [], harness := (true, "f97bf1da7d20eccdb1b982254e417340d5216e42a1e6b235da0d69d842c06dba"), looks := false }, kinds := [], alts := [], laidByText := true, laidKinds := [.data, .data, .data], laidTests := true, laidLooks := .later }
def DeedGoodCardSaid : Prop := Claim7.holds Tryd.pinned (.plain (OpenSpec.ofChange deedGoodSpec)) deedGoodCard

/-- THE TIED CARD OF 'bosunlaw07.DeedLines'. -/
def deedLinesCard : Claim7 := { stood := { row := deedLinesRow, standIns := [], harness := (true, "f97bf1da7d20eccdb1b982254e417340d5216e42a1e6b235da0d69d842c06dba"), looks := false }, kinds := [], alts := [], laidByText := true, laidKinds := [.data, .data, .data], laidTests := true, laidLooks := .later }
def DeedLinesCardSaid : Prop := Claim7.holds Tryd.pinned (.plain (OpenSpec.ofChange deedLinesSpec)) deedLinesCard

/-- THE TIED CARD OF 'bosunlaw07.DeedParses'. -/
def deedParsesCard : Claim7 := { stood := { row := deedParsesRow, standIns := [], harness := (true, "f97bf1da7d20eccdb1b982254e417340d5216e42a1e6b235da0d69d842c06dba"), looks := false }, kinds := [], alts := [], laidByText := true, laidKinds := [.data, .data, .data], laidTests := true, laidLooks := .later }
def DeedParsesCardSaid : Prop := Claim7.holds Tryd.pinned (.plain (OpenSpec.ofChange deedParsesSpec)) deedParsesCard

/-- THE TIED CARD OF 'bosunlaw07.DeedBytes'. -/
def deedBytesCard : Claim7 := { stood := { row := deedBytesRow, standIns := [], harness := (true, "f97bf1da7d20eccdb1b982254e417340d5216e42a1e6b235da0d69d842c06dba"), looks := false }, kinds := [], alts := [], laidByText := true, laidKinds := [.data, .data, .data], laidTests := true, laidLooks := .later }
def DeedBytesCardSaid : Prop := Claim7.holds Tryd.pinned (.plain (OpenSpec.ofChange deedBytesSpec)) deedBytesCard

/-- THE TIED CARD OF 'bosunlaw07.DeedGets'. -/
def deedGetsCard : Claim7 := { stood := { row := deedGetsRow, standIns := [], harness := (true, "f97bf1da7d20eccdb1b982254e417340d5216e42a1e6b235da0d69d842c06dba"), looks := false }, kinds := [], alts := [], laidByText := true, laidKinds := [.data, .data, .data], laidTests := true, laidLooks := .later }
def DeedGetsCardSaid : Prop := Claim7.holds Tryd.pinned (.plain (OpenSpec.ofChange deedGetsSpec)) deedGetsCard

/-- THE SECOND FORM's CARD OF 'bosunlaw07.DeedGood'. -/
def deedGoodUptoCard : Claim7 := { stood := { row := deedGoodUptoRow, standIns := [], harness := (true, "f97bf1da7d20eccdb1b982254e417340d5216e42a1e6b235da0d69d842c06dba"), looks := false }, kinds := [], alts := [], laidByText := true, laidKinds := [.data, .data, .data], laidTests := true, laidLooks := .later }
def DeedGoodUptoCardSaid : Prop := Claim7.holds Tryd.pinned (.plain (OpenSpec.upto deedGoodSpec)) deedGoodUptoCard

/-- THE SECOND FORM's CARD OF 'bosunlaw07.DeedLines'. -/
def deedLinesUptoCard : Claim7 := { stood := { row := deedLinesUptoRow, standIns := [], harness := (true, "f97bf1da7d20eccdb1b982254e417340d5216e42a1e6b235da0d69d842c06dba"), looks := false }, kinds := [], alts := [], laidByText := true, laidKinds := [.data, .data, .data], laidTests := true, laidLooks := .later }
def DeedLinesUptoCardSaid : Prop := Claim7.holds Tryd.pinned (.plain (OpenSpec.upto deedLinesSpec)) deedLinesUptoCard

/-- THE SECOND FORM's CARD OF 'bosunlaw07.DeedParses'. -/
def deedParsesUptoCard : Claim7 := { stood := { row := deedParsesUptoRow, standIns := [], harness := (true, "f97bf1da7d20eccdb1b982254e417340d5216e42a1e6b235da0d69d842c06dba"), looks := false }, kinds := [], alts := [], laidByText := true, laidKinds := [.data, .data, .data], laidTests := true, laidLooks := .later }
def DeedParsesUptoCardSaid : Prop := Claim7.holds Tryd.pinned (.plain (OpenSpec.upto deedParsesSpec)) deedParsesUptoCard

/-- THE SECOND FORM's CARD OF 'bosunlaw07.DeedBytes'. -/
def deedBytesUptoCard : Claim7 := { stood := { row := deedBytesUptoRow, standIns := [], harness := (true, "f97bf1da7d20eccdb1b982254e417340d5216e42a1e6b235da0d69d842c06dba"), looks := false }, kinds := [], alts := [], laidByText := true, laidKinds := [.data, .data, .data], laidTests := true, laidLooks := .later }
def DeedBytesUptoCardSaid : Prop := Claim7.holds Tryd.pinned (.plain (OpenSpec.upto deedBytesSpec)) deedBytesUptoCard

/-- THE SECOND FORM's CARD OF 'bosunlaw07.DeedGets'. -/
def deedGetsUptoCard : Claim7 := { stood := { row := deedGetsUptoRow, standIns := [], harness := (true, "f97bf1da7d20eccdb1b982254e417340d5216e42a1e6b235da0d69d842c06dba"), looks := false }, kinds := [], alts := [], laidByText := true, laidKinds := [.data, .data, .data], laidTests := true, laidLooks := .later }
def DeedGetsUptoCardSaid : Prop := Claim7.holds Tryd.pinned (.plain (OpenSpec.upto deedGetsSpec)) deedGetsUptoCard
end Rows
end Go.Proofs.YtbjmdcjoaapmiaaDoor
