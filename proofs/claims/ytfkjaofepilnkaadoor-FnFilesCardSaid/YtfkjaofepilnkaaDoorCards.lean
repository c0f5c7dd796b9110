/-
  DERIVED. GIVEN WITH THE SEED: THE CARDS: each row of YtfkjaofepilnkaaDoorRows.lean that lists a variable, with what it lists TIED to the program's text (the seventh form; the later family's looks); each row that meets fmt, with fmt's text TOLD by the authors' own Lean function (tested against real Go, not proved from fmt's source: count such statements apart). THE CARD IS WHAT COUNTS. Prove the row's statement (the work); the ties are given (YtfkjaofepilnkaaDoorTie.lean); close each card by the builder's one call (the guide's Derived/Test/ToyasCard.lean, 'card_holds'). Laid BY PROGRAM, IN A SANDBOX (cutbox-door.mjs). By AI agents, Wed Nov 11 2026. No macro, syntax, notation, axiom, sorry.
-/
import Derived.Test.YtfkjaofepilnkaaDoorRows
import GoSem.ClaimSeven
namespace Go.Proofs.YtfkjaofepilnkaaDoor
namespace Rows

/-- THE TIED CARD OF 'laws.FnFiles'. -/
def fnFilesCard : Claim7 := { stood := { row := fnFilesRow, standIns := [], harness := (true, "d2b77ecab300ac1b887f24386219e0f78dcc251b4221baeff8d437b8018e52ba"), looks := true }, kinds := [], alts := [], laidByText := true, laidKinds := [.sentinel], laidTests := true, laidLooks := .later }
def FnFilesCardSaid : Prop := Claim7.holds Tryd.pinned (.plain (OpenSpec.ofChange fnFilesSpec)) fnFilesCard

/-- THE TIED CARD OF 'laws.FnExactStepsTo'. -/
def fnExactStepsToCard : Claim7 := { stood := { row := fnExactStepsToRow, standIns := [], harness := (true, "d2b77ecab300ac1b887f24386219e0f78dcc251b4221baeff8d437b8018e52ba"), looks := true }, kinds := [], alts := [], laidByText := true, laidKinds := [.sentinel], laidTests := true, laidLooks := .later }
def FnExactStepsToCardSaid : Prop := Claim7.holds Tryd.pinned (.plain (OpenSpec.ofChange fnExactStepsToSpec)) fnExactStepsToCard

/-- THE SECOND FORM's CARD OF 'laws.FnFiles'. -/
def fnFilesUptoCard : Claim7 := { stood := { row := fnFilesUptoRow, standIns := [], harness := (true, "d2b77ecab300ac1b887f24386219e0f78dcc251b4221baeff8d437b8018e52ba"), looks := true }, kinds := [], alts := [], laidByText := true, laidKinds := [.sentinel], laidTests := true, laidLooks := .later }
def FnFilesUptoCardSaid : Prop := Claim7.holds Tryd.pinned (.plain (OpenSpec.upto fnFilesSpec)) fnFilesUptoCard

/-- THE SECOND FORM's CARD OF 'laws.FnExactStepsTo'. -/
def fnExactStepsToUptoCard : Claim7 := { stood := { row := fnExactStepsToUptoRow, standIns := [], harness := (true, "d2b77ecab300ac1b887f24386219e0f78dcc251b4221baeff8d437b8018e52ba"), looks := true }, kinds := [], alts := [], laidByText := true, laidKinds := [.sentinel], laidTests := true, laidLooks := .later }
def FnExactStepsToUptoCardSaid : Prop := Claim7.holds Tryd.pinned (.plain (OpenSpec.upto fnExactStepsToSpec)) fnExactStepsToUptoCard
end Rows
end Go.Proofs.YtfkjaofepilnkaaDoor
