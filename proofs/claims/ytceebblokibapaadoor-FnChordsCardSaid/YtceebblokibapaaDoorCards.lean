/-
  DERIVED. GIVEN WITH THE SEED: THE CARDS: each row of YtceebblokibapaaDoorRows.lean that lists a variable, with what it lists TIED to the program's text (the seventh form; the later family's looks); each row that meets fmt, with fmt's text TOLD by the authors' own Lean function (tested against real Go, not proved from fmt's source: count such statements apart). THE CARD IS WHAT COUNTS. Prove the row's statement (the work); the ties are given (YtceebblokibapaaDoorTie.lean); close each card by the builder's one call (the guide's Derived/Test/ToyasCard.lean, 'card_holds'). Laid BY PROGRAM, IN A SANDBOX (cutbox-door.mjs). By AI agents, Wed Nov 11 2026. No macro, syntax, notation, axiom, sorry.
-/
import Derived.Test.YtceebblokibapaaDoorRows
import GoSem.ClaimSeven
namespace Go.Proofs.YtceebblokibapaaDoor
namespace Rows

/-- THE TIED CARD OF 'laws.FnChords'. -/
def fnChordsCard : Claim7 := { stood := { row := fnChordsRow, standIns := [], harness := (true, "b83b4b489bf9426eeefee3673b5149e5cff3797efb7e6d3d93546455a96b73b7"), looks := false }, kinds := [], alts := [], laidByText := true, laidKinds := [.data], laidTests := true, laidLooks := .later }
def FnChordsCardSaid : Prop := Claim7.holds Tryd.pinned (.plain (OpenSpec.ofChange fnChordsSpec)) fnChordsCard

/-- THE TIED CARD OF 'laws.FnExactIsSweet'. -/
def fnExactIsSweetCard : Claim7 := { stood := { row := fnExactIsSweetRow, standIns := [], harness := (true, "b83b4b489bf9426eeefee3673b5149e5cff3797efb7e6d3d93546455a96b73b7"), looks := false }, kinds := [], alts := [], laidByText := true, laidKinds := [.data], laidTests := true, laidLooks := .later }
def FnExactIsSweetCardSaid : Prop := Claim7.holds Tryd.pinned (.plain (OpenSpec.ofChange fnExactIsSweetSpec)) fnExactIsSweetCard

/-- THE TIED CARD OF 'laws.FnExactIsChord'. -/
def fnExactIsChordCard : Claim7 := { stood := { row := fnExactIsChordRow, standIns := [], harness := (true, "b83b4b489bf9426eeefee3673b5149e5cff3797efb7e6d3d93546455a96b73b7"), looks := false }, kinds := [], alts := [], laidByText := true, laidKinds := [.data], laidTests := true, laidLooks := .later }
def FnExactIsChordCardSaid : Prop := Claim7.holds Tryd.pinned (.plain (OpenSpec.ofChange fnExactIsChordSpec)) fnExactIsChordCard

/-- THE TIED CARD OF 'laws.FnExactHarshPairs'. -/
def fnExactHarshPairsCard : Claim7 := { stood := { row := fnExactHarshPairsRow, standIns := [], harness := (true, "b83b4b489bf9426eeefee3673b5149e5cff3797efb7e6d3d93546455a96b73b7"), looks := false }, kinds := [], alts := [], laidByText := true, laidKinds := [.data], laidTests := true, laidLooks := .later }
def FnExactHarshPairsCardSaid : Prop := Claim7.holds Tryd.pinned (.plain (OpenSpec.ofChange fnExactHarshPairsSpec)) fnExactHarshPairsCard

/-- THE TIED CARD OF 'laws.FnExactSweetFor'. -/
def fnExactSweetForCard : Claim7 := { stood := { row := fnExactSweetForRow, standIns := [], harness := (true, "b83b4b489bf9426eeefee3673b5149e5cff3797efb7e6d3d93546455a96b73b7"), looks := false }, kinds := [], alts := [], laidByText := true, laidKinds := [.data], laidTests := true, laidLooks := .later }
def FnExactSweetForCardSaid : Prop := Claim7.holds Tryd.pinned (.plain (OpenSpec.ofChange fnExactSweetForSpec)) fnExactSweetForCard

/-- THE SECOND FORM's CARD OF 'laws.FnChords'. -/
def fnChordsUptoCard : Claim7 := { stood := { row := fnChordsUptoRow, standIns := [], harness := (true, "b83b4b489bf9426eeefee3673b5149e5cff3797efb7e6d3d93546455a96b73b7"), looks := false }, kinds := [], alts := [], laidByText := true, laidKinds := [.data], laidTests := true, laidLooks := .later }
def FnChordsUptoCardSaid : Prop := Claim7.holds Tryd.pinned (.plain (OpenSpec.upto fnChordsSpec)) fnChordsUptoCard

/-- THE SECOND FORM's CARD OF 'laws.FnExactIsSweet'. -/
def fnExactIsSweetUptoCard : Claim7 := { stood := { row := fnExactIsSweetUptoRow, standIns := [], harness := (true, "b83b4b489bf9426eeefee3673b5149e5cff3797efb7e6d3d93546455a96b73b7"), looks := false }, kinds := [], alts := [], laidByText := true, laidKinds := [.data], laidTests := true, laidLooks := .later }
def FnExactIsSweetUptoCardSaid : Prop := Claim7.holds Tryd.pinned (.plain (OpenSpec.upto fnExactIsSweetSpec)) fnExactIsSweetUptoCard

/-- THE SECOND FORM's CARD OF 'laws.FnExactIsChord'. -/
def fnExactIsChordUptoCard : Claim7 := { stood := { row := fnExactIsChordUptoRow, standIns := [], harness := (true, "b83b4b489bf9426eeefee3673b5149e5cff3797efb7e6d3d93546455a96b73b7"), looks := false }, kinds := [], alts := [], laidByText := true, laidKinds := [.data], laidTests := true, laidLooks := .later }
def FnExactIsChordUptoCardSaid : Prop := Claim7.holds Tryd.pinned (.plain (OpenSpec.upto fnExactIsChordSpec)) fnExactIsChordUptoCard

/-- THE SECOND FORM's CARD OF 'laws.FnExactHarshPairs'. -/
def fnExactHarshPairsUptoCard : Claim7 := { stood := { row := fnExactHarshPairsUptoRow, standIns := [], harness := (true, "b83b4b489bf9426eeefee3673b5149e5cff3797efb7e6d3d93546455a96b73b7"), looks := false }, kinds := [], alts := [], laidByText := true, laidKinds := [.data], laidTests := true, laidLooks := .later }
def FnExactHarshPairsUptoCardSaid : Prop := Claim7.holds Tryd.pinned (.plain (OpenSpec.upto fnExactHarshPairsSpec)) fnExactHarshPairsUptoCard

/-- THE SECOND FORM's CARD OF 'laws.FnExactSweetFor'. -/
def fnExactSweetForUptoCard : Claim7 := { stood := { row := fnExactSweetForUptoRow, standIns := [], harness := (true, "b83b4b489bf9426eeefee3673b5149e5cff3797efb7e6d3d93546455a96b73b7"), looks := false }, kinds := [], alts := [], laidByText := true, laidKinds := [.data], laidTests := true, laidLooks := .later }
def FnExactSweetForUptoCardSaid : Prop := Claim7.holds Tryd.pinned (.plain (OpenSpec.upto fnExactSweetForSpec)) fnExactSweetForUptoCard
end Rows
end Go.Proofs.YtceebblokibapaaDoor
