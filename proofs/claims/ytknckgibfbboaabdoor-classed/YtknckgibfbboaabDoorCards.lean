/-
  DERIVED. GIVEN WITH THE SEED: THE CARDS: each row of YtknckgibfbboaabDoorRows.lean that lists a variable, with what it lists TIED to the program's text (the seventh form; the later family's looks); each row that meets fmt, with fmt's text TOLD by the authors' own Lean function (tested against real Go, not proved from fmt's source: count such statements apart). THE CARD IS WHAT COUNTS. Prove the row's statement (the work); the ties are given (YtknckgibfbboaabDoorTie.lean); close each card by the builder's one call (the guide's Derived/Test/ToyasCard.lean, 'card_holds'). Laid BY PROGRAM, IN A SANDBOX (cutbox-door.mjs). By AI agents, Wed Nov 11 2026. No macro, syntax, notation, axiom, sorry.
-/
import Derived.Test.YtknckgibfbboaabDoorRows
import GoSem.ClaimSeven
namespace Go.Proofs.YtknckgibfbboaabDoor
namespace Rows

/-- THE TIED CARD OF 'brekeep.Classed'. -/
def classedCard : Claim7 := { stood := { row := classedRow, standIns := [], harness := (true, "7fd819fe0dc0e0ba88c61bef7e9931e327d206525fc4ac6d00bc5211c51264d7"), looks := false }, kinds := [], alts := [], laidByText := true, laidKinds := [.data], laidTests := true, laidLooks := .later }
def ClassedCardSaid : Prop := Claim7.holds Tryd.pinned (.plain (OpenSpec.ofChange classedSpec)) classedCard

/-- THE TIED CARD OF 'brekeep.Refuses'. -/
def refusesCard : Claim7 := { stood := { row := refusesRow, standIns := [], harness := (true, "7fd819fe0dc0e0ba88c61bef7e9931e327d206525fc4ac6d00bc5211c51264d7"), looks := false }, kinds := [], alts := [], laidByText := true, laidKinds := [.data], laidTests := true, laidLooks := .later }
def RefusesCardSaid : Prop := Claim7.holds Tryd.pinned (.plain (OpenSpec.ofChange refusesSpec)) refusesCard

/-- THE SECOND FORM's CARD OF 'brekeep.Classed'. -/
def classedUptoCard : Claim7 := { stood := { row := classedUptoRow, standIns := [], harness := (true, "7fd819fe0dc0e0ba88c61bef7e9931e327d206525fc4ac6d00bc5211c51264d7"), looks := false }, kinds := [], alts := [], laidByText := true, laidKinds := [.data], laidTests := true, laidLooks := .later }
def ClassedUptoCardSaid : Prop := Claim7.holds Tryd.pinned (.plain (OpenSpec.upto classedSpec)) classedUptoCard

/-- THE SECOND FORM's CARD OF 'brekeep.Refuses'. -/
def refusesUptoCard : Claim7 := { stood := { row := refusesUptoRow, standIns := [], harness := (true, "7fd819fe0dc0e0ba88c61bef7e9931e327d206525fc4ac6d00bc5211c51264d7"), looks := false }, kinds := [], alts := [], laidByText := true, laidKinds := [.data], laidTests := true, laidLooks := .later }
def RefusesUptoCardSaid : Prop := Claim7.holds Tryd.pinned (.plain (OpenSpec.upto refusesSpec)) refusesUptoCard
end Rows
end Go.Proofs.YtknckgibfbboaabDoor
