/-
  DERIVED. GIVEN WITH THE SEED: THE CARDS: each row of YtbakcihecoppbabDoorRows.lean that lists a variable, with what it lists TIED to the program's text (the seventh form; the later family's looks); each row that meets fmt, with fmt's text TOLD by the authors' own Lean function (tested against real Go, not proved from fmt's source: count such statements apart). THE CARD IS WHAT COUNTS. Prove the row's statement (the work); the ties are given (YtbakcihecoppbabDoorTie.lean); close each card by the builder's one call (the guide's Derived/Test/ToyasCard.lean, 'card_holds'). Laid BY PROGRAM, IN A SANDBOX (cutbox-door.mjs). By AI agents, Wed Nov 11 2026. No macro, syntax, notation, axiom, sorry.
-/
import Derived.Test.YtbakcihecoppbabDoorRows
import GoSem.ClaimSeven
namespace Go.Proofs.YtbakcihecoppbabDoor
namespace Rows

/-- THE TIED CARD OF 'brekeep.Classed'. -/
def classedCard : Claim7 := { stood := { row := classedRow, standIns := [], harness := (true, "778832d00c9849dc1b6a9fd3ddc4f65bd8816226df692a7bc7e836e05ce0db0f"), looks := false }, kinds := [], alts := [], laidByText := true, laidKinds := [.data], laidTests := true, laidLooks := .later }
def ClassedCardSaid : Prop := Claim7.holds Tryd.pinned (.plain (OpenSpec.ofChange classedSpec)) classedCard

/-- THE TIED CARD OF 'brekeep.Known'. -/
def knownCard : Claim7 := { stood := { row := knownRow, standIns := [], harness := (true, "778832d00c9849dc1b6a9fd3ddc4f65bd8816226df692a7bc7e836e05ce0db0f"), looks := false }, kinds := [], alts := [], laidByText := true, laidKinds := [.data], laidTests := true, laidLooks := .later }
def KnownCardSaid : Prop := Claim7.holds Tryd.pinned (.plain (OpenSpec.ofChange knownSpec)) knownCard

/-- THE TIED CARD OF 'brekeep.Refuses'. -/
def refusesCard : Claim7 := { stood := { row := refusesRow, standIns := [], harness := (true, "778832d00c9849dc1b6a9fd3ddc4f65bd8816226df692a7bc7e836e05ce0db0f"), looks := false }, kinds := [], alts := [], laidByText := true, laidKinds := [.data], laidTests := true, laidLooks := .later }
def RefusesCardSaid : Prop := Claim7.holds Tryd.pinned (.plain (OpenSpec.ofChange refusesSpec)) refusesCard

/-- THE SECOND FORM's CARD OF 'brekeep.Classed'. -/
def classedUptoCard : Claim7 := { stood := { row := classedUptoRow, standIns := [], harness := (true, "778832d00c9849dc1b6a9fd3ddc4f65bd8816226df692a7bc7e836e05ce0db0f"), looks := false }, kinds := [], alts := [], laidByText := true, laidKinds := [.data], laidTests := true, laidLooks := .later }
def ClassedUptoCardSaid : Prop := Claim7.holds Tryd.pinned (.plain (OpenSpec.upto classedSpec)) classedUptoCard

/-- THE SECOND FORM's CARD OF 'brekeep.Known'. -/
def knownUptoCard : Claim7 := { stood := { row := knownUptoRow, standIns := [], harness := (true, "778832d00c9849dc1b6a9fd3ddc4f65bd8816226df692a7bc7e836e05ce0db0f"), looks := false }, kinds := [], alts := [], laidByText := true, laidKinds := [.data], laidTests := true, laidLooks := .later }
def KnownUptoCardSaid : Prop := Claim7.holds Tryd.pinned (.plain (OpenSpec.upto knownSpec)) knownUptoCard

/-- THE SECOND FORM's CARD OF 'brekeep.Refuses'. -/
def refusesUptoCard : Claim7 := { stood := { row := refusesUptoRow, standIns := [], harness := (true, "778832d00c9849dc1b6a9fd3ddc4f65bd8816226df692a7bc7e836e05ce0db0f"), looks := false }, kinds := [], alts := [], laidByText := true, laidKinds := [.data], laidTests := true, laidLooks := .later }
def RefusesUptoCardSaid : Prop := Claim7.holds Tryd.pinned (.plain (OpenSpec.upto refusesSpec)) refusesUptoCard
end Rows
end Go.Proofs.YtbakcihecoppbabDoor
