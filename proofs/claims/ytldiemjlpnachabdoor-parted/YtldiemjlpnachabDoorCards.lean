/-
  DERIVED. GIVEN WITH THE SEED: THE CARDS: each row of YtldiemjlpnachabDoorRows.lean that lists a variable, with what it lists TIED to the program's text (the seventh form; the later family's looks); each row that meets fmt, with fmt's text TOLD by the authors' own Lean function (tested against real Go, not proved from fmt's source: count such statements apart). THE CARD IS WHAT COUNTS. Prove the row's statement (the work); the ties are given (YtldiemjlpnachabDoorTie.lean); close each card by the builder's one call (the guide's Derived/Test/ToyasCard.lean, 'card_holds'). Laid BY PROGRAM, IN A SANDBOX (cutbox-door.mjs). By AI agents, Wed Nov 11 2026. No macro, syntax, notation, axiom, sorry.
-/
import Derived.Test.YtldiemjlpnachabDoorRows
import GoSem.ClaimSeven
namespace Go.Proofs.YtldiemjlpnachabDoor
namespace Rows

/-- THE TIED CARD OF 'brekeep.Classed'. -/
def classedCard : Claim7 := { stood := { row := classedRow, standIns := [], harness := (true, "c71c6911b766e31fe9d383317211f27408ab9b4afb8c765dd4821f1d6e8eadf5"), looks := false }, kinds := [], alts := [], laidByText := true, laidKinds := [.data], laidTests := true, laidLooks := .later }
def ClassedCardSaid : Prop := Claim7.holds Tryd.pinned (.plain (OpenSpec.ofChange classedSpec)) classedCard

/-- THE TIED CARD OF 'brekeep.Parted'. -/
def partedCard : Claim7 := { stood := { row := partedRow, standIns := [], harness := (true, "c71c6911b766e31fe9d383317211f27408ab9b4afb8c765dd4821f1d6e8eadf5"), looks := false }, kinds := [], alts := [], laidByText := true, laidKinds := [.data, .data, .data, .data], laidTests := true, laidLooks := .later }
def PartedCardSaid : Prop := Claim7.holds Tryd.pinned (.plain (OpenSpec.ofChange partedSpec)) partedCard

/-- THE TIED CARD OF 'brekeep.Only'. -/
def onlyCard : Claim7 := { stood := { row := onlyRow, standIns := [], harness := (true, "c71c6911b766e31fe9d383317211f27408ab9b4afb8c765dd4821f1d6e8eadf5"), looks := false }, kinds := [], alts := [], laidByText := true, laidKinds := [.data, .data, .data, .data], laidTests := true, laidLooks := .later }
def OnlyCardSaid : Prop := Claim7.holds Tryd.pinned (.plain (OpenSpec.ofChange onlySpec)) onlyCard

/-- THE TIED CARD OF 'brekeep.Known'. -/
def knownCard : Claim7 := { stood := { row := knownRow, standIns := [], harness := (true, "c71c6911b766e31fe9d383317211f27408ab9b4afb8c765dd4821f1d6e8eadf5"), looks := false }, kinds := [], alts := [], laidByText := true, laidKinds := [.data], laidTests := true, laidLooks := .later }
def KnownCardSaid : Prop := Claim7.holds Tryd.pinned (.plain (OpenSpec.ofChange knownSpec)) knownCard

/-- THE TIED CARD OF 'brekeep.Refuses'. -/
def refusesCard : Claim7 := { stood := { row := refusesRow, standIns := [], harness := (true, "c71c6911b766e31fe9d383317211f27408ab9b4afb8c765dd4821f1d6e8eadf5"), looks := false }, kinds := [], alts := [], laidByText := true, laidKinds := [.data], laidTests := true, laidLooks := .later }
def RefusesCardSaid : Prop := Claim7.holds Tryd.pinned (.plain (OpenSpec.ofChange refusesSpec)) refusesCard

/-- THE SECOND FORM's CARD OF 'brekeep.Classed'. -/
def classedUptoCard : Claim7 := { stood := { row := classedUptoRow, standIns := [], harness := (true, "c71c6911b766e31fe9d383317211f27408ab9b4afb8c765dd4821f1d6e8eadf5"), looks := false }, kinds := [], alts := [], laidByText := true, laidKinds := [.data], laidTests := true, laidLooks := .later }
def ClassedUptoCardSaid : Prop := Claim7.holds Tryd.pinned (.plain (OpenSpec.upto classedSpec)) classedUptoCard

/-- THE SECOND FORM's CARD OF 'brekeep.Parted'. -/
def partedUptoCard : Claim7 := { stood := { row := partedUptoRow, standIns := [], harness := (true, "c71c6911b766e31fe9d383317211f27408ab9b4afb8c765dd4821f1d6e8eadf5"), looks := false }, kinds := [], alts := [], laidByText := true, laidKinds := [.data, .data, .data, .data], laidTests := true, laidLooks := .later }
def PartedUptoCardSaid : Prop := Claim7.holds Tryd.pinned (.plain (OpenSpec.upto partedSpec)) partedUptoCard

/-- THE SECOND FORM's CARD OF 'brekeep.Only'. -/
def onlyUptoCard : Claim7 := { stood := { row := onlyUptoRow, standIns := [], harness := (true, "c71c6911b766e31fe9d383317211f27408ab9b4afb8c765dd4821f1d6e8eadf5"), looks := false }, kinds := [], alts := [], laidByText := true, laidKinds := [.data, .data, .data, .data], laidTests := true, laidLooks := .later }
def OnlyUptoCardSaid : Prop := Claim7.holds Tryd.pinned (.plain (OpenSpec.upto onlySpec)) onlyUptoCard

/-- THE SECOND FORM's CARD OF 'brekeep.Known'. -/
def knownUptoCard : Claim7 := { stood := { row := knownUptoRow, standIns := [], harness := (true, "c71c6911b766e31fe9d383317211f27408ab9b4afb8c765dd4821f1d6e8eadf5"), looks := false }, kinds := [], alts := [], laidByText := true, laidKinds := [.data], laidTests := true, laidLooks := .later }
def KnownUptoCardSaid : Prop := Claim7.holds Tryd.pinned (.plain (OpenSpec.upto knownSpec)) knownUptoCard

/-- THE SECOND FORM's CARD OF 'brekeep.Refuses'. -/
def refusesUptoCard : Claim7 := { stood := { row := refusesUptoRow, standIns := [], harness := (true, "c71c6911b766e31fe9d383317211f27408ab9b4afb8c765dd4821f1d6e8eadf5"), looks := false }, kinds := [], alts := [], laidByText := true, laidKinds := [.data], laidTests := true, laidLooks := .later }
def RefusesUptoCardSaid : Prop := Claim7.holds Tryd.pinned (.plain (OpenSpec.upto refusesSpec)) refusesUptoCard
end Rows
end Go.Proofs.YtldiemjlpnachabDoor
