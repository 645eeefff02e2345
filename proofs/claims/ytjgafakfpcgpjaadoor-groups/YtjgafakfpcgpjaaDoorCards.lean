/-
  DERIVED. GIVEN WITH THE SEED: THE CARDS: each row of YtjgafakfpcgpjaaDoorRows.lean that lists a variable, with what it lists TIED to the program's text (the seventh form; the later family's looks); each row that meets fmt, with fmt's text TOLD by the authors' own Lean function (tested against real Go, not proved from fmt's source: count such statements apart). THE CARD IS WHAT COUNTS. Prove the row's statement (the work); the ties are given (YtjgafakfpcgpjaaDoorTie.lean); close each card by the builder's one call (the guide's Derived/Test/ToyasCard.lean, 'card_holds'). Laid BY PROGRAM, IN A SANDBOX (cutbox-door.mjs). By AI agents, Wed Nov 11 2026. No macro, syntax, notation, axiom, sorry.
-/
import Derived.Test.YtjgafakfpcgpjaaDoorRows
import GoSem.ClaimSeven
namespace Go.Proofs.YtjgafakfpcgpjaaDoor
namespace Rows

/-- THE TIED CARD OF 'brelaw.Compiles'. -/
def compilesCard : Claim7 := { stood := { row := compilesRow, standIns := [], harness := (true, "3d73deadc1c68f73c061f18542cf0e4387e830ac23242a492a4d1c5e4c233f97"), looks := false }, kinds := [], alts := [], laidByText := true, laidKinds := [.data, .data], laidTests := true, laidLooks := .later }
def CompilesCardSaid : Prop := Claim7.holds Tryd.pinned (.plain (OpenSpec.ofChange compilesSpec)) compilesCard

/-- THE TIED CARD OF 'brelaw.Groups'. -/
def groupsCard : Claim7 := { stood := { row := groupsRow, standIns := [], harness := (true, "3d73deadc1c68f73c061f18542cf0e4387e830ac23242a492a4d1c5e4c233f97"), looks := false }, kinds := [], alts := [], laidByText := true, laidKinds := [.data, .data], laidTests := true, laidLooks := .later }
def GroupsCardSaid : Prop := Claim7.holds Tryd.pinned (.plain (OpenSpec.ofChange groupsSpec)) groupsCard

/-- THE SECOND FORM's CARD OF 'brelaw.Compiles'. -/
def compilesUptoCard : Claim7 := { stood := { row := compilesUptoRow, standIns := [], harness := (true, "3d73deadc1c68f73c061f18542cf0e4387e830ac23242a492a4d1c5e4c233f97"), looks := false }, kinds := [], alts := [], laidByText := true, laidKinds := [.data, .data], laidTests := true, laidLooks := .later }
def CompilesUptoCardSaid : Prop := Claim7.holds Tryd.pinned (.plain (OpenSpec.upto compilesSpec)) compilesUptoCard

/-- THE SECOND FORM's CARD OF 'brelaw.Groups'. -/
def groupsUptoCard : Claim7 := { stood := { row := groupsUptoRow, standIns := [], harness := (true, "3d73deadc1c68f73c061f18542cf0e4387e830ac23242a492a4d1c5e4c233f97"), looks := false }, kinds := [], alts := [], laidByText := true, laidKinds := [.data, .data], laidTests := true, laidLooks := .later }
def GroupsUptoCardSaid : Prop := Claim7.holds Tryd.pinned (.plain (OpenSpec.upto groupsSpec)) groupsUptoCard
end Rows
end Go.Proofs.YtjgafakfpcgpjaaDoor
