/-
  DERIVED. GIVEN WITH THE SEED: THE CARDS: each row of YtldiemjlpnachaaGreatDoorRows.lean that lists a variable, with what it lists TIED to the program's text (the seventh form; the later family's looks); each row that meets fmt, with fmt's text TOLD by the authors' own Lean function (tested against real Go, not proved from fmt's source: count such statements apart). THE CARD IS WHAT COUNTS. Prove the row's statement (the work); the ties are given (YtldiemjlpnachaaGreatDoorTie.lean); close each card by the builder's one call (the guide's Derived/Test/ToyasCard.lean, 'card_holds'). Laid BY PROGRAM, IN A SANDBOX (cutbox-door.mjs). By AI agents, Wed Nov 11 2026. No macro, syntax, notation, axiom, sorry.
-/
import Derived.Test.YtldiemjlpnachaaGreatDoorRows
import GoSem.ClaimSeven
namespace Go.Proofs.YtldiemjlpnachaaGreatDoor
namespace Rows

/-- THE TIED CARD OF 'brelaw.Greps'. -/
def grepsCard : Claim7 := { stood := { row := grepsRow, standIns := [], harness := (true, "2cdd7ad6462db071d860664ee702654925f3dfc9f7b0f495111c3d50871d9006"), looks := false }, kinds := [], alts := [], laidByText := true, laidKinds := [.data, .data, .data, .data, .data], laidTests := true, laidLooks := .later }
def GrepsCardSaid : Prop := Claim7.holds Tryz.pinned (.plain (OpenSpec.ofChange grepsSpec)) grepsCard

/-- THE SECOND FORM's CARD OF 'brelaw.Greps'. -/
def grepsUptoCard : Claim7 := { stood := { row := grepsUptoRow, standIns := [], harness := (true, "2cdd7ad6462db071d860664ee702654925f3dfc9f7b0f495111c3d50871d9006"), looks := false }, kinds := [], alts := [], laidByText := true, laidKinds := [.data, .data, .data, .data, .data], laidTests := true, laidLooks := .later }
def GrepsUptoCardSaid : Prop := Claim7.holds Tryz.pinned (.plain (OpenSpec.upto grepsSpec)) grepsUptoCard
end Rows
end Go.Proofs.YtldiemjlpnachaaGreatDoor
