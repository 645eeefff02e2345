/-
  DERIVED. GIVEN WITH THE SEED: THE CARDS: each row of YtbakcihecoppbaaDoorRows.lean that lists a variable, with what it lists TIED to the program's text (the seventh form; the later family's looks); each row that meets fmt, with fmt's text TOLD by the authors' own Lean function (tested against real Go, not proved from fmt's source: count such statements apart). THE CARD IS WHAT COUNTS. Prove the row's statement (the work); the ties are given (YtbakcihecoppbaaDoorTie.lean); close each card by the builder's one call (the guide's Derived/Test/ToyasCard.lean, 'card_holds'). Laid BY PROGRAM, IN A SANDBOX (cutbox-door.mjs). By AI agents, Wed Nov 11 2026. No macro, syntax, notation, axiom, sorry.
-/
import Derived.Test.YtbakcihecoppbaaDoorRows
import GoSem.ClaimSeven
namespace Go.Proofs.YtbakcihecoppbaaDoor
namespace Rows

/-- THE TIED CARD OF 'brelaw.Compiles'. -/
def compilesCard : Claim7 := { stood := { row := compilesRow, standIns := [], harness := (true, "8ef3cdbfa3ff78aef32204aa2e2b1b1b1a7b2fae302037a0ab41a7dc292baed9"), looks := false }, kinds := [], alts := [], laidByText := true, laidKinds := [.data, .data], laidTests := true, laidLooks := .later }
def CompilesCardSaid : Prop := Claim7.holds Tryd.pinned (.plain (OpenSpec.ofChange compilesSpec)) compilesCard

/-- THE TIED CARD OF 'brelaw.Groups'. -/
def groupsCard : Claim7 := { stood := { row := groupsRow, standIns := [], harness := (true, "8ef3cdbfa3ff78aef32204aa2e2b1b1b1a7b2fae302037a0ab41a7dc292baed9"), looks := false }, kinds := [], alts := [], laidByText := true, laidKinds := [.data, .data], laidTests := true, laidLooks := .later }
def GroupsCardSaid : Prop := Claim7.holds Tryd.pinned (.plain (OpenSpec.ofChange groupsSpec)) groupsCard

/-- THE TIED CARD OF 'brelaw.Finds'. -/
def findsCard : Claim7 := { stood := { row := findsRow, standIns := [], harness := (true, "8ef3cdbfa3ff78aef32204aa2e2b1b1b1a7b2fae302037a0ab41a7dc292baed9"), looks := false }, kinds := [], alts := [], laidByText := true, laidKinds := [.data, .data], laidTests := true, laidLooks := .later }
def FindsCardSaid : Prop := Claim7.holds Tryd.pinned (.plain (OpenSpec.ofChange findsSpec)) findsCard

/-- THE TIED CARD OF 'brekeep.Literal'. -/
def literalCard : Claim7 := { stood := { row := literalRow, standIns := [], harness := (true, "8ef3cdbfa3ff78aef32204aa2e2b1b1b1a7b2fae302037a0ab41a7dc292baed9"), looks := false }, kinds := [], alts := [], laidByText := true, laidKinds := [.data], laidTests := true, laidLooks := .later }
def LiteralCardSaid : Prop := Claim7.holds Tryd.pinned (.plain (OpenSpec.ofChange literalSpec)) literalCard

/-- THE TIED CARD OF 'brekeep.Whole'. -/
def wholeCard : Claim7 := { stood := { row := wholeRow, standIns := [], harness := (true, "8ef3cdbfa3ff78aef32204aa2e2b1b1b1a7b2fae302037a0ab41a7dc292baed9"), looks := false }, kinds := [], alts := [], laidByText := true, laidKinds := [.data], laidTests := true, laidLooks := .later }
def WholeCardSaid : Prop := Claim7.holds Tryd.pinned (.plain (OpenSpec.ofChange wholeSpec)) wholeCard

/-- THE TIED CARD OF 'brekeep.Starred'. -/
def starredCard : Claim7 := { stood := { row := starredRow, standIns := [], harness := (true, "8ef3cdbfa3ff78aef32204aa2e2b1b1b1a7b2fae302037a0ab41a7dc292baed9"), looks := false }, kinds := [], alts := [], laidByText := true, laidKinds := [.data], laidTests := true, laidLooks := .later }
def StarredCardSaid : Prop := Claim7.holds Tryd.pinned (.plain (OpenSpec.ofChange starredSpec)) starredCard

/-- THE TIED CARD OF 'brekeep.Counted'. -/
def countedCard : Claim7 := { stood := { row := countedRow, standIns := [], harness := (true, "8ef3cdbfa3ff78aef32204aa2e2b1b1b1a7b2fae302037a0ab41a7dc292baed9"), looks := false }, kinds := [], alts := [], laidByText := true, laidKinds := [.data], laidTests := true, laidLooks := .later }
def CountedCardSaid : Prop := Claim7.holds Tryd.pinned (.plain (OpenSpec.ofChange countedSpec)) countedCard

/-- THE TIED CARD OF 'brekeep.Twice'. -/
def twiceCard : Claim7 := { stood := { row := twiceRow, standIns := [], harness := (true, "8ef3cdbfa3ff78aef32204aa2e2b1b1b1a7b2fae302037a0ab41a7dc292baed9"), looks := false }, kinds := [], alts := [], laidByText := true, laidKinds := [.data], laidTests := true, laidLooks := .later }
def TwiceCardSaid : Prop := Claim7.holds Tryd.pinned (.plain (OpenSpec.ofChange twiceSpec)) twiceCard

/-- THE SECOND FORM's CARD OF 'brelaw.Compiles'. -/
def compilesUptoCard : Claim7 := { stood := { row := compilesUptoRow, standIns := [], harness := (true, "8ef3cdbfa3ff78aef32204aa2e2b1b1b1a7b2fae302037a0ab41a7dc292baed9"), looks := false }, kinds := [], alts := [], laidByText := true, laidKinds := [.data, .data], laidTests := true, laidLooks := .later }
def CompilesUptoCardSaid : Prop := Claim7.holds Tryd.pinned (.plain (OpenSpec.upto compilesSpec)) compilesUptoCard

/-- THE SECOND FORM's CARD OF 'brelaw.Groups'. -/
def groupsUptoCard : Claim7 := { stood := { row := groupsUptoRow, standIns := [], harness := (true, "8ef3cdbfa3ff78aef32204aa2e2b1b1b1a7b2fae302037a0ab41a7dc292baed9"), looks := false }, kinds := [], alts := [], laidByText := true, laidKinds := [.data, .data], laidTests := true, laidLooks := .later }
def GroupsUptoCardSaid : Prop := Claim7.holds Tryd.pinned (.plain (OpenSpec.upto groupsSpec)) groupsUptoCard

/-- THE SECOND FORM's CARD OF 'brelaw.Finds'. -/
def findsUptoCard : Claim7 := { stood := { row := findsUptoRow, standIns := [], harness := (true, "8ef3cdbfa3ff78aef32204aa2e2b1b1b1a7b2fae302037a0ab41a7dc292baed9"), looks := false }, kinds := [], alts := [], laidByText := true, laidKinds := [.data, .data], laidTests := true, laidLooks := .later }
def FindsUptoCardSaid : Prop := Claim7.holds Tryd.pinned (.plain (OpenSpec.upto findsSpec)) findsUptoCard

/-- THE SECOND FORM's CARD OF 'brekeep.Literal'. -/
def literalUptoCard : Claim7 := { stood := { row := literalUptoRow, standIns := [], harness := (true, "8ef3cdbfa3ff78aef32204aa2e2b1b1b1a7b2fae302037a0ab41a7dc292baed9"), looks := false }, kinds := [], alts := [], laidByText := true, laidKinds := [.data], laidTests := true, laidLooks := .later }
def LiteralUptoCardSaid : Prop := Claim7.holds Tryd.pinned (.plain (OpenSpec.upto literalSpec)) literalUptoCard

/-- THE SECOND FORM's CARD OF 'brekeep.Whole'. -/
def wholeUptoCard : Claim7 := { stood := { row := wholeUptoRow, standIns := [], harness := (true, "8ef3cdbfa3ff78aef32204aa2e2b1b1b1a7b2fae302037a0ab41a7dc292baed9"), looks := false }, kinds := [], alts := [], laidByText := true, laidKinds := [.data], laidTests := true, laidLooks := .later }
def WholeUptoCardSaid : Prop := Claim7.holds Tryd.pinned (.plain (OpenSpec.upto wholeSpec)) wholeUptoCard

/-- THE SECOND FORM's CARD OF 'brekeep.Starred'. -/
def starredUptoCard : Claim7 := { stood := { row := starredUptoRow, standIns := [], harness := (true, "8ef3cdbfa3ff78aef32204aa2e2b1b1b1a7b2fae302037a0ab41a7dc292baed9"), looks := false }, kinds := [], alts := [], laidByText := true, laidKinds := [.data], laidTests := true, laidLooks := .later }
def StarredUptoCardSaid : Prop := Claim7.holds Tryd.pinned (.plain (OpenSpec.upto starredSpec)) starredUptoCard

/-- THE SECOND FORM's CARD OF 'brekeep.Counted'. -/
def countedUptoCard : Claim7 := { stood := { row := countedUptoRow, standIns := [], harness := (true, "8ef3cdbfa3ff78aef32204aa2e2b1b1b1a7b2fae302037a0ab41a7dc292baed9"), looks := false }, kinds := [], alts := [], laidByText := true, laidKinds := [.data], laidTests := true, laidLooks := .later }
def CountedUptoCardSaid : Prop := Claim7.holds Tryd.pinned (.plain (OpenSpec.upto countedSpec)) countedUptoCard

/-- THE SECOND FORM's CARD OF 'brekeep.Twice'. -/
def twiceUptoCard : Claim7 := { stood := { row := twiceUptoRow, standIns := [], harness := (true, "8ef3cdbfa3ff78aef32204aa2e2b1b1b1a7b2fae302037a0ab41a7dc292baed9"), looks := false }, kinds := [], alts := [], laidByText := true, laidKinds := [.data], laidTests := true, laidLooks := .later }
def TwiceUptoCardSaid : Prop := Claim7.holds Tryd.pinned (.plain (OpenSpec.upto twiceSpec)) twiceUptoCard
end Rows
end Go.Proofs.YtbakcihecoppbaaDoor
