/-
  DERIVED. GIVEN WITH THE SEED: THE CARDS: each row of YtldiemjlpnachaaDoorRows.lean that lists a variable, with what it lists TIED to the program's text (the seventh form; the later family's looks); each row that meets fmt, with fmt's text TOLD by the authors' own Lean function (tested against real Go, not proved from fmt's source: count such statements apart). THE CARD IS WHAT COUNTS. Prove the row's statement (the work); the ties are given (YtldiemjlpnachaaDoorTie.lean); close each card by the builder's one call (the guide's Derived/Test/ToyasCard.lean, 'card_holds'). Laid BY PROGRAM, IN A SANDBOX (cutbox-door.mjs). By AI agents, Wed Nov 11 2026. No macro, syntax, notation, axiom, sorry.
-/
import Derived.Test.YtldiemjlpnachaaDoorRows
import GoSem.ClaimSeven
namespace Go.Proofs.YtldiemjlpnachaaDoor
namespace Rows

/-- THE TIED CARD OF 'brelaw.Compiles'. -/
def compilesCard : Claim7 := { stood := { row := compilesRow, standIns := [], harness := (true, "4e7369c1db0c98b14ab2b6541fe4098eba92c304367601df51e4ec7b4d14992b"), looks := false }, kinds := [], alts := [], laidByText := true, laidKinds := [.data, .data], laidTests := true, laidLooks := .later }
def CompilesCardSaid : Prop := Claim7.holds Tryd.pinned (.plain (OpenSpec.ofChange compilesSpec)) compilesCard

/-- THE TIED CARD OF 'brelaw.Groups'. -/
def groupsCard : Claim7 := { stood := { row := groupsRow, standIns := [], harness := (true, "4e7369c1db0c98b14ab2b6541fe4098eba92c304367601df51e4ec7b4d14992b"), looks := false }, kinds := [], alts := [], laidByText := true, laidKinds := [.data, .data], laidTests := true, laidLooks := .later }
def GroupsCardSaid : Prop := Claim7.holds Tryd.pinned (.plain (OpenSpec.ofChange groupsSpec)) groupsCard

/-- THE TIED CARD OF 'brelaw.Finds'. -/
def findsCard : Claim7 := { stood := { row := findsRow, standIns := [], harness := (true, "4e7369c1db0c98b14ab2b6541fe4098eba92c304367601df51e4ec7b4d14992b"), looks := false }, kinds := [], alts := [], laidByText := true, laidKinds := [.data, .data], laidTests := true, laidLooks := .later }
def FindsCardSaid : Prop := Claim7.holds Tryd.pinned (.plain (OpenSpec.ofChange findsSpec)) findsCard

/-- THE TIED CARD OF 'brelaw.Alls'. -/
def allsCard : Claim7 := { stood := { row := allsRow, standIns := [], harness := (true, "4e7369c1db0c98b14ab2b6541fe4098eba92c304367601df51e4ec7b4d14992b"), looks := false }, kinds := [], alts := [], laidByText := true, laidKinds := [.data, .data], laidTests := true, laidLooks := .later }
def AllsCardSaid : Prop := Claim7.holds Tryd.pinned (.plain (OpenSpec.ofChange allsSpec)) allsCard

/-- THE TIED CARD OF 'brelaw.Owned'. -/
def ownedCard : Claim7 := { stood := { row := ownedRow, standIns := [], harness := (true, "4e7369c1db0c98b14ab2b6541fe4098eba92c304367601df51e4ec7b4d14992b"), looks := false }, kinds := [], alts := [], laidByText := true, laidKinds := [.data, .data], laidTests := true, laidLooks := .later }
def OwnedCardSaid : Prop := Claim7.holds Tryd.pinned (.plain (OpenSpec.ofChange ownedSpec)) ownedCard

/-- THE TIED CARD OF 'brelaw.All'. -/
def allCard : Claim7 := { stood := { row := allRow, standIns := [], harness := (true, "4e7369c1db0c98b14ab2b6541fe4098eba92c304367601df51e4ec7b4d14992b"), looks := false }, kinds := [], alts := [], laidByText := true, laidKinds := [.data, .data], laidTests := true, laidLooks := .later }
def AllCardSaid : Prop := Claim7.holds Tryd.pinned (.plain (OpenSpec.ofChange allSpec)) allCard

/-- THE TIED CARD OF 'brekeep.Literal'. -/
def literalCard : Claim7 := { stood := { row := literalRow, standIns := [], harness := (true, "4e7369c1db0c98b14ab2b6541fe4098eba92c304367601df51e4ec7b4d14992b"), looks := false }, kinds := [], alts := [], laidByText := true, laidKinds := [.data], laidTests := true, laidLooks := .later }
def LiteralCardSaid : Prop := Claim7.holds Tryd.pinned (.plain (OpenSpec.ofChange literalSpec)) literalCard

/-- THE TIED CARD OF 'brekeep.Whole'. -/
def wholeCard : Claim7 := { stood := { row := wholeRow, standIns := [], harness := (true, "4e7369c1db0c98b14ab2b6541fe4098eba92c304367601df51e4ec7b4d14992b"), looks := false }, kinds := [], alts := [], laidByText := true, laidKinds := [.data], laidTests := true, laidLooks := .later }
def WholeCardSaid : Prop := Claim7.holds Tryd.pinned (.plain (OpenSpec.ofChange wholeSpec)) wholeCard

/-- THE TIED CARD OF 'brekeep.Starred'. -/
def starredCard : Claim7 := { stood := { row := starredRow, standIns := [], harness := (true, "4e7369c1db0c98b14ab2b6541fe4098eba92c304367601df51e4ec7b4d14992b"), looks := false }, kinds := [], alts := [], laidByText := true, laidKinds := [.data], laidTests := true, laidLooks := .later }
def StarredCardSaid : Prop := Claim7.holds Tryd.pinned (.plain (OpenSpec.ofChange starredSpec)) starredCard

/-- THE TIED CARD OF 'brekeep.Counted'. -/
def countedCard : Claim7 := { stood := { row := countedRow, standIns := [], harness := (true, "4e7369c1db0c98b14ab2b6541fe4098eba92c304367601df51e4ec7b4d14992b"), looks := false }, kinds := [], alts := [], laidByText := true, laidKinds := [.data], laidTests := true, laidLooks := .later }
def CountedCardSaid : Prop := Claim7.holds Tryd.pinned (.plain (OpenSpec.ofChange countedSpec)) countedCard

/-- THE TIED CARD OF 'brekeep.Twice'. -/
def twiceCard : Claim7 := { stood := { row := twiceRow, standIns := [], harness := (true, "4e7369c1db0c98b14ab2b6541fe4098eba92c304367601df51e4ec7b4d14992b"), looks := false }, kinds := [], alts := [], laidByText := true, laidKinds := [.data], laidTests := true, laidLooks := .later }
def TwiceCardSaid : Prop := Claim7.holds Tryd.pinned (.plain (OpenSpec.ofChange twiceSpec)) twiceCard

/-- THE SECOND FORM's CARD OF 'brelaw.Compiles'. -/
def compilesUptoCard : Claim7 := { stood := { row := compilesUptoRow, standIns := [], harness := (true, "4e7369c1db0c98b14ab2b6541fe4098eba92c304367601df51e4ec7b4d14992b"), looks := false }, kinds := [], alts := [], laidByText := true, laidKinds := [.data, .data], laidTests := true, laidLooks := .later }
def CompilesUptoCardSaid : Prop := Claim7.holds Tryd.pinned (.plain (OpenSpec.upto compilesSpec)) compilesUptoCard

/-- THE SECOND FORM's CARD OF 'brelaw.Groups'. -/
def groupsUptoCard : Claim7 := { stood := { row := groupsUptoRow, standIns := [], harness := (true, "4e7369c1db0c98b14ab2b6541fe4098eba92c304367601df51e4ec7b4d14992b"), looks := false }, kinds := [], alts := [], laidByText := true, laidKinds := [.data, .data], laidTests := true, laidLooks := .later }
def GroupsUptoCardSaid : Prop := Claim7.holds Tryd.pinned (.plain (OpenSpec.upto groupsSpec)) groupsUptoCard

/-- THE SECOND FORM's CARD OF 'brelaw.Finds'. -/
def findsUptoCard : Claim7 := { stood := { row := findsUptoRow, standIns := [], harness := (true, "4e7369c1db0c98b14ab2b6541fe4098eba92c304367601df51e4ec7b4d14992b"), looks := false }, kinds := [], alts := [], laidByText := true, laidKinds := [.data, .data], laidTests := true, laidLooks := .later }
def FindsUptoCardSaid : Prop := Claim7.holds Tryd.pinned (.plain (OpenSpec.upto findsSpec)) findsUptoCard

/-- THE SECOND FORM's CARD OF 'brelaw.Alls'. -/
def allsUptoCard : Claim7 := { stood := { row := allsUptoRow, standIns := [], harness := (true, "4e7369c1db0c98b14ab2b6541fe4098eba92c304367601df51e4ec7b4d14992b"), looks := false }, kinds := [], alts := [], laidByText := true, laidKinds := [.data, .data], laidTests := true, laidLooks := .later }
def AllsUptoCardSaid : Prop := Claim7.holds Tryd.pinned (.plain (OpenSpec.upto allsSpec)) allsUptoCard

/-- THE SECOND FORM's CARD OF 'brelaw.Owned'. -/
def ownedUptoCard : Claim7 := { stood := { row := ownedUptoRow, standIns := [], harness := (true, "4e7369c1db0c98b14ab2b6541fe4098eba92c304367601df51e4ec7b4d14992b"), looks := false }, kinds := [], alts := [], laidByText := true, laidKinds := [.data, .data], laidTests := true, laidLooks := .later }
def OwnedUptoCardSaid : Prop := Claim7.holds Tryd.pinned (.plain (OpenSpec.upto ownedSpec)) ownedUptoCard

/-- THE SECOND FORM's CARD OF 'brelaw.All'. -/
def allUptoCard : Claim7 := { stood := { row := allUptoRow, standIns := [], harness := (true, "4e7369c1db0c98b14ab2b6541fe4098eba92c304367601df51e4ec7b4d14992b"), looks := false }, kinds := [], alts := [], laidByText := true, laidKinds := [.data, .data], laidTests := true, laidLooks := .later }
def AllUptoCardSaid : Prop := Claim7.holds Tryd.pinned (.plain (OpenSpec.upto allSpec)) allUptoCard

/-- THE SECOND FORM's CARD OF 'brekeep.Literal'. -/
def literalUptoCard : Claim7 := { stood := { row := literalUptoRow, standIns := [], harness := (true, "4e7369c1db0c98b14ab2b6541fe4098eba92c304367601df51e4ec7b4d14992b"), looks := false }, kinds := [], alts := [], laidByText := true, laidKinds := [.data], laidTests := true, laidLooks := .later }
def LiteralUptoCardSaid : Prop := Claim7.holds Tryd.pinned (.plain (OpenSpec.upto literalSpec)) literalUptoCard

/-- THE SECOND FORM's CARD OF 'brekeep.Whole'. -/
def wholeUptoCard : Claim7 := { stood := { row := wholeUptoRow, standIns := [], harness := (true, "4e7369c1db0c98b14ab2b6541fe4098eba92c304367601df51e4ec7b4d14992b"), looks := false }, kinds := [], alts := [], laidByText := true, laidKinds := [.data], laidTests := true, laidLooks := .later }
def WholeUptoCardSaid : Prop := Claim7.holds Tryd.pinned (.plain (OpenSpec.upto wholeSpec)) wholeUptoCard

/-- THE SECOND FORM's CARD OF 'brekeep.Starred'. -/
def starredUptoCard : Claim7 := { stood := { row := starredUptoRow, standIns := [], harness := (true, "4e7369c1db0c98b14ab2b6541fe4098eba92c304367601df51e4ec7b4d14992b"), looks := false }, kinds := [], alts := [], laidByText := true, laidKinds := [.data], laidTests := true, laidLooks := .later }
def StarredUptoCardSaid : Prop := Claim7.holds Tryd.pinned (.plain (OpenSpec.upto starredSpec)) starredUptoCard

/-- THE SECOND FORM's CARD OF 'brekeep.Counted'. -/
def countedUptoCard : Claim7 := { stood := { row := countedUptoRow, standIns := [], harness := (true, "4e7369c1db0c98b14ab2b6541fe4098eba92c304367601df51e4ec7b4d14992b"), looks := false }, kinds := [], alts := [], laidByText := true, laidKinds := [.data], laidTests := true, laidLooks := .later }
def CountedUptoCardSaid : Prop := Claim7.holds Tryd.pinned (.plain (OpenSpec.upto countedSpec)) countedUptoCard

/-- THE SECOND FORM's CARD OF 'brekeep.Twice'. -/
def twiceUptoCard : Claim7 := { stood := { row := twiceUptoRow, standIns := [], harness := (true, "4e7369c1db0c98b14ab2b6541fe4098eba92c304367601df51e4ec7b4d14992b"), looks := false }, kinds := [], alts := [], laidByText := true, laidKinds := [.data], laidTests := true, laidLooks := .later }
def TwiceUptoCardSaid : Prop := Claim7.holds Tryd.pinned (.plain (OpenSpec.upto twiceSpec)) twiceUptoCard
end Rows
end Go.Proofs.YtldiemjlpnachaaDoor
