/-
  NARROWER THAN 'FOR EVERY INPUT', by the rows' own cells (each row's printed sentence says how): Compiles: laid · Groups: laid · Finds: laid · Alls: laid · Owned: laid · All: laid · Literal: laid · Whole: laid · Starred: laid · Counted: laid · Twice: laid.
  DERIVED. THE GIVEN ROWS OF THIS SEAT. 11 by the template 'for every input the law returns true; each argument reads behind the call as it read before'; 0 by the template 'total and deterministic' (their statements: YtldiemjlpnachaaDoorTotals.lean).
  GIVEN WITH THE SEED: the statements are not yours to turn. If you find one false, say at which input.
  Laid BY PROGRAM, IN A SANDBOX (cutbox-rows.mjs): the forced cells as the released guide's own fill.sh prints them over the translation 3bf931dcdd9a48b7… (all of the seat's roots in one cut). By AI agents, Wed Nov 11 2026. No macro, syntax, notation, axiom, sorry.
-/
import Derived.Test.YtldiemjlpnachaaDoorChecked
import GoSem.Claim
import GoSem.ClaimJoined
import GoSem.ClaimMapViews
import Derived.JoinedTies
import Derived.KernelRfl
namespace Go.Proofs.YtldiemjlpnachaaDoor
/- THE CELL 'sum', in the pinned program and in every row, IS THE sha256 OF THE DUMP (.gsa) THAT YtldiemjlpnachaaDoorProg.lean LOADS. Nothing in Lean hashes anything: it is a label: what it is worth is what the hold of that sum in a sandbox is worth. -/
noncomputable def Tryd.pinned : Pinned := { name := "ytldiemjlpnachaadoor", sum := "3bf931dcdd9a48b77c44f38d2835e4a69d51ed7940da62ebde6ee3d34fa54d33", checked := Tryd.checked }
namespace Rows
def none {H : Type} : Left H := { results := [], args := [] }

/- WHAT THE LISTED PACKAGE-LEVEL VARIABLES READ AS WHEN THE CALL BEGINS. Each datum BY PROGRAM (the guide's laid-datum.mjs) off the statement by which the dump's own 'gosem.cut.vars' lays the variable. In a bare row this is a premise. The card (YtldiemjlpnachaaDoorCards.lean) ties it to the program's text. -/
def laid_bre_syntax_classNames {H : Type} : DataW H := .agg [.lit (.string [91, 58, 97, 108, 112, 104, 97, 58, 93]), .lit (.string [91, 58, 100, 105, 103, 105, 116, 58, 93]), .lit (.string [91, 58, 97, 108, 110, 117, 109, 58, 93]), .lit (.string [91, 58, 117, 112, 112, 101, 114, 58, 93]), .lit (.string [91, 58, 108, 111, 119, 101, 114, 58, 93]), .lit (.string [91, 58, 115, 112, 97, 99, 101, 58, 93])]
def laid_bre_breref_classes {H : Type} : DataW H := .agg [.agg [.lit (.string [97, 108, 112, 104, 97]), .lit (.string [97, 98, 99, 100, 101, 102, 103, 104, 105, 106, 107, 108, 109, 110, 111, 112, 113, 114, 115, 116, 117, 118, 119, 120, 121, 122, 65, 66, 67, 68, 69, 70, 71, 72, 73, 74, 75, 76, 77, 78, 79, 80, 81, 82, 83, 84, 85, 86, 87, 88, 89, 90])], .agg [.lit (.string [100, 105, 103, 105, 116]), .lit (.string [48, 49, 50, 51, 52, 53, 54, 55, 56, 57])], .agg [.lit (.string [97, 108, 110, 117, 109]), .lit (.string [97, 98, 99, 100, 101, 102, 103, 104, 105, 106, 107, 108, 109, 110, 111, 112, 113, 114, 115, 116, 117, 118, 119, 120, 121, 122, 65, 66, 67, 68, 69, 70, 71, 72, 73, 74, 75, 76, 77, 78, 79, 80, 81, 82, 83, 84, 85, 86, 87, 88, 89, 90, 48, 49, 50, 51, 52, 53, 54, 55, 56, 57])], .agg [.lit (.string [117, 112, 112, 101, 114]), .lit (.string [65, 66, 67, 68, 69, 70, 71, 72, 73, 74, 75, 76, 77, 78, 79, 80, 81, 82, 83, 84, 85, 86, 87, 88, 89, 90])], .agg [.lit (.string [108, 111, 119, 101, 114]), .lit (.string [97, 98, 99, 100, 101, 102, 103, 104, 105, 106, 107, 108, 109, 110, 111, 112, 113, 114, 115, 116, 117, 118, 119, 120, 121, 122])], .agg [.lit (.string [115, 112, 97, 99, 101]), .lit (.string [9, 10, 11, 12, 13, 32])]]

/-- 'brelaw.Compiles': WHATEVER THE INPUT: true; the input reads as it did. -/
def compilesSpec : ChangeSpec := { name := "compiles", fn := fun _ => fun
  | [d] => { results := [.lit (.bool true)], args := [d] }
  | _ => none }
def compilesRow : OpenClaim := { program := "ytldiemjlpnachaadoor", sum := "3bf931dcdd9a48b77c44f38d2835e4a69d51ed7940da62ebde6ee3d34fa54d33", func := "bre/brelaw.Compiles", spec := "compiles", recurses := true, named := ["bre/syntax.classNames", "bre/breref.classes"], apart := false, laid := [("bre/syntax.classNames", laid_bre_syntax_classNames), ("bre/breref.classes", laid_bre_breref_classes)] }
def CompilesSaid : Prop := compilesRow.holds Tryd.pinned (OpenSpec.ofChange compilesSpec)

/-- ITS FALSE NEIGHBOUR: 'it returns false'. Refute it at one input. -/
def compilesWrong : ChangeSpec := { name := "compiles", fn := fun _ => fun
  | [d] => { results := [.lit (.bool false)], args := [d] }
  | _ => none }
def CompilesWrongFalsely : Prop := compilesRow.holds Tryd.pinned (OpenSpec.ofChange compilesWrong)

/-- 'brelaw.Groups': WHATEVER THE INPUT: true; the input reads as it did. -/
def groupsSpec : ChangeSpec := { name := "groups", fn := fun _ => fun
  | [d] => { results := [.lit (.bool true)], args := [d] }
  | _ => none }
def groupsRow : OpenClaim := { program := "ytldiemjlpnachaadoor", sum := "3bf931dcdd9a48b77c44f38d2835e4a69d51ed7940da62ebde6ee3d34fa54d33", func := "bre/brelaw.Groups", spec := "groups", recurses := true, named := ["bre/syntax.classNames", "bre/breref.classes"], apart := false, laid := [("bre/syntax.classNames", laid_bre_syntax_classNames), ("bre/breref.classes", laid_bre_breref_classes)] }
def GroupsSaid : Prop := groupsRow.holds Tryd.pinned (OpenSpec.ofChange groupsSpec)

/-- ITS FALSE NEIGHBOUR: 'it returns false'. Refute it at one input. -/
def groupsWrong : ChangeSpec := { name := "groups", fn := fun _ => fun
  | [d] => { results := [.lit (.bool false)], args := [d] }
  | _ => none }
def GroupsWrongFalsely : Prop := groupsRow.holds Tryd.pinned (OpenSpec.ofChange groupsWrong)

/-- 'brelaw.Finds': WHATEVER THE INPUT: true; the input reads as it did. -/
def findsSpec : ChangeSpec := { name := "finds", fn := fun _ => fun
  | [d1, d2, d3] => { results := [.lit (.bool true)], args := [d1, d2, d3] }
  | _ => none }
def findsRow : OpenClaim := { program := "ytldiemjlpnachaadoor", sum := "3bf931dcdd9a48b77c44f38d2835e4a69d51ed7940da62ebde6ee3d34fa54d33", func := "bre/brelaw.Finds", spec := "finds", recurses := true, named := ["bre/syntax.classNames", "bre/breref.classes"], apart := false, laid := [("bre/syntax.classNames", laid_bre_syntax_classNames), ("bre/breref.classes", laid_bre_breref_classes)] }
def FindsSaid : Prop := findsRow.holds Tryd.pinned (OpenSpec.ofChange findsSpec)

/-- ITS FALSE NEIGHBOUR: 'it returns false'. Refute it at one input. -/
def findsWrong : ChangeSpec := { name := "finds", fn := fun _ => fun
  | [d1, d2, d3] => { results := [.lit (.bool false)], args := [d1, d2, d3] }
  | _ => none }
def FindsWrongFalsely : Prop := findsRow.holds Tryd.pinned (OpenSpec.ofChange findsWrong)

/-- 'brelaw.Alls': WHATEVER THE INPUT: true; the input reads as it did. -/
def allsSpec : ChangeSpec := { name := "alls", fn := fun _ => fun
  | [d1, d2] => { results := [.lit (.bool true)], args := [d1, d2] }
  | _ => none }
def allsRow : OpenClaim := { program := "ytldiemjlpnachaadoor", sum := "3bf931dcdd9a48b77c44f38d2835e4a69d51ed7940da62ebde6ee3d34fa54d33", func := "bre/brelaw.Alls", spec := "alls", recurses := true, named := ["bre/syntax.classNames", "bre/breref.classes"], apart := false, laid := [("bre/syntax.classNames", laid_bre_syntax_classNames), ("bre/breref.classes", laid_bre_breref_classes)] }
def AllsSaid : Prop := allsRow.holds Tryd.pinned (OpenSpec.ofChange allsSpec)

/-- ITS FALSE NEIGHBOUR: 'it returns false'. Refute it at one input. -/
def allsWrong : ChangeSpec := { name := "alls", fn := fun _ => fun
  | [d1, d2] => { results := [.lit (.bool false)], args := [d1, d2] }
  | _ => none }
def AllsWrongFalsely : Prop := allsRow.holds Tryd.pinned (OpenSpec.ofChange allsWrong)

/-- 'brelaw.Owned': WHATEVER THE INPUT: true; the input reads as it did. -/
def ownedSpec : ChangeSpec := { name := "owned", fn := fun _ => fun
  | [d1, d2, d3] => { results := [.lit (.bool true)], args := [d1, d2, d3] }
  | _ => none }
def ownedRow : OpenClaim := { program := "ytldiemjlpnachaadoor", sum := "3bf931dcdd9a48b77c44f38d2835e4a69d51ed7940da62ebde6ee3d34fa54d33", func := "bre/brelaw.Owned", spec := "owned", recurses := true, named := ["bre/syntax.classNames", "bre/breref.classes"], apart := false, laid := [("bre/syntax.classNames", laid_bre_syntax_classNames), ("bre/breref.classes", laid_bre_breref_classes)] }
def OwnedSaid : Prop := ownedRow.holds Tryd.pinned (OpenSpec.ofChange ownedSpec)

/-- ITS FALSE NEIGHBOUR: 'it returns false'. Refute it at one input. -/
def ownedWrong : ChangeSpec := { name := "owned", fn := fun _ => fun
  | [d1, d2, d3] => { results := [.lit (.bool false)], args := [d1, d2, d3] }
  | _ => none }
def OwnedWrongFalsely : Prop := ownedRow.holds Tryd.pinned (OpenSpec.ofChange ownedWrong)

/-- 'brelaw.All': WHATEVER THE INPUT: true; the input reads as it did. -/
def allSpec : ChangeSpec := { name := "all", fn := fun _ => fun
  | [d1, d2, d3] => { results := [.lit (.bool true)], args := [d1, d2, d3] }
  | _ => none }
def allRow : OpenClaim := { program := "ytldiemjlpnachaadoor", sum := "3bf931dcdd9a48b77c44f38d2835e4a69d51ed7940da62ebde6ee3d34fa54d33", func := "bre/brelaw.All", spec := "all", recurses := true, named := ["bre/syntax.classNames", "bre/breref.classes"], apart := false, laid := [("bre/syntax.classNames", laid_bre_syntax_classNames), ("bre/breref.classes", laid_bre_breref_classes)] }
def AllSaid : Prop := allRow.holds Tryd.pinned (OpenSpec.ofChange allSpec)

/-- ITS FALSE NEIGHBOUR: 'it returns false'. Refute it at one input. -/
def allWrong : ChangeSpec := { name := "all", fn := fun _ => fun
  | [d1, d2, d3] => { results := [.lit (.bool false)], args := [d1, d2, d3] }
  | _ => none }
def AllWrongFalsely : Prop := allRow.holds Tryd.pinned (OpenSpec.ofChange allWrong)

/-- 'brekeep.Literal': WHATEVER THE INPUT: true; the input reads as it did. -/
def literalSpec : ChangeSpec := { name := "literal", fn := fun _ => fun
  | [d1, d2, d3] => { results := [.lit (.bool true)], args := [d1, d2, d3] }
  | _ => none }
def literalRow : OpenClaim := { program := "ytldiemjlpnachaadoor", sum := "3bf931dcdd9a48b77c44f38d2835e4a69d51ed7940da62ebde6ee3d34fa54d33", func := "bre/brekeep.Literal", spec := "literal", recurses := true, named := ["bre/syntax.classNames"], apart := false, laid := [("bre/syntax.classNames", laid_bre_syntax_classNames)] }
def LiteralSaid : Prop := literalRow.holds Tryd.pinned (OpenSpec.ofChange literalSpec)

/-- ITS FALSE NEIGHBOUR: 'it returns false'. Refute it at one input. -/
def literalWrong : ChangeSpec := { name := "literal", fn := fun _ => fun
  | [d1, d2, d3] => { results := [.lit (.bool false)], args := [d1, d2, d3] }
  | _ => none }
def LiteralWrongFalsely : Prop := literalRow.holds Tryd.pinned (OpenSpec.ofChange literalWrong)

/-- 'brekeep.Whole': WHATEVER THE INPUT: true; the input reads as it did. -/
def wholeSpec : ChangeSpec := { name := "whole", fn := fun _ => fun
  | [d1, d2] => { results := [.lit (.bool true)], args := [d1, d2] }
  | _ => none }
def wholeRow : OpenClaim := { program := "ytldiemjlpnachaadoor", sum := "3bf931dcdd9a48b77c44f38d2835e4a69d51ed7940da62ebde6ee3d34fa54d33", func := "bre/brekeep.Whole", spec := "whole", recurses := true, named := ["bre/syntax.classNames"], apart := false, laid := [("bre/syntax.classNames", laid_bre_syntax_classNames)] }
def WholeSaid : Prop := wholeRow.holds Tryd.pinned (OpenSpec.ofChange wholeSpec)

/-- ITS FALSE NEIGHBOUR: 'it returns false'. Refute it at one input. -/
def wholeWrong : ChangeSpec := { name := "whole", fn := fun _ => fun
  | [d1, d2] => { results := [.lit (.bool false)], args := [d1, d2] }
  | _ => none }
def WholeWrongFalsely : Prop := wholeRow.holds Tryd.pinned (OpenSpec.ofChange wholeWrong)

/-- 'brekeep.Starred': WHATEVER THE INPUT: true; the input reads as it did. -/
def starredSpec : ChangeSpec := { name := "starred", fn := fun _ => fun
  | [d1, d2, d3, d4] => { results := [.lit (.bool true)], args := [d1, d2, d3, d4] }
  | _ => none }
def starredRow : OpenClaim := { program := "ytldiemjlpnachaadoor", sum := "3bf931dcdd9a48b77c44f38d2835e4a69d51ed7940da62ebde6ee3d34fa54d33", func := "bre/brekeep.Starred", spec := "starred", recurses := true, named := ["bre/syntax.classNames"], apart := false, laid := [("bre/syntax.classNames", laid_bre_syntax_classNames)] }
def StarredSaid : Prop := starredRow.holds Tryd.pinned (OpenSpec.ofChange starredSpec)

/-- ITS FALSE NEIGHBOUR: 'it returns false'. Refute it at one input. -/
def starredWrong : ChangeSpec := { name := "starred", fn := fun _ => fun
  | [d1, d2, d3, d4] => { results := [.lit (.bool false)], args := [d1, d2, d3, d4] }
  | _ => none }
def StarredWrongFalsely : Prop := starredRow.holds Tryd.pinned (OpenSpec.ofChange starredWrong)

/-- 'brekeep.Counted': WHATEVER THE INPUT: true; the input reads as it did. -/
def countedSpec : ChangeSpec := { name := "counted", fn := fun _ => fun
  | [d1, d2, d3, d4] => { results := [.lit (.bool true)], args := [d1, d2, d3, d4] }
  | _ => none }
def countedRow : OpenClaim := { program := "ytldiemjlpnachaadoor", sum := "3bf931dcdd9a48b77c44f38d2835e4a69d51ed7940da62ebde6ee3d34fa54d33", func := "bre/brekeep.Counted", spec := "counted", recurses := true, named := ["bre/syntax.classNames"], apart := false, laid := [("bre/syntax.classNames", laid_bre_syntax_classNames)] }
def CountedSaid : Prop := countedRow.holds Tryd.pinned (OpenSpec.ofChange countedSpec)

/-- ITS FALSE NEIGHBOUR: 'it returns false'. Refute it at one input. -/
def countedWrong : ChangeSpec := { name := "counted", fn := fun _ => fun
  | [d1, d2, d3, d4] => { results := [.lit (.bool false)], args := [d1, d2, d3, d4] }
  | _ => none }
def CountedWrongFalsely : Prop := countedRow.holds Tryd.pinned (OpenSpec.ofChange countedWrong)

/-- 'brekeep.Twice': WHATEVER THE INPUT: true; the input reads as it did. -/
def twiceSpec : ChangeSpec := { name := "twice", fn := fun _ => fun
  | [d1, d2] => { results := [.lit (.bool true)], args := [d1, d2] }
  | _ => none }
def twiceRow : OpenClaim := { program := "ytldiemjlpnachaadoor", sum := "3bf931dcdd9a48b77c44f38d2835e4a69d51ed7940da62ebde6ee3d34fa54d33", func := "bre/brekeep.Twice", spec := "twice", recurses := true, named := ["bre/syntax.classNames"], apart := false, laid := [("bre/syntax.classNames", laid_bre_syntax_classNames)] }
def TwiceSaid : Prop := twiceRow.holds Tryd.pinned (OpenSpec.ofChange twiceSpec)

/-- ITS FALSE NEIGHBOUR: 'it returns false'. Refute it at one input. -/
def twiceWrong : ChangeSpec := { name := "twice", fn := fun _ => fun
  | [d1, d2] => { results := [.lit (.bool false)], args := [d1, d2] }
  | _ => none }
def TwiceWrongFalsely : Prop := twiceRow.holds Tryd.pinned (OpenSpec.ofChange twiceWrong)

/- THE SECOND FORM. 'bulk': how many values and letters a reading holds, each counted each time it is reached (what is shared counts as often as it is met; a slice's spare places count too). A statement '..UptoSaid' is the law's where the arguments, and the package variables that the reading takes, are together of bulk at most 1048576: NARROWER than '..Said'. Prove '..Said' where nothing that the law and all that it calls make is longer than what came in: it says more and counts as full. Else prove '..UptoSaid'. A law counts once. -/
mutual
def uptoBulk {H : Type} : DataW H → Nat
  | .lit (.string bytes) => bytes.length + 1
  | .lit _ => 1
  | .nil => 1
  | .ptr d => uptoBulk d + 1
  | .slice elems spare => uptoBulkAll elems + uptoBulkAll spare + 1
  | .agg parts => uptoBulkAll parts + 1
  | .iface _ d => uptoBulk d + 1
  | .map entries => uptoBulkEntries entries + 1
  | .held _ => 1
def uptoBulkAll {H : Type} : List (DataW H) → Nat
  | [] => 0
  | d :: r => uptoBulk d + uptoBulkAll r
def uptoBulkEntries {H : Type} : List (Lit × DataW H) → Nat
  | [] => 0
  | x :: r => uptoBulkEntry x + uptoBulkEntries r
def uptoBulkEntry {H : Type} : Lit × DataW H → Nat
  | (.string bytes, d) => bytes.length + uptoBulk d + 1
  | (_, d) => uptoBulk d + 1
 end
def uptoSmall : (H : Type) → List (DataW H) → Bool := fun _ ds => decide (uptoBulkAll ds ≤ 1048576)
def OpenSpec.upto (s : _root_.Go.ChangeSpec) : _root_.Go.OpenSpec := { _root_.Go.OpenSpec.ofChange s with cond := some uptoSmall }

/-- 'brelaw.Compiles', WHERE WHAT IT READS IS OF BULK AT MOST 1048576: true; the input reads as it did. -/
def compilesUptoRow : OpenClaim := { program := "ytldiemjlpnachaadoor", sum := "3bf931dcdd9a48b77c44f38d2835e4a69d51ed7940da62ebde6ee3d34fa54d33", func := "bre/brelaw.Compiles", spec := "compiles", recurses := true, named := ["bre/syntax.classNames", "bre/breref.classes"], apart := false, laid := [("bre/syntax.classNames", laid_bre_syntax_classNames), ("bre/breref.classes", laid_bre_breref_classes)], narrowed := true }
def CompilesUptoSaid : Prop := compilesUptoRow.holds Tryd.pinned (OpenSpec.upto compilesSpec)

/-- 'brelaw.Groups', WHERE WHAT IT READS IS OF BULK AT MOST 1048576: true; the input reads as it did. -/
def groupsUptoRow : OpenClaim := { program := "ytldiemjlpnachaadoor", sum := "3bf931dcdd9a48b77c44f38d2835e4a69d51ed7940da62ebde6ee3d34fa54d33", func := "bre/brelaw.Groups", spec := "groups", recurses := true, named := ["bre/syntax.classNames", "bre/breref.classes"], apart := false, laid := [("bre/syntax.classNames", laid_bre_syntax_classNames), ("bre/breref.classes", laid_bre_breref_classes)], narrowed := true }
def GroupsUptoSaid : Prop := groupsUptoRow.holds Tryd.pinned (OpenSpec.upto groupsSpec)

/-- 'brelaw.Finds', WHERE WHAT IT READS IS OF BULK AT MOST 1048576: true; the input reads as it did. -/
def findsUptoRow : OpenClaim := { program := "ytldiemjlpnachaadoor", sum := "3bf931dcdd9a48b77c44f38d2835e4a69d51ed7940da62ebde6ee3d34fa54d33", func := "bre/brelaw.Finds", spec := "finds", recurses := true, named := ["bre/syntax.classNames", "bre/breref.classes"], apart := false, laid := [("bre/syntax.classNames", laid_bre_syntax_classNames), ("bre/breref.classes", laid_bre_breref_classes)], narrowed := true }
def FindsUptoSaid : Prop := findsUptoRow.holds Tryd.pinned (OpenSpec.upto findsSpec)

/-- 'brelaw.Alls', WHERE WHAT IT READS IS OF BULK AT MOST 1048576: true; the input reads as it did. -/
def allsUptoRow : OpenClaim := { program := "ytldiemjlpnachaadoor", sum := "3bf931dcdd9a48b77c44f38d2835e4a69d51ed7940da62ebde6ee3d34fa54d33", func := "bre/brelaw.Alls", spec := "alls", recurses := true, named := ["bre/syntax.classNames", "bre/breref.classes"], apart := false, laid := [("bre/syntax.classNames", laid_bre_syntax_classNames), ("bre/breref.classes", laid_bre_breref_classes)], narrowed := true }
def AllsUptoSaid : Prop := allsUptoRow.holds Tryd.pinned (OpenSpec.upto allsSpec)

/-- 'brelaw.Owned', WHERE WHAT IT READS IS OF BULK AT MOST 1048576: true; the input reads as it did. -/
def ownedUptoRow : OpenClaim := { program := "ytldiemjlpnachaadoor", sum := "3bf931dcdd9a48b77c44f38d2835e4a69d51ed7940da62ebde6ee3d34fa54d33", func := "bre/brelaw.Owned", spec := "owned", recurses := true, named := ["bre/syntax.classNames", "bre/breref.classes"], apart := false, laid := [("bre/syntax.classNames", laid_bre_syntax_classNames), ("bre/breref.classes", laid_bre_breref_classes)], narrowed := true }
def OwnedUptoSaid : Prop := ownedUptoRow.holds Tryd.pinned (OpenSpec.upto ownedSpec)

/-- 'brelaw.All', WHERE WHAT IT READS IS OF BULK AT MOST 1048576: true; the input reads as it did. -/
def allUptoRow : OpenClaim := { program := "ytldiemjlpnachaadoor", sum := "3bf931dcdd9a48b77c44f38d2835e4a69d51ed7940da62ebde6ee3d34fa54d33", func := "bre/brelaw.All", spec := "all", recurses := true, named := ["bre/syntax.classNames", "bre/breref.classes"], apart := false, laid := [("bre/syntax.classNames", laid_bre_syntax_classNames), ("bre/breref.classes", laid_bre_breref_classes)], narrowed := true }
def AllUptoSaid : Prop := allUptoRow.holds Tryd.pinned (OpenSpec.upto allSpec)

/-- 'brekeep.Literal', WHERE WHAT IT READS IS OF BULK AT MOST 1048576: true; the input reads as it did. -/
def literalUptoRow : OpenClaim := { program := "ytldiemjlpnachaadoor", sum := "3bf931dcdd9a48b77c44f38d2835e4a69d51ed7940da62ebde6ee3d34fa54d33", func := "bre/brekeep.Literal", spec := "literal", recurses := true, named := ["bre/syntax.classNames"], apart := false, laid := [("bre/syntax.classNames", laid_bre_syntax_classNames)], narrowed := true }
def LiteralUptoSaid : Prop := literalUptoRow.holds Tryd.pinned (OpenSpec.upto literalSpec)

/-- 'brekeep.Whole', WHERE WHAT IT READS IS OF BULK AT MOST 1048576: true; the input reads as it did. -/
def wholeUptoRow : OpenClaim := { program := "ytldiemjlpnachaadoor", sum := "3bf931dcdd9a48b77c44f38d2835e4a69d51ed7940da62ebde6ee3d34fa54d33", func := "bre/brekeep.Whole", spec := "whole", recurses := true, named := ["bre/syntax.classNames"], apart := false, laid := [("bre/syntax.classNames", laid_bre_syntax_classNames)], narrowed := true }
def WholeUptoSaid : Prop := wholeUptoRow.holds Tryd.pinned (OpenSpec.upto wholeSpec)

/-- 'brekeep.Starred', WHERE WHAT IT READS IS OF BULK AT MOST 1048576: true; the input reads as it did. -/
def starredUptoRow : OpenClaim := { program := "ytldiemjlpnachaadoor", sum := "3bf931dcdd9a48b77c44f38d2835e4a69d51ed7940da62ebde6ee3d34fa54d33", func := "bre/brekeep.Starred", spec := "starred", recurses := true, named := ["bre/syntax.classNames"], apart := false, laid := [("bre/syntax.classNames", laid_bre_syntax_classNames)], narrowed := true }
def StarredUptoSaid : Prop := starredUptoRow.holds Tryd.pinned (OpenSpec.upto starredSpec)

/-- 'brekeep.Counted', WHERE WHAT IT READS IS OF BULK AT MOST 1048576: true; the input reads as it did. -/
def countedUptoRow : OpenClaim := { program := "ytldiemjlpnachaadoor", sum := "3bf931dcdd9a48b77c44f38d2835e4a69d51ed7940da62ebde6ee3d34fa54d33", func := "bre/brekeep.Counted", spec := "counted", recurses := true, named := ["bre/syntax.classNames"], apart := false, laid := [("bre/syntax.classNames", laid_bre_syntax_classNames)], narrowed := true }
def CountedUptoSaid : Prop := countedUptoRow.holds Tryd.pinned (OpenSpec.upto countedSpec)

/-- 'brekeep.Twice', WHERE WHAT IT READS IS OF BULK AT MOST 1048576: true; the input reads as it did. -/
def twiceUptoRow : OpenClaim := { program := "ytldiemjlpnachaadoor", sum := "3bf931dcdd9a48b77c44f38d2835e4a69d51ed7940da62ebde6ee3d34fa54d33", func := "bre/brekeep.Twice", spec := "twice", recurses := true, named := ["bre/syntax.classNames"], apart := false, laid := [("bre/syntax.classNames", laid_bre_syntax_classNames)], narrowed := true }
def TwiceUptoSaid : Prop := twiceUptoRow.holds Tryd.pinned (OpenSpec.upto twiceSpec)

end Rows
end Go.Proofs.YtldiemjlpnachaaDoor
