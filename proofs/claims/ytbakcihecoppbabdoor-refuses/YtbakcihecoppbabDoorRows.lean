/-
  NARROWER THAN 'FOR EVERY INPUT', by the rows' own cells (each row's printed sentence says how): Classed: laid · Known: laid · Refuses: laid.
  DERIVED. THE GIVEN ROWS OF THIS SEAT. 3 by the template 'for every input the law returns true; each argument reads behind the call as it read before'; 0 by the template 'total and deterministic' (their statements: YtbakcihecoppbabDoorTotals.lean).
  GIVEN WITH THE SEED: the statements are not yours to turn. If you find one false, say at which input.
  Laid BY PROGRAM, IN A SANDBOX (cutbox-rows.mjs): the forced cells as the released guide's own fill.sh prints them over the translation 0b34d6b7ed0741f3… (all of the seat's roots in one cut). By AI agents, Wed Nov 11 2026. No macro, syntax, notation, axiom, sorry.
-/
import Derived.Test.YtbakcihecoppbabDoorChecked
import GoSem.Claim
import GoSem.ClaimJoined
import GoSem.ClaimMapViews
import Derived.JoinedTies
import Derived.KernelRfl
namespace Go.Proofs.YtbakcihecoppbabDoor
/- THE CELL 'sum', in the pinned program and in every row, IS THE sha256 OF THE DUMP (.gsa) THAT YtbakcihecoppbabDoorProg.lean LOADS. Nothing in Lean hashes anything: it is a label: what it is worth is what the hold of that sum in a sandbox is worth. -/
noncomputable def Tryd.pinned : Pinned := { name := "ytbakcihecoppbabdoor", sum := "0b34d6b7ed0741f3059aa5eec2162f2b413c59ce508ecdccc5513678789e823f", checked := Tryd.checked }
namespace Rows
def none {H : Type} : Left H := { results := [], args := [] }

/- WHAT THE LISTED PACKAGE-LEVEL VARIABLES READ AS WHEN THE CALL BEGINS. Each datum BY PROGRAM (the guide's laid-datum.mjs) off the statement by which the dump's own 'gosem.cut.vars' lays the variable. In a bare row this is a premise. The card (YtbakcihecoppbabDoorCards.lean) ties it to the program's text. -/
def laid_bre_syntax_classNames {H : Type} : DataW H := .agg [.lit (.string [91, 58, 97, 108, 112, 104, 97, 58, 93]), .lit (.string [91, 58, 100, 105, 103, 105, 116, 58, 93]), .lit (.string [91, 58, 97, 108, 110, 117, 109, 58, 93]), .lit (.string [91, 58, 117, 112, 112, 101, 114, 58, 93]), .lit (.string [91, 58, 108, 111, 119, 101, 114, 58, 93]), .lit (.string [91, 58, 115, 112, 97, 99, 101, 58, 93])]

/-- 'brekeep.Classed': WHATEVER THE INPUT: true; the input reads as it did. -/
def classedSpec : ChangeSpec := { name := "classed", fn := fun _ => fun
  | [d1, d2, d3] => { results := [.lit (.bool true)], args := [d1, d2, d3] }
  | _ => none }
def classedRow : OpenClaim := { program := "ytbakcihecoppbabdoor", sum := "0b34d6b7ed0741f3059aa5eec2162f2b413c59ce508ecdccc5513678789e823f", func := "bre/brekeep.Classed", spec := "classed", recurses := true, named := ["bre/syntax.classNames"], apart := false, laid := [("bre/syntax.classNames", laid_bre_syntax_classNames)] }
def ClassedSaid : Prop := classedRow.holds Tryd.pinned (OpenSpec.ofChange classedSpec)

/-- ITS FALSE NEIGHBOUR: 'it returns false'. Refute it at one input. -/
def classedWrong : ChangeSpec := { name := "classed", fn := fun _ => fun
  | [d1, d2, d3] => { results := [.lit (.bool false)], args := [d1, d2, d3] }
  | _ => none }
def ClassedWrongFalsely : Prop := classedRow.holds Tryd.pinned (OpenSpec.ofChange classedWrong)

/-- 'brekeep.Known': WHATEVER THE INPUT: true; the input reads as it did. -/
def knownSpec : ChangeSpec := { name := "known", fn := fun _ => fun
  | [d] => { results := [.lit (.bool true)], args := [d] }
  | _ => none }
def knownRow : OpenClaim := { program := "ytbakcihecoppbabdoor", sum := "0b34d6b7ed0741f3059aa5eec2162f2b413c59ce508ecdccc5513678789e823f", func := "bre/brekeep.Known", spec := "known", recurses := true, named := ["bre/syntax.classNames"], apart := false, laid := [("bre/syntax.classNames", laid_bre_syntax_classNames)] }
def KnownSaid : Prop := knownRow.holds Tryd.pinned (OpenSpec.ofChange knownSpec)

/-- ITS FALSE NEIGHBOUR: 'it returns false'. Refute it at one input. -/
def knownWrong : ChangeSpec := { name := "known", fn := fun _ => fun
  | [d] => { results := [.lit (.bool false)], args := [d] }
  | _ => none }
def KnownWrongFalsely : Prop := knownRow.holds Tryd.pinned (OpenSpec.ofChange knownWrong)

/-- 'brekeep.Refuses': WHATEVER THE INPUT: true; the input reads as it did. -/
def refusesSpec : ChangeSpec := { name := "refuses", fn := fun _ => fun
  | [d] => { results := [.lit (.bool true)], args := [d] }
  | _ => none }
def refusesRow : OpenClaim := { program := "ytbakcihecoppbabdoor", sum := "0b34d6b7ed0741f3059aa5eec2162f2b413c59ce508ecdccc5513678789e823f", func := "bre/brekeep.Refuses", spec := "refuses", recurses := true, named := ["bre/syntax.classNames"], apart := false, laid := [("bre/syntax.classNames", laid_bre_syntax_classNames)] }
def RefusesSaid : Prop := refusesRow.holds Tryd.pinned (OpenSpec.ofChange refusesSpec)

/-- ITS FALSE NEIGHBOUR: 'it returns false'. Refute it at one input. -/
def refusesWrong : ChangeSpec := { name := "refuses", fn := fun _ => fun
  | [d] => { results := [.lit (.bool false)], args := [d] }
  | _ => none }
def RefusesWrongFalsely : Prop := refusesRow.holds Tryd.pinned (OpenSpec.ofChange refusesWrong)

/- THE SECOND FORM. 'bulk': how many values and letters a reading holds, each counted each time it is reached (what is shared counts as often as it is met; a slice's spare places count too). A statement '..UptoSaid' is the law's where the arguments, and the package variables that the reading takes, are together of bulk at most 1048576: NARROWER than '..Said'. Prove '..Said' where nothing that the law and all that it calls make is longer than what came in: it says more and counts as full. Else prove '..UptoSaid'. A law counts once. -/
mutual
def uptoBulk {H : Type} : DataW H → Nat
  | .lit (.string bytes) => bytes.length + 1
  | .lit _ => 1
  | .nil => 1
  | .ptr d => uptoBulk d + 1
  | .slice elems spare => uptoBulkAll elems + uptoBulkAll spare + 1
  | .agg parts => uptoBulkAll parts + 1
  | .iface _ d => uptoBulk d + 1
  | .map entries => uptoBulkEntries entries + 1
  | .held _ => 1
def uptoBulkAll {H : Type} : List (DataW H) → Nat
  | [] => 0
  | d :: r => uptoBulk d + uptoBulkAll r
def uptoBulkEntries {H : Type} : List (Lit × DataW H) → Nat
  | [] => 0
  | x :: r => uptoBulkEntry x + uptoBulkEntries r
def uptoBulkEntry {H : Type} : Lit × DataW H → Nat
  | (.string bytes, d) => bytes.length + uptoBulk d + 1
  | (_, d) => uptoBulk d + 1
 end
def uptoSmall : (H : Type) → List (DataW H) → Bool := fun _ ds => decide (uptoBulkAll ds ≤ 1048576)
def OpenSpec.upto (s : _root_.Go.ChangeSpec) : _root_.Go.OpenSpec := { _root_.Go.OpenSpec.ofChange s with cond := some uptoSmall }

/-- 'brekeep.Classed', WHERE WHAT IT READS IS OF BULK AT MOST 1048576: true; the input reads as it did. -/
def classedUptoRow : OpenClaim := { program := "ytbakcihecoppbabdoor", sum := "0b34d6b7ed0741f3059aa5eec2162f2b413c59ce508ecdccc5513678789e823f", func := "bre/brekeep.Classed", spec := "classed", recurses := true, named := ["bre/syntax.classNames"], apart := false, laid := [("bre/syntax.classNames", laid_bre_syntax_classNames)], narrowed := true }
def ClassedUptoSaid : Prop := classedUptoRow.holds Tryd.pinned (OpenSpec.upto classedSpec)

/-- 'brekeep.Known', WHERE WHAT IT READS IS OF BULK AT MOST 1048576: true; the input reads as it did. -/
def knownUptoRow : OpenClaim := { program := "ytbakcihecoppbabdoor", sum := "0b34d6b7ed0741f3059aa5eec2162f2b413c59ce508ecdccc5513678789e823f", func := "bre/brekeep.Known", spec := "known", recurses := true, named := ["bre/syntax.classNames"], apart := false, laid := [("bre/syntax.classNames", laid_bre_syntax_classNames)], narrowed := true }
def KnownUptoSaid : Prop := knownUptoRow.holds Tryd.pinned (OpenSpec.upto knownSpec)

/-- 'brekeep.Refuses', WHERE WHAT IT READS IS OF BULK AT MOST 1048576: true; the input reads as it did. -/
def refusesUptoRow : OpenClaim := { program := "ytbakcihecoppbabdoor", sum := "0b34d6b7ed0741f3059aa5eec2162f2b413c59ce508ecdccc5513678789e823f", func := "bre/brekeep.Refuses", spec := "refuses", recurses := true, named := ["bre/syntax.classNames"], apart := false, laid := [("bre/syntax.classNames", laid_bre_syntax_classNames)], narrowed := true }
def RefusesUptoSaid : Prop := refusesUptoRow.holds Tryd.pinned (OpenSpec.upto refusesSpec)

end Rows
end Go.Proofs.YtbakcihecoppbabDoor
