/-
  No cell of these rows narrows 'for every input' (looked for: loops, veiled, ifaces, maps, wideKeys, modest, calm, conditions, laid).
  DERIVED. THE GIVEN ROWS OF THIS SEAT. 5 by the template 'for every input the law returns true; each argument reads behind the call as it read before'; 0 by the template 'total and deterministic' (their statements: YtjahbpmkkfdimaaTotals.lean).
  GIVEN WITH THE SEED: the statements are not yours to turn. If you find one false, say at which input.
  Laid BY PROGRAM, IN A SANDBOX (cutbox-rows.mjs): the forced cells as the released guide's own fill.sh prints them over the translation 740a7c0ad876699e… (all of the seat's roots in one cut). By AI agents, Wed Nov 11 2026. No macro, syntax, notation, axiom, sorry.
-/
import Derived.Test.YtjahbpmkkfdimaaChecked
import GoSem.Claim
import GoSem.ClaimJoined
import GoSem.ClaimMapViews
import Derived.JoinedTies
import Derived.KernelRfl
namespace Go.Proofs.Ytjahbpmkkfdimaa
/- THE CELL 'sum', in the pinned program and in every row, IS THE sha256 OF THE DUMP (.gsa) THAT YtjahbpmkkfdimaaProg.lean LOADS. Nothing in Lean hashes anything: it is a label: what it is worth is what the hold of that sum in a sandbox is worth. -/
noncomputable def Try.pinned : Pinned := { name := "ytjahbpmkkfdimaa", sum := "740a7c0ad876699e4d41781dc8323c5c551b433321783cc1381ee8cf8606aa5d", checked := Try.checked }
namespace Rows
def none {H : Type} : Left H := { results := [], args := [] }

/-- 'incunablelaw08.PageEncodes': WHATEVER THE INPUT: true; the input reads as it did. -/
def pageEncodesSpec : ChangeSpec := { name := "pageEncodes", fn := fun _ => fun
  | [d1, d2, d3] => { results := [.lit (.bool true)], args := [d1, d2, d3] }
  | _ => none }
def pageEncodesRow : OpenClaim := { program := "ytjahbpmkkfdimaa", sum := "740a7c0ad876699e4d41781dc8323c5c551b433321783cc1381ee8cf8606aa5d", func := "incunable/incunablelaw08.PageEncodes", spec := "pageEncodes", inPlace := ["internal/bytealg.MakeNoZero"], apart := false }
def PageEncodesSaid : Prop := pageEncodesRow.holds Try.pinned (OpenSpec.ofChange pageEncodesSpec)

/-- ITS FALSE NEIGHBOUR: 'it returns false'. Refute it at one input. -/
def pageEncodesWrong : ChangeSpec := { name := "pageEncodes", fn := fun _ => fun
  | [d1, d2, d3] => { results := [.lit (.bool false)], args := [d1, d2, d3] }
  | _ => none }
def PageEncodesWrongFalsely : Prop := pageEncodesRow.holds Try.pinned (OpenSpec.ofChange pageEncodesWrong)

/-- 'incunablelaw08.PageDecodes': WHATEVER THE INPUT: true; the input reads as it did. -/
def pageDecodesSpec : ChangeSpec := { name := "pageDecodes", fn := fun _ => fun
  | [d1, d2] => { results := [.lit (.bool true)], args := [d1, d2] }
  | _ => none }
def pageDecodesRow : OpenClaim := { program := "ytjahbpmkkfdimaa", sum := "740a7c0ad876699e4d41781dc8323c5c551b433321783cc1381ee8cf8606aa5d", func := "incunable/incunablelaw08.PageDecodes", spec := "pageDecodes", unfollowed := true, recurses := true, apart := false }
def PageDecodesSaid : Prop := pageDecodesRow.holds Try.pinned (OpenSpec.ofChange pageDecodesSpec)

/-- ITS FALSE NEIGHBOUR: 'it returns false'. Refute it at one input. -/
def pageDecodesWrong : ChangeSpec := { name := "pageDecodes", fn := fun _ => fun
  | [d1, d2] => { results := [.lit (.bool false)], args := [d1, d2] }
  | _ => none }
def PageDecodesWrongFalsely : Prop := pageDecodesRow.holds Try.pinned (OpenSpec.ofChange pageDecodesWrong)

/-- 'incunablelaw08.PageBack': WHATEVER THE INPUT: true; the input reads as it did. -/
def pageBackSpec : ChangeSpec := { name := "pageBack", fn := fun _ => fun
  | [d1, d2, d3] => { results := [.lit (.bool true)], args := [d1, d2, d3] }
  | _ => none }
def pageBackRow : OpenClaim := { program := "ytjahbpmkkfdimaa", sum := "740a7c0ad876699e4d41781dc8323c5c551b433321783cc1381ee8cf8606aa5d", func := "incunable/incunablelaw08.PageBack", spec := "pageBack", unfollowed := true, recurses := true, apart := false }
def PageBackSaid : Prop := pageBackRow.holds Try.pinned (OpenSpec.ofChange pageBackSpec)

/-- ITS FALSE NEIGHBOUR: 'it returns false'. Refute it at one input. -/
def pageBackWrong : ChangeSpec := { name := "pageBack", fn := fun _ => fun
  | [d1, d2, d3] => { results := [.lit (.bool false)], args := [d1, d2, d3] }
  | _ => none }
def PageBackWrongFalsely : Prop := pageBackRow.holds Try.pinned (OpenSpec.ofChange pageBackWrong)

/-- 'incunablelaw08.PageEmpty': WHATEVER THE INPUT: true; the input reads as it did. -/
def pageEmptySpec : ChangeSpec := { name := "pageEmpty", fn := fun _ => fun
  | [d1, d2, d3] => { results := [.lit (.bool true)], args := [d1, d2, d3] }
  | _ => none }
def pageEmptyRow : OpenClaim := { program := "ytjahbpmkkfdimaa", sum := "740a7c0ad876699e4d41781dc8323c5c551b433321783cc1381ee8cf8606aa5d", func := "incunable/incunablelaw08.PageEmpty", spec := "pageEmpty", inPlace := ["internal/bytealg.MakeNoZero"], unfollowed := true, recurses := true, apart := false }
def PageEmptySaid : Prop := pageEmptyRow.holds Try.pinned (OpenSpec.ofChange pageEmptySpec)

/-- ITS FALSE NEIGHBOUR: 'it returns false'. Refute it at one input. -/
def pageEmptyWrong : ChangeSpec := { name := "pageEmpty", fn := fun _ => fun
  | [d1, d2, d3] => { results := [.lit (.bool false)], args := [d1, d2, d3] }
  | _ => none }
def PageEmptyWrongFalsely : Prop := pageEmptyRow.holds Try.pinned (OpenSpec.ofChange pageEmptyWrong)

/-- 'incunablelaw08.PageMarks': WHATEVER THE INPUT: true; the input reads as it did. -/
def pageMarksSpec : ChangeSpec := { name := "pageMarks", fn := fun _ => fun
  | [d1, d2, d3] => { results := [.lit (.bool true)], args := [d1, d2, d3] }
  | _ => none }
def pageMarksRow : OpenClaim := { program := "ytjahbpmkkfdimaa", sum := "740a7c0ad876699e4d41781dc8323c5c551b433321783cc1381ee8cf8606aa5d", func := "incunable/incunablelaw08.PageMarks", spec := "pageMarks", unfollowed := true, recurses := true, apart := false }
def PageMarksSaid : Prop := pageMarksRow.holds Try.pinned (OpenSpec.ofChange pageMarksSpec)

/-- ITS FALSE NEIGHBOUR: 'it returns false'. Refute it at one input. -/
def pageMarksWrong : ChangeSpec := { name := "pageMarks", fn := fun _ => fun
  | [d1, d2, d3] => { results := [.lit (.bool false)], args := [d1, d2, d3] }
  | _ => none }
def PageMarksWrongFalsely : Prop := pageMarksRow.holds Try.pinned (OpenSpec.ofChange pageMarksWrong)

/- THE SECOND FORM. 'bulk': how many values and letters a reading holds, each counted each time it is reached (what is shared counts as often as it is met; a slice's spare places count too). A statement '..UptoSaid' is the law's where the arguments, and the package variables that the reading takes, are together of bulk at most 1048576: NARROWER than '..Said'. Prove '..Said' where nothing that the law and all that it calls make is longer than what came in: it says more and counts as full. Else prove '..UptoSaid'. A law counts once. -/
mutual
def uptoBulk {H : Type} : DataW H → Nat
  | .lit (.string bytes) => bytes.length + 1
  | .lit _ => 1
  | .nil => 1
  | .ptr d => uptoBulk d + 1
  | .slice elems spare => uptoBulkAll elems + uptoBulkAll spare + 1
  | .agg parts => uptoBulkAll parts + 1
  | .iface _ d => uptoBulk d + 1
  | .map entries => uptoBulkEntries entries + 1
  | .held _ => 1
def uptoBulkAll {H : Type} : List (DataW H) → Nat
  | [] => 0
  | d :: r => uptoBulk d + uptoBulkAll r
def uptoBulkEntries {H : Type} : List (Lit × DataW H) → Nat
  | [] => 0
  | x :: r => uptoBulkEntry x + uptoBulkEntries r
def uptoBulkEntry {H : Type} : Lit × DataW H → Nat
  | (.string bytes, d) => bytes.length + uptoBulk d + 1
  | (_, d) => uptoBulk d + 1
 end
def uptoSmall : (H : Type) → List (DataW H) → Bool := fun _ ds => decide (uptoBulkAll ds ≤ 1048576)
def OpenSpec.upto (s : _root_.Go.ChangeSpec) : _root_.Go.OpenSpec := { _root_.Go.OpenSpec.ofChange s with cond := some uptoSmall }

/-- 'incunablelaw08.PageEncodes', WHERE WHAT IT READS IS OF BULK AT MOST 1048576: true; the input reads as it did. -/
def pageEncodesUptoRow : OpenClaim := { program := "ytjahbpmkkfdimaa", sum := "740a7c0ad876699e4d41781dc8323c5c551b433321783cc1381ee8cf8606aa5d", func := "incunable/incunablelaw08.PageEncodes", spec := "pageEncodes", inPlace := ["internal/bytealg.MakeNoZero"], apart := false, narrowed := true }
def PageEncodesUptoSaid : Prop := pageEncodesUptoRow.holds Try.pinned (OpenSpec.upto pageEncodesSpec)

/-- 'incunablelaw08.PageDecodes', WHERE WHAT IT READS IS OF BULK AT MOST 1048576: true; the input reads as it did. -/
def pageDecodesUptoRow : OpenClaim := { program := "ytjahbpmkkfdimaa", sum := "740a7c0ad876699e4d41781dc8323c5c551b433321783cc1381ee8cf8606aa5d", func := "incunable/incunablelaw08.PageDecodes", spec := "pageDecodes", unfollowed := true, recurses := true, apart := false, narrowed := true }
def PageDecodesUptoSaid : Prop := pageDecodesUptoRow.holds Try.pinned (OpenSpec.upto pageDecodesSpec)

/-- 'incunablelaw08.PageBack', WHERE WHAT IT READS IS OF BULK AT MOST 1048576: true; the input reads as it did. -/
def pageBackUptoRow : OpenClaim := { program := "ytjahbpmkkfdimaa", sum := "740a7c0ad876699e4d41781dc8323c5c551b433321783cc1381ee8cf8606aa5d", func := "incunable/incunablelaw08.PageBack", spec := "pageBack", unfollowed := true, recurses := true, apart := false, narrowed := true }
def PageBackUptoSaid : Prop := pageBackUptoRow.holds Try.pinned (OpenSpec.upto pageBackSpec)

/-- 'incunablelaw08.PageEmpty', WHERE WHAT IT READS IS OF BULK AT MOST 1048576: true; the input reads as it did. -/
def pageEmptyUptoRow : OpenClaim := { program := "ytjahbpmkkfdimaa", sum := "740a7c0ad876699e4d41781dc8323c5c551b433321783cc1381ee8cf8606aa5d", func := "incunable/incunablelaw08.PageEmpty", spec := "pageEmpty", inPlace := ["internal/bytealg.MakeNoZero"], unfollowed := true, recurses := true, apart := false, narrowed := true }
def PageEmptyUptoSaid : Prop := pageEmptyUptoRow.holds Try.pinned (OpenSpec.upto pageEmptySpec)

/-- 'incunablelaw08.PageMarks', WHERE WHAT IT READS IS OF BULK AT MOST 1048576: true; the input reads as it did. -/
def pageMarksUptoRow : OpenClaim := { program := "ytjahbpmkkfdimaa", sum := "740a7c0ad876699e4d41781dc8323c5c551b433321783cc1381ee8cf8606aa5d", func := "incunable/incunablelaw08.PageMarks", spec := "pageMarks", unfollowed := true, recurses := true, apart := false, narrowed := true }
def PageMarksUptoSaid : Prop := pageMarksUptoRow.holds Try.pinned (OpenSpec.upto pageMarksSpec)

end Rows
end Go.Proofs.Ytjahbpmkkfdimaa
