/-
  No cell of these rows narrows 'for every input' (looked for: loops, veiled, ifaces, maps, wideKeys, modest, calm, conditions, laid).
  DERIVED. THE GIVEN ROWS OF THIS SEAT. 5 by the template 'for every input the law returns true; each argument reads behind the call as it read before'; 0 by the template 'total and deterministic' (their statements: YtppkddnifjgllaaTotals.lean).
  GIVEN WITH THE SEED: the statements are not yours to turn. If you find one false, say at which input.
  Laid BY PROGRAM, IN A SANDBOX (cutbox-rows.mjs): the forced cells as the released guide's own fill.sh prints them over the translation a51bb2086fb73d48… (all of the seat's roots in one cut). By AI agents, Wed Nov 11 2026. No macro, syntax, notation, axiom, sorry.
-/
import Derived.Test.YtppkddnifjgllaaChecked
import GoSem.Claim
import GoSem.ClaimJoined
import GoSem.ClaimMapViews
import Derived.JoinedTies
import Derived.KernelRfl
namespace Go.Proofs.Ytppkddnifjgllaa
/- THE CELL 'sum', in the pinned program and in every row, IS THE sha256 OF THE DUMP (.gsa) THAT YtppkddnifjgllaaProg.lean LOADS. Nothing in Lean hashes anything: it is a label: what it is worth is what the hold of that sum in a sandbox is worth. -/
noncomputable def Try.pinned : Pinned := { name := "ytppkddnifjgllaa", sum := "a51bb2086fb73d48b0f28427991023e9532c0668c3c664ecbd6540932dcef708", checked := Try.checked }
namespace Rows
def none {H : Type} : Left H := { results := [], args := [] }

/-- 'incunablelaw05.HammingPlaces': WHATEVER THE INPUT: true; the input reads as it did. -/
def hammingPlacesSpec : ChangeSpec := { name := "hammingPlaces", fn := fun _ => fun
  | [d1, d2] => { results := [.lit (.bool true)], args := [d1, d2] }
  | _ => none }
def hammingPlacesRow : OpenClaim := { program := "ytppkddnifjgllaa", sum := "a51bb2086fb73d48b0f28427991023e9532c0668c3c664ecbd6540932dcef708", func := "incunable/incunablelaw05.HammingPlaces", spec := "hammingPlaces", apart := false }
def HammingPlacesSaid : Prop := hammingPlacesRow.holds Try.pinned (OpenSpec.ofChange hammingPlacesSpec)

/-- ITS FALSE NEIGHBOUR: 'it returns false'. Refute it at one input. -/
def hammingPlacesWrong : ChangeSpec := { name := "hammingPlaces", fn := fun _ => fun
  | [d1, d2] => { results := [.lit (.bool false)], args := [d1, d2] }
  | _ => none }
def HammingPlacesWrongFalsely : Prop := hammingPlacesRow.holds Try.pinned (OpenSpec.ofChange hammingPlacesWrong)

/-- 'incunablelaw05.HammingWords': WHATEVER THE INPUT: true; the input reads as it did. -/
def hammingWordsSpec : ChangeSpec := { name := "hammingWords", fn := fun _ => fun
  | [d1, d2] => { results := [.lit (.bool true)], args := [d1, d2] }
  | _ => none }
def hammingWordsRow : OpenClaim := { program := "ytppkddnifjgllaa", sum := "a51bb2086fb73d48b0f28427991023e9532c0668c3c664ecbd6540932dcef708", func := "incunable/incunablelaw05.HammingWords", spec := "hammingWords", apart := false }
def HammingWordsSaid : Prop := hammingWordsRow.holds Try.pinned (OpenSpec.ofChange hammingWordsSpec)

/-- ITS FALSE NEIGHBOUR: 'it returns false'. Refute it at one input. -/
def hammingWordsWrong : ChangeSpec := { name := "hammingWords", fn := fun _ => fun
  | [d1, d2] => { results := [.lit (.bool false)], args := [d1, d2] }
  | _ => none }
def HammingWordsWrongFalsely : Prop := hammingWordsRow.holds Try.pinned (OpenSpec.ofChange hammingWordsWrong)

/-- 'incunablelaw05.HammingOne': WHATEVER THE INPUT: true; the input reads as it did. -/
def hammingOneSpec : ChangeSpec := { name := "hammingOne", fn := fun _ => fun
  | [d1, d2] => { results := [.lit (.bool true)], args := [d1, d2] }
  | _ => none }
def hammingOneRow : OpenClaim := { program := "ytppkddnifjgllaa", sum := "a51bb2086fb73d48b0f28427991023e9532c0668c3c664ecbd6540932dcef708", func := "incunable/incunablelaw05.HammingOne", spec := "hammingOne", apart := false }
def HammingOneSaid : Prop := hammingOneRow.holds Try.pinned (OpenSpec.ofChange hammingOneSpec)

/-- ITS FALSE NEIGHBOUR: 'it returns false'. Refute it at one input. -/
def hammingOneWrong : ChangeSpec := { name := "hammingOne", fn := fun _ => fun
  | [d1, d2] => { results := [.lit (.bool false)], args := [d1, d2] }
  | _ => none }
def HammingOneWrongFalsely : Prop := hammingOneRow.holds Try.pinned (OpenSpec.ofChange hammingOneWrong)

/-- 'incunablelaw05.HammingTwo': WHATEVER THE INPUT: true; the input reads as it did. -/
def hammingTwoSpec : ChangeSpec := { name := "hammingTwo", fn := fun _ => fun
  | [d1, d2] => { results := [.lit (.bool true)], args := [d1, d2] }
  | _ => none }
def hammingTwoRow : OpenClaim := { program := "ytppkddnifjgllaa", sum := "a51bb2086fb73d48b0f28427991023e9532c0668c3c664ecbd6540932dcef708", func := "incunable/incunablelaw05.HammingTwo", spec := "hammingTwo", apart := false }
def HammingTwoSaid : Prop := hammingTwoRow.holds Try.pinned (OpenSpec.ofChange hammingTwoSpec)

/-- ITS FALSE NEIGHBOUR: 'it returns false'. Refute it at one input. -/
def hammingTwoWrong : ChangeSpec := { name := "hammingTwo", fn := fun _ => fun
  | [d1, d2] => { results := [.lit (.bool false)], args := [d1, d2] }
  | _ => none }
def HammingTwoWrongFalsely : Prop := hammingTwoRow.holds Try.pinned (OpenSpec.ofChange hammingTwoWrong)

/-- 'incunablelaw05.HammingApart': WHATEVER THE INPUT: true; the input reads as it did. -/
def hammingApartSpec : ChangeSpec := { name := "hammingApart", fn := fun _ => fun
  | [d1, d2] => { results := [.lit (.bool true)], args := [d1, d2] }
  | _ => none }
def hammingApartRow : OpenClaim := { program := "ytppkddnifjgllaa", sum := "a51bb2086fb73d48b0f28427991023e9532c0668c3c664ecbd6540932dcef708", func := "incunable/incunablelaw05.HammingApart", spec := "hammingApart", apart := false }
def HammingApartSaid : Prop := hammingApartRow.holds Try.pinned (OpenSpec.ofChange hammingApartSpec)

/-- ITS FALSE NEIGHBOUR: 'it returns false'. Refute it at one input. -/
def hammingApartWrong : ChangeSpec := { name := "hammingApart", fn := fun _ => fun
  | [d1, d2] => { results := [.lit (.bool false)], args := [d1, d2] }
  | _ => none }
def HammingApartWrongFalsely : Prop := hammingApartRow.holds Try.pinned (OpenSpec.ofChange hammingApartWrong)

/- THE SECOND FORM. 'bulk': how many values and letters a reading holds, each counted each time it is reached (what is shared counts as often as it is met; a slice's spare places count too). A statement '..UptoSaid' is the law's where the arguments, and the package variables that the reading takes, are together of bulk at most 1048576: NARROWER than '..Said'. Prove '..Said' where nothing that the law and all that it calls make is longer than what came in: it says more and counts as full. Else prove '..UptoSaid'. A law counts once. -/
mutual
def uptoBulk {H : Type} : DataW H → Nat
  | .lit (.string bytes) => bytes.length + 1
  | .lit _ => 1
  | .nil => 1
  | .ptr d => uptoBulk d + 1
  | .slice elems spare => uptoBulkAll elems + uptoBulkAll spare + 1
  | .agg parts => uptoBulkAll parts + 1
  | .iface _ d => uptoBulk d + 1
  | .map entries => uptoBulkEntries entries + 1
  | .held _ => 1
def uptoBulkAll {H : Type} : List (DataW H) → Nat
  | [] => 0
  | d :: r => uptoBulk d + uptoBulkAll r
def uptoBulkEntries {H : Type} : List (Lit × DataW H) → Nat
  | [] => 0
  | x :: r => uptoBulkEntry x + uptoBulkEntries r
def uptoBulkEntry {H : Type} : Lit × DataW H → Nat
  | (.string bytes, d) => bytes.length + uptoBulk d + 1
  | (_, d) => uptoBulk d + 1
 end
def uptoSmall : (H : Type) → List (DataW H) → Bool := fun _ ds => decide (uptoBulkAll ds ≤ 1048576)
def OpenSpec.upto (s : _root_.Go.ChangeSpec) : _root_.Go.OpenSpec := { _root_.Go.OpenSpec.ofChange s with cond := some uptoSmall }

/-- 'incunablelaw05.HammingPlaces', WHERE WHAT IT READS IS OF BULK AT MOST 1048576: true; the input reads as it did. -/
def hammingPlacesUptoRow : OpenClaim := { program := "ytppkddnifjgllaa", sum := "a51bb2086fb73d48b0f28427991023e9532c0668c3c664ecbd6540932dcef708", func := "incunable/incunablelaw05.HammingPlaces", spec := "hammingPlaces", apart := false, narrowed := true }
def HammingPlacesUptoSaid : Prop := hammingPlacesUptoRow.holds Try.pinned (OpenSpec.upto hammingPlacesSpec)

/-- 'incunablelaw05.HammingWords', WHERE WHAT IT READS IS OF BULK AT MOST 1048576: true; the input reads as it did. -/
def hammingWordsUptoRow : OpenClaim := { program := "ytppkddnifjgllaa", sum := "a51bb2086fb73d48b0f28427991023e9532c0668c3c664ecbd6540932dcef708", func := "incunable/incunablelaw05.HammingWords", spec := "hammingWords", apart := false, narrowed := true }
def HammingWordsUptoSaid : Prop := hammingWordsUptoRow.holds Try.pinned (OpenSpec.upto hammingWordsSpec)

/-- 'incunablelaw05.HammingOne', WHERE WHAT IT READS IS OF BULK AT MOST 1048576: true; the input reads as it did. -/
def hammingOneUptoRow : OpenClaim := { program := "ytppkddnifjgllaa", sum := "a51bb2086fb73d48b0f28427991023e9532c0668c3c664ecbd6540932dcef708", func := "incunable/incunablelaw05.HammingOne", spec := "hammingOne", apart := false, narrowed := true }
def HammingOneUptoSaid : Prop := hammingOneUptoRow.holds Try.pinned (OpenSpec.upto hammingOneSpec)

/-- 'incunablelaw05.HammingTwo', WHERE WHAT IT READS IS OF BULK AT MOST 1048576: true; the input reads as it did. -/
def hammingTwoUptoRow : OpenClaim := { program := "ytppkddnifjgllaa", sum := "a51bb2086fb73d48b0f28427991023e9532c0668c3c664ecbd6540932dcef708", func := "incunable/incunablelaw05.HammingTwo", spec := "hammingTwo", apart := false, narrowed := true }
def HammingTwoUptoSaid : Prop := hammingTwoUptoRow.holds Try.pinned (OpenSpec.upto hammingTwoSpec)

/-- 'incunablelaw05.HammingApart', WHERE WHAT IT READS IS OF BULK AT MOST 1048576: true; the input reads as it did. -/
def hammingApartUptoRow : OpenClaim := { program := "ytppkddnifjgllaa", sum := "a51bb2086fb73d48b0f28427991023e9532c0668c3c664ecbd6540932dcef708", func := "incunable/incunablelaw05.HammingApart", spec := "hammingApart", apart := false, narrowed := true }
def HammingApartUptoSaid : Prop := hammingApartUptoRow.holds Try.pinned (OpenSpec.upto hammingApartSpec)

end Rows
end Go.Proofs.Ytppkddnifjgllaa
