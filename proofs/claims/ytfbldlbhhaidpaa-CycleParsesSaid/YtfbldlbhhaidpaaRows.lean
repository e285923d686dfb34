/-
  No cell of these rows narrows 'for every input' (looked for: loops, veiled, ifaces, maps, wideKeys, modest, calm, conditions, laid).
  DERIVED. THE GIVEN ROWS OF THIS SEAT. 4 by the template 'for every input the law returns true; each argument reads behind the call as it read before'; 0 by the template 'total and deterministic' (their statements: YtfbldlbhhaidpaaTotals.lean).
  GIVEN WITH THE SEED: the statements are not yours to turn. If you find one false, say at which input.
  Laid BY PROGRAM, IN A SANDBOX (cutbox-rows.mjs): the forced cells as the released guide's own fill.sh prints them over the translation 52dcacfec9a0d219… (all of the seat's roots in one cut). By AI agents, Wed Nov 11 2026. No macro, syntax, notation, axiom, sorry.
-/
import Derived.Test.YtfbldlbhhaidpaaChecked
import GoSem.Claim
import GoSem.ClaimJoined
import GoSem.ClaimMapViews
import Derived.JoinedTies
import Derived.KernelRfl
namespace Go.Proofs.Ytfbldlbhhaidpaa
/- THE CELL 'sum', in the pinned program and in every row, IS THE sha256 OF THE DUMP (.gsa) THAT YtfbldlbhhaidpaaProg.lean LOADS. Nothing in Lean hashes anything: it is a label: what it is worth is what the hold of that sum in a sandbox is worth. -/
noncomputable def Try.pinned : Pinned := { name := "ytfbldlbhhaidpaa", sum := "52dcacfec9a0d2197e0d65e1101166815ec2096895ab3d7a7da6b44ee0dc91b8", checked := Try.checked }
namespace Rows
def none {H : Type} : Left H := { results := [], args := [] }

/-- 'incunablelaw10.CycleTexts': WHATEVER THE INPUT: true; the input reads as it did. -/
def cycleTextsSpec : ChangeSpec := { name := "cycleTexts", fn := fun _ => fun
  | [d1, d2, d3] => { results := [.lit (.bool true)], args := [d1, d2, d3] }
  | _ => none }
def cycleTextsRow : OpenClaim := { program := "ytfbldlbhhaidpaa", sum := "52dcacfec9a0d2197e0d65e1101166815ec2096895ab3d7a7da6b44ee0dc91b8", func := "incunable/incunablelaw10.CycleTexts", spec := "cycleTexts", inPlace := ["internal/abi.NoEscape", "internal/bytealg.MakeNoZero"], apart := false }
def CycleTextsSaid : Prop := cycleTextsRow.holds Try.pinned (OpenSpec.ofChange cycleTextsSpec)

/-- ITS FALSE NEIGHBOUR: 'it returns false'. Refute it at one input. -/
def cycleTextsWrong : ChangeSpec := { name := "cycleTexts", fn := fun _ => fun
  | [d1, d2, d3] => { results := [.lit (.bool false)], args := [d1, d2, d3] }
  | _ => none }
def CycleTextsWrongFalsely : Prop := cycleTextsRow.holds Try.pinned (OpenSpec.ofChange cycleTextsWrong)

/-- 'incunablelaw10.CycleParses': WHATEVER THE INPUT: true; the input reads as it did. -/
def cycleParsesSpec : ChangeSpec := { name := "cycleParses", fn := fun _ => fun
  | [d] => { results := [.lit (.bool true)], args := [d] }
  | _ => none }
def cycleParsesRow : OpenClaim := { program := "ytfbldlbhhaidpaa", sum := "52dcacfec9a0d2197e0d65e1101166815ec2096895ab3d7a7da6b44ee0dc91b8", func := "incunable/incunablelaw10.CycleParses", spec := "cycleParses", inPlace := ["internal/abi.NoEscape", "internal/bytealg.MakeNoZero", "internal/bytealg.IndexByteString"], apart := false }
def CycleParsesSaid : Prop := cycleParsesRow.holds Try.pinned (OpenSpec.ofChange cycleParsesSpec)

/-- ITS FALSE NEIGHBOUR: 'it returns false'. Refute it at one input. -/
def cycleParsesWrong : ChangeSpec := { name := "cycleParses", fn := fun _ => fun
  | [d] => { results := [.lit (.bool false)], args := [d] }
  | _ => none }
def CycleParsesWrongFalsely : Prop := cycleParsesRow.holds Try.pinned (OpenSpec.ofChange cycleParsesWrong)

/-- 'incunablelaw10.CycleBack': WHATEVER THE INPUT: true; the input reads as it did. -/
def cycleBackSpec : ChangeSpec := { name := "cycleBack", fn := fun _ => fun
  | [d1, d2] => { results := [.lit (.bool true)], args := [d1, d2] }
  | _ => none }
def cycleBackRow : OpenClaim := { program := "ytfbldlbhhaidpaa", sum := "52dcacfec9a0d2197e0d65e1101166815ec2096895ab3d7a7da6b44ee0dc91b8", func := "incunable/incunablelaw10.CycleBack", spec := "cycleBack", inPlace := ["internal/abi.NoEscape", "internal/bytealg.MakeNoZero", "internal/bytealg.IndexByteString"], apart := false }
def CycleBackSaid : Prop := cycleBackRow.holds Try.pinned (OpenSpec.ofChange cycleBackSpec)

/-- ITS FALSE NEIGHBOUR: 'it returns false'. Refute it at one input. -/
def cycleBackWrong : ChangeSpec := { name := "cycleBack", fn := fun _ => fun
  | [d1, d2] => { results := [.lit (.bool false)], args := [d1, d2] }
  | _ => none }
def CycleBackWrongFalsely : Prop := cycleBackRow.holds Try.pinned (OpenSpec.ofChange cycleBackWrong)

/-- 'incunablelaw10.CycleParts': WHATEVER THE INPUT: true; the input reads as it did. -/
def cyclePartsSpec : ChangeSpec := { name := "cycleParts", fn := fun _ => fun
  | [d1, d2] => { results := [.lit (.bool true)], args := [d1, d2] }
  | _ => none }
def cyclePartsRow : OpenClaim := { program := "ytfbldlbhhaidpaa", sum := "52dcacfec9a0d2197e0d65e1101166815ec2096895ab3d7a7da6b44ee0dc91b8", func := "incunable/incunablelaw10.CycleParts", spec := "cycleParts", inPlace := ["internal/abi.NoEscape", "internal/bytealg.MakeNoZero", "internal/bytealg.IndexByteString"], apart := false }
def CyclePartsSaid : Prop := cyclePartsRow.holds Try.pinned (OpenSpec.ofChange cyclePartsSpec)

/-- ITS FALSE NEIGHBOUR: 'it returns false'. Refute it at one input. -/
def cyclePartsWrong : ChangeSpec := { name := "cycleParts", fn := fun _ => fun
  | [d1, d2] => { results := [.lit (.bool false)], args := [d1, d2] }
  | _ => none }
def CyclePartsWrongFalsely : Prop := cyclePartsRow.holds Try.pinned (OpenSpec.ofChange cyclePartsWrong)

/- THE SECOND FORM. 'bulk': how many values and letters a reading holds, each counted each time it is reached (what is shared counts as often as it is met; a slice's spare places count too). A statement '..UptoSaid' is the law's where the arguments, and the package variables that the reading takes, are together of bulk at most 1048576: NARROWER than '..Said'. Prove '..Said' where nothing that the law and all that it calls make is longer than what came in: it says more and counts as full. Else prove '..UptoSaid'. A law counts once. -/
mutual
def uptoBulk {H : Type} : DataW H → Nat
  | .lit (.string bytes) => bytes.length + 1
  | .lit _ => 1
  | .nil => 1
  | .ptr d => uptoBulk d + 1
  | .slice elems spare => uptoBulkAll elems + uptoBulkAll spare + 1
  | .agg parts => uptoBulkAll parts + 1
  | .iface _ d => uptoBulk d + 1
  | .map entries => uptoBulkEntries entries + 1
  | .held _ => 1
def uptoBulkAll {H : Type} : List (DataW H) → Nat
  | [] => 0
  | d :: r => uptoBulk d + uptoBulkAll r
def uptoBulkEntries {H : Type} : List (Lit × DataW H) → Nat
  | [] => 0
  | x :: r => uptoBulkEntry x + uptoBulkEntries r
def uptoBulkEntry {H : Type} : Lit × DataW H → Nat
  | (.string bytes, d) => bytes.length + uptoBulk d + 1
  | (_, d) => uptoBulk d + 1
 end
def uptoSmall : (H : Type) → List (DataW H) → Bool := fun _ ds => decide (uptoBulkAll ds ≤ 1048576)
def OpenSpec.upto (s : _root_.Go.ChangeSpec) : _root_.Go.OpenSpec := { _root_.Go.OpenSpec.ofChange s with cond := some uptoSmall }

/-- 'incunablelaw10.CycleTexts', WHERE WHAT IT READS IS OF BULK AT MOST 1048576: true; the input reads as it did. -/
def cycleTextsUptoRow : OpenClaim := { program := "ytfbldlbhhaidpaa", sum := "52dcacfec9a0d2197e0d65e1101166815ec2096895ab3d7a7da6b44ee0dc91b8", func := "incunable/incunablelaw10.CycleTexts", spec := "cycleTexts", inPlace := ["internal/abi.NoEscape", "internal/bytealg.MakeNoZero"], apart := false, narrowed := true }
def CycleTextsUptoSaid : Prop := cycleTextsUptoRow.holds Try.pinned (OpenSpec.upto cycleTextsSpec)

/-- 'incunablelaw10.CycleParses', WHERE WHAT IT READS IS OF BULK AT MOST 1048576: true; the input reads as it did. -/
def cycleParsesUptoRow : OpenClaim := { program := "ytfbldlbhhaidpaa", sum := "52dcacfec9a0d2197e0d65e1101166815ec2096895ab3d7a7da6b44ee0dc91b8", func := "incunable/incunablelaw10.CycleParses", spec := "cycleParses", inPlace := ["internal/abi.NoEscape", "internal/bytealg.MakeNoZero", "internal/bytealg.IndexByteString"], apart := false, narrowed := true }
def CycleParsesUptoSaid : Prop := cycleParsesUptoRow.holds Try.pinned (OpenSpec.upto cycleParsesSpec)

/-- 'incunablelaw10.CycleBack', WHERE WHAT IT READS IS OF BULK AT MOST 1048576: true; the input reads as it did. -/
def cycleBackUptoRow : OpenClaim := { program := "ytfbldlbhhaidpaa", sum := "52dcacfec9a0d2197e0d65e1101166815ec2096895ab3d7a7da6b44ee0dc91b8", func := "incunable/incunablelaw10.CycleBack", spec := "cycleBack", inPlace := ["internal/abi.NoEscape", "internal/bytealg.MakeNoZero", "internal/bytealg.IndexByteString"], apart := false, narrowed := true }
def CycleBackUptoSaid : Prop := cycleBackUptoRow.holds Try.pinned (OpenSpec.upto cycleBackSpec)

/-- 'incunablelaw10.CycleParts', WHERE WHAT IT READS IS OF BULK AT MOST 1048576: true; the input reads as it did. -/
def cyclePartsUptoRow : OpenClaim := { program := "ytfbldlbhhaidpaa", sum := "52dcacfec9a0d2197e0d65e1101166815ec2096895ab3d7a7da6b44ee0dc91b8", func := "incunable/incunablelaw10.CycleParts", spec := "cycleParts", inPlace := ["internal/abi.NoEscape", "internal/bytealg.MakeNoZero", "internal/bytealg.IndexByteString"], apart := false, narrowed := true }
def CyclePartsUptoSaid : Prop := cyclePartsUptoRow.holds Try.pinned (OpenSpec.upto cyclePartsSpec)

end Rows
end Go.Proofs.Ytfbldlbhhaidpaa
