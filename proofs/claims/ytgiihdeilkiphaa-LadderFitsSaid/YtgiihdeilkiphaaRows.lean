/-
  No cell of these rows narrows 'for every input' (looked for: loops, veiled, ifaces, maps, wideKeys, modest, calm, conditions, laid).
  DERIVED. THE GIVEN ROWS OF THIS SEAT. 4 by the template 'for every input the law returns true; each argument reads behind the call as it read before'; 0 by the template 'total and deterministic' (their statements: YtgiihdeilkiphaaTotals.lean).
  GIVEN WITH THE SEED: the statements are not yours to turn. If you find one false, say at which input.
  Laid BY PROGRAM, IN A SANDBOX (cutbox-rows.mjs): the forced cells as the released guide's own fill.sh prints them over the translation 1d4b0eaae873a20d… (all of the seat's roots in one cut). By AI agents, Wed Nov 11 2026. No macro, syntax, notation, axiom, sorry.
-/
import Derived.Test.YtgiihdeilkiphaaChecked
import GoSem.Claim
import GoSem.ClaimJoined
import GoSem.ClaimMapViews
import Derived.JoinedTies
import Derived.KernelRfl
namespace Go.Proofs.Ytgiihdeilkiphaa
/- THE CELL 'sum', in the pinned program and in every row, IS THE sha256 OF THE DUMP (.gsa) THAT YtgiihdeilkiphaaProg.lean LOADS. Nothing in Lean hashes anything: it is a label: what it is worth is what the hold of that sum in a sandbox is worth. -/
noncomputable def Try.pinned : Pinned := { name := "ytgiihdeilkiphaa", sum := "1d4b0eaae873a20da70d6d21aaf971ef518a6db51f15adba9a9c254b4954a103", checked := Try.checked }
namespace Rows
def none {H : Type} : Left H := { results := [], args := [] }

/-- 'incunablelaw09.LadderClimbs': WHATEVER THE INPUT: true; the input reads as it did. -/
def ladderClimbsSpec : ChangeSpec := { name := "ladderClimbs", fn := fun _ => fun
  | [d1, d2] => { results := [.lit (.bool true)], args := [d1, d2] }
  | _ => none }
def ladderClimbsRow : OpenClaim := { program := "ytgiihdeilkiphaa", sum := "1d4b0eaae873a20da70d6d21aaf971ef518a6db51f15adba9a9c254b4954a103", func := "incunable/incunablelaw09.LadderClimbs", spec := "ladderClimbs", inPlace := ["internal/bytealg.MakeNoZero"], unfollowed := true, recurses := true, apart := false }
def LadderClimbsSaid : Prop := ladderClimbsRow.holds Try.pinned (OpenSpec.ofChange ladderClimbsSpec)

/-- ITS FALSE NEIGHBOUR: 'it returns false'. Refute it at one input. -/
def ladderClimbsWrong : ChangeSpec := { name := "ladderClimbs", fn := fun _ => fun
  | [d1, d2] => { results := [.lit (.bool false)], args := [d1, d2] }
  | _ => none }
def LadderClimbsWrongFalsely : Prop := ladderClimbsRow.holds Try.pinned (OpenSpec.ofChange ladderClimbsWrong)

/-- 'incunablelaw09.LadderWalks': WHATEVER THE INPUT: true; the input reads as it did. -/
def ladderWalksSpec : ChangeSpec := { name := "ladderWalks", fn := fun _ => fun
  | [d1, d2, d3] => { results := [.lit (.bool true)], args := [d1, d2, d3] }
  | _ => none }
def ladderWalksRow : OpenClaim := { program := "ytgiihdeilkiphaa", sum := "1d4b0eaae873a20da70d6d21aaf971ef518a6db51f15adba9a9c254b4954a103", func := "incunable/incunablelaw09.LadderWalks", spec := "ladderWalks", inPlace := ["internal/bytealg.MakeNoZero"], unfollowed := true, recurses := true, apart := false }
def LadderWalksSaid : Prop := ladderWalksRow.holds Try.pinned (OpenSpec.ofChange ladderWalksSpec)

/-- ITS FALSE NEIGHBOUR: 'it returns false'. Refute it at one input. -/
def ladderWalksWrong : ChangeSpec := { name := "ladderWalks", fn := fun _ => fun
  | [d1, d2, d3] => { results := [.lit (.bool false)], args := [d1, d2, d3] }
  | _ => none }
def LadderWalksWrongFalsely : Prop := ladderWalksRow.holds Try.pinned (OpenSpec.ofChange ladderWalksWrong)

/-- 'incunablelaw09.LadderFits': WHATEVER THE INPUT: true; the input reads as it did. -/
def ladderFitsSpec : ChangeSpec := { name := "ladderFits", fn := fun _ => fun
  | [d1, d2, d3] => { results := [.lit (.bool true)], args := [d1, d2, d3] }
  | _ => none }
def ladderFitsRow : OpenClaim := { program := "ytgiihdeilkiphaa", sum := "1d4b0eaae873a20da70d6d21aaf971ef518a6db51f15adba9a9c254b4954a103", func := "incunable/incunablelaw09.LadderFits", spec := "ladderFits", inPlace := ["internal/bytealg.MakeNoZero"], unfollowed := true, recurses := true, apart := false }
def LadderFitsSaid : Prop := ladderFitsRow.holds Try.pinned (OpenSpec.ofChange ladderFitsSpec)

/-- ITS FALSE NEIGHBOUR: 'it returns false'. Refute it at one input. -/
def ladderFitsWrong : ChangeSpec := { name := "ladderFits", fn := fun _ => fun
  | [d1, d2, d3] => { results := [.lit (.bool false)], args := [d1, d2, d3] }
  | _ => none }
def LadderFitsWrongFalsely : Prop := ladderFitsRow.holds Try.pinned (OpenSpec.ofChange ladderFitsWrong)

/-- 'incunablelaw09.LadderSame': WHATEVER THE INPUT: true; the input reads as it did. -/
def ladderSameSpec : ChangeSpec := { name := "ladderSame", fn := fun _ => fun
  | [d1, d2, d3] => { results := [.lit (.bool true)], args := [d1, d2, d3] }
  | _ => none }
def ladderSameRow : OpenClaim := { program := "ytgiihdeilkiphaa", sum := "1d4b0eaae873a20da70d6d21aaf971ef518a6db51f15adba9a9c254b4954a103", func := "incunable/incunablelaw09.LadderSame", spec := "ladderSame", inPlace := ["internal/bytealg.MakeNoZero"], unfollowed := true, recurses := true, apart := false }
def LadderSameSaid : Prop := ladderSameRow.holds Try.pinned (OpenSpec.ofChange ladderSameSpec)

/-- ITS FALSE NEIGHBOUR: 'it returns false'. Refute it at one input. -/
def ladderSameWrong : ChangeSpec := { name := "ladderSame", fn := fun _ => fun
  | [d1, d2, d3] => { results := [.lit (.bool false)], args := [d1, d2, d3] }
  | _ => none }
def LadderSameWrongFalsely : Prop := ladderSameRow.holds Try.pinned (OpenSpec.ofChange ladderSameWrong)

/- THE SECOND FORM. 'bulk': how many values and letters a reading holds, each counted each time it is reached (what is shared counts as often as it is met; a slice's spare places count too). A statement '..UptoSaid' is the law's where the arguments, and the package variables that the reading takes, are together of bulk at most 1048576: NARROWER than '..Said'. Prove '..Said' where nothing that the law and all that it calls make is longer than what came in: it says more and counts as full. Else prove '..UptoSaid'. A law counts once. -/
mutual
def uptoBulk {H : Type} : DataW H → Nat
  | .lit (.string bytes) => bytes.length + 1
  | .lit _ => 1
  | .nil => 1
  | .ptr d => uptoBulk d + 1
  | .slice elems spare => uptoBulkAll elems + uptoBulkAll spare + 1
  | .agg parts => uptoBulkAll parts + 1
  | .iface _ d => uptoBulk d + 1
  | .map entries => uptoBulkEntries entries + 1
  | .held _ => 1
def uptoBulkAll {H : Type} : List (DataW H) → Nat
  | [] => 0
  | d :: r => uptoBulk d + uptoBulkAll r
def uptoBulkEntries {H : Type} : List (Lit × DataW H) → Nat
  | [] => 0
  | x :: r => uptoBulkEntry x + uptoBulkEntries r
def uptoBulkEntry {H : Type} : Lit × DataW H → Nat
  | (.string bytes, d) => bytes.length + uptoBulk d + 1
  | (_, d) => uptoBulk d + 1
 end
def uptoSmall : (H : Type) → List (DataW H) → Bool := fun _ ds => decide (uptoBulkAll ds ≤ 1048576)
def OpenSpec.upto (s : _root_.Go.ChangeSpec) : _root_.Go.OpenSpec := { _root_.Go.OpenSpec.ofChange s with cond := some uptoSmall }

/-- 'incunablelaw09.LadderClimbs', WHERE WHAT IT READS IS OF BULK AT MOST 1048576: true; the input reads as it did. -/
def ladderClimbsUptoRow : OpenClaim := { program := "ytgiihdeilkiphaa", sum := "1d4b0eaae873a20da70d6d21aaf971ef518a6db51f15adba9a9c254b4954a103", func := "incunable/incunablelaw09.LadderClimbs", spec := "ladderClimbs", inPlace := ["internal/bytealg.MakeNoZero"], unfollowed := true, recurses := true, apart := false, narrowed := true }
def LadderClimbsUptoSaid : Prop := ladderClimbsUptoRow.holds Try.pinned (OpenSpec.upto ladderClimbsSpec)

/-- 'incunablelaw09.LadderWalks', WHERE WHAT IT READS IS OF BULK AT MOST 1048576: true; the input reads as it did. -/
def ladderWalksUptoRow : OpenClaim := { program := "ytgiihdeilkiphaa", sum := "1d4b0eaae873a20da70d6d21aaf971ef518a6db51f15adba9a9c254b4954a103", func := "incunable/incunablelaw09.LadderWalks", spec := "ladderWalks", inPlace := ["internal/bytealg.MakeNoZero"], unfollowed := true, recurses := true, apart := false, narrowed := true }
def LadderWalksUptoSaid : Prop := ladderWalksUptoRow.holds Try.pinned (OpenSpec.upto ladderWalksSpec)

/-- 'incunablelaw09.LadderFits', WHERE WHAT IT READS IS OF BULK AT MOST 1048576: true; the input reads as it did. -/
def ladderFitsUptoRow : OpenClaim := { program := "ytgiihdeilkiphaa", sum := "1d4b0eaae873a20da70d6d21aaf971ef518a6db51f15adba9a9c254b4954a103", func := "incunable/incunablelaw09.LadderFits", spec := "ladderFits", inPlace := ["internal/bytealg.MakeNoZero"], unfollowed := true, recurses := true, apart := false, narrowed := true }
def LadderFitsUptoSaid : Prop := ladderFitsUptoRow.holds Try.pinned (OpenSpec.upto ladderFitsSpec)

/-- 'incunablelaw09.LadderSame', WHERE WHAT IT READS IS OF BULK AT MOST 1048576: true; the input reads as it did. -/
def ladderSameUptoRow : OpenClaim := { program := "ytgiihdeilkiphaa", sum := "1d4b0eaae873a20da70d6d21aaf971ef518a6db51f15adba9a9c254b4954a103", func := "incunable/incunablelaw09.LadderSame", spec := "ladderSame", inPlace := ["internal/bytealg.MakeNoZero"], unfollowed := true, recurses := true, apart := false, narrowed := true }
def LadderSameUptoSaid : Prop := ladderSameUptoRow.holds Try.pinned (OpenSpec.upto ladderSameSpec)

end Rows
end Go.Proofs.Ytgiihdeilkiphaa
