/-
  No cell of these rows narrows 'for every input' (looked for: loops, veiled, ifaces, maps, wideKeys, modest, calm, conditions, laid).
  DERIVED. THE GIVEN ROWS OF THIS SEAT. 3 by the template 'for every input the law returns true; each argument reads behind the call as it read before'; 0 by the template 'total and deterministic' (their statements: YtmgaenfimhdlpaaTotals.lean).
  GIVEN WITH THE SEED: the statements are not yours to turn. If you find one false, say at which input.
  Laid BY PROGRAM, IN A SANDBOX (cutbox-rows.mjs): the forced cells as the released guide's own fill.sh prints them over the translation 1463f2675f9cc8e3… (all of the seat's roots in one cut). By AI agents, Wed Nov 11 2026. No macro, syntax, notation, axiom, sorry.
-/
import Derived.Test.YtmgaenfimhdlpaaChecked
import GoSem.Claim
import GoSem.ClaimJoined
import GoSem.ClaimMapViews
import Derived.JoinedTies
import Derived.KernelRfl
namespace Go.Proofs.Ytmgaenfimhdlpaa
/- THE CELL 'sum', in the pinned program and in every row, IS THE sha256 OF THE DUMP (.gsa) THAT YtmgaenfimhdlpaaProg.lean LOADS. Nothing in Lean hashes anything: it is a label: what it is worth is what the hold of that sum in a sandbox is worth. -/
noncomputable def Try.pinned : Pinned := { name := "ytmgaenfimhdlpaa", sum := "1463f2675f9cc8e328939cb209de303df87cd0b269973de3a0d5a38e626a2a64", checked := Try.checked }
namespace Rows
def none {H : Type} : Left H := { results := [], args := [] }

/-- 'incunablelaw15.JudgeSteps': WHATEVER THE INPUT: true; the input reads as it did. -/
def judgeStepsSpec : ChangeSpec := { name := "judgeSteps", fn := fun _ => fun
  | [d1, d2] => { results := [.lit (.bool true)], args := [d1, d2] }
  | _ => none }
def judgeStepsRow : OpenClaim := { program := "ytmgaenfimhdlpaa", sum := "1463f2675f9cc8e328939cb209de303df87cd0b269973de3a0d5a38e626a2a64", func := "incunable/incunablelaw15.JudgeSteps", spec := "judgeSteps", apart := false }
def JudgeStepsSaid : Prop := judgeStepsRow.holds Try.pinned (OpenSpec.ofChange judgeStepsSpec)

/-- ITS FALSE NEIGHBOUR: 'it returns false'. Refute it at one input. -/
def judgeStepsWrong : ChangeSpec := { name := "judgeSteps", fn := fun _ => fun
  | [d1, d2] => { results := [.lit (.bool false)], args := [d1, d2] }
  | _ => none }
def JudgeStepsWrongFalsely : Prop := judgeStepsRow.holds Try.pinned (OpenSpec.ofChange judgeStepsWrong)

/-- 'incunablelaw15.JudgeFits': WHATEVER THE INPUT: true; the input reads as it did. -/
def judgeFitsSpec : ChangeSpec := { name := "judgeFits", fn := fun _ => fun
  | [d1, d2, d3] => { results := [.lit (.bool true)], args := [d1, d2, d3] }
  | _ => none }
def judgeFitsRow : OpenClaim := { program := "ytmgaenfimhdlpaa", sum := "1463f2675f9cc8e328939cb209de303df87cd0b269973de3a0d5a38e626a2a64", func := "incunable/incunablelaw15.JudgeFits", spec := "judgeFits", apart := false }
def JudgeFitsSaid : Prop := judgeFitsRow.holds Try.pinned (OpenSpec.ofChange judgeFitsSpec)

/-- ITS FALSE NEIGHBOUR: 'it returns false'. Refute it at one input. -/
def judgeFitsWrong : ChangeSpec := { name := "judgeFits", fn := fun _ => fun
  | [d1, d2, d3] => { results := [.lit (.bool false)], args := [d1, d2, d3] }
  | _ => none }
def JudgeFitsWrongFalsely : Prop := judgeFitsRow.holds Try.pinned (OpenSpec.ofChange judgeFitsWrong)

/-- 'incunablelaw15.JudgeErases': WHATEVER THE INPUT: true; the input reads as it did. -/
def judgeErasesSpec : ChangeSpec := { name := "judgeErases", fn := fun _ => fun
  | [d1, d2, d3] => { results := [.lit (.bool true)], args := [d1, d2, d3] }
  | _ => none }
def judgeErasesRow : OpenClaim := { program := "ytmgaenfimhdlpaa", sum := "1463f2675f9cc8e328939cb209de303df87cd0b269973de3a0d5a38e626a2a64", func := "incunable/incunablelaw15.JudgeErases", spec := "judgeErases", unfollowed := true, recurses := true, apart := false }
def JudgeErasesSaid : Prop := judgeErasesRow.holds Try.pinned (OpenSpec.ofChange judgeErasesSpec)

/-- ITS FALSE NEIGHBOUR: 'it returns false'. Refute it at one input. -/
def judgeErasesWrong : ChangeSpec := { name := "judgeErases", fn := fun _ => fun
  | [d1, d2, d3] => { results := [.lit (.bool false)], args := [d1, d2, d3] }
  | _ => none }
def JudgeErasesWrongFalsely : Prop := judgeErasesRow.holds Try.pinned (OpenSpec.ofChange judgeErasesWrong)

/- THE SECOND FORM. 'bulk': how many values and letters a reading holds, each counted each time it is reached (what is shared counts as often as it is met; a slice's spare places count too). A statement '..UptoSaid' is the law's where the arguments, and the package variables that the reading takes, are together of bulk at most 1048576: NARROWER than '..Said'. Prove '..Said' where nothing that the law and all that it calls make is longer than what came in: it says more and counts as full. Else prove '..UptoSaid'. A law counts once. -/
mutual
def uptoBulk {H : Type} : DataW H → Nat
  | .lit (.string bytes) => bytes.length + 1
  | .lit _ => 1
  | .nil => 1
  | .ptr d => uptoBulk d + 1
  | .slice elems spare => uptoBulkAll elems + uptoBulkAll spare + 1
  | .agg parts => uptoBulkAll parts + 1
  | .iface _ d => uptoBulk d + 1
  | .map entries => uptoBulkEntries entries + 1
  | .held _ => 1
def uptoBulkAll {H : Type} : List (DataW H) → Nat
  | [] => 0
  | d :: r => uptoBulk d + uptoBulkAll r
def uptoBulkEntries {H : Type} : List (Lit × DataW H) → Nat
  | [] => 0
  | x :: r => uptoBulkEntry x + uptoBulkEntries r
def uptoBulkEntry {H : Type} : Lit × DataW H → Nat
  | (.string bytes, d) => bytes.length + uptoBulk d + 1
  | (_, d) => uptoBulk d + 1
 end
def uptoSmall : (H : Type) → List (DataW H) → Bool := fun _ ds => decide (uptoBulkAll ds ≤ 1048576)
def OpenSpec.upto (s : _root_.Go.ChangeSpec) : _root_.Go.OpenSpec := { _root_.Go.OpenSpec.ofChange s with cond := some uptoSmall }

/-- 'incunablelaw15.JudgeSteps', WHERE WHAT IT READS IS OF BULK AT MOST 1048576: true; the input reads as it did. -/
def judgeStepsUptoRow : OpenClaim := { program := "ytmgaenfimhdlpaa", sum := "1463f2675f9cc8e328939cb209de303df87cd0b269973de3a0d5a38e626a2a64", func := "incunable/incunablelaw15.JudgeSteps", spec := "judgeSteps", apart := false, narrowed := true }
def JudgeStepsUptoSaid : Prop := judgeStepsUptoRow.holds Try.pinned (OpenSpec.upto judgeStepsSpec)

/-- 'incunablelaw15.JudgeFits', WHERE WHAT IT READS IS OF BULK AT MOST 1048576: true; the input reads as it did. -/
def judgeFitsUptoRow : OpenClaim := { program := "ytmgaenfimhdlpaa", sum := "1463f2675f9cc8e328939cb209de303df87cd0b269973de3a0d5a38e626a2a64", func := "incunable/incunablelaw15.JudgeFits", spec := "judgeFits", apart := false, narrowed := true }
def JudgeFitsUptoSaid : Prop := judgeFitsUptoRow.holds Try.pinned (OpenSpec.upto judgeFitsSpec)

/-- 'incunablelaw15.JudgeErases', WHERE WHAT IT READS IS OF BULK AT MOST 1048576: true; the input reads as it did. -/
def judgeErasesUptoRow : OpenClaim := { program := "ytmgaenfimhdlpaa", sum := "1463f2675f9cc8e328939cb209de303df87cd0b269973de3a0d5a38e626a2a64", func := "incunable/incunablelaw15.JudgeErases", spec := "judgeErases", unfollowed := true, recurses := true, apart := false, narrowed := true }
def JudgeErasesUptoSaid : Prop := judgeErasesUptoRow.holds Try.pinned (OpenSpec.upto judgeErasesSpec)

end Rows
end Go.Proofs.Ytmgaenfimhdlpaa
