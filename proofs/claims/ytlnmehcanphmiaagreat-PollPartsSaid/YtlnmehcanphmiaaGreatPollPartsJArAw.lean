/-
  Contracts of stage 13's plain, Small, awake, over the landed code.
-/
import Derived.Laws.ResultCell
import Derived.Test.YtlnmehcanphmiaaGreatPollPartsJ14
import Derived.Test.YtlnmehcanphmiaaGreatPollPartsJ6
import Derived.Test.YtlnmehcanphmiaaGreatPollPartsJ17
namespace Go.Proofs.YtlnmehcanphmiaaGreat
open Go.RowKit
set_option maxRecDepth 100000

def geo2 : Gm := ⟨1, 2, 4, 1, 4, 1, 1⟩
/-- Small enough for a play. -/
def small13 (g : Gm) : Prop := smallG g ∧ g.b ≤ 16 ∧ g.s ≤ 12
end Go.Proofs.YtlnmehcanphmiaaGreat
