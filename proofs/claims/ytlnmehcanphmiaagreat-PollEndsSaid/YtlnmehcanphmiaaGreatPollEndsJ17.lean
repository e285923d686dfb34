/-
  Contract of bits.Count, over the landed code.
-/
import Derived.Test.YtlnmehcanphmiaaGreatPollEndsJ3
import Derived.Test.YtlnmehcanphmiaaGreatOnes8
namespace Go.Proofs.YtlnmehcanphmiaaGreat
open Go.RowKit
set_option maxRecDepth 100000

end Go.Proofs.YtlnmehcanphmiaaGreat

/-
  Contract of bits.Zeros, over the landed code.
-/
namespace Go.Proofs.YtlnmehcanphmiaaGreat
open Go.RowKit
set_option maxRecDepth 100000

end Go.Proofs.YtlnmehcanphmiaaGreat
