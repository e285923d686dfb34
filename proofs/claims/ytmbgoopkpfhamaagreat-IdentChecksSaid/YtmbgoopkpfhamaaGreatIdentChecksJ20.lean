/-
  Contract of bits.Count, over the landed code.
-/
import Derived.Test.YtmbgoopkpfhamaaGreatIdentChecksJ3
import Derived.Test.YtmbgoopkpfhamaaGreatOnes8
namespace Go.Proofs.YtmbgoopkpfhamaaGreat
open Go.RowKit
set_option maxRecDepth 100000
end Go.Proofs.YtmbgoopkpfhamaaGreat
