/-
  Contract of bits.Count, over the landed code.
-/
import Derived.Test.YtmdgfnfhajncjaaGreatWireSameJ3
import Derived.Test.YtmdgfnfhajncjaaGreatOnes8
namespace Go.Proofs.YtmdgfnfhajncjaaGreat
open Go.RowKit
set_option maxRecDepth 100000

end Go.Proofs.YtmdgfnfhajncjaaGreat

/-
  Contract of bits.Zeros, over the landed code.
-/
namespace Go.Proofs.YtmdgfnfhajncjaaGreat
open Go.RowKit
set_option maxRecDepth 100000

end Go.Proofs.YtmdgfnfhajncjaaGreat
