/-
  Contract of geom.below, over the landed code.
-/
import Derived.Test.YtimphjgjcnbmnaaInfo
namespace Go.Proofs.Ytimphjgjcnbmnaa
open Go.RowKit
set_option maxRecDepth 100000

end Go.Proofs.Ytimphjgjcnbmnaa
