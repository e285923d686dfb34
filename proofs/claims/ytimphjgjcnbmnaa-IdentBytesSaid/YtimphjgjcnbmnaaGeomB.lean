/-
  Contracts of geom.Check, Data, Raw, Row, Split, Plane, over the landed code.
-/
import Derived.Test.YtimphjgjcnbmnaaGeomK
import Derived.Test.YtimphjgjcnbmnaaGeomBel
namespace Go.Proofs.Ytimphjgjcnbmnaa
open Go.RowKit
set_option maxRecDepth 100000

end Go.Proofs.Ytimphjgjcnbmnaa
