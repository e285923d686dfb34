/-
  Contract of bits.Count, over the landed code.
-/
import Derived.Test.YtlalghhaibknfaaGreatChipResetsJ3
import Derived.Test.YtlalghhaibknfaaGreatOnes8
namespace Go.Proofs.YtlalghhaibknfaaGreat
open Go.RowKit
set_option maxRecDepth 100000

end Go.Proofs.YtlalghhaibknfaaGreat

/-
  Contract of bits.Zeros, over the landed code.
-/
namespace Go.Proofs.YtlalghhaibknfaaGreat
open Go.RowKit
set_option maxRecDepth 100000

end Go.Proofs.YtlalghhaibknfaaGreat
