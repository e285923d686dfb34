/-
  Contract of bits.Count, over the landed code.
-/
import Derived.Test.YthfhbplelomnpaaGreatChipStillJ3
import Derived.Test.YthfhbplelomnpaaGreatOnes8
namespace Go.Proofs.YthfhbplelomnpaaGreat
open Go.RowKit
set_option maxRecDepth 100000

end Go.Proofs.YthfhbplelomnpaaGreat

/-
  Contract of bits.Zeros, over the landed code.
-/
namespace Go.Proofs.YthfhbplelomnpaaGreat
open Go.RowKit
set_option maxRecDepth 100000

end Go.Proofs.YthfhbplelomnpaaGreat
