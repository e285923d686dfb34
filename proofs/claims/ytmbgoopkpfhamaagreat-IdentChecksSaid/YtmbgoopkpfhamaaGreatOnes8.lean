/-
  Contract of math/bits' OnesCount8 over the landed code's translation: what it returns for a byte; memory is as it was.
-/
import Derived.Test.YtmbgoopkpfhamaaGreatChecked
import Derived.Lib.Strings
import Derived.Lib.Slices
import Derived.Lib.Small
import Derived.Lib.Walk
import Derived.Lib.BitFns
namespace Go.Proofs.YtmbgoopkpfhamaaGreat

end Go.Proofs.YtmbgoopkpfhamaaGreat
