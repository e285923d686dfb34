/-
  Contracts over cycles and letters: cycle.Right; the law's function right; the document's letter and digit.
-/
import Derived.Test.YtkhdbfklfkkodaaInfo
import Derived.Test.YtkhdbfklfkkodaaCycMem
namespace Go.Proofs.Ytkhdbfklfkkodaa
open Go.RowKit
set_option maxRecDepth 100000

theorem info_cycle : (Try.prog.info? 38).map (fun i => (i.zero, i.size, i.bytes)) = some (some (.agg #[.int .i64 0, .int .u8 0]), 2, 16) := by kernel_rfl

end Go.Proofs.Ytkhdbfklfkkodaa
