/-
  The walk of the law GeomTells over the landed code: its six ways together.
-/
import Derived.Test.YtkbjbgbngkidjaaGeomTellsA
import Derived.Test.YtkbjbgbngkidjaaGeomTellsB
import Derived.Test.YtkbjbgbngkidjaaGeomTellsC
import Derived.Test.YtkbjbgbngkidjaaGeomTellsD
import Derived.Test.YtkbjbgbngkidjaaGeomTellsE
namespace Go.Proofs.Ytkbjbgbngkidjaa
open Go.RowKit

theorem GeomTells_walk (g : Gm) (x y z : Int) (w : World) :
    Calls Try.prog 3 #[g.val, .agg #[.int .i64 x, .int .i64 y, .int .i64 z]] w (Gives (.bool true) w) := by
  cases ho : g.ok
  · exact GeomTells_no g x y z w ho
  · by_cases h1 : x < 0
    · exact GeomTells_D g x y z w ho h1
    · by_cases h2 : x < g.b
      · by_cases h3 : y < 0
        · exact GeomTells_B g x y z w ho ⟨by omega, h2⟩ h3
        · by_cases h4 : y < g.s
          · exact GeomTells_A g x y z w ho ⟨by omega, h2⟩ ⟨by omega, h4⟩
          · exact GeomTells_C g x y z w ho ⟨by omega, h2⟩ (by omega)
      · exact GeomTells_E g x y z w ho (by omega)
end Go.Proofs.Ytkbjbgbngkidjaa
