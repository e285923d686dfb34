/-
  What the contracts of fields say at a length that is known; a slice of one int.
-/
import Derived.Test.YtfioapdbibggkaaPackF
namespace Go.Proofs.Ytfioapdbibggkaa
open Go.RowKit

theorem PutsB.at_ {l : List Nat} {er : Int} {w w' : World} {e : Ending} {n : Nat} (h : PutsB l er w e w') (hl : l.length = n) :
    ∃ A c, e = .returned (.tuple #[.slice A n c, .int .i64 er]) ∧ Hid (R8 w' A n l) ∧ Hid (Below w.heap.size w w') ∧ n ≤ c ∧ Hid (A = none → c = 0) := by
  subst hl
  exact h
theorem TakesI.at_ {l : List Int} {er : Int} {w w' : World} {e : Ending} {n : Nat} (h : TakesI l er w e w') (hl : l.length = n) :
    ∃ A c, e = .returned (.tuple #[.slice A n c, .int .i64 er]) ∧ Hid (R64 w' A n l) ∧ Hid (Below w.heap.size w w') ∧ n ≤ c ∧ Hid (A = none → c = 0) := by
  subst hl
  exact h
theorem R64.one {w : World} {g : Nat} {x : Int} (h : w.cell? ⟨g, 0, none⟩ = some (.int .i64 x)) (h1 : -9223372036854775808 ≤ x) (h2 : x ≤ 9223372036854775807) : R64 w (some ⟨g, 0, none⟩) 1 [x] := by
  refine ⟨⟨rfl, fun _ => ⟨g, 0, rfl, World.block_lt_of_cell? w _ h, fun j hj => ?_⟩⟩, by intro y hy; simp at hy; subst hy; exact ⟨h1, h2⟩⟩
  match j, hj with
  | 0, _ => simpa [I64] using h
end Go.Proofs.Ytfioapdbibggkaa
