/-
  What a call returns that hands back a slice of bytes with room for them. Of no program.
-/
import Derived.Test.YtipmjmbkknlcfaaOwn
namespace Go.Proofs.Ytipmjmbkknlcfaa
open Go.RowKit

/-- It returns a slice of the bytes l, with room for them, and nothing that was there has turned. -/
def MakesC (l : List Nat) (w : World) (e : Ending) (w' : World) : Prop := ∃ A c, e = .returned (.slice A l.length c) ∧ R8 w' A l.length l ∧ l.length ≤ c ∧ Below w.heap.size w w'
theorem MakesC.at_ {l : List Nat} {w w' : World} {e : Ending} {n : Nat} (h : MakesC l w e w') (hl : l.length = n) : ∃ A c, e = .returned (.slice A n c) ∧ Hid (R8 w' A n l) ∧ n ≤ c ∧ Hid (Below w.heap.size w w') := by
  subst hl
  exact h
/-- It returns a slice of the bytes l at the head of a new block, with room for them, and nothing that was there has turned. -/
def MakesF (l : List Nat) (w : World) (e : Ending) (w' : World) : Prop :=
  ∃ g c cur u, e = .returned (.slice (some ⟨g, 0, none⟩) l.length c) ∧ w.heap.size ≤ g ∧ w'.heap[g]? = some (.cells cur u (0, 0)) ∧ R8 w' (some ⟨g, 0, none⟩) l.length l ∧ l.length ≤ c ∧ Below w.heap.size w w'
theorem MakesF.makes {l : List Nat} {w w' : World} {e : Ending} (h : MakesF l w e w') : MakesC l w e w' := by
  obtain ⟨g, c, _, _, he, _, _, hr, hc, hb⟩ := h
  exact ⟨_, c, he, hr, hc, hb⟩
end Go.Proofs.Ytipmjmbkknlcfaa
