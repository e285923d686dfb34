/-
  Contract of bits.Flip, over the landed code.
-/
import Derived.Test.YtipmjmbkknlcfaaBitsHas
import Derived.Test.YtipmjmbkknlcfaaClone
import Derived.StillTailTactics
namespace Go.Proofs.Ytipmjmbkknlcfaa
open Go.RowKit
set_option maxRecDepth 100000

theorem OwnsB.makes {e0 : TypeId} {l : List Nat} {w w' : World} {e : Ending} (h : OwnsB e0 l w e w') (hl : ∀ x ∈ l, x < 256) : MakesB l w e w' := by
  obtain ⟨A, c, he, ho, hb⟩ := h
  exact ⟨A, c, he, ⟨Rd.own ho, hl⟩, hb⟩

end Go.Proofs.Ytipmjmbkknlcfaa
