/-
  The document's Same of bytes that are the same.
-/
import Derived.Test.YtipmjmbkknlcfaaSame
namespace Go.Proofs.Ytipmjmbkknlcfaa
open Go.RowKit
set_option maxRecDepth 100000

theorem Same_gives (A B : Option Addr) (n c m d : Nat) (a : List Nat) (w : World) (ha : R8 w A n a) (hb : R8 w B m a) (hn : n ≤ 1099511627776) (hm : m ≤ 1099511627776) :
    Calls Try.prog 25 #[.slice A n c, .slice B m d] w (Gives (.bool true) w) := by
  refine (Same_any A B n c m d a a w ha hb hn hm).mono ?_
  rintro _ w' ⟨rfl, k, rfl⟩
  rw [decide_eq_true rfl]
  exact ⟨rfl, rfl, rfl, rfl, Nat.le_refl _, fun _ _ => rfl⟩
end Go.Proofs.Ytipmjmbkknlcfaa
