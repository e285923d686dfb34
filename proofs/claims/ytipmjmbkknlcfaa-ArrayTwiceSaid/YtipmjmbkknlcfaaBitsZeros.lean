/-
  Contract of bits.Zeros, over the landed code.
-/
import Derived.Test.YtipmjmbkknlcfaaBitsCount
namespace Go.Proofs.Ytipmjmbkknlcfaa
open Go.RowKit
set_option maxRecDepth 100000

theorem Zeros_any (A : Option Addr) (n c : Nat) (l : List Nat) (w : World) (hr : R8 w A n l) (hn : n ≤ 1099511627776) :
    Calls Try.prog 27 #[.slice A n c] w fun e w' => e = .returned (.int .i64 (8 * (n : Int) - (ones l : Int))) ∧ w = w' := by
  have ho : ones l ≤ 8 * n := by have := ones_le l hr.2; rw [hr.len] at this; exact this
  have HR := Lib.hid hr
  clear hr
  go_enter Try.func27, Try.ntmps27
  go_wp2_with (go_at_call 45; refine (Count_any _ _ _ l _ HR.out hn).mono ?_; rintro e w' ⟨rfl, rfl⟩)
  go_ret
  exact ⟨ret_int (by omega), rfl⟩
end Go.Proofs.Ytipmjmbkknlcfaa
