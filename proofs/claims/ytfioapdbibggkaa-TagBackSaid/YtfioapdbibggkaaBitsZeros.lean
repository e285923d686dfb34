/-
  Contract of bits.Zeros, over the landed code.
-/
import Derived.Test.YtfioapdbibggkaaBitsCount
namespace Go.Proofs.Ytfioapdbibggkaa
open Go.RowKit

theorem Zeros_any (A : Option Addr) (n c : Nat) (l : List Nat) (w : World) (hr : R8 w A n l) (hn : n ≤ 1099511627776) :
    Calls Try.prog 16 #[.slice A n c] w fun e w' => e = .returned (.int .i64 (8 * (n : Int) - (ones l : Int))) ∧ w = w' := by
  have ho : ones l ≤ 8 * n := by have := ones_le l hr.2; rw [hr.len] at this; exact this
  have HR := Lib.hid hr
  clear hr
  go_enter Try.func16, Try.ntmps16
  go_wp2_with (go_at_call 26; refine (Count_any _ _ _ l _ HR.out hn).mono ?_; rintro e w' ⟨rfl, rfl⟩)
  go_ret
  exact ⟨ret_int (by omega), rfl⟩
end Go.Proofs.Ytfioapdbibggkaa
