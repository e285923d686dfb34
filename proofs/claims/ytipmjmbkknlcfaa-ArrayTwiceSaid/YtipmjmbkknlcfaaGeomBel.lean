/-
  Contract of geom.below, over the landed code.
-/
import Derived.Test.YtipmjmbkknlcfaaInfo
namespace Go.Proofs.Ytipmjmbkknlcfaa
open Go.RowKit
set_option maxRecDepth 100000

theorem below_any (n m : Int) (w : World) :
    Calls Try.prog 57 #[.int .i64 n, .int .i64 m] w fun e w' => e = .returned (.bool (decide (0 ≤ n ∧ n < m))) ∧ w = w' := by
  by_cases h1 : 0 ≤ n
  · by_cases h2 : n < m
    · go_enter Try.func57, Try.ntmps57
      go_wp2
      go_ret
      exact ⟨ret_bool (by simp [h1, h2]), rfl⟩
    · have hF : decide (0 ≤ n ∧ n < m) = false := decide_eq_false (by omega)
      have h2' : m ≤ n := by omega
      rw [hF]
      clear hF
      go_enter Try.func57, Try.ntmps57
      go_wp2
      go_ret
      exact ⟨rfl, rfl⟩
  · have hF : decide (0 ≤ n ∧ n < m) = false := decide_eq_false (by omega)
    have h1' : n < 0 := by omega
    rw [hF]
    clear hF
    go_enter Try.func57, Try.ntmps57
    go_wp2
    go_ret
    exact ⟨rfl, rfl⟩
end Go.Proofs.Ytipmjmbkknlcfaa
