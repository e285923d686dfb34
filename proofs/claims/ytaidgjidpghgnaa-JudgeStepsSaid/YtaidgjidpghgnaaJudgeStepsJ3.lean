/-
  The sizes of bytes and ints, over the landed code's translation.
-/
import Derived.Test.YtaidgjidpghgnaaChecked
import Derived.WalkKit
import Derived.WalkSpells
import Derived.WalkLawsBesides
import Derived.Deep.QuietTactic
import Derived.BigQuiet
import Derived.Laws.BitsAllLaws
import Derived.Laws.BitsLemmas
import Derived.Lib.LazyBuf
import Derived.OwnWalk
import Derived.RegionTactic
import Derived.ChangeAlike
import Derived.Test.YtaidgjidpghgnaaJudgeStepsJ1
import Derived.Test.YtaidgjidpghgnaaJudgeStepsJ2
namespace Go.Proofs.Ytaidgjidpghgnaa
open Go.RowKit

theorem info_u8 : (Try.prog.info? 5).map (fun i => (i.zero, i.size, i.bytes)) = some (some (.int .u8 0), 1, 1) := by kernel_rfl

theorem info_int : (Try.prog.info? 3).map (fun i => (i.zero, i.size, i.bytes)) = some (some (.int .i64 0), 1, 8) := by kernel_rfl
end Go.Proofs.Ytaidgjidpghgnaa

/-
  Contract of the document's Same (package incunableref01), over the landed code's translation.
-/
namespace Go.Proofs.Ytaidgjidpghgnaa
open Go.RowKit
set_option maxRecDepth 100000

end Go.Proofs.Ytaidgjidpghgnaa

/-
  Contract of geom.below, over the landed code.
-/
namespace Go.Proofs.Ytaidgjidpghgnaa
open Go.RowKit
set_option maxRecDepth 100000

theorem below_any (n m : Int) (w : World) :
  Calls Try.prog 42 #[.int .i64 n, .int .i64 m] w fun e w' => e = .returned (.bool (decide (0 ≤ n ∧ n < m))) ∧ w = w' := by
 by_cases h1 : 0 ≤ n
 ·
  by_cases h2 : n < m
  ·
   go_enter Try.func42, Try.ntmps42
   go_wp2
   go_ret
   exact ⟨ret_bool (by simp [h1, h2]), rfl⟩
  ·
   have hF : decide (0 ≤ n ∧ n < m) = false := decide_eq_false (by omega)
   have h2' : m ≤ n := by omega
   rw [hF]
   clear hF
   go_enter Try.func42, Try.ntmps42
   go_wp2
   go_ret
   exact ⟨rfl, rfl⟩
 ·
  have hF : decide (0 ≤ n ∧ n < m) = false := decide_eq_false (by omega)
  have h1' : n < 0 := by omega
  rw [hF]
  clear hF
  go_enter Try.func42, Try.ntmps42
  go_wp2
  go_ret
  exact ⟨rfl, rfl⟩
end Go.Proofs.Ytaidgjidpghgnaa
