/-
  Contract of math/bits' OnesCount16 over the landed code's translation: what it returns; memory is as it was.
-/
import Derived.Test.YtgiihdeilkiphaaChecked
import Derived.Lib.Strings
import Derived.Lib.Slices
import Derived.Lib.Small
import Derived.Lib.Walk
import Derived.Lib.BitFns
import Derived.RegionTactic
import Derived.Deep.Draws
import Derived.Laws.BitsAllLaws
namespace Go.Proofs.Ytgiihdeilkiphaa

set_option maxRecDepth 100000 in
theorem ones16_any (x : Nat) (w : World) (h1 : x < 65536) :
    Calls Try.prog 92 #[.int .u16 (x : Int)] w fun e w' => e = .returned (.int .i64 ((Lib.onesCount (x % 256) + Lib.onesCount (x / 256 % 256) : Nat) : Int)) ∧ ∃ n, w' = w.drewN n := by
  have a1 : (0 : Int) ≤ (x : Int) / 256 := by omega
  have a2 : (x : Int) / 256 ≤ 255 := by omega
  have e : Go.bits .and .u16 (x : Int) 255 = (x : Int) % 256 := by
    have h := u16_and_nat x 255 h1 (by omega)
    rw [show x &&& 255 = x % 256 from Nat.and_two_pow_sub_one_eq_mod x 8] at h
    exact h
  have p1 : Lib.pop8 ((x : Int) / 256) = (Lib.onesCount (x / 256 % 256) : Int) := by
    have h := Lib.pop8_eq ⟨x / 256 % 256, by omega⟩
    rw [← h]
    congr 1
    simp only
    omega
  have p2 : Lib.pop8 ((x : Int) % 256) = (Lib.onesCount (x % 256) : Int) := by
    have h := Lib.pop8_eq ⟨x % 256, by omega⟩
    rw [← h]
    congr 1
  have l1 := Lib.onesCount_le8 ⟨x / 256 % 256, by omega⟩
  have l2 := Lib.onesCount_le8 ⟨x % 256, by omega⟩
  simp only at l1 l2
  generalize Lib.onesCount (x / 256 % 256) = A at *
  generalize Lib.onesCount (x % 256) = B at *
  go_enter Try.func92, Try.ntmps92
  go_wp2
  go_region
  all_goals
    go_wp2
    go_ret
    refine ⟨congrArg Ending.returned (congrArg (Value.int IntKind.i64) ?_), 1, rfl⟩
    simp only [IntKind.wrap, IntKind.bits, IntKind.signed]
    simp
    omega
end Go.Proofs.Ytgiihdeilkiphaa
