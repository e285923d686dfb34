/-
  Contract of math/bits.Mul of one and a number, over the landed code's translation.
-/
import Derived.Test.YtipmjmbkknlcfaaInfo
import Derived.Laws.Bits64b
namespace Go.Proofs.Ytipmjmbkknlcfaa
open Go.RowKit
set_option maxRecDepth 100000

theorem low32 (n : Nat) (hn : n < 4294967296) : Go.bits .and .u64 (n : Int) 4294967295 = (n : Int) := by
  have h := bits_and_u64_nat n 4294967295 (by omega) (by omega)
  rw [show n &&& 4294967295 = n % 4294967296 from Nat.and_two_pow_sub_one_eq_mod n 32, Nat.mod_eq_of_lt hn] at h
  exact h
set_option maxHeartbeats 400000 in
theorem Mul64_one (n : Nat) (w : World) (hn : n < 4294967296) :
    Calls Try.prog 60 #[.int .u64 1, .int .u64 (n : Int)] w fun e w' => e = .returned (.tuple #[.int .u64 0, .int .u64 (n : Int)]) ∧ w = w' := by
  have h1 : Go.bits .and .u64 1 4294967295 = 1 := by decide +kernel
  have h2 := low32 n hn
  have h3 : (n : Int) / 4294967296 = 0 := by omega
  have h4 : Go.bits .and .u64 0 4294967295 = 0 := by decide +kernel
  go_enter Try.func60, Try.ntmps60
  go_wp2
  go_ret2
  exact ⟨rfl, rfl⟩
set_option maxHeartbeats 400000 in
theorem Mul_one (n : Nat) (w : World) (hn : n < 4294967296) :
    Calls Try.prog 55 #[.int .u64 1, .int .u64 (n : Int)] w fun e w' => e = .returned (.tuple #[.int .u64 0, .int .u64 (n : Int)]) ∧ w = w' := by
  have hM := Mul64_one n w hn
  go_enter Try.func55, Try.ntmps55
  go_wp2_with fail
  refine hM.mono ?_
  rintro _ w1 ⟨rfl, rfl⟩
  go_wp2
  go_ret2
  exact ⟨rfl, rfl⟩
end Go.Proofs.Ytipmjmbkknlcfaa
