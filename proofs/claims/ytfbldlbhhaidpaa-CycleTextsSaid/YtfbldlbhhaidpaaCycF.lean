/-
  Contracts of cycle's fits, faultAt and read, over the landed code.
-/
import Derived.Test.YtfbldlbhhaidpaaCycA
import Derived.Test.YtfbldlbhhaidpaaIndexByte
namespace Go.Proofs.Ytfbldlbhhaidpaa
open Go.RowKit
set_option maxRecDepth 100000

theorem idx_letters_lt : ∀ v, v < 256 → idxB [99, 97, 119, 114] v = letK v - 1 := by decide +kernel
theorem idx_letters {v : Nat} (h : v < 256) : idxB (bl ⟨#[99, 97, 119, 114]⟩) v = letK v - 1 := idx_letters_lt v h
theorem idx_digits_lt : ∀ v, v < 256 → idxB [48, 49, 50, 51, 52, 53, 54, 55, 56, 57, 97, 98, 99, 100, 101, 102] v = digI v := by decide +kernel
theorem idx_digits {v : Nat} (h : v < 256) : idxB (bl ⟨#[48, 49, 50, 51, 52, 53, 54, 55, 56, 57, 97, 98, 99, 100, 101, 102]⟩) v = digI v := idx_digits_lt v h

set_option maxHeartbeats 400000 in
theorem fits_any (v p : Nat) (w : World) (hv : v < 256) (hp : p < 4) :
    Calls Try.prog 27 #[.int .u8 (v : Int), .int .i64 (p : Int)] w fun e w' => e = .returned (.bool (fitB v p)) ∧ w = w' := by
  by_cases h0 : p = 0
  · subst h0
    have HE := Lib.hid (show decide ((1 : Int) ≤ letK v) = fitB v 0 by
      have := letK_bd v
      unfold fitB
      rw [if_pos rfl, Bool.eq_iff_iff, decide_eq_true_eq, bne_iff_ne]
      omega)
    go_enter Try.func27, Try.ntmps27
    go_wp2_with (go_at_call 28; refine (IndexByte_is _ _ _ hv).mono ?_; rintro e w' ⟨rfl, rfl⟩; rw [idx_letters hv])
    go_ret
    exact ⟨ret_bool HE.out, rfl⟩
  · have e0 : ((p : Int) == 0) = false := beq_eq_false_iff_ne.2 (by omega)
    by_cases h3 : p = 3
    · subst h3
      have HE := Lib.hid (show ((v : Int) == 32) = fitB v 3 by
        unfold fitB
        rw [if_neg (by omega), if_pos rfl, Bool.eq_iff_iff, beq_iff_eq, beq_iff_eq]
        omega)
      go_enter Try.func27, Try.ntmps27
      go_wp2
      go_ret
      exact ⟨ret_bool HE.out, rfl⟩
    · have e3 : ((p : Int) == 3) = false := beq_eq_false_iff_ne.2 (by omega)
      have HE := Lib.hid (show decide ((0 : Int) ≤ digI v) = fitB v p by
        unfold fitB
        rw [if_neg h0, if_neg h3])
      go_enter Try.func27, Try.ntmps27
      go_wp2_with (go_at_call 28; refine (IndexByte_is _ _ _ hv).mono ?_; rintro e w' ⟨rfl, rfl⟩; rw [idx_digits hv])
      go_ret
      exact ⟨ret_bool HE.out, rfl⟩
end Go.Proofs.Ytfbldlbhhaidpaa
