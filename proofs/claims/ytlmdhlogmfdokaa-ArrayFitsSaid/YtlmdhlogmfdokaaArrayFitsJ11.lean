/-
  Contract of bits.Count, over the landed code.
-/
import Derived.Test.YtlmdhlogmfdokaaArrayFitsJ3
import Derived.Test.YtlmdhlogmfdokaaOnes8
namespace Go.Proofs.Ytlmdhlogmfdokaa
open Go.RowKit
set_option maxRecDepth 100000

set_option maxHeartbeats 400000 in
theorem Count_any (A : Option Addr) (n c : Nat) (l : List Nat) (w : World) (hr : R8 w A n l) (hn : n ≤ 1099511627776) :
    Calls Try.prog 45 #[.slice A n c] w fun e w' => e = .returned (.int .i64 (ones l : Int)) ∧ w = w' := by
  have hl := Lib.hid hr.len
  go_enter Try.func45, Try.ntmps45
  go_wp2
  go_loop [3, 8] (fun t i => ∃ k : Nat, k ≤ n ∧ i = .int .i64 k ∧ t = .int .i64 (ones (l.take k) : Int)) (fun _ i => n - (intOf i).toNat)
  case atStart => exact ⟨0, Nat.zero_le _, rfl, rfl⟩
  case round =>
    obtain ⟨k, hk, rfl, rfl⟩ := hrel
    have ho : ones (l.take k) ≤ 8 * k := by
      have := ones_le (l.take k) (fun x hx => hr.2 x (List.mem_of_mem_take hx))
      have := List.length_take_le k l
      omega
    by_cases hlt : k < n
    · obtain ⟨b, off, x, rfl, hb, HX, hx, hc⟩ := hr.at_ hlt
      have ho2 := popc_le x hx
      have HS := Lib.hid (show ones (l.take (k + 1)) = ones (l.take k) + Lib.onesCount x by rw [take_snoc HX.out, ones_snoc])
      go_wp2_with (go_at_call 54; refine (ones8_any _ _ (by omega) (by omega)).mono ?_; rintro e w' ⟨rfl, rfl⟩)
      go_round
      case rel => exact ⟨k + 1, by omega, by go_num, by rw [HS.out]; go_num⟩
      case measure => simp [intOf]; omega
    · go_wp2
      go_ret
      exact ⟨ret_int (by rw [List.take_of_length_le (by have := hl.out; omega)]), rfl⟩
end Go.Proofs.Ytlmdhlogmfdokaa

/-
  Contract of bits.Zeros, over the landed code.
-/
namespace Go.Proofs.Ytlmdhlogmfdokaa
open Go.RowKit
set_option maxRecDepth 100000

theorem Zeros_any (A : Option Addr) (n c : Nat) (l : List Nat) (w : World) (hr : R8 w A n l) (hn : n ≤ 1099511627776) :
    Calls Try.prog 27 #[.slice A n c] w fun e w' => e = .returned (.int .i64 (8 * (n : Int) - (ones l : Int))) ∧ w = w' := by
  have ho : ones l ≤ 8 * n := by have := ones_le l hr.2; rw [hr.len] at this; exact this
  have HR := Lib.hid hr
  clear hr
  go_enter Try.func27, Try.ntmps27
  go_wp2_with (go_at_call 45; refine (Count_any _ _ _ l _ HR.out hn).mono ?_; rintro e w' ⟨rfl, rfl⟩)
  go_ret
  exact ⟨ret_int (by omega), rfl⟩
end Go.Proofs.Ytlmdhlogmfdokaa
