/-
  Contracts of hamming.powerOfTwo, Place, Bit, over the landed code.
-/
import Derived.Test.YtgiihdeilkiphaaLadderFitsJ3
import Derived.Test.YtgiihdeilkiphaaIntBits
import Derived.Test.YtgiihdeilkiphaaLadderFitsJ2
import Derived.Test.YtgiihdeilkiphaaLadderFitsJ8
namespace Go.Proofs.Ytgiihdeilkiphaa
open Go.RowKit
set_option maxRecDepth 100000

theorem powerOfTwo_any (n : Nat) (w : World) (h0 : 1 ≤ n) (h1 : n < 4611686018427387904) :
    Calls Try.prog 93 #[.int .i64 (n : Int)] w fun e w' => e = .returned (.bool (powB n)) ∧ w = w' := by
  have HP := Lib.hid (and_pred_b n h0)
  have HB := Lib.hid (show Go.bits .and .i64 (n : Int) ((n : Int) - 1) = ((n &&& (n - 1) : Nat) : Int) by
    rw [← i64_and_nat n (n - 1) (by omega) (by omega)]
    congr 1
    omega)
  go_enter Try.func93, Try.ntmps93
  go_wp2
  go_ret
  exact ⟨ret_bool (by rw [HB.out]; exact HP.out), rfl⟩

theorem powerOfTwo_is (x : Int) (n : Nat) (v : Bool) (w : World) (hx : x = (n : Int)) (hv : powB n = v) (h0 : 1 ≤ n) (h1 : n < 4611686018427387904) :
    Calls Try.prog 93 #[.int .i64 x] w fun e w' => e = .returned (.bool v) ∧ w = w' := by
  subst hx hv
  exact powerOfTwo_any n w h0 h1
theorem ret_two {k : IntKind} {a b : Int} {v : Value} (h : a = b) : Ending.returned (.tuple #[.int k a, v]) = .returned (.tuple #[.int k b, v]) := by rw [h]

theorem pow2_grow (j : Nat) : j + 2 ≤ 2 ^ (j + 1) := by
  induction j with
  | zero => decide
  | succ j ih => rw [Nat.pow_succ]; omega
theorem Place_any (k : Nat) (w : World) (h : k ≤ 1048576) :
    Calls Try.prog 95 #[.int .i64 (k : Int)] w fun e w' => e = .returned (.int .i64 (place k : Int)) ∧ w = w' := by
  go_enter Try.func95, Try.ntmps95
  go_wp2
  go_loop [3, 4] (fun p q => ∃ j M P : Nat, p = .int .i64 (M : Int) ∧ q = .int .i64 (P : Int) ∧ M = 3 + k + j ∧ Hid (P = 2 ^ (j + 2)) ∧ 4 ≤ P ∧ P < 2 * M ∧ j < 100) (fun p q => ((intOf p) + 2 - intOf q).toNat)
  case atStart => exact ⟨0, 3 + k, 4, by go_num, rfl, by omega, rfl, by omega, by omega, by omega⟩
  case round =>
    obtain ⟨j, M, P, rfl, rfl, hM, HP, h4, hlt, hj⟩ := hrel
    have hj2 : j < 64 := by
      have := HP.out
      rcases Nat.lt_or_ge j 64 with h | h
      · exact h
      · have : 2 ^ (64 + 2) ≤ 2 ^ (j + 2) := Nat.pow_le_pow_right (by omega) (by omega)
        omega
    by_cases hle : P ≤ M
    · go_wp2
      go_round
      case rel => exact ⟨j + 1, M + 1, 2 * P, by go_num, by go_num, by omega, by have := HP.out; rw [this]; simp only [Hid]; rw [Nat.pow_succ 2 (j + 2)]; omega, by omega, by omega, by omega⟩
      case measure => simp [intOf]; omega
    · have HC := Lib.hid (place_climb k j (by have := HP.out; rw [Nat.pow_succ] at this; omega) (by have := HP.out; omega))
      have hle2 : M < P := by omega
      go_wp2
      go_ret
      exact ⟨ret_int (by rw [HC.out]; omega), rfl⟩
theorem Place_no (k : Int) (w : World) (h : k < 0 ∨ 1048576 < k) :
    Calls Try.prog 95 #[.int .i64 k] w fun e w' => e = .returned (.int .i64 0) ∧ w = w' := by
  rcases h with h | h
  · have hd : decide (k < 0) = true := decide_eq_true h
    go_enter Try.func95, Try.ntmps95
    go_wp2
    go_ret
    exact ⟨rfl, rfl⟩
  · have hd : decide (k < 0) = false := decide_eq_false (by omega)
    go_enter Try.func95, Try.ntmps95
    go_wp2
    go_ret
    exact ⟨rfl, rfl⟩

/-- Is a number the position of a bit that Bit tells? -/
def isPlace (p : Int) : Prop := 3 ≤ p ∧ p ≤ 2097152 ∧ powB p.toNat = false
theorem Bit_is (p : Nat) (w : World) (h3 : 3 ≤ p) (h21 : p ≤ 2097152) (hp : powB p = false) :
    Calls Try.prog 94 #[.int .i64 (p : Int)] w fun e w' => e = .returned (.tuple #[.int .i64 ((p - 2 - p.log2 : Nat) : Int), .bool true]) ∧ w = w' := by
  have hL := len_any (p : Int) w (by omega) (by omega)
  rw [Int.toNat_natCast, bitLen_log p (by omega) (by omega)] at hL
  have hl : p.log2 + 2 ≤ p := by
    obtain ⟨k, _, e⟩ := place_of p h3 hp
    omega
  have hP := powerOfTwo_any p w (by omega) (by omega)
  rw [hp] at hP
  generalize p.log2 = g at *
  go_enter Try.func94, Try.ntmps94
  go_wp2_with (first | (go_at_call 93; refine hP.mono ?_; rintro e w' ⟨rfl, rfl⟩) | (go_at_call 96; refine hL.mono ?_; rintro e w' ⟨rfl, rfl⟩))
  go_ret2
  exact ⟨ret_two (by omega), rfl⟩
theorem Bit_not (p : Int) (w : World) (h0 : -9223372036854775808 ≤ p) (h1 : p ≤ 9223372036854775807) (h : p < 3 ∨ 2097152 < p ∨ powB p.toNat = true) :
    Calls Try.prog 94 #[.int .i64 p] w fun e w' => e = .returned (.tuple #[.int .i64 0, .bool false]) ∧ w = w' := by
  by_cases h3 : p < 3
  · have hd : decide (p < 3) = true := decide_eq_true h3
    clear h
    go_enter Try.func94, Try.ntmps94
    go_wp2
    go_ret2
    exact ⟨rfl, rfl⟩
  · have hd : decide (p < 3) = false := decide_eq_false h3
    by_cases h21 : 2097152 < p
    · have hd2 : decide (2097152 < p) = true := decide_eq_true h21
      clear h
      go_enter Try.func94, Try.ntmps94
      go_wp2
      go_ret2
      exact ⟨rfl, rfl⟩
    · have hd2 : decide (2097152 < p) = false := decide_eq_false h21
      obtain ⟨q, rfl⟩ := Int.eq_ofNat_of_zero_le (show 0 ≤ p by omega)
      have hP := powerOfTwo_any q w (by omega) (by omega)
      have hq : powB q = true := by
        rcases h with h | h | h
        · omega
        · omega
        · simpa using h
      rw [hq] at hP
      clear h
      go_enter Try.func94, Try.ntmps94
      go_wp2_with (first | (go_at_call 93; refine hP.mono ?_; rintro e w' ⟨rfl, rfl⟩))
      go_ret2
      exact ⟨rfl, rfl⟩
end Go.Proofs.Ytgiihdeilkiphaa

/-
  Contract of bits.Count, over the landed code.
-/
namespace Go.Proofs.Ytgiihdeilkiphaa
open Go.RowKit
set_option maxRecDepth 100000

set_option maxHeartbeats 400000 in
theorem Count_any (A : Option Addr) (n c : Nat) (l : List Nat) (w : World) (hr : R8 w A n l) (hn : n ≤ 1099511627776) :
    Calls Try.prog 68 #[.slice A n c] w fun e w' => e = .returned (.int .i64 (ones l : Int)) ∧ w = w' := by
  have hl := Lib.hid hr.len
  go_enter Try.func68, Try.ntmps68
  go_wp2
  go_loop [3, 8] (fun t i => ∃ k : Nat, k ≤ n ∧ i = .int .i64 k ∧ t = .int .i64 (ones (l.take k) : Int)) (fun _ i => n - (intOf i).toNat)
  case atStart => exact ⟨0, Nat.zero_le _, rfl, rfl⟩
  case round =>
    obtain ⟨k, hk, rfl, rfl⟩ := hrel
    have ho : ones (l.take k) ≤ 8 * k := by
      have := ones_le (l.take k) (fun x hx => hr.2 x (List.mem_of_mem_take hx))
      have := List.length_take_le k l
      omega
    by_cases hlt : k < n
    · obtain ⟨b, off, x, rfl, hb, HX, hx, hc⟩ := hr.at_ hlt
      have ho2 := popc_le x hx
      have HS := Lib.hid (show ones (l.take (k + 1)) = ones (l.take k) + Lib.onesCount x by rw [take_snoc HX.out, ones_snoc])
      go_wp2_with (go_at_call 82; refine (ones8_any _ _ (by omega) (by omega)).mono ?_; rintro e w' ⟨rfl, rfl⟩)
      go_round
      case rel => exact ⟨k + 1, by omega, by go_num, by rw [HS.out]; go_num⟩
      case measure => simp [intOf]; omega
    · go_wp2
      go_ret
      exact ⟨ret_int (by rw [List.take_of_length_le (by have := hl.out; omega)]), rfl⟩
end Go.Proofs.Ytgiihdeilkiphaa

/-
  Contract of bits.Zeros, over the landed code.
-/
namespace Go.Proofs.Ytgiihdeilkiphaa
open Go.RowKit
set_option maxRecDepth 100000

theorem Zeros_any (A : Option Addr) (n c : Nat) (l : List Nat) (w : World) (hr : R8 w A n l) (hn : n ≤ 1099511627776) :
    Calls Try.prog 49 #[.slice A n c] w fun e w' => e = .returned (.int .i64 (8 * (n : Int) - (ones l : Int))) ∧ w = w' := by
  have ho : ones l ≤ 8 * n := by have := ones_le l hr.2; rw [hr.len] at this; exact this
  have HR := Lib.hid hr
  clear hr
  go_enter Try.func49, Try.ntmps49
  go_wp2_with (go_at_call 68; refine (Count_any _ _ _ l _ HR.out hn).mono ?_; rintro e w' ⟨rfl, rfl⟩)
  go_ret
  exact ⟨ret_int (by omega), rfl⟩
end Go.Proofs.Ytgiihdeilkiphaa
