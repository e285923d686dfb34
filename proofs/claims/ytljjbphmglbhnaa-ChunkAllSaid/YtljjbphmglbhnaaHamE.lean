/-
  Contracts of the document's Power, xor, ones (package incunableref05), over the landed code's translation.
-/
import Derived.Test.YtljjbphmglbhnaaInfo
import Derived.Test.YtljjbphmglbhnaaHamMath5
namespace Go.Proofs.Ytljjbphmglbhnaa
open Go.RowKit

theorem Power_any (n : Nat) (w : World) (h : n ≤ 4611686018427387904) :
    Calls Try.prog 35 #[.int .i64 (n : Int)] w fun e w' => e = .returned (.bool (powB n)) ∧ w = w' := by
  obtain ⟨o, ho⟩ : ∃ o, powB n = o := ⟨_, rfl⟩
  have HN := Lib.hid ho
  rw [ho]
  clear ho
  go_enter Try.func35, Try.ntmps35
  go_wp2
  go_loop [0] (fun v => ∃ m : Nat, v = .int .i64 (m : Int) ∧ m ≤ 4611686018427387904 ∧ Hid (powB m = o)) (fun v => (intOf v).toNat)
  case atStart => exact ⟨n, rfl, h, HN⟩
  case round =>
    obtain ⟨m, rfl, hm, HM⟩ := hrel
    by_cases h1 : 1 < m
    · have hd : decide ((1 : Int) < (m : Int)) = true := decide_eq_true (by omega)
      by_cases h2 : m % 2 = 0
      · have h2' : (((m : Int) % 2) == 0) = true := by simp; omega
        have HE := Lib.hid ((powB_even m h1 h2).symm.trans HM.out)
        go_wp2
        go_round
        case rel => exact ⟨m / 2, by go_num, by omega, HE⟩
        case measure => simp [intOf]; omega
      · have h2' : (((m : Int) % 2) == 0) = false := by simp; omega
        have HE := Lib.hid (show o = false by
          rw [← HM.out, powB_odd m (by omega)]
          exact decide_eq_false (by omega))
        go_wp2
        go_ret
        refine ⟨ret_bool ?_, rfl⟩
        rw [HE.out]
        simp
        omega
    · have hd : decide ((1 : Int) < (m : Int)) = false := decide_eq_false (by omega)
      have HE := Lib.hid (show o = decide (m = 1) by
        rw [← HM.out]
        have h01 : m = 0 ∨ m = 1 := by omega
        rcases h01 with rfl | rfl
        · exact powB_zero
        · exact powB_odd 1 rfl)
      go_wp2
      go_ret
      refine ⟨ret_bool ?_, rfl⟩
      rw [HE.out, Bool.eq_iff_iff, beq_iff_eq, decide_eq_true_eq]
      omega

set_option maxHeartbeats 1000000 in
theorem xor_any (a b : Nat) (w : World) (ha : a < 8192) (hb : b < 8192) :
    Calls Try.prog 34 #[.int .i64 (a : Int), .int .i64 (b : Int)] w fun e w' => e = .returned (.int .i64 ((a ^^^ b : Nat) : Int)) ∧ w = w' := by
  have HX := Lib.hid (xTo_all a b 13 ha hb)
  go_enter Try.func34, Try.ntmps34
  go_wp2
  go_loop [0, 1, 5, 6, 7] (fun x y s p i => ∃ X Y S Q I : Nat, x = .int .i64 (X : Int) ∧ y = .int .i64 (Y : Int) ∧ s = .int .i64 (S : Int) ∧ p = .int .i64 (Q : Int) ∧ i = .int .i64 (I : Int) ∧ I ≤ 13 ∧ X < 8192 ∧ Y < 8192 ∧ Q ≤ 8192 ∧ S < Q ∧ Hid (X = a / 2 ^ I ∧ Y = b / 2 ^ I ∧ S = xTo a b I ∧ Q = 2 ^ I)) (fun _ _ _ _ i => 13 - (intOf i).toNat)
  case atStart => exact ⟨a, b, 0, 1, 0, rfl, rfl, rfl, rfl, rfl, by omega, ha, hb, by omega, by omega, by simp [Hid, xTo_zero]⟩
  case round =>
    obtain ⟨X, Y, S, Q, I, rfl, rfl, rfl, rfl, rfl, hI, hX, hY, hQ, hS, HV⟩ := hrel
    by_cases hlt : I < 13
    · have hq2 : Q * 2 ≤ 8192 := by
        have := HV.out.2.2.2
        rw [this, ← Nat.pow_succ]
        exact Nat.pow_le_pow_right (n := 2) (by omega) (show I + 1 ≤ 13 by omega)
      have hs : xTo a b (I + 1) = if X % 2 = Y % 2 then S else S + Q := by
        obtain ⟨e1, e2, e3, e4⟩ := HV.out
        rw [e1, e2, e3, e4]
        exact xTo_succ a b I
      have hxx : a / 2 ^ (I + 1) = X / 2 ∧ b / 2 ^ (I + 1) = Y / 2 := by
        obtain ⟨e1, e2, _, _⟩ := HV.out
        rw [e1, e2, Nat.pow_succ, Nat.div_div_eq_div_mul, Nat.div_div_eq_div_mul]
        exact ⟨rfl, rfl⟩
      have hqq : 2 ^ (I + 1) = Q * 2 := by
        rw [HV.out.2.2.2, Nat.pow_succ]
      by_cases he : X % 2 = Y % 2
      · have he' : (((X : Int) % 2) != ((Y : Int) % 2)) = false := by simp; omega
        rw [if_pos he] at hs
        have HN := Lib.hid (show X / 2 = a / 2 ^ (I + 1) ∧ Y / 2 = b / 2 ^ (I + 1) ∧ S = xTo a b (I + 1) ∧ Q * 2 = 2 ^ (I + 1) from ⟨hxx.1.symm, hxx.2.symm, hs.symm, hqq.symm⟩)
        clear hs hxx hqq he
        go_wp2
        go_round
        case rel => exact ⟨X / 2, Y / 2, S, Q * 2, I + 1, by go_num, by go_num, rfl, by go_num, by go_num, by omega, by omega, by omega, by omega, by omega, HN⟩
        case measure => simp [intOf]; omega
      · have he' : (((X : Int) % 2) != ((Y : Int) % 2)) = true := by simp; omega
        rw [if_neg he] at hs
        have HN := Lib.hid (show X / 2 = a / 2 ^ (I + 1) ∧ Y / 2 = b / 2 ^ (I + 1) ∧ S + Q = xTo a b (I + 1) ∧ Q * 2 = 2 ^ (I + 1) from ⟨hxx.1.symm, hxx.2.symm, hs.symm, hqq.symm⟩)
        clear hs hxx hqq he
        go_wp2
        go_round
        case rel => exact ⟨X / 2, Y / 2, S + Q, Q * 2, I + 1, by go_num, by go_num, by go_num, by go_num, by go_num, by omega, by omega, by omega, by omega, by omega, HN⟩
        case measure => simp [intOf]; omega
    · obtain rfl : I = 13 := by omega
      go_wp2
      go_ret
      exact ⟨ret_int (by rw [← HX.out, ← HV.out.2.2.1]), rfl⟩

theorem ones_any (n : Nat) (w : World) (h : n < 16384) :
    Calls Try.prog 32 #[.int .i64 (n : Int)] w fun e w' => e = .returned (.int .i64 (pop n : Int)) ∧ w = w' := by
  obtain ⟨p, hp⟩ : ∃ p, pop n = p := ⟨_, rfl⟩
  have HN := Lib.hid hp
  have hp14 : p ≤ 14 := hp ▸ pop_le n h
  rw [hp]
  clear hp
  go_enter Try.func32, Try.ntmps32
  go_wp2
  go_loop [0, 3] (fun v s => ∃ m c : Nat, v = .int .i64 (m : Int) ∧ s = .int .i64 (c : Int) ∧ m < 16384 ∧ c ≤ p ∧ Hid (c + pop m = p)) (fun v _ => (intOf v).toNat)
  case atStart => exact ⟨n, 0, rfl, rfl, h, by omega, by rw [Nat.zero_add]; exact HN⟩
  case round =>
    obtain ⟨m, c, rfl, rfl, hm, hc, HM⟩ := hrel
    by_cases h0 : 0 < m
    · have hs := pop_step m (by omega)
      have HE := Lib.hid (show (c + m % 2) + pop (m / 2) = p by have := HM.out; omega)
      have hc2 : c + m % 2 ≤ p := by have := HE.out; omega
      clear hs
      go_wp2
      go_round
      case rel => exact ⟨m / 2, c + m % 2, by go_num, by go_num, by omega, hc2, HE⟩
      case measure => simp [intOf]; omega
    · obtain rfl : m = 0 := by omega
      have HE := Lib.hid (show c = p by have := HM.out; rw [pop_zero] at this; omega)
      go_wp2
      go_ret
      exact ⟨ret_int (by rw [HE.out]), rfl⟩
end Go.Proofs.Ytljjbphmglbhnaa
