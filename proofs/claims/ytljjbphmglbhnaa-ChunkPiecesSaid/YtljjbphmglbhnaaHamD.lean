/-
  Contracts of hamming.Word and Judge, over the landed code.
-/
import Derived.Test.YtljjbphmglbhnaaHamC
namespace Go.Proofs.Ytljjbphmglbhnaa
open Go.RowKit

theorem word_form (l : List Nat) (h : l.length ≤ 512) : wordL l = if oddL l (xL l) then (xL l ||| 8192) ||| 49152 else xL l ||| 49152 := by
  have hx := xL_lt l h
  unfold oddL
  rw [Nat.mod_eq_of_lt (show xL l < 16384 by omega), or_8192 _ hx, or_49152 _ (by omega), or_49152 _ (by omega)]
  unfold wordL
  have h2 := Nat.mod_two_eq_zero_or_one (nL l + pop (xL l))
  rcases h2 with h2 | h2 <;> rw [h2] <;> simp
theorem Word_any (A : Option Addr) (n c : Nat) (l : List Nat) (w : World) (hr : R8 w A n l) (hn : n ≤ 512) :
    Calls Try.prog 18 #[.slice A n c] w (Gives (.tuple #[.int .u16 (wordL l : Int), .int .i64 0]) w) := by
  have hl := hr.len
  have hx := xL_lt l (by omega)
  have hW := word_form l (by omega)
  have hP := fun w' (h : R8 w' A n l) => placesOfOnes_any A n c l w' h hn
  have hO := fun w' (h : R8 w' A n l) => odd_any A n c l (xL l) w' h hn (by omega)
  generalize oddL l (xL l) = o at *
  generalize wordL l = W at *
  generalize xL l = X at *
  have H0 := Lib.hid (u16_or_nat X 8192 (by omega) (by omega))
  have H1 := Lib.hid (u16_or_nat X 49152 (by omega) (by omega))
  have H2 := Lib.hid (u16_or_nat (X ||| 8192) 49152 (by rw [or_8192 _ hx]; omega) (by omega))
  cases o
  · simp only [Bool.false_eq_true, if_false] at hW
    subst hW
    go_enter Try.func18, Try.ntmps18
    go_wp2_with fail
    refine (hP _ hr).mono ?_
    rintro e w1 ⟨rfl, hb1⟩
    have HB1 := Lib.hid hb1
    have HR1 := Lib.hid (hr.below hb1)
    clear hb1
    go_wp2_with fail
    refine (hO _ HR1.out).mono ?_
    rintro e w2 ⟨rfl, q, rfl⟩
    go_wp2
    go_ret2
    exact ⟨ret_two H1.out, below_drewN HB1.out q⟩
  · simp only [if_true] at hW
    subst hW
    go_enter Try.func18, Try.ntmps18
    go_wp2_with fail
    refine (hP _ hr).mono ?_
    rintro e w1 ⟨rfl, hb1⟩
    have HB1 := Lib.hid hb1
    have HR1 := Lib.hid (hr.below hb1)
    clear hb1
    go_wp2_with fail
    refine (hO _ HR1.out).mono ?_
    rintro e w2 ⟨rfl, q, rfl⟩
    go_wp2
    go_ret2
    refine ⟨ret_two ?_, below_drewN HB1.out q⟩
    have h1 := H0.out
    have h2 := H2.out
    rw [← h2, ← h1]
    rfl
theorem Word_long (A : Option Addr) (n c : Nat) (w : World) (hn : 512 < n) :
    Calls Try.prog 18 #[.slice A n c] w fun e w' => e = .returned (.tuple #[.int .u16 0, .int .i64 3]) ∧ w = w' := by
  go_enter Try.func18, Try.ntmps18
  go_wp2
  go_ret2
  exact ⟨rfl, rfl⟩

set_option maxHeartbeats 1000000 in
theorem Judge_any (A : Option Addr) (n c : Nat) (l : List Nat) (m : Nat) (w : World) (hr : R8 w A n l) (hn : n ≤ 512) (hm : m < 65536) :
    Calls Try.prog 20 #[.slice A n c, .int .u16 (m : Int)] w (Gives (.tuple #[.int .i64 ((judgeL l m).1 : Int), .int .i64 ((judgeL l m).2 : Int), .int .i64 0]) w) := by
  have hl := hr.len
  have hx := xL_lt l (by omega)
  have hJ : judgeL l m = verdict (8 * n) (xL l ^^^ m % 8192) (oddL l m) := by unfold judgeL oddL; rw [hl]
  have hA : Go.bits .and .u16 (m : Int) 8191 = ((m % 8192 : Nat) : Int) := by
    have := u16_and_nat m 8191 hm (by omega)
    rw [and_8191] at this
    exact this
  have hX : Go.bits .xor .u16 (xL l : Int) ((m % 8192 : Nat) : Int) = ((xL l ^^^ m % 8192 : Nat) : Int) := u16_xor_nat (xL l) (m % 8192) (by omega) (by omega)
  have hD : xL l ^^^ m % 8192 < 8192 := xor_lt13 hx (by omega)
  have hP := fun w' (h : R8 w' A n l) => placesOfOnes_any A n c l w' h hn
  have hO := fun w' (h : R8 w' A n l) => odd_any A n c l m w' h hn hm
  have hL := fun w' => locate_any (xL l ^^^ m % 8192) (8 * n) w' hD
  rw [hJ]
  clear hJ
  generalize oddL l m = o at *
  generalize xL l ^^^ m % 8192 = D at *
  generalize m % 8192 = M at *
  generalize xL l = X at *
  cases o
  · clear hL
    by_cases hd0 : D = 0
    · subst hd0
      rw [verdict_clean]
      go_enter Try.func20, Try.ntmps20
      go_wp2_with fail
      refine (hP _ hr).mono ?_
      rintro e w1 ⟨rfl, hb1⟩
      have HB1 := Lib.hid hb1
      have HR1 := Lib.hid (hr.below hb1)
      clear hb1
      go_wp2_with fail
      refine (hO _ HR1.out).mono ?_
      rintro e w2 ⟨rfl, q, rfl⟩
      go_wp2
      go_ret3
      exact ⟨rfl, below_drewN HB1.out q⟩
    · have hne : ((D : Int) != 0) = true := by simp; omega
      rw [verdict_broken _ _ hd0]
      go_enter Try.func20, Try.ntmps20
      go_wp2_with fail
      refine (hP _ hr).mono ?_
      rintro e w1 ⟨rfl, hb1⟩
      have HB1 := Lib.hid hb1
      have HR1 := Lib.hid (hr.below hb1)
      clear hb1
      go_wp2_with fail
      refine (hO _ HR1.out).mono ?_
      rintro e w2 ⟨rfl, q, rfl⟩
      go_wp2
      go_ret3
      exact ⟨rfl, below_drewN HB1.out q⟩
  · generalize verdict (8 * n) D true = V at *
    obtain ⟨s, b⟩ := V
    simp only at hL ⊢
    have hL2 : ∀ w', Calls Try.prog 33 #[.int .i64 (D : Int), .int .i64 ((n : Int) * 8)] w' fun e w'' => e = .returned (.tuple #[.int .i64 (s : Int), .int .i64 (b : Int)]) ∧ w' = w'' := fun w' => by
      rw [show ((n : Int) * 8) = ((8 * n : Nat) : Int) by omega]
      exact hL w'
    clear hL
    go_enter Try.func20, Try.ntmps20
    go_wp2_with fail
    refine (hP _ hr).mono ?_
    rintro e w1 ⟨rfl, hb1⟩
    have HB1 := Lib.hid hb1
    have HR1 := Lib.hid (hr.below hb1)
    clear hb1
    go_wp2_with fail
    refine (hO _ HR1.out).mono ?_
    rintro e w2 ⟨rfl, q, rfl⟩
    go_wp2_with fail
    refine (hL2 _).mono ?_
    rintro e w3 ⟨rfl, rfl⟩
    go_wp2
    go_ret3
    exact ⟨rfl, below_drewN HB1.out q⟩
end Go.Proofs.Ytljjbphmglbhnaa
