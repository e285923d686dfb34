/-
  Contracts of chunk.holds, divides, wordOf, over the landed code.
-/
import Derived.Test.YtljjbphmglbhnaaInfo
import Derived.Test.YtljjbphmglbhnaaOwn
import Derived.Test.YtljjbphmglbhnaaIntBits
import Derived.Deep.QuietTactic
namespace Go.Proofs.Ytljjbphmglbhnaa
open Go.RowKit

theorem holds_is (x : Int) (b : Bool) (w : World) (hb : decide (1 ≤ x ∧ x ≤ 512) = b) :
    Calls Try.prog 17 #[.int .i64 x] w fun e w' => e = .returned (.bool b) ∧ w = w' := by
  by_cases hx : 1 ≤ x
  · by_cases hy : x ≤ 512
    · obtain rfl : b = true := by rw [← hb]; exact decide_eq_true ⟨hx, hy⟩
      clear hb
      go_enter Try.func17, Try.ntmps17
      go_wp2
      go_ret
      exact ⟨rfl, rfl⟩
    · obtain rfl : b = false := by rw [← hb]; exact decide_eq_false (fun h => hy h.2)
      have hd : decide (x ≤ 512) = false := decide_eq_false hy
      clear hb
      go_enter Try.func17, Try.ntmps17
      go_wp2
      go_ret
      exact ⟨rfl, rfl⟩
  · obtain rfl : b = false := by rw [← hb]; exact decide_eq_false (fun h => hx h.1)
    have hd : decide (1 ≤ x) = false := decide_eq_false hx
    clear hb
    go_enter Try.func17, Try.ntmps17
    go_wp2
    go_ret
    exact ⟨rfl, rfl⟩

theorem divides_yes (A : Option Addr) (n c s N : Nat) (w : World) (hs0 : 1 ≤ s) (hs1 : s ≤ 512) (hn : n = N * (s + 2)) (hn2 : n ≤ 1099511627776) :
    Calls Try.prog 25 #[.slice A n c, .int .i64 (s : Int)] w fun e w' => e = .returned (.bool true) ∧ w = w' := by
  have hH := fun w' => holds_is (s : Int) true w' (decide_eq_true (by omega))
  have hm : (n : Int) % ((s : Int) + 2) = 0 := by
    rw [hn, Int.natCast_mul, Int.natCast_add]
    exact Int.mul_emod_left _ _
  have hne : ((s : Int) + 2) ≠ 0 := by omega
  have he : (((n : Int) % ((s : Int) + 2)) == 0) = true := by rw [hm]; rfl
  clear hn hm
  go_enter Try.func25, Try.ntmps25
  go_wp2_with (go_at_call 17; refine (hH _).mono ?_; rintro e w' ⟨rfl, rfl⟩)
  go_ret
  exact ⟨rfl, rfl⟩
theorem divides_size (A : Option Addr) (n c : Nat) (x : Int) (w : World) (hx : ¬ (1 ≤ x ∧ x ≤ 512)) :
    Calls Try.prog 25 #[.slice A n c, .int .i64 x] w fun e w' => e = .returned (.bool false) ∧ w = w' := by
  have hH := fun w' => holds_is x false w' (decide_eq_false hx)
  clear hx
  go_enter Try.func25, Try.ntmps25
  go_wp2_with (go_at_call 17; refine (hH _).mono ?_; rintro e w' ⟨rfl, rfl⟩)
  go_ret
  exact ⟨rfl, rfl⟩
theorem divides_no (A : Option Addr) (n c s : Nat) (w : World) (hs0 : 1 ≤ s) (hs1 : s ≤ 512) (hn : n % (s + 2) ≠ 0) (hn2 : n ≤ 1099511627776) :
    Calls Try.prog 25 #[.slice A n c, .int .i64 (s : Int)] w fun e w' => e = .returned (.bool false) ∧ w = w' := by
  have hH := fun w' => holds_is (s : Int) true w' (decide_eq_true (by omega))
  have hm : (n : Int) % ((s : Int) + 2) ≠ 0 := by
    have e : (n : Int) % ((s : Int) + 2) = ((n % (s + 2) : Nat) : Int) := by rw [Int.natCast_emod, Int.natCast_add]; rfl
    rw [e]
    omega
  have hne : ((s : Int) + 2) ≠ 0 := by omega
  have he : (((n : Int) % ((s : Int) + 2)) == 0) = false := by simpa using hm
  clear hn hm
  go_enter Try.func25, Try.ntmps25
  go_wp2_with (go_at_call 17; refine (hH _).mono ?_; rintro e w' ⟨rfl, rfl⟩)
  go_ret
  exact ⟨rfl, rfl⟩

theorem or_shift8 (x y : Nat) (hx : x < 256) (hy : y < 256) : Go.bits .or .u16 (x : Int) ((y : Int) * 256) = ((x + 256 * y : Nat) : Int) := by
  have h := u16_or_nat x (y * 256) (by omega) (by omega)
  have e : x ||| y * 256 = x + 256 * y := by
    have := Nat.two_pow_add_eq_or_of_lt (i := 8) (b := x) (by simpa using hx) y
    rw [Nat.or_comm, Nat.mul_comm, ← this]
    omega
  rw [e] at h
  rw [← h]
  rfl

theorem wordOf_any (A : Option Addr) (c x y : Nat) (w : World) (hr : R8 w A 2 [x, y]) :
    Calls Try.prog 21 #[.slice A 2 c] w (Quiet (.int .u16 ((x + 256 * y : Nat) : Int)) w) := by
  have hx : x < 256 := hr.2 x (by simp)
  have hy : y < 256 := hr.2 y (by simp)
  obtain ⟨b, off, rfl, hb, hc⟩ := hr.1.2 (by omega)
  have c0 : w.cell? ⟨b, off, none⟩ = some (.int .u8 (x : Int)) := hc 0 (by omega)
  have c1 : w.cell? ⟨b, off + 1, none⟩ = some (.int .u8 (y : Int)) := hc 1 (by omega)
  have HX := Lib.hid (or_shift8 x y hx hy)
  clear hc hr
  go_enter Try.func21, Try.ntmps21
  go_wp2
  go_quiet (fail)
  go_wp2
  go_ret
  exact ⟨ret_int HX.out, _, rfl⟩
end Go.Proofs.Ytljjbphmglbhnaa
