/-
  Contracts of bits.has and bits.mask, over the landed code.
-/
import Derived.Test.YtljjbphmglbhnaaInfo
namespace Go.Proofs.Ytljjbphmglbhnaa
open Go.RowKit

/-- Has a slice of n bytes a bit i? -/
def hasB (n : Nat) (i : Int) : Bool := decide (0 ≤ i ∧ i / 8 < n)

theorem has_any (A : Option Addr) (n c : Nat) (i : Int) (w : World) (h0 : -9223372036854775808 ≤ i) (h1 : i ≤ 9223372036854775807) :
    Calls Try.prog 27 #[.slice A n c, .int .i64 i] w fun e w' => e = .returned (.bool (hasB n i)) ∧ w = w' := by
  by_cases hi : 0 ≤ i
  · by_cases hn : i / 8 < n
    · have e : hasB n i = true := by unfold hasB; exact decide_eq_true ⟨hi, hn⟩
      rw [e]; clear e
      go_enter Try.func27, Try.ntmps27
      go_wp2
      go_ret
      exact ⟨rfl, rfl⟩
    · have e : hasB n i = false := by unfold hasB; exact decide_eq_false (fun h => hn h.2)
      rw [e]; clear e
      go_enter Try.func27, Try.ntmps27
      go_wp2
      go_ret
      exact ⟨rfl, rfl⟩
  · have e : hasB n i = false := by unfold hasB; exact decide_eq_false (fun h => hi h.1)
    rw [e]; clear e
    have hd : decide (0 ≤ i) = false := decide_eq_false hi
    go_enter Try.func27, Try.ntmps27
    go_wp2
    go_ret
    exact ⟨rfl, rfl⟩

theorem mask_any (i : Int) (w : World) (h0 : 0 ≤ i) (h1 : i ≤ 9223372036854775807) :
    Calls Try.prog 28 #[.int .i64 i] w fun e w' => e = .returned (.int .u8 (mk8 i.toNat : Int)) ∧ w = w' := by
  go_enter Try.func28, Try.ntmps28
  go_wp2
  go_ret
  refine ⟨ret_int ?_, rfl⟩
  have e : (i % 8).toNat = i.toNat % 8 := by omega
  have h8 := mk8_lt i.toNat
  have c : ((2 : Int) ^ (i.toNat % 8)) = (mk8 i.toNat : Int) := by simp [mk8]
  rw [e, c, Int.emod_eq_of_lt (by omega) (by omega)]

theorem has_yes (A : Option Addr) (n c : Nat) (i : Int) (w : World) (h1 : i ≤ 9223372036854775807) (h : 0 ≤ i) (hn : i / 8 < n) :
    Calls Try.prog 27 #[.slice A n c, .int .i64 i] w fun e w' => e = .returned (.bool true) ∧ w = w' := by
  have e : hasB n i = true := by unfold hasB; exact decide_eq_true ⟨h, hn⟩
  have := has_any A n c i w (by omega) h1
  rwa [e] at this

theorem has_no (A : Option Addr) (n c : Nat) (i : Int) (w : World) (h0 : -9223372036854775808 ≤ i) (h1 : i ≤ 9223372036854775807) (h : ¬ (0 ≤ i ∧ i / 8 < n)) :
    Calls Try.prog 27 #[.slice A n c, .int .i64 i] w fun e w' => e = .returned (.bool false) ∧ w = w' := by
  have e : hasB n i = false := by unfold hasB; exact decide_eq_false h
  have := has_any A n c i w h0 h1
  rwa [e] at this

theorem qleft {P : Program} {f : FuncId} {args : Array Value} {w : World} {n : Nat} {v : Value}
    (h : Calls P f args (w.drewN n) fun e w' => e = .returned v ∧ w.drewN n = w') : Calls P f args (w.drewN n) fun e w'' => e = .returned v ∧ ∃ m, w'' = w.drewN m :=
  h.mono fun _ _ ⟨he, hm⟩ => ⟨he, n, hm.symm⟩
end Go.Proofs.Ytljjbphmglbhnaa
