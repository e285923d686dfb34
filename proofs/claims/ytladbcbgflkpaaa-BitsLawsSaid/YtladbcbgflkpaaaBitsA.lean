/-
  Contracts of bits.mask, bits.has, bits.Get, bits.Count, bits.Zeros, over the landed code: what each returns, and that it leaves memory as it was.
-/
import Derived.Test.YtladbcbgflkpaaaChecked
import Derived.Test.YtladbcbgflkpaaaWords
import Derived.Test.YtladbcbgflkpaaaMath
import Derived.Test.YtladbcbgflkpaaaBits8
import Derived.WalkKit
import Derived.WalkSpells
import Derived.WalkLawsBesides
import Derived.Deep.QuietTactic
import Derived.BigQuiet
import Derived.Laws.BitsAllLaws
import Derived.Laws.BitsLemmas
namespace Go.Proofs.Ytladbcbgflkpaaa
open Go.RowKit

/-- Has a slice of n bytes a bit i? -/
def hasB (n : Nat) (i : Int) : Bool := decide (0 ≤ i ∧ i / 8 < n)

theorem has_any (A : Option Addr) (n c : Nat) (i : Int) (w : World) (h0 : -9223372036854775808 ≤ i) (h1 : i ≤ 9223372036854775807) :
    Calls Try.prog 22 #[.slice A n c, .int .i64 i] w fun e w' => e = .returned (.bool (hasB n i)) ∧ w = w' := by
  by_cases hi : 0 ≤ i
  · by_cases hn : i / 8 < n
    · have e : hasB n i = true := by unfold hasB; exact decide_eq_true ⟨hi, hn⟩
      rw [e]; clear e
      go_enter Try.func22, Try.ntmps22
      go_wp2
      go_ret
      exact ⟨rfl, rfl⟩
    · have e : hasB n i = false := by unfold hasB; exact decide_eq_false (fun h => hn h.2)
      rw [e]; clear e
      go_enter Try.func22, Try.ntmps22
      go_wp2
      go_ret
      exact ⟨rfl, rfl⟩
  · have e : hasB n i = false := by unfold hasB; exact decide_eq_false (fun h => hi h.1)
    rw [e]; clear e
    have hd : decide (0 ≤ i) = false := decide_eq_false hi
    go_enter Try.func22, Try.ntmps22
    go_wp2
    go_ret
    exact ⟨rfl, rfl⟩

theorem mask_any (i : Int) (w : World) (h0 : 0 ≤ i) (h1 : i ≤ 9223372036854775807) :
    Calls Try.prog 23 #[.int .i64 i] w fun e w' => e = .returned (.int .u8 (mk8 i.toNat : Int)) ∧ w = w' := by
  go_enter Try.func23, Try.ntmps23
  go_wp2
  go_ret
  refine ⟨ret_int ?_, rfl⟩
  have e : (i % 8).toNat = i.toNat % 8 := by omega
  have h8 := mk8_lt i.toNat
  have c : ((2 : Int) ^ (i.toNat % 8)) = (mk8 i.toNat : Int) := by simp [mk8]
  rw [e, c, Int.emod_eq_of_lt (by omega) (by omega)]

theorem has_yes (A : Option Addr) (n c : Nat) (i : Int) (w : World) (h1 : i ≤ 9223372036854775807) (h : 0 ≤ i) (hn : i / 8 < n) :
    Calls Try.prog 22 #[.slice A n c, .int .i64 i] w fun e w' => e = .returned (.bool true) ∧ w = w' := by
  have e : hasB n i = true := by unfold hasB; exact decide_eq_true ⟨h, hn⟩
  have := has_any A n c i w (by omega) h1
  rwa [e] at this
theorem has_no (A : Option Addr) (n c : Nat) (i : Int) (w : World) (h0 : -9223372036854775808 ≤ i) (h1 : i ≤ 9223372036854775807) (h : ¬ (0 ≤ i ∧ i / 8 < n)) :
    Calls Try.prog 22 #[.slice A n c, .int .i64 i] w fun e w' => e = .returned (.bool false) ∧ w = w' := by
  have e : hasB n i = false := by unfold hasB; exact decide_eq_false h
  have := has_any A n c i w h0 h1
  rwa [e] at this

theorem qleft {P : Program} {f : FuncId} {args : Array Value} {w : World} {n : Nat} {v : Value}
    (h : Calls P f args (w.drewN n) fun e w' => e = .returned v ∧ w.drewN n = w') : Calls P f args (w.drewN n) fun e w'' => e = .returned v ∧ ∃ m, w'' = w.drewN m :=
  h.mono fun _ _ ⟨he, hm⟩ => ⟨he, n, hm.symm⟩

theorem Get_any (A : Option Addr) (n c : Nat) (l : List Nat) (i : Int) (w : World) (hr : R8 w A n l) (h0 : -9223372036854775808 ≤ i) (h1 : i ≤ 9223372036854775807) :
    Calls Try.prog 9 #[.slice A n c, .int .i64 i] w (Quiet (.bool (getI l i)) w) := by
  by_cases hi : 0 ≤ i ∧ i / 8 < n
  · obtain ⟨ha, hn⟩ := hi
    obtain ⟨j, rfl⟩ := Int.eq_ofNat_of_zero_le ha
    have hj : j / 8 < n := by omega
    obtain ⟨b, off, x, rfl, hb, HX, hx, hc⟩ := hr.at_ hj
    clear hr
    go_enter Try.func9, Try.ntmps9
    go_wp2
    go_quiet (first | (go_at_call 22; exact qleft (has_yes _ _ _ _ _ (by omega) (by omega) (by omega))) | (go_at_call 23; exact qleft (mask_any _ _ (by omega) (by omega))))
    go_wp2
    go_ret
    exact ⟨by rw [getI_of l j x HX.out, ← and_mk8 x j hx]; rfl, _, rfl⟩
  · have e : getI l i = false := getI_no l i (by rw [hr.len]; exact hi)
    rw [e]; clear e
    go_enter Try.func9, Try.ntmps9
    go_wp2
    go_quiet (first | (go_at_call 22; exact qleft (has_no _ _ _ _ _ (by omega) (by omega) hi)) )
    go_wp2
    go_ret
    exact ⟨rfl, _, rfl⟩

set_option maxHeartbeats 400000 in
theorem Count_any (A : Option Addr) (n c : Nat) (l : List Nat) (w : World) (hr : R8 w A n l) (hn : n ≤ 1099511627776) :
    Calls Try.prog 16 #[.slice A n c] w fun e w' => e = .returned (.int .i64 (ones l : Int)) ∧ w = w' := by
  have hl := Lib.hid hr.len
  go_enter Try.func16, Try.ntmps16
  go_wp2
  go_loop [3, 8] (fun t i => ∃ k : Nat, k ≤ n ∧ i = .int .i64 k ∧ t = .int .i64 (ones (l.take k) : Int)) (fun _ i => n - (intOf i).toNat)
  case atStart => exact ⟨0, Nat.zero_le _, rfl, rfl⟩
  case round =>
    obtain ⟨k, hk, rfl, rfl⟩ := hrel
    have ho : ones (l.take k) ≤ 8 * k := by
      have := ones_le (l.take k) (fun x hx => hr.2 x (List.mem_of_mem_take hx))
      have := List.length_take_le k l
      omega
    by_cases hlt : k < n
    · obtain ⟨b, off, x, rfl, hb, HX, hx, hc⟩ := hr.at_ hlt
      have ho2 := popc_le x hx
      have HS := Lib.hid (show ones (l.take (k + 1)) = ones (l.take k) + Lib.onesCount x by rw [take_snoc HX.out, ones_snoc])
      go_wp2_with (go_at_call 27; refine (ones8_any _ _ (by omega) (by omega)).mono ?_; rintro e w' ⟨rfl, rfl⟩)
      go_round
      case rel => exact ⟨k + 1, by omega, by go_num, by rw [HS.out]; go_num⟩
      case measure => simp [intOf]; omega
    · go_wp2
      go_ret
      exact ⟨ret_int (by rw [List.take_of_length_le (by have := hl.out; omega)]), rfl⟩

theorem Zeros_any (A : Option Addr) (n c : Nat) (l : List Nat) (w : World) (hr : R8 w A n l) (hn : n ≤ 1099511627776) :
    Calls Try.prog 14 #[.slice A n c] w fun e w' => e = .returned (.int .i64 (8 * (n : Int) - (ones l : Int))) ∧ w = w' := by
  have ho : ones l ≤ 8 * n := by have := ones_le l hr.2; rw [hr.len] at this; exact this
  have HR := Lib.hid hr
  clear hr
  go_enter Try.func14, Try.ntmps14
  go_wp2_with (go_at_call 16; refine (Count_any _ _ _ l _ HR.out hn).mono ?_; rintro e w' ⟨rfl, rfl⟩)
  go_ret
  exact ⟨ret_int (by omega), rfl⟩
end Go.Proofs.Ytladbcbgflkpaaa
