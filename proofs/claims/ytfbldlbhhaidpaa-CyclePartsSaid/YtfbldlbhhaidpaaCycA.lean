/-
  Contracts over cycles and letters: cycle.Right; the law's function right; the document's letter and digit.
-/
import Derived.Test.YtfbldlbhhaidpaaInfo
import Derived.Test.YtfbldlbhhaidpaaCycMem
namespace Go.Proofs.Ytfbldlbhhaidpaa
open Go.RowKit
set_option maxRecDepth 100000

theorem info_cycle : (Try.prog.info? 31).map (fun i => (i.zero, i.size, i.bytes)) = some (some (.agg #[.int .i64 0, .int .u8 0]), 2, 16) := by kernel_rfl

theorem Right_any (k b : Int) (w : World) :
    Calls Try.prog 11 #[.agg #[.int .i64 k, .int .u8 b]] w (Gives (.bool (okK k)) w) := by
  by_cases h1 : 1 ≤ k
  · have e1 : decide ((1 : Int) ≤ k) = true := decide_eq_true h1
    have HE := Lib.hid (show decide (k ≤ (4 : Int)) = okK k by unfold okK; rw [e1, Bool.true_and])
    go_enter Try.func11, Try.ntmps11
    go_wp2
    go_ret
    exact ⟨ret_bool HE.out, below_new w _⟩
  · have e1 : decide ((1 : Int) ≤ k) = false := decide_eq_false h1
    have HE := Lib.hid (show false = okK k by unfold okK; rw [e1, Bool.false_and])
    go_enter Try.func11, Try.ntmps11
    go_wp2
    go_ret
    exact ⟨ret_bool HE.out, below_new w _⟩

theorem letter_any (v : Nat) (w : World) : Calls Try.prog 23 #[.int .u8 (v : Int)] w fun e w' => e = .returned (.int .i64 (letK v)) ∧ w = w' := by
  by_cases h1 : v = 99
  · subst h1
    go_enter Try.func23, Try.ntmps23
    go_wp2
    go_ret
    exact ⟨rfl, rfl⟩
  · have e1 : ((v : Int) == 99) = false := beq_eq_false_iff_ne.2 (by omega)
    by_cases h2 : v = 97
    · subst h2
      go_enter Try.func23, Try.ntmps23
      go_wp2
      go_ret
      exact ⟨rfl, rfl⟩
    · have e2 : ((v : Int) == 97) = false := beq_eq_false_iff_ne.2 (by omega)
      by_cases h3 : v = 119
      · subst h3
        go_enter Try.func23, Try.ntmps23
        go_wp2
        go_ret
        exact ⟨rfl, rfl⟩
      · have e3 : ((v : Int) == 119) = false := beq_eq_false_iff_ne.2 (by omega)
        by_cases h4 : v = 114
        · subst h4
          go_enter Try.func23, Try.ntmps23
          go_wp2
          go_ret
          exact ⟨rfl, rfl⟩
        · have e4 : ((v : Int) == 114) = false := beq_eq_false_iff_ne.2 (by omega)
          have HE := Lib.hid (show (0 : Int) = letK v by unfold letK; rw [if_neg h1, if_neg h2, if_neg h3, if_neg h4])
          go_enter Try.func23, Try.ntmps23
          go_wp2
          go_ret
          exact ⟨ret_int HE.out, rfl⟩

theorem digit_any (v : Nat) (w : World) (hv : v < 256) : Calls Try.prog 24 #[.int .u8 (v : Int)] w fun e w' => e = .returned (.int .i64 (digI v)) ∧ w = w' := by
  by_cases h1 : 48 ≤ v
  · have e1 : decide ((48 : Int) ≤ v) = true := decide_eq_true (by omega)
    by_cases h2 : v ≤ 57
    · have e2 : decide ((v : Int) ≤ 57) = true := decide_eq_true (by omega)
      have HE := Lib.hid (show (v : Int) - 48 = digI v by unfold digI; rw [if_pos ⟨h1, h2⟩])
      go_enter Try.func24, Try.ntmps24
      go_wp2
      go_ret
      exact ⟨ret_int HE.out, rfl⟩
    · have e2 : decide ((v : Int) ≤ 57) = false := decide_eq_false (by omega)
      by_cases h3 : 97 ≤ v
      · have e3 : decide ((97 : Int) ≤ v) = true := decide_eq_true (by omega)
        by_cases h4 : v ≤ 102
        · have e4 : decide ((v : Int) ≤ 102) = true := decide_eq_true (by omega)
          have HE := Lib.hid (show (v : Int) - 97 + 10 = digI v by unfold digI; rw [if_neg (by omega), if_pos ⟨h3, h4⟩]; omega)
          go_enter Try.func24, Try.ntmps24
          go_wp2
          go_ret
          exact ⟨ret_int HE.out, rfl⟩
        · have e4 : decide ((v : Int) ≤ 102) = false := decide_eq_false (by omega)
          have HE := Lib.hid (show (-1 : Int) = digI v by unfold digI; rw [if_neg (by omega), if_neg (by omega)])
          go_enter Try.func24, Try.ntmps24
          go_wp2
          go_ret
          exact ⟨ret_int HE.out, rfl⟩
      · have e3 : decide ((97 : Int) ≤ v) = false := decide_eq_false (by omega)
        have HE := Lib.hid (show (-1 : Int) = digI v by unfold digI; rw [if_neg (by omega), if_neg (by omega)])
        go_enter Try.func24, Try.ntmps24
        go_wp2
        go_ret
        exact ⟨ret_int HE.out, rfl⟩
  · have e1 : decide ((48 : Int) ≤ v) = false := decide_eq_false (by omega)
    have e3 : decide ((97 : Int) ≤ v) = false := decide_eq_false (by omega)
    have HE := Lib.hid (show (-1 : Int) = digI v by unfold digI; rw [if_neg (by omega), if_neg (by omega)])
    go_enter Try.func24, Try.ntmps24
    go_wp2
    go_ret
    exact ⟨ret_int HE.out, rfl⟩

set_option maxHeartbeats 400000 in
theorem lawRight_any (A : Option Addr) (n c : Nat) (l : List Cy) (w : World) (hr : RC w A n l) (hn : n ≤ 1099511627776) :
    Calls Try.prog 9 #[.slice A n c] w (Gives (.bool (okC l)) w) := by
  have HR := Lib.hid hr
  have hlen := Lib.hid hr.len
  clear hr
  go_enter Try.func9, Try.ntmps9
  go_wp2
  go_loopw [7] (fun i wr => ∃ k : Nat, k ≤ n ∧ i = .int .i64 (k : Int) ∧ Hid (okC (l.drop k) = okC l) ∧ Hid (Below w.heap.size w wr)) (fun i _ => n - (intOf i).toNat)
  case atStart => exact ⟨0, Nat.zero_le _, rfl, rfl, Below.refl _ _⟩
  case round =>
    obtain ⟨k, hk, rfl, HL, HB⟩ := hrel
    by_cases hlt : k < n
    · obtain ⟨b1, o1, t, rfl, hb1, HX, ⟨hi1, hi2, hi3⟩, c0, c1⟩ := (HR.out.below HB.out).at_ hlt
      obtain ⟨tk, tb⟩ := t
      simp only at c0 c1 hi1 hi2 hi3
      have HD := okC_drop HX.out
      simp only at HD
      by_cases h1 : 1 ≤ tk
      · have e1 : decide (tk < (1 : Int)) = false := decide_eq_false (by omega)
        by_cases h2 : tk ≤ 4
        · have e2 : decide ((4 : Int) < tk) = false := decide_eq_false (by omega)
          have HL2 := Lib.hid (show okC (l.drop (k + 1)) = okC l by rw [← HL.out, HD, okK_iff.2 ⟨h1, h2⟩, Bool.true_and])
          go_wp2
          go_roundw
          case rel => exact ⟨k + 1, by omega, by go_num, HL2, Lib.hid (below_step HB.out (below_new wr _))⟩
          case measure => simp [intOf]; omega
        · have e2 : decide ((4 : Int) < tk) = true := decide_eq_true (by omega)
          have HE := Lib.hid (show false = okC l by
            rw [← HL.out, HD]
            have : okK tk = false := by unfold okK; rw [decide_eq_false h2, Bool.and_false]
            rw [this, Bool.false_and])
          go_wp2
          go_ret
          exact ⟨ret_bool HE.out, below_step HB.out (below_new wr _)⟩
      · have e1 : decide (tk < (1 : Int)) = true := decide_eq_true (by omega)
        have HE := Lib.hid (show false = okC l by
          rw [← HL.out, HD]
          have : okK tk = false := by unfold okK; rw [decide_eq_false h1, Bool.false_and]
          rw [this, Bool.false_and])
        go_wp2
        go_ret
        exact ⟨ret_bool HE.out, below_step HB.out (below_new wr _)⟩
    · have HE := Lib.hid (show true = okC l by
        rw [← HL.out, List.drop_eq_nil_of_le (by rw [hlen.out]; omega)]
        rfl)
      go_wp2
      go_ret
      exact ⟨ret_bool HE.out, HB.out⟩
end Go.Proofs.Ytfbldlbhhaidpaa
