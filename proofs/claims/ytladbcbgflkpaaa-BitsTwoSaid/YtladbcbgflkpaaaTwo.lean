/-
  The walk of the law BitsTwo over the landed code, out of its callees' contracts: for whatever two slices of bytes it returns true, and nothing that was there has turned.
-/
import Derived.Test.YtladbcbgflkpaaaBitsE
import Derived.Test.YtladbcbgflkpaaaRefD
namespace Go.Proofs.Ytladbcbgflkpaaa
open Go.RowKit

set_option maxHeartbeats 1000000 in
theorem Two_walk (A B : Option Addr) (n c m d : Nat) (a b : List Nat) (w : World) (ha : R8 w A n a) (hb : R8 w B m b)
    (hn : n ≤ 9223372036854775807) (hm : m ≤ 9223372036854775807) :
    Calls Try.prog 4 #[.slice A n c, .slice B m d] w (Gives (.bool true) w) := by
  have HA := Lib.hid ha
  have HB := Lib.hid hb
  have HAL := Lib.hid ha.len
  have HBL := Lib.hid hb.len
  clear ha hb
  go_enter Try.func4, Try.ntmps4
  go_wp2_with fail
  refine (awake_any _).mono ?_
  rintro e w1 ⟨rfl, h1⟩
  have B1 := Lib.hid h1
  clear h1
  go_wp2_with fail
  refine (many2 _ n c m d _ A B _ hn hm (by simp) (by simp)).mono ?_
  rintro e w' ⟨rfl, rfl⟩
  have B2 := Lib.hid (B1.out.alloc B1.out.size (.cells #[.slice A n c, .slice B m d] 22))
  by_cases ht : tooLong [n, m] = true
  · go_wp2
    go_ret
    exact ⟨rfl, B2.out⟩
  · have ht0 : tooLong [n, m] = false := by simpa using ht
    clear ht
    have hn5 : n ≤ 500 ∧ m ≤ 500 := by simpa [tooLong] using ht0
    obtain ⟨hn5, hm5⟩ := hn5
    generalize hw2 : w1.alloc (.cells #[.slice A n c, .slice B m d] 22) = w2 at *
    clear hw2
    have HA2 := Lib.hid (HA.out.below B2.out)
    have HB2 := Lib.hid (HB.out.below B2.out)
    obtain ⟨p, hp⟩ : ∃ p, (andL a b).length = p := ⟨_, rfl⟩
    have hp5 : p ≤ 500 := by rw [← hp, andL_length, HAL.out, HBL.out]; omega
    obtain ⟨q, hq⟩ : ∃ q, (diffL a b).length = q := ⟨_, rfl⟩
    have hq5 : q ≤ 4000 := by
      have h1 := diffTo_length a b (min a.length b.length)
      have h2 := HAL.out
      rw [← hq]
      unfold diffL
      omega
    have HPL := Lib.hid hp
    have HQL := Lib.hid hq
    clear hp hq
    go_wp2_with fail
    refine (And_makes _ _ _ _ _ _ a b _ HA2.out HB2.out (by omega) (by omega)).mono ?_
    intro e w3 hM
    obtain ⟨A3, c3, rfl, H3, B3⟩ := hM.at_ HPL.out
    have HA3 := Lib.hid (HA2.out.below B3.out)
    have HB3 := Lib.hid (HB2.out.below B3.out)
    have C3 := Lib.hid (below_step B2.out B3.out)
    go_wp2_with fail
    refine (RefAnd_any _ _ _ _ _ _ a b _ HA3.out HB3.out (by omega) (by omega)).mono ?_
    intro e w4 hM
    obtain ⟨A4, c4, rfl, H4, B4⟩ := hM.at_ HPL.out
    have HA4 := Lib.hid (HA3.out.below B4.out)
    have HB4 := Lib.hid (HB3.out.below B4.out)
    have H34 := Lib.hid (H3.out.below B4.out)
    have C4 := Lib.hid (below_step C3.out B4.out)
    go_wp2_with fail
    refine (Same_any _ _ _ _ _ _ _ _ _ H34.out H4.out (by omega) (by omega)).mono ?_
    intro e w5 hM
    obtain ⟨rfl, B5⟩ := hM.at_
    have HA5 := Lib.hid (HA4.out.below B5.out)
    have HB5 := Lib.hid (HB4.out.below B5.out)
    have C5 := Lib.hid (below_step C4.out B5.out)
    rw [show decide (andL a b = andL a b) = true from decide_eq_true rfl]
    go_wp2_with fail
    refine (Diff_any _ _ _ _ _ _ a b _ HA5.out HB5.out (by omega) (by omega)).mono ?_
    intro e w6 hM
    obtain ⟨A6, c6, rfl, H6, B6⟩ := hM.at_ HQL.out
    have HA6 := Lib.hid (HA5.out.below B6.out)
    have HB6 := Lib.hid (HB5.out.below B6.out)
    have C6 := Lib.hid (below_step C5.out B6.out)
    go_wp2_with fail
    refine (RefDiff_any _ _ _ _ _ _ a b _ HA6.out HB6.out (by omega) (by omega)).mono ?_
    intro e w7 hM
    obtain ⟨A7, c7, rfl, H7, B7⟩ := hM.at_ HQL.out
    have H67 := Lib.hid (H6.out.below B7.out)
    have C7 := Lib.hid (below_step C6.out B7.out)
    go_wp2_with fail
    refine (Ints_any _ _ _ _ _ _ _ _ _ H67.out H7.out (by omega) (by omega)).mono ?_
    intro e w8 hM
    obtain ⟨rfl, B8⟩ := hM.at_
    rw [show decide (diffL a b = diffL a b) = true from decide_eq_true rfl]
    go_wp2
    go_ret
    exact ⟨rfl, below_step C7.out B8.out⟩
end Go.Proofs.Ytladbcbgflkpaaa
