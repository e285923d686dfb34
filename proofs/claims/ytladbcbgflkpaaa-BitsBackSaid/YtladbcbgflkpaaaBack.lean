/-
  The walk of the law BitsBack over the landed code, out of its callees' contracts: for whatever bytes and places it returns true, and nothing that was there has turned.
-/
import Derived.Test.YtladbcbgflkpaaaBitsE
import Derived.Test.YtladbcbgflkpaaaMath2
namespace Go.Proofs.Ytladbcbgflkpaaa
open Go.RowKit

set_option maxHeartbeats 1000000 in
theorem Back_walk (A B P : Option Addr) (n c m d k q : Nat) (a b : List Nat) (ps : List Int) (w : World) (ha : R8 w A n a) (hb : R8 w B m b) (hp : R64 w P k ps)
    (hn : n ≤ 9223372036854775807) (hm : m ≤ 9223372036854775807) (hk : k ≤ 9223372036854775807) :
    Calls Try.prog 5 #[.slice A n c, .slice B m d, .slice P k q] w (Gives (.bool true) w) := by
  have HA := Lib.hid ha
  have HB := Lib.hid hb
  have HP := Lib.hid hp
  clear ha hb hp
  go_enter Try.func5, Try.ntmps5
  go_wp2_with fail
  refine (awake_any _).mono ?_
  rintro e w1 ⟨rfl, h1⟩
  have B1 := Lib.hid h1
  clear h1
  go_wp2_with fail
  refine (many2 _ n c m d _ A B _ hn hm (by simp) (by simp)).mono ?_
  rintro e w' ⟨rfl, rfl⟩
  have B2 := Lib.hid (B1.out.alloc B1.out.size (.cells #[.slice A n c, .slice B m d] 22))
  by_cases ht : tooLong [n, m] = true
  · go_wp2
    go_ret
    exact ⟨rfl, B2.out⟩
  · have ht0 : tooLong [n, m] = false := by simpa using ht
    clear ht
    have hn5 : n ≤ 500 ∧ m ≤ 500 := by simpa [tooLong] using ht0
    by_cases hk1 : 100 < k
    · go_wp2
      go_ret
      exact ⟨rfl, B2.out⟩
    · generalize hw2 : w1.alloc (.cells #[.slice A n c, .slice B m d] 22) = w2 at *
      clear hw2
      have HA2 := Lib.hid (HA.out.below B2.out)
      have HB2 := Lib.hid (HB.out.below B2.out)
      have HP2 := Lib.hid (HP.out.below B2.out)
      obtain ⟨hn5, hm5⟩ := hn5
      go_wp2_with fail
      refine (Flip_makes _ _ _ _ _ _ a ps _ HA2.out HP2.out (by omega) (by omega)).mono ?_
      intro e w3 hM
      obtain ⟨A3, c3, rfl, H3, B3⟩ := hM.at_ (n := n) (by rw [flips_length, HA.out.len])
      have HP3 := Lib.hid (HP2.out.below B3.out)
      have HA3 := Lib.hid (HA2.out.below B3.out)
      have HB3 := Lib.hid (HB2.out.below B3.out)
      have C3 := Lib.hid (below_step B2.out B3.out)
      go_wp2_with fail
      refine (Flip_makes _ _ _ _ _ _ _ ps _ H3.out HP3.out (by omega) (by omega)).mono ?_
      intro e w4 hM
      rw [flips_twice a ps HA.out.2] at hM
      obtain ⟨A4, c4, rfl, H4, B4⟩ := hM.at_ (n := n) HA.out.len
      have HA4 := Lib.hid (HA3.out.below B4.out)
      have HB4 := Lib.hid (HB3.out.below B4.out)
      have C4 := Lib.hid (below_step C3.out B4.out)
      go_wp2_with fail
      refine (Same_any _ _ _ _ _ _ a a _ H4.out HA4.out (by omega) (by omega)).mono ?_
      intro e w5 hM
      obtain ⟨rfl, B5⟩ := hM.at_
      have HA5 := Lib.hid (HA4.out.below B5.out)
      have HB5 := Lib.hid (HB4.out.below B5.out)
      have C5 := Lib.hid (below_step C4.out B5.out)
      clear B1 B2 HA2 HB2 HP2 H3 B3 HP3 HA3 HB3 C3 H4 B4 HA4 HB4 C4 B5
      rw [show decide (a = a) = true from decide_eq_true rfl]
      have hlen : (diffL a b).length ≤ 8 * 500 := by
        have h1 := diffTo_length a b (min a.length b.length)
        have h2 := HA.out.len
        unfold diffL
        omega
      have HAL := Lib.hid HA.out.len
      have HBL := Lib.hid HB.out.len
      by_cases hnm : n = m
      · subst hnm
        go_wp2_with fail
        refine (Diff_any _ _ _ _ _ _ a b _ HA5.out HB5.out (by omega) (by omega)).mono ?_
        intro e w6 hM
        obtain ⟨p, hp⟩ : ∃ p, (diffL a b).length = p := ⟨_, rfl⟩
        obtain ⟨A6, c6, rfl, H6, B6⟩ := hM.at_ hp
        rw [hp] at hlen
        have HPL := Lib.hid hp
        clear hp
        have HA6 := Lib.hid (HA5.out.below B6.out)
        have HB6 := Lib.hid (HB5.out.below B6.out)
        have C6 := Lib.hid (below_step C5.out B6.out)
        go_wp2_with fail
        refine (Flip_makes _ _ _ _ _ _ a _ _ HA6.out H6.out (by omega) (by omega)).mono ?_
        intro e w7 hM
        rw [flips_diff a b HA.out.2 HB.out.2 (by rw [HAL.out, HBL.out])] at hM
        obtain ⟨A7, c7, rfl, H7, B7⟩ := hM.at_ HBL.out
        have HA7 := Lib.hid (HA6.out.below B7.out)
        have HB7 := Lib.hid (HB6.out.below B7.out)
        have C7 := Lib.hid (below_step C6.out B7.out)
        go_wp2_with fail
        refine (Same_any _ _ _ _ _ _ b b _ H7.out HB7.out (by omega) (by omega)).mono ?_
        intro e w8 hM
        obtain ⟨rfl, B8⟩ := hM.at_
        have HA8 := Lib.hid (HA7.out.below B8.out)
        have HB8 := Lib.hid (HB7.out.below B8.out)
        have C8 := Lib.hid (below_step C7.out B8.out)
        clear HA5 HB5 C5 HA6 H6 B6 HB6 C6 HA7 H7 B7 HB7 C7 B8
        rw [show decide (b = b) = true from decide_eq_true rfl]
        have hz1 := zeros_and a b HA.out.2
        have hz2 := zeros_and b a HB.out.2
        rw [andL_comm b a] at hz2
        obtain ⟨z, hzl⟩ : ∃ z, (andL a b).length = z := ⟨_, rfl⟩
        have hzm : z = max n n := by rw [← hzl, andL_length, HAL.out, HBL.out]
        rw [hzl, HAL.out] at hz1
        rw [hzl, HBL.out] at hz2
        have hmax : max (n : Int) (n : Int) = (z : Int) := by omega
        have hz5 : z ≤ 500 := by omega
        have HZL := Lib.hid hzl
        have HS := Lib.hid (andL_self_left a b)
        have HT := Lib.hid (andL_lt a b HA.out.2)
        clear hzm hzl
        go_wp2_with fail
        refine (And_makes _ _ _ _ _ _ a b _ HA8.out HB8.out (by omega) (by omega)).mono ?_
        intro e w9 hM
        obtain ⟨A9, c9, rfl, H9, B9⟩ := hM.at_ HZL.out
        have HA9 := Lib.hid (HA8.out.below B9.out)
        have HB9 := Lib.hid (HB8.out.below B9.out)
        have C9 := Lib.hid (below_step C8.out B9.out)
        generalize andL a b = both at *
        go_wp2_with fail
        refine (Zeros_any _ _ _ both _ H9.out (by omega)).mono ?_
        rintro e w' ⟨rfl, rfl⟩
        go_wp2_with fail
        refine (Zeros_any _ _ _ a _ HA9.out (by omega)).mono ?_
        rintro e w' ⟨rfl, rfl⟩
        go_wp2_with fail
        refine (Zeros_any _ _ _ both _ H9.out (by omega)).mono ?_
        rintro e w' ⟨rfl, rfl⟩
        go_wp2_with fail
        refine (Zeros_any _ _ _ b _ HB9.out (by omega)).mono ?_
        rintro e w' ⟨rfl, rfl⟩
        go_wp2_with fail
        refine (And_makes _ _ _ _ _ _ both a _ H9.out HA9.out (by omega) (by omega)).mono ?_
        intro e w10 hM
        rw [HS.out] at hM
        obtain ⟨A10, c10, rfl, H10, B10⟩ := hM.at_ HZL.out
        have H910 := Lib.hid (H9.out.below B10.out)
        have C10 := Lib.hid (below_step C9.out B10.out)
        go_wp2_with fail
        refine (Same_any _ _ _ _ _ _ both both _ H10.out H910.out (by omega) (by omega)).mono ?_
        intro e w11 hM
        obtain ⟨rfl, B11⟩ := hM.at_
        rw [show decide (both = both) = true from decide_eq_true rfl]
        go_wp2
        go_ret
        exact ⟨rfl, below_step C10.out B11.out⟩
      · have hne : ((n : Int) == (m : Int)) = false := beq_eq_false_iff_ne.2 (by omega)
        obtain ⟨w8, hw8⟩ : ∃ w8, w8 = w5 := ⟨_, rfl⟩
        subst hw8
        have HA8 := HA5
        have HB8 := HB5
        have C8 := C5
        clear HA5 HB5 C5
        have hz1 := zeros_and a b HA.out.2
        have hz2 := zeros_and b a HB.out.2
        rw [andL_comm b a] at hz2
        obtain ⟨z, hzl⟩ : ∃ z, (andL a b).length = z := ⟨_, rfl⟩
        have hzm : z = max n m := by rw [← hzl, andL_length, HAL.out, HBL.out]
        rw [hzl, HAL.out] at hz1
        rw [hzl, HBL.out] at hz2
        have hmax : max (n : Int) (m : Int) = (z : Int) := by omega
        have hz5 : z ≤ 500 := by omega
        have HZL := Lib.hid hzl
        have HS := Lib.hid (andL_self_left a b)
        have HT := Lib.hid (andL_lt a b HA.out.2)
        clear hzm hzl
        go_wp2_with fail
        refine (And_makes _ _ _ _ _ _ a b _ HA8.out HB8.out (by omega) (by omega)).mono ?_
        intro e w9 hM
        obtain ⟨A9, c9, rfl, H9, B9⟩ := hM.at_ HZL.out
        have HA9 := Lib.hid (HA8.out.below B9.out)
        have HB9 := Lib.hid (HB8.out.below B9.out)
        have C9 := Lib.hid (below_step C8.out B9.out)
        generalize andL a b = both at *
        go_wp2_with fail
        refine (Zeros_any _ _ _ both _ H9.out (by omega)).mono ?_
        rintro e w' ⟨rfl, rfl⟩
        go_wp2_with fail
        refine (Zeros_any _ _ _ a _ HA9.out (by omega)).mono ?_
        rintro e w' ⟨rfl, rfl⟩
        go_wp2_with fail
        refine (Zeros_any _ _ _ both _ H9.out (by omega)).mono ?_
        rintro e w' ⟨rfl, rfl⟩
        go_wp2_with fail
        refine (Zeros_any _ _ _ b _ HB9.out (by omega)).mono ?_
        rintro e w' ⟨rfl, rfl⟩
        go_wp2_with fail
        refine (And_makes _ _ _ _ _ _ both a _ H9.out HA9.out (by omega) (by omega)).mono ?_
        intro e w10 hM
        rw [HS.out] at hM
        obtain ⟨A10, c10, rfl, H10, B10⟩ := hM.at_ HZL.out
        have H910 := Lib.hid (H9.out.below B10.out)
        have C10 := Lib.hid (below_step C9.out B10.out)
        go_wp2_with fail
        refine (Same_any _ _ _ _ _ _ both both _ H10.out H910.out (by omega) (by omega)).mono ?_
        intro e w11 hM
        obtain ⟨rfl, B11⟩ := hM.at_
        rw [show decide (both = both) = true from decide_eq_true rfl]
        go_wp2
        go_ret
        exact ⟨rfl, below_step C10.out B11.out⟩
end Go.Proofs.Ytladbcbgflkpaaa
