/-
  The walk of the law BitsTells over the landed code, out of its callees' contracts: for whatever bytes, places and place it returns true, and nothing that was there has turned.
-/
import Derived.Test.YtladbcbgflkpaaaBitsE
import Derived.Test.YtladbcbgflkpaaaRefB
namespace Go.Proofs.Ytladbcbgflkpaaa
open Go.RowKit

set_option maxHeartbeats 1000000 in
theorem Tells_walk (A P : Option Addr) (n c k q : Nat) (i : Int) (a : List Nat) (ps : List Int) (w : World) (ha : R8 w A n a) (hp : R64 w P k ps)
    (hn : n ≤ 9223372036854775807) (hk : k ≤ 9223372036854775807) (hi0 : -9223372036854775808 ≤ i) (hi1 : i ≤ 9223372036854775807) :
    Calls Try.prog 3 #[.slice A n c, .slice P k q, .int .i64 i] w (Gives (.bool true) w) := by
  have HA := Lib.hid ha
  have HP := Lib.hid hp
  have ho : ones a ≤ 8 * n := by have := ones_le a ha.2; rw [ha.len] at this; exact this
  have HAL := Lib.hid ha.len
  clear ha hp
  go_enter Try.func3, Try.ntmps3
  go_wp2_with fail
  refine (awake_any _).mono ?_
  rintro e w1 ⟨rfl, h1⟩
  have B1 := Lib.hid h1
  clear h1
  go_wp2_with fail
  refine (many1 _ n c _ A _ hn (by simp)).mono ?_
  rintro e w' ⟨rfl, rfl⟩
  have B2 := Lib.hid (B1.out.alloc B1.out.size (.cells #[.slice A n c] 22))
  by_cases ht : tooLong [n] = true
  · go_wp2
    go_ret
    exact ⟨rfl, B2.out⟩
  · have ht0 : tooLong [n] = false := by simpa using ht
    clear ht
    have hn5 : n ≤ 500 := by simpa [tooLong] using ht0
    by_cases hk1 : 100 < k
    · go_wp2
      go_ret
      exact ⟨rfl, B2.out⟩
    · generalize hw2 : w1.alloc (.cells #[.slice A n c] 22) = w2 at *
      clear hw2
      have HA2 := Lib.hid (HA.out.below B2.out)
      have HP2 := Lib.hid (HP.out.below B2.out)
      go_wp2_with fail
      refine (Get_any _ _ _ a i _ HA2.out hi0 hi1).mono ?_
      intro e w3 hM
      obtain ⟨rfl, B3⟩ := hM.at_
      have HA3 := Lib.hid (HA2.out.below B3.out)
      have HP3 := Lib.hid (HP2.out.below B3.out)
      have C3 := Lib.hid (below_step B2.out B3.out)
      clear B1 B2 HA2 HP2 B3
      obtain ⟨g, hg, hbit⟩ : ∃ g : Bool, getI a i = g ∧ Calls Try.prog 10 #[.slice A n c, .int .i64 i] w3 fun e w' => (∃ v : Int, e = .returned (.int .i64 v) ∧ (v == 1) = g ∧ -1 ≤ v ∧ v ≤ 1) ∧ w3 = w' := by
        by_cases hi : 0 ≤ i ∧ i / 8 < n
        · obtain ⟨j, rfl⟩ := Int.eq_ofNat_of_zero_le hi.1
          refine ⟨getN a j, by simp [getI], (Bit_yes A n c a j w3 HA3.out (by omega) (by omega)).mono (fun e w' h => ⟨⟨_, h.1, ?_, ?_⟩, h.2⟩)⟩
          · cases getN a j <;> rfl
          · have := bi_01 (getN a j); omega
        · exact ⟨false, getI_no a i (by rw [HAL.out]; exact hi), (Bit_no A n c i w3 hi0 hi1 hi).mono (fun e w' h => ⟨⟨_, h.1, rfl, by omega⟩, h.2⟩)⟩
      have HBit := Lib.hid hbit
      clear hbit
      rw [hg]
      clear hg
      go_wp2_with fail
      refine HBit.out.mono ?_
      rintro e w' ⟨⟨v, rfl, hv, hv0, hv1⟩, rfl⟩
      go_wp2_with fail
      refine (Flip_makes _ _ _ _ _ _ a ps _ HA3.out HP3.out (by omega) (by omega)).mono ?_
      intro e w4 hM
      obtain ⟨A4, c4, rfl, H4, B4⟩ := hM.at_ (n := n) (by rw [flips_length, HAL.out])
      have HA4 := Lib.hid (HA3.out.below B4.out)
      have HP4 := Lib.hid (HP3.out.below B4.out)
      have C4 := Lib.hid (below_step C3.out B4.out)
      go_wp2_with fail
      refine (RefFlip_any _ _ _ _ _ _ a ps _ HA4.out HP4.out (by omega) (by omega)).mono ?_
      intro e w5 hM
      obtain ⟨A5, c5, rfl, H5, B5⟩ := hM.at_ (n := n) (by rw [flips_length, HAL.out])
      have HA5 := Lib.hid (HA4.out.below B5.out)
      have H45 := Lib.hid (H4.out.below B5.out)
      have C5 := Lib.hid (below_step C4.out B5.out)
      go_wp2_with fail
      refine (Same_any _ _ _ _ _ _ _ _ _ H45.out H5.out (by omega) (by omega)).mono ?_
      intro e w6 hM
      obtain ⟨rfl, B6⟩ := hM.at_
      have HA6 := Lib.hid (HA5.out.below B6.out)
      have C6 := Lib.hid (below_step C5.out B6.out)
      rw [show decide (flips a ps = flips a ps) = true from decide_eq_true rfl]
      clear C3 HA3 HP3 H4 B4 HA4 HP4 C4 H5 B5 HA5 H45 C5 B6 HBit
      go_wp2_with fail
      refine (Zeros_any _ _ _ a _ HA6.out (by omega)).mono ?_
      rintro e w' ⟨rfl, rfl⟩
      go_wp2_with fail
      refine (RefZeros_any _ _ _ a _ HA6.out (by omega)).mono ?_
      rintro e w7 ⟨rfl, h7⟩
      have B7 := Lib.hid h7
      clear h7
      have HA7 := Lib.hid (HA6.out.below B7.out)
      have C7 := Lib.hid (below_step C6.out B7.out)
      go_wp2_with fail
      refine (Count_any _ _ _ a _ HA7.out (by omega)).mono ?_
      rintro e w' ⟨rfl, rfl⟩
      go_wp2_with fail
      refine (RefZeros_any _ _ _ a _ HA7.out (by omega)).mono ?_
      rintro e w8 ⟨rfl, h8⟩
      have B8 := Lib.hid h8
      clear h8
      go_wp2
      go_ret
      exact ⟨ret_bool (by simp; omega), below_step C7.out B8.out⟩
end Go.Proofs.Ytladbcbgflkpaaa
