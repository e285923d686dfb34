/-
  The walk of the law HammingOne over the landed code, out of its callees' contracts: for whatever bytes and number it returns true, and nothing that was there has turned.
-/
import Derived.Test.YtppkddnifjgllaaHamD
import Derived.Test.YtppkddnifjgllaaBitsFlip
namespace Go.Proofs.Ytppkddnifjgllaa
open Go.RowKit

theorem one_int (w : World) (x : Int) (t : TypeId) (h0 : -9223372036854775808 ≤ x) (h1 : x ≤ 9223372036854775807) : R64 (w.alloc (.cells #[.int .i64 x] t)) (some ⟨w.heap.size, 0, none⟩) 1 [x] := by
  refine ⟨⟨rfl, fun _ => ⟨_, 0, rfl, by simp, fun j hj => ?_⟩⟩, by simp; omega⟩
  match j, hj with
  | 0, _ => simp [I64]
theorem flips_one (l : List Nat) (k : Int) : flips l [k] = flip1 l k := rfl

theorem turn_word (W i : Nat) (hW : W < 65536) (hi : i < 16) : Go.bits .xor .u16 (W : Int) (IntKind.u16.wrap (2 ^ i)) = ((W ^^^ 2 ^ i : Nat) : Int) := by
  have h1 : 2 ^ i < 65536 := Nat.pow_lt_pow_right (a := 2) (m := i) (n := 16) (by omega) hi
  have h2 : ((2 : Int) ^ i) = ((2 ^ i : Nat) : Int) := by rw [Int.natCast_pow]; rfl
  have h3 : ∀ q : Nat, q < 65536 → IntKind.u16.wrap (q : Int) = (q : Int) := by
    intro q hq
    simp only [IntKind.wrap, IntKind.bits, IntKind.signed]
    simp only [Bool.false_eq_true, Bool.false_and, if_false]
    omega
  rw [h2, h3 _ h1]
  exact u16_xor_nat W (2 ^ i) hW h1
theorem turn_lt (W i : Nat) (hW : W < 65536) (hi : i < 16) : W ^^^ 2 ^ i < 65536 := Nat.xor_lt_two_pow (n := 16) hW (Nat.pow_lt_pow_right (by omega) hi)

set_option maxHeartbeats 1000000 in
theorem HammingOne_walk (A : Option Addr) (n c : Nat) (l : List Nat) (a : Nat) (w : World) (hr : R8 w A n l) (hn : n ≤ 9223372036854775807) (ha : a < 65536) :
    Calls Try.prog 5 #[.slice A n c, .int .u16 (a : Int)] w (Gives (.bool true) w) := by
  have HR := Lib.hid hr
  have hl := hr.len
  clear hr
  by_cases h60 : 60 < n
  · clear hl
    go_enter Try.func5, Try.ntmps5
    go_wp2_with (first | (go_at_call 8; refine (awake5_any _).mono ?_; rintro e w' ⟨rfl, rfl⟩))
    go_ret
    exact ⟨rfl, Below.refl _ _⟩
  · have hW := fun w' (h : R8 w' A n l) => Word_any A n c l w' h (by omega)
    have hw16 := (wordL_parts l (by omega)).2.2.1
    have hJ0 := fun w' (h : R8 w' A n l) => Judge_any A n c l (wordL l) w' h (by omega) hw16
    rw [judge_own l (by omega)] at hJ0
    obtain ⟨k, hk⟩ : ∃ k, a % (8 * n + 16) = k := ⟨_, rfl⟩
    have hk16 : k < 8 * n + 16 := by rw [← hk]; exact Nat.mod_lt _ (by omega)
    have hkm : ((a : Int) % (8 * (n : Int) + 16)) = (k : Int) := by
      rw [← hk, Int.natCast_emod, Int.natCast_add, Int.natCast_mul]
      rfl
    have HL := Lib.hid hl
    by_cases hkn : k < 8 * n
    · have hJ1 : ∀ w' A' c', R8 w' A' n (flip1 l (k : Int)) → Calls Try.prog 14 #[.slice A' n c', .int .u16 (wordL l : Int)] w' (Gives (.tuple #[.int .i64 1, .int .i64 (k : Int), .int .i64 0]) w') := fun w' A' c' h => by
        have := Judge_any A' n c' (flip1 l (k : Int)) (wordL l) w' h (by omega) hw16
        rwa [judge_flip l k (by omega) (by omega)] at this
      generalize wordL l = W at *
      clear hl hk
      go_enter Try.func5, Try.ntmps5
      go_wp2_with (first | (go_at_call 8; refine (awake5_any _).mono ?_; rintro e w' ⟨rfl, rfl⟩))
      refine (hW _ HR.out).mono ?_
      rintro e w1 ⟨rfl, hb1⟩
      have HB1 := Lib.hid hb1
      have HR1 := Lib.hid (HR.out.below hb1)
      clear hb1
      go_wp2_with fail
      refine (hJ0 _ HR1.out).mono ?_
      rintro e w2 ⟨rfl, hb2⟩
      have HB2 := Lib.hid (below_step HB1.out hb2)
      have HR2 := Lib.hid (HR1.out.below hb2)
      clear hb2
      go_wp2_with fail
      have H1 := Lib.hid (one_int w2 (k : Int) 3 (by omega) (by omega))
      have HB3 := Lib.hid (HB2.out.alloc HB2.out.size (.cells #[.int .i64 (k : Int)] 3))
      refine (Flip_makes _ _ _ _ _ _ l [(k : Int)] _ (HR2.out.alloc _) H1.out (by omega) (by omega)).mono ?_
      rintro e w3 hM
      rw [flips_one] at hM
      obtain ⟨A3, c3, rfl, H3, B3⟩ := hM.at_ (n := n) (by rw [flip1_length, HL.out])
      have C3 := Lib.hid (below_step HB3.out B3.out)
      clear hM
      go_wp2_with fail
      refine (hJ1 _ _ _ H3.out).mono ?_
      rintro e w4 ⟨rfl, hb4⟩
      have C4 := Lib.hid (below_step C3.out hb4)
      clear hb4
      go_wp2
      go_ret
      exact ⟨ret_bool (by simp), C4.out⟩
    · obtain ⟨i, hi⟩ : ∃ i, k - 8 * n = i := ⟨_, rfl⟩
      have hi16 : i < 16 := by omega
      have hsub : (k : Int) - 8 * (n : Int) = (i : Int) := by omega
      have hJ1 := fun w' (h : R8 w' A n l) => Judge_any A n c l (wordL l ^^^ 2 ^ i) w' h (by omega) (turn_lt _ _ hw16 hi16)
      rw [← turn_word (wordL l) i hw16 hi16] at hJ1
      by_cases h14 : 14 ≤ i
      · rw [judge_wtop l i (by omega) (by omega)] at hJ1
        generalize wordL l = W at *
        clear hl hk
        go_enter Try.func5, Try.ntmps5
        go_wp2_with (first | (go_at_call 8; refine (awake5_any _).mono ?_; rintro e w' ⟨rfl, rfl⟩))
        refine (hW _ HR.out).mono ?_
        rintro e w1 ⟨rfl, hb1⟩
        have HB1 := Lib.hid hb1
        have HR1 := Lib.hid (HR.out.below hb1)
        clear hb1
        go_wp2_with fail
        refine (hJ0 _ HR1.out).mono ?_
        rintro e w2 ⟨rfl, hb2⟩
        have HB2 := Lib.hid (below_step HB1.out hb2)
        have HR2 := Lib.hid (HR1.out.below hb2)
        clear hb2
        go_wp2_with fail
        refine (hJ1 _ HR2.out).mono ?_
        rintro e w3 ⟨rfl, hb3⟩
        have HB3 := Lib.hid (below_step HB2.out hb3)
        clear hb3
        go_wp2
        go_ret
        exact ⟨ret_bool (by simp), HB3.out⟩
      · rw [judge_wbit l i (by omega) (by omega)] at hJ1
        generalize wordL l = W at *
        clear hl hk
        go_enter Try.func5, Try.ntmps5
        go_wp2_with (first | (go_at_call 8; refine (awake5_any _).mono ?_; rintro e w' ⟨rfl, rfl⟩))
        refine (hW _ HR.out).mono ?_
        rintro e w1 ⟨rfl, hb1⟩
        have HB1 := Lib.hid hb1
        have HR1 := Lib.hid (HR.out.below hb1)
        clear hb1
        go_wp2_with fail
        refine (hJ0 _ HR1.out).mono ?_
        rintro e w2 ⟨rfl, hb2⟩
        have HB2 := Lib.hid (below_step HB1.out hb2)
        have HR2 := Lib.hid (HR1.out.below hb2)
        clear hb2
        go_wp2_with fail
        refine (hJ1 _ HR2.out).mono ?_
        rintro e w3 ⟨rfl, hb3⟩
        have HB3 := Lib.hid (below_step HB2.out hb3)
        clear hb3
        go_wp2
        go_ret
        exact ⟨ret_bool (by simp), HB3.out⟩
end Go.Proofs.Ytppkddnifjgllaa
