/-
  The walk of the law HammingPlaces over the landed code, out of its callees' contracts: for whatever bit and place it returns true, and nothing that was there has turned.
-/
import Derived.Test.YtppkddnifjgllaaHamD
import Derived.Test.YtppkddnifjgllaaHamG
namespace Go.Proofs.Ytppkddnifjgllaa
open Go.RowKit

theorem Bit_back (k : Nat) (w : World) (h : k ≤ 1048576) : Calls Try.prog 10 #[.int .i64 ((place k : Nat) : Int)] w fun e w' => e = .returned (.tuple #[.int .i64 (k : Int), .bool true]) ∧ w = w' := by
  have h1 := place_lt21 k h
  have h2 := place_form k
  have h3 := Bit_is (place k) w (place_ge k) (by omega) (place_not k)
  rwa [show place k - 2 - (place k).log2 = k by omega] at h3
set_option maxHeartbeats 4000000 in
set_option maxRecDepth 100000 in
theorem HammingPlaces_1 (k : Int) (hk : k < 0) (p : Int) (w : World) (hp0 : -9223372036854775808 ≤ p) (hp1 : p ≤ 9223372036854775807) :
    Calls Try.prog 3 #[.int .i64 (k : Int), .int .i64 p] w (Gives (.bool true) w) := by
  have hK0 : decide (k < 0) = true := decide_eq_true hk
  have hPlK := fun w' => Place_no k w' (Or.inl hk)
  by_cases hA : p < 3
  · have hd : decide (p < 3) = true := decide_eq_true hA
    have hBit := fun w' => Bit_not p w' hp0 hp1 (Or.inl hA)
    go_enter Try.func3, Try.ntmps3
    go_wp2_with (first | (go_at_call 8; refine (awake5_any _).mono ?_; rintro e w' ⟨rfl, rfl⟩) | (go_at_call 9; with_reducible refine (hPlK _).mono ?_; rintro e w' ⟨rfl, rfl⟩) | (go_at_call 10; with_reducible refine (hBit _).mono ?_; rintro e w' ⟨rfl, rfl⟩))
    go_ret
    exact ⟨rfl, Below.refl _ _⟩
  · by_cases hB : 2097152 < p
    · have hd : decide (p < 3) = false := decide_eq_false hA
      have hd2 : decide (2097152 < p) = true := decide_eq_true hB
      have hBit := fun w' => Bit_not p w' hp0 hp1 (Or.inr (Or.inl hB))
      go_enter Try.func3, Try.ntmps3
      go_wp2_with (first | (go_at_call 8; refine (awake5_any _).mono ?_; rintro e w' ⟨rfl, rfl⟩) | (go_at_call 9; with_reducible refine (hPlK _).mono ?_; rintro e w' ⟨rfl, rfl⟩) | (go_at_call 10; with_reducible refine (hBit _).mono ?_; rintro e w' ⟨rfl, rfl⟩))
      go_ret
      exact ⟨rfl, Below.refl _ _⟩
    · by_cases hC : powB p.toNat = true
      · obtain ⟨q, rfl⟩ := Int.eq_ofNat_of_zero_le (show 0 ≤ p by omega)
        have hd : decide ((q : Int) < 3) = false := decide_eq_false hA
        have hd2 : decide (2097152 < (q : Int)) = false := decide_eq_false hB
        rw [Int.toNat_natCast] at hC
        have hBit := fun w' => Bit_not (q : Int) w' hp0 hp1 (Or.inr (Or.inr (by rw [Int.toNat_natCast]; exact hC)))
        have hPow := fun w' => Power_is (q : Int) q true w' rfl hC (by omega)
        clear hC
        go_enter Try.func3, Try.ntmps3
        go_wp2_with (first | (go_at_call 8; refine (awake5_any _).mono ?_; rintro e w' ⟨rfl, rfl⟩) | (go_at_call 9; with_reducible refine (hPlK _).mono ?_; rintro e w' ⟨rfl, rfl⟩) | (go_at_call 10; with_reducible refine (hBit _).mono ?_; rintro e w' ⟨rfl, rfl⟩) | (go_at_call 11; with_reducible refine (hPow _).mono ?_; rintro e w' ⟨rfl, rfl⟩))
        go_ret
        exact ⟨rfl, Below.refl _ _⟩
      · obtain ⟨q, rfl⟩ := Int.eq_ofNat_of_zero_le (show 0 ≤ p by omega)
        have hd : decide ((q : Int) < 3) = false := decide_eq_false hA
        have hd2 : decide (2097152 < (q : Int)) = false := decide_eq_false hB
        rw [Int.toNat_natCast, Bool.not_eq_true] at hC
        have hBit := fun w' => Bit_is q w' (by omega) (by omega) hC
        have hPow := fun w' => Power_is (q : Int) q false w' rfl hC (by omega)
        have hPlB : ∀ w', q - 2 - q.log2 ≤ 1048576 → Calls Try.prog 9 #[.int .i64 ((q - 2 - q.log2 : Nat) : Int)] w' fun e w'' => e = .returned (.int .i64 (q : Int)) ∧ w' = w'' := fun w' h => by
          obtain ⟨j, e1, e2⟩ := place_of q (by omega) hC
          rw [show q - 2 - q.log2 = j by omega]
          have := Place_any j w' (by omega)
          rwa [e1] at this
        clear hC
        have hbq : q - 2 - q.log2 ≤ q := by omega
        generalize q - 2 - q.log2 = b at *
        by_cases hb1 : 1048576 < b
        · have hb2 : decide (1048576 < (b : Int)) = true := decide_eq_true (by omega)
          go_enter Try.func3, Try.ntmps3
          go_wp2_with (first | (go_at_call 8; refine (awake5_any _).mono ?_; rintro e w' ⟨rfl, rfl⟩) | (go_at_call 9; with_reducible refine (hPlK _).mono ?_; rintro e w' ⟨rfl, rfl⟩) | (go_at_call 10; with_reducible refine (hBit _).mono ?_; rintro e w' ⟨rfl, rfl⟩) | (go_at_call 11; with_reducible refine (hPow _).mono ?_; rintro e w' ⟨rfl, rfl⟩))
          go_ret
          exact ⟨rfl, Below.refl _ _⟩
        · have hb2 : decide (1048576 < (b : Int)) = false := decide_eq_false (by omega)
          replace hPlB := fun w' => hPlB w' (by omega)
          go_enter Try.func3, Try.ntmps3
          go_wp2_with (first | (go_at_call 8; refine (awake5_any _).mono ?_; rintro e w' ⟨rfl, rfl⟩) | (go_at_call 9; with_reducible refine (hPlK _).mono ?_; rintro e w' ⟨rfl, rfl⟩) | (go_at_call 10; with_reducible refine (hBit _).mono ?_; rintro e w' ⟨rfl, rfl⟩) | (go_at_call 11; with_reducible refine (hPow _).mono ?_; rintro e w' ⟨rfl, rfl⟩) | (go_at_call 9; with_reducible refine (hPlB _).mono ?_; rintro e w' ⟨rfl, rfl⟩))
          go_ret
          exact ⟨rfl, Below.refl _ _⟩
set_option maxHeartbeats 4000000 in
set_option maxRecDepth 100000 in
theorem HammingPlaces_2 (k : Int) (hk : 1048576 < k) (p : Int) (w : World) (hp0 : -9223372036854775808 ≤ p) (hp1 : p ≤ 9223372036854775807) :
    Calls Try.prog 3 #[.int .i64 (k : Int), .int .i64 p] w (Gives (.bool true) w) := by
  have hK0 : decide (k < 0) = false := decide_eq_false (by omega)
  have hK1 : decide (1048576 < k) = true := decide_eq_true hk
  have hPlK := fun w' => Place_no k w' (Or.inr hk)
  by_cases hA : p < 3
  · have hd : decide (p < 3) = true := decide_eq_true hA
    have hBit := fun w' => Bit_not p w' hp0 hp1 (Or.inl hA)
    go_enter Try.func3, Try.ntmps3
    go_wp2_with (first | (go_at_call 8; refine (awake5_any _).mono ?_; rintro e w' ⟨rfl, rfl⟩) | (go_at_call 9; with_reducible refine (hPlK _).mono ?_; rintro e w' ⟨rfl, rfl⟩) | (go_at_call 10; with_reducible refine (hBit _).mono ?_; rintro e w' ⟨rfl, rfl⟩))
    go_ret
    exact ⟨rfl, Below.refl _ _⟩
  · by_cases hB : 2097152 < p
    · have hd : decide (p < 3) = false := decide_eq_false hA
      have hd2 : decide (2097152 < p) = true := decide_eq_true hB
      have hBit := fun w' => Bit_not p w' hp0 hp1 (Or.inr (Or.inl hB))
      go_enter Try.func3, Try.ntmps3
      go_wp2_with (first | (go_at_call 8; refine (awake5_any _).mono ?_; rintro e w' ⟨rfl, rfl⟩) | (go_at_call 9; with_reducible refine (hPlK _).mono ?_; rintro e w' ⟨rfl, rfl⟩) | (go_at_call 10; with_reducible refine (hBit _).mono ?_; rintro e w' ⟨rfl, rfl⟩))
      go_ret
      exact ⟨rfl, Below.refl _ _⟩
    · by_cases hC : powB p.toNat = true
      · obtain ⟨q, rfl⟩ := Int.eq_ofNat_of_zero_le (show 0 ≤ p by omega)
        have hd : decide ((q : Int) < 3) = false := decide_eq_false hA
        have hd2 : decide (2097152 < (q : Int)) = false := decide_eq_false hB
        rw [Int.toNat_natCast] at hC
        have hBit := fun w' => Bit_not (q : Int) w' hp0 hp1 (Or.inr (Or.inr (by rw [Int.toNat_natCast]; exact hC)))
        have hPow := fun w' => Power_is (q : Int) q true w' rfl hC (by omega)
        clear hC
        go_enter Try.func3, Try.ntmps3
        go_wp2_with (first | (go_at_call 8; refine (awake5_any _).mono ?_; rintro e w' ⟨rfl, rfl⟩) | (go_at_call 9; with_reducible refine (hPlK _).mono ?_; rintro e w' ⟨rfl, rfl⟩) | (go_at_call 10; with_reducible refine (hBit _).mono ?_; rintro e w' ⟨rfl, rfl⟩) | (go_at_call 11; with_reducible refine (hPow _).mono ?_; rintro e w' ⟨rfl, rfl⟩))
        go_ret
        exact ⟨rfl, Below.refl _ _⟩
      · obtain ⟨q, rfl⟩ := Int.eq_ofNat_of_zero_le (show 0 ≤ p by omega)
        have hd : decide ((q : Int) < 3) = false := decide_eq_false hA
        have hd2 : decide (2097152 < (q : Int)) = false := decide_eq_false hB
        rw [Int.toNat_natCast, Bool.not_eq_true] at hC
        have hBit := fun w' => Bit_is q w' (by omega) (by omega) hC
        have hPow := fun w' => Power_is (q : Int) q false w' rfl hC (by omega)
        have hPlB : ∀ w', q - 2 - q.log2 ≤ 1048576 → Calls Try.prog 9 #[.int .i64 ((q - 2 - q.log2 : Nat) : Int)] w' fun e w'' => e = .returned (.int .i64 (q : Int)) ∧ w' = w'' := fun w' h => by
          obtain ⟨j, e1, e2⟩ := place_of q (by omega) hC
          rw [show q - 2 - q.log2 = j by omega]
          have := Place_any j w' (by omega)
          rwa [e1] at this
        clear hC
        have hbq : q - 2 - q.log2 ≤ q := by omega
        generalize q - 2 - q.log2 = b at *
        by_cases hb1 : 1048576 < b
        · have hb2 : decide (1048576 < (b : Int)) = true := decide_eq_true (by omega)
          go_enter Try.func3, Try.ntmps3
          go_wp2_with (first | (go_at_call 8; refine (awake5_any _).mono ?_; rintro e w' ⟨rfl, rfl⟩) | (go_at_call 9; with_reducible refine (hPlK _).mono ?_; rintro e w' ⟨rfl, rfl⟩) | (go_at_call 10; with_reducible refine (hBit _).mono ?_; rintro e w' ⟨rfl, rfl⟩) | (go_at_call 11; with_reducible refine (hPow _).mono ?_; rintro e w' ⟨rfl, rfl⟩))
          go_ret
          exact ⟨rfl, Below.refl _ _⟩
        · have hb2 : decide (1048576 < (b : Int)) = false := decide_eq_false (by omega)
          replace hPlB := fun w' => hPlB w' (by omega)
          go_enter Try.func3, Try.ntmps3
          go_wp2_with (first | (go_at_call 8; refine (awake5_any _).mono ?_; rintro e w' ⟨rfl, rfl⟩) | (go_at_call 9; with_reducible refine (hPlK _).mono ?_; rintro e w' ⟨rfl, rfl⟩) | (go_at_call 10; with_reducible refine (hBit _).mono ?_; rintro e w' ⟨rfl, rfl⟩) | (go_at_call 11; with_reducible refine (hPow _).mono ?_; rintro e w' ⟨rfl, rfl⟩) | (go_at_call 9; with_reducible refine (hPlB _).mono ?_; rintro e w' ⟨rfl, rfl⟩))
          go_ret
          exact ⟨rfl, Below.refl _ _⟩
set_option maxHeartbeats 4000000 in
set_option maxRecDepth 100000 in
theorem HammingPlaces_3 (k : Nat) (hk : k < 300) (p : Int) (w : World) (hp0 : -9223372036854775808 ≤ p) (hp1 : p ≤ 9223372036854775807) :
    Calls Try.prog 3 #[.int .i64 (k : Int), .int .i64 p] w (Gives (.bool true) w) := by
  have hK0 : decide ((k : Int) < 0) = false := decide_eq_false (by omega)
  have hK1 : decide ((1048576 : Int) < (k : Int)) = false := decide_eq_false (by omega)
  have hPlK := fun w' => Place_any k w' (by omega)
  have hBitK := fun w' => Bit_back k w' (by omega)
  have hP3 := place_ge k
  have hP21 := place_lt21 k (by omega)
  have hPowK := fun w' => Power_is ((place k : Nat) : Int) (place k) false w' rfl (place_not k) (by omega)

  have hPlaces : ∀ w', Calls Try.prog 12 #[.int .i64 ((k : Int) + 1)] w' (MakesI (places (k + 1)) w') := fun w' => Places_any (k + 1) w' (by omega)
  have HPA := Lib.hid (places_at (k + 1) k (by omega))
  obtain ⟨P, hP⟩ : ∃ P, place k = P := ⟨_, rfl⟩
  rw [hP] at hPlK hBitK hP3 hP21 hPowK HPA
  clear hP
  have hP3d : decide ((P : Int) < 3) = false := decide_eq_false (by omega)
  have hkk : ((k : Int) != (k : Int)) = false := by simp
  by_cases hA : p < 3
  · have hd : decide (p < 3) = true := decide_eq_true hA
    have hBit := fun w' => Bit_not p w' hp0 hp1 (Or.inl hA)
    go_enter Try.func3, Try.ntmps3
    go_wp2_with (first | (go_at_call 8; refine (awake5_any _).mono ?_; rintro e w' ⟨rfl, rfl⟩) | (go_at_call 9; with_reducible refine (hPlK _).mono ?_; rintro e w' ⟨rfl, rfl⟩) | (go_at_call 10; with_reducible refine (hBit _).mono ?_; rintro e w' ⟨rfl, rfl⟩) | (go_at_call 10; with_reducible refine (hBitK _).mono ?_; rintro e w' ⟨rfl, rfl⟩) | (go_at_call 11; with_reducible refine (hPowK _).mono ?_; rintro e w' ⟨rfl, rfl⟩))
    refine (hPlaces _).mono ?_
    rintro e w2 hM
    obtain ⟨A2, c2, rfl, H2, HB2⟩ := hM.at_ (places_length (k + 1))
    clear hM hPlaces
    obtain ⟨b2, o2, v, rfl, g2, HG2, _, _, hc2⟩ := H2.out.at_ (show k < k + 1 by omega)
    obtain rfl : v = (P : Int) := by
      have := HG2.out
      rw [HPA.out] at this
      injection this with this
      exact this.symm
    go_wp2_with (first | fail)
    go_ret
    exact ⟨rfl, HB2.out⟩
  · by_cases hB : 2097152 < p
    · have hd : decide (p < 3) = false := decide_eq_false hA
      have hd2 : decide (2097152 < p) = true := decide_eq_true hB
      have hBit := fun w' => Bit_not p w' hp0 hp1 (Or.inr (Or.inl hB))
      go_enter Try.func3, Try.ntmps3
      go_wp2_with (first | (go_at_call 8; refine (awake5_any _).mono ?_; rintro e w' ⟨rfl, rfl⟩) | (go_at_call 9; with_reducible refine (hPlK _).mono ?_; rintro e w' ⟨rfl, rfl⟩) | (go_at_call 10; with_reducible refine (hBit _).mono ?_; rintro e w' ⟨rfl, rfl⟩) | (go_at_call 10; with_reducible refine (hBitK _).mono ?_; rintro e w' ⟨rfl, rfl⟩) | (go_at_call 11; with_reducible refine (hPowK _).mono ?_; rintro e w' ⟨rfl, rfl⟩))
      refine (hPlaces _).mono ?_
      rintro e w2 hM
      obtain ⟨A2, c2, rfl, H2, HB2⟩ := hM.at_ (places_length (k + 1))
      clear hM hPlaces
      obtain ⟨b2, o2, v, rfl, g2, HG2, _, _, hc2⟩ := H2.out.at_ (show k < k + 1 by omega)
      obtain rfl : v = (P : Int) := by
        have := HG2.out
        rw [HPA.out] at this
        injection this with this
        exact this.symm
      go_wp2_with (first | fail)
      go_ret
      exact ⟨rfl, HB2.out⟩
    · by_cases hC : powB p.toNat = true
      · obtain ⟨q, rfl⟩ := Int.eq_ofNat_of_zero_le (show 0 ≤ p by omega)
        have hd : decide ((q : Int) < 3) = false := decide_eq_false hA
        have hd2 : decide (2097152 < (q : Int)) = false := decide_eq_false hB
        rw [Int.toNat_natCast] at hC
        have hBit := fun w' => Bit_not (q : Int) w' hp0 hp1 (Or.inr (Or.inr (by rw [Int.toNat_natCast]; exact hC)))
        have hPow := fun w' => Power_is (q : Int) q true w' rfl hC (by omega)
        clear hC
        go_enter Try.func3, Try.ntmps3
        go_wp2_with (first | (go_at_call 8; refine (awake5_any _).mono ?_; rintro e w' ⟨rfl, rfl⟩) | (go_at_call 9; with_reducible refine (hPlK _).mono ?_; rintro e w' ⟨rfl, rfl⟩) | (go_at_call 10; with_reducible refine (hBit _).mono ?_; rintro e w' ⟨rfl, rfl⟩) | (go_at_call 10; with_reducible refine (hBitK _).mono ?_; rintro e w' ⟨rfl, rfl⟩) | (go_at_call 11; with_reducible refine (hPowK _).mono ?_; rintro e w' ⟨rfl, rfl⟩))
        refine (hPlaces _).mono ?_
        rintro e w2 hM
        obtain ⟨A2, c2, rfl, H2, HB2⟩ := hM.at_ (places_length (k + 1))
        clear hM hPlaces
        obtain ⟨b2, o2, v, rfl, g2, HG2, _, _, hc2⟩ := H2.out.at_ (show k < k + 1 by omega)
        obtain rfl : v = (P : Int) := by
          have := HG2.out
          rw [HPA.out] at this
          injection this with this
          exact this.symm
        go_wp2_with (first | (go_at_call 11; with_reducible refine (hPow _).mono ?_; rintro e w' ⟨rfl, rfl⟩))
        go_ret
        exact ⟨rfl, HB2.out⟩
      · obtain ⟨q, rfl⟩ := Int.eq_ofNat_of_zero_le (show 0 ≤ p by omega)
        have hd : decide ((q : Int) < 3) = false := decide_eq_false hA
        have hd2 : decide (2097152 < (q : Int)) = false := decide_eq_false hB
        rw [Int.toNat_natCast, Bool.not_eq_true] at hC
        have hBit := fun w' => Bit_is q w' (by omega) (by omega) hC
        have hPow := fun w' => Power_is (q : Int) q false w' rfl hC (by omega)
        have hPlB : ∀ w', q - 2 - q.log2 ≤ 1048576 → Calls Try.prog 9 #[.int .i64 ((q - 2 - q.log2 : Nat) : Int)] w' fun e w'' => e = .returned (.int .i64 (q : Int)) ∧ w' = w'' := fun w' h => by
          obtain ⟨j, e1, e2⟩ := place_of q (by omega) hC
          rw [show q - 2 - q.log2 = j by omega]
          have := Place_any j w' (by omega)
          rwa [e1] at this
        clear hC
        have hbq : q - 2 - q.log2 ≤ q := by omega
        generalize q - 2 - q.log2 = b at *
        by_cases hb1 : 1048576 < b
        · have hb2 : decide (1048576 < (b : Int)) = true := decide_eq_true (by omega)
          go_enter Try.func3, Try.ntmps3
          go_wp2_with (first | (go_at_call 8; refine (awake5_any _).mono ?_; rintro e w' ⟨rfl, rfl⟩) | (go_at_call 9; with_reducible refine (hPlK _).mono ?_; rintro e w' ⟨rfl, rfl⟩) | (go_at_call 10; with_reducible refine (hBit _).mono ?_; rintro e w' ⟨rfl, rfl⟩) | (go_at_call 10; with_reducible refine (hBitK _).mono ?_; rintro e w' ⟨rfl, rfl⟩) | (go_at_call 11; with_reducible refine (hPowK _).mono ?_; rintro e w' ⟨rfl, rfl⟩))
          refine (hPlaces _).mono ?_
          rintro e w2 hM
          obtain ⟨A2, c2, rfl, H2, HB2⟩ := hM.at_ (places_length (k + 1))
          clear hM hPlaces
          obtain ⟨b2, o2, v, rfl, g2, HG2, _, _, hc2⟩ := H2.out.at_ (show k < k + 1 by omega)
          obtain rfl : v = (P : Int) := by
            have := HG2.out
            rw [HPA.out] at this
            injection this with this
            exact this.symm
          go_wp2_with (first | (go_at_call 11; with_reducible refine (hPow _).mono ?_; rintro e w' ⟨rfl, rfl⟩))
          go_ret
          exact ⟨rfl, HB2.out⟩
        · have hb2 : decide (1048576 < (b : Int)) = false := decide_eq_false (by omega)
          replace hPlB := fun w' => hPlB w' (by omega)
          go_enter Try.func3, Try.ntmps3
          go_wp2_with (first | (go_at_call 8; refine (awake5_any _).mono ?_; rintro e w' ⟨rfl, rfl⟩) | (go_at_call 9; with_reducible refine (hPlK _).mono ?_; rintro e w' ⟨rfl, rfl⟩) | (go_at_call 10; with_reducible refine (hBit _).mono ?_; rintro e w' ⟨rfl, rfl⟩) | (go_at_call 10; with_reducible refine (hBitK _).mono ?_; rintro e w' ⟨rfl, rfl⟩) | (go_at_call 11; with_reducible refine (hPowK _).mono ?_; rintro e w' ⟨rfl, rfl⟩))
          refine (hPlaces _).mono ?_
          rintro e w2 hM
          obtain ⟨A2, c2, rfl, H2, HB2⟩ := hM.at_ (places_length (k + 1))
          clear hM hPlaces
          obtain ⟨b2, o2, v, rfl, g2, HG2, _, _, hc2⟩ := H2.out.at_ (show k < k + 1 by omega)
          obtain rfl : v = (P : Int) := by
            have := HG2.out
            rw [HPA.out] at this
            injection this with this
            exact this.symm
          go_wp2_with (first | (go_at_call 11; with_reducible refine (hPow _).mono ?_; rintro e w' ⟨rfl, rfl⟩) | (go_at_call 9; with_reducible refine (hPlB _).mono ?_; rintro e w' ⟨rfl, rfl⟩))
          go_ret
          exact ⟨rfl, HB2.out⟩
set_option maxHeartbeats 4000000 in
set_option maxRecDepth 100000 in
theorem HammingPlaces_4 (k : Nat) (hk : 300 ≤ k) (hk2 : k ≤ 1048576) (p : Int) (w : World) (hp0 : -9223372036854775808 ≤ p) (hp1 : p ≤ 9223372036854775807) :
    Calls Try.prog 3 #[.int .i64 (k : Int), .int .i64 p] w (Gives (.bool true) w) := by
  have hK0 : decide ((k : Int) < 0) = false := decide_eq_false (by omega)
  have hK1 : decide ((1048576 : Int) < (k : Int)) = false := decide_eq_false (by omega)
  have hPlK := fun w' => Place_any k w' hk2
  have hBitK := fun w' => Bit_back k w' hk2
  have hP3 := place_ge k
  have hP21 := place_lt21 k hk2
  have hPowK := fun w' => Power_is ((place k : Nat) : Int) (place k) false w' rfl (place_not k) (by omega)
  obtain ⟨P, hP⟩ : ∃ P, place k = P := ⟨_, rfl⟩
  rw [hP] at hPlK hBitK hP3 hP21 hPowK
  clear hP
  have hP3d : decide ((P : Int) < 3) = false := decide_eq_false (by omega)
  have hkk : ((k : Int) != (k : Int)) = false := by simp
  by_cases hA : p < 3
  · have hd : decide (p < 3) = true := decide_eq_true hA
    have hBit := fun w' => Bit_not p w' hp0 hp1 (Or.inl hA)
    go_enter Try.func3, Try.ntmps3
    go_wp2_with (first | (go_at_call 8; refine (awake5_any _).mono ?_; rintro e w' ⟨rfl, rfl⟩) | (go_at_call 9; with_reducible refine (hPlK _).mono ?_; rintro e w' ⟨rfl, rfl⟩) | (go_at_call 10; with_reducible refine (hBit _).mono ?_; rintro e w' ⟨rfl, rfl⟩) | (go_at_call 10; with_reducible refine (hBitK _).mono ?_; rintro e w' ⟨rfl, rfl⟩) | (go_at_call 11; with_reducible refine (hPowK _).mono ?_; rintro e w' ⟨rfl, rfl⟩))
    go_ret
    exact ⟨rfl, Below.refl _ _⟩
  · by_cases hB : 2097152 < p
    · have hd : decide (p < 3) = false := decide_eq_false hA
      have hd2 : decide (2097152 < p) = true := decide_eq_true hB
      have hBit := fun w' => Bit_not p w' hp0 hp1 (Or.inr (Or.inl hB))
      go_enter Try.func3, Try.ntmps3
      go_wp2_with (first | (go_at_call 8; refine (awake5_any _).mono ?_; rintro e w' ⟨rfl, rfl⟩) | (go_at_call 9; with_reducible refine (hPlK _).mono ?_; rintro e w' ⟨rfl, rfl⟩) | (go_at_call 10; with_reducible refine (hBit _).mono ?_; rintro e w' ⟨rfl, rfl⟩) | (go_at_call 10; with_reducible refine (hBitK _).mono ?_; rintro e w' ⟨rfl, rfl⟩) | (go_at_call 11; with_reducible refine (hPowK _).mono ?_; rintro e w' ⟨rfl, rfl⟩))
      go_ret
      exact ⟨rfl, Below.refl _ _⟩
    · by_cases hC : powB p.toNat = true
      · obtain ⟨q, rfl⟩ := Int.eq_ofNat_of_zero_le (show 0 ≤ p by omega)
        have hd : decide ((q : Int) < 3) = false := decide_eq_false hA
        have hd2 : decide (2097152 < (q : Int)) = false := decide_eq_false hB
        rw [Int.toNat_natCast] at hC
        have hBit := fun w' => Bit_not (q : Int) w' hp0 hp1 (Or.inr (Or.inr (by rw [Int.toNat_natCast]; exact hC)))
        have hPow := fun w' => Power_is (q : Int) q true w' rfl hC (by omega)
        clear hC
        go_enter Try.func3, Try.ntmps3
        go_wp2_with (first | (go_at_call 8; refine (awake5_any _).mono ?_; rintro e w' ⟨rfl, rfl⟩) | (go_at_call 9; with_reducible refine (hPlK _).mono ?_; rintro e w' ⟨rfl, rfl⟩) | (go_at_call 10; with_reducible refine (hBit _).mono ?_; rintro e w' ⟨rfl, rfl⟩) | (go_at_call 10; with_reducible refine (hBitK _).mono ?_; rintro e w' ⟨rfl, rfl⟩) | (go_at_call 11; with_reducible refine (hPowK _).mono ?_; rintro e w' ⟨rfl, rfl⟩) | (go_at_call 11; with_reducible refine (hPow _).mono ?_; rintro e w' ⟨rfl, rfl⟩))
        go_ret
        exact ⟨rfl, Below.refl _ _⟩
      · obtain ⟨q, rfl⟩ := Int.eq_ofNat_of_zero_le (show 0 ≤ p by omega)
        have hd : decide ((q : Int) < 3) = false := decide_eq_false hA
        have hd2 : decide (2097152 < (q : Int)) = false := decide_eq_false hB
        rw [Int.toNat_natCast, Bool.not_eq_true] at hC
        have hBit := fun w' => Bit_is q w' (by omega) (by omega) hC
        have hPow := fun w' => Power_is (q : Int) q false w' rfl hC (by omega)
        have hPlB : ∀ w', q - 2 - q.log2 ≤ 1048576 → Calls Try.prog 9 #[.int .i64 ((q - 2 - q.log2 : Nat) : Int)] w' fun e w'' => e = .returned (.int .i64 (q : Int)) ∧ w' = w'' := fun w' h => by
          obtain ⟨j, e1, e2⟩ := place_of q (by omega) hC
          rw [show q - 2 - q.log2 = j by omega]
          have := Place_any j w' (by omega)
          rwa [e1] at this
        clear hC
        have hbq : q - 2 - q.log2 ≤ q := by omega
        generalize q - 2 - q.log2 = b at *
        by_cases hb1 : 1048576 < b
        · have hb2 : decide (1048576 < (b : Int)) = true := decide_eq_true (by omega)
          go_enter Try.func3, Try.ntmps3
          go_wp2_with (first | (go_at_call 8; refine (awake5_any _).mono ?_; rintro e w' ⟨rfl, rfl⟩) | (go_at_call 9; with_reducible refine (hPlK _).mono ?_; rintro e w' ⟨rfl, rfl⟩) | (go_at_call 10; with_reducible refine (hBit _).mono ?_; rintro e w' ⟨rfl, rfl⟩) | (go_at_call 10; with_reducible refine (hBitK _).mono ?_; rintro e w' ⟨rfl, rfl⟩) | (go_at_call 11; with_reducible refine (hPowK _).mono ?_; rintro e w' ⟨rfl, rfl⟩) | (go_at_call 11; with_reducible refine (hPow _).mono ?_; rintro e w' ⟨rfl, rfl⟩))
          go_ret
          exact ⟨rfl, Below.refl _ _⟩
        · have hb2 : decide (1048576 < (b : Int)) = false := decide_eq_false (by omega)
          replace hPlB := fun w' => hPlB w' (by omega)
          go_enter Try.func3, Try.ntmps3
          go_wp2_with (first | (go_at_call 8; refine (awake5_any _).mono ?_; rintro e w' ⟨rfl, rfl⟩) | (go_at_call 9; with_reducible refine (hPlK _).mono ?_; rintro e w' ⟨rfl, rfl⟩) | (go_at_call 10; with_reducible refine (hBit _).mono ?_; rintro e w' ⟨rfl, rfl⟩) | (go_at_call 10; with_reducible refine (hBitK _).mono ?_; rintro e w' ⟨rfl, rfl⟩) | (go_at_call 11; with_reducible refine (hPowK _).mono ?_; rintro e w' ⟨rfl, rfl⟩) | (go_at_call 11; with_reducible refine (hPow _).mono ?_; rintro e w' ⟨rfl, rfl⟩) | (go_at_call 9; with_reducible refine (hPlB _).mono ?_; rintro e w' ⟨rfl, rfl⟩))
          go_ret
          exact ⟨rfl, Below.refl _ _⟩
theorem HammingPlaces_walk (k p : Int) (w : World) (hk0 : -9223372036854775808 ≤ k) (hk1 : k ≤ 9223372036854775807) (hp0 : -9223372036854775808 ≤ p) (hp1 : p ≤ 9223372036854775807) :
    Calls Try.prog 3 #[.int .i64 k, .int .i64 p] w (Gives (.bool true) w) := by
  by_cases h0 : k < 0
  · exact HammingPlaces_1 k h0 p w hp0 hp1
  · by_cases h1 : 1048576 < k
    · exact HammingPlaces_2 k h1 p w hp0 hp1
    · obtain ⟨j, rfl⟩ := Int.eq_ofNat_of_zero_le (show 0 ≤ k by omega)
      by_cases h2 : j < 300
      · exact HammingPlaces_3 j h2 p w hp0 hp1
      · exact HammingPlaces_4 j (by omega) (by omega) p w hp0 hp1
end Go.Proofs.Ytppkddnifjgllaa
