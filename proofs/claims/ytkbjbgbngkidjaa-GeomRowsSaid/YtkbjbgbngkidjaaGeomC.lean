/-
  Contracts of geom.Lower, Upper, Address, Number, and of the document's Right, Raw, Address (package incunableref04), over the landed code.
-/
import Derived.Test.YtkbjbgbngkidjaaGeomB
import Derived.Test.YtkbjbgbngkidjaaIntBits
namespace Go.Proofs.Ytkbjbgbngkidjaa
open Go.RowKit

theorem Lower_any (x : Int) (w : World) (h2 : x ≤ 9223372036854775807) : Calls Try.prog 19 #[.int .i64 x] w fun e w' => e = .returned (.int .i64 (lowerI x)) ∧ w = w' := by
  by_cases h : x < 0
  · have HL := Lib.hid (show lowerI x = 0 by simp [lowerI, h])
    rw [HL.out]
    go_enter Try.func19, Try.ntmps19
    go_wp2
    go_ret
    exact ⟨rfl, rfl⟩
  · have HL := Lib.hid (show lowerI x = x - x % 2 by simp [lowerI, h])
    rw [HL.out]
    have h0 : 0 ≤ x := by omega
    go_enter Try.func19, Try.ntmps19
    go_wp2
    go_ret
    exact ⟨rfl, rfl⟩

theorem Upper_any (x : Int) (w : World) (h2 : x ≤ 9223372036854775807) : Calls Try.prog 20 #[.int .i64 x] w fun e w' => e = .returned (.int .i64 (upperI x)) ∧ w = w' := by
  by_cases h : x < 0
  · have HL := Lib.hid (show upperI x = 0 by simp [upperI, h])
    rw [HL.out]
    go_enter Try.func20, Try.ntmps20
    go_wp2
    go_ret
    exact ⟨rfl, rfl⟩
  · have HL := Lib.hid (show upperI x = lowerI x + 1 by simp [upperI, lowerI, h])
    have hl : 0 ≤ lowerI x ∧ lowerI x ≤ 9223372036854775806 := by unfold lowerI; split <;> omega
    rw [HL.out]
    have h0 : 0 ≤ x := by omega
    go_enter Try.func20, Try.ntmps20
    go_wp2_with (go_at_call 19; refine (Lower_any x _ h2).mono ?_; rintro e w' ⟨rfl, rfl⟩)
    go_ret
    exact ⟨rfl, rfl⟩

theorem R8.two {w : World} {g x y : Nat} {t : TypeId} (hx : x < 256) (hy : y < 256) (hg : g = w.heap.size) : R8 (w.alloc (.cells #[.int .u8 (x : Int), .int .u8 (y : Int)] t)) (some ⟨g, 0, none⟩) 2 [x, y] := by
  subst hg
  refine ⟨⟨rfl, fun _ => ⟨_, 0, rfl, by simp, fun j hj => ?_⟩⟩, by intro z hz; simp at hz; omega⟩
  match j, hj with
  | 0, _ => simp [U8]
  | 1, _ => simp [U8]

theorem Address_any (n : Int) (w : World) : Calls Try.prog 18 #[.int .i64 n] w (MakesB (adr n) w) := by
  go_enter Try.func18, Try.ntmps18
  go_wp2
  go_ret
  refine ⟨some ⟨w.heap.size, 0, none⟩, 2, rfl, ?_, (Below.refl _ _).alloc (Nat.le_refl _) _⟩
  have e0 : n % 256 = (((n % 256).toNat : Nat) : Int) := by omega
  have e1 : n / 256 % 256 = (((n / 256 % 256).toNat : Nat) : Int) := by omega
  have h3 : (n % 256).toNat < 256 := by omega
  have h4 : (n / 256 % 256).toNat < 256 := by omega
  unfold adr
  rw [e0, e1]
  exact R8.two h3 h4 rfl

theorem Number_no (A : Option Addr) (n c : Nat) (w : World) (h : n ≠ 2) : Calls Try.prog 16 #[.slice A n c] w fun e w' => e = .returned (.tuple #[.int .i64 0, .bool false]) ∧ w = w' := by
  have hne : ((n : Int) != 2) = true := by simp; omega
  go_enter Try.func16, Try.ntmps16
  go_wp2
  go_ret2
  exact ⟨rfl, rfl⟩

theorem Number_yes (A : Option Addr) (c x y : Nat) (w : World) (hr : R8 w A 2 [x, y]) : Calls Try.prog 16 #[.slice A 2 c] w (Quiet (.tuple #[.int .i64 ((x + 256 * y : Nat) : Int), .bool true]) w) := by
  obtain ⟨g, off, x1, rfl, hb, HX, hx, hc⟩ := hr.at_ (k := 0) (by omega)
  obtain ⟨g2, off2, y1, e, hb2, HY, hy, hc2⟩ := hr.at_ (k := 1) (by omega)
  injection e with e
  injection e with e1 e2
  subst e1 e2
  obtain rfl : x = x1 := by simpa using HX.out
  obtain rfl : y = y1 := by simpa using HY.out
  clear hr
  simp only [Nat.add_zero] at hc
  go_enter Try.func16, Try.ntmps16
  go_wp2
  go_quiet (fail)
  go_wp2
  go_ret2
  refine ⟨?_, _, rfl⟩
  have e : bits .or .i64 (x : Int) ((y : Int) * 256) = ((x + 256 * y : Nat) : Int) := by
    have h1 : ((y : Int) * 256) = ((y * 256 : Nat) : Int) := by simp
    rw [h1, i64_or_nat _ _ (by omega) (by omega), Nat.or_comm, nat_join 8 (y * 256) x (by omega) (by omega)]
    congr 1
    omega
  rw [← e]
  rfl

theorem from_any (n lo hi : Int) (w : World) : Calls Try.prog 22 #[.int .i64 n, .int .i64 lo, .int .i64 hi] w fun e w' => e = .returned (.bool (decide (lo ≤ n ∧ n ≤ hi))) ∧ w = w' := by
  by_cases h1 : lo ≤ n
  · by_cases h2 : n ≤ hi
    · rw [decide_eq_true (show lo ≤ n ∧ n ≤ hi from ⟨h1, h2⟩)]
      go_enter Try.func22, Try.ntmps22
      go_wp2
      go_ret
      exact ⟨rfl, rfl⟩
    · rw [decide_eq_false (show ¬ (lo ≤ n ∧ n ≤ hi) from fun h => h2 h.2)]
      have h2' : hi < n := by omega
      go_enter Try.func22, Try.ntmps22
      go_wp2
      go_ret
      exact ⟨rfl, rfl⟩
  · rw [decide_eq_false (show ¬ (lo ≤ n ∧ n ≤ hi) from fun h => h1 h.1)]
    have h1' : n < lo := by omega
    go_enter Try.func22, Try.ntmps22
    go_wp2
    go_ret
    exact ⟨rfl, rfl⟩

theorem from_yes (n lo hi : Int) (w : World) (h1 : lo ≤ n) (h2 : n ≤ hi) : Calls Try.prog 22 #[.int .i64 n, .int .i64 lo, .int .i64 hi] w fun e w' => e = .returned (.bool true) ∧ w = w' := by
  have h := from_any n lo hi w
  rwa [decide_eq_true (show lo ≤ n ∧ n ≤ hi from ⟨h1, h2⟩)] at h

theorem from_no (n lo hi : Int) (w : World) (h : ¬ (lo ≤ n ∧ n ≤ hi)) : Calls Try.prog 22 #[.int .i64 n, .int .i64 lo, .int .i64 hi] w fun e w' => e = .returned (.bool false) ∧ w = w' := by
  have h1 := from_any n lo hi w
  rwa [decide_eq_false h] at h1

set_option maxHeartbeats 1000000 in
theorem RefRight_any (g : Gm) (w : World) : Calls Try.prog 8 #[g.val] w (Gives (.bool g.ok) w) := by
  obtain ⟨p, b, s, c, k, r, q⟩ := g
  simp only [Gm.val]
  by_cases h0 : 1 ≤ p ∧ p ≤ 4
  · by_cases h1 : 2 ≤ b ∧ b ≤ 256
    · by_cases h2 : 4 ≤ s ∧ s ≤ 64
      · by_cases h3 : 1 ≤ c ∧ c ≤ 16
        · by_cases h4 : 4 ≤ k ∧ k ≤ 512
          · by_cases h5 : 1 ≤ r ∧ r ≤ 8
            · by_cases h6 : 1 ≤ q ∧ q ≤ 8
              · have HZ := Lib.hid (show Gm.sized ⟨p, b, s, c, k, r, q⟩ from ⟨h0, h1, h2, h3, h4, h5, h6⟩)
                have hd := quo_facts (b := b) (p := p) (by omega) (by omega)
                have hd2 := quo_facts (b := s) (p := 2) (by omega) (by omega)
                have e1 := Lib.hid (quo_mul b p)
                have e2 := Lib.hid (quo_mul s 2)
                by_cases hb : b % p = 0
                · have hb1 : (b / p * p == b) = true := by rw [e1.out]; simp [hb]
                  by_cases hs : s % 2 = 0
                  · have hs1 : (s / 2 * 2 == s) = true := by rw [e2.out]; simp [hs]
                    have HO := Lib.hid (show Gm.ok ⟨p, b, s, c, k, r, q⟩ = true from decide_eq_true ⟨HZ.out, hb, hs⟩)
                    rw [HO.out]
                    clear hb hs
                    go_enter Try.func8, Try.ntmps8
                    go_wp2_with (go_at_call 22; first | (refine (from_yes _ _ _ _ (by omega) (by omega)).mono ?_; rintro e w' ⟨rfl, rfl⟩) | (refine (from_no _ _ _ _ (by omega)).mono ?_; rintro e w' ⟨rfl, rfl⟩))
                    go_quiet (fail)
                    go_wp2
                    go_ret
                    exact ⟨rfl, below_drewN ((Below.refl w.heap.size w).alloc (Nat.le_refl _) _) _⟩
                  · have hs1 : (s / 2 * 2 == s) = false := by rw [e2.out]; simp; omega
                    have HO := Lib.hid (show Gm.ok ⟨p, b, s, c, k, r, q⟩ = false from decide_eq_false fun h => hs h.2.2)
                    rw [HO.out]
                    clear hb hs
                    go_enter Try.func8, Try.ntmps8
                    go_wp2_with (go_at_call 22; first | (refine (from_yes _ _ _ _ (by omega) (by omega)).mono ?_; rintro e w' ⟨rfl, rfl⟩) | (refine (from_no _ _ _ _ (by omega)).mono ?_; rintro e w' ⟨rfl, rfl⟩))
                    go_quiet (fail)
                    go_wp2
                    go_ret
                    exact ⟨rfl, below_drewN ((Below.refl w.heap.size w).alloc (Nat.le_refl _) _) _⟩
                · have hb1 : (b / p * p == b) = false := by rw [e1.out]; simp; omega
                  have HO := Lib.hid (show Gm.ok ⟨p, b, s, c, k, r, q⟩ = false from decide_eq_false fun h => hb h.2.1)
                  rw [HO.out]
                  clear hb
                  go_enter Try.func8, Try.ntmps8
                  go_wp2_with (go_at_call 22; first | (refine (from_yes _ _ _ _ (by omega) (by omega)).mono ?_; rintro e w' ⟨rfl, rfl⟩) | (refine (from_no _ _ _ _ (by omega)).mono ?_; rintro e w' ⟨rfl, rfl⟩))
                  go_quiet (fail)
                  go_wp2
                  go_ret
                  exact ⟨rfl, below_drewN ((Below.refl w.heap.size w).alloc (Nat.le_refl _) _) _⟩
              · have HO := Lib.hid (show Gm.ok ⟨p, b, s, c, k, r, q⟩ = false from Gm.ok_not (by simp only [Gm.sized]; omega))
                rw [HO.out]
                go_enter Try.func8, Try.ntmps8
                go_wp2_with (go_at_call 22; first | (refine (from_yes _ _ _ _ (by omega) (by omega)).mono ?_; rintro e w' ⟨rfl, rfl⟩) | (refine (from_no _ _ _ _ (by omega)).mono ?_; rintro e w' ⟨rfl, rfl⟩))
                go_ret
                exact ⟨rfl, ((Below.refl w.heap.size w).alloc (Nat.le_refl _) _)⟩
            · have HO := Lib.hid (show Gm.ok ⟨p, b, s, c, k, r, q⟩ = false from Gm.ok_not (by simp only [Gm.sized]; omega))
              rw [HO.out]
              go_enter Try.func8, Try.ntmps8
              go_wp2_with (go_at_call 22; first | (refine (from_yes _ _ _ _ (by omega) (by omega)).mono ?_; rintro e w' ⟨rfl, rfl⟩) | (refine (from_no _ _ _ _ (by omega)).mono ?_; rintro e w' ⟨rfl, rfl⟩))
              go_ret
              exact ⟨rfl, ((Below.refl w.heap.size w).alloc (Nat.le_refl _) _)⟩
          · have HO := Lib.hid (show Gm.ok ⟨p, b, s, c, k, r, q⟩ = false from Gm.ok_not (by simp only [Gm.sized]; omega))
            rw [HO.out]
            go_enter Try.func8, Try.ntmps8
            go_wp2_with (go_at_call 22; first | (refine (from_yes _ _ _ _ (by omega) (by omega)).mono ?_; rintro e w' ⟨rfl, rfl⟩) | (refine (from_no _ _ _ _ (by omega)).mono ?_; rintro e w' ⟨rfl, rfl⟩))
            go_ret
            exact ⟨rfl, ((Below.refl w.heap.size w).alloc (Nat.le_refl _) _)⟩
        · have HO := Lib.hid (show Gm.ok ⟨p, b, s, c, k, r, q⟩ = false from Gm.ok_not (by simp only [Gm.sized]; omega))
          rw [HO.out]
          go_enter Try.func8, Try.ntmps8
          go_wp2_with (go_at_call 22; first | (refine (from_yes _ _ _ _ (by omega) (by omega)).mono ?_; rintro e w' ⟨rfl, rfl⟩) | (refine (from_no _ _ _ _ (by omega)).mono ?_; rintro e w' ⟨rfl, rfl⟩))
          go_ret
          exact ⟨rfl, ((Below.refl w.heap.size w).alloc (Nat.le_refl _) _)⟩
      · have HO := Lib.hid (show Gm.ok ⟨p, b, s, c, k, r, q⟩ = false from Gm.ok_not (by simp only [Gm.sized]; omega))
        rw [HO.out]
        go_enter Try.func8, Try.ntmps8
        go_wp2_with (go_at_call 22; first | (refine (from_yes _ _ _ _ (by omega) (by omega)).mono ?_; rintro e w' ⟨rfl, rfl⟩) | (refine (from_no _ _ _ _ (by omega)).mono ?_; rintro e w' ⟨rfl, rfl⟩))
        go_ret
        exact ⟨rfl, ((Below.refl w.heap.size w).alloc (Nat.le_refl _) _)⟩
    · have HO := Lib.hid (show Gm.ok ⟨p, b, s, c, k, r, q⟩ = false from Gm.ok_not (by simp only [Gm.sized]; omega))
      rw [HO.out]
      go_enter Try.func8, Try.ntmps8
      go_wp2_with (go_at_call 22; first | (refine (from_yes _ _ _ _ (by omega) (by omega)).mono ?_; rintro e w' ⟨rfl, rfl⟩) | (refine (from_no _ _ _ _ (by omega)).mono ?_; rintro e w' ⟨rfl, rfl⟩))
      go_ret
      exact ⟨rfl, ((Below.refl w.heap.size w).alloc (Nat.le_refl _) _)⟩
  · have HO := Lib.hid (show Gm.ok ⟨p, b, s, c, k, r, q⟩ = false from Gm.ok_not (by simp only [Gm.sized]; omega))
    rw [HO.out]
    go_enter Try.func8, Try.ntmps8
    go_wp2_with (go_at_call 22; first | (refine (from_yes _ _ _ _ (by omega) (by omega)).mono ?_; rintro e w' ⟨rfl, rfl⟩) | (refine (from_no _ _ _ _ (by omega)).mono ?_; rintro e w' ⟨rfl, rfl⟩))
    go_ret
    exact ⟨rfl, ((Below.refl w.heap.size w).alloc (Nat.le_refl _) _)⟩

theorem RefRaw_any (g : Gm) (w : World) (h : g.ok = true) : Calls Try.prog 15 #[g.val] w (Gives (.int .i64 g.raw) w) := by
  have HD := Lib.hid (show g.raw = g.c * g.k + 2 * g.c + 31 by simp only [Gm.raw, h, if_true, Int.mul_add]; omega)
  have hb := Gm.bounds_of h
  clear h
  rw [HD.out]
  obtain ⟨p, b, s, c, k, r, q⟩ := g
  simp only at hb
  have hm : 0 ≤ c * k ∧ c * k ≤ 16 * 512 := mul_le (by omega) (by omega) (by omega) (by omega)
  simp only [Gm.val]
  go_enter Try.func15, Try.ntmps15
  go_wp2
  go_ret
  exact ⟨rfl, (Below.refl w.heap.size w).alloc (Nat.le_refl _) _⟩

theorem low_neg (n : Int) (h : n.tmod 256 < 0) : wrap64 (n.tmod 256 + 256) = n % 256 := by
  have e := Int.tmod_eq_emod (a := n) (b := 256)
  have h1 : n.tmod 256 + 256 = n % 256 := by
    split at e <;> simp at e <;> omega
  rw [h1]
  unfold wrap64
  omega
theorem low_pos (n : Int) (h : 0 ≤ n.tmod 256) : n.tmod 256 = n % 256 := by
  have e := Int.tmod_eq_emod (a := n) (b := 256)
  split at e <;> simp at e <;> omega
theorem mid_quo (n : Int) (h1 : -9223372036854775808 ≤ n) (h2 : n ≤ 9223372036854775807) : wrap64 ((wrap64 (n - n % 256)).tdiv 256) = n / 256 := by
  have e : wrap64 (n - n % 256) = 256 * (n / 256) := by unfold wrap64; omega
  rw [e, Int.mul_tdiv_cancel_left _ (by omega)]
  unfold wrap64
  omega
theorem adr_two {w : World} {n : Int} {t : TypeId} {lo hi : Int} (h1 : lo = n % 256) (h2 : hi = n / 256 % 256) : R8 (w.alloc (.cells #[.int .u8 (lo % 256), .int .u8 (hi % 256)] t)) (some ⟨w.heap.size, 0, none⟩) 2 (adr n) := by
  have e0 : lo % 256 = (((n % 256).toNat : Nat) : Int) := by omega
  have e1 : hi % 256 = (((n / 256 % 256).toNat : Nat) : Int) := by omega
  unfold adr
  rw [e0, e1]
  exact R8.two (by omega) (by omega) rfl

set_option maxHeartbeats 400000 in
theorem RefAddress_any (n : Int) (w : World) (h1 : -9223372036854775808 ≤ n) (h2 : n ≤ 9223372036854775807) : Calls Try.prog 21 #[.int .i64 n] w (MakesB (adr n) w) := by
  go_enter Try.func21, Try.ntmps21
  go_wp2
  all_goals
    rename_i a b
    go_ret
    refine ⟨some ⟨w.heap.size, 0, none⟩, 2, rfl, adr_two ?_ ?_, (Below.refl _ _).alloc (Nat.le_refl _) _⟩
  · exact low_neg n a
  · rw [low_neg n a, mid_quo n h1 h2] at b ⊢
    exact low_neg _ b
  · exact low_neg n a
  · rw [low_neg n a, mid_quo n h1 h2] at b ⊢
    exact low_pos _ b
  · exact low_pos n a
  · rw [low_pos n a, mid_quo n h1 h2] at b ⊢
    exact low_neg _ b
  · exact low_pos n a
  · rw [low_pos n a, mid_quo n h1 h2] at b ⊢
    exact low_pos _ b
end Go.Proofs.Ytkbjbgbngkidjaa
