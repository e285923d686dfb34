/-
  Contracts of the document's from, Right and Raw (package incunableref04), over the landed code.
-/
import Derived.Test.YtimphjgjcnbmnaaGeomK
import Derived.Test.YtimphjgjcnbmnaaIntBits
namespace Go.Proofs.Ytimphjgjcnbmnaa
open Go.RowKit
set_option maxRecDepth 100000
theorem gfrom_any (n lo hi : Int) (w : World) : Calls Try.prog 15 #[.int .i64 n, .int .i64 lo, .int .i64 hi] w fun e w' => e = .returned (.bool (decide (lo ≤ n ∧ n ≤ hi))) ∧ w = w' := by
  by_cases h1 : lo ≤ n
  · by_cases h2 : n ≤ hi
    · rw [decide_eq_true (show lo ≤ n ∧ n ≤ hi from ⟨h1, h2⟩)]
      go_enter Try.func15, Try.ntmps15
      go_wp2
      go_ret
      exact ⟨rfl, rfl⟩
    · rw [decide_eq_false (show ¬ (lo ≤ n ∧ n ≤ hi) from fun h => h2 h.2)]
      have h2' : hi < n := by omega
      go_enter Try.func15, Try.ntmps15
      go_wp2
      go_ret
      exact ⟨rfl, rfl⟩
  · rw [decide_eq_false (show ¬ (lo ≤ n ∧ n ≤ hi) from fun h => h1 h.1)]
    have h1' : n < lo := by omega
    go_enter Try.func15, Try.ntmps15
    go_wp2
    go_ret
    exact ⟨rfl, rfl⟩
theorem gfrom_yes (n lo hi : Int) (w : World) (h1 : lo ≤ n) (h2 : n ≤ hi) : Calls Try.prog 15 #[.int .i64 n, .int .i64 lo, .int .i64 hi] w fun e w' => e = .returned (.bool true) ∧ w = w' := by
  have h := gfrom_any n lo hi w
  rwa [decide_eq_true (show lo ≤ n ∧ n ≤ hi from ⟨h1, h2⟩)] at h
theorem gfrom_no (n lo hi : Int) (w : World) (h : ¬ (lo ≤ n ∧ n ≤ hi)) : Calls Try.prog 15 #[.int .i64 n, .int .i64 lo, .int .i64 hi] w fun e w' => e = .returned (.bool false) ∧ w = w' := by
  have h1 := gfrom_any n lo hi w
  rwa [decide_eq_false h] at h1
set_option maxHeartbeats 1000000 in
theorem RefRight_any (g : Gm) (w : World) : Calls Try.prog 6 #[g.val] w (Gives (.bool g.ok) w) := by
  obtain ⟨p, b, s, c, k, r, q⟩ := g
  simp only [Gm.val]
  by_cases h0 : 1 ≤ p ∧ p ≤ 4
  · by_cases h1 : 2 ≤ b ∧ b ≤ 256
    · by_cases h2 : 4 ≤ s ∧ s ≤ 64
      · by_cases h3 : 1 ≤ c ∧ c ≤ 16
        · by_cases h4 : 4 ≤ k ∧ k ≤ 512
          · by_cases h5 : 1 ≤ r ∧ r ≤ 8
            · by_cases h6 : 1 ≤ q ∧ q ≤ 8
              · have HZ := Lib.hid (show Gm.sized ⟨p, b, s, c, k, r, q⟩ from ⟨h0, h1, h2, h3, h4, h5, h6⟩)
                have hd := quo_facts (b := b) (p := p) (by omega) (by omega)
                have hd2 := quo_facts (b := s) (p := 2) (by omega) (by omega)
                have e1 := Lib.hid (quo_mul b p)
                have e2 := Lib.hid (quo_mul s 2)
                by_cases hb : b % p = 0
                · have hb1 : (b / p * p == b) = true := by rw [e1.out]; simp [hb]
                  by_cases hs : s % 2 = 0
                  · have hs1 : (s / 2 * 2 == s) = true := by rw [e2.out]; simp [hs]
                    have HO := Lib.hid (show Gm.ok ⟨p, b, s, c, k, r, q⟩ = true from decide_eq_true ⟨HZ.out, hb, hs⟩)
                    rw [HO.out]
                    clear hb hs
                    go_enter Try.func6, Try.ntmps6
                    go_wp2_with (go_at_call 15; first | (refine (gfrom_yes _ _ _ _ (by omega) (by omega)).mono ?_; rintro e w' ⟨rfl, rfl⟩) | (refine (gfrom_no _ _ _ _ (by omega)).mono ?_; rintro e w' ⟨rfl, rfl⟩))
                    go_quiet (fail)
                    go_wp2
                    go_ret
                    exact ⟨rfl, below_drewN ((Below.refl w.heap.size w).alloc (Nat.le_refl _) _) _⟩
                  · have hs1 : (s / 2 * 2 == s) = false := by rw [e2.out]; simp; omega
                    have HO := Lib.hid (show Gm.ok ⟨p, b, s, c, k, r, q⟩ = false from decide_eq_false fun h => hs h.2.2)
                    rw [HO.out]
                    clear hb hs
                    go_enter Try.func6, Try.ntmps6
                    go_wp2_with (go_at_call 15; first | (refine (gfrom_yes _ _ _ _ (by omega) (by omega)).mono ?_; rintro e w' ⟨rfl, rfl⟩) | (refine (gfrom_no _ _ _ _ (by omega)).mono ?_; rintro e w' ⟨rfl, rfl⟩))
                    go_quiet (fail)
                    go_wp2
                    go_ret
                    exact ⟨rfl, below_drewN ((Below.refl w.heap.size w).alloc (Nat.le_refl _) _) _⟩
                · have hb1 : (b / p * p == b) = false := by rw [e1.out]; simp; omega
                  have HO := Lib.hid (show Gm.ok ⟨p, b, s, c, k, r, q⟩ = false from decide_eq_false fun h => hb h.2.1)
                  rw [HO.out]
                  clear hb
                  go_enter Try.func6, Try.ntmps6
                  go_wp2_with (go_at_call 15; first | (refine (gfrom_yes _ _ _ _ (by omega) (by omega)).mono ?_; rintro e w' ⟨rfl, rfl⟩) | (refine (gfrom_no _ _ _ _ (by omega)).mono ?_; rintro e w' ⟨rfl, rfl⟩))
                  go_quiet (fail)
                  go_wp2
                  go_ret
                  exact ⟨rfl, below_drewN ((Below.refl w.heap.size w).alloc (Nat.le_refl _) _) _⟩
              · have HO := Lib.hid (show Gm.ok ⟨p, b, s, c, k, r, q⟩ = false from Gm.ok_not (by simp only [Gm.sized]; omega))
                rw [HO.out]
                go_enter Try.func6, Try.ntmps6
                go_wp2_with (go_at_call 15; first | (refine (gfrom_yes _ _ _ _ (by omega) (by omega)).mono ?_; rintro e w' ⟨rfl, rfl⟩) | (refine (gfrom_no _ _ _ _ (by omega)).mono ?_; rintro e w' ⟨rfl, rfl⟩))
                go_ret
                exact ⟨rfl, ((Below.refl w.heap.size w).alloc (Nat.le_refl _) _)⟩
            · have HO := Lib.hid (show Gm.ok ⟨p, b, s, c, k, r, q⟩ = false from Gm.ok_not (by simp only [Gm.sized]; omega))
              rw [HO.out]
              go_enter Try.func6, Try.ntmps6
              go_wp2_with (go_at_call 15; first | (refine (gfrom_yes _ _ _ _ (by omega) (by omega)).mono ?_; rintro e w' ⟨rfl, rfl⟩) | (refine (gfrom_no _ _ _ _ (by omega)).mono ?_; rintro e w' ⟨rfl, rfl⟩))
              go_ret
              exact ⟨rfl, ((Below.refl w.heap.size w).alloc (Nat.le_refl _) _)⟩
          · have HO := Lib.hid (show Gm.ok ⟨p, b, s, c, k, r, q⟩ = false from Gm.ok_not (by simp only [Gm.sized]; omega))
            rw [HO.out]
            go_enter Try.func6, Try.ntmps6
            go_wp2_with (go_at_call 15; first | (refine (gfrom_yes _ _ _ _ (by omega) (by omega)).mono ?_; rintro e w' ⟨rfl, rfl⟩) | (refine (gfrom_no _ _ _ _ (by omega)).mono ?_; rintro e w' ⟨rfl, rfl⟩))
            go_ret
            exact ⟨rfl, ((Below.refl w.heap.size w).alloc (Nat.le_refl _) _)⟩
        · have HO := Lib.hid (show Gm.ok ⟨p, b, s, c, k, r, q⟩ = false from Gm.ok_not (by simp only [Gm.sized]; omega))
          rw [HO.out]
          go_enter Try.func6, Try.ntmps6
          go_wp2_with (go_at_call 15; first | (refine (gfrom_yes _ _ _ _ (by omega) (by omega)).mono ?_; rintro e w' ⟨rfl, rfl⟩) | (refine (gfrom_no _ _ _ _ (by omega)).mono ?_; rintro e w' ⟨rfl, rfl⟩))
          go_ret
          exact ⟨rfl, ((Below.refl w.heap.size w).alloc (Nat.le_refl _) _)⟩
      · have HO := Lib.hid (show Gm.ok ⟨p, b, s, c, k, r, q⟩ = false from Gm.ok_not (by simp only [Gm.sized]; omega))
        rw [HO.out]
        go_enter Try.func6, Try.ntmps6
        go_wp2_with (go_at_call 15; first | (refine (gfrom_yes _ _ _ _ (by omega) (by omega)).mono ?_; rintro e w' ⟨rfl, rfl⟩) | (refine (gfrom_no _ _ _ _ (by omega)).mono ?_; rintro e w' ⟨rfl, rfl⟩))
        go_ret
        exact ⟨rfl, ((Below.refl w.heap.size w).alloc (Nat.le_refl _) _)⟩
    · have HO := Lib.hid (show Gm.ok ⟨p, b, s, c, k, r, q⟩ = false from Gm.ok_not (by simp only [Gm.sized]; omega))
      rw [HO.out]
      go_enter Try.func6, Try.ntmps6
      go_wp2_with (go_at_call 15; first | (refine (gfrom_yes _ _ _ _ (by omega) (by omega)).mono ?_; rintro e w' ⟨rfl, rfl⟩) | (refine (gfrom_no _ _ _ _ (by omega)).mono ?_; rintro e w' ⟨rfl, rfl⟩))
      go_ret
      exact ⟨rfl, ((Below.refl w.heap.size w).alloc (Nat.le_refl _) _)⟩
  · have HO := Lib.hid (show Gm.ok ⟨p, b, s, c, k, r, q⟩ = false from Gm.ok_not (by simp only [Gm.sized]; omega))
    rw [HO.out]
    go_enter Try.func6, Try.ntmps6
    go_wp2_with (go_at_call 15; first | (refine (gfrom_yes _ _ _ _ (by omega) (by omega)).mono ?_; rintro e w' ⟨rfl, rfl⟩) | (refine (gfrom_no _ _ _ _ (by omega)).mono ?_; rintro e w' ⟨rfl, rfl⟩))
    go_ret
    exact ⟨rfl, ((Below.refl w.heap.size w).alloc (Nat.le_refl _) _)⟩
end Go.Proofs.Ytimphjgjcnbmnaa
