/-
  Contracts of geom.Check, Data, Raw; a geometry in a block, over the landed code.
-/
import Derived.Test.YtaidgjidpghgnaaJudgeStepsJGeomA
import Derived.Test.YtaidgjidpghgnaaJudgeStepsJ4
import Derived.Test.YtaidgjidpghgnaaJudgeStepsJ3
import Derived.Test.YtaidgjidpghgnaaIntBits
namespace Go.Proofs.Ytaidgjidpghgnaa
open Go.RowKit
set_option maxRecDepth 100000

theorem valid_is (g : Gm) (v : Bool) (h : g.ok = v) (w : World) : Calls Try.prog 28 #[g.val] w (Gives (.bool v) w) := h ▸ valid_any g w
/-- A geometry that was laid into a block of its own, and what has come since: its cells are as they were. -/
theorem geom_cells {g : Gm} {t : TypeId} {w w' : World} (h : Below (w.alloc (.cells #[.int .i64 g.p, .int .i64 g.b, .int .i64 g.s, .int .i64 g.c, .int .i64 g.k, .int .i64 g.r, .int .i64 g.q] t)).heap.size (w.alloc (.cells #[.int .i64 g.p, .int .i64 g.b, .int .i64 g.s, .int .i64 g.c, .int .i64 g.k, .int .i64 g.r, .int .i64 g.q] t)) w') :
  w'.cell? ⟨w.heap.size, 0, none⟩ = some (.int .i64 g.p) ∧ w'.cell? ⟨w.heap.size, 1, none⟩ = some (.int .i64 g.b) ∧ w'.cell? ⟨w.heap.size, 2, none⟩ = some (.int .i64 g.s) ∧ w'.cell? ⟨w.heap.size, 3, none⟩ = some (.int .i64 g.c) ∧ w'.cell? ⟨w.heap.size, 4, none⟩ = some (.int .i64 g.k) ∧ w'.cell? ⟨w.heap.size, 5, none⟩ = some (.int .i64 g.r) ∧ w'.cell? ⟨w.heap.size, 6, none⟩ = some (.int .i64 g.q) ∧ Hid (Below w.heap.size w w') := by
 have hs : w.heap.size < (w.alloc (.cells #[.int .i64 g.p, .int .i64 g.b, .int .i64 g.s, .int .i64 g.c, .int .i64 g.k, .int .i64 g.r, .int .i64 g.q] t)).heap.size := by simp
 refine ⟨(h.cell hs).trans (by simp), (h.cell hs).trans (by simp), (h.cell hs).trans (by simp), (h.cell hs).trans (by simp), (h.cell hs).trans (by simp), (h.cell hs).trans (by simp), (h.cell hs).trans (by simp), ?_⟩
 exact ((Below.refl w.heap.size w).alloc (Nat.le_refl _) _).trans (h.mono (Nat.le_of_lt hs))
theorem Check_any (g : Gm) (w : World) : Calls Try.prog 19 #[g.val] w (Gives (.int .i64 (if g.ok then 0 else 2)) w) := by
 cases ho : g.ok
 all_goals
  have HO := Lib.hid ho
  clear ho
  obtain ⟨p, b, s, c, k, r, q⟩ := g
  simp only [Gm.val]
  go_enter Try.func19, Try.ntmps19
  go_wp2_with fail
  refine (valid_is ⟨p, b, s, c, k, r, q⟩ _ HO.out _).mono ?_
  rintro e w1 ⟨rfl, h1⟩
  obtain ⟨_, _, _, _, _, _, _, HB⟩ := geom_cells (g := ⟨p, b, s, c, k, r, q⟩) h1
  clear h1
  go_wp2
  go_ret
  exact ⟨rfl, HB.out⟩
theorem Raw_any (g : Gm) (w : World) : Calls Try.prog 61 #[g.val] w (Gives (.int .i64 g.raw) w) := by
 cases ho : g.ok
 ·
  have HO := Lib.hid ho
  have HD := Lib.hid (show g.raw = 0 by simp [Gm.raw, ho])
  clear ho
  rw [HD.out]
  obtain ⟨p, b, s, c, k, r, q⟩ := g
  simp only [Gm.val]
  go_enter Try.func61, Try.ntmps61
  go_wp2_with fail
  refine (valid_is ⟨p, b, s, c, k, r, q⟩ _ HO.out _).mono ?_
  rintro e w1 ⟨rfl, h1⟩
  obtain ⟨_, _, _, _, _, _, _, HB⟩ := geom_cells (g := ⟨p, b, s, c, k, r, q⟩) h1
  clear h1
  go_wp2
  go_ret
  exact ⟨rfl, HB.out⟩
 ·
  have HO := Lib.hid ho
  have HD := Lib.hid (show g.raw = g.c * (g.k + 2) + 31 by simp [Gm.raw, ho])
  have hb := Gm.bounds_of ho
  clear ho
  rw [HD.out]
  obtain ⟨p, b, s, c, k, r, q⟩ := g
  simp only at hb
  have hm : 0 ≤ c * (k + 2) ∧ c * (k + 2) ≤ 16 * 514 := mul_le (by omega) (by omega) (by omega) (by omega)
  simp only [Gm.val]
  go_enter Try.func61, Try.ntmps61
  go_wp2_with fail
  refine (valid_is ⟨p, b, s, c, k, r, q⟩ _ HO.out _).mono ?_
  rintro e w1 ⟨rfl, h1⟩
  obtain ⟨_, _, _, _, _, _, _, HB⟩ := geom_cells (g := ⟨p, b, s, c, k, r, q⟩) h1
  clear h1
  go_wp2
  go_ret
  refine ⟨ret_int ?_, HB.out⟩
  omega

/-- The block n holds the geometry g. -/
def GBox (w : World) (n : Nat) (g : Gm) : Prop :=
 n < w.heap.size ∧ w.cell? ⟨n, 0, none⟩ = some (.int .i64 g.p) ∧ w.cell? ⟨n, 1, none⟩ = some (.int .i64 g.b) ∧ w.cell? ⟨n, 2, none⟩ = some (.int .i64 g.s) ∧ w.cell? ⟨n, 3, none⟩ = some (.int .i64 g.c) ∧ w.cell? ⟨n, 4, none⟩ = some (.int .i64 g.k) ∧ w.cell? ⟨n, 5, none⟩ = some (.int .i64 g.r) ∧ w.cell? ⟨n, 6, none⟩ = some (.int .i64 g.q)
theorem GBox.below {w w' : World} {n : Nat} {g : Gm} (h : GBox w n g) (hb : Below w.heap.size w w') : GBox w' n g := by
 obtain ⟨h0, h1, h2, h3, h4, h5, h6, h7⟩ := h
 exact ⟨Nat.lt_of_lt_of_le h0 hb.size, (hb.cell h0).trans h1, (hb.cell h0).trans h2, (hb.cell h0).trans h3, (hb.cell h0).trans h4, (hb.cell h0).trans h5, (hb.cell h0).trans h6, (hb.cell h0).trans h7⟩
theorem GBox.new (w : World) (g : Gm) (t : TypeId) : GBox (w.alloc (.cells #[.int .i64 g.p, .int .i64 g.b, .int .i64 g.s, .int .i64 g.c, .int .i64 g.k, .int .i64 g.r, .int .i64 g.q] t)) w.heap.size g := by
 refine ⟨by simp, ?_, ?_, ?_, ?_, ?_, ?_, ?_⟩ <;> simp
theorem Check_yes (g : Gm) (h : g.ok = true) (w : World) : Calls Try.prog 19 #[g.val] w (Gives (.int .i64 0) w) := by
 have h1 := Check_any g w
 rwa [h] at h1
theorem Check_no (g : Gm) (h : g.ok = false) (w : World) : Calls Try.prog 19 #[g.val] w (Gives (.int .i64 2) w) := by
 have h1 := Check_any g w
 rwa [h] at h1
theorem Raw_is (g : Gm) (v : Int) (e : g.raw = v) (w : World) : Calls Try.prog 61 #[g.val] w (Gives (.int .i64 v) w) := e ▸ Raw_any g w
end Go.Proofs.Ytaidgjidpghgnaa

/-
  Contracts of geom.Check, Data, Raw, Row, Split, Plane, over the landed code.
-/
namespace Go.Proofs.Ytaidgjidpghgnaa
open Go.RowKit
set_option maxRecDepth 100000

theorem below_yes (n m : Int) (w : World) (h1 : 0 ≤ n) (h2 : n < m) :
  Calls Try.prog 42 #[.int .i64 n, .int .i64 m] w fun e w' => e = .returned (.bool true) ∧ w = w' := by
 have h := below_any n m w
 rwa [decide_eq_true (show 0 ≤ n ∧ n < m from ⟨h1, h2⟩)] at h
theorem below_no (n m : Int) (w : World) (h : ¬ (0 ≤ n ∧ n < m)) :
  Calls Try.prog 42 #[.int .i64 n, .int .i64 m] w fun e w' => e = .returned (.bool false) ∧ w = w' := by
 have h1 := below_any n m w
 rwa [decide_eq_false h] at h1
theorem Split_yes (g : Gm) (x : Int) (h : g.hasRow x) (w : World) : Calls Try.prog 27 #[g.val, .int .i64 x] w (Gives (.tuple #[.int .i64 (x / g.s), .int .i64 (x % g.s), .bool true]) w) := by
 obtain ⟨ho, hx⟩ := h
 have HO := Lib.hid ho
 have hb := Gm.bounds_of ho
 clear ho
 obtain ⟨p, b, s, c, k, r, q⟩ := g
 simp only at hx hb
 have hm : 0 ≤ b * s ∧ b * s ≤ 256 * 64 := mul_le (by omega) (by omega) (by omega) (by omega)
 simp only [Gm.val]
 go_enter Try.func27, Try.ntmps27
 go_wp2_with fail
 refine (valid_is ⟨p, b, s, c, k, r, q⟩ _ HO.out _).mono ?_
 rintro e w1 ⟨rfl, h1⟩
 obtain ⟨_, _, _, _, _, _, _, HB⟩ := geom_cells (g := ⟨p, b, s, c, k, r, q⟩) h1
 clear h1
 go_wp2_with fail
 refine (below_yes x (b * s) _ (by omega) (by omega)).mono ?_
 rintro e w' ⟨rfl, rfl⟩
 go_wp2
 go_quiet (fail)
 go_wp2
 go_ret3
 exact ⟨rfl, below_drewN HB.out _⟩
theorem Split_no (g : Gm) (x : Int) (h : ¬ g.hasRow x) (w : World) : Calls Try.prog 27 #[g.val, .int .i64 x] w (Gives (.tuple #[.int .i64 0, .int .i64 0, .bool false]) w) := by
 cases ho : g.ok
 ·
  have HO := Lib.hid ho
  clear ho h
  obtain ⟨p, b, s, c, k, r, q⟩ := g
  simp only [Gm.val]
  go_enter Try.func27, Try.ntmps27
  go_wp2_with fail
  refine (valid_is ⟨p, b, s, c, k, r, q⟩ _ HO.out _).mono ?_
  rintro e w1 ⟨rfl, h1⟩
  obtain ⟨_, _, _, _, _, _, _, HB⟩ := geom_cells (g := ⟨p, b, s, c, k, r, q⟩) h1
  clear h1
  go_wp2
  go_ret3
  exact ⟨rfl, HB.out⟩
 ·
  have HO := Lib.hid ho
  have hb := Gm.bounds_of ho
  have HX := Lib.hid (show ¬ (0 ≤ x ∧ x < g.b * g.s) from fun hx => h ⟨ho, hx⟩)
  clear ho h
  obtain ⟨p, b, s, c, k, r, q⟩ := g
  simp only at hb
  have hm : 0 ≤ b * s ∧ b * s ≤ 256 * 64 := mul_le (by omega) (by omega) (by omega) (by omega)
  simp only [Gm.val]
  go_enter Try.func27, Try.ntmps27
  go_wp2_with fail
  refine (valid_is ⟨p, b, s, c, k, r, q⟩ _ HO.out _).mono ?_
  rintro e w1 ⟨rfl, h1⟩
  obtain ⟨_, _, _, _, _, _, _, HB⟩ := geom_cells (g := ⟨p, b, s, c, k, r, q⟩) h1
  clear h1
  go_wp2_with fail
  refine (below_no x (b * s) _ HX.out).mono ?_
  rintro e w' ⟨rfl, rfl⟩
  go_wp2
  go_ret3
  exact ⟨rfl, HB.out⟩
theorem Plane_yes (g : Gm) (x : Int) (h : g.hasBlock x) (w : World) : Calls Try.prog 70 #[g.val, .int .i64 x] w (Gives (.tuple #[.int .i64 (x % g.p), .bool true]) w) := by
 obtain ⟨ho, hx⟩ := h
 have HO := Lib.hid ho
 have hb := Gm.bounds_of ho
 clear ho
 obtain ⟨p, b, s, c, k, r, q⟩ := g
 simp only at hx hb
 simp only [Gm.val]
 go_enter Try.func70, Try.ntmps70
 go_wp2_with fail
 refine (valid_is ⟨p, b, s, c, k, r, q⟩ _ HO.out _).mono ?_
 rintro e w1 ⟨rfl, h1⟩
 obtain ⟨_, _, _, _, _, _, _, HB⟩ := geom_cells (g := ⟨p, b, s, c, k, r, q⟩) h1
 clear h1
 go_wp2_with fail
 refine (below_yes x b _ (by omega) (by omega)).mono ?_
 rintro e w' ⟨rfl, rfl⟩
 go_wp2
 go_ret2
 exact ⟨rfl, HB.out⟩
end Go.Proofs.Ytaidgjidpghgnaa

/-
  Contracts of the document's from, Right and Raw (package incunableref04), over the landed code.
-/
namespace Go.Proofs.Ytaidgjidpghgnaa
open Go.RowKit
set_option maxRecDepth 100000
theorem gfrom_any (n lo hi : Int) (w : World) : Calls Try.prog 20 #[.int .i64 n, .int .i64 lo, .int .i64 hi] w fun e w' => e = .returned (.bool (decide (lo ≤ n ∧ n ≤ hi))) ∧ w = w' := by
 by_cases h1 : lo ≤ n
 ·
  by_cases h2 : n ≤ hi
  ·
   rw [decide_eq_true (show lo ≤ n ∧ n ≤ hi from ⟨h1, h2⟩)]
   go_enter Try.func20, Try.ntmps20
   go_wp2
   go_ret
   exact ⟨rfl, rfl⟩
  ·
   rw [decide_eq_false (show ¬ (lo ≤ n ∧ n ≤ hi) from fun h => h2 h.2)]
   have h2' : hi < n := by omega
   go_enter Try.func20, Try.ntmps20
   go_wp2
   go_ret
   exact ⟨rfl, rfl⟩
 ·
  rw [decide_eq_false (show ¬ (lo ≤ n ∧ n ≤ hi) from fun h => h1 h.1)]
  have h1' : n < lo := by omega
  go_enter Try.func20, Try.ntmps20
  go_wp2
  go_ret
  exact ⟨rfl, rfl⟩
theorem gfrom_yes (n lo hi : Int) (w : World) (h1 : lo ≤ n) (h2 : n ≤ hi) : Calls Try.prog 20 #[.int .i64 n, .int .i64 lo, .int .i64 hi] w fun e w' => e = .returned (.bool true) ∧ w = w' := by
 have h := gfrom_any n lo hi w
 rwa [decide_eq_true (show lo ≤ n ∧ n ≤ hi from ⟨h1, h2⟩)] at h
theorem gfrom_no (n lo hi : Int) (w : World) (h : ¬ (lo ≤ n ∧ n ≤ hi)) : Calls Try.prog 20 #[.int .i64 n, .int .i64 lo, .int .i64 hi] w fun e w' => e = .returned (.bool false) ∧ w = w' := by
 have h1 := gfrom_any n lo hi w
 rwa [decide_eq_false h] at h1
set_option maxHeartbeats 1000000 in
theorem RefRight_any (g : Gm) (w : World) : Calls Try.prog 8 #[g.val] w (Gives (.bool g.ok) w) := by
 obtain ⟨p, b, s, c, k, r, q⟩ := g
 simp only [Gm.val]
 by_cases h0 : 1 ≤ p ∧ p ≤ 4
 ·
  by_cases h1 : 2 ≤ b ∧ b ≤ 256
  ·
   by_cases h2 : 4 ≤ s ∧ s ≤ 64
   ·
    by_cases h3 : 1 ≤ c ∧ c ≤ 16
    ·
     by_cases h4 : 4 ≤ k ∧ k ≤ 512
     ·
      by_cases h5 : 1 ≤ r ∧ r ≤ 8
      ·
       by_cases h6 : 1 ≤ q ∧ q ≤ 8
       ·
        have HZ := Lib.hid (show Gm.sized ⟨p, b, s, c, k, r, q⟩ from ⟨h0, h1, h2, h3, h4, h5, h6⟩)
        have hd := quo_facts (b := b) (p := p) (by omega) (by omega)
        have hd2 := quo_facts (b := s) (p := 2) (by omega) (by omega)
        have e1 := Lib.hid (quo_mul b p)
        have e2 := Lib.hid (quo_mul s 2)
        by_cases hb : b % p = 0
        ·
         have hb1 : (b / p * p == b) = true := by rw [e1.out]; simp [hb]
         by_cases hs : s % 2 = 0
         ·
          have hs1 : (s / 2 * 2 == s) = true := by rw [e2.out]; simp [hs]
          have HO := Lib.hid (show Gm.ok ⟨p, b, s, c, k, r, q⟩ = true from decide_eq_true ⟨HZ.out, hb, hs⟩)
          rw [HO.out]
          clear hb hs
          go_enter Try.func8, Try.ntmps8
          go_wp2_with (go_at_call 20; first | (refine (gfrom_yes _ _ _ _ (by omega) (by omega)).mono ?_; rintro e w' ⟨rfl, rfl⟩) | (refine (gfrom_no _ _ _ _ (by omega)).mono ?_; rintro e w' ⟨rfl, rfl⟩))
          go_quiet (fail)
          go_wp2
          go_ret
          exact ⟨rfl, below_drewN ((Below.refl w.heap.size w).alloc (Nat.le_refl _) _) _⟩
         ·
          have hs1 : (s / 2 * 2 == s) = false := by rw [e2.out]; simp; omega
          have HO := Lib.hid (show Gm.ok ⟨p, b, s, c, k, r, q⟩ = false from decide_eq_false fun h => hs h.2.2)
          rw [HO.out]
          clear hb hs
          go_enter Try.func8, Try.ntmps8
          go_wp2_with (go_at_call 20; first | (refine (gfrom_yes _ _ _ _ (by omega) (by omega)).mono ?_; rintro e w' ⟨rfl, rfl⟩) | (refine (gfrom_no _ _ _ _ (by omega)).mono ?_; rintro e w' ⟨rfl, rfl⟩))
          go_quiet (fail)
          go_wp2
          go_ret
          exact ⟨rfl, below_drewN ((Below.refl w.heap.size w).alloc (Nat.le_refl _) _) _⟩
        ·
         have hb1 : (b / p * p == b) = false := by rw [e1.out]; simp; omega
         have HO := Lib.hid (show Gm.ok ⟨p, b, s, c, k, r, q⟩ = false from decide_eq_false fun h => hb h.2.1)
         rw [HO.out]
         clear hb
         go_enter Try.func8, Try.ntmps8
         go_wp2_with (go_at_call 20; first | (refine (gfrom_yes _ _ _ _ (by omega) (by omega)).mono ?_; rintro e w' ⟨rfl, rfl⟩) | (refine (gfrom_no _ _ _ _ (by omega)).mono ?_; rintro e w' ⟨rfl, rfl⟩))
         go_quiet (fail)
         go_wp2
         go_ret
         exact ⟨rfl, below_drewN ((Below.refl w.heap.size w).alloc (Nat.le_refl _) _) _⟩
       ·
        have HO := Lib.hid (show Gm.ok ⟨p, b, s, c, k, r, q⟩ = false from Gm.ok_not (by simp only [Gm.sized]; omega))
        rw [HO.out]
        go_enter Try.func8, Try.ntmps8
        go_wp2_with (go_at_call 20; first | (refine (gfrom_yes _ _ _ _ (by omega) (by omega)).mono ?_; rintro e w' ⟨rfl, rfl⟩) | (refine (gfrom_no _ _ _ _ (by omega)).mono ?_; rintro e w' ⟨rfl, rfl⟩))
        go_ret
        exact ⟨rfl, ((Below.refl w.heap.size w).alloc (Nat.le_refl _) _)⟩
      ·
       have HO := Lib.hid (show Gm.ok ⟨p, b, s, c, k, r, q⟩ = false from Gm.ok_not (by simp only [Gm.sized]; omega))
       rw [HO.out]
       go_enter Try.func8, Try.ntmps8
       go_wp2_with (go_at_call 20; first | (refine (gfrom_yes _ _ _ _ (by omega) (by omega)).mono ?_; rintro e w' ⟨rfl, rfl⟩) | (refine (gfrom_no _ _ _ _ (by omega)).mono ?_; rintro e w' ⟨rfl, rfl⟩))
       go_ret
       exact ⟨rfl, ((Below.refl w.heap.size w).alloc (Nat.le_refl _) _)⟩
     ·
      have HO := Lib.hid (show Gm.ok ⟨p, b, s, c, k, r, q⟩ = false from Gm.ok_not (by simp only [Gm.sized]; omega))
      rw [HO.out]
      go_enter Try.func8, Try.ntmps8
      go_wp2_with (go_at_call 20; first | (refine (gfrom_yes _ _ _ _ (by omega) (by omega)).mono ?_; rintro e w' ⟨rfl, rfl⟩) | (refine (gfrom_no _ _ _ _ (by omega)).mono ?_; rintro e w' ⟨rfl, rfl⟩))
      go_ret
      exact ⟨rfl, ((Below.refl w.heap.size w).alloc (Nat.le_refl _) _)⟩
    ·
     have HO := Lib.hid (show Gm.ok ⟨p, b, s, c, k, r, q⟩ = false from Gm.ok_not (by simp only [Gm.sized]; omega))
     rw [HO.out]
     go_enter Try.func8, Try.ntmps8
     go_wp2_with (go_at_call 20; first | (refine (gfrom_yes _ _ _ _ (by omega) (by omega)).mono ?_; rintro e w' ⟨rfl, rfl⟩) | (refine (gfrom_no _ _ _ _ (by omega)).mono ?_; rintro e w' ⟨rfl, rfl⟩))
     go_ret
     exact ⟨rfl, ((Below.refl w.heap.size w).alloc (Nat.le_refl _) _)⟩
   ·
    have HO := Lib.hid (show Gm.ok ⟨p, b, s, c, k, r, q⟩ = false from Gm.ok_not (by simp only [Gm.sized]; omega))
    rw [HO.out]
    go_enter Try.func8, Try.ntmps8
    go_wp2_with (go_at_call 20; first | (refine (gfrom_yes _ _ _ _ (by omega) (by omega)).mono ?_; rintro e w' ⟨rfl, rfl⟩) | (refine (gfrom_no _ _ _ _ (by omega)).mono ?_; rintro e w' ⟨rfl, rfl⟩))
    go_ret
    exact ⟨rfl, ((Below.refl w.heap.size w).alloc (Nat.le_refl _) _)⟩
  ·
   have HO := Lib.hid (show Gm.ok ⟨p, b, s, c, k, r, q⟩ = false from Gm.ok_not (by simp only [Gm.sized]; omega))
   rw [HO.out]
   go_enter Try.func8, Try.ntmps8
   go_wp2_with (go_at_call 20; first | (refine (gfrom_yes _ _ _ _ (by omega) (by omega)).mono ?_; rintro e w' ⟨rfl, rfl⟩) | (refine (gfrom_no _ _ _ _ (by omega)).mono ?_; rintro e w' ⟨rfl, rfl⟩))
   go_ret
   exact ⟨rfl, ((Below.refl w.heap.size w).alloc (Nat.le_refl _) _)⟩
 ·
  have HO := Lib.hid (show Gm.ok ⟨p, b, s, c, k, r, q⟩ = false from Gm.ok_not (by simp only [Gm.sized]; omega))
  rw [HO.out]
  go_enter Try.func8, Try.ntmps8
  go_wp2_with (go_at_call 20; first | (refine (gfrom_yes _ _ _ _ (by omega) (by omega)).mono ?_; rintro e w' ⟨rfl, rfl⟩) | (refine (gfrom_no _ _ _ _ (by omega)).mono ?_; rintro e w' ⟨rfl, rfl⟩))
  go_ret
  exact ⟨rfl, ((Below.refl w.heap.size w).alloc (Nat.le_refl _) _)⟩
theorem RefRaw_any (g : Gm) (w : World) (h : g.ok = true) : Calls Try.prog 47 #[g.val] w (Gives (.int .i64 g.raw) w) := by
 have HD := Lib.hid (show g.raw = g.c * g.k + 2 * g.c + 31 by simp only [Gm.raw, h, if_true, Int.mul_add]; omega)
 have hb := Gm.bounds_of h
 clear h
 rw [HD.out]
 obtain ⟨p, b, s, c, k, r, q⟩ := g
 simp only at hb
 have hm : 0 ≤ c * k ∧ c * k ≤ 16 * 512 := mul_le (by omega) (by omega) (by omega) (by omega)
 simp only [Gm.val]
 go_enter Try.func47, Try.ntmps47
 go_wp2
 go_ret
 exact ⟨rfl, (Below.refl w.heap.size w).alloc (Nat.le_refl _) _⟩
end Go.Proofs.Ytaidgjidpghgnaa

/-
  Contracts of geom.Lower, Upper, Address, Number, and of the document's Right, Raw, Address (package incunableref04), over the landed code.
-/
namespace Go.Proofs.Ytaidgjidpghgnaa
open Go.RowKit
set_option maxRecDepth 100000

theorem Number_yes (A : Option Addr) (c x y : Nat) (w : World) (hr : R8 w A 2 [x, y]) : Calls Try.prog 69 #[.slice A 2 c] w (Quiet (.tuple #[.int .i64 ((x + 256 * y : Nat) : Int), .bool true]) w) := by
 obtain ⟨g, off, x1, rfl, hb, HX, hx, hc⟩ := hr.at_ (k := 0) (by omega)
 obtain ⟨g2, off2, y1, e, hb2, HY, hy, hc2⟩ := hr.at_ (k := 1) (by omega)
 injection e with e
 injection e with e1 e2
 subst e1 e2
 obtain rfl : x = x1 := by simpa using HX.out
 obtain rfl : y = y1 := by simpa using HY.out
 clear hr
 simp only [Nat.add_zero] at hc
 go_enter Try.func69, Try.ntmps69
 go_wp2
 go_quiet (fail)
 go_wp2
 go_ret2
 refine ⟨?_, _, rfl⟩
 have e : bits .or .i64 (x : Int) ((y : Int) * 256) = ((x + 256 * y : Nat) : Int) := by
  have h1 : ((y : Int) * 256) = ((y * 256 : Nat) : Int) := by simp
  rw [h1, i64_or_nat _ _ (by omega) (by omega), Nat.or_comm, nat_join 8 (y * 256) x (by omega) (by omega)]
  congr 1
  omega
 rw [← e]
 rfl
end Go.Proofs.Ytaidgjidpghgnaa

/-
  The law's Small (stage 8's), for whatever geometry.
-/
namespace Go.Proofs.Ytaidgjidpghgnaa
open Go.RowKit
set_option maxRecDepth 100000

def smallG (g : Gm) : Prop := g.c ≤ 4 ∧ g.k ≤ 40 ∧ 0 ≤ g.c ∧ 0 ≤ g.k
set_option maxHeartbeats 1000000 in
theorem Small_yes (g : Gm) (h : smallG g) (w : World) : Calls Try.prog 18 #[g.val] w (Gives (.bool true) w) := by
 obtain ⟨p, b, s, c, k, r, q⟩ := g
 obtain ⟨h1, h2, h3, h4⟩ := h
 simp only at h1 h2 h3 h4
 have d1 : decide (c ≤ 4) = true := decide_eq_true h1
 have d2 : decide (k ≤ 40) = true := decide_eq_true h2
 have d3 : decide (0 ≤ c) = true := decide_eq_true h3
 have d4 : decide (0 ≤ k) = true := decide_eq_true h4
 simp only [Gm.val]
 go_enter Try.func18, Try.ntmps18
 go_wp2
 go_ret
 exact ⟨rfl, below_new w _⟩
set_option maxHeartbeats 1000000 in
theorem Small_no (g : Gm) (h : ¬ smallG g) (w : World) : Calls Try.prog 18 #[g.val] w (Gives (.bool false) w) := by
 obtain ⟨p, b, s, c, k, r, q⟩ := g
 unfold smallG at h
 simp only at h
 simp only [Gm.val]
 by_cases h1 : c ≤ 4
 ·
  have d1 : decide (c ≤ 4) = true := decide_eq_true h1
  by_cases h2 : k ≤ 40
  ·
   have d2 : decide (k ≤ 40) = true := decide_eq_true h2
   by_cases h3 : 0 ≤ c
   ·
    have d3 : decide (0 ≤ c) = true := decide_eq_true h3
    have d4 : decide (0 ≤ k) = false := decide_eq_false (by omega)
    clear h
    go_enter Try.func18, Try.ntmps18
    go_wp2
    go_ret
    exact ⟨rfl, below_new w _⟩
   ·
    have d3 : decide (0 ≤ c) = false := decide_eq_false h3
    clear h
    go_enter Try.func18, Try.ntmps18
    go_wp2
    go_ret
    exact ⟨rfl, below_new w _⟩
  ·
   have d2 : decide (k ≤ 40) = false := decide_eq_false h2
   clear h
   go_enter Try.func18, Try.ntmps18
   go_wp2
   go_ret
   exact ⟨rfl, below_new w _⟩
 ·
  have d1 : decide (c ≤ 4) = false := decide_eq_false h1
  clear h
  go_enter Try.func18, Try.ntmps18
  go_wp2
  go_ret
  exact ⟨rfl, below_new w _⟩
end Go.Proofs.Ytaidgjidpghgnaa
