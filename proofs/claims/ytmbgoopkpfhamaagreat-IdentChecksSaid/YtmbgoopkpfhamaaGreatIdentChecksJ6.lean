/-
  Contracts of geom.Check, Data, Raw; a geometry in a block, over the landed code.
-/
import Derived.Laws.StructEq
import Derived.WalkKit
import Derived.Test.YtmbgoopkpfhamaaGreatIdentChecksJGeomA
import Derived.Test.YtmbgoopkpfhamaaGreatIdentChecksJ4
import Derived.Test.YtmbgoopkpfhamaaGreatIdentChecksJ3
import Derived.Test.YtmbgoopkpfhamaaGreatIntBits
namespace Go.Proofs.YtmbgoopkpfhamaaGreat
open Go.RowKit
set_option maxRecDepth 100000
theorem valid_is (g : Gm) (v : Bool) (h : g.ok = v) (w : World) : Calls Tryz.prog 50 #[g.val] w (Gives (.bool v) w) := h ▸ valid_any g w
theorem geom_cells {g : Gm} {t : TypeId} {w w' : World} (h : Below (w.alloc (.cells #[.int .i64 g.p, .int .i64 g.b, .int .i64 g.s, .int .i64 g.c, .int .i64 g.k, .int .i64 g.r, .int .i64 g.q] t)).heap.size (w.alloc (.cells #[.int .i64 g.p, .int .i64 g.b, .int .i64 g.s, .int .i64 g.c, .int .i64 g.k, .int .i64 g.r, .int .i64 g.q] t)) w') :
  w'.cell? ⟨w.heap.size, 0, none⟩ = some (.int .i64 g.p) ∧ w'.cell? ⟨w.heap.size, 1, none⟩ = some (.int .i64 g.b) ∧ w'.cell? ⟨w.heap.size, 2, none⟩ = some (.int .i64 g.s) ∧ w'.cell? ⟨w.heap.size, 3, none⟩ = some (.int .i64 g.c) ∧ w'.cell? ⟨w.heap.size, 4, none⟩ = some (.int .i64 g.k) ∧ w'.cell? ⟨w.heap.size, 5, none⟩ = some (.int .i64 g.r) ∧ w'.cell? ⟨w.heap.size, 6, none⟩ = some (.int .i64 g.q) ∧ Hid (Below w.heap.size w w') := by
 have hs : w.heap.size < (w.alloc (.cells #[.int .i64 g.p, .int .i64 g.b, .int .i64 g.s, .int .i64 g.c, .int .i64 g.k, .int .i64 g.r, .int .i64 g.q] t)).heap.size := by simp
 refine ⟨(h.cell hs).trans (by simp), (h.cell hs).trans (by simp), (h.cell hs).trans (by simp), (h.cell hs).trans (by simp), (h.cell hs).trans (by simp), (h.cell hs).trans (by simp), (h.cell hs).trans (by simp), ?_⟩
 exact ((Below.refl w.heap.size w).alloc (Nat.le_refl _) _).trans (h.mono (Nat.le_of_lt hs))
theorem Check_any (g : Gm) (w : World) : Calls Tryz.prog 27 #[g.val] w (Gives (.int .i64 (if g.ok then 0 else 2)) w) := by
 cases ho : g.ok
 all_goals
  have HO := Lib.hid ho
  clear ho
  obtain ⟨p, b, s, c, k, r, q⟩ := g
  simp only [Gm.val]
  go_enter Tryz.func27, Tryz.ntmps27
  go_wp2_with fail
  refine (valid_is ⟨p, b, s, c, k, r, q⟩ _ HO.out _).mono ?_
  rintro e w1 ⟨rfl, h1⟩
  obtain ⟨_, _, _, _, _, _, _, HB⟩ := geom_cells (g := ⟨p, b, s, c, k, r, q⟩) h1
  clear h1
  go_wp2
  go_ret
  exact ⟨rfl, HB.out⟩
theorem Raw_any (g : Gm) (w : World) : Calls Tryz.prog 68 #[g.val] w (Gives (.int .i64 g.raw) w) := by
 cases ho : g.ok
 ·
  have HO := Lib.hid ho
  have HD := Lib.hid (show g.raw = 0 by simp [Gm.raw, ho])
  clear ho
  rw [HD.out]
  obtain ⟨p, b, s, c, k, r, q⟩ := g
  simp only [Gm.val]
  go_enter Tryz.func68, Tryz.ntmps68
  go_wp2_with fail
  refine (valid_is ⟨p, b, s, c, k, r, q⟩ _ HO.out _).mono ?_
  rintro e w1 ⟨rfl, h1⟩
  obtain ⟨_, _, _, _, _, _, _, HB⟩ := geom_cells (g := ⟨p, b, s, c, k, r, q⟩) h1
  clear h1
  go_wp2
  go_ret
  exact ⟨rfl, HB.out⟩
 ·
  have HO := Lib.hid ho
  have HD := Lib.hid (show g.raw = g.c * (g.k + 2) + 31 by simp [Gm.raw, ho])
  have hb := Gm.bounds_of ho
  clear ho
  rw [HD.out]
  obtain ⟨p, b, s, c, k, r, q⟩ := g
  simp only at hb
  have hm : 0 ≤ c * (k + 2) ∧ c * (k + 2) ≤ 16 * 514 := mul_le (by omega) (by omega) (by omega) (by omega)
  simp only [Gm.val]
  go_enter Tryz.func68, Tryz.ntmps68
  go_wp2_with fail
  refine (valid_is ⟨p, b, s, c, k, r, q⟩ _ HO.out _).mono ?_
  rintro e w1 ⟨rfl, h1⟩
  obtain ⟨_, _, _, _, _, _, _, HB⟩ := geom_cells (g := ⟨p, b, s, c, k, r, q⟩) h1
  clear h1
  go_wp2
  go_ret
  refine ⟨ret_int ?_, HB.out⟩
  omega
def GBox (w : World) (n : Nat) (g : Gm) : Prop :=
 n < w.heap.size ∧ w.cell? ⟨n, 0, none⟩ = some (.int .i64 g.p) ∧ w.cell? ⟨n, 1, none⟩ = some (.int .i64 g.b) ∧ w.cell? ⟨n, 2, none⟩ = some (.int .i64 g.s) ∧ w.cell? ⟨n, 3, none⟩ = some (.int .i64 g.c) ∧ w.cell? ⟨n, 4, none⟩ = some (.int .i64 g.k) ∧ w.cell? ⟨n, 5, none⟩ = some (.int .i64 g.r) ∧ w.cell? ⟨n, 6, none⟩ = some (.int .i64 g.q)
theorem GBox.below {w w' : World} {n : Nat} {g : Gm} (h : GBox w n g) (hb : Below w.heap.size w w') : GBox w' n g := by
 obtain ⟨h0, h1, h2, h3, h4, h5, h6, h7⟩ := h
 exact ⟨Nat.lt_of_lt_of_le h0 hb.size, (hb.cell h0).trans h1, (hb.cell h0).trans h2, (hb.cell h0).trans h3, (hb.cell h0).trans h4, (hb.cell h0).trans h5, (hb.cell h0).trans h6, (hb.cell h0).trans h7⟩
theorem GBox.new (w : World) (g : Gm) (t : TypeId) : GBox (w.alloc (.cells #[.int .i64 g.p, .int .i64 g.b, .int .i64 g.s, .int .i64 g.c, .int .i64 g.k, .int .i64 g.r, .int .i64 g.q] t)) w.heap.size g := by
 refine ⟨by simp, ?_, ?_, ?_, ?_, ?_, ?_, ?_⟩ <;> simp
theorem Check_yes (g : Gm) (h : g.ok = true) (w : World) : Calls Tryz.prog 27 #[g.val] w (Gives (.int .i64 0) w) := by
 have h1 := Check_any g w
 rwa [h] at h1
theorem Check_no (g : Gm) (h : g.ok = false) (w : World) : Calls Tryz.prog 27 #[g.val] w (Gives (.int .i64 2) w) := by
 have h1 := Check_any g w
 rwa [h] at h1
theorem Raw_is (g : Gm) (v : Int) (e : g.raw = v) (w : World) : Calls Tryz.prog 68 #[g.val] w (Gives (.int .i64 v) w) := e ▸ Raw_any g w
theorem below_yes (n m : Int) (w : World) (h1 : 0 ≤ n) (h2 : n < m) :
  Calls Tryz.prog 79 #[.int .i64 n, .int .i64 m] w fun e w' => e = .returned (.bool true) ∧ w = w' := by
 have h := below_any n m w
 rwa [decide_eq_true (show 0 ≤ n ∧ n < m from ⟨h1, h2⟩)] at h
theorem below_no (n m : Int) (w : World) (h : ¬ (0 ≤ n ∧ n < m)) :
  Calls Tryz.prog 79 #[.int .i64 n, .int .i64 m] w fun e w' => e = .returned (.bool false) ∧ w = w' := by
 have h1 := below_any n m w
 rwa [decide_eq_false h] at h1
theorem Row_yes (g : Gm) (x y : Int) (h : g.hasPage x y) (w : World) : Calls Tryz.prog 66 #[g.val, .int .i64 x, .int .i64 y] w (Gives (.tuple #[.int .i64 (x * g.s + y), .bool true]) w) := by
 obtain ⟨ho, hx, hy⟩ := h
 have HO := Lib.hid ho
 have hb := Gm.bounds_of ho
 clear ho
 obtain ⟨p, b, s, c, k, r, q⟩ := g
 simp only at hx hy hb
 have hm : 0 ≤ x * s ∧ x * s ≤ 256 * 64 := mul_le (by omega) (by omega) (by omega) (by omega)
 simp only [Gm.val]
 go_enter Tryz.func66, Tryz.ntmps66
 go_wp2_with fail
 refine (valid_is ⟨p, b, s, c, k, r, q⟩ _ HO.out _).mono ?_
 rintro e w1 ⟨rfl, h1⟩
 obtain ⟨_, _, _, _, _, _, _, HB⟩ := geom_cells (g := ⟨p, b, s, c, k, r, q⟩) h1
 clear h1
 go_wp2_with (first | (go_at_call 79; refine (below_yes _ _ _ (by omega) (by omega)).mono ?_; rintro e w' ⟨rfl, rfl⟩))
 go_ret2
 exact ⟨rfl, HB.out⟩
theorem Row_no (g : Gm) (x y : Int) (h : ¬ g.hasPage x y) (w : World) : Calls Tryz.prog 66 #[g.val, .int .i64 x, .int .i64 y] w (Gives (.tuple #[.int .i64 0, .bool false]) w) := by
 cases ho : g.ok
 ·
  have HO := Lib.hid ho
  clear ho h
  obtain ⟨p, b, s, c, k, r, q⟩ := g
  simp only [Gm.val]
  go_enter Tryz.func66, Tryz.ntmps66
  go_wp2_with fail
  refine (valid_is ⟨p, b, s, c, k, r, q⟩ _ HO.out _).mono ?_
  rintro e w1 ⟨rfl, h1⟩
  obtain ⟨_, _, _, _, _, _, _, HB⟩ := geom_cells (g := ⟨p, b, s, c, k, r, q⟩) h1
  clear h1
  go_wp2
  go_ret2
  exact ⟨rfl, HB.out⟩
 ·
  have HO := Lib.hid ho
  obtain ⟨p, b, s, c, k, r, q⟩ := g
  by_cases hx : 0 ≤ x ∧ x < b
  ·
   have hy : ¬ (0 ≤ y ∧ y < s) := fun hy => h ⟨ho, hx, hy⟩
   clear ho h
   have HY := Lib.hid hy
   clear hy
   simp only [Gm.val]
   go_enter Tryz.func66, Tryz.ntmps66
   go_wp2_with fail
   refine (valid_is ⟨p, b, s, c, k, r, q⟩ _ HO.out _).mono ?_
   rintro e w1 ⟨rfl, h1⟩
   obtain ⟨_, _, _, _, _, _, _, HB⟩ := geom_cells (g := ⟨p, b, s, c, k, r, q⟩) h1
   clear h1
   go_wp2_with fail
   refine (below_yes x b _ (by omega) (by omega)).mono ?_
   rintro e w' ⟨rfl, rfl⟩
   go_wp2_with fail
   refine (below_no y s _ HY.out).mono ?_
   rintro e w' ⟨rfl, rfl⟩
   go_wp2
   go_ret2
   exact ⟨rfl, HB.out⟩
  ·
   have HX := Lib.hid hx
   clear ho h hx
   simp only [Gm.val]
   go_enter Tryz.func66, Tryz.ntmps66
   go_wp2_with fail
   refine (valid_is ⟨p, b, s, c, k, r, q⟩ _ HO.out _).mono ?_
   rintro e w1 ⟨rfl, h1⟩
   obtain ⟨_, _, _, _, _, _, _, HB⟩ := geom_cells (g := ⟨p, b, s, c, k, r, q⟩) h1
   clear h1
   go_wp2_with fail
   refine (below_no x b _ HX.out).mono ?_
   rintro e w' ⟨rfl, rfl⟩
   go_wp2
   go_ret2
   exact ⟨rfl, HB.out⟩
theorem Split_yes (g : Gm) (x : Int) (h : g.hasRow x) (w : World) : Calls Tryz.prog 78 #[g.val, .int .i64 x] w (Gives (.tuple #[.int .i64 (x / g.s), .int .i64 (x % g.s), .bool true]) w) := by
 obtain ⟨ho, hx⟩ := h
 have HO := Lib.hid ho
 have hb := Gm.bounds_of ho
 clear ho
 obtain ⟨p, b, s, c, k, r, q⟩ := g
 simp only at hx hb
 have hm : 0 ≤ b * s ∧ b * s ≤ 256 * 64 := mul_le (by omega) (by omega) (by omega) (by omega)
 simp only [Gm.val]
 go_enter Tryz.func78, Tryz.ntmps78
 go_wp2_with fail
 refine (valid_is ⟨p, b, s, c, k, r, q⟩ _ HO.out _).mono ?_
 rintro e w1 ⟨rfl, h1⟩
 obtain ⟨_, _, _, _, _, _, _, HB⟩ := geom_cells (g := ⟨p, b, s, c, k, r, q⟩) h1
 clear h1
 go_wp2_with fail
 refine (below_yes x (b * s) _ (by omega) (by omega)).mono ?_
 rintro e w' ⟨rfl, rfl⟩
 go_wp2
 go_quiet (fail)
 go_wp2
 go_ret3
 exact ⟨rfl, below_drewN HB.out _⟩
theorem Split_no (g : Gm) (x : Int) (h : ¬ g.hasRow x) (w : World) : Calls Tryz.prog 78 #[g.val, .int .i64 x] w (Gives (.tuple #[.int .i64 0, .int .i64 0, .bool false]) w) := by
 cases ho : g.ok
 ·
  have HO := Lib.hid ho
  clear ho h
  obtain ⟨p, b, s, c, k, r, q⟩ := g
  simp only [Gm.val]
  go_enter Tryz.func78, Tryz.ntmps78
  go_wp2_with fail
  refine (valid_is ⟨p, b, s, c, k, r, q⟩ _ HO.out _).mono ?_
  rintro e w1 ⟨rfl, h1⟩
  obtain ⟨_, _, _, _, _, _, _, HB⟩ := geom_cells (g := ⟨p, b, s, c, k, r, q⟩) h1
  clear h1
  go_wp2
  go_ret3
  exact ⟨rfl, HB.out⟩
 ·
  have HO := Lib.hid ho
  have hb := Gm.bounds_of ho
  have HX := Lib.hid (show ¬ (0 ≤ x ∧ x < g.b * g.s) from fun hx => h ⟨ho, hx⟩)
  clear ho h
  obtain ⟨p, b, s, c, k, r, q⟩ := g
  simp only at hb
  have hm : 0 ≤ b * s ∧ b * s ≤ 256 * 64 := mul_le (by omega) (by omega) (by omega) (by omega)
  simp only [Gm.val]
  go_enter Tryz.func78, Tryz.ntmps78
  go_wp2_with fail
  refine (valid_is ⟨p, b, s, c, k, r, q⟩ _ HO.out _).mono ?_
  rintro e w1 ⟨rfl, h1⟩
  obtain ⟨_, _, _, _, _, _, _, HB⟩ := geom_cells (g := ⟨p, b, s, c, k, r, q⟩) h1
  clear h1
  go_wp2_with fail
  refine (below_no x (b * s) _ HX.out).mono ?_
  rintro e w' ⟨rfl, rfl⟩
  go_wp2
  go_ret3
  exact ⟨rfl, HB.out⟩
theorem Plane_yes (g : Gm) (x : Int) (h : g.hasBlock x) (w : World) : Calls Tryz.prog 150 #[g.val, .int .i64 x] w (Gives (.tuple #[.int .i64 (x % g.p), .bool true]) w) := by
 obtain ⟨ho, hx⟩ := h
 have HO := Lib.hid ho
 have hb := Gm.bounds_of ho
 clear ho
 obtain ⟨p, b, s, c, k, r, q⟩ := g
 simp only at hx hb
 simp only [Gm.val]
 go_enter Tryz.func150, Tryz.ntmps150
 go_wp2_with fail
 refine (valid_is ⟨p, b, s, c, k, r, q⟩ _ HO.out _).mono ?_
 rintro e w1 ⟨rfl, h1⟩
 obtain ⟨_, _, _, _, _, _, _, HB⟩ := geom_cells (g := ⟨p, b, s, c, k, r, q⟩) h1
 clear h1
 go_wp2_with fail
 refine (below_yes x b _ (by omega) (by omega)).mono ?_
 rintro e w' ⟨rfl, rfl⟩
 go_wp2
 go_ret2
 exact ⟨rfl, HB.out⟩
theorem gfrom_any (n lo hi : Int) (w : World) : Calls Tryz.prog 30 #[.int .i64 n, .int .i64 lo, .int .i64 hi] w fun e w' => e = .returned (.bool (decide (lo ≤ n ∧ n ≤ hi))) ∧ w = w' := by
 by_cases h1 : lo ≤ n
 ·
  by_cases h2 : n ≤ hi
  ·
   rw [decide_eq_true (show lo ≤ n ∧ n ≤ hi from ⟨h1, h2⟩)]
   go_enter Tryz.func30, Tryz.ntmps30
   go_wp2
   go_ret
   exact ⟨rfl, rfl⟩
  ·
   rw [decide_eq_false (show ¬ (lo ≤ n ∧ n ≤ hi) from fun h => h2 h.2)]
   have h2' : hi < n := by omega
   go_enter Tryz.func30, Tryz.ntmps30
   go_wp2
   go_ret
   exact ⟨rfl, rfl⟩
 ·
  rw [decide_eq_false (show ¬ (lo ≤ n ∧ n ≤ hi) from fun h => h1 h.1)]
  have h1' : n < lo := by omega
  go_enter Tryz.func30, Tryz.ntmps30
  go_wp2
  go_ret
  exact ⟨rfl, rfl⟩
theorem gfrom_yes (n lo hi : Int) (w : World) (h1 : lo ≤ n) (h2 : n ≤ hi) : Calls Tryz.prog 30 #[.int .i64 n, .int .i64 lo, .int .i64 hi] w fun e w' => e = .returned (.bool true) ∧ w = w' := by
 have h := gfrom_any n lo hi w
 rwa [decide_eq_true (show lo ≤ n ∧ n ≤ hi from ⟨h1, h2⟩)] at h
theorem gfrom_no (n lo hi : Int) (w : World) (h : ¬ (lo ≤ n ∧ n ≤ hi)) : Calls Tryz.prog 30 #[.int .i64 n, .int .i64 lo, .int .i64 hi] w fun e w' => e = .returned (.bool false) ∧ w = w' := by
 have h1 := gfrom_any n lo hi w
 rwa [decide_eq_false h] at h1
set_option maxHeartbeats 1000000 in
theorem RefRight_any (g : Gm) (w : World) : Calls Tryz.prog 11 #[g.val] w (Gives (.bool g.ok) w) := by
 obtain ⟨p, b, s, c, k, r, q⟩ := g
 simp only [Gm.val]
 by_cases h0 : 1 ≤ p ∧ p ≤ 4
 ·
  by_cases h1 : 2 ≤ b ∧ b ≤ 256
  ·
   by_cases h2 : 4 ≤ s ∧ s ≤ 64
   ·
    by_cases h3 : 1 ≤ c ∧ c ≤ 16
    ·
     by_cases h4 : 4 ≤ k ∧ k ≤ 512
     ·
      by_cases h5 : 1 ≤ r ∧ r ≤ 8
      ·
       by_cases h6 : 1 ≤ q ∧ q ≤ 8
       ·
        have HZ := Lib.hid (show Gm.sized ⟨p, b, s, c, k, r, q⟩ from ⟨h0, h1, h2, h3, h4, h5, h6⟩)
        have hd := quo_facts (b := b) (p := p) (by omega) (by omega)
        have hd2 := quo_facts (b := s) (p := 2) (by omega) (by omega)
        have e1 := Lib.hid (quo_mul b p)
        have e2 := Lib.hid (quo_mul s 2)
        by_cases hb : b % p = 0
        ·
         have hb1 : (b / p * p == b) = true := by rw [e1.out]; simp [hb]
         by_cases hs : s % 2 = 0
         ·
          have hs1 : (s / 2 * 2 == s) = true := by rw [e2.out]; simp [hs]
          have HO := Lib.hid (show Gm.ok ⟨p, b, s, c, k, r, q⟩ = true from decide_eq_true ⟨HZ.out, hb, hs⟩)
          rw [HO.out]
          clear hb hs
          go_enter Tryz.func11, Tryz.ntmps11
          go_wp2_with (go_at_call 30; first | (refine (gfrom_yes _ _ _ _ (by omega) (by omega)).mono ?_; rintro e w' ⟨rfl, rfl⟩) | (refine (gfrom_no _ _ _ _ (by omega)).mono ?_; rintro e w' ⟨rfl, rfl⟩))
          go_quiet (fail)
          go_wp2
          go_ret
          exact ⟨rfl, below_drewN ((Below.refl w.heap.size w).alloc (Nat.le_refl _) _) _⟩
         ·
          have hs1 : (s / 2 * 2 == s) = false := by rw [e2.out]; simp; omega
          have HO := Lib.hid (show Gm.ok ⟨p, b, s, c, k, r, q⟩ = false from decide_eq_false fun h => hs h.2.2)
          rw [HO.out]
          clear hb hs
          go_enter Tryz.func11, Tryz.ntmps11
          go_wp2_with (go_at_call 30; first | (refine (gfrom_yes _ _ _ _ (by omega) (by omega)).mono ?_; rintro e w' ⟨rfl, rfl⟩) | (refine (gfrom_no _ _ _ _ (by omega)).mono ?_; rintro e w' ⟨rfl, rfl⟩))
          go_quiet (fail)
          go_wp2
          go_ret
          exact ⟨rfl, below_drewN ((Below.refl w.heap.size w).alloc (Nat.le_refl _) _) _⟩
        ·
         have hb1 : (b / p * p == b) = false := by rw [e1.out]; simp; omega
         have HO := Lib.hid (show Gm.ok ⟨p, b, s, c, k, r, q⟩ = false from decide_eq_false fun h => hb h.2.1)
         rw [HO.out]
         clear hb
         go_enter Tryz.func11, Tryz.ntmps11
         go_wp2_with (go_at_call 30; first | (refine (gfrom_yes _ _ _ _ (by omega) (by omega)).mono ?_; rintro e w' ⟨rfl, rfl⟩) | (refine (gfrom_no _ _ _ _ (by omega)).mono ?_; rintro e w' ⟨rfl, rfl⟩))
         go_quiet (fail)
         go_wp2
         go_ret
         exact ⟨rfl, below_drewN ((Below.refl w.heap.size w).alloc (Nat.le_refl _) _) _⟩
       ·
        have HO := Lib.hid (show Gm.ok ⟨p, b, s, c, k, r, q⟩ = false from Gm.ok_not (by simp only [Gm.sized]; omega))
        rw [HO.out]
        go_enter Tryz.func11, Tryz.ntmps11
        go_wp2_with (go_at_call 30; first | (refine (gfrom_yes _ _ _ _ (by omega) (by omega)).mono ?_; rintro e w' ⟨rfl, rfl⟩) | (refine (gfrom_no _ _ _ _ (by omega)).mono ?_; rintro e w' ⟨rfl, rfl⟩))
        go_ret
        exact ⟨rfl, ((Below.refl w.heap.size w).alloc (Nat.le_refl _) _)⟩
      ·
       have HO := Lib.hid (show Gm.ok ⟨p, b, s, c, k, r, q⟩ = false from Gm.ok_not (by simp only [Gm.sized]; omega))
       rw [HO.out]
       go_enter Tryz.func11, Tryz.ntmps11
       go_wp2_with (go_at_call 30; first | (refine (gfrom_yes _ _ _ _ (by omega) (by omega)).mono ?_; rintro e w' ⟨rfl, rfl⟩) | (refine (gfrom_no _ _ _ _ (by omega)).mono ?_; rintro e w' ⟨rfl, rfl⟩))
       go_ret
       exact ⟨rfl, ((Below.refl w.heap.size w).alloc (Nat.le_refl _) _)⟩
     ·
      have HO := Lib.hid (show Gm.ok ⟨p, b, s, c, k, r, q⟩ = false from Gm.ok_not (by simp only [Gm.sized]; omega))
      rw [HO.out]
      go_enter Tryz.func11, Tryz.ntmps11
      go_wp2_with (go_at_call 30; first | (refine (gfrom_yes _ _ _ _ (by omega) (by omega)).mono ?_; rintro e w' ⟨rfl, rfl⟩) | (refine (gfrom_no _ _ _ _ (by omega)).mono ?_; rintro e w' ⟨rfl, rfl⟩))
      go_ret
      exact ⟨rfl, ((Below.refl w.heap.size w).alloc (Nat.le_refl _) _)⟩
    ·
     have HO := Lib.hid (show Gm.ok ⟨p, b, s, c, k, r, q⟩ = false from Gm.ok_not (by simp only [Gm.sized]; omega))
     rw [HO.out]
     go_enter Tryz.func11, Tryz.ntmps11
     go_wp2_with (go_at_call 30; first | (refine (gfrom_yes _ _ _ _ (by omega) (by omega)).mono ?_; rintro e w' ⟨rfl, rfl⟩) | (refine (gfrom_no _ _ _ _ (by omega)).mono ?_; rintro e w' ⟨rfl, rfl⟩))
     go_ret
     exact ⟨rfl, ((Below.refl w.heap.size w).alloc (Nat.le_refl _) _)⟩
   ·
    have HO := Lib.hid (show Gm.ok ⟨p, b, s, c, k, r, q⟩ = false from Gm.ok_not (by simp only [Gm.sized]; omega))
    rw [HO.out]
    go_enter Tryz.func11, Tryz.ntmps11
    go_wp2_with (go_at_call 30; first | (refine (gfrom_yes _ _ _ _ (by omega) (by omega)).mono ?_; rintro e w' ⟨rfl, rfl⟩) | (refine (gfrom_no _ _ _ _ (by omega)).mono ?_; rintro e w' ⟨rfl, rfl⟩))
    go_ret
    exact ⟨rfl, ((Below.refl w.heap.size w).alloc (Nat.le_refl _) _)⟩
  ·
   have HO := Lib.hid (show Gm.ok ⟨p, b, s, c, k, r, q⟩ = false from Gm.ok_not (by simp only [Gm.sized]; omega))
   rw [HO.out]
   go_enter Tryz.func11, Tryz.ntmps11
   go_wp2_with (go_at_call 30; first | (refine (gfrom_yes _ _ _ _ (by omega) (by omega)).mono ?_; rintro e w' ⟨rfl, rfl⟩) | (refine (gfrom_no _ _ _ _ (by omega)).mono ?_; rintro e w' ⟨rfl, rfl⟩))
   go_ret
   exact ⟨rfl, ((Below.refl w.heap.size w).alloc (Nat.le_refl _) _)⟩
 ·
  have HO := Lib.hid (show Gm.ok ⟨p, b, s, c, k, r, q⟩ = false from Gm.ok_not (by simp only [Gm.sized]; omega))
  rw [HO.out]
  go_enter Tryz.func11, Tryz.ntmps11
  go_wp2_with (go_at_call 30; first | (refine (gfrom_yes _ _ _ _ (by omega) (by omega)).mono ?_; rintro e w' ⟨rfl, rfl⟩) | (refine (gfrom_no _ _ _ _ (by omega)).mono ?_; rintro e w' ⟨rfl, rfl⟩))
  go_ret
  exact ⟨rfl, ((Below.refl w.heap.size w).alloc (Nat.le_refl _) _)⟩
theorem Lower_any (x : Int) (w : World) (h2 : x ≤ 9223372036854775807) : Calls Tryz.prog 129 #[.int .i64 x] w fun e w' => e = .returned (.int .i64 (lowerI x)) ∧ w = w' := by
 by_cases h : x < 0
 ·
  have HL := Lib.hid (show lowerI x = 0 by simp [lowerI, h])
  rw [HL.out]
  go_enter Tryz.func129, Tryz.ntmps129
  go_wp2
  go_ret
  exact ⟨rfl, rfl⟩
 ·
  have HL := Lib.hid (show lowerI x = x - x % 2 by simp [lowerI, h])
  rw [HL.out]
  have h0 : 0 ≤ x := by omega
  go_enter Tryz.func129, Tryz.ntmps129
  go_wp2
  go_ret
  exact ⟨rfl, rfl⟩
theorem R8.two {w : World} {g x y : Nat} {t : TypeId} (hx : x < 256) (hy : y < 256) (hg : g = w.heap.size) : R8 (w.alloc (.cells #[.int .u8 (x : Int), .int .u8 (y : Int)] t)) (some ⟨g, 0, none⟩) 2 [x, y] := by
 subst hg
 refine ⟨⟨rfl, fun _ => ⟨_, 0, rfl, by simp, fun j hj => ?_⟩⟩, by intro z hz; simp at hz; omega⟩
 match j, hj with
 | 0, _ => simp [U8]
 | 1, _ => simp [U8]
theorem Address_any (n : Int) (w : World) : Calls Tryz.prog 39 #[.int .i64 n] w (MakesB (adr n) w) := by
 go_enter Tryz.func39, Tryz.ntmps39
 go_wp2
 go_ret
 refine ⟨some ⟨w.heap.size, 0, none⟩, 2, rfl, ?_, (Below.refl _ _).alloc (Nat.le_refl _) _⟩
 have e0 : n % 256 = (((n % 256).toNat : Nat) : Int) := by omega
 have e1 : n / 256 % 256 = (((n / 256 % 256).toNat : Nat) : Int) := by omega
 have h3 : (n % 256).toNat < 256 := by omega
 have h4 : (n / 256 % 256).toNat < 256 := by omega
 unfold adr
 rw [e0, e1]
 exact R8.two h3 h4 rfl
theorem Number_yes (A : Option Addr) (c x y : Nat) (w : World) (hr : R8 w A 2 [x, y]) : Calls Tryz.prog 53 #[.slice A 2 c] w (Quiet (.tuple #[.int .i64 ((x + 256 * y : Nat) : Int), .bool true]) w) := by
 obtain ⟨g, off, x1, rfl, hb, HX, hx, hc⟩ := hr.at_ (k := 0) (by omega)
 obtain ⟨g2, off2, y1, e, hb2, HY, hy, hc2⟩ := hr.at_ (k := 1) (by omega)
 injection e with e
 injection e with e1 e2
 subst e1 e2
 obtain rfl : x = x1 := by simpa using HX.out
 obtain rfl : y = y1 := by simpa using HY.out
 clear hr
 simp only [Nat.add_zero] at hc
 go_enter Tryz.func53, Tryz.ntmps53
 go_wp2
 go_quiet (fail)
 go_wp2
 go_ret2
 refine ⟨?_, _, rfl⟩
 have e : bits .or .i64 (x : Int) ((y : Int) * 256) = ((x + 256 * y : Nat) : Int) := by
  have h1 : ((y : Int) * 256) = ((y * 256 : Nat) : Int) := by simp
  rw [h1, i64_or_nat _ _ (by omega) (by omega), Nat.or_comm, nat_join 8 (y * 256) x (by omega) (by omega)]
  congr 1
  omega
 rw [← e]
 rfl
theorem Row_is (g : Gm) (x y v : Int) (h : g.hasPage x y) (e : x * g.s + y = v) (w : World) : Calls Tryz.prog 66 #[g.val, .int .i64 x, .int .i64 y] w (Gives (.tuple #[.int .i64 v, .bool true]) w) := e ▸ Row_yes g x y h w
theorem Split_is (g : Gm) (x u v : Int) (h : g.hasRow x) (e1 : x / g.s = u) (e2 : x % g.s = v) (w : World) : Calls Tryz.prog 78 #[g.val, .int .i64 x] w (Gives (.tuple #[.int .i64 u, .int .i64 v, .bool true]) w) := e1 ▸ e2 ▸ Split_yes g x h w
theorem Lower_is (x v : Int) (e : lowerI x = v) (w : World) (h2 : x ≤ 9223372036854775807) : Calls Tryz.prog 129 #[.int .i64 x] w fun e w' => e = .returned (.int .i64 v) ∧ w = w' := e ▸ Lower_any x w h2
def small : Gm := ⟨2, 8, 4, 1, 8, 1, 1⟩
def smallG (g : Gm) : Prop := g.c ≤ 4 ∧ g.k ≤ 40 ∧ 0 ≤ g.c ∧ 0 ≤ g.k
set_option maxHeartbeats 1000000 in
theorem Small_yes (g : Gm) (h : smallG g) (w : World) : Calls Tryz.prog 18 #[g.val] w (Gives (.bool true) w) := by
 obtain ⟨p, b, s, c, k, r, q⟩ := g
 obtain ⟨h1, h2, h3, h4⟩ := h
 simp only at h1 h2 h3 h4
 have d1 : decide (c ≤ 4) = true := decide_eq_true h1
 have d2 : decide (k ≤ 40) = true := decide_eq_true h2
 have d3 : decide (0 ≤ c) = true := decide_eq_true h3
 have d4 : decide (0 ≤ k) = true := decide_eq_true h4
 simp only [Gm.val]
 go_enter Tryz.func18, Tryz.ntmps18
 go_wp2
 go_ret
 exact ⟨rfl, below_new w _⟩
set_option maxHeartbeats 1000000 in
theorem Small_no (g : Gm) (h : ¬ smallG g) (w : World) : Calls Tryz.prog 18 #[g.val] w (Gives (.bool false) w) := by
 obtain ⟨p, b, s, c, k, r, q⟩ := g
 unfold smallG at h
 simp only at h
 simp only [Gm.val]
 by_cases h1 : c ≤ 4
 ·
  have d1 : decide (c ≤ 4) = true := decide_eq_true h1
  by_cases h2 : k ≤ 40
  ·
   have d2 : decide (k ≤ 40) = true := decide_eq_true h2
   by_cases h3 : 0 ≤ c
   ·
    have d3 : decide (0 ≤ c) = true := decide_eq_true h3
    have d4 : decide (0 ≤ k) = false := decide_eq_false (by omega)
    clear h
    go_enter Tryz.func18, Tryz.ntmps18
    go_wp2
    go_ret
    exact ⟨rfl, below_new w _⟩
   ·
    have d3 : decide (0 ≤ c) = false := decide_eq_false h3
    clear h
    go_enter Tryz.func18, Tryz.ntmps18
    go_wp2
    go_ret
    exact ⟨rfl, below_new w _⟩
  ·
   have d2 : decide (k ≤ 40) = false := decide_eq_false h2
   clear h
   go_enter Tryz.func18, Tryz.ntmps18
   go_wp2
   go_ret
   exact ⟨rfl, below_new w _⟩
 ·
  have d1 : decide (c ≤ 4) = false := decide_eq_false h1
  clear h
  go_enter Tryz.func18, Tryz.ntmps18
  go_wp2
  go_ret
  exact ⟨rfl, below_new w _⟩
theorem geom_diff {a b : Gm} (h : a ≠ b) : a.p ≠ b.p ∨ (a.p = b.p ∧ a.b ≠ b.b) ∨ (a.p = b.p ∧ a.b = b.b ∧ a.s ≠ b.s) ∨ (a.p = b.p ∧ a.b = b.b ∧ a.s = b.s ∧ a.c ≠ b.c) ∨ (a.p = b.p ∧ a.b = b.b ∧ a.s = b.s ∧ a.c = b.c ∧ a.k ≠ b.k) ∨ (a.p = b.p ∧ a.b = b.b ∧ a.s = b.s ∧ a.c = b.c ∧ a.k = b.k ∧ a.r ≠ b.r) ∨ (a.p = b.p ∧ a.b = b.b ∧ a.s = b.s ∧ a.c = b.c ∧ a.k = b.k ∧ a.r = b.r ∧ a.q ≠ b.q) := by
 obtain ⟨p, b', s, c, k, r, q⟩ := a
 obtain ⟨p2, b2, s2, c2, k2, r2, q2⟩ := b
 have h2 : ¬ (p = p2 ∧ b' = b2 ∧ s = s2 ∧ c = c2 ∧ k = k2 ∧ r = r2 ∧ q = q2) := fun e => h (by obtain ⟨rfl, rfl, rfl, rfl, rfl, rfl, rfl⟩ := e; rfl)
 simp only
 omega
set_option maxHeartbeats 4000000 in
theorem neq_geom_no (a : Gm) (W : World) : (binOp .neq 23 (.agg #[.int .i64 a.p, .int .i64 a.b, .int .i64 a.s, .int .i64 a.c, .int .i64 a.k, .int .i64 a.r, .int .i64 a.q]) (.agg #[.int .i64 a.p, .int .i64 a.b, .int .i64 a.s, .int .i64 a.c, .int .i64 a.k, .int .i64 a.r, .int .i64 a.q])).run Tryz.prog W = .ok (.bool false) W := by
 go_simp
set_option maxHeartbeats 4000000 in
theorem neq_geom_yes {a b : Gm} (h : a ≠ b) (W : World) : (binOp .neq 23 (.agg #[.int .i64 a.p, .int .i64 a.b, .int .i64 a.s, .int .i64 a.c, .int .i64 a.k, .int .i64 a.r, .int .i64 a.q]) (.agg #[.int .i64 b.p, .int .i64 b.b, .int .i64 b.s, .int .i64 b.c, .int .i64 b.k, .int .i64 b.r, .int .i64 b.q])).run Tryz.prog W = .ok (.bool true) W := by
 rcases geom_diff h with hd | ⟨e1, hd⟩ | ⟨e1, e2, hd⟩ | ⟨e1, e2, e3, hd⟩ | ⟨e1, e2, e3, e4, hd⟩ | ⟨e1, e2, e3, e4, e5, hd⟩ | ⟨e1, e2, e3, e4, e5, e6, hd⟩
 all_goals clear h; go_simp
set_option maxHeartbeats 4000000 in
theorem eql_geom_no {a b : Gm} (h : a ≠ b) (W : World) : (binOp .eql 23 (.agg #[.int .i64 a.p, .int .i64 a.b, .int .i64 a.s, .int .i64 a.c, .int .i64 a.k, .int .i64 a.r, .int .i64 a.q]) (.agg #[.int .i64 b.p, .int .i64 b.b, .int .i64 b.s, .int .i64 b.c, .int .i64 b.k, .int .i64 b.r, .int .i64 b.q])).run Tryz.prog W = .ok (.bool false) W := by
 rcases geom_diff h with hd | ⟨e1, hd⟩ | ⟨e1, e2, hd⟩ | ⟨e1, e2, e3, hd⟩ | ⟨e1, e2, e3, e4, hd⟩ | ⟨e1, e2, e3, e4, e5, hd⟩ | ⟨e1, e2, e3, e4, e5, e6, hd⟩
 all_goals clear h; go_simp
set_option maxHeartbeats 4000000 in
theorem eql_geom_yes (a : Gm) (W : World) : (binOp .eql 23 (.agg #[.int .i64 a.p, .int .i64 a.b, .int .i64 a.s, .int .i64 a.c, .int .i64 a.k, .int .i64 a.r, .int .i64 a.q]) (.agg #[.int .i64 a.p, .int .i64 a.b, .int .i64 a.s, .int .i64 a.c, .int .i64 a.k, .int .i64 a.r, .int .i64 a.q])).run Tryz.prog W = .ok (.bool true) W := by
 go_simp
end Go.Proofs.YtmbgoopkpfhamaaGreat
