/-
  Contracts of geom.Check, Data, Raw, Row, Split, Plane, over the landed code.
-/
import Derived.Test.YtkbjbgbngkidjaaGeomA
namespace Go.Proofs.Ytkbjbgbngkidjaa
open Go.RowKit

theorem valid_is (g : Gm) (v : Bool) (h : g.ok = v) (w : World) : Calls Try.prog 23 #[g.val] w (Gives (.bool v) w) := h ▸ valid_any g w
theorem below_yes (n m : Int) (w : World) (h1 : 0 ≤ n) (h2 : n < m) :
    Calls Try.prog 24 #[.int .i64 n, .int .i64 m] w fun e w' => e = .returned (.bool true) ∧ w = w' := by
  have h := below_any n m w
  rwa [decide_eq_true (show 0 ≤ n ∧ n < m from ⟨h1, h2⟩)] at h
theorem below_no (n m : Int) (w : World) (h : ¬ (0 ≤ n ∧ n < m)) :
    Calls Try.prog 24 #[.int .i64 n, .int .i64 m] w fun e w' => e = .returned (.bool false) ∧ w = w' := by
  have h1 := below_any n m w
  rwa [decide_eq_false h] at h1

/-- A geometry that was laid into a block of its own, and what has come since: its cells are as they were. -/
theorem geom_cells {g : Gm} {t : TypeId} {w w' : World} (h : Below (w.alloc (.cells #[.int .i64 g.p, .int .i64 g.b, .int .i64 g.s, .int .i64 g.c, .int .i64 g.k, .int .i64 g.r, .int .i64 g.q] t)).heap.size (w.alloc (.cells #[.int .i64 g.p, .int .i64 g.b, .int .i64 g.s, .int .i64 g.c, .int .i64 g.k, .int .i64 g.r, .int .i64 g.q] t)) w') :
    w'.cell? ⟨w.heap.size, 0, none⟩ = some (.int .i64 g.p) ∧ w'.cell? ⟨w.heap.size, 1, none⟩ = some (.int .i64 g.b) ∧ w'.cell? ⟨w.heap.size, 2, none⟩ = some (.int .i64 g.s) ∧ w'.cell? ⟨w.heap.size, 3, none⟩ = some (.int .i64 g.c) ∧ w'.cell? ⟨w.heap.size, 4, none⟩ = some (.int .i64 g.k) ∧ w'.cell? ⟨w.heap.size, 5, none⟩ = some (.int .i64 g.r) ∧ w'.cell? ⟨w.heap.size, 6, none⟩ = some (.int .i64 g.q) ∧ Hid (Below w.heap.size w w') := by
  have hs : w.heap.size < (w.alloc (.cells #[.int .i64 g.p, .int .i64 g.b, .int .i64 g.s, .int .i64 g.c, .int .i64 g.k, .int .i64 g.r, .int .i64 g.q] t)).heap.size := by simp
  refine ⟨(h.cell hs).trans (by simp), (h.cell hs).trans (by simp), (h.cell hs).trans (by simp), (h.cell hs).trans (by simp), (h.cell hs).trans (by simp), (h.cell hs).trans (by simp), (h.cell hs).trans (by simp), ?_⟩
  exact ((Below.refl w.heap.size w).alloc (Nat.le_refl _) _).trans (h.mono (Nat.le_of_lt hs))

theorem Check_any (g : Gm) (w : World) : Calls Try.prog 9 #[g.val] w (Gives (.int .i64 (if g.ok then 0 else 2)) w) := by
  cases ho : g.ok
  all_goals
    have HO := Lib.hid ho
    clear ho
    obtain ⟨p, b, s, c, k, r, q⟩ := g
    simp only [Gm.val]
    go_enter Try.func9, Try.ntmps9
    go_wp2_with fail
    refine (valid_is ⟨p, b, s, c, k, r, q⟩ _ HO.out _).mono ?_
    rintro e w1 ⟨rfl, h1⟩
    obtain ⟨_, _, _, _, _, _, _, HB⟩ := geom_cells (g := ⟨p, b, s, c, k, r, q⟩) h1
    clear h1
    go_wp2
    go_ret
    exact ⟨rfl, HB.out⟩

theorem Data_any (g : Gm) (w : World) : Calls Try.prog 13 #[g.val] w (Gives (.int .i64 g.data) w) := by
  cases ho : g.ok
  · have HO := Lib.hid ho
    have HD := Lib.hid (show g.data = 0 by simp [Gm.data, ho])
    clear ho
    rw [HD.out]
    obtain ⟨p, b, s, c, k, r, q⟩ := g
    simp only [Gm.val]
    go_enter Try.func13, Try.ntmps13
    go_wp2_with fail
    refine (valid_is ⟨p, b, s, c, k, r, q⟩ _ HO.out _).mono ?_
    rintro e w1 ⟨rfl, h1⟩
    obtain ⟨_, _, _, _, _, _, _, HB⟩ := geom_cells (g := ⟨p, b, s, c, k, r, q⟩) h1
    clear h1
    go_wp2
    go_ret
    exact ⟨rfl, HB.out⟩
  · have HO := Lib.hid ho
    have HD := Lib.hid (show g.data = g.c * g.k by simp [Gm.data, ho])
    have hb := Gm.bounds_of ho
    clear ho
    rw [HD.out]
    obtain ⟨p, b, s, c, k, r, q⟩ := g
    simp only at hb
    have hm : 0 ≤ c * k ∧ c * k ≤ 16 * 512 := mul_le (by omega) (by omega) (by omega) (by omega)
    simp only [Gm.val]
    go_enter Try.func13, Try.ntmps13
    go_wp2_with fail
    refine (valid_is ⟨p, b, s, c, k, r, q⟩ _ HO.out _).mono ?_
    rintro e w1 ⟨rfl, h1⟩
    obtain ⟨_, _, _, _, _, _, _, HB⟩ := geom_cells (g := ⟨p, b, s, c, k, r, q⟩) h1
    clear h1
    go_wp2
    go_ret
    exact ⟨rfl, HB.out⟩

theorem Raw_any (g : Gm) (w : World) : Calls Try.prog 14 #[g.val] w (Gives (.int .i64 g.raw) w) := by
  cases ho : g.ok
  · have HO := Lib.hid ho
    have HD := Lib.hid (show g.raw = 0 by simp [Gm.raw, ho])
    clear ho
    rw [HD.out]
    obtain ⟨p, b, s, c, k, r, q⟩ := g
    simp only [Gm.val]
    go_enter Try.func14, Try.ntmps14
    go_wp2_with fail
    refine (valid_is ⟨p, b, s, c, k, r, q⟩ _ HO.out _).mono ?_
    rintro e w1 ⟨rfl, h1⟩
    obtain ⟨_, _, _, _, _, _, _, HB⟩ := geom_cells (g := ⟨p, b, s, c, k, r, q⟩) h1
    clear h1
    go_wp2
    go_ret
    exact ⟨rfl, HB.out⟩
  · have HO := Lib.hid ho
    have HD := Lib.hid (show g.raw = g.c * (g.k + 2) + 31 by simp [Gm.raw, ho])
    have hb := Gm.bounds_of ho
    clear ho
    rw [HD.out]
    obtain ⟨p, b, s, c, k, r, q⟩ := g
    simp only at hb
    have hm : 0 ≤ c * (k + 2) ∧ c * (k + 2) ≤ 16 * 514 := mul_le (by omega) (by omega) (by omega) (by omega)
    simp only [Gm.val]
    go_enter Try.func14, Try.ntmps14
    go_wp2_with fail
    refine (valid_is ⟨p, b, s, c, k, r, q⟩ _ HO.out _).mono ?_
    rintro e w1 ⟨rfl, h1⟩
    obtain ⟨_, _, _, _, _, _, _, HB⟩ := geom_cells (g := ⟨p, b, s, c, k, r, q⟩) h1
    clear h1
    go_wp2
    go_ret
    refine ⟨ret_int ?_, HB.out⟩
    omega

theorem Row_yes (g : Gm) (x y : Int) (h : g.hasPage x y) (w : World) : Calls Try.prog 10 #[g.val, .int .i64 x, .int .i64 y] w (Gives (.tuple #[.int .i64 (x * g.s + y), .bool true]) w) := by
  obtain ⟨ho, hx, hy⟩ := h
  have HO := Lib.hid ho
  have hb := Gm.bounds_of ho
  clear ho
  obtain ⟨p, b, s, c, k, r, q⟩ := g
  simp only at hx hy hb
  have hm : 0 ≤ x * s ∧ x * s ≤ 256 * 64 := mul_le (by omega) (by omega) (by omega) (by omega)
  simp only [Gm.val]
  go_enter Try.func10, Try.ntmps10
  go_wp2_with fail
  refine (valid_is ⟨p, b, s, c, k, r, q⟩ _ HO.out _).mono ?_
  rintro e w1 ⟨rfl, h1⟩
  obtain ⟨_, _, _, _, _, _, _, HB⟩ := geom_cells (g := ⟨p, b, s, c, k, r, q⟩) h1
  clear h1
  go_wp2_with (first | (go_at_call 24; refine (below_yes _ _ _ (by omega) (by omega)).mono ?_; rintro e w' ⟨rfl, rfl⟩))
  go_ret2
  exact ⟨rfl, HB.out⟩

theorem Row_no (g : Gm) (x y : Int) (h : ¬ g.hasPage x y) (w : World) : Calls Try.prog 10 #[g.val, .int .i64 x, .int .i64 y] w (Gives (.tuple #[.int .i64 0, .bool false]) w) := by
  cases ho : g.ok
  · have HO := Lib.hid ho
    clear ho h
    obtain ⟨p, b, s, c, k, r, q⟩ := g
    simp only [Gm.val]
    go_enter Try.func10, Try.ntmps10
    go_wp2_with fail
    refine (valid_is ⟨p, b, s, c, k, r, q⟩ _ HO.out _).mono ?_
    rintro e w1 ⟨rfl, h1⟩
    obtain ⟨_, _, _, _, _, _, _, HB⟩ := geom_cells (g := ⟨p, b, s, c, k, r, q⟩) h1
    clear h1
    go_wp2
    go_ret2
    exact ⟨rfl, HB.out⟩
  · have HO := Lib.hid ho
    obtain ⟨p, b, s, c, k, r, q⟩ := g
    by_cases hx : 0 ≤ x ∧ x < b
    · have hy : ¬ (0 ≤ y ∧ y < s) := fun hy => h ⟨ho, hx, hy⟩
      clear ho h
      have HY := Lib.hid hy
      clear hy
      simp only [Gm.val]
      go_enter Try.func10, Try.ntmps10
      go_wp2_with fail
      refine (valid_is ⟨p, b, s, c, k, r, q⟩ _ HO.out _).mono ?_
      rintro e w1 ⟨rfl, h1⟩
      obtain ⟨_, _, _, _, _, _, _, HB⟩ := geom_cells (g := ⟨p, b, s, c, k, r, q⟩) h1
      clear h1
      go_wp2_with fail
      refine (below_yes x b _ (by omega) (by omega)).mono ?_
      rintro e w' ⟨rfl, rfl⟩
      go_wp2_with fail
      refine (below_no y s _ HY.out).mono ?_
      rintro e w' ⟨rfl, rfl⟩
      go_wp2
      go_ret2
      exact ⟨rfl, HB.out⟩
    · have HX := Lib.hid hx
      clear ho h hx
      simp only [Gm.val]
      go_enter Try.func10, Try.ntmps10
      go_wp2_with fail
      refine (valid_is ⟨p, b, s, c, k, r, q⟩ _ HO.out _).mono ?_
      rintro e w1 ⟨rfl, h1⟩
      obtain ⟨_, _, _, _, _, _, _, HB⟩ := geom_cells (g := ⟨p, b, s, c, k, r, q⟩) h1
      clear h1
      go_wp2_with fail
      refine (below_no x b _ HX.out).mono ?_
      rintro e w' ⟨rfl, rfl⟩
      go_wp2
      go_ret2
      exact ⟨rfl, HB.out⟩

theorem Split_yes (g : Gm) (x : Int) (h : g.hasRow x) (w : World) : Calls Try.prog 11 #[g.val, .int .i64 x] w (Gives (.tuple #[.int .i64 (x / g.s), .int .i64 (x % g.s), .bool true]) w) := by
  obtain ⟨ho, hx⟩ := h
  have HO := Lib.hid ho
  have hb := Gm.bounds_of ho
  clear ho
  obtain ⟨p, b, s, c, k, r, q⟩ := g
  simp only at hx hb
  have hm : 0 ≤ b * s ∧ b * s ≤ 256 * 64 := mul_le (by omega) (by omega) (by omega) (by omega)
  simp only [Gm.val]
  go_enter Try.func11, Try.ntmps11
  go_wp2_with fail
  refine (valid_is ⟨p, b, s, c, k, r, q⟩ _ HO.out _).mono ?_
  rintro e w1 ⟨rfl, h1⟩
  obtain ⟨_, _, _, _, _, _, _, HB⟩ := geom_cells (g := ⟨p, b, s, c, k, r, q⟩) h1
  clear h1
  go_wp2_with fail
  refine (below_yes x (b * s) _ (by omega) (by omega)).mono ?_
  rintro e w' ⟨rfl, rfl⟩
  go_wp2
  go_quiet (fail)
  go_wp2
  go_ret3
  exact ⟨rfl, below_drewN HB.out _⟩

theorem Split_no (g : Gm) (x : Int) (h : ¬ g.hasRow x) (w : World) : Calls Try.prog 11 #[g.val, .int .i64 x] w (Gives (.tuple #[.int .i64 0, .int .i64 0, .bool false]) w) := by
  cases ho : g.ok
  · have HO := Lib.hid ho
    clear ho h
    obtain ⟨p, b, s, c, k, r, q⟩ := g
    simp only [Gm.val]
    go_enter Try.func11, Try.ntmps11
    go_wp2_with fail
    refine (valid_is ⟨p, b, s, c, k, r, q⟩ _ HO.out _).mono ?_
    rintro e w1 ⟨rfl, h1⟩
    obtain ⟨_, _, _, _, _, _, _, HB⟩ := geom_cells (g := ⟨p, b, s, c, k, r, q⟩) h1
    clear h1
    go_wp2
    go_ret3
    exact ⟨rfl, HB.out⟩
  · have HO := Lib.hid ho
    have hb := Gm.bounds_of ho
    have HX := Lib.hid (show ¬ (0 ≤ x ∧ x < g.b * g.s) from fun hx => h ⟨ho, hx⟩)
    clear ho h
    obtain ⟨p, b, s, c, k, r, q⟩ := g
    simp only at hb
    have hm : 0 ≤ b * s ∧ b * s ≤ 256 * 64 := mul_le (by omega) (by omega) (by omega) (by omega)
    simp only [Gm.val]
    go_enter Try.func11, Try.ntmps11
    go_wp2_with fail
    refine (valid_is ⟨p, b, s, c, k, r, q⟩ _ HO.out _).mono ?_
    rintro e w1 ⟨rfl, h1⟩
    obtain ⟨_, _, _, _, _, _, _, HB⟩ := geom_cells (g := ⟨p, b, s, c, k, r, q⟩) h1
    clear h1
    go_wp2_with fail
    refine (below_no x (b * s) _ HX.out).mono ?_
    rintro e w' ⟨rfl, rfl⟩
    go_wp2
    go_ret3
    exact ⟨rfl, HB.out⟩

theorem Plane_yes (g : Gm) (x : Int) (h : g.hasBlock x) (w : World) : Calls Try.prog 12 #[g.val, .int .i64 x] w (Gives (.tuple #[.int .i64 (x % g.p), .bool true]) w) := by
  obtain ⟨ho, hx⟩ := h
  have HO := Lib.hid ho
  have hb := Gm.bounds_of ho
  clear ho
  obtain ⟨p, b, s, c, k, r, q⟩ := g
  simp only at hx hb
  simp only [Gm.val]
  go_enter Try.func12, Try.ntmps12
  go_wp2_with fail
  refine (valid_is ⟨p, b, s, c, k, r, q⟩ _ HO.out _).mono ?_
  rintro e w1 ⟨rfl, h1⟩
  obtain ⟨_, _, _, _, _, _, _, HB⟩ := geom_cells (g := ⟨p, b, s, c, k, r, q⟩) h1
  clear h1
  go_wp2_with fail
  refine (below_yes x b _ (by omega) (by omega)).mono ?_
  rintro e w' ⟨rfl, rfl⟩
  go_wp2
  go_ret2
  exact ⟨rfl, HB.out⟩

theorem Plane_no (g : Gm) (x : Int) (h : ¬ g.hasBlock x) (w : World) : Calls Try.prog 12 #[g.val, .int .i64 x] w (Gives (.tuple #[.int .i64 0, .bool false]) w) := by
  cases ho : g.ok
  · have HO := Lib.hid ho
    clear ho h
    obtain ⟨p, b, s, c, k, r, q⟩ := g
    simp only [Gm.val]
    go_enter Try.func12, Try.ntmps12
    go_wp2_with fail
    refine (valid_is ⟨p, b, s, c, k, r, q⟩ _ HO.out _).mono ?_
    rintro e w1 ⟨rfl, h1⟩
    obtain ⟨_, _, _, _, _, _, _, HB⟩ := geom_cells (g := ⟨p, b, s, c, k, r, q⟩) h1
    clear h1
    go_wp2
    go_ret2
    exact ⟨rfl, HB.out⟩
  · have HO := Lib.hid ho
    have HX := Lib.hid (show ¬ (0 ≤ x ∧ x < g.b) from fun hx => h ⟨ho, hx⟩)
    clear ho h
    obtain ⟨p, b, s, c, k, r, q⟩ := g
    simp only [Gm.val]
    go_enter Try.func12, Try.ntmps12
    go_wp2_with fail
    refine (valid_is ⟨p, b, s, c, k, r, q⟩ _ HO.out _).mono ?_
    rintro e w1 ⟨rfl, h1⟩
    obtain ⟨_, _, _, _, _, _, _, HB⟩ := geom_cells (g := ⟨p, b, s, c, k, r, q⟩) h1
    clear h1
    go_wp2_with fail
    refine (below_no x b _ HX.out).mono ?_
    rintro e w' ⟨rfl, rfl⟩
    go_wp2
    go_ret2
    exact ⟨rfl, HB.out⟩
end Go.Proofs.Ytkbjbgbngkidjaa
