/-
  Contracts of geom.Check, Data, Raw, Row, Split, Plane, over the landed code.
-/
import Derived.Test.YtodljocbimgeoaaGeomK
import Derived.Test.YtodljocbimgeoaaGeomBel
namespace Go.Proofs.Ytodljocbimgeoaa
open Go.RowKit
set_option maxRecDepth 100000

theorem below_yes (n m : Int) (w : World) (h1 : 0 ≤ n) (h2 : n < m) :
    Calls Try.prog 33 #[.int .i64 n, .int .i64 m] w fun e w' => e = .returned (.bool true) ∧ w = w' := by
  have h := below_any n m w
  rwa [decide_eq_true (show 0 ≤ n ∧ n < m from ⟨h1, h2⟩)] at h
theorem below_no (n m : Int) (w : World) (h : ¬ (0 ≤ n ∧ n < m)) :
    Calls Try.prog 33 #[.int .i64 n, .int .i64 m] w fun e w' => e = .returned (.bool false) ∧ w = w' := by
  have h1 := below_any n m w
  rwa [decide_eq_false h] at h1
theorem Split_yes (g : Gm) (x : Int) (h : g.hasRow x) (w : World) : Calls Try.prog 31 #[g.val, .int .i64 x] w (Gives (.tuple #[.int .i64 (x / g.s), .int .i64 (x % g.s), .bool true]) w) := by
  obtain ⟨ho, hx⟩ := h
  have HO := Lib.hid ho
  have hb := Gm.bounds_of ho
  clear ho
  obtain ⟨p, b, s, c, k, r, q⟩ := g
  simp only at hx hb
  have hm : 0 ≤ b * s ∧ b * s ≤ 256 * 64 := mul_le (by omega) (by omega) (by omega) (by omega)
  simp only [Gm.val]
  go_enter Try.func31, Try.ntmps31
  go_wp2_with fail
  refine (valid_is ⟨p, b, s, c, k, r, q⟩ _ HO.out _).mono ?_
  rintro e w1 ⟨rfl, h1⟩
  obtain ⟨_, _, _, _, _, _, _, HB⟩ := geom_cells (g := ⟨p, b, s, c, k, r, q⟩) h1
  clear h1
  go_wp2_with fail
  refine (below_yes x (b * s) _ (by omega) (by omega)).mono ?_
  rintro e w' ⟨rfl, rfl⟩
  go_wp2
  go_quiet (fail)
  go_wp2
  go_ret3
  exact ⟨rfl, below_drewN HB.out _⟩
theorem Split_no (g : Gm) (x : Int) (h : ¬ g.hasRow x) (w : World) : Calls Try.prog 31 #[g.val, .int .i64 x] w (Gives (.tuple #[.int .i64 0, .int .i64 0, .bool false]) w) := by
  cases ho : g.ok
  · have HO := Lib.hid ho
    clear ho h
    obtain ⟨p, b, s, c, k, r, q⟩ := g
    simp only [Gm.val]
    go_enter Try.func31, Try.ntmps31
    go_wp2_with fail
    refine (valid_is ⟨p, b, s, c, k, r, q⟩ _ HO.out _).mono ?_
    rintro e w1 ⟨rfl, h1⟩
    obtain ⟨_, _, _, _, _, _, _, HB⟩ := geom_cells (g := ⟨p, b, s, c, k, r, q⟩) h1
    clear h1
    go_wp2
    go_ret3
    exact ⟨rfl, HB.out⟩
  · have HO := Lib.hid ho
    have hb := Gm.bounds_of ho
    have HX := Lib.hid (show ¬ (0 ≤ x ∧ x < g.b * g.s) from fun hx => h ⟨ho, hx⟩)
    clear ho h
    obtain ⟨p, b, s, c, k, r, q⟩ := g
    simp only at hb
    have hm : 0 ≤ b * s ∧ b * s ≤ 256 * 64 := mul_le (by omega) (by omega) (by omega) (by omega)
    simp only [Gm.val]
    go_enter Try.func31, Try.ntmps31
    go_wp2_with fail
    refine (valid_is ⟨p, b, s, c, k, r, q⟩ _ HO.out _).mono ?_
    rintro e w1 ⟨rfl, h1⟩
    obtain ⟨_, _, _, _, _, _, _, HB⟩ := geom_cells (g := ⟨p, b, s, c, k, r, q⟩) h1
    clear h1
    go_wp2_with fail
    refine (below_no x (b * s) _ HX.out).mono ?_
    rintro e w' ⟨rfl, rfl⟩
    go_wp2
    go_ret3
    exact ⟨rfl, HB.out⟩
end Go.Proofs.Ytodljocbimgeoaa
