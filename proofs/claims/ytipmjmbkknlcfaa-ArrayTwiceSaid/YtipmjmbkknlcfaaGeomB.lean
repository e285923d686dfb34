/-
  Contracts of geom.Check, Data, Raw, Row, Split, Plane, over the landed code.
-/
import Derived.Test.YtipmjmbkknlcfaaGeomK
import Derived.Test.YtipmjmbkknlcfaaGeomBel
namespace Go.Proofs.Ytipmjmbkknlcfaa
open Go.RowKit
set_option maxRecDepth 100000

theorem below_yes (n m : Int) (w : World) (h1 : 0 ≤ n) (h2 : n < m) :
    Calls Try.prog 57 #[.int .i64 n, .int .i64 m] w fun e w' => e = .returned (.bool true) ∧ w = w' := by
  have h := below_any n m w
  rwa [decide_eq_true (show 0 ≤ n ∧ n < m from ⟨h1, h2⟩)] at h
theorem below_no (n m : Int) (w : World) (h : ¬ (0 ≤ n ∧ n < m)) :
    Calls Try.prog 57 #[.int .i64 n, .int .i64 m] w fun e w' => e = .returned (.bool false) ∧ w = w' := by
  have h1 := below_any n m w
  rwa [decide_eq_false h] at h1
theorem Row_yes (g : Gm) (x y : Int) (h : g.hasPage x y) (w : World) : Calls Try.prog 49 #[g.val, .int .i64 x, .int .i64 y] w (Gives (.tuple #[.int .i64 (x * g.s + y), .bool true]) w) := by
  obtain ⟨ho, hx, hy⟩ := h
  have HO := Lib.hid ho
  have hb := Gm.bounds_of ho
  clear ho
  obtain ⟨p, b, s, c, k, r, q⟩ := g
  simp only at hx hy hb
  have hm : 0 ≤ x * s ∧ x * s ≤ 256 * 64 := mul_le (by omega) (by omega) (by omega) (by omega)
  simp only [Gm.val]
  go_enter Try.func49, Try.ntmps49
  go_wp2_with fail
  refine (valid_is ⟨p, b, s, c, k, r, q⟩ _ HO.out _).mono ?_
  rintro e w1 ⟨rfl, h1⟩
  obtain ⟨_, _, _, _, _, _, _, HB⟩ := geom_cells (g := ⟨p, b, s, c, k, r, q⟩) h1
  clear h1
  go_wp2_with (first | (go_at_call 57; refine (below_yes _ _ _ (by omega) (by omega)).mono ?_; rintro e w' ⟨rfl, rfl⟩))
  go_ret2
  exact ⟨rfl, HB.out⟩
theorem Row_no (g : Gm) (x y : Int) (h : ¬ g.hasPage x y) (w : World) : Calls Try.prog 49 #[g.val, .int .i64 x, .int .i64 y] w (Gives (.tuple #[.int .i64 0, .bool false]) w) := by
  cases ho : g.ok
  · have HO := Lib.hid ho
    clear ho h
    obtain ⟨p, b, s, c, k, r, q⟩ := g
    simp only [Gm.val]
    go_enter Try.func49, Try.ntmps49
    go_wp2_with fail
    refine (valid_is ⟨p, b, s, c, k, r, q⟩ _ HO.out _).mono ?_
    rintro e w1 ⟨rfl, h1⟩
    obtain ⟨_, _, _, _, _, _, _, HB⟩ := geom_cells (g := ⟨p, b, s, c, k, r, q⟩) h1
    clear h1
    go_wp2
    go_ret2
    exact ⟨rfl, HB.out⟩
  · have HO := Lib.hid ho
    obtain ⟨p, b, s, c, k, r, q⟩ := g
    by_cases hx : 0 ≤ x ∧ x < b
    · have hy : ¬ (0 ≤ y ∧ y < s) := fun hy => h ⟨ho, hx, hy⟩
      clear ho h
      have HY := Lib.hid hy
      clear hy
      simp only [Gm.val]
      go_enter Try.func49, Try.ntmps49
      go_wp2_with fail
      refine (valid_is ⟨p, b, s, c, k, r, q⟩ _ HO.out _).mono ?_
      rintro e w1 ⟨rfl, h1⟩
      obtain ⟨_, _, _, _, _, _, _, HB⟩ := geom_cells (g := ⟨p, b, s, c, k, r, q⟩) h1
      clear h1
      go_wp2_with fail
      refine (below_yes x b _ (by omega) (by omega)).mono ?_
      rintro e w' ⟨rfl, rfl⟩
      go_wp2_with fail
      refine (below_no y s _ HY.out).mono ?_
      rintro e w' ⟨rfl, rfl⟩
      go_wp2
      go_ret2
      exact ⟨rfl, HB.out⟩
    · have HX := Lib.hid hx
      clear ho h hx
      simp only [Gm.val]
      go_enter Try.func49, Try.ntmps49
      go_wp2_with fail
      refine (valid_is ⟨p, b, s, c, k, r, q⟩ _ HO.out _).mono ?_
      rintro e w1 ⟨rfl, h1⟩
      obtain ⟨_, _, _, _, _, _, _, HB⟩ := geom_cells (g := ⟨p, b, s, c, k, r, q⟩) h1
      clear h1
      go_wp2_with fail
      refine (below_no x b _ HX.out).mono ?_
      rintro e w' ⟨rfl, rfl⟩
      go_wp2
      go_ret2
      exact ⟨rfl, HB.out⟩
end Go.Proofs.Ytipmjmbkknlcfaa
