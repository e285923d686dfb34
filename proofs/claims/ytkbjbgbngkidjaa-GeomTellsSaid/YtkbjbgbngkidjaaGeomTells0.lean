/-
  Words for the walk of the law GeomTells over the landed code; its way where the geometry is not right.
-/
import Derived.Test.YtkbjbgbngkidjaaGeomD
import Derived.Test.YtkbjbgbngkidjaaInv
import Derived.Deep.DeepCutAuto
namespace Go.Proofs.Ytkbjbgbngkidjaa
open Go.RowKit

/-- The block n holds three ints. -/
def ABox (w : World) (n : Nat) (x y z : Int) : Prop := n < w.heap.size ∧ w.cell? ⟨n, 0, none⟩ = some (.int .i64 x) ∧ w.cell? ⟨n, 1, none⟩ = some (.int .i64 y) ∧ w.cell? ⟨n, 2, none⟩ = some (.int .i64 z)
theorem ABox.below {w w' : World} {n : Nat} {x y z : Int} (h : ABox w n x y z) (hb : Below w.heap.size w w') : ABox w' n x y z :=
  ⟨Nat.lt_of_lt_of_le h.1 hb.size, (hb.cell h.1).trans h.2.1, (hb.cell h.1).trans h.2.2.1, (hb.cell h.1).trans h.2.2.2⟩
theorem ABox.new (w : World) (x y z : Int) (t : TypeId) : ABox (w.alloc (.cells #[.int .i64 x, .int .i64 y, .int .i64 z] t)) w.heap.size x y z := by
  refine ⟨by simp, ?_, ?_, ?_⟩ <;> simp

def RowIs (g : Gm) (x y R : Int) (a : Bool) : Prop := (g.hasPage x y ∧ R = x * g.s + y ∧ a = true) ∨ (¬ g.hasPage x y ∧ R = 0 ∧ a = false)
def SplitIs (g : Gm) (z u v : Int) (a : Bool) : Prop := (g.hasRow z ∧ u = z / g.s ∧ v = z % g.s ∧ a = true) ∨ (¬ g.hasRow z ∧ u = 0 ∧ v = 0 ∧ a = false)
def PlaneIs (g : Gm) (x R : Int) (a : Bool) : Prop := (g.hasBlock x ∧ R = x % g.p ∧ a = true) ∨ (¬ g.hasBlock x ∧ R = 0 ∧ a = false)
theorem Row_all (g : Gm) (x y : Int) (w : World) : Calls Try.prog 10 #[g.val, .int .i64 x, .int .i64 y] w fun e w' => ∃ R a, e = .returned (.tuple #[.int .i64 R, .bool a]) ∧ Hid (RowIs g x y R a) ∧ Below w.heap.size w w' := by
  by_cases h : g.hasPage x y
  · exact (Row_yes g x y h w).mono fun e w' ⟨he, hb⟩ => ⟨_, _, he, .inl ⟨h, rfl, rfl⟩, hb⟩
  · exact (Row_no g x y h w).mono fun e w' ⟨he, hb⟩ => ⟨_, _, he, .inr ⟨h, rfl, rfl⟩, hb⟩
theorem Split_all (g : Gm) (z : Int) (w : World) : Calls Try.prog 11 #[g.val, .int .i64 z] w fun e w' => ∃ u v a, e = .returned (.tuple #[.int .i64 u, .int .i64 v, .bool a]) ∧ Hid (SplitIs g z u v a) ∧ Below w.heap.size w w' := by
  by_cases h : g.hasRow z
  · exact (Split_yes g z h w).mono fun e w' ⟨he, hb⟩ => ⟨_, _, _, he, .inl ⟨h, rfl, rfl, rfl⟩, hb⟩
  · exact (Split_no g z h w).mono fun e w' ⟨he, hb⟩ => ⟨_, _, _, he, .inr ⟨h, rfl, rfl, rfl⟩, hb⟩
theorem Plane_all (g : Gm) (x : Int) (w : World) : Calls Try.prog 12 #[g.val, .int .i64 x] w fun e w' => ∃ R a, e = .returned (.tuple #[.int .i64 R, .bool a]) ∧ Hid (PlaneIs g x R a) ∧ Below w.heap.size w w' := by
  by_cases h : g.hasBlock x
  · exact (Plane_yes g x h w).mono fun e w' ⟨he, hb⟩ => ⟨_, _, he, .inl ⟨h, rfl, rfl⟩, hb⟩
  · exact (Plane_no g x h w).mono fun e w' ⟨he, hb⟩ => ⟨_, _, he, .inr ⟨h, rfl, rfl⟩, hb⟩
theorem RefRight_is (g : Gm) (v : Bool) (h : g.ok = v) (w : World) : Calls Try.prog 8 #[g.val] w (Gives (.bool v) w) := h ▸ RefRight_any g w
theorem RefRaw_is (g : Gm) (v : Int) (h : g.ok = true) (e : g.raw = v) (w : World) : Calls Try.prog 15 #[g.val] w (Gives (.int .i64 v) w) := e ▸ RefRaw_any g w h

set_option maxRecDepth 100000 in
set_option maxHeartbeats 2000000 in
theorem GeomTells_no (g : Gm) (x y z : Int) (w : World) (ho : g.ok = false) :
    Calls Try.prog 3 #[g.val, .agg #[.int .i64 x, .int .i64 y, .int .i64 z]] w (Gives (.bool true) w) := by
  have HO := Lib.hid ho
  have HD := Lib.hid (show g.data = 0 by simp [Gm.data, ho])
  have HR := Lib.hid (show g.raw = 0 by simp [Gm.raw, ho])
  have N1 := Lib.hid (show ¬ g.hasPage x y from fun h => by have h1 := h.1; rw [ho] at h1; cases h1)
  have N2 := Lib.hid (show ¬ g.hasRow z from fun h => by have h1 := h.1; rw [ho] at h1; cases h1)
  have N3 := Lib.hid (show ¬ g.hasBlock x from fun h => by have h1 := h.1; rw [ho] at h1; cases h1)
  clear ho
  obtain ⟨p, b, s, c, k, r, q⟩ := g
  simp only [Gm.val]
  go_enter Try.func3, Try.ntmps3
  go_wp2_with fail
  refine (awake4_any _).mono ?_
  rintro e w1 ⟨rfl, h1⟩
  have G1 := Lib.hid (((GBox.new w ⟨p, b, s, c, k, r, q⟩ 23).below (below_alloc _ (.cells #[.int .i64 x, .int .i64 y, .int .i64 z] 24))).below h1)
  have A1 := Lib.hid ((ABox.new (w.alloc (.cells #[.int .i64 p, .int .i64 b, .int .i64 s, .int .i64 c, .int .i64 k, .int .i64 r, .int .i64 q] 23)) x y z 24).below h1)
  have B1 := Lib.hid (below_step (below_step (below_alloc w _) (below_alloc _ _)) h1)
  clear h1
  simp only [World.size_alloc] at A1
  obtain ⟨_, _, _, _, _, _, _, _⟩ := G1.out
  obtain ⟨_, _, _, _⟩ := A1.out
  go_wp2_with fail
  refine (RefRight_is ⟨p, b, s, c, k, r, q⟩ false HO.out _).mono ?_
  rintro e w2 ⟨rfl, h1⟩
  have G2 := Lib.hid (G1.out.below h1)
  have A2 := Lib.hid (A1.out.below h1)
  have B2 := Lib.hid (below_step B1.out h1)
  clear h1
  obtain ⟨_, _, _, _, _, _, _, _⟩ := G2.out
  obtain ⟨_, _, _, _⟩ := A2.out
  go_wp2_with fail
  refine (Check_no ⟨p, b, s, c, k, r, q⟩ HO.out _).mono ?_
  rintro e w3 ⟨rfl, h1⟩
  have G3 := Lib.hid (G2.out.below h1)
  have A3 := Lib.hid (A2.out.below h1)
  have B3 := Lib.hid (below_step B2.out h1)
  clear h1
  obtain ⟨_, _, _, _, _, _, _, _⟩ := G3.out
  obtain ⟨_, _, _, _⟩ := A3.out
  go_wp2_with fail
  refine (Check_no ⟨p, b, s, c, k, r, q⟩ HO.out _).mono ?_
  rintro e w4 ⟨rfl, h1⟩
  have G4 := Lib.hid (G3.out.below h1)
  have A4 := Lib.hid (A3.out.below h1)
  have B4 := Lib.hid (below_step B3.out h1)
  clear h1
  obtain ⟨_, _, _, _, _, _, _, _⟩ := G4.out
  obtain ⟨_, _, _, _⟩ := A4.out
  go_wp2_with fail
  refine (Row_no ⟨p, b, s, c, k, r, q⟩ x y N1.out _).mono ?_
  rintro e w5 ⟨rfl, h1⟩
  have G5 := Lib.hid (G4.out.below h1)
  have A5 := Lib.hid (A4.out.below h1)
  have B5 := Lib.hid (below_step B4.out h1)
  clear h1
  obtain ⟨_, _, _, _, _, _, _, _⟩ := G5.out
  obtain ⟨_, _, _, _⟩ := A5.out
  go_wp2_with fail
  refine (Split_no ⟨p, b, s, c, k, r, q⟩ z N2.out _).mono ?_
  rintro e w6 ⟨rfl, h1⟩
  have G6 := Lib.hid (G5.out.below h1)
  have A6 := Lib.hid (A5.out.below h1)
  have B6 := Lib.hid (below_step B5.out h1)
  clear h1
  obtain ⟨_, _, _, _, _, _, _, _⟩ := G6.out
  obtain ⟨_, _, _, _⟩ := A6.out
  go_wp2_with fail
  refine (Plane_no ⟨p, b, s, c, k, r, q⟩ x N3.out _).mono ?_
  rintro e w7 ⟨rfl, h1⟩
  have G7 := Lib.hid (G6.out.below h1)
  have B7 := Lib.hid (below_step B6.out h1)
  clear h1
  obtain ⟨_, _, _, _, _, _, _, _⟩ := G7.out
  go_wp2_with fail
  refine (Data_is ⟨p, b, s, c, k, r, q⟩ 0 HD.out _).mono ?_
  rintro e w8 ⟨rfl, h1⟩
  have G8 := Lib.hid (G7.out.below h1)
  have B8 := Lib.hid (below_step B7.out h1)
  clear h1
  obtain ⟨_, _, _, _, _, _, _, _⟩ := G8.out
  go_wp2_with fail
  refine (Raw_is ⟨p, b, s, c, k, r, q⟩ 0 HR.out _).mono ?_
  rintro e w9 ⟨rfl, h1⟩
  have B9 := Lib.hid (below_step B8.out h1)
  clear h1
  go_wp2
  go_ret
  exact ⟨rfl, B9.out⟩
theorem split_cases {g : Gm} {z u v : Int} {d : Bool} (ho : g.ok = true) (h : SplitIs g z u v d) :
    ((0 ≤ z ∧ z < g.b * g.s) ∧ u = z / g.s ∧ v = z % g.s ∧ d = true) ∨ (z < 0 ∧ u = 0 ∧ v = 0 ∧ d = false) ∨ (g.b * g.s ≤ z ∧ u = 0 ∧ v = 0 ∧ d = false) := by
  rcases h with ⟨⟨_, hz⟩, rfl, rfl, rfl⟩ | ⟨hz, rfl, rfl, rfl⟩
  · exact .inl ⟨hz, rfl, rfl, rfl⟩
  · have hz2 : ¬ (0 ≤ z ∧ z < g.b * g.s) := fun h => hz ⟨ho, h⟩
    by_cases h0 : z < 0
    · exact .inr (.inl ⟨h0, rfl, rfl, rfl⟩)
    · exact .inr (.inr ⟨by omega, rfl, rfl, rfl⟩)
end Go.Proofs.Ytkbjbgbngkidjaa
