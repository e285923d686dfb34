/-
  Contracts of geom.Check, Data, Raw; a geometry in a block, over the landed code.
-/
import Derived.Test.YtimphjgjcnbmnaaGeomA
import Derived.Test.YtimphjgjcnbmnaaOwn
namespace Go.Proofs.Ytimphjgjcnbmnaa
open Go.RowKit
set_option maxRecDepth 100000

theorem valid_is (g : Gm) (v : Bool) (h : g.ok = v) (w : World) : Calls Try.prog 18 #[g.val] w (Gives (.bool v) w) := h ▸ valid_any g w
/-- A geometry that was laid into a block of its own, and what has come since: its cells are as they were. -/
theorem geom_cells {g : Gm} {t : TypeId} {w w' : World} (h : Below (w.alloc (.cells #[.int .i64 g.p, .int .i64 g.b, .int .i64 g.s, .int .i64 g.c, .int .i64 g.k, .int .i64 g.r, .int .i64 g.q] t)).heap.size (w.alloc (.cells #[.int .i64 g.p, .int .i64 g.b, .int .i64 g.s, .int .i64 g.c, .int .i64 g.k, .int .i64 g.r, .int .i64 g.q] t)) w') :
    w'.cell? ⟨w.heap.size, 0, none⟩ = some (.int .i64 g.p) ∧ w'.cell? ⟨w.heap.size, 1, none⟩ = some (.int .i64 g.b) ∧ w'.cell? ⟨w.heap.size, 2, none⟩ = some (.int .i64 g.s) ∧ w'.cell? ⟨w.heap.size, 3, none⟩ = some (.int .i64 g.c) ∧ w'.cell? ⟨w.heap.size, 4, none⟩ = some (.int .i64 g.k) ∧ w'.cell? ⟨w.heap.size, 5, none⟩ = some (.int .i64 g.r) ∧ w'.cell? ⟨w.heap.size, 6, none⟩ = some (.int .i64 g.q) ∧ Hid (Below w.heap.size w w') := by
  have hs : w.heap.size < (w.alloc (.cells #[.int .i64 g.p, .int .i64 g.b, .int .i64 g.s, .int .i64 g.c, .int .i64 g.k, .int .i64 g.r, .int .i64 g.q] t)).heap.size := by simp
  refine ⟨(h.cell hs).trans (by simp), (h.cell hs).trans (by simp), (h.cell hs).trans (by simp), (h.cell hs).trans (by simp), (h.cell hs).trans (by simp), (h.cell hs).trans (by simp), (h.cell hs).trans (by simp), ?_⟩
  exact ((Below.refl w.heap.size w).alloc (Nat.le_refl _) _).trans (h.mono (Nat.le_of_lt hs))
theorem Check_any (g : Gm) (w : World) : Calls Try.prog 12 #[g.val] w (Gives (.int .i64 (if g.ok then 0 else 2)) w) := by
  cases ho : g.ok
  all_goals
    have HO := Lib.hid ho
    clear ho
    obtain ⟨p, b, s, c, k, r, q⟩ := g
    simp only [Gm.val]
    go_enter Try.func12, Try.ntmps12
    go_wp2_with fail
    refine (valid_is ⟨p, b, s, c, k, r, q⟩ _ HO.out _).mono ?_
    rintro e w1 ⟨rfl, h1⟩
    obtain ⟨_, _, _, _, _, _, _, HB⟩ := geom_cells (g := ⟨p, b, s, c, k, r, q⟩) h1
    clear h1
    go_wp2
    go_ret
    exact ⟨rfl, HB.out⟩
/-- The block n holds the geometry g. -/
def GBox (w : World) (n : Nat) (g : Gm) : Prop :=
  n < w.heap.size ∧ w.cell? ⟨n, 0, none⟩ = some (.int .i64 g.p) ∧ w.cell? ⟨n, 1, none⟩ = some (.int .i64 g.b) ∧ w.cell? ⟨n, 2, none⟩ = some (.int .i64 g.s) ∧ w.cell? ⟨n, 3, none⟩ = some (.int .i64 g.c) ∧ w.cell? ⟨n, 4, none⟩ = some (.int .i64 g.k) ∧ w.cell? ⟨n, 5, none⟩ = some (.int .i64 g.r) ∧ w.cell? ⟨n, 6, none⟩ = some (.int .i64 g.q)
theorem GBox.below {w w' : World} {n : Nat} {g : Gm} (h : GBox w n g) (hb : Below w.heap.size w w') : GBox w' n g := by
  obtain ⟨h0, h1, h2, h3, h4, h5, h6, h7⟩ := h
  exact ⟨Nat.lt_of_lt_of_le h0 hb.size, (hb.cell h0).trans h1, (hb.cell h0).trans h2, (hb.cell h0).trans h3, (hb.cell h0).trans h4, (hb.cell h0).trans h5, (hb.cell h0).trans h6, (hb.cell h0).trans h7⟩
theorem GBox.new (w : World) (g : Gm) (t : TypeId) : GBox (w.alloc (.cells #[.int .i64 g.p, .int .i64 g.b, .int .i64 g.s, .int .i64 g.c, .int .i64 g.k, .int .i64 g.r, .int .i64 g.q] t)) w.heap.size g := by
  refine ⟨by simp, ?_, ?_, ?_, ?_, ?_, ?_, ?_⟩ <;> simp
theorem below_alloc (w : World) (o : Obj) : Below w.heap.size w (w.alloc o) := (Below.refl _ _).alloc (Nat.le_refl _) o
theorem Check_yes (g : Gm) (h : g.ok = true) (w : World) : Calls Try.prog 12 #[g.val] w (Gives (.int .i64 0) w) := by
  have h1 := Check_any g w
  rwa [h] at h1
theorem Check_no (g : Gm) (h : g.ok = false) (w : World) : Calls Try.prog 12 #[g.val] w (Gives (.int .i64 2) w) := by
  have h1 := Check_any g w
  rwa [h] at h1
end Go.Proofs.Ytimphjgjcnbmnaa
