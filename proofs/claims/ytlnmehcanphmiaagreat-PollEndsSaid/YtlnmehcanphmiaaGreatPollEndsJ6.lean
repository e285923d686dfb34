/-
  Contracts of geom.Check, Data, Raw; a geometry in a block, over the landed code.
-/
import Derived.Test.YtlnmehcanphmiaaGreatPollEndsJGeomA
import Derived.Test.YtlnmehcanphmiaaGreatPollEndsJ4
import Derived.Test.YtlnmehcanphmiaaGreatPollEndsJ3
import Derived.Test.YtlnmehcanphmiaaGreatIntBits
namespace Go.Proofs.YtlnmehcanphmiaaGreat
open Go.RowKit
set_option maxRecDepth 100000

theorem valid_is (g : Gm) (v : Bool) (h : g.ok = v) (w : World) : Calls Tryz.prog 50 #[g.val] w (Gives (.bool v) w) := h ▸ valid_any g w
/-- A geometry that was laid into a block of its own, and what has come since: its cells are as they were. -/
theorem geom_cells {g : Gm} {t : TypeId} {w w' : World} (h : Below (w.alloc (.cells #[.int .i64 g.p, .int .i64 g.b, .int .i64 g.s, .int .i64 g.c, .int .i64 g.k, .int .i64 g.r, .int .i64 g.q] t)).heap.size (w.alloc (.cells #[.int .i64 g.p, .int .i64 g.b, .int .i64 g.s, .int .i64 g.c, .int .i64 g.k, .int .i64 g.r, .int .i64 g.q] t)) w') :
    w'.cell? ⟨w.heap.size, 0, none⟩ = some (.int .i64 g.p) ∧ w'.cell? ⟨w.heap.size, 1, none⟩ = some (.int .i64 g.b) ∧ w'.cell? ⟨w.heap.size, 2, none⟩ = some (.int .i64 g.s) ∧ w'.cell? ⟨w.heap.size, 3, none⟩ = some (.int .i64 g.c) ∧ w'.cell? ⟨w.heap.size, 4, none⟩ = some (.int .i64 g.k) ∧ w'.cell? ⟨w.heap.size, 5, none⟩ = some (.int .i64 g.r) ∧ w'.cell? ⟨w.heap.size, 6, none⟩ = some (.int .i64 g.q) ∧ Hid (Below w.heap.size w w') := by
  have hs : w.heap.size < (w.alloc (.cells #[.int .i64 g.p, .int .i64 g.b, .int .i64 g.s, .int .i64 g.c, .int .i64 g.k, .int .i64 g.r, .int .i64 g.q] t)).heap.size := by simp
  refine ⟨(h.cell hs).trans (by simp), (h.cell hs).trans (by simp), (h.cell hs).trans (by simp), (h.cell hs).trans (by simp), (h.cell hs).trans (by simp), (h.cell hs).trans (by simp), (h.cell hs).trans (by simp), ?_⟩
  exact ((Below.refl w.heap.size w).alloc (Nat.le_refl _) _).trans (h.mono (Nat.le_of_lt hs))
theorem Check_any (g : Gm) (w : World) : Calls Tryz.prog 36 #[g.val] w (Gives (.int .i64 (if g.ok then 0 else 2)) w) := by
  cases ho : g.ok
  all_goals
    have HO := Lib.hid ho
    clear ho
    obtain ⟨p, b, s, c, k, r, q⟩ := g
    simp only [Gm.val]
    go_enter Tryz.func36, Tryz.ntmps36
    go_wp2_with fail
    refine (valid_is ⟨p, b, s, c, k, r, q⟩ _ HO.out _).mono ?_
    rintro e w1 ⟨rfl, h1⟩
    obtain ⟨_, _, _, _, _, _, _, HB⟩ := geom_cells (g := ⟨p, b, s, c, k, r, q⟩) h1
    clear h1
    go_wp2
    go_ret
    exact ⟨rfl, HB.out⟩
theorem Raw_any (g : Gm) (w : World) : Calls Tryz.prog 54 #[g.val] w (Gives (.int .i64 g.raw) w) := by
  cases ho : g.ok
  · have HO := Lib.hid ho
    have HD := Lib.hid (show g.raw = 0 by simp [Gm.raw, ho])
    clear ho
    rw [HD.out]
    obtain ⟨p, b, s, c, k, r, q⟩ := g
    simp only [Gm.val]
    go_enter Tryz.func54, Tryz.ntmps54
    go_wp2_with fail
    refine (valid_is ⟨p, b, s, c, k, r, q⟩ _ HO.out _).mono ?_
    rintro e w1 ⟨rfl, h1⟩
    obtain ⟨_, _, _, _, _, _, _, HB⟩ := geom_cells (g := ⟨p, b, s, c, k, r, q⟩) h1
    clear h1
    go_wp2
    go_ret
    exact ⟨rfl, HB.out⟩
  · have HO := Lib.hid ho
    have HD := Lib.hid (show g.raw = g.c * (g.k + 2) + 31 by simp [Gm.raw, ho])
    have hb := Gm.bounds_of ho
    clear ho
    rw [HD.out]
    obtain ⟨p, b, s, c, k, r, q⟩ := g
    simp only at hb
    have hm : 0 ≤ c * (k + 2) ∧ c * (k + 2) ≤ 16 * 514 := mul_le (by omega) (by omega) (by omega) (by omega)
    simp only [Gm.val]
    go_enter Tryz.func54, Tryz.ntmps54
    go_wp2_with fail
    refine (valid_is ⟨p, b, s, c, k, r, q⟩ _ HO.out _).mono ?_
    rintro e w1 ⟨rfl, h1⟩
    obtain ⟨_, _, _, _, _, _, _, HB⟩ := geom_cells (g := ⟨p, b, s, c, k, r, q⟩) h1
    clear h1
    go_wp2
    go_ret
    refine ⟨ret_int ?_, HB.out⟩
    omega

/-- The block n holds the geometry g. -/
def GBox (w : World) (n : Nat) (g : Gm) : Prop :=
  n < w.heap.size ∧ w.cell? ⟨n, 0, none⟩ = some (.int .i64 g.p) ∧ w.cell? ⟨n, 1, none⟩ = some (.int .i64 g.b) ∧ w.cell? ⟨n, 2, none⟩ = some (.int .i64 g.s) ∧ w.cell? ⟨n, 3, none⟩ = some (.int .i64 g.c) ∧ w.cell? ⟨n, 4, none⟩ = some (.int .i64 g.k) ∧ w.cell? ⟨n, 5, none⟩ = some (.int .i64 g.r) ∧ w.cell? ⟨n, 6, none⟩ = some (.int .i64 g.q)
theorem GBox.below {w w' : World} {n : Nat} {g : Gm} (h : GBox w n g) (hb : Below w.heap.size w w') : GBox w' n g := by
  obtain ⟨h0, h1, h2, h3, h4, h5, h6, h7⟩ := h
  exact ⟨Nat.lt_of_lt_of_le h0 hb.size, (hb.cell h0).trans h1, (hb.cell h0).trans h2, (hb.cell h0).trans h3, (hb.cell h0).trans h4, (hb.cell h0).trans h5, (hb.cell h0).trans h6, (hb.cell h0).trans h7⟩
theorem GBox.new (w : World) (g : Gm) (t : TypeId) : GBox (w.alloc (.cells #[.int .i64 g.p, .int .i64 g.b, .int .i64 g.s, .int .i64 g.c, .int .i64 g.k, .int .i64 g.r, .int .i64 g.q] t)) w.heap.size g := by
  refine ⟨by simp, ?_, ?_, ?_, ?_, ?_, ?_, ?_⟩ <;> simp
theorem Check_yes (g : Gm) (h : g.ok = true) (w : World) : Calls Tryz.prog 36 #[g.val] w (Gives (.int .i64 0) w) := by
  have h1 := Check_any g w
  rwa [h] at h1
theorem Raw_is (g : Gm) (v : Int) (e : g.raw = v) (w : World) : Calls Tryz.prog 54 #[g.val] w (Gives (.int .i64 v) w) := e ▸ Raw_any g w
end Go.Proofs.YtlnmehcanphmiaaGreat

/-
  Contracts of geom.Check, Data, Raw, Row, Split, Plane, over the landed code.
-/
namespace Go.Proofs.YtlnmehcanphmiaaGreat
open Go.RowKit
set_option maxRecDepth 100000

theorem below_yes (n m : Int) (w : World) (h1 : 0 ≤ n) (h2 : n < m) :
    Calls Tryz.prog 59 #[.int .i64 n, .int .i64 m] w fun e w' => e = .returned (.bool true) ∧ w = w' := by
  have h := below_any n m w
  rwa [decide_eq_true (show 0 ≤ n ∧ n < m from ⟨h1, h2⟩)] at h
theorem below_no (n m : Int) (w : World) (h : ¬ (0 ≤ n ∧ n < m)) :
    Calls Tryz.prog 59 #[.int .i64 n, .int .i64 m] w fun e w' => e = .returned (.bool false) ∧ w = w' := by
  have h1 := below_any n m w
  rwa [decide_eq_false h] at h1
theorem Row_yes (g : Gm) (x y : Int) (h : g.hasPage x y) (w : World) : Calls Tryz.prog 52 #[g.val, .int .i64 x, .int .i64 y] w (Gives (.tuple #[.int .i64 (x * g.s + y), .bool true]) w) := by
  obtain ⟨ho, hx, hy⟩ := h
  have HO := Lib.hid ho
  have hb := Gm.bounds_of ho
  clear ho
  obtain ⟨p, b, s, c, k, r, q⟩ := g
  simp only at hx hy hb
  have hm : 0 ≤ x * s ∧ x * s ≤ 256 * 64 := mul_le (by omega) (by omega) (by omega) (by omega)
  simp only [Gm.val]
  go_enter Tryz.func52, Tryz.ntmps52
  go_wp2_with fail
  refine (valid_is ⟨p, b, s, c, k, r, q⟩ _ HO.out _).mono ?_
  rintro e w1 ⟨rfl, h1⟩
  obtain ⟨_, _, _, _, _, _, _, HB⟩ := geom_cells (g := ⟨p, b, s, c, k, r, q⟩) h1
  clear h1
  go_wp2_with (first | (go_at_call 59; refine (below_yes _ _ _ (by omega) (by omega)).mono ?_; rintro e w' ⟨rfl, rfl⟩))
  go_ret2
  exact ⟨rfl, HB.out⟩
theorem Row_no (g : Gm) (x y : Int) (h : ¬ g.hasPage x y) (w : World) : Calls Tryz.prog 52 #[g.val, .int .i64 x, .int .i64 y] w (Gives (.tuple #[.int .i64 0, .bool false]) w) := by
  cases ho : g.ok
  · have HO := Lib.hid ho
    clear ho h
    obtain ⟨p, b, s, c, k, r, q⟩ := g
    simp only [Gm.val]
    go_enter Tryz.func52, Tryz.ntmps52
    go_wp2_with fail
    refine (valid_is ⟨p, b, s, c, k, r, q⟩ _ HO.out _).mono ?_
    rintro e w1 ⟨rfl, h1⟩
    obtain ⟨_, _, _, _, _, _, _, HB⟩ := geom_cells (g := ⟨p, b, s, c, k, r, q⟩) h1
    clear h1
    go_wp2
    go_ret2
    exact ⟨rfl, HB.out⟩
  · have HO := Lib.hid ho
    obtain ⟨p, b, s, c, k, r, q⟩ := g
    by_cases hx : 0 ≤ x ∧ x < b
    · have hy : ¬ (0 ≤ y ∧ y < s) := fun hy => h ⟨ho, hx, hy⟩
      clear ho h
      have HY := Lib.hid hy
      clear hy
      simp only [Gm.val]
      go_enter Tryz.func52, Tryz.ntmps52
      go_wp2_with fail
      refine (valid_is ⟨p, b, s, c, k, r, q⟩ _ HO.out _).mono ?_
      rintro e w1 ⟨rfl, h1⟩
      obtain ⟨_, _, _, _, _, _, _, HB⟩ := geom_cells (g := ⟨p, b, s, c, k, r, q⟩) h1
      clear h1
      go_wp2_with fail
      refine (below_yes x b _ (by omega) (by omega)).mono ?_
      rintro e w' ⟨rfl, rfl⟩
      go_wp2_with fail
      refine (below_no y s _ HY.out).mono ?_
      rintro e w' ⟨rfl, rfl⟩
      go_wp2
      go_ret2
      exact ⟨rfl, HB.out⟩
    · have HX := Lib.hid hx
      clear ho h hx
      simp only [Gm.val]
      go_enter Tryz.func52, Tryz.ntmps52
      go_wp2_with fail
      refine (valid_is ⟨p, b, s, c, k, r, q⟩ _ HO.out _).mono ?_
      rintro e w1 ⟨rfl, h1⟩
      obtain ⟨_, _, _, _, _, _, _, HB⟩ := geom_cells (g := ⟨p, b, s, c, k, r, q⟩) h1
      clear h1
      go_wp2_with fail
      refine (below_no x b _ HX.out).mono ?_
      rintro e w' ⟨rfl, rfl⟩
      go_wp2
      go_ret2
      exact ⟨rfl, HB.out⟩
theorem Split_yes (g : Gm) (x : Int) (h : g.hasRow x) (w : World) : Calls Tryz.prog 58 #[g.val, .int .i64 x] w (Gives (.tuple #[.int .i64 (x / g.s), .int .i64 (x % g.s), .bool true]) w) := by
  obtain ⟨ho, hx⟩ := h
  have HO := Lib.hid ho
  have hb := Gm.bounds_of ho
  clear ho
  obtain ⟨p, b, s, c, k, r, q⟩ := g
  simp only at hx hb
  have hm : 0 ≤ b * s ∧ b * s ≤ 256 * 64 := mul_le (by omega) (by omega) (by omega) (by omega)
  simp only [Gm.val]
  go_enter Tryz.func58, Tryz.ntmps58
  go_wp2_with fail
  refine (valid_is ⟨p, b, s, c, k, r, q⟩ _ HO.out _).mono ?_
  rintro e w1 ⟨rfl, h1⟩
  obtain ⟨_, _, _, _, _, _, _, HB⟩ := geom_cells (g := ⟨p, b, s, c, k, r, q⟩) h1
  clear h1
  go_wp2_with fail
  refine (below_yes x (b * s) _ (by omega) (by omega)).mono ?_
  rintro e w' ⟨rfl, rfl⟩
  go_wp2
  go_quiet (fail)
  go_wp2
  go_ret3
  exact ⟨rfl, below_drewN HB.out _⟩
theorem Split_no (g : Gm) (x : Int) (h : ¬ g.hasRow x) (w : World) : Calls Tryz.prog 58 #[g.val, .int .i64 x] w (Gives (.tuple #[.int .i64 0, .int .i64 0, .bool false]) w) := by
  cases ho : g.ok
  · have HO := Lib.hid ho
    clear ho h
    obtain ⟨p, b, s, c, k, r, q⟩ := g
    simp only [Gm.val]
    go_enter Tryz.func58, Tryz.ntmps58
    go_wp2_with fail
    refine (valid_is ⟨p, b, s, c, k, r, q⟩ _ HO.out _).mono ?_
    rintro e w1 ⟨rfl, h1⟩
    obtain ⟨_, _, _, _, _, _, _, HB⟩ := geom_cells (g := ⟨p, b, s, c, k, r, q⟩) h1
    clear h1
    go_wp2
    go_ret3
    exact ⟨rfl, HB.out⟩
  · have HO := Lib.hid ho
    have hb := Gm.bounds_of ho
    have HX := Lib.hid (show ¬ (0 ≤ x ∧ x < g.b * g.s) from fun hx => h ⟨ho, hx⟩)
    clear ho h
    obtain ⟨p, b, s, c, k, r, q⟩ := g
    simp only at hb
    have hm : 0 ≤ b * s ∧ b * s ≤ 256 * 64 := mul_le (by omega) (by omega) (by omega) (by omega)
    simp only [Gm.val]
    go_enter Tryz.func58, Tryz.ntmps58
    go_wp2_with fail
    refine (valid_is ⟨p, b, s, c, k, r, q⟩ _ HO.out _).mono ?_
    rintro e w1 ⟨rfl, h1⟩
    obtain ⟨_, _, _, _, _, _, _, HB⟩ := geom_cells (g := ⟨p, b, s, c, k, r, q⟩) h1
    clear h1
    go_wp2_with fail
    refine (below_no x (b * s) _ HX.out).mono ?_
    rintro e w' ⟨rfl, rfl⟩
    go_wp2
    go_ret3
    exact ⟨rfl, HB.out⟩
end Go.Proofs.YtlnmehcanphmiaaGreat

/-
  Contracts of the document's from, Right and Raw (package incunableref04), over the landed code.
-/
namespace Go.Proofs.YtlnmehcanphmiaaGreat
open Go.RowKit
set_option maxRecDepth 100000
end Go.Proofs.YtlnmehcanphmiaaGreat

/-
  Contracts of geom.Lower, Upper, Address, Number, and of the document's Right, Raw, Address (package incunableref04), over the landed code.
-/
namespace Go.Proofs.YtlnmehcanphmiaaGreat
open Go.RowKit
set_option maxRecDepth 100000

theorem Lower_any (x : Int) (w : World) (h2 : x ≤ 9223372036854775807) : Calls Tryz.prog 84 #[.int .i64 x] w fun e w' => e = .returned (.int .i64 (lowerI x)) ∧ w = w' := by
  by_cases h : x < 0
  · have HL := Lib.hid (show lowerI x = 0 by simp [lowerI, h])
    rw [HL.out]
    go_enter Tryz.func84, Tryz.ntmps84
    go_wp2
    go_ret
    exact ⟨rfl, rfl⟩
  · have HL := Lib.hid (show lowerI x = x - x % 2 by simp [lowerI, h])
    rw [HL.out]
    have h0 : 0 ≤ x := by omega
    go_enter Tryz.func84, Tryz.ntmps84
    go_wp2
    go_ret
    exact ⟨rfl, rfl⟩
theorem R8.two {w : World} {g x y : Nat} {t : TypeId} (hx : x < 256) (hy : y < 256) (hg : g = w.heap.size) : R8 (w.alloc (.cells #[.int .u8 (x : Int), .int .u8 (y : Int)] t)) (some ⟨g, 0, none⟩) 2 [x, y] := by
  subst hg
  refine ⟨⟨rfl, fun _ => ⟨_, 0, rfl, by simp, fun j hj => ?_⟩⟩, by intro z hz; simp at hz; omega⟩
  match j, hj with
  | 0, _ => simp [U8]
  | 1, _ => simp [U8]
theorem Address_any (n : Int) (w : World) : Calls Tryz.prog 116 #[.int .i64 n] w (MakesB (adr n) w) := by
  go_enter Tryz.func116, Tryz.ntmps116
  go_wp2
  go_ret
  refine ⟨some ⟨w.heap.size, 0, none⟩, 2, rfl, ?_, (Below.refl _ _).alloc (Nat.le_refl _) _⟩
  have e0 : n % 256 = (((n % 256).toNat : Nat) : Int) := by omega
  have e1 : n / 256 % 256 = (((n / 256 % 256).toNat : Nat) : Int) := by omega
  have h3 : (n % 256).toNat < 256 := by omega
  have h4 : (n / 256 % 256).toNat < 256 := by omega
  unfold adr
  rw [e0, e1]
  exact R8.two h3 h4 rfl
theorem Number_yes (A : Option Addr) (c x y : Nat) (w : World) (hr : R8 w A 2 [x, y]) : Calls Tryz.prog 117 #[.slice A 2 c] w (Quiet (.tuple #[.int .i64 ((x + 256 * y : Nat) : Int), .bool true]) w) := by
  obtain ⟨g, off, x1, rfl, hb, HX, hx, hc⟩ := hr.at_ (k := 0) (by omega)
  obtain ⟨g2, off2, y1, e, hb2, HY, hy, hc2⟩ := hr.at_ (k := 1) (by omega)
  injection e with e
  injection e with e1 e2
  subst e1 e2
  obtain rfl : x = x1 := by simpa using HX.out
  obtain rfl : y = y1 := by simpa using HY.out
  clear hr
  simp only [Nat.add_zero] at hc
  go_enter Tryz.func117, Tryz.ntmps117
  go_wp2
  go_quiet (fail)
  go_wp2
  go_ret2
  refine ⟨?_, _, rfl⟩
  have e : bits .or .i64 (x : Int) ((y : Int) * 256) = ((x + 256 * y : Nat) : Int) := by
    have h1 : ((y : Int) * 256) = ((y * 256 : Nat) : Int) := by simp
    rw [h1, i64_or_nat _ _ (by omega) (by omega), Nat.or_comm, nat_join 8 (y * 256) x (by omega) (by omega)]
    congr 1
    omega
  rw [← e]
  rfl
end Go.Proofs.YtlnmehcanphmiaaGreat

/-
  A boxed geometry through the calls; the chapter's example; the walk of the law GeomPairs over the landed code, out of its callees' contracts.
-/
namespace Go.Proofs.YtlnmehcanphmiaaGreat
open Go.RowKit
set_option maxRecDepth 100000

theorem Row_is (g : Gm) (x y v : Int) (h : g.hasPage x y) (e : x * g.s + y = v) (w : World) : Calls Tryz.prog 52 #[g.val, .int .i64 x, .int .i64 y] w (Gives (.tuple #[.int .i64 v, .bool true]) w) := e ▸ Row_yes g x y h w
theorem Split_is (g : Gm) (x u v : Int) (h : g.hasRow x) (e1 : x / g.s = u) (e2 : x % g.s = v) (w : World) : Calls Tryz.prog 58 #[g.val, .int .i64 x] w (Gives (.tuple #[.int .i64 u, .int .i64 v, .bool true]) w) := e1 ▸ e2 ▸ Split_yes g x h w
theorem Lower_is (x v : Int) (e : lowerI x = v) (w : World) (h2 : x ≤ 9223372036854775807) : Calls Tryz.prog 84 #[.int .i64 x] w fun e w' => e = .returned (.int .i64 v) ∧ w = w' := e ▸ Lower_any x w h2
def small : Gm := ⟨2, 8, 4, 1, 8, 1, 1⟩
end Go.Proofs.YtlnmehcanphmiaaGreat

/-
  The law's Small (stage 8's), for whatever geometry.
-/
namespace Go.Proofs.YtlnmehcanphmiaaGreat
open Go.RowKit
set_option maxRecDepth 100000

def smallG (g : Gm) : Prop := g.c ≤ 4 ∧ g.k ≤ 40 ∧ 0 ≤ g.c ∧ 0 ≤ g.k
end Go.Proofs.YtlnmehcanphmiaaGreat
