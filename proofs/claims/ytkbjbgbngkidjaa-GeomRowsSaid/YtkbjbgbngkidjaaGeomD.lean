/-
  A boxed geometry through the calls; the chapter's example; the walk of the law GeomPairs over the landed code, out of its callees' contracts.
-/
import Derived.Test.YtkbjbgbngkidjaaGeomC
import Derived.Test.YtkbjbgbngkidjaaOwn
namespace Go.Proofs.Ytkbjbgbngkidjaa
open Go.RowKit

/-- The block n holds the geometry g. -/
def GBox (w : World) (n : Nat) (g : Gm) : Prop :=
  n < w.heap.size ∧ w.cell? ⟨n, 0, none⟩ = some (.int .i64 g.p) ∧ w.cell? ⟨n, 1, none⟩ = some (.int .i64 g.b) ∧ w.cell? ⟨n, 2, none⟩ = some (.int .i64 g.s) ∧ w.cell? ⟨n, 3, none⟩ = some (.int .i64 g.c) ∧ w.cell? ⟨n, 4, none⟩ = some (.int .i64 g.k) ∧ w.cell? ⟨n, 5, none⟩ = some (.int .i64 g.r) ∧ w.cell? ⟨n, 6, none⟩ = some (.int .i64 g.q)
theorem GBox.below {w w' : World} {n : Nat} {g : Gm} (h : GBox w n g) (hb : Below w.heap.size w w') : GBox w' n g := by
  obtain ⟨h0, h1, h2, h3, h4, h5, h6, h7⟩ := h
  exact ⟨Nat.lt_of_lt_of_le h0 hb.size, (hb.cell h0).trans h1, (hb.cell h0).trans h2, (hb.cell h0).trans h3, (hb.cell h0).trans h4, (hb.cell h0).trans h5, (hb.cell h0).trans h6, (hb.cell h0).trans h7⟩
theorem GBox.new (w : World) (g : Gm) (t : TypeId) : GBox (w.alloc (.cells #[.int .i64 g.p, .int .i64 g.b, .int .i64 g.s, .int .i64 g.c, .int .i64 g.k, .int .i64 g.r, .int .i64 g.q] t)) w.heap.size g := by
  refine ⟨by simp, ?_, ?_, ?_, ?_, ?_, ?_, ?_⟩ <;> simp
theorem below_alloc (w : World) (o : Obj) : Below w.heap.size w (w.alloc o) := (Below.refl _ _).alloc (Nat.le_refl _) o

theorem Row_is (g : Gm) (x y v : Int) (h : g.hasPage x y) (e : x * g.s + y = v) (w : World) : Calls Try.prog 10 #[g.val, .int .i64 x, .int .i64 y] w (Gives (.tuple #[.int .i64 v, .bool true]) w) := e ▸ Row_yes g x y h w
theorem Split_is (g : Gm) (x u v : Int) (h : g.hasRow x) (e1 : x / g.s = u) (e2 : x % g.s = v) (w : World) : Calls Try.prog 11 #[g.val, .int .i64 x] w (Gives (.tuple #[.int .i64 u, .int .i64 v, .bool true]) w) := e1 ▸ e2 ▸ Split_yes g x h w
theorem Plane_is (g : Gm) (x v : Int) (h : g.hasBlock x) (e : x % g.p = v) (w : World) : Calls Try.prog 12 #[g.val, .int .i64 x] w (Gives (.tuple #[.int .i64 v, .bool true]) w) := e ▸ Plane_yes g x h w
theorem Check_yes (g : Gm) (h : g.ok = true) (w : World) : Calls Try.prog 9 #[g.val] w (Gives (.int .i64 0) w) := by
  have h1 := Check_any g w
  rwa [h] at h1
theorem Check_no (g : Gm) (h : g.ok = false) (w : World) : Calls Try.prog 9 #[g.val] w (Gives (.int .i64 2) w) := by
  have h1 := Check_any g w
  rwa [h] at h1
theorem Raw_is (g : Gm) (v : Int) (e : g.raw = v) (w : World) : Calls Try.prog 14 #[g.val] w (Gives (.int .i64 v) w) := e ▸ Raw_any g w
theorem Data_is (g : Gm) (v : Int) (e : g.data = v) (w : World) : Calls Try.prog 13 #[g.val] w (Gives (.int .i64 v) w) := e ▸ Data_any g w
theorem Lower_is (x v : Int) (e : lowerI x = v) (w : World) (h2 : x ≤ 9223372036854775807) : Calls Try.prog 19 #[.int .i64 x] w fun e w' => e = .returned (.int .i64 v) ∧ w = w' := e ▸ Lower_any x w h2
theorem Upper_is (x v : Int) (e : upperI x = v) (w : World) (h2 : x ≤ 9223372036854775807) : Calls Try.prog 20 #[.int .i64 x] w fun e w' => e = .returned (.int .i64 v) ∧ w = w' := e ▸ Upper_any x w h2

def small : Gm := ⟨2, 8, 4, 1, 8, 1, 1⟩
theorem small_ok : small.ok = true := by decide +kernel

set_option maxHeartbeats 400000 in
theorem awake4_any (w : World) : Calls Try.prog 7 #[] w (Gives (.bool true) w) := by
  go_enter Try.func7, Try.ntmps7
  go_wp2_with fail
  refine (Row_is small 3 1 13 ⟨small_ok, by decide, by decide⟩ (by decide) _).mono ?_
  rintro e w1 ⟨rfl, h1⟩
  have G1 := Lib.hid ((GBox.new w small 23).below h1)
  have B1 := Lib.hid (below_step (below_alloc w _) h1)
  clear h1
  obtain ⟨_, _, _, _, _, _, _, _⟩ := G1.out
  go_wp2_with fail
  refine (Plane_is small 3 1 ⟨small_ok, by decide, by decide⟩ (by decide) _).mono ?_
  rintro e w2 ⟨rfl, h2⟩
  have G2 := Lib.hid (G1.out.below h2)
  have B2 := Lib.hid (below_step B1.out h2)
  clear h2
  obtain ⟨_, _, _, _, _, _, _, _⟩ := G2.out
  go_wp2_with fail
  refine (Check_yes small small_ok _).mono ?_
  rintro e w3 ⟨rfl, h3⟩
  have B3 := Lib.hid (below_step B2.out h3)
  clear h3
  go_wp2
  go_ret
  exact ⟨rfl, B3.out⟩

theorem adr_back {x y : Nat} (hx : x < 256) (hy : y < 256) : adr ((x : Int) + 256 * (y : Int)) = [x, y] := by
  unfold adr
  congr 1
  · omega
  · congr 1
    omega

set_option maxHeartbeats 1000000 in
theorem GeomPairs_walk (page n : Int) (A : Option Addr) (m c : Nat) (l : List Nat) (w : World) (hr : R8 w A m l) (hm : m ≤ 9223372036854775807) (hp1 : -9223372036854775808 ≤ page) (hp2 : page ≤ 9223372036854775807) (hn1 : -9223372036854775808 ≤ n) (hn2 : n ≤ 9223372036854775807) :
    Calls Try.prog 4 #[.int .i64 page, .int .i64 n, .slice A m c] w (Gives (.bool true) w) := by
  have HR := Lib.hid hr
  clear hr
  obtain ⟨low, hlow⟩ : ∃ low, lowerI page = low := ⟨_, rfl⟩
  obtain ⟨high, hhigh⟩ : ∃ high, upperI page = high := ⟨_, rfl⟩
  have HL := Lib.hid hlow
  have HH := Lib.hid hhigh
  have hpg : (page < 0 ∧ low = 0 ∧ high = 0) ∨ (0 ≤ page ∧ low = page / 2 * 2 ∧ high = page / 2 * 2 + 1) := by
    by_cases h : page < 0
    · left; simp [lowerI, upperI, h] at hlow hhigh; omega
    · right; simp [lowerI, upperI, h] at hlow hhigh; omega
  clear hlow hhigh
  by_cases hl : m = 2
  · subst hl
    obtain ⟨x, y, rfl⟩ : ∃ x y, l = [x, y] := by
      have := HR.out.len
      match l, this with
      | [x, y], _ => exact ⟨x, y, rfl⟩
    have hx : x < 256 := HR.out.2 x (by simp)
    have hy : y < 256 := HR.out.2 y (by simp)
    rcases hpg with ⟨h1, rfl, rfl⟩ | ⟨h1, rfl, rfl⟩
    all_goals
      go_enter Try.func4, Try.ntmps4
      go_wp2_with fail
      refine (awake4_any _).mono ?_
      rintro e w1 ⟨rfl, h2⟩
      have B1 := Lib.hid h2
      clear h2
      go_wp2_with fail
      refine (Number_yes A c x y _ (HR.out.below B1.out)).mono ?_
      intro e w2 hq
      obtain ⟨rfl, D2⟩ := hq.at_
      have B2 := Lib.hid (below_step B1.out D2.out)
      clear hq D2
      go_wp2_with fail
      refine (Address_any ((x : Int) + 256 * (y : Int)) _).mono ?_
      intro e w3 hq
      rw [adr_back hx hy] at hq
      obtain ⟨A3, c3, rfl, H3, D3⟩ := hq.at_ rfl
      have B3 := Lib.hid (below_step B2.out D3.out)
      clear hq D3
      go_wp2_with fail
      refine (Same_any _ _ 2 _ 2 _ [x, y] [x, y] _ H3.out (HR.out.below B3.out) (by omega) (by omega)).mono ?_
      intro e w4 hq
      obtain ⟨rfl, D4⟩ := hq.at_
      have B4 := Lib.hid (below_step B3.out D4.out)
      clear hq D4
      rw [show decide ([x, y] = [x, y]) = true by simp]
      go_wp2_with fail
      refine (Lower_is page _ HL.out _ hp2).mono ?_
      rintro e w' ⟨rfl, rfl⟩
      go_wp2_with fail
      refine (Upper_is page _ HH.out _ hp2).mono ?_
      rintro e w' ⟨rfl, rfl⟩
      go_wp2_with fail
      refine (Address_any n _).mono ?_
      intro e w5 hq
      obtain ⟨A5, c5, rfl, H5, D5⟩ := hq.at_ (n := 2) rfl
      have B5 := Lib.hid (below_step B4.out D5.out)
      clear hq D5
      go_wp2_with fail
      refine (RefAddress_any n _ hn1 hn2).mono ?_
      intro e w6 hq
      obtain ⟨A6, c6, rfl, H6, D6⟩ := hq.at_ (n := 2) rfl
      have B6 := Lib.hid (below_step B5.out D6.out)
      have H5' := Lib.hid (H5.out.below D6.out)
      clear hq D6
      go_wp2_with fail
      refine (Same_any _ _ 2 _ 2 _ (adr n) (adr n) _ H5'.out H6.out (by omega) (by omega)).mono ?_
      intro e w7 hq
      obtain ⟨rfl, D7⟩ := hq.at_
      have B7 := Lib.hid (below_step B6.out D7.out)
      clear hq D7
      rw [show decide (adr n = adr n) = true by simp]
      go_wp2
      go_ret
      exact ⟨rfl, B7.out⟩
  · have hne : ((m : Int) == 2) = false := by simp; omega
    rcases hpg with ⟨h1, rfl, rfl⟩ | ⟨h1, rfl, rfl⟩
    all_goals
      go_enter Try.func4, Try.ntmps4
      go_wp2_with fail
      refine (awake4_any _).mono ?_
      rintro e w1 ⟨rfl, h2⟩
      have B1 := Lib.hid h2
      clear h2
      go_wp2_with fail
      refine (Number_no A m c _ hl).mono ?_
      rintro e w' ⟨rfl, rfl⟩
      go_wp2_with fail
      refine (Lower_is page _ HL.out _ hp2).mono ?_
      rintro e w' ⟨rfl, rfl⟩
      go_wp2_with fail
      refine (Upper_is page _ HH.out _ hp2).mono ?_
      rintro e w' ⟨rfl, rfl⟩
      go_wp2_with fail
      refine (Address_any n _).mono ?_
      intro e w5 hq
      obtain ⟨A5, c5, rfl, H5, D5⟩ := hq.at_ (n := 2) rfl
      have B5 := Lib.hid (below_step B1.out D5.out)
      clear hq D5
      go_wp2_with fail
      refine (RefAddress_any n _ hn1 hn2).mono ?_
      intro e w6 hq
      obtain ⟨A6, c6, rfl, H6, D6⟩ := hq.at_ (n := 2) rfl
      have B6 := Lib.hid (below_step B5.out D6.out)
      have H5' := Lib.hid (H5.out.below D6.out)
      clear hq D6
      go_wp2_with fail
      refine (Same_any _ _ 2 _ 2 _ (adr n) (adr n) _ H5'.out H6.out (by omega) (by omega)).mono ?_
      intro e w7 hq
      obtain ⟨rfl, D7⟩ := hq.at_
      have B7 := Lib.hid (below_step B6.out D7.out)
      clear hq D7
      rw [show decide (adr n = adr n) = true by simp]
      go_wp2
      go_ret
      exact ⟨rfl, B7.out⟩
end Go.Proofs.Ytkbjbgbngkidjaa
