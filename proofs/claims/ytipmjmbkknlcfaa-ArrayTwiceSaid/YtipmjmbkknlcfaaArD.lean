/-
  Contracts of the array's Program, Tear, Programs, Torn, Raw, over the landed code.
-/
import Derived.Test.YtipmjmbkknlcfaaArC
import Derived.Deep.RegionHeld3
namespace Go.Proofs.Ytipmjmbkknlcfaa
open Go.RowKit
set_option maxRecDepth 100000

theorem Program_nil (x : Int) (v : Value) (w : World) : Calls Try.prog 12 #[.pointer none, .int .i64 x, v] w (Gives (.int .i64 1) w) := by
  go_enter Try.func12, Try.ntmps12
  go_wp2_with fail
  refine (made_nil _).mono ?_
  rintro _ w1 ⟨rfl, h1⟩
  have B1 := Lib.hid h1
  clear h1
  go_wp2
  go_ret
  exact ⟨rfl, B1.out⟩
theorem Tear_nil (x : Int) (v : Value) (w : World) : Calls Try.prog 14 #[.pointer none, .int .i64 x, v] w (Gives (.int .i64 1) w) := by
  go_enter Try.func14, Try.ntmps14
  go_wp2_with fail
  refine (made_nil _).mono ?_
  rintro _ w1 ⟨rfl, h1⟩
  have B1 := Lib.hid h1
  clear h1
  go_wp2
  go_ret
  exact ⟨rfl, B1.out⟩

set_option maxHeartbeats 2000000 in
theorem Program_yes {I : Nat → Prop} {p q r : Nat} {g : Gm} {s : St} {w : World} (h : AR I w p q r g s) {i : Nat} {y : Pg} (hy : s.rows[i]? = some y) (B : Option Addr) (n c : Nat) (l : List Nat) (hr : R8 w B n l) (hn : n = g.raw.toNat) :
    Calls Try.prog 12 #[.pointer (some ⟨p, 0, none⟩), .int .i64 (i : Int), .slice B n c] w fun e w' => e = .returned (.int .i64 0) ∧ AR I w' p q r g (s.prog i l) ∧ Btw (fun j => j = q) w w' := by
  have hsz := h.size
  have hN : Hid (g.raw = (g.raw.toNat : Int)) := Lib.hid (by omega)
  have H := Lib.hid h
  have C7 := Lib.hid h.c7
  have hi : i < (g.b * g.s).toNat := by rw [← h.nr]; exact (List.getElem?_eq_some_iff.1 hy).1
  have hlow := h.low
  have R := Lib.hid hr
  have FD := Lib.hid (decide_eq_true hn)
  have HN := Lib.hid hn
  have HY := Lib.hid hy
  have hn0 : 0 < n := by omega
  have hn9 : n ≤ 1099511627776 := by omega
  clear h hr hn hy hsz hlow
  go_enter Try.func12, Try.ntmps12
  go_wp2_with fail
  refine (made_yes p q _ _ _ C7.out).mono ?_
  rintro _ w1 ⟨rfl, h1⟩
  have B1 := Lib.hid h1
  have H1 := Lib.hid (H.out.below h1)
  clear h1
  go_wp2_with fail
  refine (row_yes p q _ _ i _ H1.out.c7 H1.out.blk.lt hi).mono ?_
  rintro _ w2 h2
  obtain ⟨rfl, h2⟩ := h2
  have B2 := Lib.hid (below_step B1.out h2)
  have H2 := Lib.hid (H1.out.below h2)
  clear h2
  go_wp2_with fail
  refine (fits_any p g g.raw.toNat hN.out B n c _ H2.out.box).mono ?_
  rintro _ w3 ⟨rfl, h3⟩
  rw [FD.out]
  have B3 := Lib.hid (below_step B2.out h3)
  have H3 := Lib.hid (H2.out.below h3)
  have R3 := Lib.hid (R.out.below B3.out)
  clear h3
  obtain ⟨F, A, m, cm, hF, hF0, hF1, hF2, hw, hA⟩ := H3.out.row HY.out
  have hyl := hw.1
  obtain ⟨l0, hl0, hm, hand⟩ : ∃ l0, R8 w3 A m l0 ∧ m ≤ n ∧ andL l0 l = andL y.raw l := by
    rcases hA with ⟨rfl, rfl, e⟩ | ⟨ad, rfl, rfl, h5⟩
    · exact ⟨[], ⟨Rd.nil_, by simp⟩, Nat.zero_le _, by rw [e, andL_nil l R3.out.2, andL_erased _ l (by rw [R3.out.len, HN.out]) R3.out.2]⟩
    · exact ⟨y.raw, h5, Nat.le_of_eq HN.out.symm, rfl⟩
  have L0 := Lib.hid hl0
  have F0 := Lib.hid hF
  have E0 := Lib.hid hand
  clear hF hA hl0 hand hw
  go_wp2_with fail
  refine (turn_any q (i * 3) F A m cm l0 B n c l _ F0.out hF0 L0.out R3.out hn0 hm hn9).mono ?_
  rintro _ w4 hS
  rw [E0.out, HN.out] at hS
  obtain ⟨rfl, h4, b4⟩ := H3.out.stored HY.out hS
  obtain ⟨F4, A4, m4, c4, hF4, _, hn4, _⟩ := h4.row (set_at HY.out _)
  have y1 := hF4.cell hn4
  have f1 := hF4.frozen (i * 3 + 1)
  have H5 := Lib.hid (h4.n_ (set_at HY.out _) (inc y.n))
  have B5 := Lib.hid (((Btw.of_below (I := fun j => j = q) B3.out).trans b4 (fun _ _ h => h)).setCell (p := ⟨q, i * 3 + 1, none⟩) (v := .int .i64 (inc y.n)) rfl)
  have E5 := Lib.hid (show s.prog i l = ⟨(s.rows.set i ⟨andL y.raw l, y.n, y.t⟩).set i ⟨andL y.raw l, inc y.n, y.t⟩, s.er⟩ by
    unfold St.prog
    rw [sec_one HY.out, List.set_set]
    rfl)
  clear hS h4 b4 hF4 hn4 hF0 hF1 hF2
  go_wp2
  go_ret
  exact ⟨rfl, E5.out ▸ H5.out, B5.out⟩

set_option maxHeartbeats 1000000 in
theorem Program_no {I : Nat → Prop} {p q r : Nat} {g : Gm} {s : St} {w : World} (h : AR I w p q r g s) (x : Int) (B : Option Addr) (n c : Nat) (l : List Nat) (hr : R8 w B n l) (hno : ¬ (0 ≤ x ∧ x < ((g.b * g.s).toNat : Int)) ∨ n ≠ g.raw.toNat) :
    Calls Try.prog 12 #[.pointer (some ⟨p, 0, none⟩), .int .i64 x, .slice B n c] w (Gives (.int .i64 2) w) := by
  have hsz := h.size
  have hN : Hid (g.raw = (g.raw.toNat : Int)) := Lib.hid (by omega)
  have H := Lib.hid h
  have C7 := Lib.hid h.c7
  by_cases hx : 0 ≤ x ∧ x < ((g.b * g.s).toNat : Int)
  · have FD := Lib.hid (decide_eq_false (show ¬ n = g.raw.toNat from hno.resolve_left fun h1 => h1 hx))
    obtain ⟨i, rfl⟩ : ∃ i : Nat, x = (i : Int) := ⟨x.toNat, by omega⟩
    have hi : i < (g.b * g.s).toNat := by omega
    have R := Lib.hid hr
    clear h hr hno hx
    go_enter Try.func12, Try.ntmps12
    go_wp2_with fail
    refine (made_yes p q _ _ _ C7.out).mono ?_
    rintro _ w1 ⟨rfl, h1⟩
    have B1 := Lib.hid h1
    have H1 := Lib.hid (H.out.below h1)
    clear h1
    go_wp2_with fail
    refine (row_yes p q _ _ i _ H1.out.c7 H1.out.blk.lt hi).mono ?_
    rintro _ w2 h2
    obtain ⟨rfl, h2⟩ := h2
    have B2 := Lib.hid (below_step B1.out h2)
    have H2 := Lib.hid (H1.out.below h2)
    clear h2
    go_wp2_with fail
    refine (fits_any p g g.raw.toNat hN.out B n c _ H2.out.box).mono ?_
    rintro _ w3 ⟨rfl, h3⟩
    rw [FD.out]
    have B3 := Lib.hid (below_step B2.out h3)
    have H3 := Lib.hid (H2.out.below h3)
    have R3 := Lib.hid (R.out.below B3.out)
    clear h3
    go_wp2
    go_ret
    exact ⟨rfl, B3.out⟩
  · clear h hr hno
    go_enter Try.func12, Try.ntmps12
    go_wp2_with fail
    refine (made_yes p q _ _ _ C7.out).mono ?_
    rintro _ w1 ⟨rfl, h1⟩
    have B1 := Lib.hid h1
    have H1 := Lib.hid (H.out.below h1)
    clear h1
    go_wp2_with fail
    refine (row_no p q _ _ x _ H1.out.c7 H1.out.blk.lt hx).mono ?_
    rintro _ w2 h2
    obtain ⟨rfl, h2⟩ := h2
    have B2 := Lib.hid (below_step B1.out h2)
    have H2 := Lib.hid (H1.out.below h2)
    clear h2
    go_wp2
    go_ret
    exact ⟨rfl, B2.out⟩

set_option maxHeartbeats 2000000 in
theorem Tear_yes {I : Nat → Prop} {p q r : Nat} {g : Gm} {s : St} {w : World} (h : AR I w p q r g s) {i : Nat} {y : Pg} (hy : s.rows[i]? = some y) (B : Option Addr) (n c : Nat) (l : List Nat) (hr : R8 w B n l) (hn : n = g.raw.toNat) :
    Calls Try.prog 14 #[.pointer (some ⟨p, 0, none⟩), .int .i64 (i : Int), .slice B n c] w fun e w' => e = .returned (.int .i64 0) ∧ AR I w' p q r g (s.tear i l) ∧ Btw (fun j => j = q) w w' := by
  have hsz := h.size
  have hN : Hid (g.raw = (g.raw.toNat : Int)) := Lib.hid (by omega)
  have H := Lib.hid h
  have C7 := Lib.hid h.c7
  have hi : i < (g.b * g.s).toNat := by rw [← h.nr]; exact (List.getElem?_eq_some_iff.1 hy).1
  have hlow := h.low
  have R := Lib.hid hr
  have FD := Lib.hid (decide_eq_true hn)
  have HN := Lib.hid hn
  have HY := Lib.hid hy
  have hn0 : 0 < n := by omega
  have hn9 : n ≤ 1099511627776 := by omega
  clear h hr hn hy hsz hlow
  go_enter Try.func14, Try.ntmps14
  go_wp2_with fail
  refine (made_yes p q _ _ _ C7.out).mono ?_
  rintro _ w1 ⟨rfl, h1⟩
  have B1 := Lib.hid h1
  have H1 := Lib.hid (H.out.below h1)
  clear h1
  go_wp2_with fail
  refine (row_yes p q _ _ i _ H1.out.c7 H1.out.blk.lt hi).mono ?_
  rintro _ w2 h2
  obtain ⟨rfl, h2⟩ := h2
  have B2 := Lib.hid (below_step B1.out h2)
  have H2 := Lib.hid (H1.out.below h2)
  clear h2
  go_wp2_with fail
  refine (fits_any p g g.raw.toNat hN.out B n c _ H2.out.box).mono ?_
  rintro _ w3 ⟨rfl, h3⟩
  rw [FD.out]
  have B3 := Lib.hid (below_step B2.out h3)
  have H3 := Lib.hid (H2.out.below h3)
  have R3 := Lib.hid (R.out.below B3.out)
  clear h3
  obtain ⟨F, A, m, cm, hF, hF0, hF1, hF2, _, _⟩ := H3.out.row HY.out
  have F0 := Lib.hid hF
  clear hF
  go_wp2_with fail
  refine (tear_any q (i * 3) F _ _ _ B n c l _ F0.out hF0 hF1 hF2 R3.out hn0 hn9).mono ?_
  rintro _ w4 hS
  rw [HN.out] at hS
  obtain ⟨rfl, h4, b4⟩ := H3.out.torn3 HY.out hS
  have H5 := Lib.hid h4
  have B5 := Lib.hid ((Btw.of_below (I := fun j => j = q) B3.out).trans b4 (fun _ _ h => h))
  clear hS h4 b4 hF0 hF1 hF2
  go_wp2
  go_ret
  exact ⟨rfl, H5.out, B5.out⟩

set_option maxHeartbeats 1000000 in
theorem Tear_no {I : Nat → Prop} {p q r : Nat} {g : Gm} {s : St} {w : World} (h : AR I w p q r g s) (x : Int) (B : Option Addr) (n c : Nat) (l : List Nat) (hr : R8 w B n l) (hno : ¬ (0 ≤ x ∧ x < ((g.b * g.s).toNat : Int)) ∨ n ≠ g.raw.toNat) :
    Calls Try.prog 14 #[.pointer (some ⟨p, 0, none⟩), .int .i64 x, .slice B n c] w (Gives (.int .i64 2) w) := by
  have hsz := h.size
  have hN : Hid (g.raw = (g.raw.toNat : Int)) := Lib.hid (by omega)
  have H := Lib.hid h
  have C7 := Lib.hid h.c7
  by_cases hx : 0 ≤ x ∧ x < ((g.b * g.s).toNat : Int)
  · have FD := Lib.hid (decide_eq_false (show ¬ n = g.raw.toNat from hno.resolve_left fun h1 => h1 hx))
    obtain ⟨i, rfl⟩ : ∃ i : Nat, x = (i : Int) := ⟨x.toNat, by omega⟩
    have hi : i < (g.b * g.s).toNat := by omega
    have R := Lib.hid hr
    clear h hr hno hx
    go_enter Try.func14, Try.ntmps14
    go_wp2_with fail
    refine (made_yes p q _ _ _ C7.out).mono ?_
    rintro _ w1 ⟨rfl, h1⟩
    have B1 := Lib.hid h1
    have H1 := Lib.hid (H.out.below h1)
    clear h1
    go_wp2_with fail
    refine (row_yes p q _ _ i _ H1.out.c7 H1.out.blk.lt hi).mono ?_
    rintro _ w2 h2
    obtain ⟨rfl, h2⟩ := h2
    have B2 := Lib.hid (below_step B1.out h2)
    have H2 := Lib.hid (H1.out.below h2)
    clear h2
    go_wp2_with fail
    refine (fits_any p g g.raw.toNat hN.out B n c _ H2.out.box).mono ?_
    rintro _ w3 ⟨rfl, h3⟩
    rw [FD.out]
    have B3 := Lib.hid (below_step B2.out h3)
    have H3 := Lib.hid (H2.out.below h3)
    have R3 := Lib.hid (R.out.below B3.out)
    clear h3
    go_wp2
    go_ret
    exact ⟨rfl, B3.out⟩
  · clear h hr hno
    go_enter Try.func14, Try.ntmps14
    go_wp2_with fail
    refine (made_yes p q _ _ _ C7.out).mono ?_
    rintro _ w1 ⟨rfl, h1⟩
    have B1 := Lib.hid h1
    have H1 := Lib.hid (H.out.below h1)
    clear h1
    go_wp2_with fail
    refine (row_no p q _ _ x _ H1.out.c7 H1.out.blk.lt hx).mono ?_
    rintro _ w2 h2
    obtain ⟨rfl, h2⟩ := h2
    have B2 := Lib.hid (below_step B1.out h2)
    have H2 := Lib.hid (H1.out.below h2)
    clear h2
    go_wp2
    go_ret
    exact ⟨rfl, B2.out⟩

set_option maxHeartbeats 1000000 in
theorem Programs_yes {I : Nat → Prop} {p q r : Nat} {g : Gm} {s : St} {w : World} (h : AR I w p q r g s) {i : Nat} {y : Pg} (hy : s.rows[i]? = some y) :
    Calls Try.prog 22 #[.pointer (some ⟨p, 0, none⟩), .int .i64 (i : Int)] w (Gives (.int .i64 y.n) w) := by
  have H1 := Lib.hid h
  have B1 := Lib.hid (Below.refl w.heap.size w)
  have hi : i < (g.b * g.s).toNat := by rw [← h.nr]; exact (List.getElem?_eq_some_iff.1 hy).1
  clear h
  go_enter Try.func22, Try.ntmps22
  go_wp2_with fail
  refine (row_yes p q _ _ i _ H1.out.c7 H1.out.blk.lt hi).mono ?_
  rintro _ w2 h2
  obtain ⟨rfl, h2⟩ := h2
  have B2 := Lib.hid (below_step B1.out h2)
  have H2 := Lib.hid (H1.out.below h2)
  clear h2
  obtain ⟨F, A, m, cm, hF, hF0, hF1, hF2, _, _⟩ := H2.out.row hy
  have y0 := hF.cell hF1
  clear hF hF0 hF1 hF2
  go_wp2
  go_ret
  exact ⟨rfl, B2.out⟩
theorem Programs_no {I : Nat → Prop} {p q r : Nat} {g : Gm} {s : St} {w : World} (h : AR I w p q r g s) (x : Int) (hx : ¬ (0 ≤ x ∧ x < ((g.b * g.s).toNat : Int))) :
    Calls Try.prog 22 #[.pointer (some ⟨p, 0, none⟩), .int .i64 x] w (Gives (.int .i64 0) w) := by
  have H1 := Lib.hid h
  have B1 := Lib.hid (Below.refl w.heap.size w)
  clear h
  go_enter Try.func22, Try.ntmps22
  go_wp2_with fail
  refine (row_no p q _ _ x _ H1.out.c7 H1.out.blk.lt hx).mono ?_
  rintro _ w2 h2
  obtain ⟨rfl, h2⟩ := h2
  have B2 := Lib.hid (below_step B1.out h2)
  have H2 := Lib.hid (H1.out.below h2)
  clear h2
  go_wp2
  go_ret
  exact ⟨rfl, B2.out⟩
theorem Programs_nil (x : Int) (w : World) : Calls Try.prog 22 #[.pointer none, .int .i64 x] w (Gives (.int .i64 0) w) := by
  go_enter Try.func22, Try.ntmps22
  go_wp2_with fail
  refine (row_nil x _).mono ?_
  rintro _ w1 h1
  obtain ⟨rfl, h1⟩ := h1
  have B1 := Lib.hid h1
  clear h1
  go_wp2
  go_ret
  exact ⟨rfl, B1.out⟩

set_option maxHeartbeats 1000000 in
theorem Torn_yes {I : Nat → Prop} {p q r : Nat} {g : Gm} {s : St} {w : World} (h : AR I w p q r g s) {i : Nat} {y : Pg} (hy : s.rows[i]? = some y) :
    Calls Try.prog 21 #[.pointer (some ⟨p, 0, none⟩), .int .i64 (i : Int)] w (Gives (.bool y.t) w) := by
  have H1 := Lib.hid h
  have B1 := Lib.hid (Below.refl w.heap.size w)
  have hi : i < (g.b * g.s).toNat := by rw [← h.nr]; exact (List.getElem?_eq_some_iff.1 hy).1
  clear h
  go_enter Try.func21, Try.ntmps21
  go_wp2_with fail
  refine (row_yes p q _ _ i _ H1.out.c7 H1.out.blk.lt hi).mono ?_
  rintro _ w2 h2
  obtain ⟨rfl, h2⟩ := h2
  have B2 := Lib.hid (below_step B1.out h2)
  have H2 := Lib.hid (H1.out.below h2)
  clear h2
  obtain ⟨F, A, m, cm, hF, hF0, hF1, hF2, _, _⟩ := H2.out.row hy
  have y0 := hF.cell hF2
  clear hF hF0 hF1 hF2
  go_wp2
  go_ret
  exact ⟨rfl, B2.out⟩
theorem Torn_no {I : Nat → Prop} {p q r : Nat} {g : Gm} {s : St} {w : World} (h : AR I w p q r g s) (x : Int) (hx : ¬ (0 ≤ x ∧ x < ((g.b * g.s).toNat : Int))) :
    Calls Try.prog 21 #[.pointer (some ⟨p, 0, none⟩), .int .i64 x] w (Gives (.bool false) w) := by
  have H1 := Lib.hid h
  have B1 := Lib.hid (Below.refl w.heap.size w)
  clear h
  go_enter Try.func21, Try.ntmps21
  go_wp2_with fail
  refine (row_no p q _ _ x _ H1.out.c7 H1.out.blk.lt hx).mono ?_
  rintro _ w2 h2
  obtain ⟨rfl, h2⟩ := h2
  have B2 := Lib.hid (below_step B1.out h2)
  have H2 := Lib.hid (H1.out.below h2)
  clear h2
  go_wp2
  go_ret
  exact ⟨rfl, B2.out⟩
theorem Torn_nil (x : Int) (w : World) : Calls Try.prog 21 #[.pointer none, .int .i64 x] w (Gives (.bool false) w) := by
  go_enter Try.func21, Try.ntmps21
  go_wp2_with fail
  refine (row_nil x _).mono ?_
  rintro _ w1 h1
  obtain ⟨rfl, h1⟩ := h1
  have B1 := Lib.hid h1
  clear h1
  go_wp2
  go_ret
  exact ⟨rfl, B1.out⟩

set_option maxHeartbeats 2000000 in
theorem Raw_fresh {I : Nat → Prop} {p q r : Nat} {g : Gm} {s : St} {w : World} (h : AR I w p q r g s) {i : Nat} {y : Pg} (hy : s.rows[i]? = some y) :
    Calls Try.prog 20 #[.pointer (some ⟨p, 0, none⟩), .int .i64 (i : Int)] w (MakesQ y.raw w) := by
  have hsz := h.size
  have HN : Hid (g.raw = (g.raw.toNat : Int)) := Lib.hid (by omega)
  have hlow := h.low
  have hi : i < (g.b * g.s).toNat := by rw [← h.nr]; exact (List.getElem?_eq_some_iff.1 hy).1
  obtain ⟨N, hNN⟩ : ∃ N, N = g.raw.toNat := ⟨_, rfl⟩
  have H1 := Lib.hid h
  have B1 := Lib.hid (Below.refl w.heap.size w)
  clear h
  obtain ⟨p0, b, sz, gc, k, rr, u⟩ := g
  go_enter Try.func20, Try.ntmps20
  go_wp2_with fail
  refine (row_yes p q _ _ i _ H1.out.c7 H1.out.blk.lt hi).mono ?_
  rintro _ w2 h2
  obtain ⟨rfl, h2⟩ := h2
  have B2 := Lib.hid (below_step B1.out h2)
  have H2 := Lib.hid (H1.out.below h2)
  clear h2
  obtain ⟨F, A, m, cm, hF, hF0, hF1, hF2, _, hA⟩ := H2.out.row hy
  have y0 := hF.cell hF0
  have F0 := Lib.hid hF
  have HA := Lib.hid hA
  clear hF hF1 hF2 hA
  go_wp2
  refine wp_region_noPanic ?_
  refine wp_region_held_drew (S := fun w' => Below w2.heap.size w2 w') (by kernel_rfl) ((Below.refl _ _).drew) (fun C0 => ?_)
  refine wpAnyH_take (i := 0) (oi := { dst := some 15, op := Op.move (Operand.tmp 5), type := 70, pos := "array.go:58", after := #[], guard := none }) (v := ?_) rfl (by kernel_rfl) (by kernel_rfl) (by kernel_rfl) (fun _ _ _ h => h) (Or.inl ⟨by rfl, ?_⟩) C0 ?_
  rotate_left
  · intro W' hSw
    clear hSw
    go_simp <;> with_reducible rfl
  try simp only [Act.put, List.setIfInBounds_toArray, List.set_cons_zero, List.set_cons_succ]
  refine wpAnyH_take (i := 1) (oi := { dst := some 16, op := Op.nilCheck (Operand.tmp 15), type := 0, pos := "array.go:58", after := #[{ on := 0, ground := Ground.data }], guard := none }) (v := ?_) rfl (by kernel_rfl) (by kernel_rfl) (by kernel_rfl) (fun _ _ _ h => h) (Or.inl ⟨by rfl, ?_⟩) C0 ?_
  rotate_left
  · intro W' hSw
    clear hSw
    go_simp <;> with_reducible rfl
  try simp only [Act.put, List.setIfInBounds_toArray, List.set_cons_zero, List.set_cons_succ]
  refine wpAnyH_take (i := 2) (oi := { dst := some 17, op := Op.fieldAddr 64 (Operand.tmp 16) 0, type := 0, pos := "array.go:58", after := #[{ on := 1, ground := Ground.data }], guard := none }) (v := ?_) rfl (by kernel_rfl) (by kernel_rfl) (by kernel_rfl) (fun _ _ _ h => h) (Or.inl ⟨by rfl, ?_⟩) C0 ?_
  rotate_left
  · intro W' hSw
    clear hSw
    go_simp <;> with_reducible rfl
  try simp only [Act.put, List.setIfInBounds_toArray, List.set_cons_zero, List.set_cons_succ]
  refine wpAnyH_take (i := 3) (oi := { dst := some 18, op := Op.move (Operand.tmp 0), type := 28, pos := "array.go:58", after := #[], guard := none }) (v := ?_) rfl (by kernel_rfl) (by kernel_rfl) (by kernel_rfl) (fun _ _ _ h => h) (Or.inl ⟨by rfl, ?_⟩) C0 ?_
  rotate_left
  · intro W' hSw
    clear hSw
    go_simp <;> with_reducible rfl
  try simp only [Act.put, List.setIfInBounds_toArray, List.set_cons_zero, List.set_cons_succ]
  refine wpAnyH_take (i := 4) (oi := { dst := some 19, op := Op.nilCheck (Operand.tmp 18), type := 0, pos := "array.go:58", after := #[{ on := 3, ground := Ground.data }], guard := none }) (v := ?_) rfl (by kernel_rfl) (by kernel_rfl) (by kernel_rfl) (fun _ _ _ h => h) (Or.inl ⟨by rfl, ?_⟩) C0 ?_
  rotate_left
  · intro W' hSw
    clear hSw
    go_simp <;> with_reducible rfl
  try simp only [Act.put, List.setIfInBounds_toArray, List.set_cons_zero, List.set_cons_succ]
  refine wpAnyH_take (i := 5) (oi := { dst := some 20, op := Op.fieldAddr 59 (Operand.tmp 19) 0, type := 0, pos := "array.go:58", after := #[{ on := 4, ground := Ground.data }], guard := none }) (v := ?_) rfl (by kernel_rfl) (by kernel_rfl) (by kernel_rfl) (fun _ _ _ h => h) (Or.inl ⟨by rfl, ?_⟩) C0 ?_
  rotate_left
  · intro W' hSw
    clear hSw
    go_simp <;> with_reducible rfl
  try simp only [Act.put, List.setIfInBounds_toArray, List.set_cons_zero, List.set_cons_succ]
  refine wpAnyH_take (i := 6) (oi := { dst := some 21, op := Op.load 23 (Operand.tmp 20), type := 23, pos := "array.go:58", after := #[{ on := 5, ground := Ground.data }], guard := none }) (v := ?_) rfl (by kernel_rfl) (by kernel_rfl) (by kernel_rfl) (fun _ _ _ h => h) (Or.inl ⟨by rfl, ?_⟩) C0 ?_
  rotate_left
  · intro W' hSw
    obtain ⟨_, g0, g1, g2, g3, g4, g5, g6⟩ := (H2.out.below hSw).box
    simp only at g0 g1 g2 g3 g4 g5 g6
    clear hSw
    go_simp <;> with_reducible rfl
  try simp only [Act.put, List.setIfInBounds_toArray, List.set_cons_zero, List.set_cons_succ]
  refine wpAnyH_ready (rs := [7]) (by kernel_rfl) (by simp) ?_
  refine AllReadyH.cons (o := { dst := some 22, op := Op.call { callee := Callee.value (Operand.func 43), args := #[Operand.tmp 17, Operand.tmp 21], argTypes := #[62, 23] }, type := 35, pos := "array.go:58", after := #[{ on := 2, ground := Ground.data }, { on := 6, ground := Ground.data }], guard := none }) rfl (fun K hK => ?_) AllReadyH.nil
  go_simp
  refine (craw_any q (i * 3) F A m cm y.raw _ _ HN.out (by omega) _ (F0.out.below C0) hF0 (HA.out.imp (fun e => ⟨e.1, e.2.2⟩) fun ⟨ad, e1, e2, e3⟩ => ⟨ad, e1, e2, e3.below C0⟩)).mono ?_
  rintro _ w4 ⟨A1, c1, rfl, hr4, hB, hfr⟩
  have R4 := Lib.hid hr4
  have FR := Lib.hid hfr
  clear hr4 hfr
  go_wp2_with fail
  refine hK.out _ _ (C0.trans (hB.mono C0.size)) (fun C1 => ?_)
  clear hK K hB
  try simp only [Act.put, List.setIfInBounds_toArray, List.set_cons_zero, List.set_cons_succ]
  refine wpAnyH_take (i := 8) (oi := { dst := some 4, op := Op.assign (Operand.tmp 22), type := 35, pos := "array.go:58", after := #[{ on := 7, ground := Ground.data }, { on := 7, ground := Ground.chain }, { on := 0, ground := Ground.phase }, { on := 1, ground := Ground.phase }, { on := 2, ground := Ground.phase }, { on := 3, ground := Ground.phase }, { on := 4, ground := Ground.phase }, { on := 5, ground := Ground.phase }, { on := 6, ground := Ground.phase }, { on := 7, ground := Ground.phase }], guard := none }) (v := ?_) rfl (by kernel_rfl) (by kernel_rfl) (by kernel_rfl) (fun _ _ _ h => h) (Or.inl ⟨by rfl, ?_⟩) C1 ?_
  rotate_left
  · intro W' hSw
    clear hSw
    go_simp <;> with_reducible rfl
  try simp only [Act.put, List.setIfInBounds_toArray, List.set_cons_zero, List.set_cons_succ]
  refine wpAnyH_done (by kernel_rfl) ?_ _
  refine NoPanic.normal ?_
  go_wp2
  go_ret
  exact ⟨A1, c1, rfl, R4.out, below_step B2.out C1, fun b off e => Nat.le_trans (below_step B2.out (Below.refl _ _)).size (FR.out b off e)⟩

theorem Raw_yes {I : Nat → Prop} {p q r : Nat} {g : Gm} {s : St} {w : World} (h : AR I w p q r g s) {i : Nat} {y : Pg} (hy : s.rows[i]? = some y) :
    Calls Try.prog 20 #[.pointer (some ⟨p, 0, none⟩), .int .i64 (i : Int)] w (MakesB y.raw w) := (Raw_fresh h hy).mono fun _ _ h => h.makes
theorem Raw_no {I : Nat → Prop} {p q r : Nat} {g : Gm} {s : St} {w : World} (h : AR I w p q r g s) (x : Int) (hx : ¬ (0 ≤ x ∧ x < ((g.b * g.s).toNat : Int))) :
    Calls Try.prog 20 #[.pointer (some ⟨p, 0, none⟩), .int .i64 x] w (Gives (.slice none 0 0) w) := by
  have H1 := Lib.hid h
  have B1 := Lib.hid (Below.refl w.heap.size w)
  clear h
  go_enter Try.func20, Try.ntmps20
  go_wp2_with fail
  refine (row_no p q _ _ x _ H1.out.c7 H1.out.blk.lt hx).mono ?_
  rintro _ w2 h2
  obtain ⟨rfl, h2⟩ := h2
  have B2 := Lib.hid (below_step B1.out h2)
  have H2 := Lib.hid (H1.out.below h2)
  clear h2
  go_wp2
  go_ret
  exact ⟨rfl, B2.out⟩
theorem Raw_nil (x : Int) (w : World) : Calls Try.prog 20 #[.pointer none, .int .i64 x] w (Gives (.slice none 0 0) w) := by
  go_enter Try.func20, Try.ntmps20
  go_wp2_with fail
  refine (row_nil x _).mono ?_
  rintro _ w1 h1
  obtain ⟨rfl, h1⟩ := h1
  have B1 := Lib.hid h1
  clear h1
  go_wp2
  go_ret
  exact ⟨rfl, B1.out⟩
end Go.Proofs.Ytipmjmbkknlcfaa
