/-
  Contracts of a row's raw page and of tear, over the landed code; what a store into a row makes of an array.
-/
import Derived.Test.YtipmjmbkknlcfaaArA
import Derived.Test.YtipmjmbkknlcfaaArB
namespace Go.Proofs.Ytipmjmbkknlcfaa
open Go.RowKit
set_option maxRecDepth 100000

/-- It returns a slice of the bytes l in a block that was not there, and nothing that was there has turned. -/
def MakesQ (l : List Nat) (w : World) (e : Ending) (w' : World) : Prop := ∃ A c, e = .returned (.slice A l.length c) ∧ R8 w' A l.length l ∧ Below w.heap.size w w' ∧ ∀ b off, A = some ⟨b, off, none⟩ → w.heap.size ≤ b
theorem MakesQ.makes {l : List Nat} {w w' : World} {e : Ending} (h : MakesQ l w e w') : MakesB l w e w' := by
  obtain ⟨A, c, he, hr, hb, _⟩ := h
  exact ⟨A, c, he, hr, hb⟩
set_option maxHeartbeats 1000000 in
theorem craw_any (q o : Nat) (F : Nat → Option Value) (A : Option Addr) (m cm : Nat) (l : List Nat) (g : Gm) (N : Nat) (hN : g.raw = (N : Int)) (h2N : N ≤ 8192) (w : World) (h : Cells w q 64 F) (h0 : F o = some (.slice A m cm))
    (hl : (A = none ∧ l = List.replicate N 255) ∨ (∃ ad, A = some ad ∧ m = N ∧ R8 w A N l)) :
    Calls Try.prog 43 #[.pointer (some ⟨q, o, none⟩), g.val] w (MakesQ l w) := by
  have hnil := fun w => Lib.run_eql_slice_nil (P := Try.prog) w 62 5 A m cm 0 0 Try.underlying62
  have HE := Lib.hid (fun w' => Erased_fresh g N hN h2N w')
  have H := Lib.hid h
  clear h hN
  obtain ⟨p0, b, s, gc, k, rr, u⟩ := g
  simp only [Gm.val] at HE ⊢
  have Y0 := Lib.hid (GBox.new w ⟨p0, b, s, gc, k, rr, u⟩ 23)
  have B0 := Lib.hid (below_new w (.cells #[.int .i64 p0, .int .i64 b, .int .i64 s, .int .i64 gc, .int .i64 k, .int .i64 rr, .int .i64 u] 23))
  have x0 := (H.out.below B0.out).cell h0
  go_enter Try.func43, Try.ntmps43
  obtain ⟨_, g0, g1, g2, g3, g4, g5, g6⟩ := Y0.out
  simp only at g0 g1 g2 g3 g4 g5 g6
  rcases hl with ⟨rfl, rfl⟩ | ⟨ad, rfl, rfl, hr⟩
  · go_wp2_with fail
    clear g0 g1 g2 g3 g4 g5 g6
    refine (HE.out _).mono ?_
    rintro _ w1 ⟨b1, c1, cur, u1, rfl, hg, hk, hr, hc, hb⟩
    have R1 := Lib.hid hr
    have B1 := Lib.hid (below_step B0.out hb)
    have hfr : w.heap.size ≤ b1 := Nat.le_trans B0.out.size hg
    clear hk hr hb
    go_wp2
    go_ret
    exact ⟨some ⟨b1, 0, none⟩, c1, by simp, by simpa using R1.out, B1.out, fun b off e => by injection e with e; injection e with e _; omega⟩
  · have R0 := Lib.hid (hr.below B0.out)
    have hN2 : m ≤ 1099511627776 := by omega
    clear g0 g1 g2 g3 g4 g5 g6 hr
    go_wp2_with fail
    refine (BClone_any _ m cm l _ R0.out hN2).mono ?_
    rintro _ w1 ⟨A1, c1, rfl, ho, hb⟩
    have R1 := Lib.hid (R8.own ho R0.out.2)
    have B1 := Lib.hid (below_step B0.out hb)
    have hfr := own_block ho
    have hs0 := B0.out.size
    clear ho hb
    go_wp2
    go_ret
    exact ⟨A1, c1, rfl, R1.out, B1.out, fun b off e => by have := hfr b off e; omega⟩

/-- Bytes r of one's own, n of them, have been stored at the cell o of q; the row is torn, and counted. -/
def Torn3 (q o n : Nat) (r : List Nat) (z : Int) (w : World) (e : Ending) (w' : World) : Prop :=
  ∃ w1 g c, e = .returned (.tuple #[]) ∧ w' = ((w1.setCell ⟨q, o, none⟩ (.slice (some ⟨g, 0, none⟩) n c)).setCell ⟨q, o + 2, none⟩ (.bool true)).setCell ⟨q, o + 1, none⟩ (.int .i64 (inc z)) ∧ Below w.heap.size w w1 ∧ w.heap.size ≤ g ∧ R8 w1 (some ⟨g, 0, none⟩) n r ∧ n ≤ c
set_option maxHeartbeats 1000000 in
theorem tear_any (q o : Nat) (F : Nat → Option Value) (v0 : Value) (z : Int) (b : Bool) (B : Option Addr) (n c : Nat) (r : List Nat) (w : World) (h : Cells w q 64 F) (h0 : F o = some v0) (h1 : F (o + 1) = some (.int .i64 z)) (h2 : F (o + 2) = some (.bool b)) (hr : R8 w B n r) (hn : 0 < n) (hn2 : n ≤ 1099511627776) :
    Calls Try.prog 42 #[.pointer (some ⟨q, o, none⟩), .slice B n c] w (Torn3 q o n r z w) := by
  have H := Lib.hid h
  have R := Lib.hid hr
  clear h hr
  go_enter Try.func42, Try.ntmps42
  go_wp2_with fail
  refine (put_any q o F v0 B n c r _ H.out h0 R.out hn hn2).mono ?_
  rintro _ w' ⟨w1, g, c1, rfl, rfl, hb, hg, hr1, hc⟩
  have B1 := Lib.hid hb
  have R1 := Lib.hid hr1
  have H1 := Lib.hid (((H.out.below hb)).set h0 (.slice (some ⟨g, 0, none⟩) n c1))
  have y2 := H1.out.cell (j := o + 2) (v := .bool b) (by rw [if_neg (by omega)]; exact h2)
  have f2 := H1.out.frozen (o + 2)
  have H2 := Lib.hid (H1.out.set (j := o + 2) (v0 := .bool b) (by rw [if_neg (by omega)]; exact h2) (.bool true))
  have y1 := H2.out.cell (j := o + 1) (v := .int .i64 z) (by rw [if_neg (by omega), if_neg (by omega)]; exact h1)
  have f1 := H2.out.frozen (o + 1)
  clear hb hr1
  go_wp2
  go_end0
  exact ⟨w1, g, c1, rfl, rfl, B1.out, hg, R1.out, hc⟩

section
variable {I : Nat → Prop} {w : World} {p q r : Nat} {g : Gm} {s : St}
/-- A row of the array. -/
theorem AR.row (h : AR I w p q r g s) {i : Nat} {y : Pg} (hy : s.rows[i]? = some y) : ∃ (F : Nat → Option Value) (A : Option Addr) (m c : Nat), Cells w q 64 F ∧ F (i * 3) = some (.slice A m c) ∧ F (i * 3 + 1) = some (.int .i64 y.n) ∧ F (i * 3 + 2) = some (.bool y.t) ∧
    y.well g.raw.toNat ∧ ((A = none ∧ m = 0 ∧ y.raw = List.replicate g.raw.toNat 255) ∨ (∃ ad, A = some ad ∧ m = g.raw.toNat ∧ R8 w A g.raw.toNat y.raw)) := by
  obtain ⟨l, h1, h2, h3⟩ := h.rows
  rw [h1, List.getElem?_map] at hy
  rcases hx : l[i]? with _ | x
  · rw [hx] at hy; cases hy
  · rw [hx] at hy
    injection hy with hy
    subst hy
    have hf := rowF_at hx
    have ht := h3 x (List.mem_of_getElem? hx)
    refine ⟨rowF l, x.a, x.m, x.c, h2, hf.1, hf.2.1, hf.2.2, ht.1, ?_⟩
    rcases ht.2 with ⟨e1, e2, _, e3⟩ | ⟨b, off, e1, _, e2, _, e3⟩
    · exact .inl ⟨e1, e2, e3⟩
    · exact .inr ⟨_, e1, e2, e3⟩
/-- One cell of a row's is stored. -/
theorem AR.upd (h : AR I w p q r g s) {i : Nat} {y y' : Pg} (hy : s.rows[i]? = some y) (k : Nat) (hk : k < 3) (v : Value)
    (hx : ∀ x : Rc, x.y = y → x.there I w g.raw.toNat → ∃ x' : Rc, x'.y = y' ∧ x'.there I w g.raw.toNat ∧ ∀ j, j < 3 → x'.cells[j]? = if j = k then some v else x.cells[j]?) :
    AR I (w.setCell ⟨q, i * 3 + k, none⟩ v) p q r g ⟨s.rows.set i y', s.er⟩ := by
  obtain ⟨l, h1, h2, h3⟩ := h.rows
  rw [h1, List.getElem?_map] at hy
  rcases e : l[i]? with _ | x
  · rw [e] at hy; cases hy
  · rw [e] at hy
    injection hy with hy
    obtain ⟨x', e1, e2, e3⟩ := hx x hy (h3 x (List.mem_of_getElem? e))
    have hb : Btw (fun j => j = q) w (w.setCell ⟨q, i * 3 + k, none⟩ v) := (Btw.refl w).setCell (p := ⟨q, i * 3 + k, none⟩) rfl
    have hf := rowF_at e
    have hsome : ∃ v0, rowF l (i * 3 + k) = some v0 := by
      have h4 : k = 0 ∨ k = 1 ∨ k = 2 := by omega
      rcases h4 with rfl | rfl | rfl
      · exact ⟨_, hf.1⟩
      · exact ⟨_, hf.2.1⟩
      · exact ⟨_, hf.2.2⟩
    obtain ⟨v0, hv0⟩ := hsome
    exact { h with
      lt := fun j hj => Nat.lt_of_lt_of_le (h.lt j hj) hb.size
      blk := h.blk.btw hb h.pq
      rows := ⟨l.set i x', by rw [h1, List.map_set, e1], (h2.set hv0 v).sub (fun j u hu => rowF_set e k v hk e3 j u hu), fun z hz => by
        rcases List.mem_or_eq_of_mem_set hz with h5 | h5
        · exact (h3 z h5).btw hb fun j hj => hj ▸ h.iq
        · subst h5
          exact e2.btw hb fun j hj => hj ▸ h.iq⟩
      er := h.er.btw hb (fun e => h.qr e.symm)
      nr := by rw [List.length_set]; exact h.nr }
/-- Bytes. -/
theorem AR.raw_ (h : AR I w p q r g s) {i : Nat} {y : Pg} (hy : s.rows[i]? = some y) (b c : Nat) (l : List Nat) (hb : ¬ I b) (hr : R8 w (some ⟨b, 0, none⟩) g.raw.toNat l) (hc : g.raw.toNat ≤ c) :
    AR I (w.setCell ⟨q, i * 3, none⟩ (.slice (some ⟨b, 0, none⟩) g.raw.toNat c)) p q r g ⟨s.rows.set i ⟨l, y.n, y.t⟩, s.er⟩ :=
  h.upd hy 0 (by omega) _ fun x hx hw => ⟨⟨some ⟨b, 0, none⟩, g.raw.toNat, c, ⟨l, y.n, y.t⟩⟩, rfl, ⟨⟨hr.len, hr.2⟩, .inr ⟨b, 0, rfl, hb, rfl, hc, hr⟩⟩, fun j hj => by
    subst hx
    have h4 : j = 0 ∨ j = 1 ∨ j = 2 := by omega
    rcases h4 with rfl | rfl | rfl <;> rfl⟩
theorem AR.n_ (h : AR I w p q r g s) {i : Nat} {y : Pg} (hy : s.rows[i]? = some y) (z : Int) : AR I (w.setCell ⟨q, i * 3 + 1, none⟩ (.int .i64 z)) p q r g ⟨s.rows.set i ⟨y.raw, z, y.t⟩, s.er⟩ :=
  h.upd hy 1 (by omega) _ fun x hx hw => ⟨⟨x.a, x.m, x.c, ⟨y.raw, z, y.t⟩⟩, rfl, by subst hx; exact hw, fun j hj => by
    subst hx
    have h4 : j = 0 ∨ j = 1 ∨ j = 2 := by omega
    rcases h4 with rfl | rfl | rfl <;> rfl⟩
theorem AR.t_ (h : AR I w p q r g s) {i : Nat} {y : Pg} (hy : s.rows[i]? = some y) (z : Bool) : AR I (w.setCell ⟨q, i * 3 + 2, none⟩ (.bool z)) p q r g ⟨s.rows.set i ⟨y.raw, y.n, z⟩, s.er⟩ :=
  h.upd hy 2 (by omega) _ fun x hx hw => ⟨⟨x.a, x.m, x.c, ⟨y.raw, y.n, z⟩⟩, rfl, by subst hx; exact hw, fun j hj => by
    subst hx
    have h4 : j = 0 ∨ j = 1 ∨ j = 2 := by omega
    rcases h4 with rfl | rfl | rfl <;> rfl⟩
end
theorem set_at {α : Type} {l : List α} {i : Nat} {x : α} (h : l[i]? = some x) (y : α) : (l.set i y)[i]? = some y := by
  rw [List.getElem?_set, if_pos rfl, if_pos (List.getElem?_eq_some_iff.1 h).1]
/-- Behind bytes that were stored in a row. -/
theorem AR.stored {I : Nat → Prop} {w w' : World} {p q r : Nat} {g : Gm} {s : St} {e : Ending} (h : AR I w p q r g s) {i : Nat} {y : Pg} (hy : s.rows[i]? = some y) {l : List Nat} (hs : Stored q (i * 3) g.raw.toNat l w e w') :
    e = .returned (.tuple #[]) ∧ AR I w' p q r g ⟨s.rows.set i ⟨l, y.n, y.t⟩, s.er⟩ ∧ Btw (fun j => j = q) w w' := by
  obtain ⟨w1, b, c, rfl, rfl, hb, hg, hr, hc⟩ := hs
  exact ⟨rfl, (h.below hb).raw_ hy b c l (fun h1 => by have := h.lt b h1; omega) hr hc, (Btw.of_below (I := fun j => j = q) hb).setCell (p := ⟨q, i * 3, none⟩) rfl⟩
theorem AR.torn3 {I : Nat → Prop} {w w' : World} {p q r : Nat} {g : Gm} {s : St} {e : Ending} (h : AR I w p q r g s) {i : Nat} {y : Pg} (hy : s.rows[i]? = some y) {l : List Nat} (hs : Torn3 q (i * 3) g.raw.toNat l y.n w e w') :
    e = .returned (.tuple #[]) ∧ AR I w' p q r g (s.tear i l) ∧ Btw (fun j => j = q) w w' := by
  obtain ⟨w1, b, c, rfl, rfl, hb, hg, hr, hc⟩ := hs
  have h1 := (h.below hb).raw_ hy b c l (fun h1 => by have := h.lt b h1; omega) hr hc
  have h2 := h1.t_ (set_at hy _) true
  have h3 := h2.n_ (set_at (set_at hy _) _) (inc y.n)
  refine ⟨rfl, ?_, (((Btw.of_below (I := fun j => j = q) hb).setCell (p := ⟨q, i * 3, none⟩) rfl).setCell (p := ⟨q, i * 3 + 2, none⟩) rfl).setCell (p := ⟨q, i * 3 + 1, none⟩) rfl⟩
  have e2 : s.tear i l = ⟨((s.rows.set i ⟨l, y.n, y.t⟩).set i ⟨l, y.n, true⟩).set i ⟨l, inc y.n, true⟩, s.er⟩ := by
    unfold St.tear
    rw [sec_one hy, List.set_set, List.set_set]
    rfl
  rw [e2]
  exact h3
end Go.Proofs.Ytipmjmbkknlcfaa
