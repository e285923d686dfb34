/-
  Contracts of what is done to a row's bytes (put, turn, mark, raw) and of tear, over the landed code.
-/
import Derived.Test.YtmbgoopkpfhamaaGreatTk
import Derived.Test.YtmbgoopkpfhamaaGreatTkB
import Derived.Deep.RegionHeld3
import Derived.Lib.SliceRun
import Derived.BigFrame
import Derived.Test.YtmbgoopkpfhamaaGreatIdentChecksJ8
import Derived.Test.YtmbgoopkpfhamaaGreatIdentChecksJ16
import Derived.Test.YtmbgoopkpfhamaaGreatIdentChecksJ3
import Derived.Test.YtmbgoopkpfhamaaGreatIdentChecksJErased
import Derived.Test.YtmbgoopkpfhamaaGreatIdentChecksJ13
import Derived.Test.YtmbgoopkpfhamaaGreatIdentChecksJInv
namespace Go.Proofs.YtmbgoopkpfhamaaGreat
open Go.RowKit
set_option maxRecDepth 100000
def Stored (q o n : Nat) (r : List Nat) (w : World) (e : Ending) (w' : World) : Prop :=
 ∃ w1 g c, e = .returned (.tuple #[]) ∧ w' = w1.setCell ⟨q, o, none⟩ (.slice (some ⟨g, 0, none⟩) n c) ∧ Below w.heap.size w w1 ∧ w.heap.size ≤ g ∧ R8 w1 (some ⟨g, 0, none⟩) n r ∧ n ≤ c
theorem own_head {w : World} {base : Nat} {e0 : TypeId} {A : Option Addr} {n c : Nat} {l : List Nat} (h : w.ownsRow base e0 1 (.slice A n c) n (U8 l)) (hn : 0 < n) (hl : ∀ x ∈ l, x < 256) : ∃ g, A = some ⟨g, 0, none⟩ ∧ base ≤ g ∧ n ≤ c ∧ R8 w (some ⟨g, 0, none⟩) n l := by
 obtain ⟨g, rfl, hb, hc, _⟩ := Cells.own h hn
 exact ⟨g, rfl, hb, hc, R8.own h hl⟩
set_option maxHeartbeats 1000000 in
theorem put_any (q o : Nat) (F : Nat → Option Value) (v0 : Value) (B : Option Addr) (n c : Nat) (r : List Nat) (w : World) (h : Cells w q 116 F) (h0 : F o = some v0) (hr : R8 w B n r) (hn : 0 < n) (hn2 : n ≤ 1099511627776) :
  Calls Tryz.prog 152 #[.pointer (some ⟨q, o, none⟩), .slice B n c] w (Stored q o n r w) := by
 have H := Lib.hid h
 have R := Lib.hid hr
 clear h hr
 go_enter Tryz.func152, Tryz.ntmps152
 go_wp2_with fail
 refine (BClone_any B n c r _ R.out hn2).mono ?_
 rintro _ w1 ⟨A, c1, rfl, ho, hb⟩
 have hl := R.out.len
 rw [hl] at ho ⊢
 obtain ⟨g, rfl, hg, hc, hr1⟩ := own_head ho hn R.out.2
 have B1 := Lib.hid hb
 have R1 := Lib.hid hr1
 have x0 := (H.out.below hb).cell h0
 have f0 := (H.out.below hb).frozen o
 clear ho hb hr1 hl
 go_wp2
 go_end0
 exact ⟨w1, g, c1, rfl, rfl, B1.out, hg, R1.out, hc⟩
set_option maxHeartbeats 1000000 in
theorem turn_any (q o : Nat) (F : Nat → Option Value) (A : Option Addr) (m cm : Nat) (l : List Nat) (B : Option Addr) (n c : Nat) (r : List Nat) (w : World) (h : Cells w q 116 F) (h0 : F o = some (.slice A m cm)) (hl : R8 w A m l)
  (hr : R8 w B n r) (hn : 0 < n) (hm : m ≤ n) (hn2 : n ≤ 1099511627776) :
  Calls Tryz.prog 169 #[.pointer (some ⟨q, o, none⟩), .slice B n c] w (Stored q o n (andL l r) w) := by
 have H := Lib.hid h
 have R := Lib.hid hr
 have L := Lib.hid hl
 have x0 := h.cell h0
 have hlen : (andL l r).length = n := by rw [andL_length, hl.len, hr.len]; omega
 clear h hr hl
 go_enter Tryz.func169, Tryz.ntmps169
 go_wp2_with fail
 refine (And_any A B m cm n c l r _ L.out R.out (by omega) hn2).mono ?_
 rintro _ w1 ⟨A1, c1, rfl, ho, hb⟩
 rw [hlen] at ho ⊢
 obtain ⟨g, rfl, hg, hc, hr1⟩ := own_head ho hn (andL_lt l r L.out.2)
 have B1 := Lib.hid hb
 have R1 := Lib.hid hr1
 clear x0
 have x0 := (H.out.below hb).cell h0
 have f0 := (H.out.below hb).frozen o
 clear ho hb hr1 hlen
 go_wp2
 go_end0
 exact ⟨w1, g, c1, rfl, rfl, B1.out, hg, R1.out, hc⟩
set_option maxHeartbeats 1000000 in
theorem mark_any (q o : Nat) (F : Nat → Option Value) (v0 : Value) (g : Gm) (N : Nat) (hN : g.raw = (N : Int)) (h1N : 0 < N) (h2N : N ≤ 8192) (w : World) (h : Cells w q 116 F) (h0 : F o = some v0) :
  Calls Tryz.prog 44 #[.pointer (some ⟨q, o, none⟩), g.val] w (Stored q o N (mrk N) w) := by
 have HE := Lib.hid (fun w' => Erased_fresh g N hN h2N w')
 have H := Lib.hid h
 clear h hN
 obtain ⟨p0, b, s, gc, k, rr, u⟩ := g
 simp only [Gm.val] at HE ⊢
 have Y0 := Lib.hid (GBox.new w ⟨p0, b, s, gc, k, rr, u⟩ 23)
 have B0 := Lib.hid (below_new w (.cells #[.int .i64 p0, .int .i64 b, .int .i64 s, .int .i64 gc, .int .i64 k, .int .i64 rr, .int .i64 u] 23))
 go_enter Tryz.func44, Tryz.ntmps44
 obtain ⟨_, g0, g1, g2, g3, g4, g5, g6⟩ := Y0.out
 simp only at g0 g1 g2 g3 g4 g5 g6
 go_wp2_with fail
 clear g0 g1 g2 g3 g4 g5 g6
 refine (HE.out _).mono ?_
 rintro _ w1 ⟨b1, c1, cur, u1, rfl, hg, hk, hr, hc, hb⟩
 rw [List.length_replicate] at hr hc ⊢
 have hlt : w.heap.size ≤ b1 := Nat.le_trans B0.out.size hg
 have B1 := Lib.hid (below_step B0.out hb)
 have hqb : q ≠ b1 := by have := H.out.lt; omega
 have K1 : Hid (CRow w1 b1 u1 cur) := hk
 have R1 := Lib.hid hr
 obtain ⟨b2, off2, x, e2, _, HX, _, hcx⟩ := hr.at_ (k := N - 1) (by omega)
 injection e2 with e2
 injection e2 with e3 e4
 subst e3
 subst e4
 rw [Nat.zero_add] at hcx
 have fz := K1.out.frozen (N - 1)
 have hsub : IntKind.i64.wrap ((N : Int) - 1) = ((N - 1 : Nat) : Int) := by rw [IntWalk.i64_in _ (by omega)]; omega
 have hN1 : N - 1 < N := by omega
 have H1 := Lib.hid (((H.out.below B1.out)).other (p := ⟨b1, N - 1, none⟩) hqb (.int .u8 0))
 have x0 := H1.out.cell h0
 have f0 := H1.out.frozen o
 have R2 : Hid (R8 (w1.setCell ⟨b1, N - 1, none⟩ (.int .u8 0)) (some ⟨b1, 0, none⟩) N (mrk N)) := R1.out.put (N - 1) 0 (by omega)
 have B2 := Lib.hid (((Btw.of_below (I := fun j => j = b1) B1.out).setCell (p := ⟨b1, N - 1, none⟩) (v := .int .u8 0) rfl).below (S := w.heap.size) (fun k hk => by subst hk; exact hlt) (Nat.le_refl _))
 clear hb hk hr HX H
 go_wp2
 go_end0
 exact ⟨_, b1, c1, rfl, rfl, B2.out, hlt, R2.out, hc⟩
def MakesQ (l : List Nat) (w : World) (e : Ending) (w' : World) : Prop := ∃ A c, e = .returned (.slice A l.length c) ∧ R8 w' A l.length l ∧ Below w.heap.size w w' ∧ ∀ b off, A = some ⟨b, off, none⟩ → w.heap.size ≤ b
set_option maxHeartbeats 1000000 in
theorem craw_any (q o : Nat) (F : Nat → Option Value) (A : Option Addr) (m cm : Nat) (l : List Nat) (g : Gm) (N : Nat) (hN : g.raw = (N : Int)) (h2N : N ≤ 8192) (w : World) (h : Cells w q 116 F) (h0 : F o = some (.slice A m cm))
  (hl : (A = none ∧ l = List.replicate N 255) ∨ (∃ ad, A = some ad ∧ m = N ∧ R8 w A N l)) :
  Calls Tryz.prog 164 #[.pointer (some ⟨q, o, none⟩), g.val] w (MakesQ l w) := by
 have hnil := fun w => Lib.run_eql_slice_nil (P := Tryz.prog) w 114 5 A m cm 0 0 Tryz.underlying114
 have HE := Lib.hid (fun w' => Erased_fresh g N hN h2N w')
 have H := Lib.hid h
 clear h hN
 obtain ⟨p0, b, s, gc, k, rr, u⟩ := g
 simp only [Gm.val] at HE ⊢
 have Y0 := Lib.hid (GBox.new w ⟨p0, b, s, gc, k, rr, u⟩ 23)
 have B0 := Lib.hid (below_new w (.cells #[.int .i64 p0, .int .i64 b, .int .i64 s, .int .i64 gc, .int .i64 k, .int .i64 rr, .int .i64 u] 23))
 have x0 := (H.out.below B0.out).cell h0
 go_enter Tryz.func164, Tryz.ntmps164
 obtain ⟨_, g0, g1, g2, g3, g4, g5, g6⟩ := Y0.out
 simp only at g0 g1 g2 g3 g4 g5 g6
 rcases hl with ⟨rfl, rfl⟩ | ⟨ad, rfl, rfl, hr⟩
 ·
  go_wp2_with fail
  clear g0 g1 g2 g3 g4 g5 g6
  refine (HE.out _).mono ?_
  rintro _ w1 ⟨b1, c1, cur, u1, rfl, hg, hk, hr, hc, hb⟩
  have R1 := Lib.hid hr
  have B1 := Lib.hid (below_step B0.out hb)
  have hfr : w.heap.size ≤ b1 := Nat.le_trans B0.out.size hg
  clear hk hr hb
  go_wp2
  go_ret
  exact ⟨some ⟨b1, 0, none⟩, c1, by simp, by simpa using R1.out, B1.out, fun b off e => by injection e with e; injection e with e _; omega⟩
 ·
  have R0 := Lib.hid (hr.below B0.out)
  have hN2 : m ≤ 1099511627776 := by omega
  clear g0 g1 g2 g3 g4 g5 g6 hr
  go_wp2_with fail
  refine (BClone_any _ m cm l _ R0.out hN2).mono ?_
  rintro _ w1 ⟨A1, c1, rfl, ho, hb⟩
  have R1 := Lib.hid (R8.own ho R0.out.2)
  have B1 := Lib.hid (below_step B0.out hb)
  have hfr := own_block ho
  have hs0 := B0.out.size
  clear ho hb
  go_wp2
  go_ret
  exact ⟨A1, c1, rfl, R1.out, B1.out, fun b off e => by have := hfr b off e; omega⟩
def Torn3 (q o n : Nat) (r : List Nat) (z : Int) (w : World) (e : Ending) (w' : World) : Prop :=
 ∃ w1 g c, e = .returned (.tuple #[]) ∧ w' = ((w1.setCell ⟨q, o, none⟩ (.slice (some ⟨g, 0, none⟩) n c)).setCell ⟨q, o + 2, none⟩ (.bool true)).setCell ⟨q, o + 1, none⟩ (.int .i64 (inc z)) ∧ Below w.heap.size w w1 ∧ w.heap.size ≤ g ∧ R8 w1 (some ⟨g, 0, none⟩) n r ∧ n ≤ c
set_option maxHeartbeats 1000000 in
theorem tear_any (q o : Nat) (F : Nat → Option Value) (v0 : Value) (z : Int) (b : Bool) (B : Option Addr) (n c : Nat) (r : List Nat) (w : World) (h : Cells w q 116 F) (h0 : F o = some v0) (h1 : F (o + 1) = some (.int .i64 z)) (h2 : F (o + 2) = some (.bool b)) (hr : R8 w B n r) (hn : 0 < n) (hn2 : n ≤ 1099511627776) :
  Calls Tryz.prog 132 #[.pointer (some ⟨q, o, none⟩), .slice B n c] w (Torn3 q o n r z w) := by
 have H := Lib.hid h
 have R := Lib.hid hr
 clear h hr
 go_enter Tryz.func132, Tryz.ntmps132
 go_wp2_with fail
 refine (put_any q o F v0 B n c r _ H.out h0 R.out hn hn2).mono ?_
 rintro _ w' ⟨w1, g, c1, rfl, rfl, hb, hg, hr1, hc⟩
 have B1 := Lib.hid hb
 have R1 := Lib.hid hr1
 have H1 := Lib.hid (((H.out.below hb)).set h0 (.slice (some ⟨g, 0, none⟩) n c1))
 have y2 := H1.out.cell (j := o + 2) (v := .bool b) (by rw [if_neg (by omega)]; exact h2)
 have f2 := H1.out.frozen (o + 2)
 have H2 := Lib.hid (H1.out.set (j := o + 2) (v0 := .bool b) (by rw [if_neg (by omega)]; exact h2) (.bool true))
 have y1 := H2.out.cell (j := o + 1) (v := .int .i64 z) (by rw [if_neg (by omega), if_neg (by omega)]; exact h1)
 have f1 := H2.out.frozen (o + 1)
 clear hb hr1
 go_wp2
 go_end0
 exact ⟨w1, g, c1, rfl, rfl, B1.out, hg, R1.out, hc⟩
section
variable {I : Nat → Prop} {w : World} {p q r : Nat} {g : Gm} {s : St}
theorem AR.row (h : AR I w p q r g s) {i : Nat} {y : Pg} (hy : s.rows[i]? = some y) : ∃ (F : Nat → Option Value) (A : Option Addr) (m c : Nat), Cells w q 116 F ∧ F (i * 3) = some (.slice A m c) ∧ F (i * 3 + 1) = some (.int .i64 y.n) ∧ F (i * 3 + 2) = some (.bool y.t) ∧
  y.well g.raw.toNat ∧ ((A = none ∧ m = 0 ∧ y.raw = List.replicate g.raw.toNat 255) ∨ (∃ ad, A = some ad ∧ m = g.raw.toNat ∧ R8 w A g.raw.toNat y.raw)) := by
 obtain ⟨l, h1, h2, h3⟩ := h.rows
 rw [h1, List.getElem?_map] at hy
 rcases hx : l[i]? with _ | x
 ·
  rw [hx] at hy; cases hy
 ·
  rw [hx] at hy
  injection hy with hy
  subst hy
  have hf := rowF_at hx
  have ht := h3 x (List.mem_of_getElem? hx)
  refine ⟨rowF l, x.a, x.m, x.c, h2, hf.1, hf.2.1, hf.2.2, ht.1, ?_⟩
  rcases ht.2 with ⟨e1, e2, _, e3⟩ | ⟨b, off, e1, _, e2, _, e3⟩
  ·
   exact .inl ⟨e1, e2, e3⟩
  ·
   exact .inr ⟨_, e1, e2, e3⟩
theorem AR.upd (h : AR I w p q r g s) {i : Nat} {y y' : Pg} (hy : s.rows[i]? = some y) (k : Nat) (hk : k < 3) (v : Value)
  (hx : ∀ x : Rc, x.y = y → x.there I w g.raw.toNat → ∃ x' : Rc, x'.y = y' ∧ x'.there I w g.raw.toNat ∧ ∀ j, j < 3 → x'.cells[j]? = if j = k then some v else x.cells[j]?) :
  AR I (w.setCell ⟨q, i * 3 + k, none⟩ v) p q r g ⟨s.rows.set i y', s.er⟩ := by
 obtain ⟨l, h1, h2, h3⟩ := h.rows
 rw [h1, List.getElem?_map] at hy
 rcases e : l[i]? with _ | x
 ·
  rw [e] at hy; cases hy
 ·
  rw [e] at hy
  injection hy with hy
  obtain ⟨x', e1, e2, e3⟩ := hx x hy (h3 x (List.mem_of_getElem? e))
  have hb : Btw (fun j => j = q) w (w.setCell ⟨q, i * 3 + k, none⟩ v) := (Btw.refl w).setCell (p := ⟨q, i * 3 + k, none⟩) rfl
  have hf := rowF_at e
  have hsome : ∃ v0, rowF l (i * 3 + k) = some v0 := by
   have h4 : k = 0 ∨ k = 1 ∨ k = 2 := by omega
   rcases h4 with rfl | rfl | rfl
   ·
    exact ⟨_, hf.1⟩
   ·
    exact ⟨_, hf.2.1⟩
   ·
    exact ⟨_, hf.2.2⟩
  obtain ⟨v0, hv0⟩ := hsome
  exact { h with
   lt := fun j hj => Nat.lt_of_lt_of_le (h.lt j hj) hb.size
   blk := h.blk.btw hb h.pq
   rows := ⟨l.set i x', by rw [h1, List.map_set, e1], (h2.set hv0 v).sub (fun j u hu => rowF_set e k v hk e3 j u hu), fun z hz => by
    rcases List.mem_or_eq_of_mem_set hz with h5 | h5
    ·
     exact (h3 z h5).btw hb fun j hj => hj ▸ h.iq
    ·
     subst h5
     exact e2.btw hb fun j hj => hj ▸ h.iq⟩
   er := h.er.btw hb (fun e => h.qr e.symm)
   nr := by rw [List.length_set]; exact h.nr }
theorem AR.raw_ (h : AR I w p q r g s) {i : Nat} {y : Pg} (hy : s.rows[i]? = some y) (b c : Nat) (l : List Nat) (hb : ¬ I b) (hr : R8 w (some ⟨b, 0, none⟩) g.raw.toNat l) (hc : g.raw.toNat ≤ c) :
  AR I (w.setCell ⟨q, i * 3, none⟩ (.slice (some ⟨b, 0, none⟩) g.raw.toNat c)) p q r g ⟨s.rows.set i ⟨l, y.n, y.t⟩, s.er⟩ :=
 h.upd hy 0 (by omega) _ fun x hx hw => ⟨⟨some ⟨b, 0, none⟩, g.raw.toNat, c, ⟨l, y.n, y.t⟩⟩, rfl, ⟨⟨hr.len, hr.2⟩, .inr ⟨b, 0, rfl, hb, rfl, hc, hr⟩⟩, fun j hj => by
  subst hx
  have h4 : j = 0 ∨ j = 1 ∨ j = 2 := by omega
  rcases h4 with rfl | rfl | rfl <;> rfl⟩
theorem AR.n_ (h : AR I w p q r g s) {i : Nat} {y : Pg} (hy : s.rows[i]? = some y) (z : Int) : AR I (w.setCell ⟨q, i * 3 + 1, none⟩ (.int .i64 z)) p q r g ⟨s.rows.set i ⟨y.raw, z, y.t⟩, s.er⟩ :=
 h.upd hy 1 (by omega) _ fun x hx hw => ⟨⟨x.a, x.m, x.c, ⟨y.raw, z, y.t⟩⟩, rfl, by subst hx; exact hw, fun j hj => by
  subst hx
  have h4 : j = 0 ∨ j = 1 ∨ j = 2 := by omega
  rcases h4 with rfl | rfl | rfl <;> rfl⟩
theorem AR.t_ (h : AR I w p q r g s) {i : Nat} {y : Pg} (hy : s.rows[i]? = some y) (z : Bool) : AR I (w.setCell ⟨q, i * 3 + 2, none⟩ (.bool z)) p q r g ⟨s.rows.set i ⟨y.raw, y.n, z⟩, s.er⟩ :=
 h.upd hy 2 (by omega) _ fun x hx hw => ⟨⟨x.a, x.m, x.c, ⟨y.raw, y.n, z⟩⟩, rfl, by subst hx; exact hw, fun j hj => by
  subst hx
  have h4 : j = 0 ∨ j = 1 ∨ j = 2 := by omega
  rcases h4 with rfl | rfl | rfl <;> rfl⟩
end
theorem set_at {α : Type} {l : List α} {i : Nat} {x : α} (h : l[i]? = some x) (y : α) : (l.set i y)[i]? = some y := by
 rw [List.getElem?_set, if_pos rfl, if_pos (List.getElem?_eq_some_iff.1 h).1]
theorem AR.stored {I : Nat → Prop} {w w' : World} {p q r : Nat} {g : Gm} {s : St} {e : Ending} (h : AR I w p q r g s) {i : Nat} {y : Pg} (hy : s.rows[i]? = some y) {l : List Nat} (hs : Stored q (i * 3) g.raw.toNat l w e w') :
  e = .returned (.tuple #[]) ∧ AR I w' p q r g ⟨s.rows.set i ⟨l, y.n, y.t⟩, s.er⟩ ∧ Btw (fun j => j = q) w w' := by
 obtain ⟨w1, b, c, rfl, rfl, hb, hg, hr, hc⟩ := hs
 exact ⟨rfl, (h.below hb).raw_ hy b c l (fun h1 => by have := h.lt b h1; omega) hr hc, (Btw.of_below (I := fun j => j = q) hb).setCell (p := ⟨q, i * 3, none⟩) rfl⟩
theorem AR.torn3 {I : Nat → Prop} {w w' : World} {p q r : Nat} {g : Gm} {s : St} {e : Ending} (h : AR I w p q r g s) {i : Nat} {y : Pg} (hy : s.rows[i]? = some y) {l : List Nat} (hs : Torn3 q (i * 3) g.raw.toNat l y.n w e w') :
  e = .returned (.tuple #[]) ∧ AR I w' p q r g (s.tear i l) ∧ Btw (fun j => j = q) w w' := by
 obtain ⟨w1, b, c, rfl, rfl, hb, hg, hr, hc⟩ := hs
 have h1 := (h.below hb).raw_ hy b c l (fun h1 => by have := h.lt b h1; omega) hr hc
 have h2 := h1.t_ (set_at hy _) true
 have h3 := h2.n_ (set_at (set_at hy _) _) (inc y.n)
 refine ⟨rfl, ?_, (((Btw.of_below (I := fun j => j = q) hb).setCell (p := ⟨q, i * 3, none⟩) rfl).setCell (p := ⟨q, i * 3 + 2, none⟩) rfl).setCell (p := ⟨q, i * 3 + 1, none⟩) rfl⟩
 have e2 : s.tear i l = ⟨((s.rows.set i ⟨l, y.n, y.t⟩).set i ⟨l, y.n, true⟩).set i ⟨l, inc y.n, true⟩, s.er⟩ := by
  unfold St.tear
  rw [sec_one hy, List.set_set, List.set_set]
  rfl
 rw [e2]
 exact h3
set_option maxHeartbeats 2000000 in
theorem Program_yes {I : Nat → Prop} {p q r : Nat} {g : Gm} {s : St} {w : World} (h : AR I w p q r g s) {i : Nat} {y : Pg} (hy : s.rows[i]? = some y) (B : Option Addr) (n c : Nat) (l : List Nat) (hr : R8 w B n l) (hn : n = g.raw.toNat) :
  Calls Tryz.prog 166 #[.pointer (some ⟨p, 0, none⟩), .int .i64 (i : Int), .slice B n c] w fun e w' => e = .returned (.int .i64 0) ∧ AR I w' p q r g (s.prog i l) ∧ Btw (fun j => j = q) w w' := by
 have hsz := h.size
 have hN : Hid (g.raw = (g.raw.toNat : Int)) := Lib.hid (by omega)
 have H := Lib.hid h
 have C7 := Lib.hid h.c7
 have hi : i < (g.b * g.s).toNat := by rw [← h.nr]; exact (List.getElem?_eq_some_iff.1 hy).1
 have hlow := h.low
 have R := Lib.hid hr
 have FD := Lib.hid (decide_eq_true hn)
 have HN := Lib.hid hn
 have HY := Lib.hid hy
 have hn0 : 0 < n := by omega
 have hn9 : n ≤ 1099511627776 := by omega
 clear h hr hn hy hsz hlow
 go_enter Tryz.func166, Tryz.ntmps166
 go_wp2_with fail
 refine (made_yes p q _ _ _ C7.out).mono ?_
 rintro _ w1 ⟨rfl, h1⟩
 have B1 := Lib.hid h1
 have H1 := Lib.hid (H.out.below h1)
 clear h1
 go_wp2_with fail
 refine (row_yes p q _ _ i _ H1.out.c7 H1.out.blk.lt hi).mono ?_
 rintro _ w2 h2
 obtain ⟨rfl, h2⟩ := h2
 have B2 := Lib.hid (below_step B1.out h2)
 have H2 := Lib.hid (H1.out.below h2)
 clear h2
 go_wp2_with fail
 refine (fits_any p g g.raw.toNat hN.out B n c _ H2.out.box).mono ?_
 rintro _ w3 ⟨rfl, h3⟩
 rw [FD.out]
 have B3 := Lib.hid (below_step B2.out h3)
 have H3 := Lib.hid (H2.out.below h3)
 have R3 := Lib.hid (R.out.below B3.out)
 clear h3
 obtain ⟨F, A, m, cm, hF, hF0, hF1, hF2, hw, hA⟩ := H3.out.row HY.out
 have hyl := hw.1
 obtain ⟨l0, hl0, hm, hand⟩ : ∃ l0, R8 w3 A m l0 ∧ m ≤ n ∧ andL l0 l = andL y.raw l := by
  rcases hA with ⟨rfl, rfl, e⟩ | ⟨ad, rfl, rfl, h5⟩
  ·
   exact ⟨[], ⟨Rd.nil_, by simp⟩, Nat.zero_le _, by rw [e, andL_nil l R3.out.2, andL_erased _ l (by rw [R3.out.len, HN.out]) R3.out.2]⟩
  ·
   exact ⟨y.raw, h5, Nat.le_of_eq HN.out.symm, rfl⟩
 have L0 := Lib.hid hl0
 have F0 := Lib.hid hF
 have E0 := Lib.hid hand
 clear hF hA hl0 hand hw
 go_wp2_with fail
 refine (turn_any q (i * 3) F A m cm l0 B n c l _ F0.out hF0 L0.out R3.out hn0 hm hn9).mono ?_
 rintro _ w4 hS
 rw [E0.out, HN.out] at hS
 obtain ⟨rfl, h4, b4⟩ := H3.out.stored HY.out hS
 obtain ⟨F4, A4, m4, c4, hF4, _, hn4, _⟩ := h4.row (set_at HY.out _)
 have y1 := hF4.cell hn4
 have f1 := hF4.frozen (i * 3 + 1)
 have H5 := Lib.hid (h4.n_ (set_at HY.out _) (inc y.n))
 have B5 := Lib.hid (((Btw.of_below (I := fun j => j = q) B3.out).trans b4 (fun _ _ h => h)).setCell (p := ⟨q, i * 3 + 1, none⟩) (v := .int .i64 (inc y.n)) rfl)
 have E5 := Lib.hid (show s.prog i l = ⟨(s.rows.set i ⟨andL y.raw l, y.n, y.t⟩).set i ⟨andL y.raw l, inc y.n, y.t⟩, s.er⟩ by
  unfold St.prog
  rw [sec_one HY.out, List.set_set]
  rfl)
 clear hS h4 b4 hF4 hn4 hF0 hF1 hF2
 go_wp2
 go_ret
 exact ⟨rfl, E5.out ▸ H5.out, B5.out⟩
set_option maxHeartbeats 2000000 in
theorem Tear_yes {I : Nat → Prop} {p q r : Nat} {g : Gm} {s : St} {w : World} (h : AR I w p q r g s) {i : Nat} {y : Pg} (hy : s.rows[i]? = some y) (B : Option Addr) (n c : Nat) (l : List Nat) (hr : R8 w B n l) (hn : n = g.raw.toNat) :
  Calls Tryz.prog 130 #[.pointer (some ⟨p, 0, none⟩), .int .i64 (i : Int), .slice B n c] w fun e w' => e = .returned (.int .i64 0) ∧ AR I w' p q r g (s.tear i l) ∧ Btw (fun j => j = q) w w' := by
 have hsz := h.size
 have hN : Hid (g.raw = (g.raw.toNat : Int)) := Lib.hid (by omega)
 have H := Lib.hid h
 have C7 := Lib.hid h.c7
 have hi : i < (g.b * g.s).toNat := by rw [← h.nr]; exact (List.getElem?_eq_some_iff.1 hy).1
 have hlow := h.low
 have R := Lib.hid hr
 have FD := Lib.hid (decide_eq_true hn)
 have HN := Lib.hid hn
 have HY := Lib.hid hy
 have hn0 : 0 < n := by omega
 have hn9 : n ≤ 1099511627776 := by omega
 clear h hr hn hy hsz hlow
 go_enter Tryz.func130, Tryz.ntmps130
 go_wp2_with fail
 refine (made_yes p q _ _ _ C7.out).mono ?_
 rintro _ w1 ⟨rfl, h1⟩
 have B1 := Lib.hid h1
 have H1 := Lib.hid (H.out.below h1)
 clear h1
 go_wp2_with fail
 refine (row_yes p q _ _ i _ H1.out.c7 H1.out.blk.lt hi).mono ?_
 rintro _ w2 h2
 obtain ⟨rfl, h2⟩ := h2
 have B2 := Lib.hid (below_step B1.out h2)
 have H2 := Lib.hid (H1.out.below h2)
 clear h2
 go_wp2_with fail
 refine (fits_any p g g.raw.toNat hN.out B n c _ H2.out.box).mono ?_
 rintro _ w3 ⟨rfl, h3⟩
 rw [FD.out]
 have B3 := Lib.hid (below_step B2.out h3)
 have H3 := Lib.hid (H2.out.below h3)
 have R3 := Lib.hid (R.out.below B3.out)
 clear h3
 obtain ⟨F, A, m, cm, hF, hF0, hF1, hF2, _, _⟩ := H3.out.row HY.out
 have F0 := Lib.hid hF
 clear hF
 go_wp2_with fail
 refine (tear_any q (i * 3) F _ _ _ B n c l _ F0.out hF0 hF1 hF2 R3.out hn0 hn9).mono ?_
 rintro _ w4 hS
 rw [HN.out] at hS
 obtain ⟨rfl, h4, b4⟩ := H3.out.torn3 HY.out hS
 have H5 := Lib.hid h4
 have B5 := Lib.hid ((Btw.of_below (I := fun j => j = q) B3.out).trans b4 (fun _ _ h => h))
 clear hS h4 b4 hF0 hF1 hF2
 go_wp2
 go_ret
 exact ⟨rfl, H5.out, B5.out⟩
set_option maxHeartbeats 2000000 in
theorem Raw_fresh {I : Nat → Prop} {p q r : Nat} {g : Gm} {s : St} {w : World} (h : AR I w p q r g s) {i : Nat} {y : Pg} (hy : s.rows[i]? = some y) :
  Calls Tryz.prog 154 #[.pointer (some ⟨p, 0, none⟩), .int .i64 (i : Int)] w (MakesQ y.raw w) := by
 have hsz := h.size
 have HN : Hid (g.raw = (g.raw.toNat : Int)) := Lib.hid (by omega)
 have hlow := h.low
 have hi : i < (g.b * g.s).toNat := by rw [← h.nr]; exact (List.getElem?_eq_some_iff.1 hy).1
 obtain ⟨N, hNN⟩ : ∃ N, N = g.raw.toNat := ⟨_, rfl⟩
 have H1 := Lib.hid h
 have B1 := Lib.hid (Below.refl w.heap.size w)
 clear h
 obtain ⟨p0, b, sz, gc, k, rr, u⟩ := g
 go_enter Tryz.func154, Tryz.ntmps154
 go_wp2_with fail
 refine (row_yes p q _ _ i _ H1.out.c7 H1.out.blk.lt hi).mono ?_
 rintro _ w2 h2
 obtain ⟨rfl, h2⟩ := h2
 have B2 := Lib.hid (below_step B1.out h2)
 have H2 := Lib.hid (H1.out.below h2)
 clear h2
 obtain ⟨F, A, m, cm, hF, hF0, hF1, hF2, _, hA⟩ := H2.out.row hy
 have y0 := hF.cell hF0
 have F0 := Lib.hid hF
 have HA := Lib.hid hA
 clear hF hF1 hF2 hA
 go_wp2
 refine wp_region_noPanic ?_
 refine wp_region_held_drew (S := fun w' => Below w2.heap.size w2 w') (by kernel_rfl) ((Below.refl _ _).drew) (fun C0 => ?_)
 refine tkH4 0 C0 ?_
 refine tkH4 1 C0 ?_
 refine tkH4 2 C0 ?_
 refine tkH4 3 C0 ?_
 refine tkH4 4 C0 ?_
 refine tkH4 5 C0 ?_
 refine tkH4 6 C0 ?_ (hy := fun W' hSw => by obtain ⟨_, g0, g1, g2, g3, g4, g5, g6⟩ := (H2.out.below hSw).box; simp only at g0 g1 g2 g3 g4 g5 g6; clear hSw; go_simp <;> with_reducible rfl)
 refine wpAnyH_ready (rs := [7]) (by kernel_rfl) (by simp) ?_
 refine AllReadyH.cons (o := { dst := some 22, op := Op.call { callee := Callee.value (Operand.func 164), args := #[Operand.tmp 17, Operand.tmp 21], argTypes := #[114, 23] }, type := 26, pos := "array.go:58", after := #[{ on := 2, ground := Ground.data }, { on := 6, ground := Ground.data }], guard := none }) rfl (fun K hK => ?_) AllReadyH.nil
 go_simp
 refine (craw_any q (i * 3) F A m cm y.raw _ _ HN.out (by omega) _ (F0.out.below C0) hF0 (HA.out.imp (fun e => ⟨e.1, e.2.2⟩) fun ⟨ad, e1, e2, e3⟩ => ⟨ad, e1, e2, e3.below C0⟩)).mono ?_
 rintro _ w4 ⟨A1, c1, rfl, hr4, hB, hfr⟩
 have R4 := Lib.hid hr4
 have FR := Lib.hid hfr
 clear hr4 hfr
 go_wp2_with fail
 refine hK.out _ _ (C0.trans (hB.mono C0.size)) (fun C1 => ?_)
 clear hK K hB
 try simp only [Act.put, zzI, zzO, zzS]
 refine tkH4 8 C1 ?_
 refine wpAnyH_done (by kernel_rfl) ?_ _
 refine NoPanic.normal ?_
 go_wp2
 go_ret
 exact ⟨A1, c1, rfl, R4.out, below_step B2.out C1, fun b off e => Nat.le_trans (below_step B2.out (Below.refl _ _)).size (FR.out b off e)⟩
def zrows (n : Nat) : List Value := (Builtin.zeroCells #[.slice none 0 0, .int .i64 0, .bool false] n).toList
theorem zrows_len (n : Nat) : (zrows n).length = n * 3 := by simp [zrows, Builtin.zeroCells]
theorem zrows_get (n j : Nat) (h : j < n * 3) : (zrows n)[j]? = [Value.slice none 0 0, .int .i64 0, .bool false][j % 3]? := by
 unfold zrows Builtin.zeroCells
 simp only [Array.getElem?_toList]
 have h4 : j % 3 = 0 ∨ j % 3 = 1 ∨ j % 3 = 2 := by omega
 rw [Array.getElem?_map, Array.getElem?_range]
 simp only [List.size_toArray, List.length_cons, List.length_nil]
 rw [if_pos (by simpa using h)]
 rcases h4 with h4 | h4 | h4 <;> simp [h4]
theorem zrows_one (n : Nat) : ∀ v ∈ zrows n, v.oneCell' = true := by
 intro v hv
 obtain ⟨j, hj⟩ := List.mem_iff_getElem?.1 hv
 have hl := (List.getElem?_eq_some_iff.1 hj).1
 rw [zrows_len] at hl
 rw [zrows_get n j hl] at hj
 have h4 : j % 3 = 0 ∨ j % 3 = 1 ∨ j % 3 = 2 := by omega
 rcases h4 with h4 | h4 | h4 <;> (rw [h4] at hj; injection hj with hj; subst hj; rfl)
theorem run_clear_rows (w : World) (ty : TypeId) (b o n c : Nat) (hn : 0 < n) (hc : ∀ j, j < n * 3 → (w.cell? ⟨b, o + j, none⟩).isSome = true) (hf : ∀ j, j < n * 3 → w.frozen? ⟨b, o + j, none⟩ = false) :
  (Builtin.clear_ #[109] ty #[.slice (some ⟨b, o, none⟩) n c]).run Tryz.prog w = .ok (.tuple #[]) (w.setCells b o (zrows n)) := by
 have hst := run_storeCells_cells (P := Tryz.prog) b o (zrows n) 0 w (by rw [zrows_len]; simpa using hc) (by rw [zrows_len]; simpa using hf) (zrows_one n)
 simp only [Nat.add_zero] at hst
 obtain ⟨m, rfl⟩ : ∃ m, n = m + 1 := ⟨n - 1, by omega⟩
 unfold zrows at hst ⊢
 simp [Builtin.clear_, run_underlying Tryz.underlying109, Value.cells, hst]
section
variable {I : Nat → Prop} {w : World} {p q r : Nat} {g : Gm} {s : St}
theorem AR.rows_eq (h : AR I w p q r g s) : (g.b * g.s).toNat = g.b.toNat * g.s.toNat := by
 have := h.size
 obtain ⟨B, hB⟩ : ∃ B : Nat, g.b = (B : Int) := ⟨g.b.toNat, by omega⟩
 obtain ⟨S, hS⟩ : ∃ S : Nat, g.s = (S : Int) := ⟨g.s.toNat, by omega⟩
 rw [hB, hS]
 have e : ((B : Int) * (S : Int)) = ((B * S : Nat) : Int) := by push_cast; rfl
 rw [e, Int.toNat_natCast, Int.toNat_natCast, Int.toNat_natCast]
theorem AR.fit (h : AR I w p q r g s) {k : Nat} (hk : k < g.b.toNat) : k * g.s.toNat + g.s.toNat ≤ (g.b * g.s).toNat := by
 rw [h.rows_eq, ← Nat.succ_mul]
 exact Nat.mul_le_mul_right _ hk
theorem AR.few (h : AR I w p q r g s) : (g.b * g.s).toNat ≤ 1000000 := by
 rw [h.rows_eq]
 have := h.size
 have h1 : g.b.toNat * g.s.toNat ≤ 256 * 64 := Nat.mul_le_mul (by omega) (by omega)
 omega
theorem AR.clear_ (h : AR I w p q r g s) (a n : Nat) (ha : a + n ≤ (g.b * g.s).toNat) : AR I (w.setCells q (a * 3) (zrows n)) p q r g ⟨sec (fun _ => ersd g.raw.toNat) a n s.rows, s.er⟩ ∧ (∀ j, j < n * 3 → (w.cell? ⟨q, a * 3 + j, none⟩).isSome = true) := by
 obtain ⟨l, h1, h2, h3⟩ := h.rows
 have hl : l.length = (g.b * g.s).toNat := by rw [← h.nr, h1, List.length_map]
 have hsome : ∀ j, j < n * 3 → (rowF l (a * 3 + j)).isSome = true := by
  intro j hj
  unfold rowF
  rw [List.getElem?_eq_getElem (show (a * 3 + j) / 3 < l.length by omega), Option.bind_some]
  unfold Rc.cells
  have h4 : (a * 3 + j) % 3 = 0 ∨ (a * 3 + j) % 3 = 1 ∨ (a * 3 + j) % 3 = 2 := by omega
  rcases h4 with h4 | h4 | h4 <;> (rw [h4]; rfl)
 refine ⟨?_, fun j hj => ?_⟩
 ·
  have hb : Btw (fun j => j = q) w (w.setCells q (a * 3) (zrows n)) := Btw.setCells (I := fun j => j = q) rfl _ _ (Btw.refl w)
  have hs := Cells.setCells (zrows n) (a * 3) h2 (by rw [zrows_len]; exact hsome)
  exact { h with
   lt := fun j hj => Nat.lt_of_lt_of_le (h.lt j hj) hb.size
   blk := h.blk.btw hb h.pq
   rows := ⟨sec (fun _ => ⟨none, 0, 0, ersd g.raw.toNat⟩) a n l, by rw [h1]; exact (sec_map (f := fun _ => (⟨none, 0, 0, ersd g.raw.toNat⟩ : Rc)) (fun x => x.y) (fun _ => ersd g.raw.toNat) fun _ => rfl).symm, hs.sub (fun j u hu => by
    unfold rowF at hu
    rw [sec_get] at hu
    rcases e : l[j / 3]? with _ | x
    ·
     rw [e] at hu; cases hu
    ·
     rw [e, Option.map_some, Option.bind_some] at hu
     show (if a * 3 ≤ j ∧ j < a * 3 + (zrows n).length then (zrows n)[j - a * 3]? else rowF l j) = some u
     rw [zrows_len]
     by_cases h5 : a ≤ j / 3 ∧ j / 3 < a + n
     ·
      rw [if_pos h5] at hu
      rw [if_pos (by omega), zrows_get _ _ (by omega), show (j - a * 3) % 3 = j % 3 by omega]
      exact hu
     ·
      rw [if_neg h5] at hu
      rw [if_neg (by omega)]
      unfold rowF
      rw [e]
      exact hu), fun z hz => by
    obtain ⟨i, hi⟩ := List.mem_iff_getElem?.1 hz
    rw [sec_get] at hi
    rcases e : l[i]? with _ | x
    ·
     rw [e] at hi; cases hi
    ·
     rw [e, Option.map_some] at hi
     injection hi with hi
     subst hi
     split
     ·
      exact ⟨ersd_well _, .inl ⟨rfl, rfl, rfl, rfl⟩⟩
     ·
      exact (h3 x (List.mem_of_getElem? e)).btw hb fun j hj => hj ▸ h.iq⟩
   er := h.er.btw hb (fun e => h.qr e.symm)
   nr := by rw [sec_len]; exact h.nr }
 ·
  obtain ⟨v, hv⟩ := Option.isSome_iff_exists.1 (hsome j hj)
  rw [h2.cell hv]
  rfl
theorem AR.frozen (h : AR I w p q r g s) (o : Nat) : w.frozen? ⟨q, o, none⟩ = false := by
 obtain ⟨l, h1, h2, h3⟩ := h.rows
 exact h2.frozen o
theorem AR.er_ (h : AR I w p q r g s) {k : Nat} {z0 : Int} (hk : s.er[k]? = some z0) (z : Int) : AR I (w.setCell ⟨r, k, none⟩ (.int .i64 z)) p q r g ⟨s.rows, s.er.set k z⟩ := by
 have hb : Btw (fun j => j = r) w (w.setCell ⟨r, k, none⟩ (.int .i64 z)) := (Btw.refl w).setCell (p := ⟨r, k, none⟩) rfl
 obtain ⟨l, h1, h2, h3⟩ := h.rows
 exact { h with
  lt := fun j hj => Nat.lt_of_lt_of_le (h.lt j hj) hb.size
  blk := h.blk.btw hb h.pr
  rows := ⟨l, h1, h2.btw hb h.qr, fun x hx => (h3 x hx).btw hb fun j hj => hj ▸ h.ir⟩
  er := (h.er.set (j := k) (v0 := .int .i64 z0) (by rw [hk]; rfl) (.int .i64 z)).sub fun j u hu => by
   rw [List.getElem?_set] at hu
   by_cases e : k = j
   ·
    subst e
    rw [if_pos rfl, if_pos (List.getElem?_eq_some_iff.1 hk).1] at hu
    rw [if_pos rfl]
    exact hu
   ·
    rw [if_neg e] at hu
    rw [if_neg (fun e2 => e e2.symm)]
    exact hu
  ne := by rw [List.length_set]; exact h.ne }
theorem AR.erc (h : AR I w p q r g s) {k : Nat} (hk : k < g.b.toNat) : ∃ z, s.er[k]? = some z ∧ w.cell? ⟨r, k, none⟩ = some (.int .i64 z) ∧ w.frozen? ⟨r, k, none⟩ = false := by
 have hl : k < s.er.length := by rw [h.ne]; exact hk
 exact ⟨s.er[k], List.getElem?_eq_getElem hl, h.er.cell (by rw [List.getElem?_eq_getElem hl]; rfl), h.er.frozen k⟩
end
set_option maxHeartbeats 2000000 in
theorem Erase_yes {I : Nat → Prop} {p q r : Nat} {g : Gm} {s : St} {w : World} (h : AR I w p q r g s) {k : Nat} (hk : k < g.b.toNat) : Calls Tryz.prog 167 #[.pointer (some ⟨p, 0, none⟩), .int .i64 (k : Int)] w fun e w' => e = .returned (.int .i64 0) ∧ AR I w' p q r g (s.erase g.raw.toNat g.s.toNat k) ∧ Btw (fun j => j = q ∨ j = r) w w' := by
 have HS := Lib.hid (show g.s = (g.s.toNat : Int) by have := h.size; omega)
 have HK := Lib.hid (show (k : Int) < g.b by omega)
 have HG := Lib.hid h.ok
 have HR := Lib.hid (AR.fit h hk)
 have HR2 := Lib.hid (AR.few h)
 have hS1 : 4 ≤ g.s.toNat := by have := h.size; omega
 have hS2 : g.s.toNat ≤ 64 := by have := h.size; omega
 obtain ⟨S, hSS⟩ : ∃ S, S = g.s.toNat := ⟨_, rfl⟩
 rw [← hSS] at HS HR hS1 hS2
 try rw [← hSS]
 have H := Lib.hid h
 have C7 := Lib.hid h.c7
 clear h hSS
 go_enter Tryz.func167, Tryz.ntmps167
 go_wp2_with fail
 refine (made_yes p q _ _ _ C7.out).mono ?_
 rintro _ w1 ⟨rfl, h1⟩
 have B1 := Lib.hid h1
 have H1 := Lib.hid (H.out.below h1)
 clear h1
 go_wp2_with fail
 refine (block_yes p q _ S (k * S) k g _ H1.out.box H1.out.c7 HG.out HK.out HS.out rfl HR.out HR2.out).mono ?_
 rintro _ w2 h2
 obtain ⟨rfl, h2⟩ := h2
 have B2 := Lib.hid (below_step B1.out h2)
 have H2 := Lib.hid (H1.out.below h2)
 clear h2
 obtain ⟨hA, hc⟩ := H2.out.clear_ (k * S) S HR.out
 have hf : ∀ j, j < S * 3 → w2.frozen? ⟨q, k * S * 3 + j, none⟩ = false := fun j _ => H2.out.frozen _
 have hcl := fun ty => run_clear_rows w2 ty q (k * S * 3) S ((g.b * g.s).toNat - k * S) (by omega) hc hf
 have H3 := Lib.hid hA
 obtain ⟨z, hz, y8, f8⟩ := hA.erc hk
 have x8 := hA.c8
 have H4 := Lib.hid (hA.er_ hz (inc z))
 have E4 := Lib.hid (show s.erase g.raw.toNat S k = ⟨sec (fun _ => ersd g.raw.toNat) (k * S) S s.rows, s.er.set k (inc z)⟩ by
  unfold St.erase
  rw [sec_one hz])
 have B4 := Lib.hid ((Btw.setCells (I := fun j => j = q ∨ j = r) (.inl rfl) (zrows S) (k * S * 3) (Btw.of_below B2.out)).setCell (p := ⟨r, k, none⟩) (v := .int .i64 (inc z)) (.inr rfl))
 have i0 : (0 : Int) ≤ (k : Int) := by omega
 have i1 : (k : Int) < (g.b.toNat : Int) := by omega
 clear hA hc hf hz hk
 go_wp2
 go_ret
 exact ⟨rfl, E4.out ▸ H4.out, B4.out⟩
set_option maxHeartbeats 2000000 in
theorem TearBlock_yes {I : Nat → Prop} {p q r : Nat} {g : Gm} {s : St} {w : World} (h : AR I w p q r g s) {k : Nat} (hk : k < g.b.toNat) (B : Option Addr) (n c : Nat) (l : List Nat) (hr : R8 w B n l) (hn : n = g.raw.toNat) (hB : ∀ b off, B = some ⟨b, off, none⟩ → b ≠ q) :
  Calls Tryz.prog 109 #[.pointer (some ⟨p, 0, none⟩), .int .i64 (k : Int), .slice B n c] w fun e w' => e = .returned (.int .i64 0) ∧ AR I w' p q r g (s.tearB g.s.toNat k l) ∧ Btw (fun j => j = q) w w' := by
 have hN : Hid (g.raw = (g.raw.toNat : Int)) := Lib.hid (by have := h.size; omega)
 have hn0 : 0 < n := by have := h.size; omega
 have hn9 : n ≤ 1099511627776 := by have := h.low; omega
 obtain ⟨b0, off0, hBe⟩ : ∃ b off, B = some ⟨b, off, none⟩ := by
  obtain ⟨b, off, e, _⟩ := hr.1.2 hn0
  exact ⟨b, off, e⟩
 have HB0 := Lib.hid (hB b0 off0 hBe)
 have FD := Lib.hid (decide_eq_true hn)
 have HN := Lib.hid hn
 have HS := Lib.hid (show g.s = (g.s.toNat : Int) by have := h.size; omega)
 have HK := Lib.hid (show (k : Int) < g.b by omega)
 have HG := Lib.hid h.ok
 have HR := Lib.hid (AR.fit h hk)
 have HR2 := Lib.hid (AR.few h)
 have hS1 : 4 ≤ g.s.toNat := by have := h.size; omega
 have hS2 : g.s.toNat ≤ 64 := by have := h.size; omega
 obtain ⟨S, hSS⟩ : ∃ S, S = g.s.toNat := ⟨_, rfl⟩
 rw [← hSS] at HS HR hS1 hS2
 try rw [← hSS]
 have H := Lib.hid h
 have C7 := Lib.hid h.c7
 have R := Lib.hid hr
 have HBe := Lib.hid hBe
 clear h hr hn hB hBe hSS
 go_enter Tryz.func109, Tryz.ntmps109
 go_wp2_with fail
 refine (made_yes p q _ _ _ C7.out).mono ?_
 rintro _ w1 ⟨rfl, h1⟩
 have B1 := Lib.hid h1
 have H1 := Lib.hid (H.out.below h1)
 clear h1
 go_wp2_with fail
 refine (block_yes p q _ S (k * S) k g _ H1.out.box H1.out.c7 HG.out HK.out HS.out rfl HR.out HR2.out).mono ?_
 rintro _ w2 h2
 obtain ⟨rfl, h2⟩ := h2
 have B2 := Lib.hid (below_step B1.out h2)
 have H2 := Lib.hid (H1.out.below h2)
 clear h2
 go_wp2_with fail
 refine (fits_any p g g.raw.toNat hN.out B n c _ H2.out.box).mono ?_
 rintro _ w3 ⟨rfl, h3⟩
 rw [FD.out]
 have B3 := Lib.hid (below_step B2.out h3)
 have H3 := Lib.hid (H2.out.below h3)
 have R3 := Lib.hid (R.out.below B3.out)
 clear h3
 go_wp2
 go_loopw [9, 29] (fun _ i wr => ∃ f : Nat, f ≤ S ∧ i = .int .i64 (f : Int) ∧ Hid (AR I wr p q r g ⟨sec (·.tear l) (k * S) f s.rows, s.er⟩) ∧ Hid (Btw (fun j => j = q) w3 wr)) (fun _ i _ => S - (intOf i).toNat)
 case atStart => exact ⟨0, Nat.zero_le _, rfl, Lib.hid (by rw [sec_zero]; exact H3.out), Lib.hid (Btw.refl w3)⟩
 case round =>
  obtain ⟨f, hf, rfl, HA, HB⟩ := hrel
  rename World => wr
  by_cases hlt : f < S
  ·
   have d1 : decide ((f : Int) < (S : Int)) = true := decide_eq_true (by omega)
   have i0 : (0 : Int) ≤ (f : Int) := by omega
   have i1 : (f : Int) < (S : Int) := by omega
   have hrow : k * S + f < (sec (·.tear l) (k * S) f s.rows).length := by
    have := HA.out.nr
    have := HR.out
    simp only at *
    omega
   obtain ⟨F, A, m, cm, hF, hF0, hF1, hF2, _, _⟩ := HA.out.row (List.getElem?_eq_getElem hrow)
   rw [Nat.add_mul] at hF0 hF1 hF2
   have F0 := Lib.hid hF
   have T0 := Lib.hid hF0
   have T1 := Lib.hid hF1
   have T2 := Lib.hid hF2
   have RR := Lib.hid (show R8 wr B n l by
    have h5 := R3.out
    rw [HBe.out] at h5 ⊢
    exact h5.btw HB.out HB0.out)
   have HROW := Lib.hid hrow
   clear hF hF0 hF1 hF2
   go_wp2_with fail
   refine (tear_any q (k * S * 3 + f * 3) F _ _ _ B n c l _ F0.out T0.out T1.out T2.out RR.out hn0 hn9).mono ?_
   rintro _ w4 hS
   rw [HN.out, ← Nat.add_mul] at hS
   obtain ⟨rfl, h4, b4⟩ := HA.out.torn3 (List.getElem?_eq_getElem HROW.out) hS
   have HA2 := Lib.hid (show AR I w4 p q r g ⟨sec (·.tear l) (k * S) (f + 1) s.rows, s.er⟩ by rw [sec_succ]; exact h4)
   have HB2 := Lib.hid (HB.out.trans b4 (fun _ _ h => h))
   clear hS h4 b4
   go_wp2
   go_roundw
   case rel => exact ⟨f + 1, by omega, by go_num, HA2, HB2⟩
   case measure => simp [intOf]; omega
  ·
   obtain rfl : f = S := by omega
   have d1 : decide ((f : Int) < (f : Int)) = false := decide_eq_false (by omega)
   have HB3 := Lib.hid ((Btw.of_below (I := fun j => j = q) B3.out).trans HB.out (fun _ _ h => h))
   go_wp2
   go_ret
   exact ⟨rfl, HA.out, HB3.out⟩
theorem crow_ne {w : World} {a b : Nat} {u u' : TypeId} {cs cs' : Array Value} (h : CRow w a u cs) (h' : CRow w b u' cs') (hu : u ≠ u') : a ≠ b := by
 rintro rfl
 have e := h.row.symm.trans h'.row
 injection e with e
 injection e with _ e
 exact hu e
theorem made_get (z : Array Value) (n j : Nat) (h : j < n) : (madeCells z n)[j]? = some z[j % z.size]! := by
 unfold madeCells
 rw [Array.getElem?_map, Array.getElem?_range, if_pos h]
 rfl
theorem info_row3 : ∃ i, Tryz.prog.info? 116 = some i ∧ i.zero = some (.agg #[.slice none 0 0, .int .i64 0, .bool false]) ∧ i.size = 3 ∧ i.bytes ≤ 64 := by
 have h : ((Tryz.prog.info? 116).map fun i => (i.zero, i.size, decide (i.bytes ≤ 64))) = some (some (.agg #[.slice none 0 0, .int .i64 0, .bool false]), 3, true) := by kernel_rfl
 rcases e : Tryz.prog.info? 116 with _ | i
 ·
  rw [e] at h; cases h
 ·
  rw [e] at h
  injection h with h
  injection h with h1 h
  injection h with h2 h3
  exact ⟨i, rfl, h1, h2, of_decide_eq_true h3⟩
theorem AR.init {w : World} {p q r : Nat} {g : Gm} {R B : Nat} (P : Nat) (ho : g.ok = true) (hl : g.raw ≤ 1000) (hB : g.b = (B : Int)) (hR : (g.b * g.s).toNat = R)
  (hcp : CRow w p 111 #[.int .i64 g.p, .int .i64 g.b, .int .i64 g.s, .int .i64 g.c, .int .i64 g.k, .int .i64 g.r, .int .i64 g.q, .slice (some ⟨q, 0, none⟩) R R, .slice (some ⟨r, 0, none⟩) B B])
  (hcq : CRow w q 116 (madeCells #[.slice none 0 0, .int .i64 0, .bool false] (R * 3))) (hcr : CRow w r 3 (madeCells #[.int .i64 0] B)) (h1 : p ≠ q) (h2 : p ≠ r) (h3 : q ≠ r) (X : Nat) (hX : X ≤ w.heap.size) :
  AR (fun j => j < X ∨ j = p ∨ j = q ∨ j = r) w p q r g ⟨newR g.raw.toNat R P [], List.replicate B 0⟩ where
 ok := ho
 low := hl
 ip := .inr (.inl rfl)
 iq := .inr (.inr (.inl rfl))
 ir := .inr (.inr (.inr rfl))
 pq := h1
 pr := h2
 qr := h3
 lt := by
  rintro j (h | rfl | rfl | rfl)
  ·
   omega
  ·
   exact hcp.lt
  ·
   exact hcq.lt
  ·
   exact hcr.lt
 blk := by rw [hR, show g.b.toNat = B by omega]; exact hcp
 rows := ⟨List.replicate R ⟨none, 0, 0, ersd g.raw.toNat⟩, by rw [newR_nil, List.map_replicate], (Cells.of_row hcq).sub (fun j v hv => by
   unfold rowF at hv
   rw [List.getElem?_replicate] at hv
   split at hv
   ·
    rename_i hj
    show (madeCells _ _)[j]? = _
    rw [made_get _ _ _ (by omega)]
    have h4 : j % 3 = 0 ∨ j % 3 = 1 ∨ j % 3 = 2 := by omega
    rcases h4 with h4 | h4 | h4 <;> (simp [Rc.cells, h4, ersd] at hv ⊢; exact hv)
   ·
    cases hv), fun x hx => by
  rw [(List.mem_replicate.1 hx).2]
  exact ⟨ersd_well _, .inl ⟨rfl, rfl, rfl, rfl⟩⟩⟩
 er := (Cells.of_row hcr).sub fun j v hv => by
  rw [List.getElem?_replicate] at hv
  split at hv
  ·
   rename_i hj
   show (madeCells _ _)[j]? = _
   rw [made_get _ _ _ hj]
   simpa [Nat.mod_one] using hv
  ·
   cases hv
 nr := by rw [newR_len, hR]
 ne := by rw [List.length_replicate]; omega
theorem GBox.btw6 {w w' : World} {n q : Nat} {g : Gm} (h : GBox w n g) (hb : Btw (fun j => j = q) w w') (hn : n ≠ q) : GBox w' n g := by
 obtain ⟨h0, h1, h2, h3, h4, h5, h6, h7⟩ := h
 have hc := fun j => World.cell?_of_block (a := ⟨n, j, none⟩) (hb.block n h0 hn)
 exact ⟨Nat.lt_of_lt_of_le h0 hb.size, (hc 0).trans h1, (hc 1).trans h2, (hc 2).trans h3, (hc 3).trans h4, (hc 4).trans h5, (hc 5).trans h6, (hc 6).trans h7⟩
theorem take_succ {α : Type} {l : List α} {f : Nat} {x : α} (h : l[f]? = some x) : l.take (f + 1) = l.take f ++ [x] := by
 rw [List.take_add_one, h]; rfl
def NewAD (lo gs : Nat) (g : Gm) (R B P : Nat) : Nat → Value → World → Prop
 | 0, v, _ => v = g.val
 | 1, v, _ => v = .pointer (some ⟨gs, 1, none⟩)
 | 2, v, _ => v = .int .i64 (B : Int)
 | 3, v, _ => v = .pointer (some ⟨gs, 2, none⟩)
 | 4, v, _ => v = .int .i64 (P : Int)
 | 5, v, _ => v = .int .i64 (R : Int)
 | 6, v, w => ∃ q, v = .slice (some ⟨q, 0, none⟩) R R ∧ lo ≤ q ∧ CRow w q 116 (madeCells #[.slice none 0 0, .int .i64 0, .bool false] (R * 3))
 | 7, v, _ => v = .pointer (some ⟨gs, 1, none⟩)
 | 8, v, _ => v = .int .i64 (B : Int)
 | 9, v, w => ∃ r, v = .slice (some ⟨r, 0, none⟩) B B ∧ lo ≤ r ∧ CRow w r 3 (madeCells #[.int .i64 0] B)
 | 10, v, w => ∃ q r, v = .agg #[.int .i64 g.p, .int .i64 g.b, .int .i64 g.s, .int .i64 g.c, .int .i64 g.k, .int .i64 g.r, .int .i64 g.q, .slice (some ⟨q, 0, none⟩) R R, .slice (some ⟨r, 0, none⟩) B B] ∧ CRow w q 116 (madeCells #[.slice none 0 0, .int .i64 0, .bool false] (R * 3)) ∧ CRow w r 3 (madeCells #[.int .i64 0] B) ∧ lo ≤ q ∧ lo ≤ r
 | 11, v, w => ∃ p q r, v = .pointer (some ⟨p, 0, none⟩) ∧ CRow w p 111 #[.int .i64 g.p, .int .i64 g.b, .int .i64 g.s, .int .i64 g.c, .int .i64 g.k, .int .i64 g.r, .int .i64 g.q, .slice (some ⟨q, 0, none⟩) R R, .slice (some ⟨r, 0, none⟩) B B] ∧ CRow w q 116 (madeCells #[.slice none 0 0, .int .i64 0, .bool false] (R * 3)) ∧ CRow w r 3 (madeCells #[.int .i64 0] B) ∧ lo ≤ p ∧ lo ≤ q ∧ lo ≤ r
 | 12, v, w => ∃ p q r, v = .pointer (some ⟨p, 0, none⟩) ∧ CRow w p 111 #[.int .i64 g.p, .int .i64 g.b, .int .i64 g.s, .int .i64 g.c, .int .i64 g.k, .int .i64 g.r, .int .i64 g.q, .slice (some ⟨q, 0, none⟩) R R, .slice (some ⟨r, 0, none⟩) B B] ∧ CRow w q 116 (madeCells #[.slice none 0 0, .int .i64 0, .bool false] (R * 3)) ∧ CRow w r 3 (madeCells #[.int .i64 0] B) ∧ lo ≤ p ∧ lo ≤ q ∧ lo ≤ r
 | _, _, _ => True
theorem NewAD_below (lo gs : Nat) (g : Gm) (R B P : Nat) : ∀ i v w w', NewAD lo gs g R B P i v w → Below w.heap.size w w' → NewAD lo gs g R B P i v w' := by
 intro i v w w' h hb
 match i, h with
 | 0, h => exact h
 | 1, h => exact h
 | 2, h => exact h
 | 3, h => exact h
 | 4, h => exact h
 | 5, h => exact h
 | 6, h => obtain ⟨q, e, h1, h2⟩ := h; exact ⟨q, e, h1, h2.below hb⟩
 | 7, h => exact h
 | 8, h => exact h
 | 9, h => obtain ⟨q, e, h1, h2⟩ := h; exact ⟨q, e, h1, h2.below hb⟩
 | 10, h => obtain ⟨q, r, e, h1, h2, h3⟩ := h; exact ⟨q, r, e, h1.below hb, h2.below hb, h3⟩
 | 11, h => obtain ⟨p, q, r, e, h1, h2, h3, h4⟩ := h; exact ⟨p, q, r, e, h1.below hb, h2.below hb, h3.below hb, h4⟩
 | 12, h => obtain ⟨p, q, r, e, h1, h2, h3, h4⟩ := h; exact ⟨p, q, r, e, h1.below hb, h2.below hb, h3.below hb, h4⟩
 | _ + 13, _ => trivial
set_option maxHeartbeats 4000000 in
theorem NewW_any (g : Gm) (A : Option Addr) (n c : Nat) (ms : List Int) (w : World) (ho : g.ok = true) (hlow : g.raw ≤ 1000) (hms : R64 w A n ms) (hn : n ≤ 1099511627776) :
  Calls Tryz.prog 20 #[g.val, .slice A n c] w fun e w' =>
   ((∀ x ∈ ms, 0 ≤ x ∧ x < (g.b.toNat : Int)) ∧ ∃ p q r, e = .returned (.tuple #[.pointer (some ⟨p, 0, none⟩), .int .i64 0]) ∧ AR (fun j => j < w.heap.size ∨ j = p ∨ j = q ∨ j = r) w' p q r g (St.new g.raw.toNat (g.b * g.s).toNat g.s.toNat g.b.toNat ms) ∧ Below w.heap.size w w' ∧ w.heap.size ≤ p ∧ w.heap.size ≤ q ∧ w.heap.size ≤ r) ∨
   ((¬ ∀ x ∈ ms, 0 ≤ x ∧ x < (g.b.toNat : Int)) ∧ e = .returned (.tuple #[.pointer none, .int .i64 2]) ∧ Below w.heap.size w w') := by
 have hbd := Gm.bounds_of ho
 have hraw : g.raw = g.c * (g.k + 2) + 31 := by unfold Gm.raw; rw [if_pos ho]
 have hck : 0 ≤ g.c * (g.k + 2) := Int.mul_nonneg (by omega) (by omega)
 obtain ⟨N, hNN⟩ : ∃ N, N = g.raw.toNat := ⟨_, rfl⟩
 obtain ⟨B, hBB⟩ : ∃ B, B = g.b.toNat := ⟨_, rfl⟩
 obtain ⟨P, hPP⟩ : ∃ P, P = g.s.toNat := ⟨_, rfl⟩
 obtain ⟨R, hRR⟩ : ∃ R, R = (g.b * g.s).toNat := ⟨_, rfl⟩
 have HB0 := Lib.hid (show g.b = (B : Int) by omega)
 have HP0 := Lib.hid (show g.s = (P : Int) by omega)
 have HN := Lib.hid (show g.raw = (N : Int) by omega)
 have hN2 := Lib.hid hNN.symm
 have HR0 := Lib.hid hRR.symm
 have HRB := Lib.hid (show R = B * P by
  have e : g.b * g.s = ((B * P : Nat) : Int) := by rw [HB0.out, HP0.out]; push_cast; rfl
  rw [hRR, e, Int.toNat_natCast])
 have hB1 : 2 ≤ B ∧ B ≤ 256 := by omega
 have hP1 : 4 ≤ P ∧ P ≤ 64 := by omega
 have hN0 : 0 < N := by omega
 have hN3 : N ≤ 1000 := by omega
 have hR6 : R ≤ 1000000 := by
  have h1 : B * P ≤ 256 * 64 := Nat.mul_le_mul hB1.2 hP1.2
  have := HRB.out
  omega
 have HR6 := Lib.hid hR6
 have HW5 := Lib.hid (show IntKind.i64.wrap ((B : Int) * (P : Int)) = (R : Int) by
  have e : ((B : Int) * (P : Int)) = (R : Int) := by rw [HRB.out]; push_cast; rfl
  rw [e]
  exact IntWalk.i64_in _ (by omega))
 have HOK := Lib.hid ho
 have HLOW := Lib.hid hlow
 have HC := Lib.hid (fun w' => Check_yes g ho w')
 obtain ⟨iR, hiR, hzR, hsR, hbR⟩ := info_row3
 obtain ⟨iI, hiI, hzI0, hzI1, hzI2⟩ := info_parts info_int
 have hmkR := Lib.hid (fun w' : World => by
  have h := run_make (P := Tryz.prog) w' 109 116 iR _ Tryz.underlying109 hiR hzR .i64 .i64 (R : Int) (R : Int) (by omega) (Int.le_refl _) (by
   have h1 : (iR.bytes : Int) * (R : Int) ≤ 64 * 1000000 := (mul_le (by omega) (by omega) (by omega) (by omega)).2
   omega) (by omega)
  rw [hsR, Int.toNat_natCast, show (Value.agg #[.slice none 0 0, .int .i64 0, .bool false]).cells = #[.slice none 0 0, .int .i64 0, .bool false] from rfl] at h
  exact h)
 have hmkB := Lib.hid (fun w' : World => by
  have h := run_make (P := Tryz.prog) w' 24 3 iI (.int .i64 0) Tryz.underlying24 hiI hzI0 .i64 .i64 (B : Int) (B : Int) (by omega) (Int.le_refl _) (by rw [hzI2]; omega) (by omega)
  rw [hzI1, Int.toNat_natCast, Nat.mul_one, show (Value.int .i64 0).cells = #[.int .i64 0] from rfl] at h
  exact h)
 have AM := Lib.hid hms
 rw [← hNN, ← hBB, ← hPP, ← hRR]
 clear ho hlow hbd hraw hck hNN hBB hPP hRR hiR hzR hsR hbR hiI hzI0 hzI1 hzI2 hms hR6
 obtain ⟨p0, b, sz, gc, k, rr, u⟩ := g
 simp only [Gm.val] at HC ⊢
 have Y0 := Lib.hid (GBox.new w ⟨p0, b, sz, gc, k, rr, u⟩ 23)
 have B0 := Lib.hid (below_new w (.cells #[.int .i64 p0, .int .i64 b, .int .i64 sz, .int .i64 gc, .int .i64 k, .int .i64 rr, .int .i64 u] 23))
 go_enter Tryz.func20, Tryz.ntmps20
 obtain ⟨_, g0, g1, g2, g3, g4, g5, g6⟩ := Y0.out
 simp only at g0 g1 g2 g3 g4 g5 g6
 go_wp2_with fail
 clear g0 g1 g2 g3 g4 g5 g6
 refine (HC.out _).mono ?_
 rintro _ w2 ⟨rfl, h1⟩
 have Y2 := Lib.hid (Y0.out.below h1)
 have B1 := Lib.hid (below_step B0.out h1)
 have A2 := Lib.hid (AM.out.below B1.out)
 have L2 : Hid (w.heap.size + 1 ≤ w2.heap.size) := Lib.hid Y2.out.1
 clear h1
 go_wp2
 refine wp_region_inv (by kernel_rfl) [some 14, some 15, some 16, some 17, some 18, some 19, some 20, some 21, some 22, some 23, some 24, some 25, some 6] (by kernel_rfl) (by kernel_rfl) (by kernel_rfl) (NewAD (w.heap.size + 1) (w.heap.size) ((⟨p0, b, sz, gc, k, rr, u⟩ : Gm)) (R) (B) (P)) (NewAD_below (w.heap.size + 1) (w.heap.size) ((⟨p0, b, sz, gc, k, rr, u⟩ : Gm)) (R) (B) (P)) ?_ ?_
 ·
  intro i o f w' ho hbw hdep K hK
  match i, ho, hdep, hK with
  | 0, ho, hdep, hK =>
   obtain rfl : { dst := some 14, op := Op.load 23 (Operand.tmp 2), type := 23, pos := "array.go:41", after := #[], guard := none } = o := Option.some.inj ho
   rw [if_pos (by rfl)]
   simp only [frFrom, Act.put, Nat.reduceAdd, List.setIfInBounds_toArray, List.set_cons_zero, List.set_cons_succ] at hK ⊢
   clear hdep ho
   obtain ⟨_, y0, y1, y2, y3, y4, y5, y6⟩ := Y2.out.below hbw
   simp only at y0 y1 y2 y3 y4 y5 y6
   go_simp
   exact hK.out _ _ rfl (Below.refl _ _)
  | 1, ho, hdep, hK =>
   obtain rfl : { dst := some 15, op := Op.fieldAddr 23 (Operand.tmp 2) 1, type := 0, pos := "array.go:41", after := #[], guard := none } = o := Option.some.inj ho
   rw [if_pos (by rfl)]
   simp only [frFrom, Act.put, Nat.reduceAdd, List.setIfInBounds_toArray, List.set_cons_zero, List.set_cons_succ] at hK ⊢
   clear hdep ho
   go_simp
   exact hK.out _ _ rfl (Below.refl _ _)
  | 2, ho, hdep, hK =>
   obtain rfl : { dst := some 16, op := Op.load 3 (Operand.tmp 15), type := 3, pos := "array.go:41", after := #[{ on := 1, ground := Ground.data }], guard := none } = o := Option.some.inj ho
   have d1 := (show NewAD (w.heap.size + 1) (w.heap.size) ((⟨p0, b, sz, gc, k, rr, u⟩ : Gm)) (R) (B) (P) 1 (f 1) w' from hdep ⟨1, .data⟩ (by simp) rfl)
   simp only [NewAD] at d1
   rw [if_pos (by rfl)]
   simp only [frFrom, Act.put, Nat.reduceAdd, List.setIfInBounds_toArray, List.set_cons_zero, List.set_cons_succ, d1] at hK ⊢
   clear hdep ho d1
   obtain ⟨_, y0, y1, y2, y3, y4, y5, y6⟩ := Y2.out.below hbw
   simp only at y0 y1 y2 y3 y4 y5 y6
   have e1 := HB0.out
   try simp only at e1
   rw [e1] at y1
   clear e1
   go_simp
   exact hK.out _ _ rfl (Below.refl _ _)
  | 3, ho, hdep, hK =>
   obtain rfl : { dst := some 17, op := Op.fieldAddr 23 (Operand.tmp 2) 2, type := 0, pos := "array.go:41", after := #[], guard := none } = o := Option.some.inj ho
   rw [if_pos (by rfl)]
   simp only [frFrom, Act.put, Nat.reduceAdd, List.setIfInBounds_toArray, List.set_cons_zero, List.set_cons_succ] at hK ⊢
   clear hdep ho
   go_simp
   exact hK.out _ _ rfl (Below.refl _ _)
  | 4, ho, hdep, hK =>
   obtain rfl : { dst := some 18, op := Op.load 3 (Operand.tmp 17), type := 3, pos := "array.go:41", after := #[{ on := 3, ground := Ground.data }], guard := none } = o := Option.some.inj ho
   have d3 := (show NewAD (w.heap.size + 1) (w.heap.size) ((⟨p0, b, sz, gc, k, rr, u⟩ : Gm)) (R) (B) (P) 3 (f 3) w' from hdep ⟨3, .data⟩ (by simp) rfl)
   simp only [NewAD] at d3
   rw [if_pos (by rfl)]
   simp only [frFrom, Act.put, Nat.reduceAdd, List.setIfInBounds_toArray, List.set_cons_zero, List.set_cons_succ, d3] at hK ⊢
   clear hdep ho d3
   obtain ⟨_, y0, y1, y2, y3, y4, y5, y6⟩ := Y2.out.below hbw
   simp only at y0 y1 y2 y3 y4 y5 y6
   have e1 := HP0.out
   try simp only at e1
   rw [e1] at y2
   clear e1
   go_simp
   exact hK.out _ _ rfl (Below.refl _ _)
  | 5, ho, hdep, hK =>
   obtain rfl : { dst := some 19, op := Op.binOp BinOp.mul 3 (Operand.tmp 16) (Operand.tmp 18) 3, type := 3, pos := "array.go:41", after := #[{ on := 2, ground := Ground.data }, { on := 4, ground := Ground.data }], guard := none } = o := Option.some.inj ho
   have d2 := (show NewAD (w.heap.size + 1) (w.heap.size) ((⟨p0, b, sz, gc, k, rr, u⟩ : Gm)) (R) (B) (P) 2 (f 2) w' from hdep ⟨2, .data⟩ (by simp) rfl)
   simp only [NewAD] at d2
   have d4 := (show NewAD (w.heap.size + 1) (w.heap.size) ((⟨p0, b, sz, gc, k, rr, u⟩ : Gm)) (R) (B) (P) 4 (f 4) w' from hdep ⟨4, .data⟩ (by simp) rfl)
   simp only [NewAD] at d4
   rw [if_pos (by rfl)]
   simp only [frFrom, Act.put, Nat.reduceAdd, List.setIfInBounds_toArray, List.set_cons_zero, List.set_cons_succ, d2, d4] at hK ⊢
   clear hdep ho d2 d4
   have q5 : IntKind.i64.wrap ((B : Int) * (P : Int)) = (R : Int) := HW5.out
   go_simp
   exact hK.out _ _ rfl (Below.refl _ _)
  | 6, ho, hdep, hK =>
   obtain rfl : { dst := some 20, op := Op.makeSlice 109 (Operand.tmp 19) (Operand.tmp 19), type := 109, pos := "array.go:41", after := #[{ on := 5, ground := Ground.data }, { on := 5, ground := Ground.data }], guard := none } = o := Option.some.inj ho
   have d5 := (show NewAD (w.heap.size + 1) (w.heap.size) ((⟨p0, b, sz, gc, k, rr, u⟩ : Gm)) (R) (B) (P) 5 (f 5) w' from hdep ⟨5, .data⟩ (by simp) rfl)
   simp only [NewAD] at d5
   rw [if_pos (by rfl)]
   simp only [frFrom, Act.put, Nat.reduceAdd, List.setIfInBounds_toArray, List.set_cons_zero, List.set_cons_succ, d5] at hK ⊢
   clear hdep ho d5
   have hmk := hmkR.out w'
   go_simp
   exact hK.out _ _ ⟨w'.heap.size, rfl, Nat.le_trans L2.out hbw.size, CRow.new w' _ _⟩ (below_new _ _)
  | 7, ho, hdep, hK =>
   obtain rfl : { dst := some 21, op := Op.fieldAddr 23 (Operand.tmp 2) 1, type := 0, pos := "array.go:41", after := #[], guard := none } = o := Option.some.inj ho
   rw [if_pos (by rfl)]
   simp only [frFrom, Act.put, Nat.reduceAdd, List.setIfInBounds_toArray, List.set_cons_zero, List.set_cons_succ] at hK ⊢
   clear hdep ho
   go_simp
   exact hK.out _ _ rfl (Below.refl _ _)
  | 8, ho, hdep, hK =>
   obtain rfl : { dst := some 22, op := Op.load 3 (Operand.tmp 21), type := 3, pos := "array.go:41", after := #[{ on := 7, ground := Ground.data }], guard := none } = o := Option.some.inj ho
   have d7 := (show NewAD (w.heap.size + 1) (w.heap.size) ((⟨p0, b, sz, gc, k, rr, u⟩ : Gm)) (R) (B) (P) 7 (f 7) w' from hdep ⟨7, .data⟩ (by simp) rfl)
   simp only [NewAD] at d7
   rw [if_pos (by rfl)]
   simp only [frFrom, Act.put, Nat.reduceAdd, List.setIfInBounds_toArray, List.set_cons_zero, List.set_cons_succ, d7] at hK ⊢
   clear hdep ho d7
   obtain ⟨_, y0, y1, y2, y3, y4, y5, y6⟩ := Y2.out.below hbw
   simp only at y0 y1 y2 y3 y4 y5 y6
   have e1 := HB0.out
   try simp only at e1
   rw [e1] at y1
   clear e1
   go_simp
   exact hK.out _ _ rfl (Below.refl _ _)
  | 9, ho, hdep, hK =>
   obtain rfl : { dst := some 23, op := Op.makeSlice 24 (Operand.tmp 22) (Operand.tmp 22), type := 24, pos := "array.go:41", after := #[{ on := 8, ground := Ground.data }, { on := 8, ground := Ground.data }], guard := none } = o := Option.some.inj ho
   have d8 := (show NewAD (w.heap.size + 1) (w.heap.size) ((⟨p0, b, sz, gc, k, rr, u⟩ : Gm)) (R) (B) (P) 8 (f 8) w' from hdep ⟨8, .data⟩ (by simp) rfl)
   simp only [NewAD] at d8
   rw [if_pos (by rfl)]
   simp only [frFrom, Act.put, Nat.reduceAdd, List.setIfInBounds_toArray, List.set_cons_zero, List.set_cons_succ, d8] at hK ⊢
   clear hdep ho d8
   have hmk := hmkB.out w'
   go_simp
   exact hK.out _ _ ⟨w'.heap.size, rfl, Nat.le_trans L2.out hbw.size, CRow.new w' _ _⟩ (below_new _ _)
  | 10, ho, hdep, hK =>
   obtain rfl : { dst := some 24, op := Op.build 111 #[(0, Operand.tmp 14), (1, Operand.tmp 20), (2, Operand.tmp 23)], type := 111, pos := "array.go:41", after := #[{ on := 0, ground := Ground.data }, { on := 6, ground := Ground.data }, { on := 9, ground := Ground.data }], guard := none } = o := Option.some.inj ho
   have d0 := (show NewAD (w.heap.size + 1) (w.heap.size) ((⟨p0, b, sz, gc, k, rr, u⟩ : Gm)) (R) (B) (P) 0 (f 0) w' from hdep ⟨0, .data⟩ (by simp) rfl)
   simp only [NewAD] at d0
   obtain ⟨q, d6, hq, hcq⟩ := (show NewAD (w.heap.size + 1) (w.heap.size) ((⟨p0, b, sz, gc, k, rr, u⟩ : Gm)) (R) (B) (P) 6 (f 6) w' from hdep ⟨6, .data⟩ (by simp) rfl)
   obtain ⟨r, d9, hr, hcr⟩ := (show NewAD (w.heap.size + 1) (w.heap.size) ((⟨p0, b, sz, gc, k, rr, u⟩ : Gm)) (R) (B) (P) 9 (f 9) w' from hdep ⟨9, .data⟩ (by simp) rfl)
   rw [if_pos (by rfl)]
   simp only [frFrom, Act.put, Nat.reduceAdd, List.setIfInBounds_toArray, List.set_cons_zero, List.set_cons_succ, d0, d6, d9] at hK ⊢
   clear hdep ho d0 d6 d9
   simp only [Gm.val] at hK ⊢
   go_simp
   exact hK.out _ _ ⟨q, r, rfl, hcq, hcr, hq, hr⟩ (Below.refl _ _)
  | 11, ho, hdep, hK =>
   obtain rfl : { dst := some 25, op := Op.box 111 (Operand.tmp 24), type := 57, pos := "array.go:41", after := #[{ on := 10, ground := Ground.data }], guard := none } = o := Option.some.inj ho
   obtain ⟨q, r, d10, hcq, hcr, hq, hr⟩ := (show NewAD (w.heap.size + 1) (w.heap.size) ((⟨p0, b, sz, gc, k, rr, u⟩ : Gm)) (R) (B) (P) 10 (f 10) w' from hdep ⟨10, .data⟩ (by simp) rfl)
   rw [if_pos (by rfl)]
   simp only [frFrom, Act.put, Nat.reduceAdd, List.setIfInBounds_toArray, List.set_cons_zero, List.set_cons_succ, d10] at hK ⊢
   clear hdep ho d10
   go_simp
   exact hK.out _ _ ⟨w'.heap.size, q, r, rfl, CRow.new w' _ _, hcq.below (below_new _ _), hcr.below (below_new _ _), Nat.le_trans L2.out hbw.size, hq, hr⟩ (below_new _ _)
  | 12, ho, hdep, hK =>
   obtain rfl : { dst := some 6, op := Op.assign (Operand.tmp 25), type := 57, pos := "array.go:41", after := #[{ on := 11, ground := Ground.data }, { on := 0, ground := Ground.phase }, { on := 1, ground := Ground.phase }, { on := 2, ground := Ground.phase }, { on := 3, ground := Ground.phase }, { on := 4, ground := Ground.phase }, { on := 5, ground := Ground.phase }, { on := 6, ground := Ground.phase }, { on := 7, ground := Ground.phase }, { on := 8, ground := Ground.phase }, { on := 9, ground := Ground.phase }, { on := 10, ground := Ground.phase }, { on := 11, ground := Ground.phase }], guard := none } = o := Option.some.inj ho
   obtain ⟨p, q, r, d11, hcp, hcq, hcr, hp, hq, hr⟩ := (show NewAD (w.heap.size + 1) (w.heap.size) ((⟨p0, b, sz, gc, k, rr, u⟩ : Gm)) (R) (B) (P) 11 (f 11) w' from hdep ⟨11, .data⟩ (by simp) rfl)
   rw [if_pos (by rfl)]
   simp only [frFrom, Act.put, Nat.reduceAdd, List.setIfInBounds_toArray, List.set_cons_zero, List.set_cons_succ, d11] at hK ⊢
   clear hdep ho d11
   go_simp
   exact hK.out _ _ ⟨p, q, r, rfl, hcp, hcq, hcr, hp, hq, hr⟩ (Below.refl _ _)
  | _ + 13, ho, _, _ => simp at ho
 ·
  intro f w' hbw hall
  simp only [frFrom, Act.put, Nat.reduceAdd, List.setIfInBounds_toArray, List.set_cons_zero, List.set_cons_succ]
  obtain ⟨p, q, r, d12, hcp, hcq, hcr, hp, hq, hr⟩ := (show NewAD (w.heap.size + 1) (w.heap.size) (⟨p0, b, sz, gc, k, rr, u⟩ : Gm) R B P 12 (f 12) w' from hall 12 (by simp))
  rw [d12]
  clear hall d12
  rename World => w3
  have hpq := crow_ne hcp hcq (by decide)
  have hpr := crow_ne hcp hcr (by decide)
  have hqr := crow_ne hcq hcr (by decide)
  have H3 := Lib.hid (AR.init (g := ⟨p0, b, sz, gc, k, rr, u⟩) P HOK.out HLOW.out HB0.out HR0.out hcp hcq hcr hpq hpr hqr w.heap.size (Nat.le_trans B1.out.size hbw.size))
  have B3 := Lib.hid (below_step B1.out hbw)
  have Y3 := Lib.hid (Y2.out.below hbw)
  clear hcp hcq hcr hbw hmkR hmkB
  go_wp2
  go_loopw [8, 9, 10, 28] (fun _ _ _ i wr => ∃ f : Nat, f ≤ n ∧ i = .int .i64 (f : Int) ∧ Hid (∀ x ∈ ms.take f, 0 ≤ x ∧ x < (B : Int)) ∧ Hid (AR (fun j => j < w.heap.size ∨ j = p ∨ j = q ∨ j = r) wr p q r ⟨p0, b, sz, gc, k, rr, u⟩ ⟨newR N R P (ms.take f), List.replicate B 0⟩) ∧ Hid (GBox wr w.heap.size ⟨p0, b, sz, gc, k, rr, u⟩) ∧ Hid (Below w.heap.size w wr)) (fun _ _ _ i _ => n - (intOf i).toNat)
  case atStart => exact ⟨0, Nat.zero_le _, rfl, Lib.hid (by simp), Lib.hid (by rw [List.take_zero]; exact hN2.out ▸ H3.out), Y3, B3⟩
  case round =>
   obtain ⟨f, hf, rfl, HGd, HA, HY4, HBl⟩ := hrel
   rename World => wr
   by_cases hlt : f < n
   ·
    obtain ⟨b9, o9, x, rfl, hb9, HX, hx1, hx2, hx3⟩ := (AM.out.below HBl.out).at_ hlt
    have i0 : (0 : Int) ≤ (f : Int) := by omega
    have i1 : (f : Int) < (n : Int) := by omega
    have HT' := take_succ HX.out
    clear HX
    by_cases hx : 0 ≤ x ∧ x < (B : Int)
    ·
     obtain ⟨m, rfl⟩ : ∃ m : Nat, x = (m : Int) := ⟨x.toNat, by omega⟩
     have hm : m < B := by omega
     have HT := Lib.hid HT'
     have HG2 := Lib.hid (show ∀ x ∈ ms.take (f + 1), 0 ≤ x ∧ x < (B : Int) by
      rw [HT']
      intro x hx
      rcases List.mem_append.1 hx with h1 | h1
      ·
       exact HGd.out x h1
      ·
       rw [List.mem_singleton.1 h1]; omega)
     have hfit := Nat.mul_le_mul_right P (show m + 1 ≤ B from hm)
     rw [Nat.succ_mul, ← HRB.out] at hfit
     have HBy := Lib.hid (fun w' h1 h2 => block_yes p q R P (m * P) m ⟨p0, b, sz, gc, k, rr, u⟩ w' h1 h2 HOK.out (by have := HB0.out; simp only at *; omega) HP0.out rfl hfit HR6.out)
     clear hx HT' hm
     go_wp2_with fail
     refine (HBy.out _ HA.out.box (HR0.out ▸ HA.out.c7)).mono ?_
     rintro _ w5 h5
     obtain ⟨rfl, h5⟩ := h5
     have H5 := Lib.hid (HA.out.below h5)
     have Y5 := Lib.hid (HY4.out.below h5)
     have B5 := Lib.hid (below_step HBl.out h5)
     clear h5 HBy
     obtain ⟨y, hy⟩ : ∃ y, (newR N R P (ms.take f))[m * P]? = some y := ⟨_, newR_get _ _ _ _ _ (by omega)⟩
     obtain ⟨F, A9, m9, c9, hF, hF0, _⟩ := H5.out.row hy
     have F0 := Lib.hid hF
     have T0 := Lib.hid hF0
     have HY := Lib.hid hy
     have hP0 : 0 < P := by omega
     clear hF hF0 hy hfit
     go_wp2
     refine wp_region_noPanic ?_
     refine wp_region_held_drew (S := fun w' => GBox w' (w.heap.size) ⟨p0, b, sz, gc, k, rr, u⟩) (by kernel_rfl) (Y5.out.below ((Below.refl _ _).drew)) (fun C0 => ?_)
     refine tkH4 0 C0 ?_
     refine tkH4 1 C0 ?_
     refine tkH4 2 C0 ?_
     refine tkH4 3 C0 ?_ (hy := fun W' hSw => by have hS9 := hSw; obtain ⟨_, y0, y1, y2, y3, y4, y5, y6⟩ := hS9; simp only at y0 y1 y2 y3 y4 y5 y6; clear hSw; go_simp <;> with_reducible rfl)
     refine wpAnyH_ready (rs := [4]) (by kernel_rfl) (by simp) ?_
     refine AllReadyH.cons (o := { dst := some 44, op := Op.call { callee := Callee.value (Operand.func 44), args := #[Operand.tmp 42, Operand.tmp 43], argTypes := #[114, 23] }, type := 0, pos := "array.go:47", after := #[{ on := 2, ground := Ground.data }, { on := 3, ground := Ground.data }], guard := none }) rfl (fun K hK => ?_) AllReadyH.nil
     go_simp
     refine (mark_any q (m * P * 3) F _ ⟨p0, b, sz, gc, k, rr, u⟩ N HN.out hN0 (by omega) _ (F0.out.below ((Below.refl _ _).drew)) T0.out).mono ?_
     rintro _ w6 hS
     obtain ⟨rfl, h6, b6⟩ := (H5.out.below ((Below.refl _ _).drew)).stored HY.out (hN2.out ▸ hS)
     have H6 := Lib.hid (show AR (fun j => j < w.heap.size ∨ j = p ∨ j = q ∨ j = r) w6 p q r ⟨p0, b, sz, gc, k, rr, u⟩ ⟨newR N R P (ms.take (f + 1)), List.replicate B 0⟩ by
      rw [HT.out, newR_snoc N R P _ m (fun y => ⟨mrk N, y.n, y.t⟩) rfl rfl, sec_one HY.out]
      have h7 := h6
      rw [hN2.out] at h7
      exact h7)
     have Y6 := Lib.hid ((Y5.out.below ((Below.refl _ _).drew)).btw6 b6 (by omega))
     have B6 := Lib.hid ((B5.out.drew).trans (b6.below (fun j e => by subst e; omega) B5.out.drew.size))
     clear hS h6 b6
     go_wp2_with fail
     refine hK.out _ _ Y6.out (fun C1 => ?_)
     clear hK K
     try simp only [Act.put, zzI, zzO, zzS]
     refine wpAnyH_done (by kernel_rfl) ?_ _
     refine NoPanic.normal ?_
     go_wp2
     go_roundw
     case rel => exact ⟨f + 1, by omega, by go_num, HG2, H6, Y6, B6⟩
     case measure => simp [intOf]; omega
    ·
     have HBn := Lib.hid (fun w' h1 h2 => block_no p q R R ⟨p0, b, sz, gc, k, rr, u⟩ x w' h1 h2 (by have := HP0.out; simp only at *; omega) (by have := HB0.out; simp only at *; rw [this]; exact hx))
     have HBad := Lib.hid (show ¬ ∀ x ∈ ms, 0 ≤ x ∧ x < (B : Int) from fun h => hx (h x (List.mem_of_mem_take (by rw [HT']; simp))))
     clear hx HT'
     go_wp2_with fail
     refine (HBn.out _ HA.out.box (HR0.out ▸ HA.out.c7)).mono ?_
     rintro _ w5 h5
     obtain ⟨rfl, h5⟩ := h5
     have B5 := Lib.hid (below_step HBl.out h5)
     clear h5 HBn
     go_wp2
     go_ret2
     exact .inr ⟨HBad.out, rfl, B5.out⟩
   ·
    obtain rfl : f = n := by omega
    have d1 : decide ((f : Int) < (f : Int)) = false := decide_eq_false (by omega)
    have e := AM.out.len
    go_wp2
    go_ret2
    exact .inl ⟨by have := HGd.out; rw [List.take_of_length_le (by omega)] at this; exact this, p, q, r, rfl, by have := HA.out; rw [List.take_of_length_le (by omega)] at this; exact this, HBl.out, by omega, by omega, by omega⟩
theorem AR.narrow {I I' : Nat → Prop} {w : World} {p q r : Nat} {g : Gm} {s : St} (h : AR I w p q r g s) (h1 : ∀ j, I' j → I j) (h2 : I' p) (h3 : I' q) (h4 : I' r) : AR I' w p q r g s := by
 obtain ⟨l, e1, e2, e3⟩ := h.rows
 exact { h with
  ip := h2
  iq := h3
  ir := h4
  lt := fun j hj => h.lt j (h1 j hj)
  rows := ⟨l, e1, e2, fun x hx => by
   obtain ⟨hw, h4 | ⟨b, off, ha, hi, hm, hc, hr⟩⟩ := e3 x hx
   ·
    exact ⟨hw, .inl h4⟩
   ·
    exact ⟨hw, .inr ⟨b, off, ha, fun h5 => hi (h1 b h5), hm, hc, hr⟩⟩⟩ }
end Go.Proofs.YtmbgoopkpfhamaaGreat
