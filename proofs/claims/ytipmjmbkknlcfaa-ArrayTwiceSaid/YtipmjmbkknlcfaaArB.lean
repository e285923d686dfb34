/-
  Contracts of what is done to a row's bytes (put, turn, mark, raw) and of tear, over the landed code.
-/
import Derived.Test.YtipmjmbkknlcfaaArMem
import Derived.Test.YtipmjmbkknlcfaaBitsAnd
import Derived.Test.YtipmjmbkknlcfaaBClone
import Derived.Test.YtipmjmbkknlcfaaErased
namespace Go.Proofs.Ytipmjmbkknlcfaa
open Go.RowKit
set_option maxRecDepth 100000

/-- Bytes r of one's own, n of them, have been stored at the cell o of q. -/
def Stored (q o n : Nat) (r : List Nat) (w : World) (e : Ending) (w' : World) : Prop :=
  ∃ w1 g c, e = .returned (.tuple #[]) ∧ w' = w1.setCell ⟨q, o, none⟩ (.slice (some ⟨g, 0, none⟩) n c) ∧ Below w.heap.size w w1 ∧ w.heap.size ≤ g ∧ R8 w1 (some ⟨g, 0, none⟩) n r ∧ n ≤ c
theorem own_head {w : World} {base : Nat} {e0 : TypeId} {A : Option Addr} {n c : Nat} {l : List Nat} (h : w.ownsRow base e0 1 (.slice A n c) n (U8 l)) (hn : 0 < n) (hl : ∀ x ∈ l, x < 256) : ∃ g, A = some ⟨g, 0, none⟩ ∧ base ≤ g ∧ n ≤ c ∧ R8 w (some ⟨g, 0, none⟩) n l := by
  obtain ⟨g, rfl, hb, hc, _⟩ := Cells.own h hn
  exact ⟨g, rfl, hb, hc, R8.own h hl⟩

set_option maxHeartbeats 1000000 in
theorem put_any (q o : Nat) (F : Nat → Option Value) (v0 : Value) (B : Option Addr) (n c : Nat) (r : List Nat) (w : World) (h : Cells w q 64 F) (h0 : F o = some v0) (hr : R8 w B n r) (hn : 0 < n) (hn2 : n ≤ 1099511627776) :
    Calls Try.prog 52 #[.pointer (some ⟨q, o, none⟩), .slice B n c] w (Stored q o n r w) := by
  have H := Lib.hid h
  have R := Lib.hid hr
  clear h hr
  go_enter Try.func52, Try.ntmps52
  go_wp2_with fail
  refine (BClone_any B n c r _ R.out hn2).mono ?_
  rintro _ w1 ⟨A, c1, rfl, ho, hb⟩
  have hl := R.out.len
  rw [hl] at ho ⊢
  obtain ⟨g, rfl, hg, hc, hr1⟩ := own_head ho hn R.out.2
  have B1 := Lib.hid hb
  have R1 := Lib.hid hr1
  have x0 := (H.out.below hb).cell h0
  have f0 := (H.out.below hb).frozen o
  clear ho hb hr1 hl
  go_wp2
  go_end0
  exact ⟨w1, g, c1, rfl, rfl, B1.out, hg, R1.out, hc⟩
set_option maxHeartbeats 1000000 in
theorem turn_any (q o : Nat) (F : Nat → Option Value) (A : Option Addr) (m cm : Nat) (l : List Nat) (B : Option Addr) (n c : Nat) (r : List Nat) (w : World) (h : Cells w q 64 F) (h0 : F o = some (.slice A m cm)) (hl : R8 w A m l)
    (hr : R8 w B n r) (hn : 0 < n) (hm : m ≤ n) (hn2 : n ≤ 1099511627776) :
    Calls Try.prog 39 #[.pointer (some ⟨q, o, none⟩), .slice B n c] w (Stored q o n (andL l r) w) := by
  have H := Lib.hid h
  have R := Lib.hid hr
  have L := Lib.hid hl
  have x0 := h.cell h0
  have hlen : (andL l r).length = n := by rw [andL_length, hl.len, hr.len]; omega
  clear h hr hl
  go_enter Try.func39, Try.ntmps39
  go_wp2_with fail
  refine (And_any A B m cm n c l r _ L.out R.out (by omega) hn2).mono ?_
  rintro _ w1 ⟨A1, c1, rfl, ho, hb⟩
  rw [hlen] at ho ⊢
  obtain ⟨g, rfl, hg, hc, hr1⟩ := own_head ho hn (andL_lt l r L.out.2)
  have B1 := Lib.hid hb
  have R1 := Lib.hid hr1
  clear x0
  have x0 := (H.out.below hb).cell h0
  have f0 := (H.out.below hb).frozen o
  clear ho hb hr1 hlen
  go_wp2
  go_end0
  exact ⟨w1, g, c1, rfl, rfl, B1.out, hg, R1.out, hc⟩
set_option maxHeartbeats 1000000 in
theorem mark_any (q o : Nat) (F : Nat → Option Value) (v0 : Value) (g : Gm) (N : Nat) (hN : g.raw = (N : Int)) (h1N : 0 < N) (h2N : N ≤ 8192) (w : World) (h : Cells w q 64 F) (h0 : F o = some v0) :
    Calls Try.prog 33 #[.pointer (some ⟨q, o, none⟩), g.val] w (Stored q o N (mrk N) w) := by
  have HE := Lib.hid (fun w' => Erased_fresh g N hN h2N w')
  have H := Lib.hid h
  clear h hN
  obtain ⟨p0, b, s, gc, k, rr, u⟩ := g
  simp only [Gm.val] at HE ⊢
  have Y0 := Lib.hid (GBox.new w ⟨p0, b, s, gc, k, rr, u⟩ 23)
  have B0 := Lib.hid (below_new w (.cells #[.int .i64 p0, .int .i64 b, .int .i64 s, .int .i64 gc, .int .i64 k, .int .i64 rr, .int .i64 u] 23))
  go_enter Try.func33, Try.ntmps33
  obtain ⟨_, g0, g1, g2, g3, g4, g5, g6⟩ := Y0.out
  simp only at g0 g1 g2 g3 g4 g5 g6
  go_wp2_with fail
  clear g0 g1 g2 g3 g4 g5 g6
  refine (HE.out _).mono ?_
  rintro _ w1 ⟨b1, c1, cur, u1, rfl, hg, hk, hr, hc, hb⟩
  rw [List.length_replicate] at hr hc ⊢
  have hlt : w.heap.size ≤ b1 := Nat.le_trans B0.out.size hg
  have B1 := Lib.hid (below_step B0.out hb)
  have hqb : q ≠ b1 := by have := H.out.lt; omega
  have K1 : Hid (CRow w1 b1 u1 cur) := hk
  have R1 := Lib.hid hr
  obtain ⟨b2, off2, x, e2, _, HX, _, hcx⟩ := hr.at_ (k := N - 1) (by omega)
  injection e2 with e2
  injection e2 with e3 e4
  subst e3
  subst e4
  rw [Nat.zero_add] at hcx
  have fz := K1.out.frozen (N - 1)
  have hsub : IntKind.i64.wrap ((N : Int) - 1) = ((N - 1 : Nat) : Int) := by rw [IntWalk.i64_in _ (by omega)]; omega
  have hN1 : N - 1 < N := by omega
  have H1 := Lib.hid (((H.out.below B1.out)).other (p := ⟨b1, N - 1, none⟩) hqb (.int .u8 0))
  have x0 := H1.out.cell h0
  have f0 := H1.out.frozen o
  have R2 : Hid (R8 (w1.setCell ⟨b1, N - 1, none⟩ (.int .u8 0)) (some ⟨b1, 0, none⟩) N (mrk N)) := R1.out.put (N - 1) 0 (by omega)
  have B2 := Lib.hid (((Btw.of_below (I := fun j => j = b1) B1.out).setCell (p := ⟨b1, N - 1, none⟩) (v := .int .u8 0) rfl).below (S := w.heap.size) (fun k hk => by subst hk; exact hlt) (Nat.le_refl _))
  clear hb hk hr HX H
  go_wp2
  go_end0
  exact ⟨_, b1, c1, rfl, rfl, B2.out, hlt, R2.out, hc⟩
end Go.Proofs.Ytipmjmbkknlcfaa
