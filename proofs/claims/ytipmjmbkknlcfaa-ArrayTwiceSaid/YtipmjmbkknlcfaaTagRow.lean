/-
  A tag in a block of its own: stored and loaded whole, handed back by value.
-/
import Derived.Test.YtipmjmbkknlcfaaTagA
import Derived.Test.YtipmjmbkknlcfaaBox
import Derived.Test.YtipmjmbkknlcfaaCRow
import Derived.Laws.ResultCell
import Derived.Laws.CopyOwn
namespace Go.Proofs.Ytipmjmbkknlcfaa
open Go.RowKit

/-- The block g holds the tag t, whole. -/
def TRow (w : World) (g : Nat) (u : TypeId) (t : Tg) : Prop := w.heap[g]? = some (.cells #[.int .i64 t.k, .int .i64 t.s, .int .i64 t.q, .int .i64 t.e] u (0, 0))
section
variable {w w' : World} {g : Nat} {u : TypeId} {t : Tg}
theorem TRow.lt (h : TRow w g u t) : g < w.heap.size := (Array.getElem?_eq_some_iff.1 h).1
theorem TRow.row (h : TRow w g u t) : w.heap[g]? = some (.cells #[.int .i64 t.k, .int .i64 t.s, .int .i64 t.q, .int .i64 t.e] u (0, 0)) := h
theorem TRow.below (h : TRow w g u t) (hb : Below w.heap.size w w') : TRow w' g u t := (hb.block g h.lt).trans h
theorem TRow.drew (h : TRow w g u t) : TRow w.drew g u t := h
theorem TRow.new (w : World) (t : Tg) (u : TypeId) : TRow (w.alloc (.cells #[.int .i64 t.k, .int .i64 t.s, .int .i64 t.q, .int .i64 t.e] u)) w.heap.size u t := heap_alloc_new w _
theorem TRow.set (h : TRow w g u t) (t' : Tg) : TRow (w.setRow g #[.int .i64 t'.k, .int .i64 t'.s, .int .i64 t'.q, .int .i64 t'.e]) g u t' := setRow_heap w g _ _ u (0, 0) h
theorem TRow.box (h : TRow w g u t) : TBox w g t := by
  have h' : w.heap[g]? = _ := h
  refine ⟨h.lt, ?_, ?_, ?_, ?_⟩ <;> (rw [cell_of_row w g _ _ u (0, 0) h']; rfl)
theorem TRow.other {g' : Nat} {cs : Array Value} (h : TRow w g u t) (hne : g ≠ g') : TRow (w.setRow g' cs) g u t := (setRow_other w g' g cs hne).trans h
end

theorem R64.six_at {w : World} {A : Option Addr} {v0 v1 v2 v3 v4 v5 : Int} (h : R64 w A 6 [v0, v1, v2, v3, v4, v5]) :
    ∃ b o, A = some ⟨b, o, none⟩ ∧ b < w.heap.size ∧ w.cell? ⟨b, o, none⟩ = some (.int .i64 v0) ∧ w.cell? ⟨b, o + 1, none⟩ = some (.int .i64 v1) ∧ w.cell? ⟨b, o + 2, none⟩ = some (.int .i64 v2) ∧ w.cell? ⟨b, o + 3, none⟩ = some (.int .i64 v3) ∧ w.cell? ⟨b, o + 4, none⟩ = some (.int .i64 v4) ∧ w.cell? ⟨b, o + 5, none⟩ = some (.int .i64 v5) := by
  obtain ⟨b, o, e, hb, hc⟩ := h.1.2 (by omega)
  exact ⟨b, o, e, hb, hc 0 (by omega), hc 1 (by omega), hc 2 (by omega), hc 3 (by omega), hc 4 (by omega), hc 5 (by omega)⟩

/-- A struct out of its block and a number beside it, as results. -/
theorem results_cell_tmp_row {P : Program} {fn : Func} {p u : Tmp} {ty : TypeId} (h : fn.results = #[.cell p ty, .tmp u]) (tmps : Array Value) (w : World) (g : Nat) (t : TypeId) (cs : Array Value) (fr : Nat × Nat) (d : TypeDesc)
    (hp : tmps.getD p undef = .pointer (some ⟨g, 0, none⟩)) (hg : w.heap[g]? = some (.cells cs t fr))
    (hu : P.underlying ty = some d) (hd : (match d with | .struct _ | .array _ _ => true | _ => false) = true) (hi : (P.info? ty).map (·.size) = some cs.size) :
    (results fn tmps).run P w = .ok (.tuple #[.agg cs, tmps.getD u undef]) w := by
  rw [results_cell_tmp h, hp]
  simp only [asAddr, Sem.run_pure, Result.andThen_ok, run_loadVar_row w g t ty cs fr d hg hu hd hi]
end Go.Proofs.Ytipmjmbkknlcfaa
