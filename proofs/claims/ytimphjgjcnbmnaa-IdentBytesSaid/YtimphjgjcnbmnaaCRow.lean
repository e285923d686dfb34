/-
  Words for memory, of no program: a block whose whole row is known (structs of whatever cells), through calls and stores.
-/
import Derived.Test.YtimphjgjcnbmnaaInfo
import Derived.Test.YtimphjgjcnbmnaaOwn
import Derived.Laws.ResultCell
import Derived.Laws.CopyOwn
namespace Go.Proofs.Ytimphjgjcnbmnaa
open Go.RowKit

/-- A whole struct stored into a block of which the row is known. -/
theorem wpList_store_at {P : Program} {ops : Array Oper} {rest : List Oper} {o : Oper} {a : Act} {w : World} {Q : Exit → Act → World → Prop} (hg : o.guard = none) (t : TypeId) (x y : Operand) (ho : o.op = .store t x y) (n : Nat)
    (hi : (P.info? t).map (·.size) = some n) (cells : Array Value) (g : Nat) (hx : a.eval x = .pointer (some ⟨g, 0, none⟩)) (hy : a.eval y = .agg cells) (old : Array Value) (hh : w.heap[g]? = some (.cells old t (0, 0))) (hn : cells.size = n)
    (hold : old.size = n) (h1 : cells.all (·.oneCell') = true) (h : wpList P ops Q rest (a.put o.dst undef) (w.setRow g cells)) : wpList P ops Q (o :: rest) a w := by
  subst hn
  exact wpList_plain hg fun _ hK => wp_store_row t x y ho g cells hx hy t old hh hi hold h1 (hK _ _ h)
/-- The block g holds the cells cs, no more. -/
def CRow (w : World) (g : Nat) (u : TypeId) (cs : Array Value) : Prop := w.heap[g]? = some (.cells cs u (0, 0))
section
variable {w w' : World} {g : Nat} {u : TypeId} {cs : Array Value}
theorem CRow.lt (h : CRow w g u cs) : g < w.heap.size := (Array.getElem?_eq_some_iff.1 h).1
theorem CRow.row (h : CRow w g u cs) : w.heap[g]? = some (.cells cs u (0, 0)) := h
theorem CRow.below (h : CRow w g u cs) (hb : Below w.heap.size w w') : CRow w' g u cs := (hb.block g h.lt).trans h
theorem CRow.drew (h : CRow w g u cs) : CRow w.drew g u cs := h
theorem CRow.new (w : World) (cs : Array Value) (u : TypeId) : CRow (w.alloc (.cells cs u)) w.heap.size u cs := heap_alloc_new w _
theorem CRow.alloc (h : CRow w g u cs) (o : Obj) : CRow (w.alloc o) g u cs := h.below (below_new w o)
theorem CRow.set (h : CRow w g u cs) (cs' : Array Value) : CRow (w.setRow g cs') g u cs' := setRow_heap w g _ _ u (0, 0) h
theorem CRow.other {g' : Nat} {cs' : Array Value} (h : CRow w g u cs) (hne : g ≠ g') : CRow (w.setRow g' cs') g u cs := (setRow_other w g' g cs' hne).trans h
theorem CRow.cell (h : CRow w g u cs) (j : Nat) : w.cell? ⟨g, j, none⟩ = cs[j]? := by
  exact cell_of_row w g _ _ u (0, 0) h
theorem CRow.cell_at (h : CRow w g u cs) (j : Nat) (v : Value) (hv : cs[j]? = some v) : w.cell? ⟨g, j, none⟩ = some v := (h.cell j).trans hv
end
theorem CRow.frozen {w : World} {g : Nat} {u : TypeId} {cs : Array Value} (h : CRow w g u cs) (j : Nat) : w.frozen? ⟨g, j, none⟩ = false := by
  unfold World.frozen?
  simp only
  rw [h.row]
  simp
theorem CRow.setCell {w : World} {g : Nat} {u : TypeId} {cs : Array Value} (h : CRow w g u cs) (j : Nat) (v : Value) : CRow (w.setCell ⟨g, j, none⟩ v) g u (cs.setIfInBounds j v) := by
  unfold CRow World.setCell
  simp only [Option.isSome_none, Bool.false_eq_true, if_false]
  rw [Array.getElem?_modify, if_pos rfl, h.row]
  rfl
theorem CRow.setCell_other {w : World} {g : Nat} {u : TypeId} {cs : Array Value} (h : CRow w g u cs) {p : Addr} (hne : g ≠ p.block) (v : Value) : CRow (w.setCell p v) g u cs := (Below.heap_setCell w p v g hne).trans h
end Go.Proofs.Ytimphjgjcnbmnaa
