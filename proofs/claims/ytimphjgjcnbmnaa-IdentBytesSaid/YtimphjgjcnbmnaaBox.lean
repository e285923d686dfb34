/-
  Structs and arrays in memory, of no program: a whole one stored into, and loaded out of, the block that was made last.
-/
import Derived.Test.YtimphjgjcnbmnaaWords
import Derived.Deep.WholeRow
namespace Go.Proofs.Ytimphjgjcnbmnaa
open Go.RowKit

/-- A whole array or struct stored into the block that was made last. -/
theorem wpList_store_new {P : Program} {ops : Array Oper} {rest : List Oper} {o : Oper} {a : Act} {w : World} {Q : Exit → Act → World → Prop} (hg : o.guard = none) (t : TypeId) (x y : Operand) (ho : o.op = .store t x y) (n : Nat)
    (hi : (P.info? t).map (·.size) = some n) (cells : Array Value) (hx : a.eval x = .pointer (some ⟨w.heap.size, 0, none⟩)) (hy : a.eval y = .agg cells) (old : Array Value) (hn : cells.size = n)
    (hold : old.size = n) (h1 : cells.all (·.oneCell') = true) (h : wpList P ops Q rest (a.put o.dst undef) (w.alloc (.cells cells t))) : wpList P ops Q (o :: rest) a (w.alloc (.cells old t)) := by
  subst hn
  exact wpList_plain hg fun _ hK => wp_store_row t x y ho w.heap.size cells hx hy t old (heap_alloc_last w _) hi hold h1 (by rw [World.setRow_alloc_new]; exact hK _ _ h)
/-- A whole array loaded out of the block that was made last. -/
theorem wpList_load_new {P : Program} {ops : Array Oper} {rest : List Oper} {o : Oper} {a : Act} {w : World} {Q : Exit → Act → World → Prop} (hg : o.guard = none) (t : TypeId) (x : Operand) (ho : o.op = .load t x) (n m : Nat) (e : TypeId)
    (hu : P.underlying t = some (.array m e)) (hi : (P.info? t).map (·.size) = some n) (cells : Array Value) (hx : a.eval x = .pointer (some ⟨w.heap.size, 0, none⟩)) (hn : cells.size = n)
    (h : wpList P ops Q rest (a.put o.dst (.agg cells)) (w.alloc (.cells cells t))) : wpList P ops Q (o :: rest) a (w.alloc (.cells cells t)) := by
  subst hn
  exact wpList_load_row hg t x ho w.heap.size hx t cells (0, 0) _ (heap_alloc_last w _) hu rfl hi h
/-- The block before the last one. -/
theorem heap_alloc_two (w : World) (o o' : Obj) : ((w.alloc o).alloc o').heap[w.heap.size]? = some o := by
  show ((w.heap.push o).push o')[w.heap.size]? = some o
  rw [Array.getElem?_push]
  simp
theorem setRow_alloc_two (w : World) (o : Obj) (c c' : Array Value) (t : TypeId) : ((w.alloc (.cells c t)).alloc o).setRow w.heap.size c' = (w.alloc (.cells c' t)).alloc o := by
  simp only [World.setRow, World.alloc]
  congr 1
  apply Array.ext_getElem?
  intro i
  rw [Array.getElem?_modify]
  by_cases h : w.heap.size = i
  · subst h
    simp [Array.getElem?_push]
  · have h' : ¬ i = w.heap.size := fun e => h e.symm
    simp [h, h', Array.getElem?_push]
/-- A whole array stored into the block before the last one. -/
theorem wpList_store_two {P : Program} {ops : Array Oper} {rest : List Oper} {o : Oper} {a : Act} {w : World} {Q : Exit → Act → World → Prop} (hg : o.guard = none) (t : TypeId) (x y : Operand) (ho : o.op = .store t x y) (n : Nat)
    (hi : (P.info? t).map (·.size) = some n) (cells : Array Value) (hx : a.eval x = .pointer (some ⟨w.heap.size, 0, none⟩)) (hy : a.eval y = .agg cells) (old : Array Value) (ob : Obj) (hn : cells.size = n)
    (hold : old.size = n) (h1 : cells.all (·.oneCell') = true) (h : wpList P ops Q rest (a.put o.dst undef) ((w.alloc (.cells cells t)).alloc ob)) : wpList P ops Q (o :: rest) a ((w.alloc (.cells old t)).alloc ob) := by
  subst hn
  exact wpList_plain hg fun _ hK => wp_store_row t x y ho w.heap.size cells hx hy t old (heap_alloc_two w _ _) hi hold h1 (by rw [setRow_alloc_two]; exact hK _ _ h)
end Go.Proofs.Ytimphjgjcnbmnaa
