/-
  Structs and arrays in memory, of no program: a whole one stored into, and loaded out of, the block that was made last.
-/
import Derived.Deep.WholeRow
import Derived.Test.YtmbgoopkpfhamaaGreatIdentChecksJ1
namespace Go.Proofs.YtmbgoopkpfhamaaGreat
open Go.RowKit
theorem wpList_store_new {P : Program} {ops : Array Oper} {rest : List Oper} {o : Oper} {a : Act} {w : World} {Q : Exit → Act → World → Prop} (hg : o.guard = none) (t : TypeId) (x y : Operand) (ho : o.op = .store t x y) (n : Nat)
  (hi : (P.info? t).map (·.size) = some n) (cells : Array Value) (hx : a.eval x = .pointer (some ⟨w.heap.size, 0, none⟩)) (hy : a.eval y = .agg cells) (old : Array Value) (hn : cells.size = n)
  (hold : old.size = n) (h1 : cells.all (·.oneCell') = true) (h : wpList P ops Q rest (a.put o.dst undef) (w.alloc (.cells cells t))) : wpList P ops Q (o :: rest) a (w.alloc (.cells old t)) := by
 subst hn
 exact wpList_plain hg fun _ hK => wp_store_row t x y ho w.heap.size cells hx hy t old (heap_alloc_last w _) hi hold h1 (by rw [World.setRow_alloc_new]; exact hK _ _ h)
theorem wpList_load_new {P : Program} {ops : Array Oper} {rest : List Oper} {o : Oper} {a : Act} {w : World} {Q : Exit → Act → World → Prop} (hg : o.guard = none) (t : TypeId) (x : Operand) (ho : o.op = .load t x) (n m : Nat) (e : TypeId)
  (hu : P.underlying t = some (.array m e)) (hi : (P.info? t).map (·.size) = some n) (cells : Array Value) (hx : a.eval x = .pointer (some ⟨w.heap.size, 0, none⟩)) (hn : cells.size = n)
  (h : wpList P ops Q rest (a.put o.dst (.agg cells)) (w.alloc (.cells cells t))) : wpList P ops Q (o :: rest) a (w.alloc (.cells cells t)) := by
 subst hn
 exact wpList_load_row hg t x ho w.heap.size hx t cells (0, 0) _ (heap_alloc_last w _) hu rfl hi h
end Go.Proofs.YtmbgoopkpfhamaaGreat
