/-
  Contracts of tag.within, May, precedes, layout, and of the document's from, May, sizes (package incunableref07), over the landed code.
-/
import Derived.Test.YtlmdhlogmfdokaaArrayFitsJ3
import Derived.Test.YtlmdhlogmfdokaaArrayFitsJ2
import Derived.Test.YtlmdhlogmfdokaaArrayFitsJ4
namespace Go.Proofs.Ytlmdhlogmfdokaa
open Go.RowKit
set_option maxRecDepth 100000

/-- The block n holds the tag t. -/
def TBox (w : World) (n : Nat) (t : Tg) : Prop :=
  n < w.heap.size ∧ w.cell? ⟨n, 0, none⟩ = some (.int .i64 t.k) ∧ w.cell? ⟨n, 1, none⟩ = some (.int .i64 t.s) ∧ w.cell? ⟨n, 2, none⟩ = some (.int .i64 t.q) ∧ w.cell? ⟨n, 3, none⟩ = some (.int .i64 t.e)
theorem TBox.below {w w' : World} {n : Nat} {t : Tg} (h : TBox w n t) (hb : Below w.heap.size w w') : TBox w' n t := by
  obtain ⟨h0, h1, h2, h3, h4⟩ := h
  exact ⟨Nat.lt_of_lt_of_le h0 hb.size, (hb.cell h0).trans h1, (hb.cell h0).trans h2, (hb.cell h0).trans h3, (hb.cell h0).trans h4⟩
theorem TBox.new (w : World) (t : Tg) (u : TypeId) : TBox (w.alloc (.cells #[.int .i64 t.k, .int .i64 t.s, .int .i64 t.q, .int .i64 t.e] u)) w.heap.size t := by
  refine ⟨by simp, ?_, ?_, ?_, ?_⟩ <;> simp
/-- Six ints in a row that was made last. -/
theorem R64.six (w : World) (a b c d e f : Int) (t : TypeId) (h : ∀ x ∈ [a, b, c, d, e, f], -9223372036854775808 ≤ x ∧ x ≤ 9223372036854775807) :
    R64 (w.alloc (.cells #[.int .i64 a, .int .i64 b, .int .i64 c, .int .i64 d, .int .i64 e, .int .i64 f] t)) (some ⟨w.heap.size, 0, none⟩) 6 [a, b, c, d, e, f] := by
  refine ⟨⟨rfl, fun _ => ⟨_, 0, rfl, by simp, fun j hj => ?_⟩⟩, h⟩
  match j, hj with
  | 0, _ => simp [I64]
  | 1, _ => simp [I64]
  | 2, _ => simp [I64]
  | 3, _ => simp [I64]
  | 4, _ => simp [I64]
  | 5, _ => simp [I64]
end Go.Proofs.Ytlmdhlogmfdokaa
