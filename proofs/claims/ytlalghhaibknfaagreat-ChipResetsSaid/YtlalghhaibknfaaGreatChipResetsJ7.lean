/-
  Contracts of tag.within, May, precedes, layout, and of the document's from, May, sizes (package incunableref07), over the landed code.
-/
import Derived.Test.YtlalghhaibknfaaGreatChipResetsJ3
import Derived.Test.YtlalghhaibknfaaGreatChipResetsJ2
import Derived.Test.YtlalghhaibknfaaGreatChipResetsJ4
import Derived.Test.YtlalghhaibknfaaGreatChipResetsJCycMem
namespace Go.Proofs.YtlalghhaibknfaaGreat
open Go.RowKit
set_option maxRecDepth 100000

/-- The block n holds the tag t. -/
def TBox (w : World) (n : Nat) (t : Tg) : Prop :=
  n < w.heap.size ∧ w.cell? ⟨n, 0, none⟩ = some (.int .i64 t.k) ∧ w.cell? ⟨n, 1, none⟩ = some (.int .i64 t.s) ∧ w.cell? ⟨n, 2, none⟩ = some (.int .i64 t.q) ∧ w.cell? ⟨n, 3, none⟩ = some (.int .i64 t.e)
theorem TBox.below {w w' : World} {n : Nat} {t : Tg} (h : TBox w n t) (hb : Below w.heap.size w w') : TBox w' n t := by
  obtain ⟨h0, h1, h2, h3, h4⟩ := h
  exact ⟨Nat.lt_of_lt_of_le h0 hb.size, (hb.cell h0).trans h1, (hb.cell h0).trans h2, (hb.cell h0).trans h3, (hb.cell h0).trans h4⟩
theorem TBox.new (w : World) (t : Tg) (u : TypeId) : TBox (w.alloc (.cells #[.int .i64 t.k, .int .i64 t.s, .int .i64 t.q, .int .i64 t.e] u)) w.heap.size t := by
  refine ⟨by simp, ?_, ?_, ?_, ?_⟩ <;> simp
/-- Six ints in a row that was made last. -/
theorem R64.six (w : World) (a b c d e f : Int) (t : TypeId) (h : ∀ x ∈ [a, b, c, d, e, f], -9223372036854775808 ≤ x ∧ x ≤ 9223372036854775807) :
    R64 (w.alloc (.cells #[.int .i64 a, .int .i64 b, .int .i64 c, .int .i64 d, .int .i64 e, .int .i64 f] t)) (some ⟨w.heap.size, 0, none⟩) 6 [a, b, c, d, e, f] := by
  refine ⟨⟨rfl, fun _ => ⟨_, 0, rfl, by simp, fun j hj => ?_⟩⟩, h⟩
  match j, hj with
  | 0, _ => simp [I64]
  | 1, _ => simp [I64]
  | 2, _ => simp [I64]
  | 3, _ => simp [I64]
  | 4, _ => simp [I64]
  | 5, _ => simp [I64]
end Go.Proofs.YtlalghhaibknfaaGreat

/-
  Contracts over cycles and letters: cycle.Right; the law's function right; the document's letter and digit.
-/
namespace Go.Proofs.YtlalghhaibknfaaGreat
open Go.RowKit
set_option maxRecDepth 100000

theorem info_cycle : (Tryz.prog.info? 37).map (fun i => (i.zero, i.size, i.bytes)) = some (some (.agg #[.int .i64 0, .int .u8 0]), 2, 16) := by kernel_rfl

theorem Right_any (k b : Int) (w : World) :
    Calls Tryz.prog 21 #[.agg #[.int .i64 k, .int .u8 b]] w (Gives (.bool (okK k)) w) := by
  by_cases h1 : 1 ≤ k
  · have e1 : decide ((1 : Int) ≤ k) = true := decide_eq_true h1
    have HE := Lib.hid (show decide (k ≤ (4 : Int)) = okK k by unfold okK; rw [e1, Bool.true_and])
    go_enter Tryz.func21, Tryz.ntmps21
    go_wp2
    go_ret
    exact ⟨ret_bool HE.out, below_new w _⟩
  · have e1 : decide ((1 : Int) ≤ k) = false := decide_eq_false h1
    have HE := Lib.hid (show false = okK k by unfold okK; rw [e1, Bool.false_and])
    go_enter Tryz.func21, Tryz.ntmps21
    go_wp2
    go_ret
    exact ⟨ret_bool HE.out, below_new w _⟩

end Go.Proofs.YtlalghhaibknfaaGreat
