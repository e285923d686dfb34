/-
  Contracts of chunk.Encode and the document's Encode, over the landed code.
-/
import Derived.Laws.MakeOwn
import Derived.Test.YtgiihdeilkiphaaLadderFitsJ5
import Derived.Test.YtgiihdeilkiphaaLadderFitsJ7
import Derived.Test.YtgiihdeilkiphaaLadderFitsJ10
import Derived.Test.YtgiihdeilkiphaaLadderFitsJ3
namespace Go.Proofs.Ytgiihdeilkiphaa
open Go.RowKit
set_option maxRecDepth 100000

/-- It returns a slice of the bytes d (and numbers), and nothing that was there has turned. -/
def Ret2 (d : List Nat) (e : Nat) (w : World) (en : Ending) (w' : World) : Prop :=
  ∃ A c, en = .returned (.tuple #[.slice A d.length c, .int .i64 (e : Int)]) ∧ R8 w' A d.length d ∧ (A = none → c = 0) ∧ d.length ≤ c ∧ Below w.heap.size w w'
def Ret3 (d : List Nat) (f e : Nat) (w : World) (en : Ending) (w' : World) : Prop :=
  ∃ A c, en = .returned (.tuple #[.slice A d.length c, .int .i64 (f : Int), .int .i64 (e : Int)]) ∧ R8 w' A d.length d ∧ (A = none → c = 0) ∧ Below w.heap.size w w'
/-- The same, and that the slice has room for its bytes. -/
def Ret3c (d : List Nat) (f e : Nat) (w : World) (en : Ending) (w' : World) : Prop :=
  ∃ A c, en = .returned (.tuple #[.slice A d.length c, .int .i64 (f : Int), .int .i64 (e : Int)]) ∧ R8 w' A d.length d ∧ (A = none → c = 0) ∧ d.length ≤ c ∧ Below w.heap.size w w'
theorem Ret3c.ret3 {d : List Nat} {f e : Nat} {w w' : World} {en : Ending} (h : Ret3c d f e w en w') : Ret3 d f e w en w' := by
  obtain ⟨A, c, h1, h2, h3, _, h5⟩ := h
  exact ⟨A, c, h1, h2, h3, h5⟩
theorem Ret3c.at_ {d : List Nat} {f e n : Nat} {w w' : World} {en : Ending} (h : Ret3c d f e w en w') (hl : d.length = n) : ∃ A c, en = .returned (.tuple #[.slice A n c, .int .i64 (f : Int), .int .i64 (e : Int)]) ∧ Hid (R8 w' A n d) ∧ Hid (A = none → c = 0) ∧ n ≤ c ∧ Hid (Below w.heap.size w w') := by
  subst hl
  exact h
theorem Ret2.at_ {d : List Nat} {e n : Nat} {w w' : World} {en : Ending} (h : Ret2 d e w en w') (hl : d.length = n) : ∃ A c, en = .returned (.tuple #[.slice A n c, .int .i64 (e : Int)]) ∧ Hid (R8 w' A n d) ∧ Hid (A = none → c = 0) ∧ n ≤ c ∧ Hid (Below w.heap.size w w') := by
  subst hl
  exact h
theorem Ret3.at_ {d : List Nat} {f e n : Nat} {w w' : World} {en : Ending} (h : Ret3 d f e w en w') (hl : d.length = n) : ∃ A c, en = .returned (.tuple #[.slice A n c, .int .i64 (f : Int), .int .i64 (e : Int)]) ∧ Hid (R8 w' A n d) ∧ Hid (A = none → c = 0) ∧ Hid (Below w.heap.size w w') := by
  subst hl
  exact h
theorem two_bytes (w : World) (x y : Nat) (t : TypeId) (hx : x < 256) (hy : y < 256) : R8 (w.alloc (.cells #[.int .u8 (x : Int), .int .u8 (y : Int)] t)) (some ⟨w.heap.size, 0, none⟩) 2 [x, y] := by
  refine ⟨⟨rfl, fun _ => ⟨_, 0, rfl, by simp, fun j hj => ?_⟩⟩, by simp; omega⟩
  match j, hj with
  | 0, _ => simp [U8]
  | 1, _ => simp [U8]
theorem u8_low (W : Nat) : IntKind.u8.wrap (W : Int) = ((W % 256 : Nat) : Int) := by
  simp only [IntKind.wrap, IntKind.bits, IntKind.signed]
  simp only [Bool.false_eq_true, Bool.false_and, if_false]
  omega
theorem one_byte (w : World) (x : Nat) (t : TypeId) (hx : x < 256) : R8 (w.alloc (.cells #[.int .u8 (x : Int)] t)) (some ⟨w.heap.size, 0, none⟩) 1 [x] := by
  refine ⟨⟨rfl, fun _ => ⟨_, 0, rfl, by simp, fun j hj => ?_⟩⟩, by simp; omega⟩
  match j, hj with
  | 0, _ => simp [U8]
theorem three_bytes (w : World) (x y z : Nat) (t : TypeId) (hx : x < 256) (hy : y < 256) (hz : z < 256) : R8 (w.alloc (.cells #[.int .u8 (x : Int), .int .u8 (y : Int), .int .u8 (z : Int)] t)) (some ⟨w.heap.size, 0, none⟩) 3 [x, y, z] := by
  refine ⟨⟨rfl, fun _ => ⟨_, 0, rfl, by simp, fun j hj => ?_⟩⟩, by simp; omega⟩
  match j, hj with
  | 0, _ => simp [U8]
  | 1, _ => simp [U8]
  | 2, _ => simp [U8]
theorem enc_zero : encL [0] = [0, 0, 192] := by decide +kernel
end Go.Proofs.Ytgiihdeilkiphaa
