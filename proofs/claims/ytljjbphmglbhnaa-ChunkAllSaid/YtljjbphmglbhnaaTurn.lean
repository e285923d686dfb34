/-
  Plain facts, of no program: a new slice of one int; a bit of a word turned; two bits of a codeword turned.
-/
import Derived.Test.YtljjbphmglbhnaaWords
import Derived.Test.YtljjbphmglbhnaaIntBits
import Derived.Test.YtljjbphmglbhnaaHamMath5
namespace Go.Proofs.Ytljjbphmglbhnaa
open Go.RowKit

theorem one_int (w : World) (x : Int) (t : TypeId) (h0 : -9223372036854775808 ≤ x) (h1 : x ≤ 9223372036854775807) : R64 (w.alloc (.cells #[.int .i64 x] t)) (some ⟨w.heap.size, 0, none⟩) 1 [x] := by
  refine ⟨⟨rfl, fun _ => ⟨_, 0, rfl, by simp, fun j hj => ?_⟩⟩, by simp; omega⟩
  match j, hj with
  | 0, _ => simp [I64]
theorem flips_one (l : List Nat) (k : Int) : flips l [k] = flip1 l k := rfl

theorem turn_word (W i : Nat) (hW : W < 65536) (hi : i < 16) : Go.bits .xor .u16 (W : Int) (IntKind.u16.wrap (2 ^ i)) = ((W ^^^ 2 ^ i : Nat) : Int) := by
  have h1 : 2 ^ i < 65536 := Nat.pow_lt_pow_right (a := 2) (m := i) (n := 16) (by omega) hi
  have h2 : ((2 : Int) ^ i) = ((2 ^ i : Nat) : Int) := by rw [Int.natCast_pow]; rfl
  have h3 : ∀ q : Nat, q < 65536 → IntKind.u16.wrap (q : Int) = (q : Int) := by
    intro q hq
    simp only [IntKind.wrap, IntKind.bits, IntKind.signed]
    simp only [Bool.false_eq_true, Bool.false_and, if_false]
    omega
  rw [h2, h3 _ h1]
  exact u16_xor_nat W (2 ^ i) hW h1
theorem turn_lt (W i : Nat) (hW : W < 65536) (hi : i < 16) : W ^^^ 2 ^ i < 65536 := Nat.xor_lt_two_pow (n := 16) hW (Nat.pow_lt_pow_right (by omega) hi)

/-- One bit turned: of the bytes, or of the word. -/
def turn1 (m : Nat) (s : List Nat × Nat) (x : Nat) : List Nat × Nat := if x < m then (flip1 s.1 (x : Int), s.2) else (s.1, s.2 ^^^ 2 ^ (x - m))
theorem turn_both (l : List Nat) (i k : Nat) (h : l.length ≤ 512) (hi : i < 8 * l.length + 14) (hk : k < 8 * l.length + 14) (hne : i ≠ k) :
    judgeL (turn1 (8 * l.length) (turn1 (8 * l.length) (l, wordL l) i) k).1 (turn1 (8 * l.length) (turn1 (8 * l.length) (l, wordL l) i) k).2 = (3, 0) := by
  unfold turn1
  by_cases h1 : i < 8 * l.length <;> by_cases h2 : k < 8 * l.length
  · simp only [h1, h2, if_true]
    exact judge_two l i k h h1 h2 hne
  · simp only [h1, h2, if_true, if_false]
    exact judge_mixed l i (k - 8 * l.length) h h1 (by omega)
  · simp only [h1, h2, if_true, if_false]
    exact judge_mixed l k (i - 8 * l.length) h h2 (by omega)
  · simp only [h1, h2, if_false]
    exact judge_words l (i - 8 * l.length) (k - 8 * l.length) h (by omega) (by omega) (by omega)
end Go.Proofs.Ytljjbphmglbhnaa
