/-
  Plain facts on what two lists of bytes have: it does not hang on their order; three, not on which come first. Bytes as a text.
-/
import Derived.Test.YtkhdbfklfkkodaaMath2
namespace Go.Proofs.Ytkhdbfklfkkodaa

theorem andL_assoc (a b c : List Nat) : andL (andL a b) c = andL a (andL b c) := by
  apply List.ext_getElem?
  intro i
  rw [andL_get, andL_get, andL_length, andL_length, andL_getD', andL_getD', Nat.and_assoc, Nat.max_assoc]
theorem andL_idem (a : List Nat) : andL a a = a := by
  apply List.ext_getElem?
  intro i
  rw [andL_get, Nat.max_self, Nat.and_self]
  split
  · rename_i h; simp [List.getElem?_eq_getElem h]
  · rename_i h; rw [List.getElem?_eq_none (by omega)]
theorem diffL_comm (a b : List Nat) : diffL a b = diffL b a := by
  unfold diffL diffTo
  rw [Nat.min_comm]
  congr 1
  funext n
  rw [Nat.xor_comm]
theorem diffL_self (a : List Nat) : diffL a a = [] := by
  unfold diffL
  rw [diffTo_eq]
  simp
theorem diffL_at (a b : List Nat) (k : Nat) (p : Int) (h : (diffL a b)[k]? = some p) : 0 ≤ p ∧ p < 8 * (min a.length b.length : Nat) ∧ (getI a p == getI b p) = false := by
  obtain ⟨i, hi, rfl, hne⟩ := (mem_diffTo a b _ p).1 (List.mem_of_getElem? h)
  refine ⟨by omega, by omega, ?_⟩
  simp only [getI, Int.toNat_natCast]
  cases h1 : getN a i <;> cases h2 : getN b i <;> simp_all
/-- Bytes, as a text. -/
def str (l : List Nat) : ByteArray := ⟨(l.map fun x => UInt8.ofNat x).toArray⟩
theorem str_size (l : List Nat) : (str l).size = l.length := by simp [str, ByteArray.size]
end Go.Proofs.Ytkhdbfklfkkodaa
