/-
  Plain facts on geometries, of no program: which are right, sizes, rows, pairs, addresses.
-/
import Derived.Test.YtimphjgjcnbmnaaWords
namespace Go.Proofs.Ytimphjgjcnbmnaa
open Go.RowKit

/-- A geometry: planes, blocks, pages, chunks, bytes of a chunk, rungs, parts. -/
structure Gm where
  p : Int
  b : Int
  s : Int
  c : Int
  k : Int
  r : Int
  q : Int

def in64 (x : Int) : Prop := -9223372036854775808 ≤ x ∧ x ≤ 9223372036854775807
def Gm.val (g : Gm) : Value := .agg #[.int .i64 g.p, .int .i64 g.b, .int .i64 g.s, .int .i64 g.c, .int .i64 g.k, .int .i64 g.r, .int .i64 g.q]
def Gm.fits (g : Gm) : Prop := in64 g.p ∧ in64 g.b ∧ in64 g.s ∧ in64 g.c ∧ in64 g.k ∧ in64 g.r ∧ in64 g.q
def Gm.sized (g : Gm) : Prop := (1 ≤ g.p ∧ g.p ≤ 4) ∧ (2 ≤ g.b ∧ g.b ≤ 256) ∧ (4 ≤ g.s ∧ g.s ≤ 64) ∧ (1 ≤ g.c ∧ g.c ≤ 16) ∧ (4 ≤ g.k ∧ g.k ≤ 512) ∧ (1 ≤ g.r ∧ g.r ≤ 8) ∧ (1 ≤ g.q ∧ g.q ≤ 8)
instance (g : Gm) : Decidable g.sized := by unfold Gm.sized; infer_instance
def Gm.Right (g : Gm) : Prop := g.sized ∧ g.b % g.p = 0 ∧ g.s % 2 = 0
instance (g : Gm) : Decidable g.Right := by unfold Gm.Right; infer_instance
/-- A geometry is right. -/
def Gm.ok (g : Gm) : Bool := decide g.Right

theorem Gm.ok_yes {g : Gm} (h : g.ok = true) : g.Right := of_decide_eq_true h
theorem Gm.bounds_of {g : Gm} (h : g.ok = true) : (1 ≤ g.p ∧ g.p ≤ 4) ∧ (2 ≤ g.b ∧ g.b ≤ 256) ∧ (4 ≤ g.s ∧ g.s ≤ 64) ∧ (1 ≤ g.c ∧ g.c ≤ 16) ∧ (4 ≤ g.k ∧ g.k ≤ 512) ∧ (1 ≤ g.r ∧ g.r ≤ 8) ∧ (1 ≤ g.q ∧ g.q ≤ 8) := (Gm.ok_yes h).1
/-- Products of numbers that are not negative. -/
theorem mul_le {a b m n : Int} (h1 : 0 ≤ a) (h2 : a ≤ m) (h3 : 0 ≤ b) (h4 : b ≤ n) : 0 ≤ a * b ∧ a * b ≤ m * n :=
  ⟨Int.mul_nonneg h1 h3, Int.mul_le_mul h2 h4 h3 (Int.le_trans h1 h2)⟩

/-- A number less its rest. -/
theorem quo_mul (b p : Int) : b / p * p = b - b % p := by
  have := Int.emod_def b p
  rw [Int.mul_comm] at this
  omega
theorem quo_facts {b p : Int} (h1 : 0 ≤ b) (h2 : 1 ≤ p) : (0 ≤ b / p ∧ b / p ≤ b) ∧ 0 ≤ b / p * p ∧ b / p * p ≤ b := by
  have e := quo_mul b p
  have h3 := Int.emod_nonneg b (show p ≠ 0 by omega)
  have h4 : 0 ≤ b / p := Int.ediv_nonneg h1 (by omega)
  have h5 : b / p ≤ b := Int.ediv_le_self p h1
  have h6 : 0 ≤ b / p * p := Int.mul_nonneg h4 (by omega)
  omega
/-- How many bytes of data, raw bytes. -/
def Gm.data (g : Gm) : Int := if g.ok then g.c * g.k else 0
def Gm.raw (g : Gm) : Int := if g.ok then g.c * (g.k + 2) + 31 else 0
/-- There is such a page, row, block. -/
def Gm.hasPage (g : Gm) (x y : Int) : Prop := g.ok = true ∧ (0 ≤ x ∧ x < g.b) ∧ 0 ≤ y ∧ y < g.s
def Gm.hasRow (g : Gm) (r : Int) : Prop := g.ok = true ∧ 0 ≤ r ∧ r < g.b * g.s
def Gm.hasBlock (g : Gm) (x : Int) : Prop := g.ok = true ∧ 0 ≤ x ∧ x < g.b
instance (g : Gm) (x y : Int) : Decidable (g.hasPage x y) := by unfold Gm.hasPage; infer_instance
instance (g : Gm) (x : Int) : Decidable (g.hasRow x) := by unfold Gm.hasRow; infer_instance
instance (g : Gm) (x : Int) : Decidable (g.hasBlock x) := by unfold Gm.hasBlock; infer_instance
def lowerI (x : Int) : Int := if x < 0 then 0 else x - x % 2
def upperI (x : Int) : Int := if x < 0 then 0 else x - x % 2 + 1
/-- The two bytes of an address. -/
def adr (n : Int) : List Nat := [(n % 256).toNat, (n / 256 % 256).toNat]
theorem adr_lt (n : Int) : ∀ x ∈ adr n, x < 256 := by
  intro x hx
  simp only [adr, List.mem_cons, List.not_mem_nil, or_false] at hx
  omega
end Go.Proofs.Ytimphjgjcnbmnaa
