/-
  Words for memory, of no program: a slice of bytes or of ints that reads as a list in a world, and that it still does where nothing that was there has turned.
-/
import Derived.WalkKit
import Derived.Below
import Derived.Lib.Hide
import Derived.Deep.Draws
import Derived.Laws.OwnMore
import Derived.Maps.AppendAt
namespace Go.Proofs.Ytaidgjidpghgnaa
open Go.RowKit

/-- A list of bytes, as cells. -/
def U8 (l : List Nat) : List Value := l.map fun (x : Nat) => Value.int .u8 (x : Int)
/-- A list of ints, as cells. -/
def I64 (l : List Int) : List Value := l.map fun x => Value.int .i64 x

theorem U8_length (l : List Nat) : (U8 l).length = l.length := by simp [U8]
theorem I64_length (l : List Int) : (I64 l).length = l.length := by simp [I64]
theorem U8_append (a b : List Nat) : U8 (a ++ b) = U8 a ++ U8 b := by simp [U8]
theorem U8_one (l : List Nat) : ∀ u ∈ U8 l, u.oneCell' = true := by
 intro u hu
 simp only [U8, List.mem_map] at hu
 obtain ⟨x, _, rfl⟩ := hu
 rfl
/-- The slice at A, of n elements of one cell each, holds xs; its block is there. -/
def Rd (w : World) (A : Option Addr) (n : Nat) (xs : List Value) : Prop :=
 xs.length = n ∧ (0 < n → ∃ b off, A = some ⟨b, off, none⟩ ∧ b < w.heap.size ∧ ∀ j, j < n → w.cell? ⟨b, off + j, none⟩ = xs[j]?)

section
variable {w w' : World} {A : Option Addr} {n : Nat} {xs : List Value}
theorem Rd.nil_ : Rd w A 0 [] := ⟨rfl, fun h => absurd h (by omega)⟩
theorem Rd.keep (h : Rd w A n xs) (hs : w.heap.size ≤ w'.heap.size) (hk : ∀ p : Addr, p.block < w.heap.size → w'.cell? p = w.cell? p) : Rd w' A n xs :=
 ⟨h.1, fun hn => by
  obtain ⟨b, off, e, hb, hc⟩ := h.2 hn
  exact ⟨b, off, e, by omega, fun j hj => (hk _ hb).trans (hc j hj)⟩⟩
theorem Rd.below (h : Rd w A n xs) (hb : Below w.heap.size w w') : Rd w' A n xs := h.keep hb.size fun _ hp => hb.cell hp
theorem Rd.drew (h : Rd w A n xs) : Rd w.drew A n xs := h
theorem Rd.drewN (h : Rd w A n xs) (k : Nat) : Rd (w.drewN k) A n xs := h
theorem Rd.alloc (h : Rd w A n xs) (o : Obj) : Rd (w.alloc o) A n xs := h.keep (by simp) fun p hp => World.cell?_alloc_lt w o p (by omega)
theorem Rd.own {base : Nat} {e : TypeId} {c : Nat} (h : w.ownsRow base e 1 (.slice A n c) n xs) : Rd w A n xs := by
 refine ⟨by simpa using h.1, fun hn => ?_⟩
 rcases h.2 with ⟨_, h0⟩ | ⟨g, cap, cur, hv, _, hg, _⟩
 ·
  omega
 ·
  simp only [Value.slice.injEq, true_and] at hv
  obtain ⟨rfl, rfl⟩ := hv
  refine ⟨g, 0, rfl, (Array.getElem?_eq_some_iff.1 hg).1, fun j hj => ?_⟩
  rw [Nat.zero_add]
  exact h.cellAt j (by simpa using hj)
end

/-- The slice holds the bytes l. -/
def R8 (w : World) (A : Option Addr) (n : Nat) (l : List Nat) : Prop := Rd w A n (U8 l) ∧ ∀ x ∈ l, x < 256
/-- The slice holds the ints l. -/
def R64 (w : World) (A : Option Addr) (n : Nat) (l : List Int) : Prop := Rd w A n (I64 l) ∧ ∀ x ∈ l, -9223372036854775808 ≤ x ∧ x ≤ 9223372036854775807

section
variable {w w' : World} {A : Option Addr} {n : Nat} {l : List Nat} {z : List Int}
theorem R8.len (h : R8 w A n l) : l.length = n := by have := h.1.1; rwa [U8_length] at this
theorem R64.len (h : R64 w A n z) : z.length = n := by have := h.1.1; rwa [I64_length] at this
theorem R8.below (h : R8 w A n l) (hb : Below w.heap.size w w') : R8 w' A n l := ⟨h.1.below hb, h.2⟩
theorem R64.below (h : R64 w A n z) (hb : Below w.heap.size w w') : R64 w' A n z := ⟨h.1.below hb, h.2⟩
theorem R8.alloc (h : R8 w A n l) (o : Obj) : R8 (w.alloc o) A n l := ⟨h.1.alloc o, h.2⟩
theorem R64.alloc (h : R64 w A n z) (o : Obj) : R64 (w.alloc o) A n z := ⟨h.1.alloc o, h.2⟩
theorem R8.drewN (h : R8 w A n l) (k : Nat) : R8 (w.drewN k) A n l := h
theorem R64.drewN (h : R64 w A n z) (k : Nat) : R64 (w.drewN k) A n z := h
theorem R8.at_ {k : Nat} (h : R8 w A n l) (hk : k < n) :
  ∃ b off x, A = some ⟨b, off, none⟩ ∧ b < w.heap.size ∧ Hid (l[k]? = some x) ∧ x < 256 ∧ w.cell? ⟨b, off + k, none⟩ = some (.int .u8 (x : Int)) := by
 obtain ⟨b, off, e, hb, hc⟩ := h.1.2 (by omega)
 have hl : k < l.length := by have := h.len; omega
 refine ⟨b, off, l[k], e, hb, List.getElem?_eq_getElem hl, h.2 _ (List.getElem_mem hl), ?_⟩
 rw [hc k hk, U8, List.getElem?_map, List.getElem?_eq_getElem hl]
 rfl
theorem R64.at_ {k : Nat} (h : R64 w A n z) (hk : k < n) :
  ∃ b off x, A = some ⟨b, off, none⟩ ∧ b < w.heap.size ∧ Hid (z[k]? = some x) ∧ -9223372036854775808 ≤ x ∧ x ≤ 9223372036854775807 ∧ w.cell? ⟨b, off + k, none⟩ = some (.int .i64 x) := by
 obtain ⟨b, off, e, hb, hc⟩ := h.1.2 (by omega)
 have hl : k < z.length := by have := h.len; omega
 have hx := h.2 _ (List.getElem_mem hl)
 refine ⟨b, off, z[k], e, hb, List.getElem?_eq_getElem hl, hx.1, hx.2, ?_⟩
 rw [hc k hk, I64, List.getElem?_map, List.getElem?_eq_getElem hl]
 rfl
end

/-- A row of the call's own, at its k-th cell: the form of its value, the cell, that it may be written; what is owned behind a store there. -/
theorem own_at {w : World} {base : Nat} {e : TypeId} {A : Option Addr} {n c k : Nat} {xs : List Value} (h : w.ownsRow base e 1 (.slice A n c) n xs) (hk : k < n) :
  ∃ g, A = some ⟨g, 0, none⟩ ∧ base ≤ g ∧ g < w.heap.size ∧ w.cell? ⟨g, k, none⟩ = xs[k]? ∧ w.frozen? ⟨g, k, none⟩ = false ∧
   (∀ (N : Nat) (u : Value), ((w.drewN N).setCell ⟨g, k, none⟩ u).ownsRow base e 1 (.slice A n c) n (xs.set k u)) := by
 rcases h.2 with ⟨_, h0⟩ | ⟨g, cap, cur, hv, hb, hg, _⟩
 ·
  omega
 ·
  simp only [Value.slice.injEq, true_and] at hv
  obtain ⟨rfl, rfl⟩ := hv
  refine ⟨g, rfl, hb, (Array.getElem?_eq_some_iff.1 hg).1, h.cellAt k (by simpa using hk), h.frozenAt k, fun N u => ?_⟩
  exact (World.ownsRow.stored (w := w.drewN N) h k u).1

theorem own_form {w : World} {base : Nat} {e : TypeId} {v : Value} {n : Nat} {xs : List Value} (h : w.ownsRow base e 1 v n xs) : ∃ A c, v = .slice A n c := by
 rcases h.2 with ⟨rfl, rfl⟩ | ⟨g, cap, cur, hv, _⟩
 ·
  exact ⟨_, _, rfl⟩
 ·
  exact ⟨_, _, hv⟩

theorem Rd.news {w : World} {b off n : Nat} {xs : List Value} (h : ∀ j, j < n → w.cell? ⟨b, off + j, none⟩ = xs[j]?) (hl : xs.length = n) : ∀ j u, xs[j]? = some u → w.cell? ((⟨b, off, none⟩ : Addr).add j) = some u := by
 intro j u hu
 have hj : j < n := by
  rcases Nat.lt_or_ge j xs.length with h1 | h1
  ·
   omega
  ·
   rw [List.getElem?_eq_none h1] at hu; cases hu
 have := h j hj
 rw [hu] at this
 rw [← this]
 unfold Addr.add
 split
 ·
  rename_i h0; subst h0; rfl
 ·
  rfl
/-- It returns a slice of the bytes l, and nothing that was there has turned. -/
def MakesB (l : List Nat) (w : World) (e : Ending) (w' : World) : Prop := ∃ A c, e = .returned (.slice A l.length c) ∧ R8 w' A l.length l ∧ Below w.heap.size w w'
/-- It returns a slice of the ints l, and nothing that was there has turned. -/
def MakesI (l : List Int) (w : World) (e : Ending) (w' : World) : Prop := ∃ A c, e = .returned (.slice A l.length c) ∧ R64 w' A l.length l ∧ Below w.heap.size w w'
/-- It returns a slice of the bytes l in memory of its own, and nothing that was there has turned. -/
def OwnsB (e0 : TypeId) (l : List Nat) (w : World) (e : Ending) (w' : World) : Prop :=
 ∃ A c, e = .returned (.slice A l.length c) ∧ w'.ownsRow w.heap.size e0 1 (.slice A l.length c) l.length (U8 l) ∧ Below w.heap.size w w'
/-- It returns v; it has drawn orders, no more. -/
def Quiet (v : Value) (w : World) (e : Ending) (w' : World) : Prop := e = .returned v ∧ ∃ n, w' = w.drewN n
/-- It returns v, and nothing that was there has turned. -/
def Gives (v : Value) (w : World) (e : Ending) (w' : World) : Prop := e = .returned v ∧ Below w.heap.size w w'

theorem below_drewN {B : Nat} {a w : World} (h : Below B a w) (n : Nat) : Below B a (w.drewN n) := ⟨h.os, h.tape, h.output, h.size, h.block⟩
theorem below_of_drewN (w : World) (n : Nat) : Below w.heap.size w (w.drewN n) := below_drewN (Below.refl _ _) n
theorem below_step {w w2 w3 : World} (h : Below w.heap.size w w2) (k : Below w2.heap.size w2 w3) : Below w.heap.size w w3 := h.trans (k.mono h.size)
theorem MakesB.at_ {l : List Nat} {w w' : World} {e : Ending} {n : Nat} (h : MakesB l w e w') (hl : l.length = n) : ∃ A c, e = .returned (.slice A n c) ∧ Hid (R8 w' A n l) ∧ Hid (Below w.heap.size w w') := by
 subst hl
 exact h
theorem MakesI.at_ {l : List Int} {w w' : World} {e : Ending} {n : Nat} (h : MakesI l w e w') (hl : l.length = n) : ∃ A c, e = .returned (.slice A n c) ∧ Hid (R64 w' A n l) ∧ Hid (Below w.heap.size w w') := by
 subst hl
 exact h
/-- Behind a quiet call the world is another one, of which it is enough to know that nothing has turned. -/
theorem Quiet.at_ {v : Value} {w w' : World} {e : Ending} (h : Quiet v w e w') : e = .returned v ∧ Hid (Below w.heap.size w w') := by
 obtain ⟨he, n, rfl⟩ := h
 exact ⟨he, below_of_drewN w n⟩

theorem ret_int {k : IntKind} {a b : Int} (h : a = b) : Ending.returned (.int k a) = .returned (.int k b) := by rw [h]
theorem ret_bool {a b : Bool} (h : a = b) : Ending.returned (.bool a) = .returned (.bool b) := by rw [h]
end Go.Proofs.Ytaidgjidpghgnaa

/-
  Plain facts on geometries, of no program: which are right, sizes, rows, pairs, addresses.
-/
namespace Go.Proofs.Ytaidgjidpghgnaa
open Go.RowKit

/-- A geometry: planes, blocks, pages, chunks, bytes of a chunk, rungs, parts. -/
structure Gm where
 p : Int
 b : Int
 s : Int
 c : Int
 k : Int
 r : Int
 q : Int

def in64 (x : Int) : Prop := -9223372036854775808 ≤ x ∧ x ≤ 9223372036854775807
def Gm.val (g : Gm) : Value := .agg #[.int .i64 g.p, .int .i64 g.b, .int .i64 g.s, .int .i64 g.c, .int .i64 g.k, .int .i64 g.r, .int .i64 g.q]
def Gm.fits (g : Gm) : Prop := in64 g.p ∧ in64 g.b ∧ in64 g.s ∧ in64 g.c ∧ in64 g.k ∧ in64 g.r ∧ in64 g.q
def Gm.sized (g : Gm) : Prop := (1 ≤ g.p ∧ g.p ≤ 4) ∧ (2 ≤ g.b ∧ g.b ≤ 256) ∧ (4 ≤ g.s ∧ g.s ≤ 64) ∧ (1 ≤ g.c ∧ g.c ≤ 16) ∧ (4 ≤ g.k ∧ g.k ≤ 512) ∧ (1 ≤ g.r ∧ g.r ≤ 8) ∧ (1 ≤ g.q ∧ g.q ≤ 8)
instance (g : Gm) : Decidable g.sized := by unfold Gm.sized; infer_instance
def Gm.Right (g : Gm) : Prop := g.sized ∧ g.b % g.p = 0 ∧ g.s % 2 = 0
instance (g : Gm) : Decidable g.Right := by unfold Gm.Right; infer_instance
/-- A geometry is right. -/
def Gm.ok (g : Gm) : Bool := decide g.Right

theorem Gm.ok_yes {g : Gm} (h : g.ok = true) : g.Right := of_decide_eq_true h
theorem Gm.bounds_of {g : Gm} (h : g.ok = true) : (1 ≤ g.p ∧ g.p ≤ 4) ∧ (2 ≤ g.b ∧ g.b ≤ 256) ∧ (4 ≤ g.s ∧ g.s ≤ 64) ∧ (1 ≤ g.c ∧ g.c ≤ 16) ∧ (4 ≤ g.k ∧ g.k ≤ 512) ∧ (1 ≤ g.r ∧ g.r ≤ 8) ∧ (1 ≤ g.q ∧ g.q ≤ 8) := (Gm.ok_yes h).1
/-- Products of numbers that are not negative. -/
theorem mul_le {a b m n : Int} (h1 : 0 ≤ a) (h2 : a ≤ m) (h3 : 0 ≤ b) (h4 : b ≤ n) : 0 ≤ a * b ∧ a * b ≤ m * n :=
 ⟨Int.mul_nonneg h1 h3, Int.mul_le_mul h2 h4 h3 (Int.le_trans h1 h2)⟩

/-- A number less its rest. -/
theorem quo_mul (b p : Int) : b / p * p = b - b % p := by
 have := Int.emod_def b p
 rw [Int.mul_comm] at this
 omega
theorem quo_facts {b p : Int} (h1 : 0 ≤ b) (h2 : 1 ≤ p) : (0 ≤ b / p ∧ b / p ≤ b) ∧ 0 ≤ b / p * p ∧ b / p * p ≤ b := by
 have e := quo_mul b p
 have h3 := Int.emod_nonneg b (show p ≠ 0 by omega)
 have h4 : 0 ≤ b / p := Int.ediv_nonneg h1 (by omega)
 have h5 : b / p ≤ b := Int.ediv_le_self p h1
 have h6 : 0 ≤ b / p * p := Int.mul_nonneg h4 (by omega)
 omega
/-- How many bytes of data, raw bytes. -/
def Gm.data (g : Gm) : Int := if g.ok then g.c * g.k else 0
def Gm.raw (g : Gm) : Int := if g.ok then g.c * (g.k + 2) + 31 else 0
/-- There is such a page, row, block. -/
def Gm.hasPage (g : Gm) (x y : Int) : Prop := g.ok = true ∧ (0 ≤ x ∧ x < g.b) ∧ 0 ≤ y ∧ y < g.s
def Gm.hasRow (g : Gm) (r : Int) : Prop := g.ok = true ∧ 0 ≤ r ∧ r < g.b * g.s
def Gm.hasBlock (g : Gm) (x : Int) : Prop := g.ok = true ∧ 0 ≤ x ∧ x < g.b
instance (g : Gm) (x y : Int) : Decidable (g.hasPage x y) := by unfold Gm.hasPage; infer_instance
instance (g : Gm) (x : Int) : Decidable (g.hasRow x) := by unfold Gm.hasRow; infer_instance
instance (g : Gm) (x : Int) : Decidable (g.hasBlock x) := by unfold Gm.hasBlock; infer_instance
def lowerI (x : Int) : Int := if x < 0 then 0 else x - x % 2
def upperI (x : Int) : Int := if x < 0 then 0 else x - x % 2 + 1
/-- The two bytes of an address. -/
def adr (n : Int) : List Nat := [(n % 256).toNat, (n / 256 % 256).toNat]
end Go.Proofs.Ytaidgjidpghgnaa
