/-
  Words for memory, of no program: a slice of bytes or of ints that reads as a list in a world, and that it still does where nothing that was there has turned.
-/
import Derived.WalkKit
import Derived.Below
import Derived.Lib.Hide
import Derived.Deep.Draws
import Derived.Laws.OwnMore
import Derived.Maps.AppendAt
namespace Go.Proofs.Ytimphjgjcnbmnaa
open Go.RowKit

/-- A list of bytes, as cells. -/
def U8 (l : List Nat) : List Value := l.map fun (x : Nat) => Value.int .u8 (x : Int)
/-- A list of ints, as cells. -/
def I64 (l : List Int) : List Value := l.map fun x => Value.int .i64 x

theorem U8_length (l : List Nat) : (U8 l).length = l.length := by simp [U8]
theorem I64_length (l : List Int) : (I64 l).length = l.length := by simp [I64]
theorem U8_append (a b : List Nat) : U8 (a ++ b) = U8 a ++ U8 b := by simp [U8]
theorem I64_append (a b : List Int) : I64 (a ++ b) = I64 a ++ I64 b := by simp [I64]
theorem U8_set (l : List Nat) (j x : Nat) : U8 (l.set j x) = (U8 l).set j (.int .u8 (x : Int)) := by simp [U8, List.map_set]
theorem I64_set (l : List Int) (j : Nat) (x : Int) : I64 (l.set j x) = (I64 l).set j (.int .i64 x) := by simp [I64, List.map_set]
theorem U8_one (l : List Nat) : ∀ u ∈ U8 l, u.oneCell' = true := by
  intro u hu
  simp only [U8, List.mem_map] at hu
  obtain ⟨x, _, rfl⟩ := hu
  rfl
theorem I64_one (l : List Int) : ∀ u ∈ I64 l, u.oneCell' = true := by
  intro u hu
  simp only [I64, List.mem_map] at hu
  obtain ⟨x, _, rfl⟩ := hu
  rfl

/-- The slice at A, of n elements of one cell each, holds xs; its block is there. -/
def Rd (w : World) (A : Option Addr) (n : Nat) (xs : List Value) : Prop :=
  xs.length = n ∧ (0 < n → ∃ b off, A = some ⟨b, off, none⟩ ∧ b < w.heap.size ∧ ∀ j, j < n → w.cell? ⟨b, off + j, none⟩ = xs[j]?)

section
variable {w w' : World} {A : Option Addr} {n : Nat} {xs : List Value}
theorem Rd.nil_ : Rd w A 0 [] := ⟨rfl, fun h => absurd h (by omega)⟩
theorem Rd.keep (h : Rd w A n xs) (hs : w.heap.size ≤ w'.heap.size) (hk : ∀ p : Addr, p.block < w.heap.size → w'.cell? p = w.cell? p) : Rd w' A n xs :=
  ⟨h.1, fun hn => by
    obtain ⟨b, off, e, hb, hc⟩ := h.2 hn
    exact ⟨b, off, e, by omega, fun j hj => (hk _ hb).trans (hc j hj)⟩⟩
theorem Rd.below (h : Rd w A n xs) (hb : Below w.heap.size w w') : Rd w' A n xs := h.keep hb.size fun _ hp => hb.cell hp
theorem Rd.drew (h : Rd w A n xs) : Rd w.drew A n xs := h
theorem Rd.drewN (h : Rd w A n xs) (k : Nat) : Rd (w.drewN k) A n xs := h
theorem Rd.alloc (h : Rd w A n xs) (o : Obj) : Rd (w.alloc o) A n xs := h.keep (by simp) fun p hp => World.cell?_alloc_lt w o p (by omega)
theorem Rd.own {base : Nat} {e : TypeId} {c : Nat} (h : w.ownsRow base e 1 (.slice A n c) n xs) : Rd w A n xs := by
  refine ⟨by simpa using h.1, fun hn => ?_⟩
  rcases h.2 with ⟨_, h0⟩ | ⟨g, cap, cur, hv, _, hg, _⟩
  · omega
  · simp only [Value.slice.injEq, true_and] at hv
    obtain ⟨rfl, rfl⟩ := hv
    refine ⟨g, 0, rfl, (Array.getElem?_eq_some_iff.1 hg).1, fun j hj => ?_⟩
    rw [Nat.zero_add]
    exact h.cellAt j (by simpa using hj)
end

/-- The slice holds the bytes l. -/
def R8 (w : World) (A : Option Addr) (n : Nat) (l : List Nat) : Prop := Rd w A n (U8 l) ∧ ∀ x ∈ l, x < 256
/-- The slice holds the ints l. -/
def R64 (w : World) (A : Option Addr) (n : Nat) (l : List Int) : Prop := Rd w A n (I64 l) ∧ ∀ x ∈ l, -9223372036854775808 ≤ x ∧ x ≤ 9223372036854775807

section
variable {w w' : World} {A : Option Addr} {n : Nat} {l : List Nat} {z : List Int}
theorem R8.len (h : R8 w A n l) : l.length = n := by have := h.1.1; rwa [U8_length] at this
theorem R64.len (h : R64 w A n z) : z.length = n := by have := h.1.1; rwa [I64_length] at this
theorem R8.below (h : R8 w A n l) (hb : Below w.heap.size w w') : R8 w' A n l := ⟨h.1.below hb, h.2⟩
theorem R64.below (h : R64 w A n z) (hb : Below w.heap.size w w') : R64 w' A n z := ⟨h.1.below hb, h.2⟩
theorem R8.alloc (h : R8 w A n l) (o : Obj) : R8 (w.alloc o) A n l := ⟨h.1.alloc o, h.2⟩
theorem R64.alloc (h : R64 w A n z) (o : Obj) : R64 (w.alloc o) A n z := ⟨h.1.alloc o, h.2⟩
theorem R8.drewN (h : R8 w A n l) (k : Nat) : R8 (w.drewN k) A n l := h
theorem R64.drewN (h : R64 w A n z) (k : Nat) : R64 (w.drewN k) A n z := h
theorem R8.at_ {k : Nat} (h : R8 w A n l) (hk : k < n) :
    ∃ b off x, A = some ⟨b, off, none⟩ ∧ b < w.heap.size ∧ Hid (l[k]? = some x) ∧ x < 256 ∧ w.cell? ⟨b, off + k, none⟩ = some (.int .u8 (x : Int)) := by
  obtain ⟨b, off, e, hb, hc⟩ := h.1.2 (by omega)
  have hl : k < l.length := by have := h.len; omega
  refine ⟨b, off, l[k], e, hb, List.getElem?_eq_getElem hl, h.2 _ (List.getElem_mem hl), ?_⟩
  rw [hc k hk, U8, List.getElem?_map, List.getElem?_eq_getElem hl]
  rfl
theorem R64.at_ {k : Nat} (h : R64 w A n z) (hk : k < n) :
    ∃ b off x, A = some ⟨b, off, none⟩ ∧ b < w.heap.size ∧ Hid (z[k]? = some x) ∧ -9223372036854775808 ≤ x ∧ x ≤ 9223372036854775807 ∧ w.cell? ⟨b, off + k, none⟩ = some (.int .i64 x) := by
  obtain ⟨b, off, e, hb, hc⟩ := h.1.2 (by omega)
  have hl : k < z.length := by have := h.len; omega
  have hx := h.2 _ (List.getElem_mem hl)
  refine ⟨b, off, z[k], e, hb, List.getElem?_eq_getElem hl, hx.1, hx.2, ?_⟩
  rw [hc k hk, I64, List.getElem?_map, List.getElem?_eq_getElem hl]
  rfl
end

/-- A row of the call's own, at its k-th cell: the form of its value, the cell, that it may be written; what is owned behind a store there. -/
theorem own_at {w : World} {base : Nat} {e : TypeId} {A : Option Addr} {n c k : Nat} {xs : List Value} (h : w.ownsRow base e 1 (.slice A n c) n xs) (hk : k < n) :
    ∃ g, A = some ⟨g, 0, none⟩ ∧ base ≤ g ∧ g < w.heap.size ∧ w.cell? ⟨g, k, none⟩ = xs[k]? ∧ w.frozen? ⟨g, k, none⟩ = false ∧
      (∀ (N : Nat) (u : Value), ((w.drewN N).setCell ⟨g, k, none⟩ u).ownsRow base e 1 (.slice A n c) n (xs.set k u)) := by
  rcases h.2 with ⟨_, h0⟩ | ⟨g, cap, cur, hv, hb, hg, _⟩
  · omega
  · simp only [Value.slice.injEq, true_and] at hv
    obtain ⟨rfl, rfl⟩ := hv
    refine ⟨g, rfl, hb, (Array.getElem?_eq_some_iff.1 hg).1, h.cellAt k (by simpa using hk), h.frozenAt k, fun N u => ?_⟩
    exact (World.ownsRow.stored (w := w.drewN N) h k u).1

theorem own_form {w : World} {base : Nat} {e : TypeId} {v : Value} {n : Nat} {xs : List Value} (h : w.ownsRow base e 1 v n xs) : ∃ A c, v = .slice A n c := by
  rcases h.2 with ⟨rfl, rfl⟩ | ⟨g, cap, cur, hv, _⟩
  · exact ⟨_, _, rfl⟩
  · exact ⟨_, _, hv⟩

theorem Rd.news {w : World} {b off n : Nat} {xs : List Value} (h : ∀ j, j < n → w.cell? ⟨b, off + j, none⟩ = xs[j]?) (hl : xs.length = n) : ∀ j u, xs[j]? = some u → w.cell? ((⟨b, off, none⟩ : Addr).add j) = some u := by
  intro j u hu
  have hj : j < n := by
    rcases Nat.lt_or_ge j xs.length with h1 | h1
    · omega
    · rw [List.getElem?_eq_none h1] at hu; cases hu
  have := h j hj
  rw [hu] at this
  rw [← this]
  unfold Addr.add
  split
  · rename_i h0; subst h0; rfl
  · rfl
theorem one_new (w : World) (u : Value) (t : TypeId) : ∀ j v, [u][j]? = some v → (w.alloc (.cells #[u] t)).cell? ((⟨w.heap.size, 0, none⟩ : Addr).add j) = some v := by
  intro j v hj
  match j, hj with
  | 0, hj => simp at hj; subst hj; simp [Addr.add]

/-- It returns a slice of the bytes l, and nothing that was there has turned. -/
def MakesB (l : List Nat) (w : World) (e : Ending) (w' : World) : Prop := ∃ A c, e = .returned (.slice A l.length c) ∧ R8 w' A l.length l ∧ Below w.heap.size w w'
/-- It returns a slice of the ints l, and nothing that was there has turned. -/
def MakesI (l : List Int) (w : World) (e : Ending) (w' : World) : Prop := ∃ A c, e = .returned (.slice A l.length c) ∧ R64 w' A l.length l ∧ Below w.heap.size w w'
/-- It returns a slice of the bytes l in memory of its own, and nothing that was there has turned. -/
def OwnsB (e0 : TypeId) (l : List Nat) (w : World) (e : Ending) (w' : World) : Prop :=
  ∃ A c, e = .returned (.slice A l.length c) ∧ w'.ownsRow w.heap.size e0 1 (.slice A l.length c) l.length (U8 l) ∧ Below w.heap.size w w'
/-- It returns v; it has drawn orders, no more. -/
def Quiet (v : Value) (w : World) (e : Ending) (w' : World) : Prop := e = .returned v ∧ ∃ n, w' = w.drewN n
/-- It returns v, and nothing that was there has turned. -/
def Gives (v : Value) (w : World) (e : Ending) (w' : World) : Prop := e = .returned v ∧ Below w.heap.size w w'

theorem below_drewN {B : Nat} {a w : World} (h : Below B a w) (n : Nat) : Below B a (w.drewN n) := ⟨h.os, h.tape, h.output, h.size, h.block⟩
theorem below_of_drewN (w : World) (n : Nat) : Below w.heap.size w (w.drewN n) := below_drewN (Below.refl _ _) n
theorem below_step {w w2 w3 : World} (h : Below w.heap.size w w2) (k : Below w2.heap.size w2 w3) : Below w.heap.size w w3 := h.trans (k.mono h.size)
theorem MakesB.at_ {l : List Nat} {w w' : World} {e : Ending} {n : Nat} (h : MakesB l w e w') (hl : l.length = n) : ∃ A c, e = .returned (.slice A n c) ∧ Hid (R8 w' A n l) ∧ Hid (Below w.heap.size w w') := by
  subst hl
  exact h
theorem MakesI.at_ {l : List Int} {w w' : World} {e : Ending} {n : Nat} (h : MakesI l w e w') (hl : l.length = n) : ∃ A c, e = .returned (.slice A n c) ∧ Hid (R64 w' A n l) ∧ Hid (Below w.heap.size w w') := by
  subst hl
  exact h
/-- Behind a quiet call the world is another one, of which it is enough to know that nothing has turned. -/
theorem Quiet.at_ {v : Value} {w w' : World} {e : Ending} (h : Quiet v w e w') : e = .returned v ∧ Hid (Below w.heap.size w w') := by
  obtain ⟨he, n, rfl⟩ := h
  exact ⟨he, below_of_drewN w n⟩

/-- What the frame of a law tells of a slice of bytes that came in, as bytes. -/
theorem R8.of_cells {w : World} {a : Option Addr} {len cap : Nat} {zs : List Int}
    (h : (a = none ∧ len = 0 ∧ cap = 0 ∧ zs = []) ∨
      ∃ x, a = some x ∧ len ≤ cap ∧ cap ≤ maxLen ∧ zs.length = cap ∧ (∀ i, i < zs.length → w.cell? (x.add i) = some (.int .u8 (zs.getD i 0))) ∧ ∀ n ∈ zs, (Lit.int .u8 n).wf = true) :
    len ≤ 9223372036854775807 ∧ ∃ l, R8 w a len l := by
  rcases h with ⟨rfl, rfl, _, _⟩ | ⟨x, rfl, hl, hm, hz, hc, hw⟩
  · exact ⟨by omega, [], Rd.nil_, by simp⟩
  · refine ⟨by unfold maxLen at hm; omega, (zs.take len).map Int.toNat, ⟨⟨by simp [U8]; omega, fun hn => ?_⟩, ?_⟩⟩
    · obtain ⟨b, off, spot⟩ := x
      have h0 := hc 0 (by omega)
      have hs : spot = none := by simpa [Addr.add] using World.cell?_spot h0
      subst hs
      have hb : b < w.heap.size := by have := World.block_lt_of_cell? w _ h0; simpa [Addr.add] using this
      refine ⟨b, off, rfl, hb, fun j hj => ?_⟩
      have hj1 : j < zs.length := by omega
      have h1 := hc j hj1
      have e : ((⟨b, off, none⟩ : Addr).add j) = ⟨b, off + j, none⟩ := by unfold Addr.add; split <;> simp_all
      rw [e] at h1
      rw [h1]
      have hwf := hw _ (List.getElem_mem hj1)
      have hnn : 0 ≤ zs[j] ∧ zs[j] ≤ 255 := by simpa [Lit.wf, IntKind.min, IntKind.max, IntKind.signed, IntKind.bits] using hwf
      have hj2 : j < (zs.take len).length := by simp; omega
      simp only [U8, List.getElem?_map]
      rw [List.getElem?_eq_getElem hj2]
      simp [hj1]
      omega
    · intro n hn
      simp only [List.mem_map] at hn
      obtain ⟨z, hz1, rfl⟩ := hn
      have hwf := hw _ (List.mem_of_mem_take hz1)
      have hnn : 0 ≤ z ∧ z ≤ 255 := by simpa [Lit.wf, IntKind.min, IntKind.max, IntKind.signed, IntKind.bits] using hwf
      omega
theorem cap_of_cells {w : World} {a : Option Addr} {len cap : Nat} {zs : List Int} {k : IntKind}
    (h : (a = none ∧ len = 0 ∧ cap = 0 ∧ zs = []) ∨
      ∃ x, a = some x ∧ len ≤ cap ∧ cap ≤ maxLen ∧ zs.length = cap ∧ (∀ i, i < zs.length → w.cell? (x.add i) = some (.int k (zs.getD i 0))) ∧ ∀ n ∈ zs, (Lit.int k n).wf = true) :
    len ≤ cap := by
  rcases h with ⟨_, rfl, rfl, _⟩ | ⟨_, _, h, _⟩
  · exact Nat.le_refl _
  · exact h
theorem nil_of_cells {w : World} {a : Option Addr} {len cap : Nat} {zs : List Int} {k : IntKind}
    (h : (a = none ∧ len = 0 ∧ cap = 0 ∧ zs = []) ∨
      ∃ x, a = some x ∧ len ≤ cap ∧ cap ≤ maxLen ∧ zs.length = cap ∧ (∀ i, i < zs.length → w.cell? (x.add i) = some (.int k (zs.getD i 0))) ∧ ∀ n ∈ zs, (Lit.int k n).wf = true) :
    a = none → cap = 0 := by
  rintro rfl
  rcases h with ⟨_, _, h, _⟩ | ⟨_, h, _⟩
  · exact h
  · cases h
/-- The same of a slice of ints. -/
theorem R64.of_cells {w : World} {a : Option Addr} {len cap : Nat} {zs : List Int}
    (h : (a = none ∧ len = 0 ∧ cap = 0 ∧ zs = []) ∨
      ∃ x, a = some x ∧ len ≤ cap ∧ cap ≤ maxLen ∧ zs.length = cap ∧ (∀ i, i < zs.length → w.cell? (x.add i) = some (.int .i64 (zs.getD i 0))) ∧ ∀ n ∈ zs, (Lit.int .i64 n).wf = true) :
    len ≤ 9223372036854775807 ∧ ∃ l, R64 w a len l := by
  rcases h with ⟨rfl, rfl, _, _⟩ | ⟨x, rfl, hl, hm, hz, hc, hw⟩
  · exact ⟨by omega, [], Rd.nil_, by simp⟩
  · refine ⟨by unfold maxLen at hm; omega, zs.take len, ⟨⟨by simp [I64]; omega, fun hn => ?_⟩, ?_⟩⟩
    · obtain ⟨b, off, spot⟩ := x
      have h0 := hc 0 (by omega)
      have hs : spot = none := by simpa [Addr.add] using World.cell?_spot h0
      subst hs
      have hb : b < w.heap.size := by have := World.block_lt_of_cell? w _ h0; simpa [Addr.add] using this
      refine ⟨b, off, rfl, hb, fun j hj => ?_⟩
      have hj1 : j < zs.length := by omega
      have h1 := hc j hj1
      have e : ((⟨b, off, none⟩ : Addr).add j) = ⟨b, off + j, none⟩ := by unfold Addr.add; split <;> simp_all
      rw [e] at h1
      rw [h1]
      have hj2 : j < (zs.take len).length := by simp; omega
      simp only [I64, List.getElem?_map]
      rw [List.getElem?_eq_getElem hj2]
      simp [hj1]
    · intro z hz1
      have hwf := hw _ (List.mem_of_mem_take hz1)
      simpa [Lit.wf, IntKind.min, IntKind.max, IntKind.signed, IntKind.bits] using hwf

theorem ret_int {k : IntKind} {a b : Int} (h : a = b) : Ending.returned (.int k a) = .returned (.int k b) := by rw [h]
theorem ret_bool {a b : Bool} (h : a = b) : Ending.returned (.bool a) = .returned (.bool b) := by rw [h]
end Go.Proofs.Ytimphjgjcnbmnaa
