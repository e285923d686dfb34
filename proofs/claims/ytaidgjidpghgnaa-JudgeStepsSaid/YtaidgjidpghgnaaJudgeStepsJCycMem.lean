/-
  A slice of cycles that reads as a list in a world: two cells an element. Parts, rows of one's own, append.
-/
import Derived.Test.YtaidgjidpghgnaaJudgeStepsJ2
import Derived.Test.YtaidgjidpghgnaaJudgeStepsJ4
namespace Go.Proofs.Ytaidgjidpghgnaa
open Go.RowKit

/-- A list of cycles, as cells. -/
def CyC (l : List Cy) : List Value := l.flatMap fun t => [.int .i64 t.k, .int .u8 (t.b : Int)]
theorem CyC_length (l : List Cy) : (CyC l).length = l.length * 2 := by
 induction l with
 | nil => rfl
 | cons t l ih => simp only [CyC, List.flatMap_cons, List.length_append, List.length_cons, List.length_nil] at ih ⊢; omega
theorem CyC_at {l : List Cy} {k : Nat} {t : Cy} (h : l[k]? = some t) (j : Nat) (hj : j < 2) : (CyC l)[k * 2 + j]? = [Value.int .i64 t.k, .int .u8 (t.b : Int)][j]? := by
 induction l generalizing k with
 | nil => simp at h
 | cons x l ih =>
  have e : CyC (x :: l) = [Value.int .i64 x.k, .int .u8 (x.b : Int)] ++ CyC l := by simp [CyC]
  cases k with
  | zero =>
   simp at h
   subst h
   rw [e, Nat.zero_mul, Nat.zero_add, List.getElem?_append_left (by simpa using hj)]
  | succ k =>
   simp at h
   rw [e, List.getElem?_append_right (by simp; omega), ← ih h]
   congr 1
   simp
   omega

/-- Are its kind and its byte within their types? -/
def inC (t : Cy) : Prop := -9223372036854775808 ≤ t.k ∧ t.k ≤ 9223372036854775807 ∧ t.b < 256
/-- The slice at A, of n elements of two cells each, holds the cycles l; its block is there. -/
def RC (w : World) (A : Option Addr) (n : Nat) (l : List Cy) : Prop :=
 l.length = n ∧ (∀ t ∈ l, inC t) ∧ (0 < n → ∃ b off, A = some ⟨b, off, none⟩ ∧ b < w.heap.size ∧ ∀ j, j < n * 2 → w.cell? ⟨b, off + j, none⟩ = (CyC l)[j]?)
section
variable {w w' : World} {A : Option Addr} {n : Nat} {l : List Cy}
theorem RC.len (h : RC w A n l) : l.length = n := h.1
theorem RC.keep (h : RC w A n l) (hs : w.heap.size ≤ w'.heap.size) (hk : ∀ p : Addr, p.block < w.heap.size → w'.cell? p = w.cell? p) : RC w' A n l :=
 ⟨h.1, h.2.1, fun hn => by
  obtain ⟨b, off, e, hb, hc⟩ := h.2.2 hn
  exact ⟨b, off, e, by omega, fun j hj => (hk _ hb).trans (hc j hj)⟩⟩
theorem RC.below (h : RC w A n l) (hb : Below w.heap.size w w') : RC w' A n l := h.keep hb.size fun _ hp => hb.cell hp
theorem RC.drewN (h : RC w A n l) (k : Nat) : RC (w.drewN k) A n l := h
theorem RC.alloc (h : RC w A n l) (o : Obj) : RC (w.alloc o) A n l := h.keep (by simp) fun p hp => World.cell?_alloc_lt w o p (by omega)
theorem RC.nil_ (A : Option Addr) : RC w A 0 [] := ⟨rfl, by simp, fun h => absurd h (by omega)⟩
theorem RC.at_ {k : Nat} (h : RC w A n l) (hk : k < n) :
  ∃ b off t, A = some ⟨b, off, none⟩ ∧ b < w.heap.size ∧ Hid (l[k]? = some t) ∧ inC t ∧ w.cell? ⟨b, off + k * 2, none⟩ = some (.int .i64 t.k) ∧ w.cell? ⟨b, off + k * 2 + 1, none⟩ = some (.int .u8 (t.b : Int)) := by
 obtain ⟨b, off, e, hb, hc⟩ := h.2.2 (by omega)
 have hl : k < l.length := by have := h.len; omega
 have ht : l[k]? = some l[k] := List.getElem?_eq_getElem hl
 refine ⟨b, off, l[k], e, hb, ht, h.2.1 _ (List.getElem_mem hl), ?_, ?_⟩
 ·
  exact (hc (k * 2 + 0) (by omega)).trans (CyC_at ht 0 (by omega))
 ·
  exact (hc (k * 2 + 1) (by omega)).trans (CyC_at ht 1 (by omega))
theorem RC.own {base : Nat} {e : TypeId} {c : Nat} (h : w.ownsRow base e 2 (.slice A n c) n (CyC l)) (hi : ∀ t ∈ l, inC t) : RC w A n l := by
 have h1 := h.1
 rw [CyC_length] at h1
 refine ⟨by omega, hi, fun hn => ?_⟩
 rcases h.2 with ⟨_, h0⟩ | ⟨g, cap, cur, hv, _, hg, _, _, _, ht⟩
 ·
  omega
 ·
  simp only [Value.slice.injEq, true_and] at hv
  obtain ⟨rfl, rfl⟩ := hv
  refine ⟨g, 0, rfl, (Array.getElem?_eq_some_iff.1 hg).1, fun j hj => ?_⟩
  rw [Nat.zero_add, ← ht, List.getElem?_take, if_pos hj, cell_of_row w g j cur e (0, 0) hg]
  simp
/-- What the frame of a law tells of a slice of cycles that came in. -/
theorem RC.of_kinds {a : Option Addr} {len cap : Nat} {Z : Nat → Nat → Int}
  (h : (a = none ∧ len = 0 ∧ cap = 0) ∨
   ∃ x, a = some x ∧ len ≤ cap ∧ cap ≤ maxLen ∧ ∀ r, r < cap → ∀ j k, [IntKind.i64, .u8][j]? = some k → w.cell? (x.add (r * 2 + j)) = some (.int k (Z r j)) ∧ (Lit.int k (Z r j)).wf = true) :
  len ≤ 9223372036854775807 ∧ (a = none → cap = 0) ∧ len ≤ cap ∧ ∃ l, RC w a len l := by
 rcases h with ⟨rfl, rfl, rfl⟩ | ⟨x, rfl, hl, hm, hc⟩
 ·
  exact ⟨by omega, fun _ => rfl, Nat.le_refl _, [], RC.nil_ _⟩
 ·
  have hel : ∀ i, i < len → ((List.range len).map fun i => (⟨Z i 0, (Z i 1).toNat⟩ : Cy))[i]? = some ⟨Z i 0, (Z i 1).toNat⟩ := fun i hi => by
   rw [List.getElem?_map, List.getElem?_range hi]
   rfl
  have hw1 : ∀ i, i < len → 0 ≤ Z i 1 ∧ Z i 1 ≤ 255 := fun i hi => by
   have := (hc i (by omega) 1 .u8 rfl).2
   simpa [Lit.wf, IntKind.min, IntKind.max, IntKind.signed, IntKind.bits] using this
  refine ⟨by unfold maxLen at hm; omega, (fun h => by cases h), hl, (List.range len).map fun i => (⟨Z i 0, (Z i 1).toNat⟩ : Cy), ⟨by rw [List.length_map, List.length_range], ?_, fun hn => ?_⟩⟩
  ·
   intro t ht
   simp only [List.mem_map, List.mem_range] at ht
   obtain ⟨i, hi, rfl⟩ := ht
   have h0 := (hc i (by omega) 0 .i64 rfl).2
   have h1 := hw1 i hi
   have h0' : -9223372036854775808 ≤ Z i 0 ∧ Z i 0 ≤ 9223372036854775807 := by simpa [Lit.wf, IntKind.min, IntKind.max, IntKind.signed, IntKind.bits] using h0
   exact ⟨h0'.1, h0'.2, by show (Z i 1).toNat < 256; omega⟩
  ·
   obtain ⟨b, off, spot⟩ := x
   have h0 := (hc 0 (by omega) 0 .i64 rfl).1
   have hs : spot = none := by simpa [Addr.add] using World.cell?_spot h0
   subst hs
   have hb : b < w.heap.size := by have := World.block_lt_of_cell? w _ h0; simpa [Addr.add] using this
   refine ⟨b, off, rfl, hb, fun j hj => ?_⟩
   have e : ∀ j, ((⟨b, off, none⟩ : Addr).add j) = ⟨b, off + j, none⟩ := by intro j; unfold Addr.add; split <;> simp_all
   obtain ⟨q, r, hr, rfl⟩ : ∃ q r, r < 2 ∧ j = q * 2 + r := ⟨j / 2, j % 2, by omega, by omega⟩
   have hq : q < len := by omega
   rw [CyC_at (hel q hq) r hr]
   have hr2 : r = 0 ∨ r = 1 := by omega
   rcases hr2 with rfl | rfl
   ·
    have h1 := (hc q (by omega) 0 .i64 rfl).1
    rw [e] at h1
    exact h1
   ·
    have h1 := (hc q (by omega) 1 .u8 rfl).1
    rw [e] at h1
    rw [h1]
    have := hw1 q hq
    simp
    omega
end
end Go.Proofs.Ytaidgjidpghgnaa
