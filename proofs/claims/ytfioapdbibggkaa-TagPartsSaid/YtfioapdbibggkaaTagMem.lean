/-
  A slice of tags that reads as a list in a world: four cells an element. Parts, rows of one's own, append.
-/
import Derived.Test.YtfioapdbibggkaaTagA
namespace Go.Proofs.Ytfioapdbibggkaa
open Go.RowKit

/-- A list of tags, as cells. -/
def TC (l : List Tg) : List Value := l.flatMap fun t => [.int .i64 t.k, .int .i64 t.s, .int .i64 t.q, .int .i64 t.e]
theorem TC_length (l : List Tg) : (TC l).length = l.length * 4 := by
  induction l with
  | nil => rfl
  | cons t l ih => simp only [TC, List.flatMap_cons, List.length_append, List.length_cons, List.length_nil] at ih ⊢; omega
theorem TC_append (a b : List Tg) : TC (a ++ b) = TC a ++ TC b := by simp [TC]
theorem TC_one (l : List Tg) : ∀ u ∈ TC l, u.oneCell' = true := by
  intro u hu
  simp only [TC, List.mem_flatMap, List.mem_cons, List.not_mem_nil, or_false] at hu
  obtain ⟨t, _, rfl | rfl | rfl | rfl⟩ := hu <;> rfl
theorem TC_at {l : List Tg} {k : Nat} {t : Tg} (h : l[k]? = some t) (j : Nat) (hj : j < 4) : (TC l)[k * 4 + j]? = [Value.int .i64 t.k, .int .i64 t.s, .int .i64 t.q, .int .i64 t.e][j]? := by
  induction l generalizing k with
  | nil => simp at h
  | cons x l ih =>
    have e : TC (x :: l) = [Value.int .i64 x.k, .int .i64 x.s, .int .i64 x.q, .int .i64 x.e] ++ TC l := by simp [TC]
    cases k with
    | zero =>
      simp at h
      subst h
      rw [e, Nat.zero_mul, Nat.zero_add, List.getElem?_append_left (by simpa using hj)]
    | succ k =>
      simp at h
      rw [e, List.getElem?_append_right (by simp; omega), ← ih h]
      congr 1
      simp
      omega

/-- The slice at A, of n elements of four cells each, holds the tags l; its block is there. -/
def RT (w : World) (A : Option Addr) (n : Nat) (l : List Tg) : Prop :=
  l.length = n ∧ (0 < n → ∃ b off, A = some ⟨b, off, none⟩ ∧ b < w.heap.size ∧ ∀ j, j < n * 4 → w.cell? ⟨b, off + j, none⟩ = (TC l)[j]?)
section
variable {w w' : World} {A : Option Addr} {n : Nat} {l : List Tg}
theorem RT.len (h : RT w A n l) : l.length = n := h.1
theorem RT.keep (h : RT w A n l) (hs : w.heap.size ≤ w'.heap.size) (hk : ∀ p : Addr, p.block < w.heap.size → w'.cell? p = w.cell? p) : RT w' A n l :=
  ⟨h.1, fun hn => by
    obtain ⟨b, off, e, hb, hc⟩ := h.2 hn
    exact ⟨b, off, e, by omega, fun j hj => (hk _ hb).trans (hc j hj)⟩⟩
theorem RT.below (h : RT w A n l) (hb : Below w.heap.size w w') : RT w' A n l := h.keep hb.size fun _ hp => hb.cell hp
theorem RT.drew (h : RT w A n l) : RT w.drew A n l := h
theorem RT.alloc (h : RT w A n l) (o : Obj) : RT (w.alloc o) A n l := h.keep (by simp) fun p hp => World.cell?_alloc_lt w o p (by omega)
theorem RT.at_ {k : Nat} (h : RT w A n l) (hk : k < n) :
    ∃ b off t, A = some ⟨b, off, none⟩ ∧ b < w.heap.size ∧ Hid (l[k]? = some t) ∧ w.cell? ⟨b, off + k * 4, none⟩ = some (.int .i64 t.k) ∧ w.cell? ⟨b, off + k * 4 + 1, none⟩ = some (.int .i64 t.s) ∧ w.cell? ⟨b, off + k * 4 + 2, none⟩ = some (.int .i64 t.q) ∧ w.cell? ⟨b, off + k * 4 + 3, none⟩ = some (.int .i64 t.e) := by
  obtain ⟨b, off, e, hb, hc⟩ := h.2 (by omega)
  have hl : k < l.length := by have := h.len; omega
  have ht : l[k]? = some l[k] := List.getElem?_eq_getElem hl
  refine ⟨b, off, l[k], e, hb, ht, ?_, ?_, ?_, ?_⟩
  · exact (hc (k * 4 + 0) (by omega)).trans (TC_at ht 0 (by omega))
  · exact (hc (k * 4 + 1) (by omega)).trans (TC_at ht 1 (by omega))
  · exact (hc (k * 4 + 2) (by omega)).trans (TC_at ht 2 (by omega))
  · exact (hc (k * 4 + 3) (by omega)).trans (TC_at ht 3 (by omega))
theorem RT.own {base : Nat} {e : TypeId} {c : Nat} (h : w.ownsRow base e 4 (.slice A n c) n (TC l)) : RT w A n l := by
  have h1 := h.1
  rw [TC_length] at h1
  refine ⟨by omega, fun hn => ?_⟩
  rcases h.2 with ⟨_, h0⟩ | ⟨g, cap, cur, hv, _, hg, _, _, _, ht⟩
  · omega
  · simp only [Value.slice.injEq, true_and] at hv
    obtain ⟨rfl, rfl⟩ := hv
    refine ⟨g, 0, rfl, (Array.getElem?_eq_some_iff.1 hg).1, fun j hj => ?_⟩
    rw [Nat.zero_add, ← ht, List.getElem?_take, if_pos hj, cell_of_row w g j cur e (0, 0) hg]
    simp
/-- What the frame of a law tells of a slice of tags that came in. -/
theorem RT.of_cells {a : Option Addr} {len cap : Nat} {zs : List Int}
    (h : (a = none ∧ len = 0 ∧ cap = 0 ∧ zs = []) ∨
      ∃ x, a = some x ∧ len ≤ cap ∧ cap ≤ maxLen ∧ zs.length = len * 4 ∧ (∀ i, i < zs.length → w.cell? (x.add i) = some (.int .i64 (zs.getD i 0))) ∧ ∀ n ∈ zs, (Lit.int .i64 n).wf = true) :
    len ≤ 9223372036854775807 ∧ (a = none → cap = 0) ∧ ∃ l, RT w a len l := by
  rcases h with ⟨rfl, rfl, rfl, _⟩ | ⟨x, rfl, hl, hm, hz, hc, _⟩
  · exact ⟨by omega, fun _ => rfl, [], rfl, fun h => absurd h (by omega)⟩
  · have hlt : (TC ((List.range len).map fun i => (⟨zs.getD (i * 4) 0, zs.getD (i * 4 + 1) 0, zs.getD (i * 4 + 2) 0, zs.getD (i * 4 + 3) 0⟩ : Tg))) = zs.map fun z => Value.int .i64 z := by
      apply List.ext_getElem?
      intro j
      by_cases hj : j < len * 4
      · have hk : ((List.range len).map fun i => (⟨zs.getD (i * 4) 0, zs.getD (i * 4 + 1) 0, zs.getD (i * 4 + 2) 0, zs.getD (i * 4 + 3) 0⟩ : Tg))[j / 4]? = some ⟨zs.getD (j / 4 * 4) 0, zs.getD (j / 4 * 4 + 1) 0, zs.getD (j / 4 * 4 + 2) 0, zs.getD (j / 4 * 4 + 3) 0⟩ := by
          rw [List.getElem?_map, List.getElem?_range (by omega)]
          rfl
        have h1 := TC_at hk (j % 4) (by omega)
        rw [show j / 4 * 4 + j % 4 = j by omega] at h1
        have hd : (zs.map fun z => Value.int .i64 z)[j]? = some (.int .i64 (zs.getD j 0)) := by
          have hj2 : j < zs.length := by omega
          rw [List.getElem?_map, List.getElem?_eq_getElem hj2]
          simp [hj2]
        rw [h1, hd]
        have h4 : j % 4 = 0 ∨ j % 4 = 1 ∨ j % 4 = 2 ∨ j % 4 = 3 := by omega
        rcases h4 with h4 | h4 | h4 | h4
        · rw [h4]
          show some (Value.int .i64 (zs.getD (j / 4 * 4) 0)) = _
          rw [show j / 4 * 4 = j by omega]
        · rw [h4]
          show some (Value.int .i64 (zs.getD (j / 4 * 4 + 1) 0)) = _
          rw [show j / 4 * 4 + 1 = j by omega]
        · rw [h4]
          show some (Value.int .i64 (zs.getD (j / 4 * 4 + 2) 0)) = _
          rw [show j / 4 * 4 + 2 = j by omega]
        · rw [h4]
          show some (Value.int .i64 (zs.getD (j / 4 * 4 + 3) 0)) = _
          rw [show j / 4 * 4 + 3 = j by omega]
      · rw [List.getElem?_eq_none (by rw [TC_length, List.length_map, List.length_range]; omega), List.getElem?_eq_none (by rw [List.length_map]; omega)]
    refine ⟨by unfold maxLen at hm; omega, (fun h => by cases h), (List.range len).map fun i => (⟨zs.getD (i * 4) 0, zs.getD (i * 4 + 1) 0, zs.getD (i * 4 + 2) 0, zs.getD (i * 4 + 3) 0⟩ : Tg), ⟨by rw [List.length_map, List.length_range], fun hn => ?_⟩⟩
    obtain ⟨b, off, spot⟩ := x
    have h0 := hc 0 (by omega)
    have hs : spot = none := by simpa [Addr.add] using World.cell?_spot h0
    subst hs
    have hb : b < w.heap.size := by have := World.block_lt_of_cell? w _ h0; simpa [Addr.add] using this
    refine ⟨b, off, rfl, hb, fun j hj => ?_⟩
    have h1 := hc j (by omega)
    have e : ((⟨b, off, none⟩ : Addr).add j) = ⟨b, off + j, none⟩ := by unfold Addr.add; split <;> simp_all
    rw [e] at h1
    rw [h1, hlt, List.getElem?_map, List.getElem?_eq_getElem (by omega)]
    simp [show j < zs.length by omega]
end
end Go.Proofs.Ytfioapdbibggkaa
