/-
  Words for memory, of no program: a block of which some cells are known.
-/
import Derived.Test.YtipmjmbkknlcfaaBtw
import Derived.Laws.IdiomCopy
namespace Go.Proofs.Ytipmjmbkknlcfaa
open Go.RowKit

/-- The block g holds what f tells, where it tells it. -/
def Cells (w : World) (g : Nat) (u : TypeId) (f : Nat → Option Value) : Prop := ∃ cur : Array Value, CRow w g u cur ∧ ∀ j v, f j = some v → cur[j]? = some v
section
variable {w w' : World} {g : Nat} {u : TypeId} {f f' : Nat → Option Value}
theorem Cells.lt (h : Cells w g u f) : g < w.heap.size := by obtain ⟨_, hc, _⟩ := h; exact hc.lt
theorem Cells.cell (h : Cells w g u f) {j : Nat} {v : Value} (hv : f j = some v) : w.cell? ⟨g, j, none⟩ = some v := by
  obtain ⟨_, hc, hk⟩ := h
  exact hc.cell_at j v (hk j v hv)
theorem Cells.frozen (h : Cells w g u f) (j : Nat) : w.frozen? ⟨g, j, none⟩ = false := by
  obtain ⟨_, hc, _⟩ := h
  exact hc.frozen j
theorem Cells.btw {I : Nat → Prop} (h : Cells w g u f) (hb : Btw I w w') (hg : ¬ I g) : Cells w' g u f := by
  obtain ⟨cur, hc, hk⟩ := h
  exact ⟨cur, hc.btw hb hg, hk⟩
theorem Cells.below (h : Cells w g u f) (hb : Below w.heap.size w w') : Cells w' g u f := h.btw (I := fun _ => False) (Btw.of_below hb) (fun h => h)
theorem Cells.sub (h : Cells w g u f) (hs : ∀ j v, f' j = some v → f j = some v) : Cells w g u f' := by
  obtain ⟨cur, hc, hk⟩ := h
  exact ⟨cur, hc, fun j v hv => hk j v (hs j v hv)⟩
theorem Cells.of_row {cs : Array Value} (h : CRow w g u cs) : Cells w g u (fun j => cs[j]?) := ⟨cs, h, fun _ _ hv => hv⟩
theorem Cells.other (h : Cells w g u f) {p : Addr} (hne : g ≠ p.block) (v : Value) : Cells (w.setCell p v) g u f := by
  obtain ⟨cur, hc, hk⟩ := h
  exact ⟨cur, hc.setCell_other hne v, hk⟩
theorem Cells.set (h : Cells w g u f) {j : Nat} {v0 : Value} (h0 : f j = some v0) (v : Value) : Cells (w.setCell ⟨g, j, none⟩ v) g u (fun i => if i = j then some v else f i) := by
  obtain ⟨cur, hc, hk⟩ := h
  have hlt : j < cur.size := (Array.getElem?_eq_some_iff.1 (hk j v0 h0)).1
  refine ⟨_, hc.setCell j v, fun i x hx => ?_⟩
  have hx : (if i = j then some v else f i) = some x := hx
  rw [Array.getElem?_setIfInBounds]
  by_cases hi : i = j
  · subst hi
    rw [if_pos rfl] at hx
    rw [if_pos rfl, if_pos hlt, hx]
  · rw [if_neg hi] at hx
    rw [if_neg (fun e => hi e.symm)]
    exact hk i x hx
end
theorem Cells.setCells {g : Nat} {u : TypeId} : ∀ (vs : List Value) (o : Nat) {w : World} {f : Nat → Option Value}, Cells w g u f → (∀ j, j < vs.length → (f (o + j)).isSome = true) →
    Cells (w.setCells g o vs) g u (fun i => if o ≤ i ∧ i < o + vs.length then vs[i - o]? else f i)
  | [], o, w, f, h, _ => h.sub fun j v hv => by
      rw [if_neg (by simp only [List.length_nil]; omega)] at hv
      exact hv
  | v :: r, o, w, f, h, hs => by
      obtain ⟨v0, hv0⟩ := Option.isSome_iff_exists.1 (hs 0 (by simp))
      have h1 := h.set (by simpa using hv0) v
      have h2 := Cells.setCells r (o + 1) h1 (fun j hj => by
        by_cases e : o + 1 + j = o
        · omega
        · simp only [if_neg e]
          have := hs (j + 1) (by simpa using hj)
          rwa [show o + (j + 1) = o + 1 + j by omega] at this)
      refine Cells.sub h2 fun i x hx => ?_
      have hx : (if o ≤ i ∧ i < o + (v :: r).length then (v :: r)[i - o]? else f i) = some x := hx
      show (if o + 1 ≤ i ∧ i < o + 1 + r.length then r[i - (o + 1)]? else (if i = o then some v else f i)) = some x
      simp only [List.length_cons] at hx
      by_cases hi : i = o
      · subst hi
        rw [if_pos (by omega)] at hx
        rw [if_neg (by omega), if_pos rfl]
        simpa using hx
      · by_cases h3 : o ≤ i ∧ i < o + (r.length + 1)
        · rw [if_pos h3] at hx
          rw [if_pos (by omega)]
          obtain ⟨k, rfl⟩ : ∃ k, i = o + 1 + k := ⟨i - (o + 1), by omega⟩
          rw [show o + 1 + k - o = k + 1 by omega] at hx
          rw [show o + 1 + k - (o + 1) = k by omega]
          simpa using hx
        · rw [if_neg h3] at hx
          rw [if_neg (by omega), if_neg hi]
          exact hx
theorem Btw.setCells {I : Nat → Prop} {g : Nat} (hg : I g) {w : World} : ∀ (vs : List Value) (o : Nat) {w' : World}, Btw I w w' → Btw I w (w'.setCells g o vs)
  | [], _, _, h => h
  | v :: r, o, _, h => Btw.setCells hg r (o + 1) (h.setCell (p := ⟨g, o, none⟩) (v := v) hg)
/-- A row of one's own, as cells that are known. -/
theorem Cells.own {w : World} {base k : Nat} {e : TypeId} {A : Option Addr} {n c : Nat} {xs : List Value} (h : w.ownsRow base e k (.slice A n c) n xs) (hn : 0 < n) :
    ∃ g, A = some ⟨g, 0, none⟩ ∧ base ≤ g ∧ n ≤ c ∧ Cells w g e (fun j => xs[j]?) := by
  rcases h.2 with ⟨_, h0⟩ | ⟨g, cap, cur, hv, hb, hg, h1, _, _, hx⟩
  · omega
  · injection hv with e1 _ e3
    subst e1
    subst e3
    refine ⟨g, rfl, hb, h1, cur, hg, fun j v hj => ?_⟩
    have hj : xs[j]? = some v := hj
    rw [← hx, List.getElem?_take] at hj
    split at hj
    · simpa using hj
    · cases hj
/-- A byte of a slice, stored. -/
theorem R8.put {w : World} {g n : Nat} {l : List Nat} (h : R8 w (some ⟨g, 0, none⟩) n l) (j x : Nat) (hx : x < 256) : R8 (w.setCell ⟨g, j, none⟩ (.int .u8 (x : Int))) (some ⟨g, 0, none⟩) n (l.set j x) := by
  have hl := h.len
  refine ⟨⟨by simp [U8, hl], fun hn => ?_⟩, fun y hy => ?_⟩
  · obtain ⟨b, off, e, hb, hc⟩ := h.1.2 hn
    injection e with e
    injection e with e1 e2
    subst e1
    subst e2
    refine ⟨g, 0, rfl, by simpa [World.setCell] using hb, fun i hi => ?_⟩
    have h0 := hc i hi
    rw [Nat.zero_add] at h0 ⊢
    by_cases hij : i = j
    · subst hij
      have h1 : (w.cell? ⟨g, i, none⟩).isSome = true := by rw [h0, U8, List.getElem?_map, List.getElem?_eq_getElem (by omega)]; rfl
      rw [World.cell?_setCell_same' w _ _ h1, U8, List.getElem?_map, List.getElem?_set]
      simp [show i < l.length by omega]
    · rw [show (w.setCell ⟨g, j, none⟩ (.int .u8 (x : Int))).cell? ⟨g, i, none⟩ = w.cell? ⟨g, i, none⟩ from World.cell?_setCell_other _ _ _ _ (by intro e; injection e with _ e; exact hij e.symm), h0, U8, U8, List.getElem?_map, List.getElem?_map, List.getElem?_set, if_neg (fun e => hij e.symm)]
  · rcases List.mem_or_eq_of_mem_set hy with h1 | h1
    · exact h.2 y h1
    · omega
theorem cell_btw {J : Nat → Prop} {w w' : World} {b o : Nat} {v : Value} (hb : Btw J w w') (hn : ¬ J b) (h : w.cell? ⟨b, o, none⟩ = some v) : w'.cell? ⟨b, o, none⟩ = some v :=
  (World.cell?_of_block (a := ⟨b, o, none⟩) (hb.block b (World.block_lt_of_cell? _ _ h) hn)).trans h
end Go.Proofs.Ytipmjmbkknlcfaa
