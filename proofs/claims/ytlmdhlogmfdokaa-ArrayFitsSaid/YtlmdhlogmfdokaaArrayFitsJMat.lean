/-
  Words for slices of slices of bytes that came in. Of no program.
-/
import Derived.Deep.Matrix
import Derived.Test.YtlmdhlogmfdokaaArrayFitsJ4
namespace Go.Proofs.Ytlmdhlogmfdokaa
open Go.RowKit

/-- The slice holds the slices of bytes ls, its r-th at PA r, with room for PC r. -/
def RR (w : World) (A : Option Addr) (n : Nat) (PA : Nat → Option Addr) (PC : Nat → Nat) (ls : List (List Nat)) : Prop :=
  ls.length = n ∧ (0 < n → ∃ b off, A = some ⟨b, off, none⟩ ∧ b < w.heap.size ∧ ∀ r l, ls[r]? = some l → w.cell? ⟨b, off + r, none⟩ = some (.slice (PA r) l.length (PC r)) ∧ R8 w (PA r) l.length l ∧ l.length ≤ PC r ∧ (PA r = none → PC r = 0))
section
variable {w w' : World} {A : Option Addr} {n : Nat} {PA : Nat → Option Addr} {PC : Nat → Nat} {ls : List (List Nat)}
theorem RR.len (h : RR w A n PA PC ls) : ls.length = n := h.1
theorem RR.below (h : RR w A n PA PC ls) (hb : Below w.heap.size w w') : RR w' A n PA PC ls := by
  refine ⟨h.1, fun hn => ?_⟩
  obtain ⟨b, off, e, hlt, hc⟩ := h.2 hn
  refine ⟨b, off, e, Nat.lt_of_lt_of_le hlt hb.size, fun r l hl => ?_⟩
  obtain ⟨h1, h2, h3, h4⟩ := hc r l hl
  exact ⟨(hb.cell (p := ⟨b, off + r, none⟩) hlt).trans h1, h2.below hb, h3, h4⟩
theorem RR.at_ {k : Nat} (h : RR w A n PA PC ls) (hk : k < n) :
    ∃ b off l m, A = some ⟨b, off, none⟩ ∧ b < w.heap.size ∧ Hid (ls[k]? = some l) ∧ Hid (l.length = m) ∧ w.cell? ⟨b, off + k, none⟩ = some (.slice (PA k) m (PC k)) ∧ Hid (R8 w (PA k) m l) ∧ m ≤ PC k ∧ Hid (PA k = none → PC k = 0) := by
  obtain ⟨b, off, e, hb, hc⟩ := h.2 (by omega)
  have hl : k < ls.length := by rw [h.1]; exact hk
  obtain ⟨h1, h2, h3, h4⟩ := hc k ls[k] (List.getElem?_eq_getElem hl)
  exact ⟨b, off, ls[k], _, e, hb, List.getElem?_eq_getElem hl, rfl, h1, h2, h3, h4⟩
theorem RR.lt (h : RR w A n PA PC ls) {l : List Nat} (hl : l ∈ ls) : ∀ x ∈ l, x < 256 := by
  obtain ⟨r, hr, rfl⟩ := List.getElem_of_mem hl
  obtain ⟨_, _, _, _, hc⟩ := h.2 (by rw [← h.1]; omega)
  exact (hc r _ (List.getElem?_eq_getElem hr)).2.1.2
theorem RR.of_cells {a : Option Addr} {len cap : Nat} {R : Nat → Option Addr} {L C : Nat → Nat} {Z : Nat → List Int}
    (h : (a = none ∧ len = 0 ∧ cap = 0) ∨
      ∃ x, a = some x ∧ len ≤ cap ∧ cap ≤ maxLen ∧ ∀ r, r < cap → w.cell? (x.add r) = some (.slice (R r) (L r) (C r)) ∧ L r ≤ C r ∧ C r ≤ maxLen ∧ (Z r).length = C r ∧ (∀ n ∈ Z r, (Lit.int .u8 n).wf = true) ∧ (R r = none → C r = 0) ∧ ∀ a', R r = some a' → ∀ c, c < C r → w.cell? (a'.add c) = some (.int .u8 ((Z r).getD c 0))) :
    len ≤ cap ∧ len ≤ 9223372036854775807 ∧ ∃ ls, RR w a len R C ls := by
  rcases h with ⟨rfl, rfl, rfl⟩ | ⟨x, rfl, hl, hm, hc⟩
  · exact ⟨Nat.le_refl _, by omega, [], rfl, fun h => absurd h (by omega)⟩
  · have each : ∀ r, r < len → L r ≤ 9223372036854775807 ∧ ∃ l : List Nat, l.length = L r ∧ R8 w (R r) (L r) l := by
      intro r hr
      obtain ⟨_, h2, h3, h4, h5, h6, h7⟩ := hc r (by omega)
      cases hR : R r with
      | none =>
        have h0 := h6 hR
        have hL : L r = 0 := by omega
        rw [hL]
        exact ⟨by omega, [], rfl, Rd.nil_, by simp⟩
      | some a' =>
        obtain ⟨h8, l, h9⟩ := R8.of_cells (w := w) (a := some a') (len := L r) (cap := C r) (zs := Z r) (.inr ⟨a', rfl, h2, h3, h4, by rw [h4]; exact h7 a' hR, h5⟩)
        exact ⟨h8, l, h9.len, h9⟩
    obtain ⟨f, hf⟩ : ∃ f : Nat → List Nat, ∀ r, r < len → (f r).length = L r ∧ R8 w (R r) (L r) (f r) := by
      refine ⟨fun r => if h : r < len then (each r h).2.choose else [], fun r hr => ?_⟩
      simp only [dif_pos hr]
      exact (each r hr).2.choose_spec
    refine ⟨hl, by unfold maxLen at hm; omega, (List.range len).map f, by simp, fun hn => ?_⟩
    obtain ⟨b, off, spot⟩ := x
    have h0 := (hc 0 (by omega)).1
    have hs : spot = none := by simpa [Addr.add] using World.cell?_spot h0
    subst hs
    have hb : b < w.heap.size := by have := World.block_lt_of_cell? w _ h0; simpa [Addr.add] using this
    refine ⟨b, off, rfl, hb, fun r l hl2 => ?_⟩
    rw [List.getElem?_map] at hl2
    obtain ⟨r', hr', rfl⟩ := Option.map_eq_some_iff.1 hl2
    have hrl : r < len := by
      rcases Nat.lt_or_ge r len with h | h
      · exact h
      · rw [List.getElem?_eq_none (by simpa using h)] at hr'; cases hr'
    obtain rfl : r = r' := by rw [List.getElem?_range hrl] at hr'; exact Option.some.inj hr'
    obtain ⟨h1, h2, h3, h4, h5, h6, h7⟩ := hc r (by omega)
    obtain ⟨g1, g2⟩ := hf r hrl
    have e : ((⟨b, off, none⟩ : Addr).add r) = ⟨b, off + r, none⟩ := by unfold Addr.add; split <;> simp_all
    rw [e] at h1
    rw [g1]
    exact ⟨h1, g2, h2, h6⟩
end
end Go.Proofs.Ytlmdhlogmfdokaa
