/-
  What the frame of ArrayPlays tells of its slice of what is done.
-/
import Derived.Deep.Matrix
import Derived.Test.YtipmjmbkknlcfaaArrayPlaysJArPlays
namespace Go.Proofs.Ytipmjmbkknlcfaa
open Go.RowKit

theorem DL.of_cells {w : World} {a : Option Addr} {len cap : Nat} {K T : Nat → Int} {R : Nat → Option Addr} {N C : Nat → Nat} {Z : Nat → List Int}
    (h : (a = none ∧ len = 0 ∧ cap = 0) ∨
      ∃ x, a = some x ∧ len ≤ cap ∧ cap ≤ maxLen ∧ ∀ r, r < cap → w.cell? (x.add (r * 3)) = some (.int .i64 (K r)) ∧ w.cell? (x.add (r * 3 + 1)) = some (.int .i64 (T r)) ∧ w.cell? (x.add (r * 3 + 2)) = some (.slice (R r) (N r) (C r)) ∧
        ((R r = none ∧ N r = 0 ∧ C r = 0) ∨ ∃ y, R r = some y ∧ N r ≤ C r ∧ C r ≤ maxLen ∧ (Z r).length = C r ∧ (∀ i, i < (Z r).length → w.cell? (y.add i) = some (.int .u8 ((Z r).getD i 0))) ∧ ∀ n ∈ Z r, (Lit.int .u8 n).wf = true)) :
    len ≤ 9223372036854775807 ∧ ∃ l, DL w a len l := by
  rcases h with ⟨rfl, rfl, rfl⟩ | ⟨x, rfl, hl, hm, hc⟩
  · exact ⟨by omega, [], rfl, fun h => absurd h (by omega)⟩
  · refine ⟨by unfold maxLen at hm; omega, ?_⟩
    have each : ∀ r, r < len → ∃ f : List Nat, R8 w (R r) (N r) f ∧ N r ≤ 9223372036854775807 := by
      intro r hr
      obtain ⟨_, _, _, hz⟩ := hc r (by omega)
      rcases hz with ⟨e1, e2, _⟩ | ⟨y, e1, h1, h2, h3, h4, h5⟩
      · rw [e1, e2]
        exact ⟨[], ⟨Rd.nil_, by simp⟩, by omega⟩
      · obtain ⟨h9, f, hf⟩ := R8.of_cells (w := w) (a := R r) (len := N r) (cap := C r) (zs := Z r) (.inr ⟨y, e1, h1, h2, h3, h4, h5⟩)
        exact ⟨f, hf, h9⟩
    obtain ⟨f, hf⟩ := Go.Deep.choose_lt each
    refine ⟨(List.range len).map fun i => ⟨K i, T i, R i, N i, C i, f i⟩, by rw [List.length_map, List.length_range], fun hn => ?_⟩
    obtain ⟨b, off, spot⟩ := x
    have h0 := (hc 0 (by omega)).1
    have hs : spot = none := by simpa [Addr.add] using World.cell?_spot h0
    subst hs
    have hb : b < w.heap.size := by have := World.block_lt_of_cell? w _ h0; simpa [Addr.add] using this
    refine ⟨b, off, rfl, hb, fun i d hd => ?_⟩
    rw [List.getElem?_map] at hd
    by_cases hi : i < len
    · rw [List.getElem?_range hi] at hd
      injection hd with hd
      subst hd
      have e : ∀ j, ((⟨b, off, none⟩ : Addr).add j) = ⟨b, off + j, none⟩ := fun j => by unfold Addr.add; split <;> simp_all
      obtain ⟨h1, h2, h3, _⟩ := hc i (by omega)
      rw [e] at h1 h2 h3
      exact ⟨h1, h2, h3, (hf i hi).1, (hf i hi).2⟩
    · rw [List.getElem?_eq_none (by simpa using hi)] at hd
      cases hd
end Go.Proofs.Ytipmjmbkknlcfaa
