/-
  A slice of structs of a name and a slice of structs of integers, opened at every element. Of no program.
-/
import Derived.Test.YtkhdbfklfkkodaaArrK
namespace Go.Proofs.Ytkhdbfklfkkodaa
open Go.ChangeShapes Go.WideShapes Go.ChangeAt Go.RowKit

theorem open_slice_named {H : Type} {enc : TypeId × Value → H} {P : Program} {W : World} {base : Nat} {sp : Nat → Bool} {held : Bool} {t e st et : TypeId} {fs gs : Array Field} {f0 f1 : Field} {ks : List IntKind} {fuel : Nat} {cs : List Value} {x : DataW H × List MemPlace}
    (ht : P.underlying t = some (.slice e)) (he : P.underlying e = some (.struct fs)) (hn : P.cellsOf e = 2)
    (h0 : fs[0]? = some f0) (h00 : f0.offset = 0) (h01 : P.cellsOf f0.type = 1) (h02 : P.underlying f0.type = some .string)
    (h1 : fs[1]? = some f1) (h10 : f1.offset = 1) (h11 : P.cellsOf f1.type = 1) (hst : f1.type = st) (h12 : P.underlying st = some (.slice et)) (h13 : P.underlying et = some (.struct gs)) (h14 : P.cellsOf et = ks.length)
    (hf : ∀ j k, ks[j]? = some k → ∃ f : Field, gs[j]? = some f ∧ f.offset = j ∧ P.cellsOf f.type = 1 ∧ P.underlying f.type = some (.int k))
    (h : DataW.trod enc P W base sp held fuel t cs = some x) :
    cs = [.slice none 0 0] ∨ ∃ (a : Addr) (len cap : Nat) (S : Nat → ByteArray) (R : Nat → Option Addr) (N C : Nat → Nat) (Z : Nat → Nat → Nat → Int), cs = [.slice (some a) len cap] ∧ len ≤ cap ∧ cap ≤ maxLen ∧
      ∀ r, r < (if sp a.block then cap else len) → W.cell? (a.add (r * 2)) = some (.string (S r)) ∧ (S r).size ≤ maxLen ∧ W.cell? (a.add (r * 2 + 1)) = some (.slice (R r) (N r) (C r)) ∧
        ((R r = none ∧ N r = 0 ∧ C r = 0) ∨ ∃ y, R r = some y ∧ N r ≤ C r ∧ C r ≤ maxLen ∧ ∀ q, q < (if sp y.block then C r else N r) → ∀ j k, ks[j]? = some k → W.cell? (y.add (q * ks.length + j)) = some (.int k (Z r q j)) ∧ (Lit.int k (Z r q j)).wf = true) := by
  subst hst
  rcases Go.Deep.open_slice ht h with ⟨h0, _⟩ | ⟨a, len, cap, m, n, D, Pl, rfl, _, hl, hm, hmm, _, hx⟩
  · exact .inl h0
  · right
    have each : ∀ r, r < m → ∃ z : ByteArray × Option Addr × Nat × Nat × (Nat → Nat → Int), W.cell? (a.add (r * 2)) = some (.string z.1) ∧ z.1.size ≤ maxLen ∧ W.cell? (a.add (r * 2 + 1)) = some (.slice z.2.1 z.2.2.1 z.2.2.2.1) ∧
        ((z.2.1 = none ∧ z.2.2.1 = 0 ∧ z.2.2.2.1 = 0) ∨ ∃ y, z.2.1 = some y ∧ z.2.2.1 ≤ z.2.2.2.1 ∧ z.2.2.2.1 ≤ maxLen ∧ ∀ q, q < (if sp y.block then z.2.2.2.1 else z.2.2.1) → ∀ j k, ks[j]? = some k → W.cell? (y.add (q * ks.length + j)) = some (.int k (z.2.2.2.2 q j)) ∧ (Lit.int k (z.2.2.2.2 q j)).wf = true) := by
      intro r hr
      obtain ⟨cs', g1, g2⟩ := hx r hr
      rw [hn] at g1
      obtain ⟨_, hlen, hcell⟩ := World.cells?_some g1
      obtain ⟨u, v, rfl⟩ : ∃ u v, cs' = [u, v] := by
        match cs', hlen with
        | [u, v], _ => exact ⟨u, v, rfl⟩
      have c0 := hcell 0 (by decide)
      have c1 := hcell 1 (by decide)
      rw [Go.Deep.add_add] at c0 c1
      obtain ⟨n0, y0, e0⟩ := field_at he g2 0 f0 h0 [u] (by rw [h00, h01]; rfl)
      obtain ⟨n1, y1, e1⟩ := field_at he g2 1 f1 h1 [v] (by rw [h10, h11]; rfl)
      obtain ⟨s, hs, _, hsz⟩ := DataW.trod_string h02 e0
      simp only [List.cons.injEq, and_true] at hs
      subst hs
      rcases open_slice_kinds h12 h13 h14 hf e1 with hv | ⟨y, l, c, Z, hv, hl2, hm2, hz⟩
      · simp only [List.cons.injEq, and_true] at hv
        subst hv
        exact ⟨(s, none, 0, 0, fun _ _ => 0), c0, hsz, c1, .inl ⟨rfl, rfl, rfl⟩⟩
      · simp only [List.cons.injEq, and_true] at hv
        subst hv
        exact ⟨(s, some y, l, c, Z), c0, hsz, c1, .inr ⟨y, rfl, hl2, hm2, hz⟩⟩
    obtain ⟨z, hz⟩ := Go.Deep.choose_lt each
    exact ⟨a, len, cap, fun r => (z r).1, fun r => (z r).2.1, fun r => (z r).2.2.1, fun r => (z r).2.2.2.1, fun r => (z r).2.2.2.2, rfl, hl, hm, fun r hr => hz r (by omega)⟩
end Go.Proofs.Ytkhdbfklfkkodaa
