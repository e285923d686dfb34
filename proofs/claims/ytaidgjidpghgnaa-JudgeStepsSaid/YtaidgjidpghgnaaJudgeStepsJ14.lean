/-
  An array, or a struct, of integers that came in by value, opened: its value is its numbers, each fitting its kind. Of no program.
-/
import Derived.ProofKit
import Derived.OpenShut
import Derived.ChangeOld
import Derived.Deep.Fields
import Derived.Deep.Slices
namespace Go.Proofs.Ytaidgjidpghgnaa
open Go.ChangeShapes Go.WideShapes Go.ChangeAt Go.RowKit

theorem flat_ones {n : Nat} {cs : List Value} (k : IntKind) (hl : cs.length = n) (h : ∀ i, i < n → ∃ x : Int, (cs.drop (i * 1)).take 1 = [.int k x] ∧ (Lit.int k x).wf = true) :
  ∃ xs : List Int, cs = xs.map (fun x => Value.int k x) ∧ xs.length = n ∧ ∀ x ∈ xs, (Lit.int k x).wf = true := by
 induction cs generalizing n with
 | nil => exact ⟨[], rfl, by simpa using hl, by simp⟩
 | cons c cs ih =>
  subst hl
  obtain ⟨x, hx, hw⟩ := h 0 (by simp)
  simp at hx
  subst hx
  obtain ⟨xs, rfl, hn, hwf⟩ := ih (n := cs.length) rfl (fun i hi => by
   obtain ⟨y, hy, hwy⟩ := h (i + 1) (by simp; omega)
   exact ⟨y, by simpa using hy, hwy⟩)
  refine ⟨x :: xs, by simp, by simp, ?_⟩
  intro y hy
  rcases List.mem_cons.1 hy with rfl | hy
  ·
   exact hw
  ·
   exact hwf y hy

theorem open_struct_ints {H : Type} {enc : TypeId × Value → H} {P : Program} {W : World} {base base' : Nat} {sp : Nat → Bool} {t e : TypeId} {fs : Array Field} {k : IntKind} {v : Value} {d : DataW H} {p : List MemPlace}
  (ht : P.underlying t = some (.struct fs)) (he : P.underlying e = some (.int k)) (hone : Go.Deep.oneCellFields P fs = true) (hall : (fs.all fun f => f.type == e) = true) (hct : P.cellsOf t = fs.size)
  (hok : Value.okWide P W .any base t v) (h : DataW.Trod enc P W base' sp true t v d p) :
  ∃ xs : List Int, v = .agg (xs.map (fun x => Value.int k x)).toArray ∧ xs.length = fs.size ∧ ∀ x ∈ xs, (Lit.int k x).wf = true := by
 obtain ⟨cs, rfl, hsz⟩ := okWide_struct ht hok
 obtain ⟨cs⟩ := cs
 obtain ⟨fuel, hf⟩ := h
 obtain ⟨xs, m, _, _, _, hxs, hg⟩ := DataW.trod_struct ht hf
 have hl2 : cs.length = fs.size := by rw [hct] at hsz; simpa using hsz
 obtain ⟨zs, hz, hzn, hzw⟩ := flat_ones (cs := cs) k hl2 (fun i hi => by
  obtain ⟨f, hfi⟩ : ∃ f, fs[i]? = some f := ⟨_, Array.getElem?_eq_getElem hi⟩
  obtain ⟨ho, hk⟩ := Go.Deep.hone_of hone i f hfi
  have h1 := hg i f hfi
  have hty : f.type = e := by
   have := Array.all_eq_true'.1 hall f (Array.mem_of_getElem? hfi)
   simpa using this
  obtain ⟨y, hy⟩ : ∃ y, xs[i]? = some y := ⟨_, List.getElem?_eq_getElem (by omega)⟩
  rw [hy, ho, hk, hty] at h1
  obtain ⟨x, hx, _, hw⟩ := DataW.trod_int he h1
  exact ⟨x, by simpa [Value.cells] using hx, hw⟩)
 exact ⟨zs, by rw [hz], hzn, hzw⟩
end Go.Proofs.Ytaidgjidpghgnaa

/-
  A struct that came in by value, opened field by field: what each field reads. Of no program.
-/
namespace Go.Proofs.Ytaidgjidpghgnaa
open Go.ChangeShapes Go.WideShapes Go.ChangeAt Go.RowKit

theorem field_at {H : Type} {enc : TypeId × Value → H} {P : Program} {W : World} {base : Nat} {sp : Nat → Bool} {held : Bool} {t : TypeId} {fs : Array Field} {fuel : Nat} {cs : List Value} {x : DataW H × List MemPlace}
  (ht : P.underlying t = some (.struct fs)) (h : DataW.trod enc P W base sp held fuel t cs = some x) (i : Nat) (f : Field) (hf : fs[i]? = some f) (l : List Value) (hl : (cs.drop f.offset).take (P.cellsOf f.type) = l) :
  ∃ n y, DataW.trod enc P W base sp held n f.type l = some y := by
 obtain ⟨xs, n, _, _, _, hxs, hg⟩ := DataW.trod_struct ht h
 have h1 := hg i f hf
 have hi : i < fs.size := (Array.getElem?_eq_some_iff.1 hf).1
 rw [hl, List.getElem?_eq_getElem (show i < xs.length by omega)] at h1
 exact ⟨n, _, h1⟩
theorem int_at {H : Type} {enc : TypeId × Value → H} {P : Program} {W : World} {base : Nat} {sp : Nat → Bool} {held : Bool} {t : TypeId} {k : IntKind} {fuel : Nat} {c : Value} {x : DataW H × List MemPlace}
  (ht : P.underlying t = some (.int k)) (h : DataW.trod enc P W base sp held fuel t [c] = some x) : ∃ a : Int, c = .int k a ∧ (Lit.int k a).wf = true := by
 obtain ⟨a, ha, _, hw⟩ := DataW.trod_int ht h
 exact ⟨a, by simpa using ha, hw⟩
end Go.Proofs.Ytaidgjidpghgnaa

/-
  A slice of structs whose fields are integers, of whichever kinds, opened at every element. Of no program.
-/
namespace Go.Proofs.Ytaidgjidpghgnaa
open Go.ChangeShapes Go.WideShapes Go.ChangeAt Go.RowKit

theorem open_slice_kinds {H : Type} {enc : TypeId × Value → H} {P : Program} {W : World} {base : Nat} {sp : Nat → Bool} {held : Bool} {t e : TypeId} {fs : Array Field} {ks : List IntKind} {fuel : Nat} {cs : List Value} {x : DataW H × List MemPlace}
  (ht : P.underlying t = some (.slice e)) (he : P.underlying e = some (.struct fs)) (hn : P.cellsOf e = ks.length)
  (hf : ∀ j k, ks[j]? = some k → ∃ f : Field, fs[j]? = some f ∧ f.offset = j ∧ P.cellsOf f.type = 1 ∧ P.underlying f.type = some (.int k))
  (h : DataW.trod enc P W base sp held fuel t cs = some x) :
  cs = [.slice none 0 0] ∨ ∃ (a : Addr) (len cap : Nat) (Z : Nat → Nat → Int), cs = [.slice (some a) len cap] ∧ len ≤ cap ∧ cap ≤ maxLen ∧
   ∀ r, r < (if sp a.block then cap else len) → ∀ j k, ks[j]? = some k → W.cell? (a.add (r * ks.length + j)) = some (.int k (Z r j)) ∧ (Lit.int k (Z r j)).wf = true := by
 rcases Go.Deep.open_slice ht h with ⟨h0, _⟩ | ⟨a, len, cap, m, n, D, Pl, rfl, _, hl, hm, hmm, _, hx⟩
 ·
  exact .inl h0
 ·
  right
  have each : ∀ r, r < m → ∃ z : Nat → Int, ∀ j k, ks[j]? = some k → W.cell? (a.add (r * ks.length + j)) = some (.int k (z j)) ∧ (Lit.int k (z j)).wf = true := by
   intro r hr
   obtain ⟨cs', h1, h2⟩ := hx r hr
   rw [hn] at h1
   obtain ⟨_, hlen, hcell⟩ := World.cells?_some h1
   obtain ⟨z, hz⟩ := Go.Deep.choose_lt (α := Int) (n := ks.length) (p := fun j y => ∀ k, ks[j]? = some k → W.cell? (a.add (r * ks.length + j)) = some (.int k y) ∧ (Lit.int k y).wf = true) (fun j hj => by
    have hk : ks[j]? = some ks[j] := List.getElem?_eq_getElem hj
    obtain ⟨f, hf1, hf2, hf3, hf4⟩ := hf j _ hk
    have hj' : j < cs'.length := by omega
    obtain ⟨n', y', h3⟩ := field_at he h2 j f hf1 [cs'[j]] (by
     rw [hf2, hf3, List.drop_eq_getElem_cons hj']
     rfl)
    obtain ⟨y, hy, hw⟩ := int_at hf4 h3
    refine ⟨y, fun k hk2 => ?_⟩
    rw [hk] at hk2
    injection hk2 with hk2
    subst hk2
    refine ⟨?_, hw⟩
    have h4 := hcell j hj
    rw [Go.Deep.add_add, List.getElem?_eq_getElem hj', hy] at h4
    exact h4)
   refine ⟨z, fun j k hk => ?_⟩
   have hj : j < ks.length := by
    rcases Nat.lt_or_ge j ks.length with h5 | h5
    ·
     exact h5
    ·
     rw [List.getElem?_eq_none h5] at hk; cases hk
   exact hz j hj k hk
  obtain ⟨Z, hZ⟩ := Go.Deep.choose_lt each
  exact ⟨a, len, cap, Z, rfl, hl, hm, fun r hr => hZ r (by omega)⟩
end Go.Proofs.Ytaidgjidpghgnaa
