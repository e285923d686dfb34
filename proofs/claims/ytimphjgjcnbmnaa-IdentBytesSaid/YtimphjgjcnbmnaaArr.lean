/-
  An array, or a struct, of integers that came in by value, opened: its value is its numbers, each fitting its kind. Of no program.
-/
import Derived.ProofKit
import Derived.OpenShut
import Derived.ChangeOld
import Derived.Deep.Fields
namespace Go.Proofs.Ytimphjgjcnbmnaa
open Go.ChangeShapes Go.WideShapes Go.ChangeAt Go.RowKit

theorem flat_ones {n : Nat} {cs : List Value} (k : IntKind) (hl : cs.length = n) (h : ∀ i, i < n → ∃ x : Int, (cs.drop (i * 1)).take 1 = [.int k x] ∧ (Lit.int k x).wf = true) :
    ∃ xs : List Int, cs = xs.map (fun x => Value.int k x) ∧ xs.length = n ∧ ∀ x ∈ xs, (Lit.int k x).wf = true := by
  induction cs generalizing n with
  | nil => exact ⟨[], rfl, by simpa using hl, by simp⟩
  | cons c cs ih =>
    subst hl
    obtain ⟨x, hx, hw⟩ := h 0 (by simp)
    simp at hx
    subst hx
    obtain ⟨xs, rfl, hn, hwf⟩ := ih (n := cs.length) rfl (fun i hi => by
      obtain ⟨y, hy, hwy⟩ := h (i + 1) (by simp; omega)
      exact ⟨y, by simpa using hy, hwy⟩)
    refine ⟨x :: xs, by simp, by simp, ?_⟩
    intro y hy
    rcases List.mem_cons.1 hy with rfl | hy
    · exact hw
    · exact hwf y hy

theorem open_array_ints {H : Type} {enc : TypeId × Value → H} {P : Program} {W : World} {base base' : Nat} {sp : Nat → Bool} {t e : TypeId} {n : Nat} {k : IntKind} {v : Value} {d : DataW H} {p : List MemPlace}
    (ht : P.underlying t = some (.array n e)) (he : P.underlying e = some (.int k)) (hce : P.cellsOf e = 1) (hct : P.cellsOf t = n)
    (hok : Value.okWide P W .any base t v) (h : DataW.Trod enc P W base' sp true t v d p) :
    ∃ xs : List Int, v = .agg (xs.map (fun x => Value.int k x)).toArray ∧ xs.length = n ∧ ∀ x ∈ xs, (Lit.int k x).wf = true := by
  obtain ⟨cs, rfl, hsz⟩ : ∃ cs, v = .agg cs ∧ cs.size = n := by
    simp only [Value.okWide, ht] at hok
    obtain ⟨cs, h1, h2, _⟩ := hok
    exact ⟨cs, h1, by rw [h2, hct]⟩
  obtain ⟨cs⟩ := cs
  obtain ⟨fuel, hf⟩ := h
  obtain ⟨xs, m, _, _, hl, hxs, hall⟩ := DataW.trod_array ht hf
  rw [hce] at hall
  have hl2 : cs.length = n := by simpa using hsz
  obtain ⟨zs, hz, hzn, hzw⟩ := flat_ones (cs := cs) k hl2 (fun i hi => by
    have h1 := hall i hi
    obtain ⟨y, hy⟩ : ∃ y, xs[i]? = some y := ⟨_, List.getElem?_eq_getElem (by omega)⟩
    rw [hy] at h1
    obtain ⟨x, hx, _, hw⟩ := DataW.trod_int he h1
    exact ⟨x, by simpa [Value.cells] using hx, hw⟩)
  exact ⟨zs, by rw [hz], hzn, hzw⟩

theorem open_struct_ints {H : Type} {enc : TypeId × Value → H} {P : Program} {W : World} {base base' : Nat} {sp : Nat → Bool} {t e : TypeId} {fs : Array Field} {k : IntKind} {v : Value} {d : DataW H} {p : List MemPlace}
    (ht : P.underlying t = some (.struct fs)) (he : P.underlying e = some (.int k)) (hone : Go.Deep.oneCellFields P fs = true) (hall : (fs.all fun f => f.type == e) = true) (hct : P.cellsOf t = fs.size)
    (hok : Value.okWide P W .any base t v) (h : DataW.Trod enc P W base' sp true t v d p) :
    ∃ xs : List Int, v = .agg (xs.map (fun x => Value.int k x)).toArray ∧ xs.length = fs.size ∧ ∀ x ∈ xs, (Lit.int k x).wf = true := by
  obtain ⟨cs, rfl, hsz⟩ := okWide_struct ht hok
  obtain ⟨cs⟩ := cs
  obtain ⟨fuel, hf⟩ := h
  obtain ⟨xs, m, _, _, _, hxs, hg⟩ := DataW.trod_struct ht hf
  have hl2 : cs.length = fs.size := by rw [hct] at hsz; simpa using hsz
  obtain ⟨zs, hz, hzn, hzw⟩ := flat_ones (cs := cs) k hl2 (fun i hi => by
    obtain ⟨f, hfi⟩ : ∃ f, fs[i]? = some f := ⟨_, Array.getElem?_eq_getElem hi⟩
    obtain ⟨ho, hk⟩ := Go.Deep.hone_of hone i f hfi
    have h1 := hg i f hfi
    have hty : f.type = e := by
      have := Array.all_eq_true'.1 hall f (Array.mem_of_getElem? hfi)
      simpa using this
    obtain ⟨y, hy⟩ : ∃ y, xs[i]? = some y := ⟨_, List.getElem?_eq_getElem (by omega)⟩
    rw [hy, ho, hk, hty] at h1
    obtain ⟨x, hx, _, hw⟩ := DataW.trod_int he h1
    exact ⟨x, by simpa [Value.cells] using hx, hw⟩)
  exact ⟨zs, by rw [hz], hzn, hzw⟩
end Go.Proofs.Ytimphjgjcnbmnaa
