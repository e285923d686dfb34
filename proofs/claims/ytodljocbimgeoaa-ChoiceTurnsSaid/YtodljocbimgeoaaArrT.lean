/-
  A slice of structs of integers that came in, opened: its cells, one by one, each an integer that fits its kind. Of no program.
-/
import Derived.Test.YtodljocbimgeoaaArr
import Derived.Deep.Slices
namespace Go.Proofs.Ytodljocbimgeoaa
open Go.ChangeShapes Go.WideShapes Go.ChangeAt Go.RowKit

theorem list_of {p : Nat → Int → Prop} : ∀ N : Nat, (∀ j, j < N → ∃ z, p j z) → ∃ zs : List Int, zs.length = N ∧ ∀ j, j < N → p j (zs.getD j 0)
  | 0, _ => ⟨[], rfl, fun j hj => absurd hj (by omega)⟩
  | N + 1, h => by
    obtain ⟨zs, hl, hz⟩ := list_of N fun j hj => h j (by omega)
    obtain ⟨z, hN⟩ := h N (by omega)
    refine ⟨zs ++ [z], by simp [hl], fun j hj => ?_⟩
    by_cases hj2 : j < N
    · have := hz j hj2
      rw [List.getD_eq_getElem?_getD, List.getElem?_append_left (by omega), ← List.getD_eq_getElem?_getD]
      exact this
    · obtain rfl : j = N := by omega
      rw [List.getD_eq_getElem?_getD, List.getElem?_append_right (by omega), hl, Nat.sub_self]
      exact hN

theorem open_slice_structs {H : Type} {enc : TypeId × Value → H} {P : Program} {W : World} {base : Nat} {sp : Nat → Bool} {t e ei : TypeId} {fs : Array Field} {k : IntKind} {fuel : Nat} {cs : List Value} {x : DataW H × List MemPlace}
    (ht : P.underlying t = some (.slice e)) (he : P.underlying e = some (.struct fs)) (hi : P.underlying ei = some (.int k)) (hone : Go.Deep.oneCellFields P fs = true) (hall : (fs.all fun f => f.type == ei) = true) (hC : P.cellsOf e = fs.size) (hpos : 0 < fs.size)
    (h : DataW.trod enc P W base sp true fuel t cs = some x) :
    cs = [.slice none 0 0] ∨
    ∃ (a : Addr) (len cap : Nat) (zs : List Int), cs = [.slice (some a) len cap] ∧ len ≤ cap ∧ cap ≤ maxLen ∧ zs.length = len * fs.size ∧ (∀ i, i < zs.length → W.cell? (a.add i) = some (.int k (zs.getD i 0))) ∧ ∀ n ∈ zs, (Lit.int k n).wf = true := by
  rcases Go.Deep.open_slice ht h with ⟨h0, _⟩ | ⟨a, len, cap, m, n, D, Pl, hcs, _, hl, hm, hmm, _, hx⟩
  · exact .inl h0
  · have hlm : len ≤ m := by rw [hmm]; split <;> omega
    have key : ∀ j, j < len * fs.size → ∃ z : Int, W.cell? (a.add j) = some (.int k z) ∧ (Lit.int k z).wf = true := by
      intro j hj
      have hq : j / fs.size < len := Nat.div_lt_of_lt_mul (by rw [Nat.mul_comm]; exact hj)
      have hr : j % fs.size < fs.size := Nat.mod_lt _ hpos
      obtain ⟨cs', hc, ht'⟩ := hx (j / fs.size) (by omega)
      rw [hC] at hc
      obtain ⟨_, hcl, hat⟩ := World.cells?_some hc
      obtain ⟨xs, n', _, _, _, hxs, hg⟩ := DataW.trod_struct he ht'
      obtain ⟨f, hf⟩ : ∃ f, fs[j % fs.size]? = some f := ⟨_, Array.getElem?_eq_getElem hr⟩
      obtain ⟨ho, hk⟩ := Go.Deep.hone_of hone _ f hf
      have h1 := hg _ f hf
      have hty : f.type = ei := by
        have := Array.all_eq_true'.1 hall f (Array.mem_of_getElem? hf)
        simpa using this
      obtain ⟨y, hy⟩ : ∃ y, xs[j % fs.size]? = some y := ⟨_, List.getElem?_eq_getElem (by omega)⟩
      rw [hy, ho, hk, hty] at h1
      obtain ⟨z, hz, _, hw⟩ := DataW.trod_int hi h1
      refine ⟨z, ?_, hw⟩
      have h2 := hat (j % fs.size) hr
      rw [Go.Deep.add_add, show j / fs.size * fs.size + j % fs.size = j by rw [Nat.mul_comm]; exact Nat.div_add_mod j fs.size] at h2
      rw [h2]
      have h3 : ((cs'.drop (j % fs.size)).take 1)[0]? = some (.int k z) := by rw [hz]; rfl
      rw [List.getElem?_take, if_pos (by omega), List.getElem?_drop, Nat.add_zero] at h3
      exact h3
    obtain ⟨zs, hzl, hz⟩ := list_of _ key
    refine .inr ⟨a, len, cap, zs, hcs, hl, hm, hzl, fun i hi => (hz i (by omega)).1, fun v hv => ?_⟩
    obtain ⟨i, hi, rfl⟩ := List.getElem_of_mem hv
    have := (hz i (by omega)).2
    rwa [List.getD_eq_getElem?_getD, List.getElem?_eq_getElem hi] at this
end Go.Proofs.Ytodljocbimgeoaa
