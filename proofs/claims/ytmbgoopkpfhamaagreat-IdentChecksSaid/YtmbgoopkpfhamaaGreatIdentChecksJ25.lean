/-
  An array, or a struct, of integers that came in by value, opened: its value is its numbers, each fitting its kind. Of no program.
-/
import Derived.ProofKit
import Derived.OpenShut
import Derived.ChangeOld
import Derived.Deep.Fields
import Derived.Deep.Slices
namespace Go.Proofs.YtmbgoopkpfhamaaGreat
open Go.ChangeShapes Go.WideShapes Go.ChangeAt Go.RowKit
theorem flat_ones {n : Nat} {cs : List Value} (k : IntKind) (hl : cs.length = n) (h : ∀ i, i < n → ∃ x : Int, (cs.drop (i * 1)).take 1 = [.int k x] ∧ (Lit.int k x).wf = true) :
  ∃ xs : List Int, cs = xs.map (fun x => Value.int k x) ∧ xs.length = n ∧ ∀ x ∈ xs, (Lit.int k x).wf = true := by
 induction cs generalizing n with
 | nil => exact ⟨[], rfl, by simpa using hl, by simp⟩
 | cons c cs ih =>
  subst hl
  obtain ⟨x, hx, hw⟩ := h 0 (by simp)
  simp at hx
  subst hx
  obtain ⟨xs, rfl, hn, hwf⟩ := ih (n := cs.length) rfl (fun i hi => by
   obtain ⟨y, hy, hwy⟩ := h (i + 1) (by simp; omega)
   exact ⟨y, by simpa using hy, hwy⟩)
  refine ⟨x :: xs, by simp, by simp, ?_⟩
  intro y hy
  rcases List.mem_cons.1 hy with rfl | hy
  ·
   exact hw
  ·
   exact hwf y hy
theorem open_struct_ints {H : Type} {enc : TypeId × Value → H} {P : Program} {W : World} {base base' : Nat} {sp : Nat → Bool} {t e : TypeId} {fs : Array Field} {k : IntKind} {v : Value} {d : DataW H} {p : List MemPlace}
  (ht : P.underlying t = some (.struct fs)) (he : P.underlying e = some (.int k)) (hone : Go.Deep.oneCellFields P fs = true) (hall : (fs.all fun f => f.type == e) = true) (hct : P.cellsOf t = fs.size)
  (hok : Value.okWide P W .any base t v) (h : DataW.Trod enc P W base' sp true t v d p) :
  ∃ xs : List Int, v = .agg (xs.map (fun x => Value.int k x)).toArray ∧ xs.length = fs.size ∧ ∀ x ∈ xs, (Lit.int k x).wf = true := by
 obtain ⟨cs, rfl, hsz⟩ := okWide_struct ht hok
 obtain ⟨cs⟩ := cs
 obtain ⟨fuel, hf⟩ := h
 obtain ⟨xs, m, _, _, _, hxs, hg⟩ := DataW.trod_struct ht hf
 have hl2 : cs.length = fs.size := by rw [hct] at hsz; simpa using hsz
 obtain ⟨zs, hz, hzn, hzw⟩ := flat_ones (cs := cs) k hl2 (fun i hi => by
  obtain ⟨f, hfi⟩ : ∃ f, fs[i]? = some f := ⟨_, Array.getElem?_eq_getElem hi⟩
  obtain ⟨ho, hk⟩ := Go.Deep.hone_of hone i f hfi
  have h1 := hg i f hfi
  have hty : f.type = e := by
   have := Array.all_eq_true'.1 hall f (Array.mem_of_getElem? hfi)
   simpa using this
  obtain ⟨y, hy⟩ : ∃ y, xs[i]? = some y := ⟨_, List.getElem?_eq_getElem (by omega)⟩
  rw [hy, ho, hk, hty] at h1
  obtain ⟨x, hx, _, hw⟩ := DataW.trod_int he h1
  exact ⟨x, by simpa [Value.cells] using hx, hw⟩)
 exact ⟨zs, by rw [hz], hzn, hzw⟩
end Go.Proofs.YtmbgoopkpfhamaaGreat
namespace Go.Proofs.YtmbgoopkpfhamaaGreat
open Go.ChangeShapes Go.WideShapes Go.ChangeAt Go.RowKit
theorem list_of {p : Nat → Int → Prop} : ∀ N : Nat, (∀ j, j < N → ∃ z, p j z) → ∃ zs : List Int, zs.length = N ∧ ∀ j, j < N → p j (zs.getD j 0)
 | 0, _ => ⟨[], rfl, fun j hj => absurd hj (by omega)⟩
 | N + 1, h => by
  obtain ⟨zs, hl, hz⟩ := list_of N fun j hj => h j (by omega)
  obtain ⟨z, hN⟩ := h N (by omega)
  refine ⟨zs ++ [z], by simp [hl], fun j hj => ?_⟩
  by_cases hj2 : j < N
  ·
   have := hz j hj2
   rw [List.getD_eq_getElem?_getD, List.getElem?_append_left (by omega), ← List.getD_eq_getElem?_getD]
   exact this
  ·
   obtain rfl : j = N := by omega
   rw [List.getD_eq_getElem?_getD, List.getElem?_append_right (by omega), hl, Nat.sub_self]
   exact hN
theorem open_slice_structs {H : Type} {enc : TypeId × Value → H} {P : Program} {W : World} {base : Nat} {sp : Nat → Bool} {t e ei : TypeId} {fs : Array Field} {k : IntKind} {fuel : Nat} {cs : List Value} {x : DataW H × List MemPlace}
  (ht : P.underlying t = some (.slice e)) (he : P.underlying e = some (.struct fs)) (hi : P.underlying ei = some (.int k)) (hone : Go.Deep.oneCellFields P fs = true) (hall : (fs.all fun f => f.type == ei) = true) (hC : P.cellsOf e = fs.size) (hpos : 0 < fs.size)
  (h : DataW.trod enc P W base sp true fuel t cs = some x) :
  cs = [.slice none 0 0] ∨
  ∃ (a : Addr) (len cap : Nat) (zs : List Int), cs = [.slice (some a) len cap] ∧ len ≤ cap ∧ cap ≤ maxLen ∧ zs.length = len * fs.size ∧ (∀ i, i < zs.length → W.cell? (a.add i) = some (.int k (zs.getD i 0))) ∧ ∀ n ∈ zs, (Lit.int k n).wf = true := by
 rcases Go.Deep.open_slice ht h with ⟨h0, _⟩ | ⟨a, len, cap, m, n, D, Pl, hcs, _, hl, hm, hmm, _, hx⟩
 ·
  exact .inl h0
 ·
  have hlm : len ≤ m := by rw [hmm]; split <;> omega
  have key : ∀ j, j < len * fs.size → ∃ z : Int, W.cell? (a.add j) = some (.int k z) ∧ (Lit.int k z).wf = true := by
   intro j hj
   have hq : j / fs.size < len := Nat.div_lt_of_lt_mul (by rw [Nat.mul_comm]; exact hj)
   have hr : j % fs.size < fs.size := Nat.mod_lt _ hpos
   obtain ⟨cs', hc, ht'⟩ := hx (j / fs.size) (by omega)
   rw [hC] at hc
   obtain ⟨_, hcl, hat⟩ := World.cells?_some hc
   obtain ⟨xs, n', _, _, _, hxs, hg⟩ := DataW.trod_struct he ht'
   obtain ⟨f, hf⟩ : ∃ f, fs[j % fs.size]? = some f := ⟨_, Array.getElem?_eq_getElem hr⟩
   obtain ⟨ho, hk⟩ := Go.Deep.hone_of hone _ f hf
   have h1 := hg _ f hf
   have hty : f.type = ei := by
    have := Array.all_eq_true'.1 hall f (Array.mem_of_getElem? hf)
    simpa using this
   obtain ⟨y, hy⟩ : ∃ y, xs[j % fs.size]? = some y := ⟨_, List.getElem?_eq_getElem (by omega)⟩
   rw [hy, ho, hk, hty] at h1
   obtain ⟨z, hz, _, hw⟩ := DataW.trod_int hi h1
   refine ⟨z, ?_, hw⟩
   have h2 := hat (j % fs.size) hr
   rw [Go.Deep.add_add, show j / fs.size * fs.size + j % fs.size = j by rw [Nat.mul_comm]; exact Nat.div_add_mod j fs.size] at h2
   rw [h2]
   have h3 : ((cs'.drop (j % fs.size)).take 1)[0]? = some (.int k z) := by rw [hz]; rfl
   rw [List.getElem?_take, if_pos (by omega), List.getElem?_drop, Nat.add_zero] at h3
   exact h3
  obtain ⟨zs, hzl, hz⟩ := list_of _ key
  refine .inr ⟨a, len, cap, zs, hcs, hl, hm, hzl, fun i hi => (hz i (by omega)).1, fun v hv => ?_⟩
  obtain ⟨i, hi, rfl⟩ := List.getElem_of_mem hv
  have := (hz i (by omega)).2
  rwa [List.getD_eq_getElem?_getD, List.getElem?_eq_getElem hi] at this
end Go.Proofs.YtmbgoopkpfhamaaGreat
namespace Go.Proofs.YtmbgoopkpfhamaaGreat
open Go.ChangeShapes Go.WideShapes Go.ChangeAt Go.RowKit
theorem field_at {H : Type} {enc : TypeId × Value → H} {P : Program} {W : World} {base : Nat} {sp : Nat → Bool} {held : Bool} {t : TypeId} {fs : Array Field} {fuel : Nat} {cs : List Value} {x : DataW H × List MemPlace}
  (ht : P.underlying t = some (.struct fs)) (h : DataW.trod enc P W base sp held fuel t cs = some x) (i : Nat) (f : Field) (hf : fs[i]? = some f) (l : List Value) (hl : (cs.drop f.offset).take (P.cellsOf f.type) = l) :
  ∃ n y, DataW.trod enc P W base sp held n f.type l = some y := by
 obtain ⟨xs, n, _, _, _, hxs, hg⟩ := DataW.trod_struct ht h
 have h1 := hg i f hf
 have hi : i < fs.size := (Array.getElem?_eq_some_iff.1 hf).1
 rw [hl, List.getElem?_eq_getElem (show i < xs.length by omega)] at h1
 exact ⟨n, _, h1⟩
theorem int_at {H : Type} {enc : TypeId × Value → H} {P : Program} {W : World} {base : Nat} {sp : Nat → Bool} {held : Bool} {t : TypeId} {k : IntKind} {fuel : Nat} {c : Value} {x : DataW H × List MemPlace}
  (ht : P.underlying t = some (.int k)) (h : DataW.trod enc P W base sp held fuel t [c] = some x) : ∃ a : Int, c = .int k a ∧ (Lit.int k a).wf = true := by
 obtain ⟨a, ha, _, hw⟩ := DataW.trod_int ht h
 exact ⟨a, by simpa using ha, hw⟩
theorem encrow_at {H : Type} {enc : TypeId × Value → H} {P : Program} {W : World} {base : Nat} {sp : Nat → Bool} {t e : TypeId} {k : IntKind} {fuel : Nat} {c : Value} {x : DataW H × List MemPlace}
  (ht : P.underlying t = some (.slice e)) (he : P.underlying e = some (.int k)) (hc : P.cellsOf e = 1) (h : DataW.trod enc P W base sp true fuel t [c] = some x) :
  ∃ (a : Option Addr) (len cap : Nat) (zs : List Int), c = .slice a len cap ∧ ((a = none ∧ len = 0 ∧ cap = 0 ∧ zs = []) ∨
   ∃ x, a = some x ∧ len ≤ cap ∧ cap ≤ maxLen ∧ zs.length = (if sp x.block then cap else len) ∧ (∀ i, i < zs.length → W.cell? (x.add i) = some (.int k (zs.getD i 0))) ∧ ∀ n ∈ zs, (Lit.int k n).wf = true) := by
 rcases open_ints ht he hc h with ⟨hcs, _⟩ | ⟨x, l, c', zs, hcs, _, hl, hm, hz, _, hcell, hwz⟩
 ·
  exact ⟨none, 0, 0, [], by simpa using hcs, .inl ⟨rfl, rfl, rfl, rfl⟩⟩
 ·
  exact ⟨some x, l, c', zs, by simpa using hcs, .inr ⟨x, rfl, hl, hm, hz, hcell, hwz⟩⟩
end Go.Proofs.YtmbgoopkpfhamaaGreat
namespace Go.Proofs.YtmbgoopkpfhamaaGreat
open Go.ChangeShapes Go.WideShapes Go.ChangeAt Go.RowKit
theorem rows_at {H : Type} {enc : TypeId × Value → H} {P : Program} {W : World} {base : Nat} {sp : Nat → Bool} {t e ei : TypeId} {fs : Array Field} {k : IntKind} {fuel : Nat} {c : Value} {x : DataW H × List MemPlace}
  (ht : P.underlying t = some (.slice e)) (he : P.underlying e = some (.struct fs)) (hi : P.underlying ei = some (.int k)) (hone : Go.Deep.oneCellFields P fs = true) (hall : (fs.all fun f => f.type == ei) = true) (hC : P.cellsOf e = fs.size) (hpos : 0 < fs.size)
  (h : DataW.trod enc P W base sp true fuel t [c] = some x) :
  ∃ (a : Option Addr) (len cap : Nat) (zs : List Int), c = .slice a len cap ∧ ((a = none ∧ len = 0 ∧ cap = 0 ∧ zs = []) ∨
   ∃ x, a = some x ∧ len ≤ cap ∧ cap ≤ maxLen ∧ zs.length = len * fs.size ∧ (∀ i, i < zs.length → W.cell? (x.add i) = some (.int k (zs.getD i 0))) ∧ ∀ n ∈ zs, (Lit.int k n).wf = true) := by
 rcases open_slice_structs ht he hi hone hall hC hpos h with hcs | ⟨x, l, c', zs, hcs, hl, hm, hz, hcell, hwz⟩
 ·
  exact ⟨none, 0, 0, [], by simpa using hcs, .inl ⟨rfl, rfl, rfl, rfl⟩⟩
 ·
  exact ⟨some x, l, c', zs, by simpa using hcs, .inr ⟨x, rfl, hl, hm, hz, hcell, hwz⟩⟩
end Go.Proofs.YtmbgoopkpfhamaaGreat
