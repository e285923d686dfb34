/-
  A field of a struct that came in by value, which is a slice of structs of integers: what it reads. Of no program.
-/
import Derived.Test.YtodljocbimgeoaaArrF
import Derived.Test.YtodljocbimgeoaaArrT
namespace Go.Proofs.Ytodljocbimgeoaa
open Go.ChangeShapes Go.WideShapes Go.ChangeAt Go.RowKit

theorem rows_at {H : Type} {enc : TypeId × Value → H} {P : Program} {W : World} {base : Nat} {sp : Nat → Bool} {t e ei : TypeId} {fs : Array Field} {k : IntKind} {fuel : Nat} {c : Value} {x : DataW H × List MemPlace}
    (ht : P.underlying t = some (.slice e)) (he : P.underlying e = some (.struct fs)) (hi : P.underlying ei = some (.int k)) (hone : Go.Deep.oneCellFields P fs = true) (hall : (fs.all fun f => f.type == ei) = true) (hC : P.cellsOf e = fs.size) (hpos : 0 < fs.size)
    (h : DataW.trod enc P W base sp true fuel t [c] = some x) :
    ∃ (a : Option Addr) (len cap : Nat) (zs : List Int), c = .slice a len cap ∧ ((a = none ∧ len = 0 ∧ cap = 0 ∧ zs = []) ∨
      ∃ x, a = some x ∧ len ≤ cap ∧ cap ≤ maxLen ∧ zs.length = len * fs.size ∧ (∀ i, i < zs.length → W.cell? (x.add i) = some (.int k (zs.getD i 0))) ∧ ∀ n ∈ zs, (Lit.int k n).wf = true) := by
  rcases open_slice_structs ht he hi hone hall hC hpos h with hcs | ⟨x, l, c', zs, hcs, hl, hm, hz, hcell, hwz⟩
  · exact ⟨none, 0, 0, [], by simpa using hcs, .inl ⟨rfl, rfl, rfl, rfl⟩⟩
  · exact ⟨some x, l, c', zs, by simpa using hcs, .inr ⟨x, rfl, hl, hm, hz, hcell, hwz⟩⟩
end Go.Proofs.Ytodljocbimgeoaa
