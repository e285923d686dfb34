/-
  Words for memory, of no program: parts of slices whose address may be nil, and what the operation that cuts them answers; an operation whose guard holds is that operation without it.
-/
import Derived.Test.YtimphjgjcnbmnaaOwn
import Derived.ChangeKeysEq
import Derived.Tactics2
import Derived.Laws.Slices
namespace Go.Proofs.Ytimphjgjcnbmnaa
open Go.RowKit

/-- Where the end of a slice lies. -/
def cutA (A : Option Addr) (c k : Nat) : Option Addr := if c = k then A else A.map (·.add k)
theorem cutA_some (ad : Addr) (c k : Nat) : cutA (some ad) c k = if c = k then some ad else some (ad.add k) := rfl
theorem cutA_none (A : Option Addr) (c k : Nat) (h : A = none → c = 0) : cutA A c k = none → c - k = 0 := by
  intro h2
  rcases A with _ | ad
  · have := h rfl; omega
  · unfold cutA at h2
    split at h2 <;> simp at h2
theorem R8.cutA {w : World} {A : Option Addr} {n : Nat} {l : List Nat} (h : R8 w A n l) (k c : Nat) (hk : k ≤ n) (hc : n ≤ c) : R8 w (cutA A c k) (n - k) (l.drop k) := by
  rcases A with _ | ad
  · have hn : n = 0 := by
      rcases Nat.eq_zero_or_pos n with h0 | h0
      · exact h0
      · obtain ⟨b, off, h1, _⟩ := h.1.2 h0; cases h1
    have hl := h.len
    have e0 : n - k = 0 := by omega
    have e1 : l.drop k = [] := List.drop_eq_nil_of_le (by omega)
    rw [e0, e1]
    exact ⟨Rd.nil_, by simp⟩
  · exact h.cut k c hk hc
theorem R64.cutA {w : World} {A : Option Addr} {n : Nat} {l : List Int} (h : R64 w A n l) (k c : Nat) (hk : k ≤ n) (hc : n ≤ c) : R64 w (cutA A c k) (n - k) (l.drop k) := by
  rcases A with _ | ad
  · have hn : n = 0 := by
      rcases Nat.eq_zero_or_pos n with h0 | h0
      · exact h0
      · obtain ⟨b, off, h1, _⟩ := h.1.2 h0; cases h1
    have hl := h.len
    have e0 : n - k = 0 := by omega
    have e1 : l.drop k = [] := List.drop_eq_nil_of_le (by omega)
    rw [e0, e1]
    exact ⟨Rd.nil_, by simp⟩
  · exact h.cut k c hk hc

section
variable {P : Program} {t e : TypeId} {i : TypeInfo}
theorem run_slice_to (h1 : P.underlying t = some (.slice e)) (h2 : P.info? e = some i) (h4 : P.cellsOf e = 1) (A : Option Addr) (n c k : Nat) (hk : k ≤ c) (W : World) :
    (Instr.slice t (.slice A n c) none (some (.int .i64 (k : Int))) none).run P W = .ok (.slice A k c) W := by
  have hb : (Instr.sliceBound (.int .i64 (k : Int)) c .sliceAcap).run P W = .ok k W := by
    rw [run_sliceBound W .i64 _ _ _ (by omega) (by omega)]; simp
  simp [Instr.slice, run_underlying h1, Instr.sliceBounds, hb, run_sizeOf W h2, h4]
  intro _
  cases A <;> simp [Addr.add]
theorem run_slice_from (h1 : P.underlying t = some (.slice e)) (h2 : P.info? e = some i) (h4 : P.cellsOf e = 1) (A : Option Addr) (n c k : Nat) (hk : k ≤ n) (W : World) :
    (Instr.slice t (.slice A n c) (some (.int .i64 (k : Int))) none none).run P W = .ok (.slice (cutA A c k) (n - k) (c - k)) W := by
  have hb : (Instr.sliceBound (.int .i64 (k : Int)) n .sliceB).run P W = .ok k W := by
    rw [run_sliceBound W .i64 _ _ _ (by omega) (by omega)]; simp
  simp [Instr.slice, run_underlying h1, Instr.sliceBounds, hb, run_sizeOf W h2, h4, cutA]
theorem run_sliceAt_to (h1 : P.underlying t = some (.slice e)) (h2 : P.info? e = some i) (h4 : P.cellsOf e = 1) (A : Option Addr) (n c k : Nat) (hk : k ≤ c) (W : World) :
    (Instr.sliceAt t (.slice A n c) none (some (.int .i64 (k : Int))) none).run P W = .ok (.slice A k c) W := by
  rw [← run_slice_to h1 h2 h4 A n c k hk W]
  simp [Instr.sliceAt, run_underlying h1]
theorem run_sliceAt_from (h1 : P.underlying t = some (.slice e)) (h2 : P.info? e = some i) (h4 : P.cellsOf e = 1) (A : Option Addr) (n c k : Nat) (hk : k ≤ n) (W : World) :
    (Instr.sliceAt t (.slice A n c) (some (.int .i64 (k : Int))) none none).run P W = .ok (.slice (cutA A c k) (n - k) (c - k)) W := by
  rw [← run_slice_from h1 h2 h4 A n c k hk W]
  simp [Instr.sliceAt, run_underlying h1]

theorem wpList_unguard {ops : Array Oper} {Q : Exit → Act → World → Prop} {a : Act} {w : World} {rest : List Oper} {o : Oper}
    (hw : Region.wanted o (yielded ops a.tmps) = true) (h : wpList P ops Q ({ o with guard := none } :: rest) a w) : wpList P ops Q (o :: rest) a w := by
  have e : Region.wanted { o with guard := none } (yielded ops a.tmps) = true := rfl
  unfold wpList at h ⊢
  rw [if_pos e] at h
  rw [if_pos hw]
  exact h
end
end Go.Proofs.Ytimphjgjcnbmnaa
