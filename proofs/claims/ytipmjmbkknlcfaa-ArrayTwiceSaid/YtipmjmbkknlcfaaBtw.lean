/-
  Words for memory, of no program: a world in which only the blocks of I have turned, of those that were there.
-/
import Derived.Test.YtipmjmbkknlcfaaCRow
namespace Go.Proofs.Ytipmjmbkknlcfaa
open Go.RowKit

/-- Of the blocks that were there those alone have turned that I tells of; the streams are as they were; no block has gone. -/
structure Btw (I : Nat → Prop) (w w' : World) : Prop where
  os : w'.os = w.os
  tape : w'.tape = w.tape
  output : w'.output = w.output
  size : w.heap.size ≤ w'.heap.size
  block : ∀ k, k < w.heap.size → ¬ I k → w'.heap[k]? = w.heap[k]?
section
variable {I : Nat → Prop} {w w' w'' : World}
theorem Btw.of_below (h : Below w.heap.size w w') : Btw I w w' := ⟨h.os, h.tape, h.output, h.size, fun k hk _ => h.block k hk⟩
theorem Btw.refl (w : World) : Btw I w w := .of_below (.refl _ _)
theorem Btw.trans {J : Nat → Prop} (h : Btw I w w') (k : Btw J w' w'') (hJ : ∀ j, j < w.heap.size → J j → I j) : Btw I w w'' :=
  ⟨k.os.trans h.os, k.tape.trans h.tape, k.output.trans h.output, Nat.le_trans h.size k.size, fun j hj hn => (k.block j (Nat.lt_of_lt_of_le hj h.size) (fun h1 => hn (hJ j hj h1))).trans (h.block j hj hn)⟩
theorem Btw.of_grown {row : Option Nat} (h : w.grownBy w' row) (hI : ∀ k, row = some k → I k) : Btw I w w' := by
  have hb := (Below.refl 0 w).grown h (Nat.zero_le _) (fun _ _ => Nat.zero_le _)
  exact ⟨hb.os, hb.tape, hb.output, hb.size, fun k hk hn => h.block k hk (fun e => hn (hI k e.symm))⟩
theorem Btw.below {S : Nat} (h : Btw I w w') (hI : ∀ k, I k → S ≤ k) (hS : S ≤ w.heap.size) : Below S w w' := ⟨h.os, h.tape, h.output, h.size, fun k hk => h.block k (by omega) (fun h1 => by have := hI k h1; omega)⟩
theorem Btw.drew (h : Btw I w w') : Btw I w w'.drew := ⟨h.os, h.tape, h.output, h.size, h.block⟩
theorem Btw.setRow {g : Nat} {cs : Array Value} (h : Btw I w w') (hg : I g) : Btw I w (w'.setRow g cs) :=
  h.trans (J := fun k => k = g) ⟨rfl, rfl, rfl, by simp [World.setRow], fun k _ hn => setRow_other w' g k cs hn⟩ (fun _ _ e => e ▸ hg)
theorem Btw.setCell {p : Addr} {v : Value} (h : Btw I w w') (hg : I p.block) : Btw I w (w'.setCell p v) :=
  h.trans (J := fun k => k = p.block) ⟨rfl, rfl, rfl, by simp [World.setCell], fun k _ hn => Below.heap_setCell w' p v k hn⟩ (fun _ _ e => e ▸ hg)
theorem own_btw2 {base : Nat} {e : TypeId} {v : Value} {n : Nat} {xs : List Value} (h : w.ownsRow base e 2 v n xs) (hb : Btw I w w') (hv : ∀ k, v.ownBlock = some k → ¬ I k) : w'.ownsRow base e 2 v n xs := by
  refine ⟨h.1, ?_⟩
  rcases h.2 with h0 | ⟨g, cap, cur, rfl, hbase, hg, hr⟩
  · exact .inl h0
  · exact .inr ⟨g, cap, cur, rfl, hbase, (hb.block g (Array.getElem?_eq_some_iff.1 hg).1 (hv g rfl)).trans hg, hr⟩
theorem CRow.btw {g : Nat} {u : TypeId} {cs : Array Value} (h : CRow w g u cs) (hb : Btw I w w') (hg : ¬ I g) : CRow w' g u cs := (hb.block g h.lt hg).trans h
/-- Where a row of one's own lies, or nowhere. -/
theorem own_at2 {base : Nat} {e : TypeId} {v : Value} {n : Nat} {xs : List Value} (h : w.ownsRow base e 2 v n xs) : ∀ k, v.ownBlock = some k → base ≤ k ∧ ∃ cur : Array Value, w.heap[k]? = some (.cells cur e (0, 0)) := by
  intro k hk
  rcases h.2 with ⟨rfl, _⟩ | ⟨g, cap, cur, rfl, hbase, hg, _⟩
  · cases hk
  · simp only [Value.ownBlock, Option.some.injEq] at hk
    subst hk
    exact ⟨hbase, cur, hg⟩
end
/-- Behind a call that turns the blocks of J alone: what lies below S is as it was; a row elsewhere is. -/
theorem Btw.step {S : Nat} {w W w' : World} {J J' : Nat → Prop} (hB : Below S w W) (hS : S ≤ W.heap.size) (hJ : ∀ j, J j → S ≤ j) (g : Btw J W w') (hj : ∀ j, j < W.heap.size → J' j → J j) : Below S w w' ∧ ∀ j, J' j → S ≤ j := by
  refine ⟨hB.trans (g.below hJ hS), fun j h => ?_⟩
  rcases Nat.lt_or_ge j W.heap.size with h1 | h1
  · exact hJ j (hj j h1 h)
  · omega
theorem own_step {W w' : World} {J J' : Nat → Prop} {base : Nat} {e : TypeId} {v : Value} {n : Nat} {xs : List Value} (h : W.ownsRow base e 2 v n xs) (hv : ∀ j, v.ownBlock = some j → ¬ J j) (g : Btw J W w') (hj : ∀ j, j < W.heap.size → J' j → J j) : w'.ownsRow base e 2 v n xs ∧ ∀ j, v.ownBlock = some j → ¬ J' j := by
  refine ⟨own_btw2 h g hv, fun j h1 h2 => hv j h1 (hj j ?_ h2)⟩
  obtain ⟨_, cur, hc⟩ := own_at2 h j h1
  exact (Array.getElem?_eq_some_iff.1 hc).1
end Go.Proofs.Ytipmjmbkknlcfaa
