/-
  A step of a drawing region that is taken first, in few words: the operation is read from the region, its other premises come by themselves.
-/
import Derived.OrdersHeld
import Derived.Deep.RegionHeld3
import Derived.WalkMore
namespace Go.Proofs.YtmbgoopkpfhamaaGreat

theorem zwI {α : Type _} (l : List α) (i : Nat) (a : α) : l.toArray.setIfInBounds i a = (l.set i a).toArray := List.setIfInBounds_toArray l i a
theorem zwO {α : Type _} (a b : α) (l : List α) : (a :: l).set 0 b = b :: l := List.set_cons_zero
theorem zwS {α : Type _} (a b : α) (l : List α) (n : Nat) : (a :: l).set (n + 1) b = a :: l.set n b := List.set_cons_succ
theorem tkD {ops : Array Oper} {i : Nat} {oi : Oper} {l : List Oper} (h : ops.toList.drop i = oi :: l) : ops[i]? = some oi := by
  rw [← Array.getElem?_toList]
  have e : (ops.toList.drop i)[0]? = some oi := by rw [h]; rfl
  rwa [List.getElem?_drop, Nat.add_zero] at e
theorem tkH4 {P : Program} {ops : Array Oper} {Q : Exit → Act → World → Prop} {md : Region.Mode} {S : World → Prop} (i : Nat) {oi : Oper} {l : List Oper} {v : Value} {a' : Act} {fuel : Nat} {listed : Array Bool} {a : Act} {w : World} (hS : S w)
    (h : wpAnyH P md ops (NoPanic Q) S fuel (listed.setIfInBounds i true) a' w)
    (hi : ops.toList.drop i = oi :: l := by rfl) (hc : (Region.noSelect ops && Region.free md ops listed i && (Region.ready md ops listed).contains i) = true := by kernel_rfl) (hw : Region.wanted oi (yielded ops a.tmps) = true := by rfl)
    (hy : ∀ W, S W → (execOp a.eval oi).run P W = .ok (.value v) W := by (intro W h; clear h; go_simp <;> with_reducible rfl)) (ha : a.put oi.dst v = a' := by (simp only [Act.put, zwI, zwO, zwS]; try rfl)) : wpAnyH P md ops (NoPanic Q) S (fuel + 1) listed a w := by
  subst ha
  rw [Bool.and_eq_true, Bool.and_eq_true] at hc
  exact wpAnyH_take (tkD hi) hc.1.1 hc.1.2 hc.2 (fun _ _ _ h => h) (Or.inl ⟨hw, hy⟩) hS h
theorem tkN4 {P : Program} {ops : Array Oper} {Q : Exit → Act → World → Prop} {md : Region.Mode} {S : World → Prop} (i : Nat) {oi : Oper} {l : List Oper} {a' : Act} {fuel : Nat} {listed : Array Bool} {a : Act} {w : World} (hS : S w)
    (h : wpAnyH P md ops (NoPanic Q) S fuel (listed.setIfInBounds i true) a' w)
    (hi : ops.toList.drop i = oi :: l := by rfl) (hc : (Region.noSelect ops && Region.free md ops listed i && (Region.ready md ops listed).contains i) = true := by kernel_rfl) (hw : Region.wanted oi (yielded ops a.tmps) = false := by rfl)
    (ha : a.put oi.dst undef = a' := by (simp only [Act.put, zwI, zwO, zwS]; try rfl)) : wpAnyH P md ops (NoPanic Q) S (fuel + 1) listed a w := by
  subst ha
  rw [Bool.and_eq_true, Bool.and_eq_true] at hc
  exact wpAnyH_take (tkD hi) hc.1.1 hc.1.2 hc.2 (fun _ _ _ h => h) (Or.inr ⟨hw, rfl⟩) hS h
end Go.Proofs.YtmbgoopkpfhamaaGreat
