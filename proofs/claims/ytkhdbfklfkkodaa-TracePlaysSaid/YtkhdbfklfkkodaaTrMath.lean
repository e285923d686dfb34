/-
  Plain facts on what is done to a recorder: what is stored behind the first k steps, where each mark stands, what came behind it. Of no program.
-/
import Derived.Test.YtkhdbfklfkkodaaCycMath
import Derived.Laws.Strings
namespace Go.Proofs.Ytkhdbfklfkkodaa

/-- What is done: a name (none: empty), cycles; where the cycles lie, their capacity. -/
structure Dv where
  nm : ByteArray
  a : Option Go.Addr
  c : Nat
  cs : List Cy

theorem empty_yes {s : ByteArray} (h : s.size = 0) : s.toList.isEmpty = true := by
  have e : s = ⟨#[]⟩ := ByteArray.ext (Array.eq_empty_of_size_eq_zero h)
  rw [e, ByteArray.toList_eq]
  rfl
theorem empty_no {s : ByteArray} (h : s.size ≠ 0) : s.toList.isEmpty = false := by
  rw [ByteArray.toList_eq]
  cases hl : s.data.toList with
  | nil => exact absurd (by have := congrArg List.length hl; simpa using this) h
  | cons _ _ => rfl

theorem toList_inj {s t : ByteArray} (h : s.toList = t.toList) : s = t := by
  rw [ByteArray.toList_eq, ByteArray.toList_eq] at h
  exact ByteArray.ext (Array.ext' h)

def addT (d : Dv) : List Cy := if d.nm.size = 0 then d.cs else []
/-- The cycles of the first k steps. -/
def allT (l : List Dv) (k : Nat) : List Cy := (l.take k).flatMap addT
/-- The marks behind the first k steps. -/
def marksT (l : List Dv) : Nat → ByteArray → Option Nat
  | 0, _ => none
  | k + 1, s => match l[k]? with
    | some d => if d.nm.size = 0 then marksT l k s else if s = d.nm then some (allT l k).length else marksT l k s
    | none => marksT l k s
/-- What came behind the mark s, of the first k steps. -/
def sinceT (l : List Dv) (k : Nat) (s : ByteArray) : List Cy :=
  match marksT l k s with
  | none => []
  | some p => (allT l k).drop p
section
variable {l : List Dv} {k : Nat} {d : Dv}
theorem allT_zero : allT l 0 = [] := by simp [allT]
theorem allT_succ (h : l[k]? = some d) : allT l (k + 1) = allT l k ++ addT d := by
  unfold allT
  rw [List.take_add_one, List.flatMap_append, h]
  simp
theorem allT_add (h : l[k]? = some d) (hd : d.nm.size = 0) : allT l (k + 1) = allT l k ++ d.cs := by rw [allT_succ h, addT, if_pos hd]
theorem allT_mark (h : l[k]? = some d) (hd : d.nm.size ≠ 0) : allT l (k + 1) = allT l k := by rw [allT_succ h, addT, if_neg hd, List.append_nil]
theorem marksT_add (h : l[k]? = some d) (hd : d.nm.size = 0) : marksT l (k + 1) = marksT l k := by
  funext s
  simp only [marksT, h, if_pos hd]
theorem marksT_mark (h : l[k]? = some d) (hd : d.nm.size ≠ 0) : marksT l (k + 1) = fun s => if s = d.nm then some (allT l k).length else marksT l k s := by
  funext s
  simp only [marksT, h, if_neg hd]
theorem allT_le (l : List Dv) (k : Nat) : (allT l k).length ≤ (allT l (k + 1)).length := by
  by_cases hk : k < l.length
  · rw [allT_succ (List.getElem?_eq_getElem hk), List.length_append]; omega
  · simp only [allT]
    rw [List.take_of_length_le (by omega), List.take_of_length_le (by omega)]
    exact Nat.le_refl _
theorem allT_mono (l : List Dv) {j k : Nat} (h : j ≤ k) : (allT l j).length ≤ (allT l k).length := by
  induction k with
  | zero => obtain rfl : j = 0 := by omega
            exact Nat.le_refl _
  | succ k ih =>
    rcases Nat.lt_or_ge k j with h1 | h1
    · obtain rfl : j = k + 1 := by omega
      exact Nat.le_refl _
    · exact Nat.le_trans (ih h1) (allT_le l k)
theorem marksT_le {s : ByteArray} {p : Nat} (h : marksT l k s = some p) : p ≤ (allT l k).length := by
  induction k with
  | zero => simp [marksT] at h
  | succ k ih =>
    have hl := allT_le l k
    simp only [marksT] at h
    split at h
    · split at h
      · have := ih h; omega
      · split at h
        · simp only [Option.some.injEq] at h; omega
        · have := ih h; omega
    · have := ih h; omega
theorem marksT_empty {s : ByteArray} (hs : s.size = 0) (l : List Dv) (k : Nat) : marksT l k s = none := by
  induction k with
  | zero => rfl
  | succ k ih =>
    simp only [marksT]
    split
    · split
      · exact ih
      · rename_i d _ hd
        split
        · rename_i e
          rw [e] at hs
          exact absurd hs hd
        · exact ih
    · exact ih
theorem marksT_some {j : Nat} (h : l[k]? = some d) (hd : d.nm.size ≠ 0) (hj : k < j) : (marksT l j d.nm).isSome = true := by
  induction j with
  | zero => omega
  | succ j ih =>
    rcases Nat.lt_or_ge k j with h1 | h1
    · simp only [marksT]
      split
      · split
        · exact ih h1
        · split
          · rfl
          · exact ih h1
      · exact ih h1
    · obtain rfl : k = j := by omega
      rw [marksT_mark h hd]
      simp
/-- One step of the law's own reckoning. -/
theorem since_zero (l : List Dv) (s : ByteArray) : sinceT l 0 s = [] := rfl
theorem since_none {s : ByteArray} (h : (marksT l k s).isSome = false) : sinceT l k s = [] := by
  unfold sinceT
  cases hm : marksT l k s with
  | none => rfl
  | some p => rw [hm] at h; cases h
theorem since_add {s : ByteArray} (h : l[k]? = some d) (hd : d.nm.size = 0) (hf : (marksT l k s).isSome = true) : sinceT l (k + 1) s = sinceT l k s ++ d.cs := by
  unfold sinceT
  rw [marksT_add h hd, allT_add h hd]
  cases hm : marksT l k s with
  | none => rw [hm] at hf; cases hf
  | some p => exact List.drop_append_of_le_length (marksT_le hm)
theorem since_stay {s : ByteArray} (h : l[k]? = some d) (hd : d.nm.size = 0) (hf : (marksT l k s).isSome = false) : sinceT l (k + 1) s = sinceT l k s := by
  rw [since_none hf, since_none (by rw [marksT_add h hd]; exact hf)]
theorem since_other {s : ByteArray} (h : l[k]? = some d) (hd : d.nm.size ≠ 0) (hs : s ≠ d.nm) : marksT l (k + 1) s = marksT l k s ∧ sinceT l (k + 1) s = sinceT l k s := by
  have e : marksT l (k + 1) s = marksT l k s := by rw [marksT_mark h hd]; exact if_neg hs
  refine ⟨e, ?_⟩
  unfold sinceT
  rw [e, allT_mark h hd]
theorem since_here (h : l[k]? = some d) (hd : d.nm.size ≠ 0) : (marksT l (k + 1) d.nm).isSome = true ∧ sinceT l (k + 1) d.nm = [] := by
  have e : marksT l (k + 1) d.nm = some (allT l k).length := by rw [marksT_mark h hd]; exact if_pos rfl
  refine ⟨by rw [e]; rfl, ?_⟩
  unfold sinceT
  rw [e, allT_mark h hd]
  simp
theorem allT_bound {N : Nat} (hN : ∀ j d, j < k → l[j]? = some d → d.cs.length ≤ N) : (allT l k).length ≤ N * k := by
  induction k with
  | zero => simp [allT]
  | succ k ih =>
    have h1 := ih (fun j d hj h => hN j d (by omega) h)
    cases hk : l[k]? with
    | none =>
      have h2 : l.length ≤ k := List.getElem?_eq_none_iff.1 hk
      have e : allT l (k + 1) = allT l k := by
        simp only [allT]
        rw [List.take_of_length_le (by omega), List.take_of_length_le h2]
      rw [e]
      calc _ ≤ N * k := h1
        _ ≤ N * (k + 1) := Nat.mul_le_mul_left N (Nat.le_succ k)
    | some d =>
      rw [allT_succ hk, List.length_append]
      have h3 := hN k d (by omega) hk
      have h4 : (addT d).length ≤ d.cs.length := by unfold addT; split <;> simp
      rw [Nat.mul_succ]
      omega
theorem sinceT_le (l : List Dv) (k : Nat) (s : ByteArray) : (sinceT l k s).length ≤ (allT l k).length := by
  unfold sinceT
  split
  · simp
  · rw [List.length_drop]; omega
end
end Go.Proofs.Ytkhdbfklfkkodaa
