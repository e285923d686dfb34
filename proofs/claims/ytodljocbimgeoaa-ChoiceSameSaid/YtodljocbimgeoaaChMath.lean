/-
  Lists of a script: what is right, the groups of its turns, what is torn; counting.
-/
import Derived.Test.YtodljocbimgeoaaWords
namespace Go.Proofs.Ytodljocbimgeoaa

/-- A turn: its row, its rung, its bit. -/
structure Tn where
  r : Int
  g : Int
  b : Int
deriving DecidableEq

/-- The lists of a script, as they read. -/
structure Sc where
  busy : List Int
  fails : List Int
  turns : List Tn
  cut : Int
  torn : List Nat
  marked : List Int

def Tn.key (t : Tn) : Int × Int := (t.r, t.g)
/-- The bits turned at a place, in the list's order. -/
def grp (l : List Tn) (x : Int × Int) : List Int := (l.filter fun t => decide (t.key = x)).map (·.b)

theorem grp_nil (x : Int × Int) : grp [] x = [] := rfl
theorem grp_snoc (l : List Tn) (t : Tn) (x : Int × Int) : grp (l ++ [t]) x = if x = t.key then grp l t.key ++ [t.b] else grp l x := by
  unfold grp
  rw [List.filter_append, List.map_append]
  by_cases h : x = t.key
  · subst h
    simp
  · rw [if_neg h]
    simp [Ne.symm h]
theorem grp_len (l : List Tn) (x : Int × Int) : (grp l x).length ≤ l.length := by
  unfold grp
  rw [List.length_map]
  exact List.length_filter_le _ _
theorem grp_mem {l : List Tn} {x : Int × Int} {b : Int} (h : b ∈ grp l x) : (⟨x.1, x.2, b⟩ : Tn) ∈ l := by
  unfold grp at h
  obtain ⟨t, ht, rfl⟩ := List.mem_map.1 h
  obtain ⟨h1, h2⟩ := List.mem_filter.1 ht
  have h3 := of_decide_eq_true h2
  subst h3
  exact h1
theorem grp_none {l : List Tn} {x : Int × Int} (h : ∀ t ∈ l, t.key ≠ x) : grp l x = [] := by
  unfold grp
  rw [List.filter_eq_nil_iff.2 (fun t ht => by simp [h t ht])]
  rfl

/-- The turns at places ahead of (r, g), row by row, two rungs a row. -/
def ahead (l : List Tn) (r g : Int) : Nat := (l.filter fun t => decide (t.r < r ∨ t.r = r ∧ t.g < g)).length
theorem ahead_cons (t : Tn) (l : List Tn) (r g : Int) : ahead (t :: l) r g = ahead l r g + if t.r < r ∨ t.r = r ∧ t.g < g then 1 else 0 := by
  unfold ahead
  rw [List.filter_cons]
  split <;> rename_i h
  · rw [if_pos (of_decide_eq_true h)]; rfl
  · rw [if_neg (of_decide_eq_false (by simpa using h))]; rfl
theorem ahead_zero {l : List Tn} (h : ∀ t ∈ l, 0 ≤ t.r ∧ 0 ≤ t.g) : ahead l 0 0 = 0 := by
  unfold ahead
  rw [List.filter_eq_nil_iff.2 (fun t ht => by have := h t ht; simp; omega)]
  rfl
theorem ahead_next (l : List Tn) (r g : Int) : ahead l r (g + 1) = ahead l r g + (grp l (r, g)).length := by
  induction l with
  | nil => rfl
  | cons t l ih =>
    have e : (grp (t :: l) (r, g)).length = (grp l (r, g)).length + if t.key = (r, g) then 1 else 0 := by
      unfold grp
      rw [List.filter_cons]
      split <;> rename_i h
      · rw [if_pos (of_decide_eq_true h)]; rfl
      · rw [if_neg (of_decide_eq_false (by simpa using h))]; rfl
    rw [ahead_cons, ahead_cons, e, ih]
    have hk : t.key = (r, g) ↔ t.r = r ∧ t.g = g := by simp [Tn.key]
    by_cases h : t.r = r ∧ t.g = g
    · rw [if_pos (hk.2 h), if_pos (by omega), if_neg (by omega)]; omega
    · rw [if_neg (fun h1 => h (hk.1 h1))]
      by_cases h2 : t.r < r ∨ t.r = r ∧ t.g < g
      · rw [if_pos (by omega), if_pos h2]; omega
      · rw [if_neg (by omega), if_neg h2]; omega
theorem ahead_row {l : List Tn} (h : ∀ t ∈ l, 0 ≤ t.g ∧ t.g < 2) (r : Int) : ahead l (r + 1) 0 = ahead l r 2 := by
  unfold ahead
  congr 1
  refine List.filter_congr fun t ht => ?_
  have := h t ht
  rw [decide_eq_decide]
  omega
theorem ahead_all {l : List Tn} {r : Int} (h : ∀ t ∈ l, t.r < r) : ahead l r 0 = l.length := by
  unfold ahead
  rw [List.filter_eq_self.2 (fun t ht => by have := h t ht; simp; omega)]

/-- Each element is a duration. -/
def durL (l : List Int) (k : Nat) : Prop := ∀ i, i < k → 0 ≤ l.getD i 0 ∧ l.getD i 0 ≤ 65536
/-- The first k are from 0 to m, each greater than the one ahead of it. -/
def ascL (l : List Int) (m : Int) (k : Nat) : Prop := ∀ i, i < k → 0 ≤ l.getD i 0 ∧ l.getD i 0 ≤ m ∧ (0 < i → l.getD (i - 1) 0 < l.getD i 0)
/-- A turn that the small geometry has. -/
def Tn.ok (t : Tn) (bits : Int) : Prop := 0 ≤ t.r ∧ t.r < 16 ∧ 0 ≤ t.g ∧ t.g ≤ 1 ∧ 0 ≤ t.b ∧ t.b ≤ bits
def trnL (l : List Tn) (bits : Int) (k : Nat) : Prop := ∀ i t, i < k → l[i]? = some t → t.ok bits

theorem durL.step {l : List Int} {k : Nat} (h : durL l k) (h0 : 0 ≤ l.getD k 0) (h1 : l.getD k 0 ≤ 65536) : durL l (k + 1) := fun i hi => by
  rcases Nat.lt_or_ge i k with h2 | h2
  · exact h i h2
  · obtain rfl : i = k := by omega
    exact ⟨h0, h1⟩
theorem ascL.step {l : List Int} {m : Int} {k : Nat} (h : ascL l m k) (h0 : 0 ≤ l.getD k 0 ∧ l.getD k 0 ≤ m ∧ (0 < k → l.getD (k - 1) 0 < l.getD k 0)) : ascL l m (k + 1) := fun i hi => by
  rcases Nat.lt_or_ge i k with h2 | h2
  · exact h i h2
  · obtain rfl : i = k := by omega
    exact h0
theorem trnL.step {l : List Tn} {bits : Int} {k : Nat} {t : Tn} (h : trnL l bits k) (ht : l[k]? = some t) (h0 : t.ok bits) : trnL l bits (k + 1) := fun i u hi hu => by
  rcases Nat.lt_or_ge i k with h2 | h2
  · exact h i u h2 hu
  · obtain rfl : i = k := by omega
    rw [ht] at hu
    cases hu
    exact h0
theorem trnL.all {l : List Tn} {bits : Int} (h : trnL l bits l.length) : ∀ t ∈ l, t.ok bits := fun t ht => by
  obtain ⟨i, hi⟩ := List.mem_iff_getElem?.1 ht
  exact h i t (List.getElem?_eq_some_iff.1 hi).1 hi
theorem getD_of {l : List Int} {k : Nat} {x : Int} (h : l[k]? = some x) : l.getD k 0 = x := by simp [List.getD, h]

theorem durL.all {l : List Int} (h : durL l l.length) : ∀ x ∈ l, -9223372036854775808 ≤ x ∧ x ≤ 9223372036854775807 := fun x hx => by
  obtain ⟨i, hi⟩ := List.mem_iff_getElem?.1 hx
  have := h i (List.getElem?_eq_some_iff.1 hi).1
  rw [getD_of hi] at this
  omega
theorem ascL.all {l : List Int} {m : Int} (hm : m ≤ 9223372036854775807) (h : ascL l m l.length) : ∀ x ∈ l, -9223372036854775808 ≤ x ∧ x ≤ 9223372036854775807 := fun x hx => by
  obtain ⟨i, hi⟩ := List.mem_iff_getElem?.1 hx
  have := h i (List.getElem?_eq_some_iff.1 hi).1
  rw [getD_of hi] at this
  omega

/-- Ascending: the smaller place has the smaller number. -/
theorem ascL.lt {l : List Int} {m : Int} (h : ascL l m l.length) {i j : Nat} (hij : i < j) (hj : j < l.length) : l.getD i 0 < l.getD j 0 := by
  induction j with
  | zero => omega
  | succ j ih =>
    have h1 := (h (j + 1) hj).2.2 (by omega)
    simp only [Nat.add_sub_cancel] at h1
    rcases Nat.lt_or_ge i j with h2 | h2
    · have := ih h2 (by omega)
      omega
    · obtain rfl : i = j := by omega
      exact h1
theorem ascL.nodup {l : List Int} {m : Int} (h : ascL l m l.length) : l.Nodup := by
  rw [List.Nodup, List.pairwise_iff_getElem]
  intro i j hi hj hij e
  have := h.lt hij hj
  rw [getD_of (List.getElem?_eq_getElem hi), getD_of (List.getElem?_eq_getElem hj)] at this
  omega
theorem ascL.nonneg {l : List Int} {m : Int} (h : ascL l m l.length) : ∀ x ∈ l, 0 ≤ x := fun x hx => by
  obtain ⟨i, hi⟩ := List.mem_iff_getElem?.1 hx
  have := h i (List.getElem?_eq_some_iff.1 hi).1
  rw [getD_of hi] at this
  exact this.1

/-- How many of the numbers below n stand in the list; how many of the list are below n. -/
def hits (l : List Int) : Nat → Nat
  | 0 => 0
  | n + 1 => hits l n + if (n : Int) ∈ l then 1 else 0
def under (l : List Int) (n : Int) (k : Nat) : Nat := ((l.take k).filter fun x => decide (x < n)).length
theorem hits_le (l : List Int) (n : Nat) : hits l n ≤ n := by
  induction n with
  | zero => exact Nat.le_refl _
  | succ n ih => unfold hits; split <;> omega
theorem under_le (l : List Int) (n : Int) (k : Nat) : under l n k ≤ k := by
  unfold under
  exact Nat.le_trans (List.length_filter_le _ _) (by rw [List.length_take]; omega)
theorem under_step {l : List Int} {n : Int} {k : Nat} {x : Int} (h : l[k]? = some x) : under l n (k + 1) = under l n k + if x < n then 1 else 0 := by
  unfold under
  rw [List.take_add_one, h, Option.toList_some, List.filter_append, List.length_append]
  congr 1
  split <;> rename_i h1 <;> simp [h1]
theorem filter_next {l : List Int} (hd : l.Nodup) (n : Int) : (l.filter fun x => decide (x < n + 1)).length = (l.filter fun x => decide (x < n)).length + if n ∈ l then 1 else 0 := by
  induction l with
  | nil => simp
  | cons x l ih =>
    obtain ⟨hx, hd⟩ := List.nodup_cons.1 hd
    have ih := ih hd
    rw [List.filter_cons, List.filter_cons]
    by_cases e : x = n
    · subst e
      rw [if_neg hx] at ih
      rw [if_pos (decide_eq_true (by omega)), if_neg (fun h => by have := of_decide_eq_true h; omega), if_pos List.mem_cons_self, List.length_cons, ih]
    · have e2 : (n ∈ x :: l) ↔ n ∈ l := ⟨fun h => (List.mem_cons.1 h).resolve_left fun h1 => e h1.symm, fun h => List.mem_cons_of_mem _ h⟩
      by_cases h1 : x < n
      · rw [if_pos (decide_eq_true (by omega)), if_pos (decide_eq_true h1), List.length_cons, List.length_cons, ih]
        simp only [e2]
        omega
      · rw [if_neg (fun h => by have := of_decide_eq_true h; omega), if_neg (fun h => h1 (of_decide_eq_true h)), ih]
        simp only [e2]
theorem hits_under {l : List Int} (h0 : ∀ x ∈ l, 0 ≤ x) (hd : l.Nodup) (n : Nat) : hits l n = under l n l.length := by
  unfold under
  rw [List.take_length]
  induction n with
  | zero =>
    unfold hits
    rw [List.filter_eq_nil_iff.2 (fun x hx h => by have := h0 x hx; have := of_decide_eq_true h; omega)]
    rfl
  | succ n ih =>
    unfold hits
    rw [ih, show ((n + 1 : Nat) : Int) = (n : Int) + 1 by omega, filter_next hd]

/-- What is torn: the first f bytes of it told, zero bytes behind them. -/
def tornL (t : List Nat) (n f : Nat) : List Nat := (List.range n).map fun i => if i < f then t.getD (i % t.length) 0 else 0
theorem tornL_len (t : List Nat) (n f : Nat) : (tornL t n f).length = n := by simp [tornL]
theorem tornL_get (t : List Nat) (n f i : Nat) (h : i < n) : (tornL t n f)[i]? = some (if i < f then t.getD (i % t.length) 0 else 0) := by
  simp [tornL, h]
theorem tornL_zero (t : List Nat) (n : Nat) : tornL t n 0 = List.replicate n 0 := by
  apply List.ext_getElem?
  intro i
  by_cases h : i < n
  · rw [tornL_get _ _ _ _ h, List.getElem?_replicate, if_pos h, if_neg (by omega)]
  · rw [List.getElem?_eq_none (by rw [tornL_len]; omega), List.getElem?_eq_none (by simp; omega)]
theorem tornL_small (t : List Nat) (n f : Nat) (ht : ∀ x ∈ t, x < 256) : ∀ x ∈ tornL t n f, x < 256 := by
  intro x hx
  unfold tornL at hx
  obtain ⟨i, _, rfl⟩ := List.mem_map.1 hx
  split
  · by_cases h : i % t.length < t.length
    · rw [List.getD, List.getElem?_eq_getElem h]
      exact ht _ (List.getElem_mem h)
    · rw [List.getD, List.getElem?_eq_none (by omega)]
      decide
  · decide
/-- One round: as many as there is room for, set at f, which lies at a beginning. -/
theorem tornL_step (t : List Nat) (n f : Nat) (hf : f ≤ n) (hd : f % t.length = 0) :
    (tornL t n f).take f ++ t.take (min t.length (n - f)) ++ (tornL t n f).drop (f + min t.length (n - f)) = tornL t n (f + min t.length (n - f)) := by
  have hm : (t.take (min t.length (n - f))).length = min t.length (n - f) := by rw [List.length_take]; omega
  have hl : ((tornL t n f).take f).length = f := by rw [List.length_take, tornL_len]; omega
  apply List.ext_getElem?
  intro i
  by_cases h : i < n
  · rw [tornL_get _ _ _ _ h]
    by_cases h1 : i < f
    · rw [List.append_assoc, List.getElem?_append_left (by omega), List.getElem?_take, if_pos h1, tornL_get _ _ _ _ h, if_pos h1, if_pos (by omega)]
    · by_cases h2 : i < f + min t.length (n - f)
      · rw [List.getElem?_append_left (by rw [List.length_append]; omega), List.getElem?_append_right (by omega), hl, List.getElem?_take, if_pos (by omega), if_pos h2]
        have hi : i - f < t.length := by omega
        obtain ⟨q, hq⟩ : ∃ q, f = t.length * q := ⟨f / t.length, by have := Nat.div_add_mod f t.length; omega⟩
        have e : i % t.length = i - f := by
          have e1 : i = (i - f) + t.length * q := by omega
          rw [e1, Nat.add_mul_mod_self_left, Nat.mod_eq_of_lt (by omega)]
          omega
        rw [e, List.getD, List.getElem?_eq_getElem hi]
        rfl
      · rw [List.getElem?_append_right (by rw [List.length_append]; omega), List.length_append, hl, hm, List.getElem?_drop, show f + min t.length (n - f) + (i - (f + min t.length (n - f))) = i by omega, tornL_get _ _ _ _ h, if_neg h1, if_neg h2]
  · rw [List.getElem?_eq_none (by rw [List.length_append, List.length_append, hl, hm, List.length_drop, tornL_len]; omega), List.getElem?_eq_none (by rw [tornL_len]; omega)]
end Go.Proofs.Ytodljocbimgeoaa
