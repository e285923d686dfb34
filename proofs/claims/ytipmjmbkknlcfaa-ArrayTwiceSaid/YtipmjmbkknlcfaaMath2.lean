/-
  Plain facts on bytes and bits, more: two turns are none; what differs, turned, is the same; what two have has no more ones than either.
-/
import Derived.Test.YtipmjmbkknlcfaaMath
namespace Go.Proofs.Ytipmjmbkknlcfaa

theorem bits_ext {a b : List Nat} (ha : ∀ x ∈ a, x < 256) (hb : ∀ x ∈ b, x < 256) (hl : a.length = b.length) (h : ∀ i, i < 8 * a.length → getN a i = getN b i) : a = b := by
  apply List.ext_getElem hl
  intro n h1 h2
  apply Nat.eq_of_testBit_eq
  intro t
  have xa := ha _ (List.getElem_mem h1)
  have xb := hb _ (List.getElem_mem h2)
  by_cases ht : t < 8
  · have := h (8 * n + t) (by omega)
    unfold getN at this
    rw [show (8 * n + t) / 8 = n by omega, show (8 * n + t) % 8 = t by omega] at this
    simpa [h1, h2] using this
  · have p : 2 ^ 8 ≤ 2 ^ t := Nat.pow_le_pow_right (by omega) (by omega)
    rw [Nat.testBit_lt_two_pow (by omega), Nat.testBit_lt_two_pow (by omega)]

theorem getN_flip1 (l : List Nat) (p : Int) (i : Nat) (hi : i < 8 * l.length) : getN (flip1 l p) i = (getN l i ^^ decide (p = (i : Int))) := by
  by_cases hp : 0 ≤ p ∧ p / 8 < l.length
  · obtain ⟨h0, h1⟩ := hp
    obtain ⟨j, rfl⟩ := Int.eq_ofNat_of_zero_le h0
    have hj : j / 8 < l.length := by omega
    obtain ⟨y, hy⟩ : ∃ y, l[j / 8]? = some y := ⟨_, List.getElem?_eq_getElem hj⟩
    rw [flip1_yes l j y hy]
    have hi8 : i / 8 < l.length := by omega
    unfold getN
    by_cases he : j / 8 = i / 8
    · rw [he] at hy
      rw [he]
      have e1 : (l.set (i / 8) (y ^^^ mk8 j)).getD (i / 8) 0 = y ^^^ mk8 j := by simp [hi8]
      have e2 : l.getD (i / 8) 0 = y := getD_some hy
      rw [e1, e2, Nat.testBit_xor]
      congr 1
      unfold mk8
      rw [Nat.testBit_two_pow]
      apply decide_eq_decide.2
      omega
    · have e1 : (l.set (j / 8) (y ^^^ mk8 j)).getD (i / 8) 0 = l.getD (i / 8) 0 := by
        rw [List.getD_eq_getElem?_getD, List.getD_eq_getElem?_getD, List.getElem?_set_ne he]
      rw [e1, decide_eq_false (by omega)]
      simp
  · rw [flip1_no l p hp, decide_eq_false (by omega)]
    simp

/-- Is i named an odd number of times? -/
def par (ps : List Int) (i : Nat) : Bool := ps.foldr (fun p acc => decide (p = (i : Int)) ^^ acc) false
theorem getN_flips (ps : List Int) (i : Nat) : ∀ l : List Nat, i < 8 * l.length → getN (flips l ps) i = (getN l i ^^ par ps i) := by
  induction ps with
  | nil => intro l _; simp [flips, par]
  | cons p t ih =>
    intro l hi
    have e : flips l (p :: t) = flips (flip1 l p) t := rfl
    rw [e, ih (flip1 l p) (by rw [flip1_length]; exact hi), getN_flip1 l p i hi]
    show _ = (getN l i ^^ (decide (p = (i : Int)) ^^ par t i))
    rw [Bool.xor_assoc]

theorem flips_twice (l : List Nat) (ps : List Int) (h : ∀ x ∈ l, x < 256) : flips (flips l ps) ps = l := by
  refine bits_ext (flips_lt _ ps (flips_lt l ps h)) h (by rw [flips_length, flips_length]) (fun i hi => ?_)
  rw [flips_length, flips_length] at hi
  rw [getN_flips ps i _ (by rw [flips_length]; exact hi), getN_flips ps i l hi, Bool.xor_assoc, Bool.xor_self, Bool.xor_false]

theorem diffTo_eq (a b : List Nat) (k : Nat) : diffTo a b k = ((List.range (8 * k)).filter fun i => getN a i != getN b i).map fun i => ((i : Nat) : Int) := by
  induction k with
  | zero => simp [diffTo]
  | succ k ih =>
    have h : diffTo a b (k + 1) = diffTo a b k ++ offs k (a.getD k 0 ^^^ b.getD k 0) := by
      unfold diffTo
      rw [List.range_succ, List.flatMap_append]
      simp
    rw [h, ih, show 8 * (k + 1) = 8 * k + 8 by omega, List.range_add, List.filter_append, List.map_append]
    congr 1
    unfold offs bitsOf
    rw [List.filter_map, List.map_map]
    have e : (List.range 8).filter (fun i => (a.getD k 0 ^^^ b.getD k 0).testBit i) = (List.range 8).filter ((fun i => getN a i != getN b i) ∘ fun x => 8 * k + x) := by
      apply List.filter_congr
      intro t ht
      have ht8 : t < 8 := List.mem_range.1 ht
      simp only [Function.comp, getN]
      rw [show (8 * k + t) / 8 = k by omega, show (8 * k + t) % 8 = t by omega, Nat.testBit_xor]
    rw [e]
    rfl

theorem par_append (x y : List Int) (i : Nat) : par (x ++ y) i = (par x i ^^ par y i) := by
  induction x with
  | nil => simp [par]
  | cons p t ih =>
    show (decide (p = (i : Int)) ^^ par (t ++ y) i) = ((decide (p = (i : Int)) ^^ par t i) ^^ par y i)
    rw [ih, Bool.xor_assoc]
theorem par_filter (f : Nat → Bool) (m i : Nat) : par (((List.range m).filter f).map fun i => ((i : Nat) : Int)) i = (decide (i < m) && f i) := by
  induction m with
  | zero => simp [par]
  | succ m ih =>
    rw [List.range_succ, List.filter_append, List.map_append, par_append, ih]
    by_cases him : i = m
    · subst him
      cases hf : f i <;> simp [par, hf]
    · have h1 : decide (i < m + 1) = decide (i < m) := decide_eq_decide.2 (by omega)
      have h2 : ¬ (m : Int) = (i : Int) := by omega
      rw [h1]
      cases hf : f m <;> simp [par, hf, h2]

theorem flips_diff (a b : List Nat) (ha : ∀ x ∈ a, x < 256) (hb : ∀ x ∈ b, x < 256) (hl : a.length = b.length) : flips a (diffL a b) = b := by
  refine bits_ext (flips_lt _ _ ha) hb (by rw [flips_length, hl]) (fun i hi => ?_)
  rw [flips_length] at hi
  rw [getN_flips _ i a hi, diffL, diffTo_eq, par_filter, hl, Nat.min_self, decide_eq_true (by omega), Bool.true_and]
  cases getN a i <;> cases getN b i <;> rfl

theorem popAux_and (f : Nat) : ∀ x y : Nat, Lib.popAux f (x &&& y) ≤ Lib.popAux f x := by
  induction f with
  | zero => intro x y; exact Nat.le_refl _
  | succ f ih =>
    intro x y
    simp only [Lib.popAux]
    have h1 := ih (x / 2) (y / 2)
    have h2 : (x &&& y) / 2 = x / 2 &&& y / 2 := Nat.and_div_two
    have h3 : (x &&& y) % 2 ≤ x % 2 := by
      have h4 : (x &&& y) % 2 = (x % 2) &&& (y % 2) := Nat.and_mod_two_pow (n := 1)
      rw [h4]
      exact Nat.and_le_left
    rw [h2]
    omega
theorem popc_and (x y : Nat) : Lib.onesCount (x &&& y) ≤ Lib.onesCount x := popAux_and 64 x y
theorem popc_and' (x y : Nat) : Lib.onesCount (x &&& y) ≤ Lib.onesCount y := by rw [Nat.and_comm]; exact popc_and y x

theorem range_getD (l : List Nat) (d : Nat) : (List.range l.length).map (fun i => l.getD i d) = l := by
  apply List.ext_getElem
  · simp
  · intro i h1 h2
    simp [h2]
theorem sum_range_le (f g : Nat → Nat) (n m : Nat) (hnm : n ≤ m) (h : ∀ i, i < n → f i ≤ g i) : ((List.range n).map f).sum ≤ ((List.range m).map g).sum := by
  induction n generalizing m with
  | zero => simp
  | succ n ih =>
    obtain ⟨d, rfl⟩ : ∃ d, m = n + 1 + d := ⟨m - (n + 1), by omega⟩
    have h1 := ih n (Nat.le_refl n) (fun i hi => h i (by omega))
    have h2 := h n (by omega)
    have e1 : ((List.range (n + 1)).map f).sum = ((List.range n).map f).sum + f n := by simp [List.range_succ]
    have e2 : ((List.range (n + 1)).map g).sum = ((List.range n).map g).sum + g n := by simp [List.range_succ]
    have e3 : ((List.range (n + 1 + d)).map g).sum = ((List.range (n + 1)).map g).sum + (((List.range d).map fun x => n + 1 + x).map g).sum := by
      rw [List.range_add, List.map_append, List.sum_append]
    rw [e1, e3, e2]
    omega
def zerosS (l : List Nat) : Nat := (l.map fun x => 8 - Lib.onesCount x).sum
theorem zerosS_eq (l : List Nat) (h : ∀ x ∈ l, x < 256) : zerosS l + ones l = 8 * l.length := by
  induction l with
  | nil => rfl
  | cons x t ih =>
    have h1 := popc_le x (h x (by simp))
    have h2 := ih (fun y hy => h y (by simp [hy]))
    simp only [zerosS, ones, List.map_cons, List.sum_cons, List.length_cons] at h2 ⊢
    omega
theorem zerosS_and (a b : List Nat) : zerosS a ≤ zerosS (andL a b) := by
  have e : zerosS a = ((List.range a.length).map fun i => 8 - Lib.onesCount (a.getD i 255)).sum := by
    unfold zerosS
    conv => lhs; rw [← range_getD a 255]
    rw [List.map_map]
    rfl
  rw [e]
  unfold zerosS andL
  rw [List.map_map]
  exact sum_range_le _ _ _ _ (by omega) (fun i _ => by
    have := popc_and (a.getD i 255) (b.getD i 255)
    simp only [Function.comp]
    omega)
theorem zeros_and (a b : List Nat) (ha : ∀ x ∈ a, x < 256) : 8 * (a.length : Int) - (ones a : Int) ≤ 8 * ((andL a b).length : Int) - (ones (andL a b) : Int) := by
  have h1 := zerosS_eq a ha
  have h2 := zerosS_eq (andL a b) (andL_lt a b ha)
  have h3 := zerosS_and a b
  omega

theorem andL_getD (a b : List Nat) (i : Nat) : (andL a b).getD i 255 = if i < max a.length b.length then a.getD i 255 &&& b.getD i 255 else 255 := by
  rw [List.getD_eq_getElem?_getD, andL_get]
  split <;> rfl
theorem getD_over (a : List Nat) (i : Nat) (h : a.length ≤ i) : a.getD i 255 = 255 := getD_none h
theorem andL_getD' (a b : List Nat) (i : Nat) : (andL a b).getD i 255 = a.getD i 255 &&& b.getD i 255 := by
  rw [andL_getD]
  split
  · rfl
  · rw [getD_over a i (by omega), getD_over b i (by omega)]; rfl
theorem andL_self_left (a b : List Nat) : andL (andL a b) a = andL a b := by
  apply List.ext_getElem?
  intro i
  rw [andL_get, andL_get, andL_length, andL_getD']
  rw [show max (max a.length b.length) a.length = max a.length b.length by omega]
  split
  · rw [Nat.and_comm (a.getD i 255) (b.getD i 255), Nat.and_assoc, Nat.and_self]
  · rfl
end Go.Proofs.Ytipmjmbkknlcfaa
