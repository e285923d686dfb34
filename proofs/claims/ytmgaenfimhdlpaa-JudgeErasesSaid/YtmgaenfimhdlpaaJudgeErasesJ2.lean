/-
  Plain facts on bytes, bits and lists for the layer bits: no program, no memory.
-/
import Derived.Lib.BitFns
import Derived.Laws.BitsAllLaws
namespace Go.Proofs.Ytmgaenfimhdlpaa

/-- The byte that has bit i % 8 alone. -/
def mk8 (i : Nat) : Nat := 2 ^ (i % 8)
theorem mk8_lt (i : Nat) : mk8 i < 256 := by
  have : 2 ^ (i % 8) ≤ 2 ^ 7 := Nat.pow_le_pow_right (by omega) (by omega)
  unfold mk8; omega

/-- Bit i of bytes (false: there is none). -/
def getN (l : List Nat) (i : Nat) : Bool := (l.getD (i / 8) 0).testBit (i % 8)
def getI (l : List Nat) (i : Int) : Bool := decide (0 ≤ i) && getN l i.toNat

theorem and_mk8 (x j : Nat) (hx : x < 256) : (bits .and .u8 (x : Int) (mk8 j : Int) != 0) = x.testBit (j % 8) := by
  rw [u8_and_nat x (mk8 j) hx (mk8_lt j)]
  unfold mk8
  rw [nat_bit, Nat.testBit_eq_decide_div_mod_eq]
  have hp : 0 < 2 ^ (j % 8) := Nat.pow_pos (by omega)
  generalize 2 ^ (j % 8) = y at *
  rcases Nat.mod_two_eq_zero_or_one (x / y) with h | h
  · simp [h]
  · simp [h]
    omega

theorem getI_of (l : List Nat) (j x : Nat) (h : l[j / 8]? = some x) : getI l (j : Int) = x.testBit (j % 8) := by
  simp [getI, getN, h]
theorem getI_no (l : List Nat) (i : Int) (h : ¬ (0 ≤ i ∧ i / 8 < l.length)) : getI l i = false := by
  unfold getI getN
  by_cases hi : 0 ≤ i
  · have hn : ¬ i / 8 < l.length := fun hh => h ⟨hi, hh⟩
    have : l[i.toNat / 8]? = none := List.getElem?_eq_none (by omega)
    simp [this]
  · simp [hi]

/-- How many bits of bytes are 1. -/
def ones (l : List Nat) : Nat := (l.map Lib.onesCount).sum
theorem ones_snoc (l : List Nat) (x : Nat) : ones (l ++ [x]) = ones l + Lib.onesCount x := by simp [ones]
theorem popc_le (x : Nat) (h : x < 256) : Lib.onesCount x ≤ 8 := Lib.onesCount_le8 ⟨x, h⟩
theorem ones_le (l : List Nat) (h : ∀ x ∈ l, x < 256) : ones l ≤ 8 * l.length := by
  induction l with
  | nil => simp [ones]
  | cons a t ih =>
    have h1 := popc_le a (h a (by simp))
    have h2 := ih (fun x hx => h x (by simp [hx]))
    simp only [ones, List.map_cons, List.sum_cons, List.length_cons] at h2 ⊢
    omega
theorem take_snoc {α : Type} {l : List α} {k : Nat} {x : α} (h : l[k]? = some x) : l.take (k + 1) = l.take k ++ [x] := by
  rw [List.take_add_one, h]; rfl

/-- Bit i turned, where there is one. -/
def flip1 (l : List Nat) (i : Int) : List Nat := if 0 ≤ i ∧ i / 8 < l.length then l.set (i.toNat / 8) (l.getD (i.toNat / 8) 0 ^^^ mk8 i.toNat) else l
def flips (l : List Nat) (ps : List Int) : List Nat := ps.foldl flip1 l
theorem flip1_length (l : List Nat) (i : Int) : (flip1 l i).length = l.length := by unfold flip1; split <;> simp
theorem flips_length (l : List Nat) (ps : List Int) : (flips l ps).length = l.length := by
  unfold flips
  induction ps generalizing l with
  | nil => rfl
  | cons p t ih => rw [List.foldl_cons, ih, flip1_length]
theorem flips_snoc (l : List Nat) (ps : List Int) (p : Int) : flips l (ps ++ [p]) = flip1 (flips l ps) p := by simp [flips]
theorem xor_lt8 (x y : Nat) (hx : x < 256) (hy : y < 256) : x ^^^ y < 256 := Nat.xor_lt_two_pow (n := 8) hx hy
theorem flip1_lt (l : List Nat) (i : Int) (h : ∀ x ∈ l, x < 256) : ∀ x ∈ flip1 l i, x < 256 := by
  unfold flip1
  split
  · intro x hx
    rcases List.mem_or_eq_of_mem_set hx with h1 | h1
    · exact h x h1
    · subst h1
      refine xor_lt8 _ _ ?_ (mk8_lt _)
      rw [List.getD_eq_getElem?_getD]
      rcases e : l[i.toNat / 8]? with _ | y
      · simp
      · exact h y (List.mem_of_getElem? e)
  · exact h
theorem flips_lt (l : List Nat) (ps : List Int) (h : ∀ x ∈ l, x < 256) : ∀ x ∈ flips l ps, x < 256 := by
  unfold flips
  induction ps generalizing l with
  | nil => exact h
  | cons p t ih => rw [List.foldl_cons]; exact ih _ (flip1_lt l p h)
theorem flip1_yes (l : List Nat) (j y : Nat) (h : l[j / 8]? = some y) : flip1 l (j : Int) = l.set (j / 8) (y ^^^ mk8 j) := by
  have hl : j / 8 < l.length := (List.getElem?_eq_some_iff.1 h).1
  unfold flip1
  rw [if_pos ⟨by omega, by omega⟩]
  simp [h]
theorem flip1_no (l : List Nat) (i : Int) (h : ¬ (0 ≤ i ∧ i / 8 < l.length)) : flip1 l i = l := by unfold flip1; rw [if_neg h]

/-- What two lists of bytes have, the bytes that the shorter one lacks counting as 255. -/
def andL (a b : List Nat) : List Nat := (List.range (max a.length b.length)).map fun i => a.getD i 255 &&& b.getD i 255
/-- The same, as far as k bytes of the first. -/
def andTo (a b : List Nat) (k : Nat) : List Nat := (List.range a.length).map fun i => if i < k then a.getD i 255 &&& b.getD i 255 else a.getD i 255
theorem andL_length (a b : List Nat) : (andL a b).length = max a.length b.length := by simp [andL]
theorem andTo_length (a b : List Nat) (k : Nat) : (andTo a b k).length = a.length := by simp [andTo]
theorem andL_get (a b : List Nat) (i : Nat) : (andL a b)[i]? = if i < max a.length b.length then some (a.getD i 255 &&& b.getD i 255) else none := by
  unfold andL
  rw [List.getElem?_map]
  split
  · rename_i h; rw [List.getElem?_range h]; rfl
  · rename_i h; rw [List.getElem?_eq_none (by simp only [List.length_range]; omega)]; rfl
theorem andTo_get (a b : List Nat) (k i : Nat) : (andTo a b k)[i]? = if i < a.length then some (if i < k then a.getD i 255 &&& b.getD i 255 else a.getD i 255) else none := by
  unfold andTo
  rw [List.getElem?_map]
  split
  · rename_i h; rw [List.getElem?_range h]; rfl
  · rename_i h; rw [List.getElem?_eq_none (by simp only [List.length_range]; omega)]; rfl
theorem getD_some {l : List Nat} {i x d : Nat} (h : l[i]? = some x) : l.getD i d = x := by simp [h]
theorem getD_none {l : List Nat} {i d : Nat} (h : l.length ≤ i) : l.getD i d = d := by simp [List.getElem?_eq_none h]
theorem andTo_zero (a b : List Nat) : andTo a b 0 = a := by
  apply List.ext_getElem?
  intro i
  rw [andTo_get]
  split
  · rename_i h; simp [List.getElem?_eq_getElem h]
  · rename_i h; rw [List.getElem?_eq_none (by omega)]
theorem andTo_cell (a b : List Nat) (k x : Nat) (h : a[k]? = some x) : (andTo a b k)[k]? = some x := by
  have hl : k < a.length := (List.getElem?_eq_some_iff.1 h).1
  rw [andTo_get, if_pos hl, if_neg (by omega), getD_some h]
theorem andTo_succ (a b : List Nat) (k x y : Nat) (hx : a[k]? = some x) (hy : b[k]? = some y) : andTo a b (k + 1) = (andTo a b k).set k (x &&& y) := by
  have hl : k < a.length := (List.getElem?_eq_some_iff.1 hx).1
  apply List.ext_getElem?
  intro i
  rw [andTo_get, List.getElem?_set, andTo_length, andTo_get]
  by_cases hik : k = i
  · subst hik
    rw [if_pos hl, if_pos rfl, if_pos hl, if_pos (by omega), getD_some hx, getD_some hy]
  · rw [if_neg hik]
    split
    · congr 1
      by_cases h1 : i < k
      · rw [if_pos h1, if_pos (by omega)]
      · rw [if_neg h1, if_neg (by omega)]
    · rfl
theorem and_255 (x : Nat) (h : x < 256) : x &&& 255 = x := by rw [nat_mask8]; omega
theorem getD_lt {l : List Nat} (h : ∀ x ∈ l, x < 256) (i : Nat) : l.getD i 255 < 256 := by
  rw [List.getD_eq_getElem?_getD]
  rcases e : l[i]? with _ | y
  · simp
  · exact h y (List.mem_of_getElem? e)
theorem andTo_all (a b : List Nat) (ha : ∀ x ∈ a, x < 256) (hl : b.length ≤ a.length) : andTo a b b.length = andL a b := by
  apply List.ext_getElem?
  intro i
  rw [andTo_get, andL_get, Nat.max_eq_left hl]
  split
  · congr 1
    split
    · rfl
    · rw [getD_none (l := b) (by omega), and_255 _ (getD_lt ha i)]
  · rfl
theorem andL_comm (a b : List Nat) : andL a b = andL b a := by
  unfold andL
  rw [Nat.max_comm]
  apply List.map_congr_left
  intro i _
  exact Nat.and_comm _ _
theorem and_lt8 (x y : Nat) (hx : x < 256) : x &&& y < 256 := Nat.lt_of_le_of_lt Nat.and_le_left hx
theorem andL_lt (a b : List Nat) (ha : ∀ x ∈ a, x < 256) : ∀ x ∈ andL a b, x < 256 := by
  intro x hx
  simp only [andL, List.mem_map] at hx
  obtain ⟨i, _, rfl⟩ := hx
  exact and_lt8 _ _ (getD_lt ha i)
theorem andTo_lt (a b : List Nat) (k : Nat) (ha : ∀ x ∈ a, x < 256) : ∀ x ∈ andTo a b k, x < 256 := by
  intro x hx
  simp only [andTo, List.mem_map] at hx
  obtain ⟨i, _, rfl⟩ := hx
  split
  · exact and_lt8 _ _ (getD_lt ha i)
  · exact getD_lt ha i

/-- The places of a byte's bits that are 1, rising. -/
def bitsOf (z : Nat) : List Nat := (List.range 8).filter fun i => z.testBit i
theorem bitsOf_step_fin : ∀ z : Fin 256, z.val ≠ 0 → bitsOf z.val = Lib.trailingZeros8 z.val :: bitsOf (z.val &&& (z.val - 1)) := by decide +kernel
theorem bitsOf_step (z : Nat) (h : z < 256) (h0 : z ≠ 0) : bitsOf z = Lib.trailingZeros8 z :: bitsOf (z &&& (z - 1)) := bitsOf_step_fin ⟨z, h⟩ h0
theorem bitsOf_zero : bitsOf 0 = [] := by decide
theorem tz_le (z : Nat) (h : z < 256) : Lib.trailingZeros8 z ≤ 8 := Lib.trailingZeros8_le8 ⟨z, h⟩
theorem bitsOf_length (z : Nat) : (bitsOf z).length ≤ 8 := by
  have := List.length_filter_le (fun i => z.testBit i) (List.range 8)
  simpa [bitsOf] using this
/-- The n-th byte's places, as places of the whole. -/
def offs (n z : Nat) : List Int := (bitsOf z).map fun t => ((8 * n + t : Nat) : Int)
/-- Where two lists of bytes differ, as far as k bytes. -/
def diffTo (a b : List Nat) (k : Nat) : List Int := (List.range k).flatMap fun n => offs n (a.getD n 0 ^^^ b.getD n 0)
def diffL (a b : List Nat) : List Int := diffTo a b (min a.length b.length)
theorem diffTo_succ (a b : List Nat) (k x y : Nat) (hx : a[k]? = some x) (hy : b[k]? = some y) : diffTo a b (k + 1) = diffTo a b k ++ offs k (x ^^^ y) := by
  unfold diffTo
  rw [List.range_succ, List.flatMap_append]
  simp [hx, hy]
theorem offs_step (n z : Nat) (h : z < 256) (h0 : z ≠ 0) : offs n z = ((8 * n + Lib.trailingZeros8 z : Nat) : Int) :: offs n (z &&& (z - 1)) := by
  unfold offs
  rw [bitsOf_step z h h0]
  rfl
theorem offs_zero (n : Nat) : offs n 0 = [] := by unfold offs; rw [bitsOf_zero]; rfl
theorem offs_length (n z : Nat) : (offs n z).length ≤ 8 := by unfold offs; rw [List.length_map]; exact bitsOf_length z
theorem diffTo_length (a b : List Nat) (k : Nat) : (diffTo a b k).length ≤ 8 * k := by
  induction k with
  | zero => simp [diffTo]
  | succ k ih =>
    have h : diffTo a b (k + 1) = diffTo a b k ++ offs k (a.getD k 0 ^^^ b.getD k 0) := by
      unfold diffTo
      rw [List.range_succ, List.flatMap_append]
      simp
    rw [h, List.length_append]
    have := offs_length k (a.getD k 0 ^^^ b.getD k 0)
    omega
theorem and_pred_lt (z : Nat) (h0 : z ≠ 0) : z &&& (z - 1) < z := Nat.lt_of_le_of_lt Nat.and_le_right (by omega)
theorem u8_and_pred (z : Nat) (h : z < 256) (h0 : z ≠ 0) : bits .and .u8 (z : Int) ((z : Int) - 1) = ((z &&& (z - 1) : Nat) : Int) := by
  rw [show ((z : Int) - 1) = ((z - 1 : Nat) : Int) by omega]
  exact u8_and_nat z (z - 1) h (by omega)
theorem mem_offs (n z : Nat) (p : Int) : p ∈ offs n z ↔ ∃ t, t < 8 ∧ z.testBit t = true ∧ p = ((8 * n + t : Nat) : Int) := by
  simp only [offs, bitsOf, List.mem_map, List.mem_filter, List.mem_range]
  constructor
  · rintro ⟨t, ⟨h1, h2⟩, rfl⟩; exact ⟨t, h1, h2, rfl⟩
  · rintro ⟨t, h1, h2, rfl⟩; exact ⟨t, ⟨h1, h2⟩, rfl⟩
theorem mem_diffTo (a b : List Nat) (k : Nat) (p : Int) : p ∈ diffTo a b k ↔ ∃ i, i < 8 * k ∧ p = (i : Nat) ∧ (getN a i != getN b i) = true := by
  simp only [diffTo, List.mem_flatMap, List.mem_range, mem_offs]
  constructor
  · rintro ⟨n, hn, t, ht, hb, rfl⟩
    refine ⟨8 * n + t, by omega, rfl, ?_⟩
    rw [Nat.testBit_xor] at hb
    unfold getN
    rw [show (8 * n + t) / 8 = n by omega, show (8 * n + t) % 8 = t by omega]
    simpa using hb
  · rintro ⟨i, hi, rfl, hb⟩
    refine ⟨i / 8, by omega, i % 8, by omega, ?_, by congr 1; omega⟩
    rw [Nat.testBit_xor]
    unfold getN at hb
    simpa using hb
end Go.Proofs.Ytmgaenfimhdlpaa

/-
  Plain facts on bytes and bits, more: two turns are none; what differs, turned, is the same; what two have has no more ones than either.
-/
namespace Go.Proofs.Ytmgaenfimhdlpaa

theorem bits_ext {a b : List Nat} (ha : ∀ x ∈ a, x < 256) (hb : ∀ x ∈ b, x < 256) (hl : a.length = b.length) (h : ∀ i, i < 8 * a.length → getN a i = getN b i) : a = b := by
  apply List.ext_getElem hl
  intro n h1 h2
  apply Nat.eq_of_testBit_eq
  intro t
  have xa := ha _ (List.getElem_mem h1)
  have xb := hb _ (List.getElem_mem h2)
  by_cases ht : t < 8
  · have := h (8 * n + t) (by omega)
    unfold getN at this
    rw [show (8 * n + t) / 8 = n by omega, show (8 * n + t) % 8 = t by omega] at this
    simpa [h1, h2] using this
  · have p : 2 ^ 8 ≤ 2 ^ t := Nat.pow_le_pow_right (by omega) (by omega)
    rw [Nat.testBit_lt_two_pow (by omega), Nat.testBit_lt_two_pow (by omega)]

theorem getN_flip1 (l : List Nat) (p : Int) (i : Nat) (hi : i < 8 * l.length) : getN (flip1 l p) i = (getN l i ^^ decide (p = (i : Int))) := by
  by_cases hp : 0 ≤ p ∧ p / 8 < l.length
  · obtain ⟨h0, h1⟩ := hp
    obtain ⟨j, rfl⟩ := Int.eq_ofNat_of_zero_le h0
    have hj : j / 8 < l.length := by omega
    obtain ⟨y, hy⟩ : ∃ y, l[j / 8]? = some y := ⟨_, List.getElem?_eq_getElem hj⟩
    rw [flip1_yes l j y hy]
    have hi8 : i / 8 < l.length := by omega
    unfold getN
    by_cases he : j / 8 = i / 8
    · rw [he] at hy
      rw [he]
      have e1 : (l.set (i / 8) (y ^^^ mk8 j)).getD (i / 8) 0 = y ^^^ mk8 j := by simp [hi8]
      have e2 : l.getD (i / 8) 0 = y := getD_some hy
      rw [e1, e2, Nat.testBit_xor]
      congr 1
      unfold mk8
      rw [Nat.testBit_two_pow]
      apply decide_eq_decide.2
      omega
    · have e1 : (l.set (j / 8) (y ^^^ mk8 j)).getD (i / 8) 0 = l.getD (i / 8) 0 := by
        rw [List.getD_eq_getElem?_getD, List.getD_eq_getElem?_getD, List.getElem?_set_ne he]
      rw [e1, decide_eq_false (by omega)]
      simp
  · rw [flip1_no l p hp, decide_eq_false (by omega)]
    simp

/-- Is i named an odd number of times? -/
def par (ps : List Int) (i : Nat) : Bool := ps.foldr (fun p acc => decide (p = (i : Int)) ^^ acc) false
theorem getN_flips (ps : List Int) (i : Nat) : ∀ l : List Nat, i < 8 * l.length → getN (flips l ps) i = (getN l i ^^ par ps i) := by
  induction ps with
  | nil => intro l _; simp [flips, par]
  | cons p t ih =>
    intro l hi
    have e : flips l (p :: t) = flips (flip1 l p) t := rfl
    rw [e, ih (flip1 l p) (by rw [flip1_length]; exact hi), getN_flip1 l p i hi]
    show _ = (getN l i ^^ (decide (p = (i : Int)) ^^ par t i))
    rw [Bool.xor_assoc]

theorem flips_twice (l : List Nat) (ps : List Int) (h : ∀ x ∈ l, x < 256) : flips (flips l ps) ps = l := by
  refine bits_ext (flips_lt _ ps (flips_lt l ps h)) h (by rw [flips_length, flips_length]) (fun i hi => ?_)
  rw [flips_length, flips_length] at hi
  rw [getN_flips ps i _ (by rw [flips_length]; exact hi), getN_flips ps i l hi, Bool.xor_assoc, Bool.xor_self, Bool.xor_false]

theorem diffTo_eq (a b : List Nat) (k : Nat) : diffTo a b k = ((List.range (8 * k)).filter fun i => getN a i != getN b i).map fun i => ((i : Nat) : Int) := by
  induction k with
  | zero => simp [diffTo]
  | succ k ih =>
    have h : diffTo a b (k + 1) = diffTo a b k ++ offs k (a.getD k 0 ^^^ b.getD k 0) := by
      unfold diffTo
      rw [List.range_succ, List.flatMap_append]
      simp
    rw [h, ih, show 8 * (k + 1) = 8 * k + 8 by omega, List.range_add, List.filter_append, List.map_append]
    congr 1
    unfold offs bitsOf
    rw [List.filter_map, List.map_map]
    have e : (List.range 8).filter (fun i => (a.getD k 0 ^^^ b.getD k 0).testBit i) = (List.range 8).filter ((fun i => getN a i != getN b i) ∘ fun x => 8 * k + x) := by
      apply List.filter_congr
      intro t ht
      have ht8 : t < 8 := List.mem_range.1 ht
      simp only [Function.comp, getN]
      rw [show (8 * k + t) / 8 = k by omega, show (8 * k + t) % 8 = t by omega, Nat.testBit_xor]
    rw [e]
    rfl

theorem par_append (x y : List Int) (i : Nat) : par (x ++ y) i = (par x i ^^ par y i) := by
  induction x with
  | nil => simp [par]
  | cons p t ih =>
    show (decide (p = (i : Int)) ^^ par (t ++ y) i) = ((decide (p = (i : Int)) ^^ par t i) ^^ par y i)
    rw [ih, Bool.xor_assoc]
theorem par_filter (f : Nat → Bool) (m i : Nat) : par (((List.range m).filter f).map fun i => ((i : Nat) : Int)) i = (decide (i < m) && f i) := by
  induction m with
  | zero => simp [par]
  | succ m ih =>
    rw [List.range_succ, List.filter_append, List.map_append, par_append, ih]
    by_cases him : i = m
    · subst him
      cases hf : f i <;> simp [par, hf]
    · have h1 : decide (i < m + 1) = decide (i < m) := decide_eq_decide.2 (by omega)
      have h2 : ¬ (m : Int) = (i : Int) := by omega
      rw [h1]
      cases hf : f m <;> simp [par, hf, h2]

theorem flips_diff (a b : List Nat) (ha : ∀ x ∈ a, x < 256) (hb : ∀ x ∈ b, x < 256) (hl : a.length = b.length) : flips a (diffL a b) = b := by
  refine bits_ext (flips_lt _ _ ha) hb (by rw [flips_length, hl]) (fun i hi => ?_)
  rw [flips_length] at hi
  rw [getN_flips _ i a hi, diffL, diffTo_eq, par_filter, hl, Nat.min_self, decide_eq_true (by omega), Bool.true_and]
  cases getN a i <;> cases getN b i <;> rfl

theorem popAux_and (f : Nat) : ∀ x y : Nat, Lib.popAux f (x &&& y) ≤ Lib.popAux f x := by
  induction f with
  | zero => intro x y; exact Nat.le_refl _
  | succ f ih =>
    intro x y
    simp only [Lib.popAux]
    have h1 := ih (x / 2) (y / 2)
    have h2 : (x &&& y) / 2 = x / 2 &&& y / 2 := Nat.and_div_two
    have h3 : (x &&& y) % 2 ≤ x % 2 := by
      have h4 : (x &&& y) % 2 = (x % 2) &&& (y % 2) := Nat.and_mod_two_pow (n := 1)
      rw [h4]
      exact Nat.and_le_left
    rw [h2]
    omega
theorem popc_and (x y : Nat) : Lib.onesCount (x &&& y) ≤ Lib.onesCount x := popAux_and 64 x y
theorem popc_and' (x y : Nat) : Lib.onesCount (x &&& y) ≤ Lib.onesCount y := by rw [Nat.and_comm]; exact popc_and y x

theorem range_getD (l : List Nat) (d : Nat) : (List.range l.length).map (fun i => l.getD i d) = l := by
  apply List.ext_getElem
  · simp
  · intro i h1 h2
    simp [h2]
theorem sum_range_le (f g : Nat → Nat) (n m : Nat) (hnm : n ≤ m) (h : ∀ i, i < n → f i ≤ g i) : ((List.range n).map f).sum ≤ ((List.range m).map g).sum := by
  induction n generalizing m with
  | zero => simp
  | succ n ih =>
    obtain ⟨d, rfl⟩ : ∃ d, m = n + 1 + d := ⟨m - (n + 1), by omega⟩
    have h1 := ih n (Nat.le_refl n) (fun i hi => h i (by omega))
    have h2 := h n (by omega)
    have e1 : ((List.range (n + 1)).map f).sum = ((List.range n).map f).sum + f n := by simp [List.range_succ]
    have e2 : ((List.range (n + 1)).map g).sum = ((List.range n).map g).sum + g n := by simp [List.range_succ]
    have e3 : ((List.range (n + 1 + d)).map g).sum = ((List.range (n + 1)).map g).sum + (((List.range d).map fun x => n + 1 + x).map g).sum := by
      rw [List.range_add, List.map_append, List.sum_append]
    rw [e1, e3, e2]
    omega
def zerosS (l : List Nat) : Nat := (l.map fun x => 8 - Lib.onesCount x).sum
theorem zerosS_eq (l : List Nat) (h : ∀ x ∈ l, x < 256) : zerosS l + ones l = 8 * l.length := by
  induction l with
  | nil => rfl
  | cons x t ih =>
    have h1 := popc_le x (h x (by simp))
    have h2 := ih (fun y hy => h y (by simp [hy]))
    simp only [zerosS, ones, List.map_cons, List.sum_cons, List.length_cons] at h2 ⊢
    omega
theorem zerosS_and (a b : List Nat) : zerosS a ≤ zerosS (andL a b) := by
  have e : zerosS a = ((List.range a.length).map fun i => 8 - Lib.onesCount (a.getD i 255)).sum := by
    unfold zerosS
    conv => lhs; rw [← range_getD a 255]
    rw [List.map_map]
    rfl
  rw [e]
  unfold zerosS andL
  rw [List.map_map]
  exact sum_range_le _ _ _ _ (by omega) (fun i _ => by
    have := popc_and (a.getD i 255) (b.getD i 255)
    simp only [Function.comp]
    omega)
theorem zeros_and (a b : List Nat) (ha : ∀ x ∈ a, x < 256) : 8 * (a.length : Int) - (ones a : Int) ≤ 8 * ((andL a b).length : Int) - (ones (andL a b) : Int) := by
  have h1 := zerosS_eq a ha
  have h2 := zerosS_eq (andL a b) (andL_lt a b ha)
  have h3 := zerosS_and a b
  omega

theorem andL_getD (a b : List Nat) (i : Nat) : (andL a b).getD i 255 = if i < max a.length b.length then a.getD i 255 &&& b.getD i 255 else 255 := by
  rw [List.getD_eq_getElem?_getD, andL_get]
  split <;> rfl
theorem getD_over (a : List Nat) (i : Nat) (h : a.length ≤ i) : a.getD i 255 = 255 := getD_none h
theorem andL_getD' (a b : List Nat) (i : Nat) : (andL a b).getD i 255 = a.getD i 255 &&& b.getD i 255 := by
  rw [andL_getD]
  split
  · rfl
  · rw [getD_over a i (by omega), getD_over b i (by omega)]; rfl
theorem andL_self_left (a b : List Nat) : andL (andL a b) a = andL a b := by
  apply List.ext_getElem?
  intro i
  rw [andL_get, andL_get, andL_length, andL_getD']
  rw [show max (max a.length b.length) a.length = max a.length b.length by omega]
  split
  · rw [Nat.and_comm (a.getD i 255) (b.getD i 255), Nat.and_assoc, Nat.and_self]
  · rfl
end Go.Proofs.Ytmgaenfimhdlpaa

/-
  Plain facts on what two lists of bytes have: it does not hang on their order; three, not on which come first. Bytes as a text.
-/
namespace Go.Proofs.Ytmgaenfimhdlpaa

theorem andL_assoc (a b c : List Nat) : andL (andL a b) c = andL a (andL b c) := by
  apply List.ext_getElem?
  intro i
  rw [andL_get, andL_get, andL_length, andL_length, andL_getD', andL_getD', Nat.and_assoc, Nat.max_assoc]
theorem andL_idem (a : List Nat) : andL a a = a := by
  apply List.ext_getElem?
  intro i
  rw [andL_get, Nat.max_self, Nat.and_self]
  split
  · rename_i h; simp [List.getElem?_eq_getElem h]
  · rename_i h; rw [List.getElem?_eq_none (by omega)]
theorem diffL_comm (a b : List Nat) : diffL a b = diffL b a := by
  unfold diffL diffTo
  rw [Nat.min_comm]
  congr 1
  funext n
  rw [Nat.xor_comm]
theorem diffL_self (a : List Nat) : diffL a a = [] := by
  unfold diffL
  rw [diffTo_eq]
  simp
theorem diffL_at (a b : List Nat) (k : Nat) (p : Int) (h : (diffL a b)[k]? = some p) : 0 ≤ p ∧ p < 8 * (min a.length b.length : Nat) ∧ (getI a p == getI b p) = false := by
  obtain ⟨i, hi, rfl, hne⟩ := (mem_diffTo a b _ p).1 (List.mem_of_getElem? h)
  refine ⟨by omega, by omega, ?_⟩
  simp only [getI, Int.toNat_natCast]
  cases h1 : getN a i <;> cases h2 : getN b i <;> simp_all
/-- Bytes, as a text. -/
def str (l : List Nat) : ByteArray := ⟨(l.map fun x => UInt8.ofNat x).toArray⟩
theorem str_size (l : List Nat) : (str l).size = l.length := by simp [str, ByteArray.size]
end Go.Proofs.Ytmgaenfimhdlpaa

/-
  Plain facts on cycles and their texts: the text of cycles, where a text of bytes is wrong, the cycles of a text; there and back. Of no program.
-/
namespace Go.Proofs.Ytmgaenfimhdlpaa

/-- A cycle: its kind and its byte. -/
structure Cy where
  k : Int
  b : Nat

def eqC (x y : Cy) : Bool := x.k == y.k && x.b == y.b
def sameC : List Cy → List Cy → Bool
  | [], [] => true
  | x :: a, y :: b => eqC x y && sameC a b
  | _, _ => false
theorem eqC_iff {x y : Cy} : eqC x y = true ↔ x = y := by
  obtain ⟨k, b⟩ := x
  obtain ⟨k', b'⟩ := y
  simp [eqC]
theorem sameC_iff {a b : List Cy} : sameC a b = true ↔ a = b := by
  induction a generalizing b with
  | nil => cases b <;> simp [sameC]
  | cons x a ih => cases b with
    | nil => simp [sameC]
    | cons y b => simp [sameC, eqC_iff, ih]
theorem sameC_self (a : List Cy) : sameC a a = true := sameC_iff.2 rfl
theorem sameC_len {a b : List Cy} (h : a.length ≠ b.length) : sameC a b = false := by
  cases hs : sameC a b with
  | false => rfl
  | true => exact absurd (congrArg List.length (sameC_iff.1 hs)) h
theorem sameC_drop {a b : List Cy} {i : Nat} {x y : Cy} (hx : a[i]? = some x) (hy : b[i]? = some y) : sameC (a.drop i) (b.drop i) = (eqC x y && sameC (a.drop (i + 1)) (b.drop (i + 1))) := by
  obtain ⟨h1, rfl⟩ := List.getElem?_eq_some_iff.1 hx
  obtain ⟨h2, rfl⟩ := List.getElem?_eq_some_iff.1 hy
  rw [List.drop_eq_getElem_cons h1, List.drop_eq_getElem_cons h2]
  rfl

/-- Is its kind one of the four? -/
def okK (k : Int) : Bool := decide (1 ≤ k) && decide (k ≤ 4)
def okC (l : List Cy) : Bool := l.all fun c => okK c.k
theorem okK_iff {k : Int} : okK k = true ↔ 1 ≤ k ∧ k ≤ 4 := by simp [okK]
theorem okC_iff {l : List Cy} : okC l = true ↔ ∀ c ∈ l, 1 ≤ c.k ∧ c.k ≤ 4 := by simp [okC, okK]
theorem okC_append (a b : List Cy) : okC (a ++ b) = (okC a && okC b) := by simp [okC]
theorem okC_drop {l : List Cy} {i : Nat} {x : Cy} (hx : l[i]? = some x) : okC (l.drop i) = (okK x.k && okC (l.drop (i + 1))) := by
  obtain ⟨h1, rfl⟩ := List.getElem?_eq_some_iff.1 hx
  rw [List.drop_eq_getElem_cons h1]
  rfl

/-- The letter of a kind, the digit of a number. -/
def letB (k : Int) : Nat := if k = 1 then 99 else if k = 2 then 97 else if k = 3 then 119 else 114
def hexB (n : Nat) : Nat := if n < 10 then 48 + n else 87 + n
/-- The kind of a letter, the number of a digit. -/
def letK (v : Nat) : Int := if v = 99 then 1 else if v = 97 then 2 else if v = 119 then 3 else if v = 114 then 4 else 0
def digI (v : Nat) : Int := if 48 ≤ v ∧ v ≤ 57 then (v : Int) - 48 else if 97 ≤ v ∧ v ≤ 102 then (v : Int) - 87 else -1
theorem letK_letB {k : Int} (h : 1 ≤ k ∧ k ≤ 4) : letK (letB k) = k := by
  unfold letB letK
  (repeat' split) <;> omega
theorem letB_letK {v : Nat} (h : letK v ≠ 0) : letB (letK v) = v := by
  unfold letK at h ⊢
  (repeat' split at h) <;> simp_all [letB]
theorem letK_bd (v : Nat) : 0 ≤ letK v ∧ letK v ≤ 4 := by unfold letK; (repeat' split) <;> omega
theorem letB_lt (k : Int) : letB k < 128 := by unfold letB; (repeat' split) <;> omega
theorem letB_ne (k : Int) : letB k ≠ 32 := by unfold letB; (repeat' split) <;> omega
theorem digI_hexB {n : Nat} (h : n < 16) : digI (hexB n) = n := by
  unfold hexB digI
  (repeat' split) <;> omega
theorem digI_bd (v : Nat) : -1 ≤ digI v ∧ digI v ≤ 15 := by unfold digI; (repeat' split) <;> omega
theorem hexB_digI {v : Nat} (h : 0 ≤ digI v) : hexB (digI v).toNat = v := by
  unfold digI at h ⊢
  unfold hexB
  (repeat' split at h) <;> (repeat' split) <;> omega
theorem hexB_lt {n : Nat} (h : n < 16) : hexB n < 128 := by unfold hexB; split <;> omega

/-- The text of a cycle; of cycles, each behind a space; of cycles. -/
def tx (c : Cy) : List Nat := [letB c.k, hexB (c.b / 16), hexB (c.b % 16)]
def spL (l : List Cy) : List Nat := l.flatMap fun c => 32 :: tx c
def textL (l : List Cy) : List Nat := (spL l).tail
theorem spL_length (l : List Cy) : (spL l).length = l.length * 4 := by
  induction l with
  | nil => rfl
  | cons t l ih => simp only [spL, List.flatMap_cons, List.length_append, List.length_cons, tx, List.length_nil] at ih ⊢; omega
theorem spL_append (a b : List Cy) : spL (a ++ b) = spL a ++ spL b := by simp [spL]
theorem textL_length (l : List Cy) : (textL l).length = l.length * 4 - 1 := by simp [textL, spL_length]
theorem textL_snoc (l : List Cy) (c : Cy) (h : l ≠ []) : textL (l ++ [c]) = textL l ++ (32 :: tx c) := by
  cases l with
  | nil => exact absurd rfl h
  | cons x l => simp [textL, spL, tx]
theorem textL_one (c : Cy) : textL [c] = tx c := rfl
theorem textL_append (a b : List Cy) (ha : a ≠ []) (hb : b ≠ []) : textL (a ++ b) = textL a ++ (32 :: textL b) := by
  cases a with
  | nil => exact absurd rfl ha
  | cons x a => cases b with
    | nil => exact absurd rfl hb
    | cons y b => simp [textL, spL, tx]
theorem spL_at {l : List Cy} {k : Nat} {t : Cy} (h : l[k]? = some t) (j : Nat) (hj : j < 4) : (spL l)[k * 4 + j]? = (32 :: tx t)[j]? := by
  induction l generalizing k with
  | nil => simp at h
  | cons x l ih =>
    have e : spL (x :: l) = (32 :: tx x) ++ spL l := by simp [spL]
    cases k with
    | zero =>
      simp at h
      subst h
      rw [e, Nat.zero_mul, Nat.zero_add, List.getElem?_append_left (by simpa [tx] using hj)]
    | succ k =>
      simp at h
      rw [e, List.getElem?_append_right (by simp [tx]; omega), ← ih h]
      congr 1
      simp [tx]
      omega
theorem textL_at (l : List Cy) (j : Nat) : (textL l)[j]? = (spL l)[j + 1]? := by simp [textL]
/-- The byte of a text at place 0, 1, 2 of a cycle's; the space behind it. -/
theorem textL_get {l : List Cy} {k : Nat} {t : Cy} (h : l[k]? = some t) : (textL l).getD (k * 4) 0 = letB t.k ∧ (textL l).getD (k * 4 + 1) 0 = hexB (t.b / 16) ∧ (textL l).getD (k * 4 + 2) 0 = hexB (t.b % 16) ∧ (k + 1 < l.length → (textL l).getD (k * 4 + 3) 0 = 32) := by
  have h1 := spL_at h 1 (by omega)
  have h2 := spL_at h 2 (by omega)
  have h3 := spL_at h 3 (by omega)
  refine ⟨?_, ?_, ?_, fun hk => ?_⟩
  · rw [List.getD_eq_getElem?_getD, textL_at, h1]; rfl
  · rw [List.getD_eq_getElem?_getD, textL_at, h2]; rfl
  · rw [List.getD_eq_getElem?_getD, textL_at, h3]; rfl
  · have h4 := spL_at (List.getElem?_eq_getElem hk) 0 (by omega)
    rw [List.getD_eq_getElem?_getD, textL_at, show k * 4 + 3 + 1 = (k + 1) * 4 + 0 by omega, h4]; rfl
theorem textL_lt {l : List Cy} (hb : ∀ c ∈ l, c.b < 256) : ∀ x ∈ textL l, x < 128 := by
  intro x hx
  have h := List.mem_of_mem_tail hx
  simp only [spL, List.mem_flatMap, tx, List.mem_cons, List.not_mem_nil, or_false] at h
  obtain ⟨c, hc, rfl | rfl | rfl | rfl⟩ := h
  · omega
  · exact letB_lt _
  · exact hexB_lt (by have := hb c hc; omega)
  · exact hexB_lt (by have := hb c hc; omega)

/-- May the byte v be at that place of a cycle's text and the space behind it? -/
def fitB (v p : Nat) : Bool := if p = 0 then letK v != 0 else if p = 3 then v == 32 else decide (0 ≤ digI v)
/-- The position, from 1 on, of the first byte that is wrong, from place i on; 0 if none is. -/
def badAt : Nat → List Nat → Nat
  | i, [] => if i = 0 ∨ i % 4 = 3 then 0 else i + 1
  | i, v :: r => if fitB v (i % 4) = true then badAt (i + 1) r else i + 1
def faultL (s : List Nat) : Nat := badAt 0 s
theorem badAt_nil {i : Nat} : badAt i [] = if i = 0 ∨ i % 4 = 3 then 0 else i + 1 := rfl
theorem badAt_cons {i v : Nat} {r : List Nat} : badAt i (v :: r) = if fitB v (i % 4) = true then badAt (i + 1) r else i + 1 := rfl
theorem badAt_drop {s : List Nat} {i v : Nat} (h : s[i]? = some v) : badAt i (s.drop i) = if fitB v (i % 4) = true then badAt (i + 1) (s.drop (i + 1)) else i + 1 := by
  obtain ⟨h1, rfl⟩ := List.getElem?_eq_some_iff.1 h
  rw [List.drop_eq_getElem_cons h1, badAt_cons]
theorem badAt_end {s : List Nat} {i : Nat} (h : i = s.length) : badAt i (s.drop i) = if i = 0 ∨ i % 4 = 3 then 0 else i + 1 := by
  subst h
  rw [List.drop_length, badAt_nil]
theorem badAt_zero {s : List Nat} {i : Nat} : badAt i s = 0 ↔ (∀ j, j < s.length → fitB (s.getD j 0) ((i + j) % 4) = true) ∧ (i + s.length = 0 ∨ (i + s.length) % 4 = 3) := by
  induction s generalizing i with
  | nil =>
    rw [badAt_nil]
    constructor
    · intro h
      refine ⟨fun j hj => absurd hj (by simp), ?_⟩
      split at h
      · simpa using by assumption
      · omega
    · rintro ⟨_, h⟩
      rw [if_pos (by simpa using h)]
  | cons v r ih =>
    rw [badAt_cons]
    constructor
    · intro h
      split at h
      · rename_i hf
        obtain ⟨h1, h2⟩ := ih.1 h
        refine ⟨fun j hj => ?_, ?_⟩
        · cases j with
          | zero => simpa using hf
          | succ j =>
            have := h1 j (by simpa using hj)
            rw [show i + (j + 1) = i + 1 + j by omega]
            simpa using this
        · simp only [List.length_cons]
          rw [show i + (r.length + 1) = i + 1 + r.length by omega]
          exact h2
      · omega
    · rintro ⟨h1, h2⟩
      have h0 := h1 0 (by simp)
      rw [if_pos (by simpa using h0)]
      refine ih.2 ⟨fun j hj => ?_, ?_⟩
      · have := h1 (j + 1) (by simpa using hj)
        rw [show i + (j + 1) = i + 1 + j by omega] at this
        simpa using this
      · simp only [List.length_cons] at h2
        rw [show i + (r.length + 1) = i + 1 + r.length by omega] at h2
        exact h2
theorem badAt_append {x y : List Nat} {i : Nat} (h : ∀ j, j < x.length → fitB (x.getD j 0) ((i + j) % 4) = true) : badAt i (x ++ y) = badAt (i + x.length) y := by
  induction x generalizing i with
  | nil => rfl
  | cons v r ih =>
    rw [List.cons_append, badAt_cons, if_pos (by simpa using h 0 (by simp)), ih fun j hj => by
      have := h (j + 1) (by simpa using hj)
      rw [show i + (j + 1) = i + 1 + j by omega] at this
      simpa using this]
    congr 1
    simp only [List.length_cons]
    omega
theorem badAt_le (s : List Nat) (i : Nat) : badAt i s ≤ i + s.length + 1 := by
  induction s generalizing i with
  | nil => rw [badAt_nil]; split <;> simp
  | cons v r ih =>
    rw [badAt_cons]
    have := ih (i + 1)
    simp only [List.length_cons]
    split <;> omega
theorem faultL_le (s : List Nat) : faultL s ≤ s.length + 1 := by have := badAt_le s 0; unfold faultL; omega
theorem faultL_zero {s : List Nat} : faultL s = 0 ↔ (∀ j, j < s.length → fitB (s.getD j 0) (j % 4) = true) ∧ (s.length = 0 ∨ s.length % 4 = 3) := by
  unfold faultL
  rw [badAt_zero]
  simp only [Nat.zero_add]

/-- The cycle at place 4 j of a text; the cycles of a text. -/
def cyAt (s : List Nat) (j : Nat) : Cy := ⟨letK (s.getD (j * 4) 0), (16 * digI (s.getD (j * 4 + 1) 0) + digI (s.getD (j * 4 + 2) 0)).toNat⟩
def cysTo (s : List Nat) (m : Nat) : List Cy := (List.range m).map (cyAt s)
def parseL (s : List Nat) : List Cy := cysTo s ((s.length + 1) / 4)
theorem cysTo_length (s : List Nat) (m : Nat) : (cysTo s m).length = m := by simp [cysTo]
theorem cysTo_succ (s : List Nat) (m : Nat) : cysTo s (m + 1) = cysTo s m ++ [cyAt s m] := by simp [cysTo, List.range_succ]
theorem cysTo_at {s : List Nat} {m j : Nat} (h : j < m) : (cysTo s m)[j]? = some (cyAt s j) := by simp [cysTo, List.getElem?_map, List.getElem?_range h]
theorem cyAt_b (s : List Nat) (j : Nat) : (cyAt s j).b < 256 := by
  have h1 := digI_bd (s.getD (j * 4 + 1) 0)
  have h2 := digI_bd (s.getD (j * 4 + 2) 0)
  show (16 * digI (s.getD (j * 4 + 1) 0) + digI (s.getD (j * 4 + 2) 0)).toNat < 256
  omega
theorem cyAt_k (s : List Nat) (j : Nat) : 0 ≤ (cyAt s j).k ∧ (cyAt s j).k ≤ 4 := letK_bd _
theorem cysTo_b {s : List Nat} {m : Nat} : ∀ c ∈ cysTo s m, c.b < 256 ∧ 0 ≤ c.k ∧ c.k ≤ 4 := by
  intro c hc
  simp only [cysTo, List.mem_map] at hc
  obtain ⟨j, _, rfl⟩ := hc
  exact ⟨cyAt_b s j, cyAt_k s j⟩
theorem mod4 (k r : Nat) (h : r < 4) : (k * 4 + r) % 4 = r := by omega
theorem faultL_text {l : List Cy} (hk : ∀ c ∈ l, 1 ≤ c.k ∧ c.k ≤ 4) (hb : ∀ c ∈ l, c.b < 256) : faultL (textL l) = 0 := by
  rw [faultL_zero]
  have hl := textL_length l
  refine ⟨fun j hj => ?_, ?_⟩
  · rw [hl] at hj
    obtain ⟨q, r, hr, rfl⟩ : ∃ q r, r < 4 ∧ j = q * 4 + r := ⟨j / 4, j % 4, by omega, by omega⟩
    have hq : q < l.length := by omega
    have hm := List.getElem_mem hq
    obtain ⟨h0, h1, h2, h3⟩ := textL_get (List.getElem?_eq_getElem hq)
    have hbq := hb _ hm
    have hkq := hk _ hm
    rw [mod4 q r hr]
    have hr4 : r = 0 ∨ r = 1 ∨ r = 2 ∨ r = 3 := by omega
    rcases hr4 with rfl | rfl | rfl | rfl
    · rw [Nat.add_zero, h0]
      simp only [fitB, if_true, bne_iff_ne, ne_eq, letK_letB hkq]
      omega
    · rw [h1]
      simp only [fitB, show ¬((1 : Nat) = 0) by omega, show ¬((1 : Nat) = 3) by omega, if_false, digI_hexB (show (l[q]).b / 16 < 16 by omega)]
      exact decide_eq_true (by omega)
    · rw [h2]
      simp only [fitB, show ¬((2 : Nat) = 0) by omega, show ¬((2 : Nat) = 3) by omega, if_false, digI_hexB (show (l[q]).b % 16 < 16 by omega)]
      exact decide_eq_true (by omega)
    · rw [h3 (by omega)]
      simp [fitB]
  · omega
theorem parseL_text {l : List Cy} (hk : ∀ c ∈ l, 1 ≤ c.k ∧ c.k ≤ 4) (hb : ∀ c ∈ l, c.b < 256) : parseL (textL l) = l := by
  have hl := textL_length l
  apply List.ext_getElem?
  intro j
  by_cases hj : j < l.length
  · have hm := List.getElem_mem hj
    obtain ⟨h0, h1, h2, _⟩ := textL_get (List.getElem?_eq_getElem hj)
    have hbq := hb _ hm
    unfold parseL
    rw [cysTo_at (by omega), List.getElem?_eq_getElem hj, cyAt, h0, h1, h2, letK_letB (hk _ hm), digI_hexB (by omega), digI_hexB (by omega)]
    congr 1
    generalize l[j] = x at *
    obtain ⟨k, b⟩ := x
    simp only [Cy.mk.injEq, true_and]
    show (16 * ((b / 16 : Nat) : Int) + ((b % 16 : Nat) : Int)).toNat = b
    omega
  · rw [List.getElem?_eq_none (by unfold parseL; rw [cysTo_length]; omega), List.getElem?_eq_none (by omega)]
theorem text_parse {s : List Nat} (h : faultL s = 0) : textL (parseL s) = s ∧ okC (parseL s) = true := by
  obtain ⟨hf, hl⟩ := faultL_zero.1 h
  have hn : (parseL s).length = (s.length + 1) / 4 := cysTo_length _ _
  have hd : ∀ j, j < s.length → s[j]? = some (s.getD j 0) := fun j hj => by rw [List.getElem?_eq_getElem hj, List.getD_eq_getElem?_getD, List.getElem?_eq_getElem hj]; rfl
  constructor
  · apply List.ext_getElem?
    intro j
    by_cases hj : j < s.length
    · obtain ⟨q, r, hr, rfl⟩ : ∃ q r, r < 4 ∧ j = q * 4 + r := ⟨j / 4, j % 4, by omega, by omega⟩
      have hq : q < (parseL s).length := by omega
      have hget : (parseL s)[q]? = some (cyAt s q) := cysTo_at (by omega)
      obtain ⟨h0, h1, h2, h3⟩ := textL_get hget
      have hfj := hf _ hj
      rw [mod4 q r hr] at hfj
      have hd2 : (textL (parseL s))[q * 4 + r]? = some ((textL (parseL s)).getD (q * 4 + r) 0) := by
        have hj2 : q * 4 + r < (textL (parseL s)).length := by rw [textL_length]; omega
        rw [List.getElem?_eq_getElem hj2, List.getD_eq_getElem?_getD, List.getElem?_eq_getElem hj2]; rfl
      rw [hd _ hj, hd2]
      congr 1
      have f1 := hf (q * 4 + 1) (by omega)
      have f2 := hf (q * 4 + 2) (by omega)
      rw [mod4 q 1 (by omega)] at f1
      rw [mod4 q 2 (by omega)] at f2
      simp only [fitB, show ¬((1 : Nat) = 0) by omega, show ¬((1 : Nat) = 3) by omega, if_false, decide_eq_true_eq] at f1
      simp only [fitB, show ¬((2 : Nat) = 0) by omega, show ¬((2 : Nat) = 3) by omega, if_false, decide_eq_true_eq] at f2
      have b1 := digI_bd (s.getD (q * 4 + 1) 0)
      have b2 := digI_bd (s.getD (q * 4 + 2) 0)
      have e1 : (cyAt s q).b / 16 = (digI (s.getD (q * 4 + 1) 0)).toNat := by
        show (16 * digI (s.getD (q * 4 + 1) 0) + digI (s.getD (q * 4 + 2) 0)).toNat / 16 = _
        omega
      have e2 : (cyAt s q).b % 16 = (digI (s.getD (q * 4 + 2) 0)).toNat := by
        show (16 * digI (s.getD (q * 4 + 1) 0) + digI (s.getD (q * 4 + 2) 0)).toNat % 16 = _
        omega
      have hr4 : r = 0 ∨ r = 1 ∨ r = 2 ∨ r = 3 := by omega
      rcases hr4 with rfl | rfl | rfl | rfl
      · rw [Nat.add_zero] at hfj ⊢
        rw [h0]
        simp only [fitB, if_true, bne_iff_ne, ne_eq] at hfj
        exact letB_letK hfj
      · rw [h1, e1, hexB_digI f1]
      · rw [h2, e2, hexB_digI f2]
      · rw [h3 (by omega)]
        simp [fitB] at hfj
        exact hfj.symm
    · rw [List.getElem?_eq_none (by rw [textL_length]; omega), List.getElem?_eq_none (by omega)]
  · rw [okC_iff]
    intro c hc
    simp only [parseL, cysTo, List.mem_map, List.mem_range] at hc
    obtain ⟨j, hj, rfl⟩ := hc
    have h1 := hf (j * 4) (by omega)
    rw [show j * 4 % 4 = 0 by omega] at h1
    simp only [fitB, if_true, bne_iff_ne, ne_eq] at h1
    have h2 := letK_bd (s.getD (j * 4) 0)
    show 1 ≤ letK (s.getD (j * 4) 0) ∧ letK (s.getD (j * 4) 0) ≤ 4
    omega
theorem faultL_two {a b : List Cy} (ha : a ≠ []) (hb : b ≠ []) (hk : ∀ c ∈ a, 1 ≤ c.k ∧ c.k ≤ 4) (h2 : ∀ c ∈ a, c.b < 256) : faultL (textL a ++ textL b) = (textL a).length + 1 := by
  have h := faultL_zero.1 (faultL_text hk h2)
  unfold faultL
  rw [badAt_append (by simpa using h.1)]
  have hl := textL_length a
  have hp : 0 < a.length := List.length_pos_iff.2 ha
  cases b with
  | nil => exact absurd rfl hb
  | cons y b =>
    have e : textL (y :: b) = letB y.k :: (hexB (y.b / 16) :: hexB (y.b % 16) :: spL b) := by simp [textL, spL, tx]
    rw [e, badAt_cons, if_neg, Nat.zero_add]
    rw [Nat.zero_add, show (textL a).length % 4 = 3 by omega]
    simp [fitB, letB_ne]

/-- The bytes of a string. -/
def bl (s : ByteArray) : List Nat := s.data.toList.map (·.toNat)
theorem bl_length (s : ByteArray) : (bl s).length = s.size := by
  obtain ⟨⟨l⟩⟩ := s
  unfold bl
  rw [List.length_map]
  rfl
theorem bl_lt (s : ByteArray) : ∀ x ∈ bl s, x < 256 := by
  intro x hx
  simp only [bl, List.mem_map] at hx
  obtain ⟨y, _, rfl⟩ := hx
  exact y.toNat_lt
theorem str_bl (s : ByteArray) : str (bl s) = s := by
  obtain ⟨⟨l⟩⟩ := s
  unfold str bl
  rw [List.map_map]
  have e : ((fun x => UInt8.ofNat x) ∘ fun x : UInt8 => x.toNat) = id := by
    funext x
    exact UInt8.ofNat_toNat
  rw [e, List.map_id]
theorem bl_str {l : List Nat} (h : ∀ x ∈ l, x < 256) : bl (str l) = l := by
  unfold bl str
  rw [List.map_map]
  conv => rhs; rw [← List.map_id l]
  apply List.map_congr_left
  intro x hx
  have := h x hx
  simp
  omega
theorem str_append (a b : List Nat) : str (a ++ b) = str a ++ str b := by
  unfold str
  apply ByteArray.ext
  simp [ByteArray.data_append]
end Go.Proofs.Ytmgaenfimhdlpaa
