/-
  Plain facts on bytes, bits and lists for the layer bits: no program, no memory.
-/
import Derived.Lib.BitFns
import Derived.Laws.BitsAllLaws
namespace Go.Proofs.YtlalghhaibknfaaGreat

/-- The byte that has bit i % 8 alone. -/
def mk8 (i : Nat) : Nat := 2 ^ (i % 8)
theorem mk8_lt (i : Nat) : mk8 i < 256 := by
  have : 2 ^ (i % 8) ≤ 2 ^ 7 := Nat.pow_le_pow_right (by omega) (by omega)
  unfold mk8; omega

/-- Bit i of bytes (false: there is none). -/
def getN (l : List Nat) (i : Nat) : Bool := (l.getD (i / 8) 0).testBit (i % 8)
def getI (l : List Nat) (i : Int) : Bool := decide (0 ≤ i) && getN l i.toNat

theorem and_mk8 (x j : Nat) (hx : x < 256) : (bits .and .u8 (x : Int) (mk8 j : Int) != 0) = x.testBit (j % 8) := by
  rw [u8_and_nat x (mk8 j) hx (mk8_lt j)]
  unfold mk8
  rw [nat_bit, Nat.testBit_eq_decide_div_mod_eq]
  have hp : 0 < 2 ^ (j % 8) := Nat.pow_pos (by omega)
  generalize 2 ^ (j % 8) = y at *
  rcases Nat.mod_two_eq_zero_or_one (x / y) with h | h
  · simp [h]
  · simp [h]
    omega

theorem getI_of (l : List Nat) (j x : Nat) (h : l[j / 8]? = some x) : getI l (j : Int) = x.testBit (j % 8) := by
  simp [getI, getN, h]
theorem getI_no (l : List Nat) (i : Int) (h : ¬ (0 ≤ i ∧ i / 8 < l.length)) : getI l i = false := by
  unfold getI getN
  by_cases hi : 0 ≤ i
  · have hn : ¬ i / 8 < l.length := fun hh => h ⟨hi, hh⟩
    have : l[i.toNat / 8]? = none := List.getElem?_eq_none (by omega)
    simp [this]
  · simp [hi]

/-- How many bits of bytes are 1. -/
def ones (l : List Nat) : Nat := (l.map Lib.onesCount).sum
theorem ones_snoc (l : List Nat) (x : Nat) : ones (l ++ [x]) = ones l + Lib.onesCount x := by simp [ones]
theorem popc_le (x : Nat) (h : x < 256) : Lib.onesCount x ≤ 8 := Lib.onesCount_le8 ⟨x, h⟩
theorem ones_le (l : List Nat) (h : ∀ x ∈ l, x < 256) : ones l ≤ 8 * l.length := by
  induction l with
  | nil => simp [ones]
  | cons a t ih =>
    have h1 := popc_le a (h a (by simp))
    have h2 := ih (fun x hx => h x (by simp [hx]))
    simp only [ones, List.map_cons, List.sum_cons, List.length_cons] at h2 ⊢
    omega
theorem take_snoc {α : Type} {l : List α} {k : Nat} {x : α} (h : l[k]? = some x) : l.take (k + 1) = l.take k ++ [x] := by
  rw [List.take_add_one, h]; rfl

/-- Bit i turned, where there is one. -/
def flip1 (l : List Nat) (i : Int) : List Nat := if 0 ≤ i ∧ i / 8 < l.length then l.set (i.toNat / 8) (l.getD (i.toNat / 8) 0 ^^^ mk8 i.toNat) else l
def flips (l : List Nat) (ps : List Int) : List Nat := ps.foldl flip1 l
theorem flip1_length (l : List Nat) (i : Int) : (flip1 l i).length = l.length := by unfold flip1; split <;> simp
theorem flips_length (l : List Nat) (ps : List Int) : (flips l ps).length = l.length := by
  unfold flips
  induction ps generalizing l with
  | nil => rfl
  | cons p t ih => rw [List.foldl_cons, ih, flip1_length]
theorem flips_snoc (l : List Nat) (ps : List Int) (p : Int) : flips l (ps ++ [p]) = flip1 (flips l ps) p := by simp [flips]
theorem xor_lt8 (x y : Nat) (hx : x < 256) (hy : y < 256) : x ^^^ y < 256 := Nat.xor_lt_two_pow (n := 8) hx hy
theorem flip1_lt (l : List Nat) (i : Int) (h : ∀ x ∈ l, x < 256) : ∀ x ∈ flip1 l i, x < 256 := by
  unfold flip1
  split
  · intro x hx
    rcases List.mem_or_eq_of_mem_set hx with h1 | h1
    · exact h x h1
    · subst h1
      refine xor_lt8 _ _ ?_ (mk8_lt _)
      rw [List.getD_eq_getElem?_getD]
      rcases e : l[i.toNat / 8]? with _ | y
      · simp
      · exact h y (List.mem_of_getElem? e)
  · exact h
theorem flips_lt (l : List Nat) (ps : List Int) (h : ∀ x ∈ l, x < 256) : ∀ x ∈ flips l ps, x < 256 := by
  unfold flips
  induction ps generalizing l with
  | nil => exact h
  | cons p t ih => rw [List.foldl_cons]; exact ih _ (flip1_lt l p h)
theorem flip1_yes (l : List Nat) (j y : Nat) (h : l[j / 8]? = some y) : flip1 l (j : Int) = l.set (j / 8) (y ^^^ mk8 j) := by
  have hl : j / 8 < l.length := (List.getElem?_eq_some_iff.1 h).1
  unfold flip1
  rw [if_pos ⟨by omega, by omega⟩]
  simp [h]
theorem flip1_no (l : List Nat) (i : Int) (h : ¬ (0 ≤ i ∧ i / 8 < l.length)) : flip1 l i = l := by unfold flip1; rw [if_neg h]

/-- What two lists of bytes have, the bytes that the shorter one lacks counting as 255. -/
def andL (a b : List Nat) : List Nat := (List.range (max a.length b.length)).map fun i => a.getD i 255 &&& b.getD i 255
/-- The same, as far as k bytes of the first. -/
def andTo (a b : List Nat) (k : Nat) : List Nat := (List.range a.length).map fun i => if i < k then a.getD i 255 &&& b.getD i 255 else a.getD i 255
theorem andL_length (a b : List Nat) : (andL a b).length = max a.length b.length := by simp [andL]
theorem andTo_length (a b : List Nat) (k : Nat) : (andTo a b k).length = a.length := by simp [andTo]
theorem andL_get (a b : List Nat) (i : Nat) : (andL a b)[i]? = if i < max a.length b.length then some (a.getD i 255 &&& b.getD i 255) else none := by
  unfold andL
  rw [List.getElem?_map]
  split
  · rename_i h; rw [List.getElem?_range h]; rfl
  · rename_i h; rw [List.getElem?_eq_none (by simp only [List.length_range]; omega)]; rfl
theorem andTo_get (a b : List Nat) (k i : Nat) : (andTo a b k)[i]? = if i < a.length then some (if i < k then a.getD i 255 &&& b.getD i 255 else a.getD i 255) else none := by
  unfold andTo
  rw [List.getElem?_map]
  split
  · rename_i h; rw [List.getElem?_range h]; rfl
  · rename_i h; rw [List.getElem?_eq_none (by simp only [List.length_range]; omega)]; rfl
theorem getD_some {l : List Nat} {i x d : Nat} (h : l[i]? = some x) : l.getD i d = x := by simp [h]
theorem getD_none {l : List Nat} {i d : Nat} (h : l.length ≤ i) : l.getD i d = d := by simp [List.getElem?_eq_none h]
theorem andTo_zero (a b : List Nat) : andTo a b 0 = a := by
  apply List.ext_getElem?
  intro i
  rw [andTo_get]
  split
  · rename_i h; simp [List.getElem?_eq_getElem h]
  · rename_i h; rw [List.getElem?_eq_none (by omega)]
theorem andTo_cell (a b : List Nat) (k x : Nat) (h : a[k]? = some x) : (andTo a b k)[k]? = some x := by
  have hl : k < a.length := (List.getElem?_eq_some_iff.1 h).1
  rw [andTo_get, if_pos hl, if_neg (by omega), getD_some h]
theorem andTo_succ (a b : List Nat) (k x y : Nat) (hx : a[k]? = some x) (hy : b[k]? = some y) : andTo a b (k + 1) = (andTo a b k).set k (x &&& y) := by
  have hl : k < a.length := (List.getElem?_eq_some_iff.1 hx).1
  apply List.ext_getElem?
  intro i
  rw [andTo_get, List.getElem?_set, andTo_length, andTo_get]
  by_cases hik : k = i
  · subst hik
    rw [if_pos hl, if_pos rfl, if_pos hl, if_pos (by omega), getD_some hx, getD_some hy]
  · rw [if_neg hik]
    split
    · congr 1
      by_cases h1 : i < k
      · rw [if_pos h1, if_pos (by omega)]
      · rw [if_neg h1, if_neg (by omega)]
    · rfl
theorem and_255 (x : Nat) (h : x < 256) : x &&& 255 = x := by rw [nat_mask8]; omega
theorem getD_lt {l : List Nat} (h : ∀ x ∈ l, x < 256) (i : Nat) : l.getD i 255 < 256 := by
  rw [List.getD_eq_getElem?_getD]
  rcases e : l[i]? with _ | y
  · simp
  · exact h y (List.mem_of_getElem? e)
theorem andTo_all (a b : List Nat) (ha : ∀ x ∈ a, x < 256) (hl : b.length ≤ a.length) : andTo a b b.length = andL a b := by
  apply List.ext_getElem?
  intro i
  rw [andTo_get, andL_get, Nat.max_eq_left hl]
  split
  · congr 1
    split
    · rfl
    · rw [getD_none (l := b) (by omega), and_255 _ (getD_lt ha i)]
  · rfl
theorem andL_comm (a b : List Nat) : andL a b = andL b a := by
  unfold andL
  rw [Nat.max_comm]
  apply List.map_congr_left
  intro i _
  exact Nat.and_comm _ _
theorem and_lt8 (x y : Nat) (hx : x < 256) : x &&& y < 256 := Nat.lt_of_le_of_lt Nat.and_le_left hx
theorem andL_lt (a b : List Nat) (ha : ∀ x ∈ a, x < 256) : ∀ x ∈ andL a b, x < 256 := by
  intro x hx
  simp only [andL, List.mem_map] at hx
  obtain ⟨i, _, rfl⟩ := hx
  exact and_lt8 _ _ (getD_lt ha i)
theorem andTo_lt (a b : List Nat) (k : Nat) (ha : ∀ x ∈ a, x < 256) : ∀ x ∈ andTo a b k, x < 256 := by
  intro x hx
  simp only [andTo, List.mem_map] at hx
  obtain ⟨i, _, rfl⟩ := hx
  split
  · exact and_lt8 _ _ (getD_lt ha i)
  · exact getD_lt ha i

/-- The places of a byte's bits that are 1, rising. -/
def bitsOf (z : Nat) : List Nat := (List.range 8).filter fun i => z.testBit i
theorem bitsOf_step_fin : ∀ z : Fin 256, z.val ≠ 0 → bitsOf z.val = Lib.trailingZeros8 z.val :: bitsOf (z.val &&& (z.val - 1)) := by decide +kernel
theorem bitsOf_step (z : Nat) (h : z < 256) (h0 : z ≠ 0) : bitsOf z = Lib.trailingZeros8 z :: bitsOf (z &&& (z - 1)) := bitsOf_step_fin ⟨z, h⟩ h0
theorem bitsOf_zero : bitsOf 0 = [] := by decide
theorem tz_le (z : Nat) (h : z < 256) : Lib.trailingZeros8 z ≤ 8 := Lib.trailingZeros8_le8 ⟨z, h⟩
theorem bitsOf_length (z : Nat) : (bitsOf z).length ≤ 8 := by
  have := List.length_filter_le (fun i => z.testBit i) (List.range 8)
  simpa [bitsOf] using this
/-- The n-th byte's places, as places of the whole. -/
def offs (n z : Nat) : List Int := (bitsOf z).map fun t => ((8 * n + t : Nat) : Int)
/-- Where two lists of bytes differ, as far as k bytes. -/
def diffTo (a b : List Nat) (k : Nat) : List Int := (List.range k).flatMap fun n => offs n (a.getD n 0 ^^^ b.getD n 0)
def diffL (a b : List Nat) : List Int := diffTo a b (min a.length b.length)
theorem diffTo_succ (a b : List Nat) (k x y : Nat) (hx : a[k]? = some x) (hy : b[k]? = some y) : diffTo a b (k + 1) = diffTo a b k ++ offs k (x ^^^ y) := by
  unfold diffTo
  rw [List.range_succ, List.flatMap_append]
  simp [hx, hy]
theorem offs_step (n z : Nat) (h : z < 256) (h0 : z ≠ 0) : offs n z = ((8 * n + Lib.trailingZeros8 z : Nat) : Int) :: offs n (z &&& (z - 1)) := by
  unfold offs
  rw [bitsOf_step z h h0]
  rfl
theorem offs_zero (n : Nat) : offs n 0 = [] := by unfold offs; rw [bitsOf_zero]; rfl
theorem offs_length (n z : Nat) : (offs n z).length ≤ 8 := by unfold offs; rw [List.length_map]; exact bitsOf_length z
theorem diffTo_length (a b : List Nat) (k : Nat) : (diffTo a b k).length ≤ 8 * k := by
  induction k with
  | zero => simp [diffTo]
  | succ k ih =>
    have h : diffTo a b (k + 1) = diffTo a b k ++ offs k (a.getD k 0 ^^^ b.getD k 0) := by
      unfold diffTo
      rw [List.range_succ, List.flatMap_append]
      simp
    rw [h, List.length_append]
    have := offs_length k (a.getD k 0 ^^^ b.getD k 0)
    omega
theorem and_pred_lt (z : Nat) (h0 : z ≠ 0) : z &&& (z - 1) < z := Nat.lt_of_le_of_lt Nat.and_le_right (by omega)
theorem u8_and_pred (z : Nat) (h : z < 256) (h0 : z ≠ 0) : bits .and .u8 (z : Int) ((z : Int) - 1) = ((z &&& (z - 1) : Nat) : Int) := by
  rw [show ((z : Int) - 1) = ((z - 1 : Nat) : Int) by omega]
  exact u8_and_nat z (z - 1) h (by omega)
theorem mem_offs (n z : Nat) (p : Int) : p ∈ offs n z ↔ ∃ t, t < 8 ∧ z.testBit t = true ∧ p = ((8 * n + t : Nat) : Int) := by
  simp only [offs, bitsOf, List.mem_map, List.mem_filter, List.mem_range]
  constructor
  · rintro ⟨t, ⟨h1, h2⟩, rfl⟩; exact ⟨t, h1, h2, rfl⟩
  · rintro ⟨t, h1, h2, rfl⟩; exact ⟨t, ⟨h1, h2⟩, rfl⟩
theorem mem_diffTo (a b : List Nat) (k : Nat) (p : Int) : p ∈ diffTo a b k ↔ ∃ i, i < 8 * k ∧ p = (i : Nat) ∧ (getN a i != getN b i) = true := by
  simp only [diffTo, List.mem_flatMap, List.mem_range, mem_offs]
  constructor
  · rintro ⟨n, hn, t, ht, hb, rfl⟩
    refine ⟨8 * n + t, by omega, rfl, ?_⟩
    rw [Nat.testBit_xor] at hb
    unfold getN
    rw [show (8 * n + t) / 8 = n by omega, show (8 * n + t) % 8 = t by omega]
    simpa using hb
  · rintro ⟨i, hi, rfl, hb⟩
    refine ⟨i / 8, by omega, i % 8, by omega, ?_, by congr 1; omega⟩
    rw [Nat.testBit_xor]
    unfold getN at hb
    simpa using hb
end Go.Proofs.YtlalghhaibknfaaGreat

/-
  Plain facts on bytes and bits, more: two turns are none; what differs, turned, is the same; what two have has no more ones than either.
-/
namespace Go.Proofs.YtlalghhaibknfaaGreat

theorem bits_ext {a b : List Nat} (ha : ∀ x ∈ a, x < 256) (hb : ∀ x ∈ b, x < 256) (hl : a.length = b.length) (h : ∀ i, i < 8 * a.length → getN a i = getN b i) : a = b := by
  apply List.ext_getElem hl
  intro n h1 h2
  apply Nat.eq_of_testBit_eq
  intro t
  have xa := ha _ (List.getElem_mem h1)
  have xb := hb _ (List.getElem_mem h2)
  by_cases ht : t < 8
  · have := h (8 * n + t) (by omega)
    unfold getN at this
    rw [show (8 * n + t) / 8 = n by omega, show (8 * n + t) % 8 = t by omega] at this
    simpa [h1, h2] using this
  · have p : 2 ^ 8 ≤ 2 ^ t := Nat.pow_le_pow_right (by omega) (by omega)
    rw [Nat.testBit_lt_two_pow (by omega), Nat.testBit_lt_two_pow (by omega)]

theorem getN_flip1 (l : List Nat) (p : Int) (i : Nat) (hi : i < 8 * l.length) : getN (flip1 l p) i = (getN l i ^^ decide (p = (i : Int))) := by
  by_cases hp : 0 ≤ p ∧ p / 8 < l.length
  · obtain ⟨h0, h1⟩ := hp
    obtain ⟨j, rfl⟩ := Int.eq_ofNat_of_zero_le h0
    have hj : j / 8 < l.length := by omega
    obtain ⟨y, hy⟩ : ∃ y, l[j / 8]? = some y := ⟨_, List.getElem?_eq_getElem hj⟩
    rw [flip1_yes l j y hy]
    have hi8 : i / 8 < l.length := by omega
    unfold getN
    by_cases he : j / 8 = i / 8
    · rw [he] at hy
      rw [he]
      have e1 : (l.set (i / 8) (y ^^^ mk8 j)).getD (i / 8) 0 = y ^^^ mk8 j := by simp [hi8]
      have e2 : l.getD (i / 8) 0 = y := getD_some hy
      rw [e1, e2, Nat.testBit_xor]
      congr 1
      unfold mk8
      rw [Nat.testBit_two_pow]
      apply decide_eq_decide.2
      omega
    · have e1 : (l.set (j / 8) (y ^^^ mk8 j)).getD (i / 8) 0 = l.getD (i / 8) 0 := by
        rw [List.getD_eq_getElem?_getD, List.getD_eq_getElem?_getD, List.getElem?_set_ne he]
      rw [e1, decide_eq_false (by omega)]
      simp
  · rw [flip1_no l p hp, decide_eq_false (by omega)]
    simp

/-- Is i named an odd number of times? -/
def par (ps : List Int) (i : Nat) : Bool := ps.foldr (fun p acc => decide (p = (i : Int)) ^^ acc) false
theorem getN_flips (ps : List Int) (i : Nat) : ∀ l : List Nat, i < 8 * l.length → getN (flips l ps) i = (getN l i ^^ par ps i) := by
  induction ps with
  | nil => intro l _; simp [flips, par]
  | cons p t ih =>
    intro l hi
    have e : flips l (p :: t) = flips (flip1 l p) t := rfl
    rw [e, ih (flip1 l p) (by rw [flip1_length]; exact hi), getN_flip1 l p i hi]
    show _ = (getN l i ^^ (decide (p = (i : Int)) ^^ par t i))
    rw [Bool.xor_assoc]

theorem flips_twice (l : List Nat) (ps : List Int) (h : ∀ x ∈ l, x < 256) : flips (flips l ps) ps = l := by
  refine bits_ext (flips_lt _ ps (flips_lt l ps h)) h (by rw [flips_length, flips_length]) (fun i hi => ?_)
  rw [flips_length, flips_length] at hi
  rw [getN_flips ps i _ (by rw [flips_length]; exact hi), getN_flips ps i l hi, Bool.xor_assoc, Bool.xor_self, Bool.xor_false]

theorem diffTo_eq (a b : List Nat) (k : Nat) : diffTo a b k = ((List.range (8 * k)).filter fun i => getN a i != getN b i).map fun i => ((i : Nat) : Int) := by
  induction k with
  | zero => simp [diffTo]
  | succ k ih =>
    have h : diffTo a b (k + 1) = diffTo a b k ++ offs k (a.getD k 0 ^^^ b.getD k 0) := by
      unfold diffTo
      rw [List.range_succ, List.flatMap_append]
      simp
    rw [h, ih, show 8 * (k + 1) = 8 * k + 8 by omega, List.range_add, List.filter_append, List.map_append]
    congr 1
    unfold offs bitsOf
    rw [List.filter_map, List.map_map]
    have e : (List.range 8).filter (fun i => (a.getD k 0 ^^^ b.getD k 0).testBit i) = (List.range 8).filter ((fun i => getN a i != getN b i) ∘ fun x => 8 * k + x) := by
      apply List.filter_congr
      intro t ht
      have ht8 : t < 8 := List.mem_range.1 ht
      simp only [Function.comp, getN]
      rw [show (8 * k + t) / 8 = k by omega, show (8 * k + t) % 8 = t by omega, Nat.testBit_xor]
    rw [e]
    rfl

theorem par_append (x y : List Int) (i : Nat) : par (x ++ y) i = (par x i ^^ par y i) := by
  induction x with
  | nil => simp [par]
  | cons p t ih =>
    show (decide (p = (i : Int)) ^^ par (t ++ y) i) = ((decide (p = (i : Int)) ^^ par t i) ^^ par y i)
    rw [ih, Bool.xor_assoc]
theorem par_filter (f : Nat → Bool) (m i : Nat) : par (((List.range m).filter f).map fun i => ((i : Nat) : Int)) i = (decide (i < m) && f i) := by
  induction m with
  | zero => simp [par]
  | succ m ih =>
    rw [List.range_succ, List.filter_append, List.map_append, par_append, ih]
    by_cases him : i = m
    · subst him
      cases hf : f i <;> simp [par, hf]
    · have h1 : decide (i < m + 1) = decide (i < m) := decide_eq_decide.2 (by omega)
      have h2 : ¬ (m : Int) = (i : Int) := by omega
      rw [h1]
      cases hf : f m <;> simp [par, hf, h2]

theorem flips_diff (a b : List Nat) (ha : ∀ x ∈ a, x < 256) (hb : ∀ x ∈ b, x < 256) (hl : a.length = b.length) : flips a (diffL a b) = b := by
  refine bits_ext (flips_lt _ _ ha) hb (by rw [flips_length, hl]) (fun i hi => ?_)
  rw [flips_length] at hi
  rw [getN_flips _ i a hi, diffL, diffTo_eq, par_filter, hl, Nat.min_self, decide_eq_true (by omega), Bool.true_and]
  cases getN a i <;> cases getN b i <;> rfl

theorem popAux_and (f : Nat) : ∀ x y : Nat, Lib.popAux f (x &&& y) ≤ Lib.popAux f x := by
  induction f with
  | zero => intro x y; exact Nat.le_refl _
  | succ f ih =>
    intro x y
    simp only [Lib.popAux]
    have h1 := ih (x / 2) (y / 2)
    have h2 : (x &&& y) / 2 = x / 2 &&& y / 2 := Nat.and_div_two
    have h3 : (x &&& y) % 2 ≤ x % 2 := by
      have h4 : (x &&& y) % 2 = (x % 2) &&& (y % 2) := Nat.and_mod_two_pow (n := 1)
      rw [h4]
      exact Nat.and_le_left
    rw [h2]
    omega
theorem popc_and (x y : Nat) : Lib.onesCount (x &&& y) ≤ Lib.onesCount x := popAux_and 64 x y
theorem popc_and' (x y : Nat) : Lib.onesCount (x &&& y) ≤ Lib.onesCount y := by rw [Nat.and_comm]; exact popc_and y x

theorem range_getD (l : List Nat) (d : Nat) : (List.range l.length).map (fun i => l.getD i d) = l := by
  apply List.ext_getElem
  · simp
  · intro i h1 h2
    simp [h2]
theorem sum_range_le (f g : Nat → Nat) (n m : Nat) (hnm : n ≤ m) (h : ∀ i, i < n → f i ≤ g i) : ((List.range n).map f).sum ≤ ((List.range m).map g).sum := by
  induction n generalizing m with
  | zero => simp
  | succ n ih =>
    obtain ⟨d, rfl⟩ : ∃ d, m = n + 1 + d := ⟨m - (n + 1), by omega⟩
    have h1 := ih n (Nat.le_refl n) (fun i hi => h i (by omega))
    have h2 := h n (by omega)
    have e1 : ((List.range (n + 1)).map f).sum = ((List.range n).map f).sum + f n := by simp [List.range_succ]
    have e2 : ((List.range (n + 1)).map g).sum = ((List.range n).map g).sum + g n := by simp [List.range_succ]
    have e3 : ((List.range (n + 1 + d)).map g).sum = ((List.range (n + 1)).map g).sum + (((List.range d).map fun x => n + 1 + x).map g).sum := by
      rw [List.range_add, List.map_append, List.sum_append]
    rw [e1, e3, e2]
    omega
def zerosS (l : List Nat) : Nat := (l.map fun x => 8 - Lib.onesCount x).sum
theorem zerosS_eq (l : List Nat) (h : ∀ x ∈ l, x < 256) : zerosS l + ones l = 8 * l.length := by
  induction l with
  | nil => rfl
  | cons x t ih =>
    have h1 := popc_le x (h x (by simp))
    have h2 := ih (fun y hy => h y (by simp [hy]))
    simp only [zerosS, ones, List.map_cons, List.sum_cons, List.length_cons] at h2 ⊢
    omega
theorem zerosS_and (a b : List Nat) : zerosS a ≤ zerosS (andL a b) := by
  have e : zerosS a = ((List.range a.length).map fun i => 8 - Lib.onesCount (a.getD i 255)).sum := by
    unfold zerosS
    conv => lhs; rw [← range_getD a 255]
    rw [List.map_map]
    rfl
  rw [e]
  unfold zerosS andL
  rw [List.map_map]
  exact sum_range_le _ _ _ _ (by omega) (fun i _ => by
    have := popc_and (a.getD i 255) (b.getD i 255)
    simp only [Function.comp]
    omega)
theorem zeros_and (a b : List Nat) (ha : ∀ x ∈ a, x < 256) : 8 * (a.length : Int) - (ones a : Int) ≤ 8 * ((andL a b).length : Int) - (ones (andL a b) : Int) := by
  have h1 := zerosS_eq a ha
  have h2 := zerosS_eq (andL a b) (andL_lt a b ha)
  have h3 := zerosS_and a b
  omega

theorem andL_getD (a b : List Nat) (i : Nat) : (andL a b).getD i 255 = if i < max a.length b.length then a.getD i 255 &&& b.getD i 255 else 255 := by
  rw [List.getD_eq_getElem?_getD, andL_get]
  split <;> rfl
theorem getD_over (a : List Nat) (i : Nat) (h : a.length ≤ i) : a.getD i 255 = 255 := getD_none h
theorem andL_getD' (a b : List Nat) (i : Nat) : (andL a b).getD i 255 = a.getD i 255 &&& b.getD i 255 := by
  rw [andL_getD]
  split
  · rfl
  · rw [getD_over a i (by omega), getD_over b i (by omega)]; rfl
theorem andL_self_left (a b : List Nat) : andL (andL a b) a = andL a b := by
  apply List.ext_getElem?
  intro i
  rw [andL_get, andL_get, andL_length, andL_getD']
  rw [show max (max a.length b.length) a.length = max a.length b.length by omega]
  split
  · rw [Nat.and_comm (a.getD i 255) (b.getD i 255), Nat.and_assoc, Nat.and_self]
  · rfl
end Go.Proofs.YtlalghhaibknfaaGreat

/-
  Plain facts on layouts: sizes, which numbers fit, numbers as bytes with the least significant one first, fields one behind the other, and back.
-/
namespace Go.Proofs.YtlalghhaibknfaaGreat

/-- A field may have that size. -/
def okSz (x : Int) : Bool := decide (1 ≤ x ∧ x ≤ 8)
theorem okSz_yes {x : Int} (h : okSz x = true) : 1 ≤ x ∧ x ≤ 8 := by simpa [okSz] using h
theorem okSz_no {x : Int} (h : okSz x = false) : ¬ (1 ≤ x ∧ x ≤ 8) := by simpa [okSz] using h
/-- The sizes together. -/
def sumI (l : List Int) : Nat := (l.map Int.toNat).sum
/-- A layout is allowed. -/
def okL (l : List Int) : Bool := decide (l.length ≤ 64) && l.all okSz
theorem sumI_append (a b : List Int) : sumI (a ++ b) = sumI a + sumI b := by simp [sumI]
theorem sumI_snoc (l : List Int) (x : Int) : sumI (l ++ [x]) = sumI l + x.toNat := by simp [sumI]
theorem sumI_le (l : List Int) (h : ∀ x ∈ l, okSz x = true) : sumI l ≤ 8 * l.length := by
  induction l with
  | nil => simp [sumI]
  | cons x t ih =>
    have h1 := okSz_yes (h x (by simp))
    have h2 := ih fun y hy => h y (by simp [hy])
    simp only [sumI, List.map_cons, List.sum_cons, List.length_cons] at h2 ⊢
    omega
theorem okL_len {l : List Int} (h : okL l = true) : l.length ≤ 64 := by
  unfold okL at h
  rw [Bool.and_eq_true] at h
  simpa using h.1
theorem okL_all {l : List Int} (h : okL l = true) : ∀ x ∈ l, okSz x = true := by
  unfold okL at h
  rw [Bool.and_eq_true] at h
  simpa using h.2
theorem okL_mk {l : List Int} (h : l.length ≤ 64) (h2 : ∀ x ∈ l, okSz x = true) : okL l = true := by
  unfold okL
  rw [Bool.and_eq_true]
  exact ⟨by simpa using h, by simpa using h2⟩
theorem okL_long {l : List Int} (h : 64 < l.length) : okL l = false := by
  unfold okL
  rw [Bool.and_eq_false_iff]
  left
  simpa using h
theorem okL_bad {l : List Int} {k : Nat} {x : Int} (h : l[k]? = some x) (h2 : okSz x = false) : okL l = false := by
  unfold okL
  rw [Bool.and_eq_false_iff]
  right
  rw [List.all_eq_false]
  exact ⟨x, List.mem_of_getElem? h, by simp [h2]⟩
theorem okL_at {l : List Int} {k : Nat} {x : Int} (h : okL l = true) (h2 : l[k]? = some x) : 1 ≤ x ∧ x ≤ 8 := okSz_yes (okL_all h x (List.mem_of_getElem? h2))
theorem okL_sum {l : List Int} (h : okL l = true) : sumI l ≤ 512 := by
  have h1 := sumI_le l (okL_all h)
  have h2 := okL_len h
  omega
theorem okL_take {l : List Int} (h : okL l = true) (k : Nat) : okL (l.take k) = true :=
  okL_mk (by have := okL_len h; simp; omega) fun x hx => okL_all h x (List.mem_of_mem_take hx)
theorem okL_drop {l : List Int} (h : okL l = true) (k : Nat) : okL (l.drop k) = true :=
  okL_mk (by have := okL_len h; simp; omega) fun x hx => okL_all h x (List.mem_of_mem_drop hx)
theorem sumI_take_le (l : List Int) (k : Nat) : sumI (l.take k) ≤ sumI l := by
  have h := sumI_append (l.take k) (l.drop k)
  rw [List.take_append_drop] at h
  omega

/-- The greatest number of a field of that size. -/
def great (s : Nat) : Nat := if s = 8 then 4611686018427387904 else 2 ^ (8 * s) - 1
theorem great_8 : great 8 = 4611686018427387904 := rfl
theorem great_of (s : Nat) (h : s ≠ 8) : great s = 2 ^ (8 * s) - 1 := by unfold great; rw [if_neg h]
theorem pow8_le (s : Nat) (h : s ≤ 7) : 2 ^ (8 * s) ≤ 72057594037927936 := Nat.pow_le_pow_right (n := 2) (by omega) (show 8 * s ≤ 56 by omega)
theorem pow8_pos (s : Nat) : 1 ≤ 2 ^ (8 * s) := Nat.one_le_two_pow
theorem great_le (s : Nat) (h : s ≤ 8) : great s ≤ 4611686018427387904 := by
  by_cases h8 : s = 8
  · subst h8; exact Nat.le_refl _
  · rw [great_of s h8]
    have := pow8_le s (by omega)
    omega
theorem great_lt (s : Nat) (h : s ≤ 8) : great s < 2 ^ (8 * s) := by
  by_cases h8 : s = 8
  · subst h8; decide
  · rw [great_of s h8]
    have := pow8_pos s
    omega
/-- A number fits into a field of that size. -/
def fitsB (n s : Int) : Bool := okSz s && (decide (0 ≤ n) && decide (n ≤ (great s.toNat : Int)))
theorem fitsB_bad {n s : Int} (h : okSz s = false) : fitsB n s = false := by unfold fitsB; rw [h]; rfl
theorem fitsB_neg {n s : Int} (h : n < 0) : fitsB n s = false := by unfold fitsB; rw [show decide (0 ≤ n) = false by simpa using h]; simp
theorem fitsB_yes {n s : Int} (h : fitsB n s = true) : 1 ≤ s ∧ s ≤ 8 ∧ 0 ≤ n ∧ n ≤ (great s.toNat : Int) := by
  unfold fitsB at h
  rw [Bool.and_eq_true, Bool.and_eq_true] at h
  have := okSz_yes h.1
  exact ⟨this.1, this.2, by simpa using h.2.1, by simpa using h.2.2⟩
theorem fitsB_nat (n s : Nat) (h1 : 1 ≤ s) (h2 : s ≤ 8) : fitsB (n : Int) (s : Int) = decide (n ≤ great s) := by
  unfold fitsB
  rw [show okSz (s : Int) = true by simp [okSz]; omega]
  simp
theorem fits_pow (n s : Nat) (h2 : s ≤ 8) : n ≤ great s ↔ (n ≤ 4611686018427387904 ∧ n / 2 ^ (8 * s) = 0) := by
  have hp := pow8_pos s
  rw [Nat.div_eq_zero_iff]
  by_cases h8 : s = 8
  · subst h8
    rw [great_8]
    constructor
    · intro h
      exact ⟨h, .inr (Nat.lt_of_le_of_lt h (by decide))⟩
    · exact fun h => h.1
  · rw [great_of s h8]
    have := pow8_le s (by omega)
    omega

/-- The first k bytes of a number. -/
def leN (n k : Nat) : List Nat := (List.range k).map fun i => n / 2 ^ (8 * i) % 256
theorem leN_length (n k : Nat) : (leN n k).length = k := by simp [leN]
theorem leN_zero (n : Nat) : leN n 0 = [] := rfl
theorem leN_succ (n k : Nat) : leN n (k + 1) = leN n k ++ [n / 2 ^ (8 * k) % 256] := by simp [leN, List.range_succ]
theorem leN_lt (n k : Nat) : ∀ x ∈ leN n k, x < 256 := by
  intro x hx
  simp only [leN, List.mem_map] at hx
  obtain ⟨i, _, rfl⟩ := hx
  exact Nat.mod_lt _ (by omega)
theorem leN_cons (n k : Nat) : leN n (k + 1) = n % 256 :: leN (n / 256) k := by
  unfold leN
  rw [List.range_succ_eq_map, List.map_cons, List.map_map]
  refine congr (congrArg List.cons (by simp)) (List.map_congr_left fun i _ => ?_)
  show n / 2 ^ (8 * (i + 1)) % 256 = n / 256 / 2 ^ (8 * i) % 256
  rw [Nat.div_div_eq_div_mul, show 8 * (i + 1) = 8 + 8 * i by omega, Nat.pow_add]
/-- Bytes as a number. -/
def numN : List Nat → Nat
  | [] => 0
  | x :: t => x + 256 * numN t
theorem numN_leN (k : Nat) : ∀ n, numN (leN n k) = n % 2 ^ (8 * k) := by
  induction k with
  | zero => intro n; simp [leN_zero, numN, Nat.mod_one]
  | succ k ih =>
    intro n
    rw [leN_cons, numN, ih, show 8 * (k + 1) = 8 + 8 * k by omega, Nat.pow_add, Nat.mod_mul]
theorem numN_lt (l : List Nat) (h : ∀ x ∈ l, x < 256) : numN l < 2 ^ (8 * l.length) := by
  induction l with
  | nil => simp [numN]
  | cons x t ih =>
    have h1 := h x (by simp)
    have h2 := ih fun y hy => h y (by simp [hy])
    rw [numN, List.length_cons, show 8 * (t.length + 1) = 8 * t.length + 8 by omega, Nat.pow_add]
    omega
theorem numN_snoc (l : List Nat) (x : Nat) : numN (l ++ [x]) = numN l + x * 2 ^ (8 * l.length) := by
  induction l with
  | nil => simp [numN]
  | cons y t ih =>
    rw [List.cons_append, numN, ih, numN, List.length_cons, show 8 * (t.length + 1) = 8 * t.length + 8 by omega, Nat.pow_add, Nat.mul_add, ← Nat.add_assoc]
    congr 1
    rw [Nat.mul_comm (2 ^ (8 * t.length)), ← Nat.mul_assoc, ← Nat.mul_assoc, Nat.mul_comm 256 x]
theorem leN_numN (l : List Nat) (h : ∀ x ∈ l, x < 256) : leN (numN l) l.length = l := by
  induction l with
  | nil => rfl
  | cons x t ih =>
    have h1 := h x (by simp)
    rw [List.length_cons, leN_cons, numN, show (x + 256 * numN t) % 256 = x by omega, show (x + 256 * numN t) / 256 = numN t by omega, ih fun y hy => h y (by simp [hy])]

/-- The first k fields. -/
def putTo (s z : List Int) (k : Nat) : List Nat := (((s.zip z).take k).map fun p => leN p.2.toNat p.1.toNat).flatten
/-- All fields. -/
def putL (s z : List Int) : List Nat := ((s.zip z).map fun p => leN p.2.toNat p.1.toNat).flatten
theorem zip_at {s z : List Int} {k : Nat} {x n : Int} (hx : s[k]? = some x) (hn : z[k]? = some n) : (s.zip z)[k]? = some (x, n) := by
  rw [List.getElem?_zip_eq_some]
  exact ⟨hx, hn⟩
theorem putTo_succ {s z : List Int} {k : Nat} {x n : Int} (hx : s[k]? = some x) (hn : z[k]? = some n) : putTo s z (k + 1) = putTo s z k ++ leN n.toNat x.toNat := by
  unfold putTo
  rw [take_snoc (zip_at hx hn)]
  simp
theorem putTo_all (s z : List Int) (k : Nat) (h : s.length ≤ k) : putTo s z k = putL s z := by
  unfold putTo putL
  rw [List.take_of_length_le (by simp; omega)]
theorem putL_lt (s z : List Int) : ∀ x ∈ putL s z, x < 256 := by
  intro x hx
  simp only [putL, List.mem_flatten, List.mem_map] at hx
  obtain ⟨l, ⟨p, _, rfl⟩, h⟩ := hx
  exact leN_lt _ _ x h
theorem putL_length : ∀ (s z : List Int), s.length = z.length → (putL s z).length = sumI s
  | [], [], _ => rfl
  | x :: s, n :: z, h => by
    have ih := putL_length s z (by simpa using h)
    simp only [putL, List.zip_cons_cons, List.map_cons, List.flatten_cons, List.length_append, leN_length] at ih ⊢
    rw [ih]
    simp [sumI]
theorem putTo_length (s z : List Int) (h : s.length = z.length) (k : Nat) : (putTo s z k).length = sumI (s.take k) := by
  have e : putTo s z k = putL (s.take k) (z.take k) := by
    unfold putTo putL
    simp only [List.zip, List.take_zipWith]
  rw [e, putL_length _ _ (by simp [h])]
theorem putL_cons (x n : Int) (s z : List Int) : putL (x :: s) (n :: z) = leN n.toNat x.toNat ++ putL s z := by simp [putL]
theorem putL_append (s t z u : List Int) (h : s.length = z.length) : putL (s ++ t) (z ++ u) = putL s z ++ putL t u := by
  unfold putL
  rw [List.zip_append h]
  simp
theorem putL_split (s z : List Int) (k : Nat) (h : s.length = z.length) : putL s z = putL (s.take k) (z.take k) ++ putL (s.drop k) (z.drop k) := by
  rw [← putL_append _ _ _ _ (by simp [h]), List.take_append_drop, List.take_append_drop]

/-- The numbers fit, one by one. -/
def fitsL (s z : List Int) : Bool := (s.zip z).all fun p => fitsB p.2 p.1
/-- The first k numbers fit. -/
def fitsTo (s z : List Int) (k : Nat) : Bool := ((s.zip z).take k).all fun p => fitsB p.2 p.1
theorem fitsTo_succ {s z : List Int} {k : Nat} {x n : Int} (hx : s[k]? = some x) (hn : z[k]? = some n) (h : fitsTo s z k = true) (h2 : fitsB n x = true) : fitsTo s z (k + 1) = true := by
  unfold fitsTo at h ⊢
  rw [take_snoc (zip_at hx hn), List.all_append, h]
  simp [h2]
theorem fitsTo_all (s z : List Int) (k : Nat) (h : s.length ≤ k) : fitsTo s z k = fitsL s z := by
  unfold fitsTo fitsL
  rw [List.take_of_length_le (by simp; omega)]
theorem fitsL_bad {s z : List Int} {k : Nat} {x n : Int} (hx : s[k]? = some x) (hn : z[k]? = some n) (h2 : fitsB n x = false) : fitsL s z = false := by
  unfold fitsL
  rw [List.all_eq_false]
  exact ⟨(x, n), List.mem_of_getElem? (zip_at hx hn), by simp [h2]⟩
theorem fitsL_at {s z : List Int} {k : Nat} {x n : Int} (hx : s[k]? = some x) (hn : z[k]? = some n) (h2 : fitsL s z = true) : fitsB n x = true := by
  unfold fitsL at h2
  rw [List.all_eq_true] at h2
  exact h2 (x, n) (List.mem_of_getElem? (zip_at hx hn))
theorem fitsL_split (s z : List Int) (k : Nat) (h : s.length = z.length) : fitsL s z = (fitsL (s.take k) (z.take k) && fitsL (s.drop k) (z.drop k)) := by
  unfold fitsL
  rw [← List.all_append, ← List.zip_append (by simp [h]), List.take_append_drop, List.take_append_drop]

/-- Put answers the fields. -/
def canPut (s z : List Int) : Bool := okL s && (decide (s.length = z.length) && fitsL s z)
theorem canPut_yes {s z : List Int} (h : canPut s z = true) : okL s = true ∧ s.length = z.length ∧ fitsL s z = true := by
  unfold canPut at h
  rw [Bool.and_eq_true, Bool.and_eq_true] at h
  exact ⟨h.1, by simpa using h.2.1, h.2.2⟩
theorem canPut_mk {s z : List Int} (h1 : okL s = true) (h2 : s.length = z.length) (h3 : fitsL s z = true) : canPut s z = true := by
  unfold canPut
  rw [h1, h3]
  simpa using h2
/-- What Put answers. -/
def putA (s z : List Int) : List Nat := if canPut s z then putL s z else []
/-- The error beside it. -/
def putE (s z : List Int) : Int := if canPut s z then 0 else 2
theorem putA_yes {s z : List Int} (h : canPut s z = true) : putA s z = putL s z := by unfold putA; rw [h]; rfl
theorem putA_no {s z : List Int} (h : canPut s z = false) : putA s z = [] := by unfold putA; rw [h]; rfl
theorem putE_yes {s z : List Int} (h : canPut s z = true) : putE s z = 0 := by unfold putE; rw [h]; rfl
theorem putE_no {s z : List Int} (h : canPut s z = false) : putE s z = 2 := by unfold putE; rw [h]; rfl
theorem putA_lt (s z : List Int) : ∀ x ∈ putA s z, x < 256 := by
  unfold putA
  split
  · exact putL_lt s z
  · simp
theorem okL_split (s : List Int) (k : Nat) (h : s.length ≤ 64) : okL s = (okL (s.take k) && okL (s.drop k)) := by
  have e := @List.all_append _ okSz (s.take k) (s.drop k)
  rw [List.take_append_drop] at e
  unfold okL
  rw [e, decide_eq_true h, decide_eq_true (show (s.take k).length ≤ 64 by simp; omega), decide_eq_true (show (s.drop k).length ≤ 64 by simp; omega)]
  simp
theorem canPut_split (s z : List Int) (k : Nat) (h : s.length = z.length) (h2 : s.length ≤ 64) : canPut s z = (canPut (s.take k) (z.take k) && canPut (s.drop k) (z.drop k)) := by
  unfold canPut
  rw [okL_split s k h2, fitsL_split s z k h, decide_eq_true h, decide_eq_true (show (s.take k).length = (z.take k).length by simp [h]), decide_eq_true (show (s.drop k).length = (z.drop k).length by simp [h])]
  cases okL (s.take k) <;> cases okL (s.drop k) <;> cases fitsL (s.take k) (z.take k) <;> cases fitsL (s.drop k) (z.drop k) <;> rfl

/-- The numbers of the fields. -/
def vals : List Int → List Nat → List Int
  | [], _ => []
  | s :: t, b => (numN (b.take s.toNat) : Int) :: vals t (b.drop s.toNat)
theorem vals_length (s : List Int) : ∀ b, (vals s b).length = s.length := by
  induction s with
  | nil => intro b; rfl
  | cons x t ih => intro b; simp [vals, ih]
theorem vals_snoc (s : List Int) (x : Int) : ∀ b, vals (s ++ [x]) b = vals s b ++ [(numN ((b.drop (sumI s)).take x.toNat) : Int)] := by
  induction s with
  | nil => intro b; simp [vals, sumI]
  | cons y t ih =>
    intro b
    rw [List.cons_append, vals, ih, vals, List.drop_drop]
    simp [sumI]
theorem vals_at {s : List Int} {k : Nat} {x : Int} (b : List Nat) (hx : s[k]? = some x) : (vals s b)[k]? = some (numN ((b.drop (sumI (s.take k))).take x.toNat) : Int) := by
  induction s generalizing k b with
  | nil => simp at hx
  | cons y t ih =>
    cases k with
    | zero => simp at hx; subst hx; simp [vals, sumI]
    | succ k =>
      simp at hx
      rw [vals, List.getElem?_cons_succ, ih _ hx, List.drop_drop]
      simp [sumI]
theorem vals_nn (s : List Int) : ∀ b, ∀ x ∈ vals s b, 0 ≤ x := by
  induction s with
  | nil => intro b; simp [vals]
  | cons y t ih =>
    intro b x hx
    simp only [vals, List.mem_cons] at hx
    rcases hx with rfl | h
    · omega
    · exact ih _ x h
/-- No number is too great. -/
def low (l : List Int) : Bool := l.all fun x => decide (x ≤ 4611686018427387904)
theorem low_bad {l : List Int} {k : Nat} {x : Int} (h : l[k]? = some x) (h2 : 4611686018427387904 < x) : low l = false := by
  unfold low
  rw [List.all_eq_false]
  exact ⟨x, List.mem_of_getElem? h, by simpa using h2⟩
theorem low_at {l : List Int} (h : low l = true) : ∀ x ∈ l, x ≤ 4611686018427387904 := by
  unfold low at h
  rw [List.all_eq_true] at h
  exact fun x hx => by simpa using h x hx
theorem low_snoc {l : List Int} {x : Int} (h : low l = true) (h2 : x ≤ 4611686018427387904) : low (l ++ [x]) = true := by
  unfold low at h ⊢
  rw [List.all_append, h]
  simpa using h2
/-- The error of Take. -/
def takeE (s : List Int) (b : List Nat) : Int :=
  if okL s then (if b.length < sumI s then 10 else if sumI s < b.length then 13 else if low (vals s b) then 0 else 11) else 2
/-- What Take answers. -/
def takeA (s : List Int) (b : List Nat) : List Int := if takeE s b = 0 then vals s b else []
theorem takeE_bad {s : List Int} {b : List Nat} (h : okL s = false) : takeE s b = 2 := by unfold takeE; rw [h]; rfl
theorem takeE_short {s : List Int} {b : List Nat} (h : okL s = true) (h2 : b.length < sumI s) : takeE s b = 10 := by unfold takeE; rw [if_pos h, if_pos h2]
theorem takeE_long {s : List Int} {b : List Nat} (h : okL s = true) (h2 : sumI s < b.length) : takeE s b = 13 := by unfold takeE; rw [if_pos h, if_neg (by omega), if_pos h2]
theorem takeE_high {s : List Int} {b : List Nat} (h : okL s = true) (h2 : sumI s = b.length) (h3 : low (vals s b) = false) : takeE s b = 11 := by
  unfold takeE; rw [if_pos h, if_neg (by omega), if_neg (by omega), h3]; rfl
theorem takeE_yes {s : List Int} {b : List Nat} (h : okL s = true) (h2 : sumI s = b.length) (h3 : low (vals s b) = true) : takeE s b = 0 := by
  unfold takeE; rw [if_pos h, if_neg (by omega), if_neg (by omega), h3]; rfl
theorem takeA_no {s : List Int} {b : List Nat} {e : Int} (h : takeE s b = e) (he : e ≠ 0) : takeA s b = [] := by unfold takeA; rw [if_neg (by omega)]
theorem takeA_yes {s : List Int} {b : List Nat} (h : takeE s b = 0) : takeA s b = vals s b := by unfold takeA; rw [if_pos h]
theorem takeE_zero {s : List Int} {b : List Nat} (h : takeE s b = 0) : okL s = true ∧ sumI s = b.length ∧ low (vals s b) = true := by
  cases h1 : okL s
  · rw [takeE_bad h1] at h; omega
  · rcases Nat.lt_trichotomy b.length (sumI s) with h2 | h2 | h2
    · rw [takeE_short h1 h2] at h; omega
    · cases h3 : low (vals s b)
      · rw [takeE_high h1 h2.symm h3] at h; omega
      · exact ⟨rfl, h2.symm, rfl⟩
    · rw [takeE_long h1 h2] at h; omega
theorem takeA_bd (s : List Int) (b : List Nat) : ∀ x ∈ takeA s b, 0 ≤ x ∧ x ≤ 4611686018427387904 := by
  intro x hx
  by_cases h : takeE s b = 0
  · rw [takeA_yes h] at hx
    exact ⟨vals_nn s b x hx, low_at (takeE_zero h).2.2 x hx⟩
  · rw [takeA_no rfl h] at hx
    simp at hx

/-- What is put is taken. -/
theorem vals_putL : ∀ (s z : List Int) (r : List Nat), s.length = z.length → fitsL s z = true → vals s (putL s z ++ r) = z
  | [], [], _, _, _ => rfl
  | x :: s, n :: z, r, h, hf => by
    have h0 := fitsB_yes (fitsL_at (s := x :: s) (z := n :: z) (k := 0) rfl rfl hf)
    have h1 : fitsL s z = true := by
      simp only [fitsL, List.zip_cons_cons, List.all_cons, Bool.and_eq_true] at hf ⊢
      exact hf.2
    have ih := vals_putL s z r (by simpa using h) h1
    have hg := great_lt x.toNat (by omega)
    rw [putL_cons, vals, List.append_assoc]
    rw [List.take_append_of_le_length (by rw [leN_length]; exact Nat.le_refl _), List.take_of_length_le (by rw [leN_length]; exact Nat.le_refl _), numN_leN, Nat.mod_eq_of_lt (by omega)]
    rw [List.drop_append_of_le_length (by rw [leN_length]; exact Nat.le_refl _), List.drop_eq_nil_of_le (by rw [leN_length]; exact Nat.le_refl _), List.nil_append, ih]
    congr 1
    omega
theorem low_fits (s z : List Int) (h : s.length = z.length) (hf : fitsL s z = true) : low z = true := by
  unfold low
  rw [List.all_eq_true]
  intro n hn
  obtain ⟨k, hk, rfl⟩ := List.getElem_of_mem hn
  have h0 := fitsB_yes (fitsL_at (k := k) (List.getElem?_eq_getElem (by omega)) (List.getElem?_eq_getElem hk) hf)
  have h1 := great_le (s[k]'(by omega)).toNat (by omega)
  simp only [decide_eq_true_eq]
  omega
theorem take_put {s z : List Int} (h : canPut s z = true) : takeE s (putL s z) = 0 ∧ takeA s (putL s z) = z := by
  obtain ⟨h1, h2, h3⟩ := canPut_yes h
  have h4 := vals_putL s z [] h2 h3
  rw [List.append_nil] at h4
  have h5 : takeE s (putL s z) = 0 := takeE_yes h1 (putL_length s z h2).symm (by rw [h4]; exact low_fits s z h2 h3)
  exact ⟨h5, by rw [takeA_yes h5, h4]⟩
theorem take_more {s z : List Int} (h : canPut s z = true) (x : Nat) : takeE s (putL s z ++ [x]) = 13 := by
  obtain ⟨h1, h2, h3⟩ := canPut_yes h
  exact takeE_long h1 (by rw [List.length_append, putL_length s z h2]; simp)
/-- What is taken is put so again. -/
theorem putL_vals : ∀ (s : List Int) (b : List Nat), (∀ x ∈ s, okSz x = true) → (∀ x ∈ b, x < 256) → sumI s = b.length → low (vals s b) = true → putL s (vals s b) = b ∧ fitsL s (vals s b) = true
  | [], b, _, _, h, _ => by
    have : b = [] := List.eq_nil_of_length_eq_zero (by simpa [sumI] using h.symm)
    subst this
    exact ⟨rfl, rfl⟩
  | x :: s, b, hs, hb, h, hl => by
    have hx := okSz_yes (hs x (by simp))
    have hsum : sumI (x :: s) = x.toNat + sumI s := by simp [sumI]
    have hl1 : (b.take x.toNat).length = x.toNat := by rw [List.length_take]; omega
    have h0 : numN (b.take x.toNat) < 2 ^ (8 * x.toNat) := by
      have := numN_lt (b.take x.toNat) fun y hy => hb y (List.mem_of_mem_take hy)
      rwa [hl1] at this
    rw [vals] at hl ⊢
    have hl2 : numN (b.take x.toNat) ≤ 4611686018427387904 ∧ low (vals s (b.drop x.toNat)) = true := by
      unfold low at hl ⊢
      rw [List.all_cons, Bool.and_eq_true] at hl
      exact ⟨by have := hl.1; simp only [decide_eq_true_eq] at this; omega, hl.2⟩
    obtain ⟨ih1, ih2⟩ := putL_vals s (b.drop x.toNat) (fun y hy => hs y (by simp [hy])) (fun y hy => hb y (List.mem_of_mem_drop hy)) (by simp; omega) hl2.2
    have e := leN_numN (b.take x.toNat) fun y hy => hb y (List.mem_of_mem_take hy)
    rw [hl1] at e
    refine ⟨?_, ?_⟩
    · rw [putL_cons, ih1, Int.toNat_natCast, e, List.take_append_drop]
    · unfold fitsL at ih2 ⊢
      rw [List.zip_cons_cons, List.all_cons, ih2, Bool.and_true]
      obtain ⟨t, rfl⟩ := Int.eq_ofNat_of_zero_le (show 0 ≤ x by omega)
      rw [fitsB_nat _ _ (by omega) (by omega), decide_eq_true_eq, fits_pow _ _ (by omega)]
      exact ⟨hl2.1, Nat.div_eq_of_lt (by simpa using h0)⟩
theorem put_take {s : List Int} {b : List Nat} (hb : ∀ x ∈ b, x < 256) (h : takeE s b = 0) : canPut s (takeA s b) = true ∧ putL s (takeA s b) = b := by
  obtain ⟨h1, h2, h3⟩ := takeE_zero h
  obtain ⟨h4, h5⟩ := putL_vals s b (okL_all h1) hb h2 h3
  rw [takeA_yes h]
  exact ⟨canPut_mk h1 (vals_length s b).symm h5, h4⟩
end Go.Proofs.YtlalghhaibknfaaGreat

/-
  Plain facts on tags: which are valid, their bytes, the tag of bytes, there and back; zero bits; which of several tags is the latest.
-/
namespace Go.Proofs.YtlalghhaibknfaaGreat

/-- A tag. -/
structure Tg where
  k : Int
  s : Int
  q : Int
  e : Int
def Tg.val (t : Tg) : Value := .agg #[.int .i64 t.k, .int .i64 t.s, .int .i64 t.q, .int .i64 t.e]
/-- Its numbers are ints. -/
def Tg.fit (t : Tg) : Prop := (-9223372036854775808 ≤ t.k ∧ t.k ≤ 9223372036854775807) ∧ (-9223372036854775808 ≤ t.s ∧ t.s ≤ 9223372036854775807) ∧ (-9223372036854775808 ≤ t.q ∧ t.q ≤ 9223372036854775807) ∧ -9223372036854775808 ≤ t.e ∧ t.e ≤ 9223372036854775807
/-- It is valid. -/
def Tg.ok (t : Tg) : Bool := decide ((1 ≤ t.k ∧ t.k ≤ 4) ∧ (0 ≤ t.s ∧ t.s ≤ 2147483648) ∧ (0 ≤ t.q ∧ t.q ≤ 2305843009213693952) ∧ 0 ≤ t.e ∧ t.e ≤ 2147483648)
theorem Tg.ok_yes {t : Tg} (h : t.ok = true) : (1 ≤ t.k ∧ t.k ≤ 4) ∧ (0 ≤ t.s ∧ t.s ≤ 2147483648) ∧ (0 ≤ t.q ∧ t.q ≤ 2305843009213693952) ∧ 0 ≤ t.e ∧ t.e ≤ 2147483648 := by simpa [Tg.ok] using h
theorem Tg.ok_mk {t : Tg} (h1 : 1 ≤ t.k ∧ t.k ≤ 4) (h2 : 0 ≤ t.s ∧ t.s ≤ 2147483648) (h3 : 0 ≤ t.q ∧ t.q ≤ 2305843009213693952) (h4 : 0 ≤ t.e ∧ t.e ≤ 2147483648) : t.ok = true := by simp only [Tg.ok, decide_eq_true_eq]; omega
theorem Tg.ok_not {t : Tg} (h : ¬ ((1 ≤ t.k ∧ t.k ≤ 4) ∧ (0 ≤ t.s ∧ t.s ≤ 2147483648) ∧ (0 ≤ t.q ∧ t.q ≤ 2305843009213693952) ∧ 0 ≤ t.e ∧ t.e ≤ 2147483648)) : t.ok = false := decide_eq_false h
theorem Tg.ok_fit {t : Tg} (h : t.ok = true) : t.fit := by have := Tg.ok_yes h; unfold Tg.fit; omega
def Tg.zero : Tg := ⟨0, 0, 0, 0⟩
theorem Tg.zero_not : Tg.zero.ok = false := by decide

/-- The sizes of its fields. -/
def lay : List Int := [2, 1, 4, 8, 4, 5]
/-- The numbers in its fields. -/
def Tg.nums (t : Tg) : List Int := [0, t.k, t.s, t.q, t.e, 0]
/-- Its bytes. -/
def Tg.bytes (t : Tg) : List Nat := putL lay t.nums
theorem lay_ok : okL lay = true := by decide
theorem lay_sum : sumI lay = 24 := by decide
theorem Tg.bytes_len (t : Tg) : t.bytes.length = 24 := by unfold Tg.bytes; rw [putL_length lay t.nums rfl, lay_sum]
theorem Tg.bytes_lt (t : Tg) : ∀ x ∈ t.bytes, x < 256 := putL_lt _ _
theorem fitsB_mk {n s : Int} (h1 : 1 ≤ s) (h2 : s ≤ 8) (h3 : 0 ≤ n) (h4 : n ≤ (great s.toNat : Int)) : fitsB n s = true := by
  unfold fitsB
  rw [show okSz s = true by simp [okSz, h1, h2], decide_eq_true h3, decide_eq_true h4]
  rfl
theorem Tg.can {t : Tg} (h : t.ok = true) : canPut lay t.nums = true := by
  have h1 := Tg.ok_yes h
  refine canPut_mk lay_ok rfl ?_
  have g1 : (great (1 : Int).toNat : Int) = 255 := by decide
  have g4 : (great (4 : Int).toNat : Int) = 4294967295 := by decide
  have g8 : (great (8 : Int).toNat : Int) = 4611686018427387904 := by decide
  simp only [fitsL, lay, Tg.nums, List.zip_cons_cons, List.zip_nil_right, List.all_cons, List.all_nil, Bool.and_eq_true, Bool.and_true]
  exact ⟨by decide, fitsB_mk (by omega) (by omega) (by omega) (by rw [g1]; omega), fitsB_mk (by omega) (by omega) (by omega) (by rw [g4]; omega), fitsB_mk (by omega) (by omega) (by omega) (by rw [g8]; omega), fitsB_mk (by omega) (by omega) (by omega) (by rw [g4]; omega), by decide⟩

/-- The tag of bytes, and the error. -/
def takeT (b : List Nat) : Tg × Int :=
  match takeA lay b with
  | [v0, v1, v2, v3, v4, v5] => if v0 = 0 ∧ v5 = 0 ∧ Tg.ok ⟨v1, v2, v3, v4⟩ = true then (⟨v1, v2, v3, v4⟩, 0) else (Tg.zero, 11)
  | _ => (Tg.zero, takeE lay b)
theorem takeT_no {b : List Nat} {e : Int} (h : takeE lay b = e) (h0 : e ≠ 0) : takeT b = (Tg.zero, e) := by
  unfold takeT
  rw [takeA_no h h0, h]
theorem take_six {b : List Nat} (h : takeE lay b = 0) : ∃ v0 v1 v2 v3 v4 v5, takeA lay b = [v0, v1, v2, v3, v4, v5] := by
  have hl : (takeA lay b).length = 6 := by rw [takeA_yes h, vals_length]; rfl
  match takeA lay b, hl with
  | [v0, v1, v2, v3, v4, v5], _ => exact ⟨v0, v1, v2, v3, v4, v5, rfl⟩
theorem takeT_yes {b : List Nat} {v1 v2 v3 v4 : Int} (h : takeA lay b = [0, v1, v2, v3, v4, 0]) (ho : Tg.ok ⟨v1, v2, v3, v4⟩ = true) : takeT b = (⟨v1, v2, v3, v4⟩, 0) := by
  unfold takeT
  rw [h]
  simp [ho]
theorem takeT_bad {b : List Nat} {v0 v1 v2 v3 v4 v5 : Int} (h : takeA lay b = [v0, v1, v2, v3, v4, v5]) (hb : v0 ≠ 0 ∨ v5 ≠ 0 ∨ Tg.ok ⟨v1, v2, v3, v4⟩ = false) : takeT b = (Tg.zero, 11) := by
  unfold takeT
  rw [h]
  have : ¬ (v0 = 0 ∧ v5 = 0 ∧ Tg.ok ⟨v1, v2, v3, v4⟩ = true) := by
    rintro ⟨h1, h2, h3⟩
    rcases hb with hb | hb | hb
    · exact hb h1
    · exact hb h2
    · rw [hb] at h3; cases h3
  simp only [if_neg this]
theorem takeT_bytes {t : Tg} (h : t.ok = true) : takeT t.bytes = (t, 0) := takeT_yes (take_put (Tg.can h)).2 h
/-- Either nothing, with an error; or a valid tag whose bytes they are. -/
theorem takeT_two {b : List Nat} (hb : ∀ x ∈ b, x < 256) : (∃ e, e ≠ 0 ∧ takeT b = (Tg.zero, e)) ∨ ∃ t, takeT b = (t, 0) ∧ t.ok = true ∧ t.bytes = b := by
  by_cases h : takeE lay b = 0
  · obtain ⟨v0, v1, v2, v3, v4, v5, hv⟩ := take_six h
    by_cases hg : v0 = 0 ∧ v5 = 0 ∧ Tg.ok ⟨v1, v2, v3, v4⟩ = true
    · obtain ⟨rfl, rfl, ho⟩ := hg
      refine .inr ⟨_, takeT_yes hv ho, ho, ?_⟩
      have := (put_take hb h).2
      rw [hv] at this
      exact this
    · refine .inl ⟨11, by decide, takeT_bad hv ?_⟩
      by_cases h1 : v0 = 0
      · by_cases h2 : v5 = 0
        · right; right
          cases ho : Tg.ok ⟨v1, v2, v3, v4⟩
          · rfl
          · exact absurd ⟨h1, h2, ho⟩ hg
        · exact .inr (.inl h2)
      · exact .inl h1
  · exact .inl ⟨_, h, takeT_no rfl h⟩
theorem ones_app (a b : List Nat) : ones (a ++ b) = ones a + ones b := by simp [ones]
theorem Tg.few (t : Tg) : ones t.bytes ≤ 136 := by
  have e : t.bytes = leN 0 2 ++ (leN t.k.toNat 1 ++ (leN t.s.toNat 4 ++ (leN t.q.toNat 8 ++ (leN t.e.toNat 4 ++ leN 0 5)))) := by
    simp [Tg.bytes, putL, lay, Tg.nums]
  have h1 := ones_le _ (leN_lt t.k.toNat 1)
  have h2 := ones_le _ (leN_lt t.s.toNat 4)
  have h3 := ones_le _ (leN_lt t.q.toNat 8)
  have h4 := ones_le _ (leN_lt t.e.toNat 4)
  have z2 : ones (leN 0 2) = 0 := by decide +kernel
  have z5 : ones (leN 0 5) = 0 := by decide +kernel
  rw [leN_length] at h1 h2 h3 h4
  rw [e, ones_app, ones_app, ones_app, ones_app, ones_app, z2, z5]
  omega

/-- Of the first k tags none is later than the one at p, and none ahead of it is as late. -/
def LateTo (l : List Tg) (k p : Nat) : Prop := ∃ t, l[p]? = some t ∧ (∀ j u, j < k → l[j]? = some u → u.q ≤ t.q) ∧ ∀ j u, j < p → l[j]? = some u → u.q < t.q
theorem LateTo.start {l : List Tg} {t : Tg} (h : l[0]? = some t) : LateTo l 0 0 := ⟨t, h, fun j _ hj => absurd hj (by omega), fun j _ hj => absurd hj (by omega)⟩
theorem LateTo.later {l : List Tg} {k p : Nat} {t x : Tg} (h : LateTo l k p) (ht : l[p]? = some t) (hx : l[k]? = some x) (hl : t.q < x.q) : LateTo l (k + 1) k := by
  obtain ⟨t', ht', h1, h2⟩ := h
  rw [ht] at ht'
  injection ht' with ht'
  subst ht'
  refine ⟨x, hx, fun j u hj hu => ?_, fun j u hj hu => ?_⟩
  · by_cases hjk : j = k
    · subst hjk
      rw [hx] at hu
      injection hu with hu
      subst hu
      exact Int.le_refl _
    · have := h1 j u (by omega) hu
      omega
  · have := h1 j u hj hu
    omega
theorem LateTo.stays {l : List Tg} {k p : Nat} {t x : Tg} (h : LateTo l k p) (ht : l[p]? = some t) (hx : l[k]? = some x) (hl : ¬ t.q < x.q) : LateTo l (k + 1) p := by
  obtain ⟨t', ht', h1, h2⟩ := h
  rw [ht] at ht'
  injection ht' with ht'
  subst ht'
  refine ⟨t, ht, fun j u hj hu => ?_, h2⟩
  by_cases hjk : j = k
  · subst hjk
    rw [hx] at hu
    injection hu with hu
    subst hu
    omega
  · exact h1 j u (by omega) hu
theorem LateTo.lt {l : List Tg} {k p : Nat} (h : LateTo l k p) : p < l.length := by
  obtain ⟨t, ht, _⟩ := h
  exact (List.getElem?_eq_some_iff.1 ht).1
theorem LateTo.one {l : List Tg} {n p r : Nat} (h : LateTo l n p) (g : LateTo l n r) (hp : p < n) (hr : r < n) : p = r := by
  obtain ⟨t, ht, h1, h2⟩ := h
  obtain ⟨u, hu, g1, g2⟩ := g
  rcases Nat.lt_trichotomy p r with hlt | heq | hgt
  · have a := g2 p t hlt ht
    have b := h1 r u hr hu
    omega
  · exact heq
  · have a := h2 r u hgt hu
    have b := g1 p t hp ht
    omega
/-- The latest of two lists. -/
theorem LateTo.parts {a b : List Tg} {i k : Nat} {x y : Tg} (h : LateTo a a.length i) (g : LateTo b b.length k) (hx : a[i]? = some x) (hy : b[k]? = some y) :
    LateTo (a ++ b) (a ++ b).length (if x.q < y.q then a.length + k else i) := by
  obtain ⟨t, ht, h1, h2⟩ := h
  rw [hx] at ht
  injection ht with ht
  subst ht
  obtain ⟨u, hu, g1, g2⟩ := g
  rw [hy] at hu
  injection hu with hu
  subst hu
  have hi := (List.getElem?_eq_some_iff.1 hx).1
  have hk := (List.getElem?_eq_some_iff.1 hy).1
  have at_ : ∀ j z, (a ++ b)[j]? = some z → (j < a.length ∧ a[j]? = some z) ∨ (a.length ≤ j ∧ j - a.length < b.length ∧ b[j - a.length]? = some z) := by
    intro j z hz
    by_cases hj : j < a.length
    · rw [List.getElem?_append_left hj] at hz
      exact .inl ⟨hj, hz⟩
    · rw [List.getElem?_append_right (by omega)] at hz
      exact .inr ⟨by omega, (List.getElem?_eq_some_iff.1 hz).1, hz⟩
  by_cases hl : x.q < y.q
  · rw [if_pos hl]
    refine ⟨y, by rw [List.getElem?_append_right (by omega), Nat.add_sub_cancel_left]; exact hy, fun j z _ hz => ?_, fun j z hj hz => ?_⟩
    · rcases at_ j z hz with ⟨c1, c2⟩ | ⟨c1, c2, c3⟩
      · have := h1 j z c1 c2; omega
      · exact g1 _ z c2 c3
    · rcases at_ j z hz with ⟨c1, c2⟩ | ⟨c1, c2, c3⟩
      · have := h1 j z c1 c2; omega
      · exact g2 _ z (by omega) c3
  · rw [if_neg hl]
    refine ⟨x, by rw [List.getElem?_append_left hi]; exact hx, fun j z _ hz => ?_, fun j z hj hz => ?_⟩
    · rcases at_ j z hz with ⟨c1, c2⟩ | ⟨c1, c2, c3⟩
      · exact h1 j z c1 c2
      · have := g1 _ z c2 c3; omega
    · rcases at_ j z hz with ⟨c1, c2⟩ | ⟨c1, c2, c3⟩
      · exact h2 j z hj c2
      · omega
end Go.Proofs.YtlalghhaibknfaaGreat

/-
  Plain facts on what two lists of bytes have: it does not hang on their order; three, not on which come first. Bytes as a text.
-/
namespace Go.Proofs.YtlalghhaibknfaaGreat

theorem andL_assoc (a b c : List Nat) : andL (andL a b) c = andL a (andL b c) := by
  apply List.ext_getElem?
  intro i
  rw [andL_get, andL_get, andL_length, andL_length, andL_getD', andL_getD', Nat.and_assoc, Nat.max_assoc]
theorem andL_idem (a : List Nat) : andL a a = a := by
  apply List.ext_getElem?
  intro i
  rw [andL_get, Nat.max_self, Nat.and_self]
  split
  · rename_i h; simp [List.getElem?_eq_getElem h]
  · rename_i h; rw [List.getElem?_eq_none (by omega)]
theorem diffL_comm (a b : List Nat) : diffL a b = diffL b a := by
  unfold diffL diffTo
  rw [Nat.min_comm]
  congr 1
  funext n
  rw [Nat.xor_comm]
theorem diffL_self (a : List Nat) : diffL a a = [] := by
  unfold diffL
  rw [diffTo_eq]
  simp
theorem diffL_at (a b : List Nat) (k : Nat) (p : Int) (h : (diffL a b)[k]? = some p) : 0 ≤ p ∧ p < 8 * (min a.length b.length : Nat) ∧ (getI a p == getI b p) = false := by
  obtain ⟨i, hi, rfl, hne⟩ := (mem_diffTo a b _ p).1 (List.mem_of_getElem? h)
  refine ⟨by omega, by omega, ?_⟩
  simp only [getI, Int.toNat_natCast]
  cases h1 : getN a i <;> cases h2 : getN b i <;> simp_all
/-- Bytes, as a text. -/
def str (l : List Nat) : ByteArray := ⟨(l.map fun x => UInt8.ofNat x).toArray⟩
theorem str_size (l : List Nat) : (str l).size = l.length := by simp [str, ByteArray.size]
end Go.Proofs.YtlalghhaibknfaaGreat

/-
  Plain facts on cycles and their texts: the text of cycles, where a text of bytes is wrong, the cycles of a text; there and back. Of no program.
-/
namespace Go.Proofs.YtlalghhaibknfaaGreat

/-- A cycle: its kind and its byte. -/
structure Cy where
  k : Int
  b : Nat

def eqC (x y : Cy) : Bool := x.k == y.k && x.b == y.b
def sameC : List Cy → List Cy → Bool
  | [], [] => true
  | x :: a, y :: b => eqC x y && sameC a b
  | _, _ => false
theorem eqC_iff {x y : Cy} : eqC x y = true ↔ x = y := by
  obtain ⟨k, b⟩ := x
  obtain ⟨k', b'⟩ := y
  simp [eqC]
theorem sameC_iff {a b : List Cy} : sameC a b = true ↔ a = b := by
  induction a generalizing b with
  | nil => cases b <;> simp [sameC]
  | cons x a ih => cases b with
    | nil => simp [sameC]
    | cons y b => simp [sameC, eqC_iff, ih]
theorem sameC_self (a : List Cy) : sameC a a = true := sameC_iff.2 rfl
theorem sameC_len {a b : List Cy} (h : a.length ≠ b.length) : sameC a b = false := by
  cases hs : sameC a b with
  | false => rfl
  | true => exact absurd (congrArg List.length (sameC_iff.1 hs)) h
theorem sameC_drop {a b : List Cy} {i : Nat} {x y : Cy} (hx : a[i]? = some x) (hy : b[i]? = some y) : sameC (a.drop i) (b.drop i) = (eqC x y && sameC (a.drop (i + 1)) (b.drop (i + 1))) := by
  obtain ⟨h1, rfl⟩ := List.getElem?_eq_some_iff.1 hx
  obtain ⟨h2, rfl⟩ := List.getElem?_eq_some_iff.1 hy
  rw [List.drop_eq_getElem_cons h1, List.drop_eq_getElem_cons h2]
  rfl

/-- Is its kind one of the four? -/
def okK (k : Int) : Bool := decide (1 ≤ k) && decide (k ≤ 4)
def okC (l : List Cy) : Bool := l.all fun c => okK c.k
theorem okK_iff {k : Int} : okK k = true ↔ 1 ≤ k ∧ k ≤ 4 := by simp [okK]
theorem okC_iff {l : List Cy} : okC l = true ↔ ∀ c ∈ l, 1 ≤ c.k ∧ c.k ≤ 4 := by simp [okC, okK]
theorem okC_append (a b : List Cy) : okC (a ++ b) = (okC a && okC b) := by simp [okC]
theorem okC_drop {l : List Cy} {i : Nat} {x : Cy} (hx : l[i]? = some x) : okC (l.drop i) = (okK x.k && okC (l.drop (i + 1))) := by
  obtain ⟨h1, rfl⟩ := List.getElem?_eq_some_iff.1 hx
  rw [List.drop_eq_getElem_cons h1]
  rfl

/-- The letter of a kind, the digit of a number. -/
def letB (k : Int) : Nat := if k = 1 then 99 else if k = 2 then 97 else if k = 3 then 119 else 114
def hexB (n : Nat) : Nat := if n < 10 then 48 + n else 87 + n
/-- The kind of a letter, the number of a digit. -/
def letK (v : Nat) : Int := if v = 99 then 1 else if v = 97 then 2 else if v = 119 then 3 else if v = 114 then 4 else 0
def digI (v : Nat) : Int := if 48 ≤ v ∧ v ≤ 57 then (v : Int) - 48 else if 97 ≤ v ∧ v ≤ 102 then (v : Int) - 87 else -1
theorem letK_letB {k : Int} (h : 1 ≤ k ∧ k ≤ 4) : letK (letB k) = k := by
  unfold letB letK
  (repeat' split) <;> omega
theorem letB_letK {v : Nat} (h : letK v ≠ 0) : letB (letK v) = v := by
  unfold letK at h ⊢
  (repeat' split at h) <;> simp_all [letB]
theorem letK_bd (v : Nat) : 0 ≤ letK v ∧ letK v ≤ 4 := by unfold letK; (repeat' split) <;> omega
theorem letB_lt (k : Int) : letB k < 128 := by unfold letB; (repeat' split) <;> omega
theorem letB_ne (k : Int) : letB k ≠ 32 := by unfold letB; (repeat' split) <;> omega
theorem digI_hexB {n : Nat} (h : n < 16) : digI (hexB n) = n := by
  unfold hexB digI
  (repeat' split) <;> omega
theorem digI_bd (v : Nat) : -1 ≤ digI v ∧ digI v ≤ 15 := by unfold digI; (repeat' split) <;> omega
theorem hexB_digI {v : Nat} (h : 0 ≤ digI v) : hexB (digI v).toNat = v := by
  unfold digI at h ⊢
  unfold hexB
  (repeat' split at h) <;> (repeat' split) <;> omega
theorem hexB_lt {n : Nat} (h : n < 16) : hexB n < 128 := by unfold hexB; split <;> omega

/-- The text of a cycle; of cycles, each behind a space; of cycles. -/
def tx (c : Cy) : List Nat := [letB c.k, hexB (c.b / 16), hexB (c.b % 16)]
def spL (l : List Cy) : List Nat := l.flatMap fun c => 32 :: tx c
def textL (l : List Cy) : List Nat := (spL l).tail
theorem spL_length (l : List Cy) : (spL l).length = l.length * 4 := by
  induction l with
  | nil => rfl
  | cons t l ih => simp only [spL, List.flatMap_cons, List.length_append, List.length_cons, tx, List.length_nil] at ih ⊢; omega
theorem spL_append (a b : List Cy) : spL (a ++ b) = spL a ++ spL b := by simp [spL]
theorem textL_length (l : List Cy) : (textL l).length = l.length * 4 - 1 := by simp [textL, spL_length]
theorem textL_snoc (l : List Cy) (c : Cy) (h : l ≠ []) : textL (l ++ [c]) = textL l ++ (32 :: tx c) := by
  cases l with
  | nil => exact absurd rfl h
  | cons x l => simp [textL, spL, tx]
theorem textL_one (c : Cy) : textL [c] = tx c := rfl
theorem textL_append (a b : List Cy) (ha : a ≠ []) (hb : b ≠ []) : textL (a ++ b) = textL a ++ (32 :: textL b) := by
  cases a with
  | nil => exact absurd rfl ha
  | cons x a => cases b with
    | nil => exact absurd rfl hb
    | cons y b => simp [textL, spL, tx]
theorem spL_at {l : List Cy} {k : Nat} {t : Cy} (h : l[k]? = some t) (j : Nat) (hj : j < 4) : (spL l)[k * 4 + j]? = (32 :: tx t)[j]? := by
  induction l generalizing k with
  | nil => simp at h
  | cons x l ih =>
    have e : spL (x :: l) = (32 :: tx x) ++ spL l := by simp [spL]
    cases k with
    | zero =>
      simp at h
      subst h
      rw [e, Nat.zero_mul, Nat.zero_add, List.getElem?_append_left (by simpa [tx] using hj)]
    | succ k =>
      simp at h
      rw [e, List.getElem?_append_right (by simp [tx]; omega), ← ih h]
      congr 1
      simp [tx]
      omega
theorem textL_at (l : List Cy) (j : Nat) : (textL l)[j]? = (spL l)[j + 1]? := by simp [textL]
/-- The byte of a text at place 0, 1, 2 of a cycle's; the space behind it. -/
theorem textL_get {l : List Cy} {k : Nat} {t : Cy} (h : l[k]? = some t) : (textL l).getD (k * 4) 0 = letB t.k ∧ (textL l).getD (k * 4 + 1) 0 = hexB (t.b / 16) ∧ (textL l).getD (k * 4 + 2) 0 = hexB (t.b % 16) ∧ (k + 1 < l.length → (textL l).getD (k * 4 + 3) 0 = 32) := by
  have h1 := spL_at h 1 (by omega)
  have h2 := spL_at h 2 (by omega)
  have h3 := spL_at h 3 (by omega)
  refine ⟨?_, ?_, ?_, fun hk => ?_⟩
  · rw [List.getD_eq_getElem?_getD, textL_at, h1]; rfl
  · rw [List.getD_eq_getElem?_getD, textL_at, h2]; rfl
  · rw [List.getD_eq_getElem?_getD, textL_at, h3]; rfl
  · have h4 := spL_at (List.getElem?_eq_getElem hk) 0 (by omega)
    rw [List.getD_eq_getElem?_getD, textL_at, show k * 4 + 3 + 1 = (k + 1) * 4 + 0 by omega, h4]; rfl
theorem textL_lt {l : List Cy} (hb : ∀ c ∈ l, c.b < 256) : ∀ x ∈ textL l, x < 128 := by
  intro x hx
  have h := List.mem_of_mem_tail hx
  simp only [spL, List.mem_flatMap, tx, List.mem_cons, List.not_mem_nil, or_false] at h
  obtain ⟨c, hc, rfl | rfl | rfl | rfl⟩ := h
  · omega
  · exact letB_lt _
  · exact hexB_lt (by have := hb c hc; omega)
  · exact hexB_lt (by have := hb c hc; omega)

/-- May the byte v be at that place of a cycle's text and the space behind it? -/
def fitB (v p : Nat) : Bool := if p = 0 then letK v != 0 else if p = 3 then v == 32 else decide (0 ≤ digI v)
/-- The position, from 1 on, of the first byte that is wrong, from place i on; 0 if none is. -/
def badAt : Nat → List Nat → Nat
  | i, [] => if i = 0 ∨ i % 4 = 3 then 0 else i + 1
  | i, v :: r => if fitB v (i % 4) = true then badAt (i + 1) r else i + 1
def faultL (s : List Nat) : Nat := badAt 0 s
theorem badAt_nil {i : Nat} : badAt i [] = if i = 0 ∨ i % 4 = 3 then 0 else i + 1 := rfl
theorem badAt_cons {i v : Nat} {r : List Nat} : badAt i (v :: r) = if fitB v (i % 4) = true then badAt (i + 1) r else i + 1 := rfl
theorem badAt_drop {s : List Nat} {i v : Nat} (h : s[i]? = some v) : badAt i (s.drop i) = if fitB v (i % 4) = true then badAt (i + 1) (s.drop (i + 1)) else i + 1 := by
  obtain ⟨h1, rfl⟩ := List.getElem?_eq_some_iff.1 h
  rw [List.drop_eq_getElem_cons h1, badAt_cons]
theorem badAt_end {s : List Nat} {i : Nat} (h : i = s.length) : badAt i (s.drop i) = if i = 0 ∨ i % 4 = 3 then 0 else i + 1 := by
  subst h
  rw [List.drop_length, badAt_nil]
theorem badAt_zero {s : List Nat} {i : Nat} : badAt i s = 0 ↔ (∀ j, j < s.length → fitB (s.getD j 0) ((i + j) % 4) = true) ∧ (i + s.length = 0 ∨ (i + s.length) % 4 = 3) := by
  induction s generalizing i with
  | nil =>
    rw [badAt_nil]
    constructor
    · intro h
      refine ⟨fun j hj => absurd hj (by simp), ?_⟩
      split at h
      · simpa using by assumption
      · omega
    · rintro ⟨_, h⟩
      rw [if_pos (by simpa using h)]
  | cons v r ih =>
    rw [badAt_cons]
    constructor
    · intro h
      split at h
      · rename_i hf
        obtain ⟨h1, h2⟩ := ih.1 h
        refine ⟨fun j hj => ?_, ?_⟩
        · cases j with
          | zero => simpa using hf
          | succ j =>
            have := h1 j (by simpa using hj)
            rw [show i + (j + 1) = i + 1 + j by omega]
            simpa using this
        · simp only [List.length_cons]
          rw [show i + (r.length + 1) = i + 1 + r.length by omega]
          exact h2
      · omega
    · rintro ⟨h1, h2⟩
      have h0 := h1 0 (by simp)
      rw [if_pos (by simpa using h0)]
      refine ih.2 ⟨fun j hj => ?_, ?_⟩
      · have := h1 (j + 1) (by simpa using hj)
        rw [show i + (j + 1) = i + 1 + j by omega] at this
        simpa using this
      · simp only [List.length_cons] at h2
        rw [show i + (r.length + 1) = i + 1 + r.length by omega] at h2
        exact h2
theorem badAt_append {x y : List Nat} {i : Nat} (h : ∀ j, j < x.length → fitB (x.getD j 0) ((i + j) % 4) = true) : badAt i (x ++ y) = badAt (i + x.length) y := by
  induction x generalizing i with
  | nil => rfl
  | cons v r ih =>
    rw [List.cons_append, badAt_cons, if_pos (by simpa using h 0 (by simp)), ih fun j hj => by
      have := h (j + 1) (by simpa using hj)
      rw [show i + (j + 1) = i + 1 + j by omega] at this
      simpa using this]
    congr 1
    simp only [List.length_cons]
    omega
theorem badAt_le (s : List Nat) (i : Nat) : badAt i s ≤ i + s.length + 1 := by
  induction s generalizing i with
  | nil => rw [badAt_nil]; split <;> simp
  | cons v r ih =>
    rw [badAt_cons]
    have := ih (i + 1)
    simp only [List.length_cons]
    split <;> omega
theorem faultL_le (s : List Nat) : faultL s ≤ s.length + 1 := by have := badAt_le s 0; unfold faultL; omega
theorem faultL_zero {s : List Nat} : faultL s = 0 ↔ (∀ j, j < s.length → fitB (s.getD j 0) (j % 4) = true) ∧ (s.length = 0 ∨ s.length % 4 = 3) := by
  unfold faultL
  rw [badAt_zero]
  simp only [Nat.zero_add]

/-- The cycle at place 4 j of a text; the cycles of a text. -/
def cyAt (s : List Nat) (j : Nat) : Cy := ⟨letK (s.getD (j * 4) 0), (16 * digI (s.getD (j * 4 + 1) 0) + digI (s.getD (j * 4 + 2) 0)).toNat⟩
def cysTo (s : List Nat) (m : Nat) : List Cy := (List.range m).map (cyAt s)
def parseL (s : List Nat) : List Cy := cysTo s ((s.length + 1) / 4)
theorem cysTo_length (s : List Nat) (m : Nat) : (cysTo s m).length = m := by simp [cysTo]
theorem cysTo_succ (s : List Nat) (m : Nat) : cysTo s (m + 1) = cysTo s m ++ [cyAt s m] := by simp [cysTo, List.range_succ]
theorem cysTo_at {s : List Nat} {m j : Nat} (h : j < m) : (cysTo s m)[j]? = some (cyAt s j) := by simp [cysTo, List.getElem?_map, List.getElem?_range h]
theorem cyAt_b (s : List Nat) (j : Nat) : (cyAt s j).b < 256 := by
  have h1 := digI_bd (s.getD (j * 4 + 1) 0)
  have h2 := digI_bd (s.getD (j * 4 + 2) 0)
  show (16 * digI (s.getD (j * 4 + 1) 0) + digI (s.getD (j * 4 + 2) 0)).toNat < 256
  omega
theorem cyAt_k (s : List Nat) (j : Nat) : 0 ≤ (cyAt s j).k ∧ (cyAt s j).k ≤ 4 := letK_bd _
theorem cysTo_b {s : List Nat} {m : Nat} : ∀ c ∈ cysTo s m, c.b < 256 ∧ 0 ≤ c.k ∧ c.k ≤ 4 := by
  intro c hc
  simp only [cysTo, List.mem_map] at hc
  obtain ⟨j, _, rfl⟩ := hc
  exact ⟨cyAt_b s j, cyAt_k s j⟩
theorem mod4 (k r : Nat) (h : r < 4) : (k * 4 + r) % 4 = r := by omega
theorem faultL_text {l : List Cy} (hk : ∀ c ∈ l, 1 ≤ c.k ∧ c.k ≤ 4) (hb : ∀ c ∈ l, c.b < 256) : faultL (textL l) = 0 := by
  rw [faultL_zero]
  have hl := textL_length l
  refine ⟨fun j hj => ?_, ?_⟩
  · rw [hl] at hj
    obtain ⟨q, r, hr, rfl⟩ : ∃ q r, r < 4 ∧ j = q * 4 + r := ⟨j / 4, j % 4, by omega, by omega⟩
    have hq : q < l.length := by omega
    have hm := List.getElem_mem hq
    obtain ⟨h0, h1, h2, h3⟩ := textL_get (List.getElem?_eq_getElem hq)
    have hbq := hb _ hm
    have hkq := hk _ hm
    rw [mod4 q r hr]
    have hr4 : r = 0 ∨ r = 1 ∨ r = 2 ∨ r = 3 := by omega
    rcases hr4 with rfl | rfl | rfl | rfl
    · rw [Nat.add_zero, h0]
      simp only [fitB, if_true, bne_iff_ne, ne_eq, letK_letB hkq]
      omega
    · rw [h1]
      simp only [fitB, show ¬((1 : Nat) = 0) by omega, show ¬((1 : Nat) = 3) by omega, if_false, digI_hexB (show (l[q]).b / 16 < 16 by omega)]
      exact decide_eq_true (by omega)
    · rw [h2]
      simp only [fitB, show ¬((2 : Nat) = 0) by omega, show ¬((2 : Nat) = 3) by omega, if_false, digI_hexB (show (l[q]).b % 16 < 16 by omega)]
      exact decide_eq_true (by omega)
    · rw [h3 (by omega)]
      simp [fitB]
  · omega
theorem parseL_text {l : List Cy} (hk : ∀ c ∈ l, 1 ≤ c.k ∧ c.k ≤ 4) (hb : ∀ c ∈ l, c.b < 256) : parseL (textL l) = l := by
  have hl := textL_length l
  apply List.ext_getElem?
  intro j
  by_cases hj : j < l.length
  · have hm := List.getElem_mem hj
    obtain ⟨h0, h1, h2, _⟩ := textL_get (List.getElem?_eq_getElem hj)
    have hbq := hb _ hm
    unfold parseL
    rw [cysTo_at (by omega), List.getElem?_eq_getElem hj, cyAt, h0, h1, h2, letK_letB (hk _ hm), digI_hexB (by omega), digI_hexB (by omega)]
    congr 1
    generalize l[j] = x at *
    obtain ⟨k, b⟩ := x
    simp only [Cy.mk.injEq, true_and]
    show (16 * ((b / 16 : Nat) : Int) + ((b % 16 : Nat) : Int)).toNat = b
    omega
  · rw [List.getElem?_eq_none (by unfold parseL; rw [cysTo_length]; omega), List.getElem?_eq_none (by omega)]
theorem text_parse {s : List Nat} (h : faultL s = 0) : textL (parseL s) = s ∧ okC (parseL s) = true := by
  obtain ⟨hf, hl⟩ := faultL_zero.1 h
  have hn : (parseL s).length = (s.length + 1) / 4 := cysTo_length _ _
  have hd : ∀ j, j < s.length → s[j]? = some (s.getD j 0) := fun j hj => by rw [List.getElem?_eq_getElem hj, List.getD_eq_getElem?_getD, List.getElem?_eq_getElem hj]; rfl
  constructor
  · apply List.ext_getElem?
    intro j
    by_cases hj : j < s.length
    · obtain ⟨q, r, hr, rfl⟩ : ∃ q r, r < 4 ∧ j = q * 4 + r := ⟨j / 4, j % 4, by omega, by omega⟩
      have hq : q < (parseL s).length := by omega
      have hget : (parseL s)[q]? = some (cyAt s q) := cysTo_at (by omega)
      obtain ⟨h0, h1, h2, h3⟩ := textL_get hget
      have hfj := hf _ hj
      rw [mod4 q r hr] at hfj
      have hd2 : (textL (parseL s))[q * 4 + r]? = some ((textL (parseL s)).getD (q * 4 + r) 0) := by
        have hj2 : q * 4 + r < (textL (parseL s)).length := by rw [textL_length]; omega
        rw [List.getElem?_eq_getElem hj2, List.getD_eq_getElem?_getD, List.getElem?_eq_getElem hj2]; rfl
      rw [hd _ hj, hd2]
      congr 1
      have f1 := hf (q * 4 + 1) (by omega)
      have f2 := hf (q * 4 + 2) (by omega)
      rw [mod4 q 1 (by omega)] at f1
      rw [mod4 q 2 (by omega)] at f2
      simp only [fitB, show ¬((1 : Nat) = 0) by omega, show ¬((1 : Nat) = 3) by omega, if_false, decide_eq_true_eq] at f1
      simp only [fitB, show ¬((2 : Nat) = 0) by omega, show ¬((2 : Nat) = 3) by omega, if_false, decide_eq_true_eq] at f2
      have b1 := digI_bd (s.getD (q * 4 + 1) 0)
      have b2 := digI_bd (s.getD (q * 4 + 2) 0)
      have e1 : (cyAt s q).b / 16 = (digI (s.getD (q * 4 + 1) 0)).toNat := by
        show (16 * digI (s.getD (q * 4 + 1) 0) + digI (s.getD (q * 4 + 2) 0)).toNat / 16 = _
        omega
      have e2 : (cyAt s q).b % 16 = (digI (s.getD (q * 4 + 2) 0)).toNat := by
        show (16 * digI (s.getD (q * 4 + 1) 0) + digI (s.getD (q * 4 + 2) 0)).toNat % 16 = _
        omega
      have hr4 : r = 0 ∨ r = 1 ∨ r = 2 ∨ r = 3 := by omega
      rcases hr4 with rfl | rfl | rfl | rfl
      · rw [Nat.add_zero] at hfj ⊢
        rw [h0]
        simp only [fitB, if_true, bne_iff_ne, ne_eq] at hfj
        exact letB_letK hfj
      · rw [h1, e1, hexB_digI f1]
      · rw [h2, e2, hexB_digI f2]
      · rw [h3 (by omega)]
        simp [fitB] at hfj
        exact hfj.symm
    · rw [List.getElem?_eq_none (by rw [textL_length]; omega), List.getElem?_eq_none (by omega)]
  · rw [okC_iff]
    intro c hc
    simp only [parseL, cysTo, List.mem_map, List.mem_range] at hc
    obtain ⟨j, hj, rfl⟩ := hc
    have h1 := hf (j * 4) (by omega)
    rw [show j * 4 % 4 = 0 by omega] at h1
    simp only [fitB, if_true, bne_iff_ne, ne_eq] at h1
    have h2 := letK_bd (s.getD (j * 4) 0)
    show 1 ≤ letK (s.getD (j * 4) 0) ∧ letK (s.getD (j * 4) 0) ≤ 4
    omega
theorem faultL_two {a b : List Cy} (ha : a ≠ []) (hb : b ≠ []) (hk : ∀ c ∈ a, 1 ≤ c.k ∧ c.k ≤ 4) (h2 : ∀ c ∈ a, c.b < 256) : faultL (textL a ++ textL b) = (textL a).length + 1 := by
  have h := faultL_zero.1 (faultL_text hk h2)
  unfold faultL
  rw [badAt_append (by simpa using h.1)]
  have hl := textL_length a
  have hp : 0 < a.length := List.length_pos_iff.2 ha
  cases b with
  | nil => exact absurd rfl hb
  | cons y b =>
    have e : textL (y :: b) = letB y.k :: (hexB (y.b / 16) :: hexB (y.b % 16) :: spL b) := by simp [textL, spL, tx]
    rw [e, badAt_cons, if_neg, Nat.zero_add]
    rw [Nat.zero_add, show (textL a).length % 4 = 3 by omega]
    simp [fitB, letB_ne]

/-- The bytes of a string. -/
def bl (s : ByteArray) : List Nat := s.data.toList.map (·.toNat)
theorem bl_length (s : ByteArray) : (bl s).length = s.size := by
  obtain ⟨⟨l⟩⟩ := s
  unfold bl
  rw [List.length_map]
  rfl
theorem bl_lt (s : ByteArray) : ∀ x ∈ bl s, x < 256 := by
  intro x hx
  simp only [bl, List.mem_map] at hx
  obtain ⟨y, _, rfl⟩ := hx
  exact y.toNat_lt
theorem str_bl (s : ByteArray) : str (bl s) = s := by
  obtain ⟨⟨l⟩⟩ := s
  unfold str bl
  rw [List.map_map]
  have e : ((fun x => UInt8.ofNat x) ∘ fun x : UInt8 => x.toNat) = id := by
    funext x
    exact UInt8.ofNat_toNat
  rw [e, List.map_id]
theorem bl_str {l : List Nat} (h : ∀ x ∈ l, x < 256) : bl (str l) = l := by
  unfold bl str
  rw [List.map_map]
  conv => rhs; rw [← List.map_id l]
  apply List.map_congr_left
  intro x hx
  have := h x hx
  simp
  omega
theorem str_append (a b : List Nat) : str (a ++ b) = str a ++ str b := by
  unfold str
  apply ByteArray.ext
  simp [ByteArray.data_append]
end Go.Proofs.YtlalghhaibknfaaGreat
