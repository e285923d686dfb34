/-
  Plain facts on bytes, bits and lists for the layer bits: no program, no memory.
-/
import Derived.Lib.BitFns
import Derived.Laws.BitsAllLaws
namespace Go.Proofs.Ytimphjgjcnbmnaa

/-- The byte that has bit i % 8 alone. -/
def mk8 (i : Nat) : Nat := 2 ^ (i % 8)
theorem mk8_lt (i : Nat) : mk8 i < 256 := by
  have : 2 ^ (i % 8) ≤ 2 ^ 7 := Nat.pow_le_pow_right (by omega) (by omega)
  unfold mk8; omega

/-- Bit i of bytes (false: there is none). -/
def getN (l : List Nat) (i : Nat) : Bool := (l.getD (i / 8) 0).testBit (i % 8)
def getI (l : List Nat) (i : Int) : Bool := decide (0 ≤ i) && getN l i.toNat

theorem and_mk8 (x j : Nat) (hx : x < 256) : (bits .and .u8 (x : Int) (mk8 j : Int) != 0) = x.testBit (j % 8) := by
  rw [u8_and_nat x (mk8 j) hx (mk8_lt j)]
  unfold mk8
  rw [nat_bit, Nat.testBit_eq_decide_div_mod_eq]
  have hp : 0 < 2 ^ (j % 8) := Nat.pow_pos (by omega)
  generalize 2 ^ (j % 8) = y at *
  rcases Nat.mod_two_eq_zero_or_one (x / y) with h | h
  · simp [h]
  · simp [h]
    omega

theorem getI_of (l : List Nat) (j x : Nat) (h : l[j / 8]? = some x) : getI l (j : Int) = x.testBit (j % 8) := by
  simp [getI, getN, h]
theorem getI_no (l : List Nat) (i : Int) (h : ¬ (0 ≤ i ∧ i / 8 < l.length)) : getI l i = false := by
  unfold getI getN
  by_cases hi : 0 ≤ i
  · have hn : ¬ i / 8 < l.length := fun hh => h ⟨hi, hh⟩
    have : l[i.toNat / 8]? = none := List.getElem?_eq_none (by omega)
    simp [this]
  · simp [hi]

/-- How many bits of bytes are 1. -/
def ones (l : List Nat) : Nat := (l.map Lib.onesCount).sum
theorem ones_snoc (l : List Nat) (x : Nat) : ones (l ++ [x]) = ones l + Lib.onesCount x := by simp [ones]
theorem popc_le (x : Nat) (h : x < 256) : Lib.onesCount x ≤ 8 := Lib.onesCount_le8 ⟨x, h⟩
theorem ones_le (l : List Nat) (h : ∀ x ∈ l, x < 256) : ones l ≤ 8 * l.length := by
  induction l with
  | nil => simp [ones]
  | cons a t ih =>
    have h1 := popc_le a (h a (by simp))
    have h2 := ih (fun x hx => h x (by simp [hx]))
    simp only [ones, List.map_cons, List.sum_cons, List.length_cons] at h2 ⊢
    omega
theorem take_snoc {α : Type} {l : List α} {k : Nat} {x : α} (h : l[k]? = some x) : l.take (k + 1) = l.take k ++ [x] := by
  rw [List.take_add_one, h]; rfl

/-- Bit i turned, where there is one. -/
def flip1 (l : List Nat) (i : Int) : List Nat := if 0 ≤ i ∧ i / 8 < l.length then l.set (i.toNat / 8) (l.getD (i.toNat / 8) 0 ^^^ mk8 i.toNat) else l
def flips (l : List Nat) (ps : List Int) : List Nat := ps.foldl flip1 l
theorem flip1_length (l : List Nat) (i : Int) : (flip1 l i).length = l.length := by unfold flip1; split <;> simp
theorem flips_length (l : List Nat) (ps : List Int) : (flips l ps).length = l.length := by
  unfold flips
  induction ps generalizing l with
  | nil => rfl
  | cons p t ih => rw [List.foldl_cons, ih, flip1_length]
theorem flips_snoc (l : List Nat) (ps : List Int) (p : Int) : flips l (ps ++ [p]) = flip1 (flips l ps) p := by simp [flips]
theorem xor_lt8 (x y : Nat) (hx : x < 256) (hy : y < 256) : x ^^^ y < 256 := Nat.xor_lt_two_pow (n := 8) hx hy
theorem flip1_lt (l : List Nat) (i : Int) (h : ∀ x ∈ l, x < 256) : ∀ x ∈ flip1 l i, x < 256 := by
  unfold flip1
  split
  · intro x hx
    rcases List.mem_or_eq_of_mem_set hx with h1 | h1
    · exact h x h1
    · subst h1
      refine xor_lt8 _ _ ?_ (mk8_lt _)
      rw [List.getD_eq_getElem?_getD]
      rcases e : l[i.toNat / 8]? with _ | y
      · simp
      · exact h y (List.mem_of_getElem? e)
  · exact h
theorem flips_lt (l : List Nat) (ps : List Int) (h : ∀ x ∈ l, x < 256) : ∀ x ∈ flips l ps, x < 256 := by
  unfold flips
  induction ps generalizing l with
  | nil => exact h
  | cons p t ih => rw [List.foldl_cons]; exact ih _ (flip1_lt l p h)
theorem flip1_yes (l : List Nat) (j y : Nat) (h : l[j / 8]? = some y) : flip1 l (j : Int) = l.set (j / 8) (y ^^^ mk8 j) := by
  have hl : j / 8 < l.length := (List.getElem?_eq_some_iff.1 h).1
  unfold flip1
  rw [if_pos ⟨by omega, by omega⟩]
  simp [h]
theorem flip1_no (l : List Nat) (i : Int) (h : ¬ (0 ≤ i ∧ i / 8 < l.length)) : flip1 l i = l := by unfold flip1; rw [if_neg h]

/-- What two lists of bytes have, the bytes that the shorter one lacks counting as 255. -/
def andL (a b : List Nat) : List Nat := (List.range (max a.length b.length)).map fun i => a.getD i 255 &&& b.getD i 255
/-- The same, as far as k bytes of the first. -/
def andTo (a b : List Nat) (k : Nat) : List Nat := (List.range a.length).map fun i => if i < k then a.getD i 255 &&& b.getD i 255 else a.getD i 255
theorem andL_length (a b : List Nat) : (andL a b).length = max a.length b.length := by simp [andL]
theorem andTo_length (a b : List Nat) (k : Nat) : (andTo a b k).length = a.length := by simp [andTo]
theorem andL_get (a b : List Nat) (i : Nat) : (andL a b)[i]? = if i < max a.length b.length then some (a.getD i 255 &&& b.getD i 255) else none := by
  unfold andL
  rw [List.getElem?_map]
  split
  · rename_i h; rw [List.getElem?_range h]; rfl
  · rename_i h; rw [List.getElem?_eq_none (by simp only [List.length_range]; omega)]; rfl
theorem andTo_get (a b : List Nat) (k i : Nat) : (andTo a b k)[i]? = if i < a.length then some (if i < k then a.getD i 255 &&& b.getD i 255 else a.getD i 255) else none := by
  unfold andTo
  rw [List.getElem?_map]
  split
  · rename_i h; rw [List.getElem?_range h]; rfl
  · rename_i h; rw [List.getElem?_eq_none (by simp only [List.length_range]; omega)]; rfl
theorem getD_some {l : List Nat} {i x d : Nat} (h : l[i]? = some x) : l.getD i d = x := by simp [h]
theorem getD_none {l : List Nat} {i d : Nat} (h : l.length ≤ i) : l.getD i d = d := by simp [List.getElem?_eq_none h]
theorem andTo_zero (a b : List Nat) : andTo a b 0 = a := by
  apply List.ext_getElem?
  intro i
  rw [andTo_get]
  split
  · rename_i h; simp [List.getElem?_eq_getElem h]
  · rename_i h; rw [List.getElem?_eq_none (by omega)]
theorem andTo_cell (a b : List Nat) (k x : Nat) (h : a[k]? = some x) : (andTo a b k)[k]? = some x := by
  have hl : k < a.length := (List.getElem?_eq_some_iff.1 h).1
  rw [andTo_get, if_pos hl, if_neg (by omega), getD_some h]
theorem andTo_succ (a b : List Nat) (k x y : Nat) (hx : a[k]? = some x) (hy : b[k]? = some y) : andTo a b (k + 1) = (andTo a b k).set k (x &&& y) := by
  have hl : k < a.length := (List.getElem?_eq_some_iff.1 hx).1
  apply List.ext_getElem?
  intro i
  rw [andTo_get, List.getElem?_set, andTo_length, andTo_get]
  by_cases hik : k = i
  · subst hik
    rw [if_pos hl, if_pos rfl, if_pos hl, if_pos (by omega), getD_some hx, getD_some hy]
  · rw [if_neg hik]
    split
    · congr 1
      by_cases h1 : i < k
      · rw [if_pos h1, if_pos (by omega)]
      · rw [if_neg h1, if_neg (by omega)]
    · rfl
theorem and_255 (x : Nat) (h : x < 256) : x &&& 255 = x := by rw [nat_mask8]; omega
theorem getD_lt {l : List Nat} (h : ∀ x ∈ l, x < 256) (i : Nat) : l.getD i 255 < 256 := by
  rw [List.getD_eq_getElem?_getD]
  rcases e : l[i]? with _ | y
  · simp
  · exact h y (List.mem_of_getElem? e)
theorem andTo_all (a b : List Nat) (ha : ∀ x ∈ a, x < 256) (hl : b.length ≤ a.length) : andTo a b b.length = andL a b := by
  apply List.ext_getElem?
  intro i
  rw [andTo_get, andL_get, Nat.max_eq_left hl]
  split
  · congr 1
    split
    · rfl
    · rw [getD_none (l := b) (by omega), and_255 _ (getD_lt ha i)]
  · rfl
theorem andL_comm (a b : List Nat) : andL a b = andL b a := by
  unfold andL
  rw [Nat.max_comm]
  apply List.map_congr_left
  intro i _
  exact Nat.and_comm _ _
theorem and_lt8 (x y : Nat) (hx : x < 256) : x &&& y < 256 := Nat.lt_of_le_of_lt Nat.and_le_left hx
theorem andL_lt (a b : List Nat) (ha : ∀ x ∈ a, x < 256) : ∀ x ∈ andL a b, x < 256 := by
  intro x hx
  simp only [andL, List.mem_map] at hx
  obtain ⟨i, _, rfl⟩ := hx
  exact and_lt8 _ _ (getD_lt ha i)
theorem andTo_lt (a b : List Nat) (k : Nat) (ha : ∀ x ∈ a, x < 256) : ∀ x ∈ andTo a b k, x < 256 := by
  intro x hx
  simp only [andTo, List.mem_map] at hx
  obtain ⟨i, _, rfl⟩ := hx
  split
  · exact and_lt8 _ _ (getD_lt ha i)
  · exact getD_lt ha i

/-- The places of a byte's bits that are 1, rising. -/
def bitsOf (z : Nat) : List Nat := (List.range 8).filter fun i => z.testBit i
theorem bitsOf_step_fin : ∀ z : Fin 256, z.val ≠ 0 → bitsOf z.val = Lib.trailingZeros8 z.val :: bitsOf (z.val &&& (z.val - 1)) := by decide +kernel
theorem bitsOf_step (z : Nat) (h : z < 256) (h0 : z ≠ 0) : bitsOf z = Lib.trailingZeros8 z :: bitsOf (z &&& (z - 1)) := bitsOf_step_fin ⟨z, h⟩ h0
theorem bitsOf_zero : bitsOf 0 = [] := by decide
theorem tz_le (z : Nat) (h : z < 256) : Lib.trailingZeros8 z ≤ 8 := Lib.trailingZeros8_le8 ⟨z, h⟩
theorem bitsOf_length (z : Nat) : (bitsOf z).length ≤ 8 := by
  have := List.length_filter_le (fun i => z.testBit i) (List.range 8)
  simpa [bitsOf] using this
/-- The n-th byte's places, as places of the whole. -/
def offs (n z : Nat) : List Int := (bitsOf z).map fun t => ((8 * n + t : Nat) : Int)
/-- Where two lists of bytes differ, as far as k bytes. -/
def diffTo (a b : List Nat) (k : Nat) : List Int := (List.range k).flatMap fun n => offs n (a.getD n 0 ^^^ b.getD n 0)
def diffL (a b : List Nat) : List Int := diffTo a b (min a.length b.length)
theorem diffTo_succ (a b : List Nat) (k x y : Nat) (hx : a[k]? = some x) (hy : b[k]? = some y) : diffTo a b (k + 1) = diffTo a b k ++ offs k (x ^^^ y) := by
  unfold diffTo
  rw [List.range_succ, List.flatMap_append]
  simp [hx, hy]
theorem offs_step (n z : Nat) (h : z < 256) (h0 : z ≠ 0) : offs n z = ((8 * n + Lib.trailingZeros8 z : Nat) : Int) :: offs n (z &&& (z - 1)) := by
  unfold offs
  rw [bitsOf_step z h h0]
  rfl
theorem offs_zero (n : Nat) : offs n 0 = [] := by unfold offs; rw [bitsOf_zero]; rfl
theorem offs_length (n z : Nat) : (offs n z).length ≤ 8 := by unfold offs; rw [List.length_map]; exact bitsOf_length z
theorem diffTo_length (a b : List Nat) (k : Nat) : (diffTo a b k).length ≤ 8 * k := by
  induction k with
  | zero => simp [diffTo]
  | succ k ih =>
    have h : diffTo a b (k + 1) = diffTo a b k ++ offs k (a.getD k 0 ^^^ b.getD k 0) := by
      unfold diffTo
      rw [List.range_succ, List.flatMap_append]
      simp
    rw [h, List.length_append]
    have := offs_length k (a.getD k 0 ^^^ b.getD k 0)
    omega
theorem and_pred_lt (z : Nat) (h0 : z ≠ 0) : z &&& (z - 1) < z := Nat.lt_of_le_of_lt Nat.and_le_right (by omega)
theorem u8_and_pred (z : Nat) (h : z < 256) (h0 : z ≠ 0) : bits .and .u8 (z : Int) ((z : Int) - 1) = ((z &&& (z - 1) : Nat) : Int) := by
  rw [show ((z : Int) - 1) = ((z - 1 : Nat) : Int) by omega]
  exact u8_and_nat z (z - 1) h (by omega)
theorem mem_offs (n z : Nat) (p : Int) : p ∈ offs n z ↔ ∃ t, t < 8 ∧ z.testBit t = true ∧ p = ((8 * n + t : Nat) : Int) := by
  simp only [offs, bitsOf, List.mem_map, List.mem_filter, List.mem_range]
  constructor
  · rintro ⟨t, ⟨h1, h2⟩, rfl⟩; exact ⟨t, h1, h2, rfl⟩
  · rintro ⟨t, h1, h2, rfl⟩; exact ⟨t, ⟨h1, h2⟩, rfl⟩
theorem mem_diffTo (a b : List Nat) (k : Nat) (p : Int) : p ∈ diffTo a b k ↔ ∃ i, i < 8 * k ∧ p = (i : Nat) ∧ (getN a i != getN b i) = true := by
  simp only [diffTo, List.mem_flatMap, List.mem_range, mem_offs]
  constructor
  · rintro ⟨n, hn, t, ht, hb, rfl⟩
    refine ⟨8 * n + t, by omega, rfl, ?_⟩
    rw [Nat.testBit_xor] at hb
    unfold getN
    rw [show (8 * n + t) / 8 = n by omega, show (8 * n + t) % 8 = t by omega]
    simpa using hb
  · rintro ⟨i, hi, rfl, hb⟩
    refine ⟨i / 8, by omega, i % 8, by omega, ?_, by congr 1; omega⟩
    rw [Nat.testBit_xor]
    unfold getN at hb
    simpa using hb
end Go.Proofs.Ytimphjgjcnbmnaa
