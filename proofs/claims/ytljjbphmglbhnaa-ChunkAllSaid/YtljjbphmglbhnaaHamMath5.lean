/-
  Plain facts for the landed loops over positions, of no program: a number and the one before it, climbing past powers of two, lengths in bits, ones in bytes, a byte's bits.
-/
import Derived.Test.YtljjbphmglbhnaaHamMath4
import Derived.Test.YtljjbphmglbhnaaMath3
namespace Go.Proofs.Ytljjbphmglbhnaa

theorem and_pred (n : Nat) (h : 1 ≤ n) : n &&& (n - 1) = 0 ↔ powB n = true := by
  induction n using Nat.strongRecOn with
  | _ n ih =>
    have hd : (n &&& (n - 1)) / 2 = (n / 2) &&& ((n - 1) / 2) := by
      have := Nat.and_div_two_pow (a := n) (b := n - 1) (n := 1)
      simpa using this
    have hm : (n &&& (n - 1)) % 2 = (n % 2) &&& ((n - 1) % 2) := by
      have := Nat.and_mod_two_pow (a := n) (b := n - 1) (n := 1)
      simpa using this
    rcases Nat.mod_two_eq_zero_or_one n with h2 | h2
    · have e1 : (n - 1) % 2 = 1 := by omega
      have e2 : (n - 1) / 2 = n / 2 - 1 := by omega
      have i := ih (n / 2) (by omega) (by omega)
      rw [powB_even n (by omega) h2, ← i]
      rw [h2, e1] at hm
      rw [e2] at hd
      have hm2 : (n &&& (n - 1)) % 2 = 0 := hm
      generalize n &&& (n - 1) = A at *
      generalize n / 2 &&& n / 2 - 1 = B at *
      omega
    · have e1 : (n - 1) % 2 = 0 := by omega
      have e2 : (n - 1) / 2 = n / 2 := by omega
      rw [powB_odd n h2, decide_eq_true_eq]
      rw [h2, e1] at hm
      rw [e2, Nat.and_self] at hd
      have hm2 : (n &&& (n - 1)) % 2 = 0 := hm
      generalize n &&& (n - 1) = A at *
      omega
theorem and_pred_b (n : Nat) (h : 1 ≤ n) : (((n &&& (n - 1) : Nat) : Int) == 0) = powB n := by
  rw [Bool.eq_iff_iff, beq_iff_eq, ← and_pred n h]
  omega

/-- Climbing past the powers of two. -/
theorem place_climb (k j : Nat) (h1 : 2 ^ (j + 1) < 3 + k + j) (h2 : 3 + k + j < 2 ^ (j + 2)) : place k = 3 + k + j := by
  have hlog : (3 + k + j).log2 = j + 1 := by
    rw [Nat.log2_eq_iff (by omega)]
    exact ⟨by omega, h2⟩
  have hp : powB (3 + k + j) = false := by
    cases hb : powB (3 + k + j)
    · rfl
    · unfold powB at hb
      have := of_decide_eq_true hb
      rw [hlog] at this
      omega
  obtain ⟨k', e1, e2⟩ := place_of (3 + k + j) (by omega) hp
  rw [hlog] at e2
  obtain rfl : k' = k := by omega
  exact e1

theorem bitLen_log (n : Nat) (h : 1 ≤ n) (h2 : n < 2 ^ 64) : Lib.bitLen n = n.log2 + 1 := by
  induction n using Nat.strongRecOn with
  | _ n ih =>
    rw [Lib.bitLen_half n (by omega) h2]
    rcases Nat.lt_or_ge n 2 with h3 | h3
    · obtain rfl : n = 1 := by omega
      decide
    · rw [ih (n / 2) (by omega) (by omega) (by omega)]
      have : n.log2 = (n / 2).log2 + 1 := by rw [Nat.log2_def, if_pos h3]
      omega

/-- Ones. -/
theorem gn_sum (f : Nat → Bool) (k : Nat) : (gn f k : Int) + ((List.range k).map fun i => 1 - bi (f i)).sum = k := by
  induction k with
  | zero => rfl
  | succ k ih =>
    rw [gn_succ, List.range_succ, List.map_append, List.sum_append]
    have e : ([k].map fun i => 1 - bi (f i)).sum = 1 - bi (f k) := by simp
    rw [e]
    generalize ((List.range k).map fun i => 1 - bi (f i)).sum = S at *
    cases f k
    · simp only [bi, Bool.false_eq_true, if_false]; omega
    · simp only [bi, if_true]; omega
theorem nL_ones (l : List Nat) (h : ∀ x ∈ l, x < 256) : nL l = ones l := by
  have h1 := gn_sum (getN l) (8 * l.length)
  have h2 := zB_eq l h
  rw [h2] at h1
  have h3 := ones_le l h
  unfold nL
  omega

/-- The bits of one byte. -/
theorem gx_bit (l : List Nat) (k x t : Nat) (h : l[k]? = some x) (ht : t < 8) : gx (getN l) (8 * k + (t + 1)) = if x.testBit t then gx (getN l) (8 * k + t) ^^^ place (8 * k + t) else gx (getN l) (8 * k + t) := by
  rw [← Nat.add_assoc, gx_succ, getN_of l (8 * k + t) x (by rw [show (8 * k + t) / 8 = k by omega]; exact h), show (8 * k + t) % 8 = t by omega]
theorem gx_zero8 (l : List Nat) (k : Nat) (h : l[k]? = some 0) : gx (getN l) (8 * (k + 1)) = gx (getN l) (8 * k) := by
  have key : ∀ t, t ≤ 8 → gx (getN l) (8 * k + t) = gx (getN l) (8 * k) := by
    intro t
    induction t with
    | zero => intro _; rfl
    | succ t ih =>
      intro ht
      rw [gx_bit l k 0 t h (by omega), Nat.zero_testBit]
      simpa using ih (by omega)
  exact key 8 (by omega)
theorem bit_shift (x t : Nat) : (x / 2 ^ t) &&& 1 = if x.testBit t then 1 else 0 := by
  rw [Nat.and_one_is_mod, Nat.testBit_eq_decide_div_mod_eq]
  have := Nat.mod_two_eq_zero_or_one (x / 2 ^ t)
  rcases this with h | h <;> rw [h] <;> simp

/-- The sixteen bits of a word. -/
theorem and_8191 (w : Nat) : w &&& 8191 = w % 8192 := Nat.and_two_pow_sub_one_eq_mod w 13
theorem and_16383 (w : Nat) : w &&& 16383 = w % 16384 := Nat.and_two_pow_sub_one_eq_mod w 14
theorem or_8192 (x : Nat) (h : x < 8192) : x ||| 8192 = x + 8192 := by
  rw [Nat.or_comm]
  have := Nat.two_pow_add_eq_or_of_lt (i := 13) (b := x) h 1
  rw [Nat.mul_one] at this
  rw [show (8192 : Nat) = 2 ^ 13 from rfl, ← this]
  omega
theorem or_49152 (x : Nat) (h : x < 16384) : x ||| 49152 = x + 49152 := by
  rw [Nat.or_comm]
  have := Nat.two_pow_add_eq_or_of_lt (i := 14) (b := x) h 3
  rw [show (49152 : Nat) = 2 ^ 14 * 3 from rfl, ← this]
  omega
/-- How many places at which two texts differ. -/
theorem diff_gn (a b : List Nat) (k : Nat) : (((List.range k).filter fun i => getN a i != getN b i).length) = gn (fun i => getN a i ^^ getN b i) k := by
  induction k with
  | zero => rfl
  | succ k ih =>
    rw [List.range_succ, List.filter_append, List.length_append, ih, gn_succ]
    generalize gn (fun i => getN a i ^^ getN b i) k = G
    cases h1 : getN a k <;> cases h2 : getN b k <;> simp [h1, h2]
theorem diffL_gn (a b : List Nat) (h : b.length = a.length) : (diffL a b).length = gn (fun i => getN a i ^^ getN b i) (8 * a.length) := by
  unfold diffL
  rw [h, Nat.min_self, diffTo_eq, List.length_map, diff_gn]
end Go.Proofs.Ytljjbphmglbhnaa
