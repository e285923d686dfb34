/-
  Plain facts on check words, of no program: one bit turned is found, two are told; words of different bytes are four bits apart.
-/
import Derived.Test.YtljjbphmglbhnaaHamMath2
namespace Go.Proofs.Ytljjbphmglbhnaa

def none_ : Nat → Bool := fun _ => false
theorem gx_none (k : Nat) : gx none_ k = 0 := by
  induction k with
  | zero => rfl
  | succ k ih => rw [gx_succ]; simpa [none_] using ih
theorem gn_none (k : Nat) : gn none_ k = 0 := by
  induction k with
  | zero => rfl
  | succ k ih => rw [gn_succ]; simpa [none_] using ih
theorem pop_zero : pop 0 = 0 := popA_zero 64

/-- One bit of the bytes. -/
theorem flip_bits (l : List Nat) (k : Nat) : ∀ i, i < 8 * l.length → getN (flip1 l (k : Int)) i = (getN l i ^^ decide (i = k)) := by
  intro i hi
  rw [getN_flip1 l _ i hi]
  congr 1
  rw [decide_eq_decide]
  omega
theorem judge_flip (l : List Nat) (k : Nat) (h : l.length ≤ 512) (hk : k < 8 * l.length) : judgeL (flip1 l (k : Int)) (wordL l) = (1, k) := by
  have e := judge_turned l (flip1 l (k : Int)) (fun i => decide (i = k)) 0 h (flip1_length _ _) (flip_bits l k)
  rw [Nat.xor_zero, gx_one, gn_one, if_pos hk, if_pos hk, Nat.zero_mod, Nat.xor_zero, pop_zero] at e
  rw [e]
  exact verdict_bit _ _ hk
/-- One bit of the word. -/
theorem pow_mod13 (i : Nat) (h : i < 13) : 2 ^ i % 8192 = 2 ^ i := Nat.mod_eq_of_lt (by
  have : 2 ^ i < 2 ^ 13 := Nat.pow_lt_pow_right (by omega) h
  omega)
theorem pow_mod14 (i : Nat) (h : i < 14) : 2 ^ i % 16384 = 2 ^ i := Nat.mod_eq_of_lt (by
  have : 2 ^ i < 2 ^ 14 := Nat.pow_lt_pow_right (by omega) h
  omega)
theorem judge_wbit (l : List Nat) (i : Nat) (h : l.length ≤ 512) (hi : i < 14) : judgeL l (wordL l ^^^ 2 ^ i) = (2, 0) := by
  have e := judge_turned l l none_ (2 ^ i) h rfl (fun j _ => by simp [none_])
  rw [gx_none, gn_none, Nat.zero_xor, pow_mod14 i hi, pop_pow i (by omega)] at e
  rw [e]
  rcases Nat.lt_or_ge i 13 with h1 | h1
  · rw [pow_mod13 i h1]
    exact verdict_pow _ _
  · obtain rfl : i = 13 := by omega
    exact verdict_zero _
theorem judge_wtop (l : List Nat) (i : Nat) (h : l.length ≤ 512) (hi : i = 14 ∨ i = 15) : judgeL l (wordL l ^^^ 2 ^ i) = (0, 0) := by
  have e := judge_turned l l none_ (2 ^ i) h rfl (fun j _ => by simp [none_])
  rw [gx_none, gn_none, Nat.zero_xor] at e
  rw [e]
  rcases hi with rfl | rfl
  · exact verdict_clean _
  · exact verdict_clean _

/-- Two bits. -/
theorem place_ne_pow (k i : Nat) : place k ≠ 2 ^ i := by
  intro h
  have h1 := place_not k
  rw [h, powB_pow] at h1
  cases h1
theorem xor_ne {a b : Nat} (h : a ≠ b) : a ^^^ b ≠ 0 := by
  intro h1
  apply h
  have h2 : (a ^^^ b) ^^^ b = 0 ^^^ b := by rw [h1]
  rwa [Nat.xor_assoc, Nat.xor_self, Nat.xor_zero, Nat.zero_xor] at h2
theorem judge_two (l : List Nat) (i k : Nat) (h : l.length ≤ 512) (hi : i < 8 * l.length) (hk : k < 8 * l.length) (hne : i ≠ k) : judgeL (flip1 (flip1 l (i : Int)) (k : Int)) (wordL l) = (3, 0) := by
  have e := judge_turned l (flip1 (flip1 l (i : Int)) (k : Int)) (fun j => decide (j = i) ^^ decide (j = k)) 0 h (by rw [flip1_length, flip1_length]) (fun j hj => by
    rw [flip_bits _ _ j (by rw [flip1_length]; exact hj), flip_bits _ _ j hj, Bool.xor_assoc])
  have e2 := gn_xor (fun j => decide (j = i)) (fun j => decide (j = k)) (8 * l.length)
  rw [gn_one, gn_one, if_pos hi, if_pos hk] at e2
  rw [Nat.xor_zero, gx_xor, gx_one, gx_one, if_pos hi, if_pos hk, Nat.zero_mod, Nat.xor_zero, pop_zero, Nat.add_zero, e2] at e
  rw [e]
  exact verdict_broken _ _ (xor_ne fun h1 => hne (place_inj h1))
theorem judge_mixed (l : List Nat) (i k : Nat) (h : l.length ≤ 512) (hi : i < 8 * l.length) (hk : k < 14) : judgeL (flip1 l (i : Int)) (wordL l ^^^ 2 ^ k) = (3, 0) := by
  have e := judge_turned l (flip1 l (i : Int)) (fun j => decide (j = i)) (2 ^ k) h (flip1_length _ _) (flip_bits l i)
  rw [gx_one, gn_one, if_pos hi, if_pos hi, pow_mod14 k hk, pop_pow k (by omega)] at e
  rw [e]
  refine verdict_broken _ _ ?_
  rcases Nat.lt_or_ge k 13 with h1 | h1
  · rw [pow_mod13 k h1]
    exact xor_ne (place_ne_pow i k)
  · obtain rfl : k = 13 := by omega
    have := place_ge i
    show place i ^^^ 0 ≠ 0
    rw [Nat.xor_zero]
    omega
theorem judge_words (l : List Nat) (i k : Nat) (h : l.length ≤ 512) (hi : i < 14) (hk : k < 14) (hne : i ≠ k) : judgeL l (wordL l ^^^ 2 ^ i ^^^ 2 ^ k) = (3, 0) := by
  have e := judge_turned l l none_ (2 ^ i ^^^ 2 ^ k) h rfl (fun j _ => by simp [none_])
  have e2 := pop_xor (2 ^ i) (2 ^ k)
  rw [pop_pow i (by omega), pop_pow k (by omega)] at e2
  rw [gx_none, gn_none, Nat.zero_xor, Nat.zero_add, xor_mod14, pow_mod14 i hi, pow_mod14 k hk, e2, ← Nat.xor_assoc] at e
  rw [e]
  refine verdict_broken _ _ ?_
  rw [xor_mod13]
  apply xor_ne
  intro h1
  apply hne
  rcases Nat.lt_or_ge i 13 with h2 | h2 <;> rcases Nat.lt_or_ge k 13 with h3 | h3
  · rw [pow_mod13 i h2, pow_mod13 k h3] at h1
    have h4 := congrArg Nat.log2 h1
    rwa [Nat.log2_two_pow, Nat.log2_two_pow] at h4
  · obtain rfl : k = 13 := by omega
    rw [pow_mod13 i h2] at h1
    have := Nat.two_pow_pos i
    have e3 : 2 ^ 13 % 8192 = 0 := by decide
    omega
  · obtain rfl : i = 13 := by omega
    rw [pow_mod13 k h3] at h1
    have := Nat.two_pow_pos k
    have e3 : 2 ^ 13 % 8192 = 0 := by decide
    omega
  · omega

/-- Words of different bytes. -/
theorem gx_of_one (f : Nat → Bool) (k : Nat) (h : gn f k = 0) : gx f k = 0 := by
  induction k with
  | zero => rfl
  | succ k ih =>
    rw [gn_succ] at h
    rw [gx_succ]
    cases hf : f k
    · rw [hf] at h; simpa using ih (by simpa using h)
    · rw [hf] at h; simp at h
theorem gx_single (f : Nat → Bool) (k : Nat) (h : gn f k = 1) : ∃ j, j < k ∧ gx f k = place j := by
  induction k with
  | zero => simp [gn] at h
  | succ k ih =>
    rw [gn_succ] at h
    rw [gx_succ]
    cases hf : f k
    · rw [hf] at h
      obtain ⟨j, h1, h2⟩ := ih (by simpa using h)
      exact ⟨j, by omega, by simpa using h2⟩
    · rw [hf] at h
      have h0 : gn f k = 0 := by simpa using h
      exact ⟨k, by omega, by simp [gx_of_one f k h0]⟩
theorem gx_double (f : Nat → Bool) (k : Nat) (h : gn f k = 2) : gx f k ≠ 0 := by
  induction k with
  | zero => simp [gn] at h
  | succ k ih =>
    rw [gn_succ] at h
    rw [gx_succ]
    cases hf : f k
    · rw [hf] at h
      simpa using ih (by simpa using h)
    · rw [hf] at h
      have h0 : gn f k = 1 := by simpa using h
      obtain ⟨j, h1, h2⟩ := gx_single f k h0
      simp only [if_true, h2]
      exact xor_ne fun h3 => by have := place_inj h3; omega
theorem apart (a b : List Nat) (h : a.length ≤ 512) (hl : b.length = a.length) (d : Nat) (hd : d = gn (fun i => getN a i ^^ getN b i) (8 * a.length)) (h0 : d ≠ 0) : 4 ≤ d + pop (wordL a ^^^ wordL b) := by
  obtain ⟨a1, a2, a3, a4⟩ := wordL_parts a h
  obtain ⟨b1, b2, b3, b4⟩ := wordL_parts b (by omega)
  have hx : (wordL a ^^^ wordL b) % 8192 = gx (fun i => getN a i ^^ getN b i) (8 * a.length) := by
    rw [xor_mod13, a1, b1, gx_xor]
    unfold xL
    rw [hl]
  have hn := gn_xor (getN a) (getN b) (8 * a.length)
  have hlt : (wordL a ^^^ wordL b) < 65536 := Nat.xor_lt_two_pow (n := 16) a3 b3
  have htop : (wordL a ^^^ wordL b) / 16384 = 0 := by
    have e := Nat.xor_div_two_pow (a := wordL a) (b := wordL b) (n := 14)
    have e2 : (wordL a ^^^ wordL b) / 16384 = wordL a / 16384 ^^^ wordL b / 16384 := e
    rw [e2, a4, b4]
    decide
  -- the number of ones is even
  have pa : pop (wordL a % 16384) = pop (xL a) + (nL a + pop (xL a)) % 2 := by rw [a2]; exact pop_13 _ _ (xL_lt a h) (by omega)
  have pb : pop (wordL b % 16384) = pop (xL b) + (nL b + pop (xL b)) % 2 := by rw [b2]; exact pop_13 _ _ (xL_lt b (by omega)) (by omega)
  have hm : (wordL a ^^^ wordL b) % 16384 = wordL a ^^^ wordL b := by omega
  have hp := pop_xor (wordL a % 16384) (wordL b % 16384)
  rw [← xor_mod14, hm] at hp
  have hna : nL a = gn (getN a) (8 * a.length) := rfl
  have hnb : nL b = gn (getN b) (8 * a.length) := by unfold nL; rw [hl]
  have heven : (d + pop (wordL a ^^^ wordL b)) % 2 = 0 := by
    rw [hd]
    generalize pop (wordL a ^^^ wordL b) = A at *
    generalize pop (wordL a % 16384) = A1 at *
    generalize pop (wordL b % 16384) = B1 at *
    generalize pop (xL a) = C at *
    generalize pop (xL b) = D at *
    generalize gn (fun i => getN a i ^^ getN b i) (8 * a.length) = E at *
    clear a1 a2 a3 a4 b1 b2 b3 b4 hx hlt htop hm
    omega
  -- the low thirteen bits
  have hlow : pop ((wordL a ^^^ wordL b) % 8192) ≤ pop (wordL a ^^^ wordL b) := by
    unfold pop
    rw [popA_split 13 64 (wordL a ^^^ wordL b) (by omega)]
    exact Nat.le_add_right _ _
  rcases Nat.lt_or_ge d 4 with h4 | h4
  · have h5 : d = 1 ∨ d = 2 ∨ d = 3 := by omega
    rcases h5 with h5 | h5 | h5
    · obtain ⟨j, h6, h7⟩ := gx_single _ _ (hd.symm.trans h5)
      rw [h7] at hx
      have h8 := popA_two 64 (place j) (by have := place_ge j; omega) (place_not j) (by have := place_lt13 j (by omega); omega)
      rw [hx] at hlow
      unfold pop at hlow heven ⊢
      omega
    · have h6 := gx_double _ _ (hd.symm.trans h5)
      rw [← hx] at h6
      have h8 := popA_pos 64 ((wordL a ^^^ wordL b) % 8192) h6 (by omega)
      unfold pop at hlow heven ⊢
      omega
    · omega
  · omega
theorem popA_any : ∀ f g n : Nat, n < 2 ^ f → n < 2 ^ g → Lib.popAux f n = Lib.popAux g n := by
  intro f
  induction f with
  | zero => intro g n h1 _; simp at h1; subst h1; rw [popA_zero, popA_zero]
  | succ f ih =>
    intro g n h1 h2
    rcases g with _ | g
    · simp at h2; subst h2; rw [popA_zero, popA_zero]
    · rw [popA_succ, popA_succ, ih g (n / 2) (by rw [Nat.pow_succ] at h1; omega) (by rw [Nat.pow_succ] at h2; omega)]
theorem pop_bytes (w : Nat) (h : w < 65536) : Lib.onesCount (w % 256) + Lib.onesCount (w / 256 % 256) = pop w := by
  have h1 : pop w = Lib.popAux 64 (w % 256) + Lib.popAux (64 - 8) (w / 256) := popA_split 8 64 w (by omega)
  have h2 : Lib.popAux 64 (w / 256 % 256) = Lib.popAux (64 - 8) (w / 256) := by
    rw [Nat.mod_eq_of_lt (show w / 256 < 256 by omega)]
    exact popA_any _ _ _ (Nat.lt_of_lt_of_le (show w / 256 < 2 ^ 8 by omega) (Nat.pow_le_pow_right (by omega) (by omega))) (Nat.lt_of_lt_of_le (show w / 256 < 2 ^ 8 by omega) (Nat.pow_le_pow_right (by omega) (by omega)))
  rw [h1, ← h2]
  rfl
end Go.Proofs.Ytljjbphmglbhnaa
