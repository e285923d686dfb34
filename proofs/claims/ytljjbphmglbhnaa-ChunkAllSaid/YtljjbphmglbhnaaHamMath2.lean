/-
  Plain facts on check words, of no program: what a word indicates hangs on what was turned alone; one bit is found, two are told; words of different bytes are four bits apart.
-/
import Derived.Test.YtljjbphmglbhnaaHamMath
namespace Go.Proofs.Ytljjbphmglbhnaa

/-- How many bits are 1. -/
def pop (n : Nat) : Nat := Lib.popAux 64 n
theorem popA_succ (f n : Nat) : Lib.popAux (f + 1) n = n % 2 + Lib.popAux f (n / 2) := rfl
theorem hx_mod2 (a b : Nat) : (a ^^^ b) % 2 = (a % 2 + b % 2) % 2 := by
  have h := Nat.xor_mod_two_pow (a := a) (b := b) (n := 1)
  rw [Nat.pow_one] at h
  rw [h]
  rcases Nat.mod_two_eq_zero_or_one a with ha | ha <;> rcases Nat.mod_two_eq_zero_or_one b with hb | hb <;> rw [ha, hb] <;> decide
theorem hx_div2 (a b : Nat) : (a ^^^ b) / 2 = (a / 2) ^^^ (b / 2) := by
  have h := Nat.xor_div_two_pow (a := a) (b := b) (n := 1)
  simpa using h
theorem popA_xor (f : Nat) : ∀ a b : Nat, Lib.popAux f (a ^^^ b) % 2 = (Lib.popAux f a + Lib.popAux f b) % 2 := by
  induction f with
  | zero => intro a b; rfl
  | succ f ih =>
    intro a b
    rw [popA_succ, popA_succ, popA_succ, hx_div2, hx_mod2]
    have := ih (a / 2) (b / 2)
    omega
theorem pop_xor (a b : Nat) : pop (a ^^^ b) % 2 = (pop a + pop b) % 2 := popA_xor 64 a b
theorem popA_zero (f : Nat) : Lib.popAux f 0 = 0 := by
  induction f with
  | zero => rfl
  | succ f ih => rw [popA_succ, ih]
theorem popA_pos (f : Nat) : ∀ n : Nat, n ≠ 0 → n < 2 ^ f → 1 ≤ Lib.popAux f n := by
  induction f with
  | zero => intro n h1 h2; simp at h2; omega
  | succ f ih =>
    intro n h1 h2
    rw [popA_succ]
    rw [Nat.pow_succ] at h2
    by_cases h : n % 2 = 1
    · omega
    · have := ih (n / 2) (by omega) (by omega)
      omega
theorem popA_two (f : Nat) : ∀ n : Nat, n ≠ 0 → powB n = false → n < 2 ^ f → 2 ≤ Lib.popAux f n := by
  induction f with
  | zero => intro n h1 _ h2; simp at h2; omega
  | succ f ih =>
    intro n h1 hp h2
    rw [popA_succ]
    rw [Nat.pow_succ] at h2
    by_cases h : n % 2 = 1
    · rw [powB_odd n h] at hp
      have hn : n ≠ 1 := of_decide_eq_false hp
      have := popA_pos f (n / 2) (by omega) (by omega)
      omega
    · rw [powB_even n (by omega) (by omega)] at hp
      have := ih (n / 2) (by omega) hp (by omega)
      omega
theorem popA_split (i : Nat) : ∀ f n : Nat, i ≤ f → Lib.popAux f n = Lib.popAux f (n % 2 ^ i) + Lib.popAux (f - i) (n / 2 ^ i) := by
  induction i with
  | zero => intro f n _; simp [Nat.mod_one, popA_zero]
  | succ i ih =>
    intro f n hf
    obtain ⟨f, rfl⟩ : ∃ g, f = g + 1 := ⟨f - 1, by omega⟩
    rw [popA_succ, popA_succ, ih f (n / 2) (by omega)]
    have e1 : n % 2 ^ (i + 1) % 2 = n % 2 := by
      rw [Nat.pow_succ, Nat.mul_comm]
      exact Nat.mod_mul_right_mod n 2 (2 ^ i)
    have e2 : n % 2 ^ (i + 1) / 2 = n / 2 % 2 ^ i := by
      rw [Nat.pow_succ, Nat.mul_comm, Nat.mod_mul_right_div_self]
    have e3 : n / 2 ^ (i + 1) = n / 2 / 2 ^ i := by rw [Nat.pow_succ, Nat.mul_comm, Nat.div_div_eq_div_mul]
    have e4 : f + 1 - (i + 1) = f - i := by omega
    rw [e1, e2, e3, e4]
    omega
theorem pop_13 (x r : Nat) (hx : x < 8192) (hr : r < 2) : pop (x + 8192 * r) = pop x + r := by
  unfold pop
  rw [popA_split 13 64 _ (by omega)]
  have e1 : (x + 8192 * r) % 2 ^ 13 = x := by omega
  have e2 : (x + 8192 * r) / 2 ^ 13 = r := by omega
  rw [e1, e2]
  have h : r = 0 ∨ r = 1 := by omega
  rcases h with rfl | rfl
  · rw [popA_zero]
  · have : Lib.popAux (64 - 13) 1 = 1 := by decide +kernel
    rw [this]
theorem pop_small_fin : ∀ i : Fin 16, pop (2 ^ i.val) = 1 := by decide +kernel
theorem pop_pow (i : Nat) (h : i < 16) : pop (2 ^ i) = 1 := pop_small_fin ⟨i, h⟩

/-- The bits of bytes, from 0 on. -/
def xL (l : List Nat) : Nat := gx (getN l) (8 * l.length)
def nL (l : List Nat) : Nat := gn (getN l) (8 * l.length)
/-- The check word. -/
def wordL (l : List Nat) : Nat := xL l + 8192 * ((nL l + pop (xL l)) % 2) + 49152
/-- What a difference and a parity indicate, for n bits of data: the state, the bit. -/
def verdict (n diff : Nat) (odd : Bool) : Nat × Nat :=
  if odd then (if diff = 0 ∨ powB diff = true then (2, 0) else if diff - 2 - diff.log2 < n then (1, diff - 2 - diff.log2) else (3, 0)) else if diff = 0 then (0, 0) else (3, 0)
def judgeL (l : List Nat) (w : Nat) : Nat × Nat := verdict (8 * l.length) (xL l ^^^ (w % 8192)) (decide ((nL l + pop (w % 16384)) % 2 = 1))

theorem xL_lt (l : List Nat) (h : l.length ≤ 512) : xL l < 8192 := gx_lt _ _ (by omega)
theorem wordL_parts (l : List Nat) (h : l.length ≤ 512) : wordL l % 8192 = xL l ∧ wordL l % 16384 = xL l + 8192 * ((nL l + pop (xL l)) % 2) ∧ wordL l < 65536 ∧ wordL l / 16384 = 3 := by
  have := xL_lt l h
  unfold wordL
  omega
theorem xor_mod13 (a b : Nat) : (a ^^^ b) % 8192 = a % 8192 ^^^ b % 8192 := Nat.xor_mod_two_pow (n := 13)
theorem xor_mod14 (a b : Nat) : (a ^^^ b) % 16384 = a % 16384 ^^^ b % 16384 := Nat.xor_mod_two_pow (n := 14)
/-- The syndrome: what a word indicates of bytes and a word that were turned hangs on what was turned alone. -/
theorem judge_turned (l l' : List Nat) (f : Nat → Bool) (m : Nat) (h : l.length ≤ 512) (hl : l'.length = l.length) (hf : ∀ i, i < 8 * l.length → getN l' i = (getN l i ^^ f i)) :
    judgeL l' (wordL l ^^^ m) = verdict (8 * l.length) (gx f (8 * l.length) ^^^ (m % 8192)) (decide ((gn f (8 * l.length) + pop (m % 16384)) % 2 = 1)) := by
  obtain ⟨h1, h2, _, _⟩ := wordL_parts l h
  have e1 : xL l' = xL l ^^^ gx f (8 * l.length) := by
    unfold xL
    rw [hl, gx_congr hf, gx_xor]
  have e2 : nL l' % 2 = (nL l + gn f (8 * l.length)) % 2 := by
    unfold nL
    rw [hl, gn_congr hf, gn_xor]
  have e3 : (wordL l ^^^ m) % 8192 = xL l ^^^ (m % 8192) := by rw [xor_mod13, h1]
  have e4 : (wordL l ^^^ m) % 16384 = (wordL l % 16384) ^^^ (m % 16384) := xor_mod14 _ _
  have e5 : pop (wordL l % 16384) = pop (xL l) + (nL l + pop (xL l)) % 2 := by rw [h2]; exact pop_13 _ _ (xL_lt l h) (by omega)
  have e6 := pop_xor (wordL l % 16384) (m % 16384)
  have e7 : xL l ^^^ gx f (8 * l.length) ^^^ (xL l ^^^ m % 8192) = gx f (8 * l.length) ^^^ (m % 8192) := by rw [xor_swap, Nat.xor_self, Nat.zero_xor]
  have e8 : (nL l' + pop ((wordL l ^^^ m) % 16384)) % 2 = (gn f (8 * l.length) + pop (m % 16384)) % 2 := by
    rw [e4]
    generalize pop (wordL l % 16384 ^^^ m % 16384) = A at *
    generalize pop (wordL l % 16384) = B at *
    generalize pop (xL l) = C at *
    generalize pop (m % 16384) = D at *
    generalize gn f (8 * l.length) = E at *
    clear h1 h2 hf e1 e3 e4 e7
    omega
  show verdict (8 * l'.length) (xL l' ^^^ ((wordL l ^^^ m) % 8192)) (decide ((nL l' + pop ((wordL l ^^^ m) % 16384)) % 2 = 1)) = _
  rw [hl, e1, e3, e7, e8]

theorem verdict_clean (n : Nat) : verdict n 0 false = (0, 0) := by simp [verdict]
theorem verdict_bit (n k : Nat) (h : k < n) : verdict n (place k) true = (1, k) := by
  have h1 := place_not k
  have h2 := place_ge k
  have h3 : place k - 2 - (place k).log2 = k := by have := place_form k; omega
  unfold verdict
  rw [if_pos rfl, if_neg (by rw [h1]; simp; omega), h3, if_pos h]
theorem verdict_pow (n i : Nat) : verdict n (2 ^ i) true = (2, 0) := by
  unfold verdict
  rw [if_pos rfl, if_pos (Or.inr (powB_pow i))]
theorem verdict_zero (n : Nat) : verdict n 0 true = (2, 0) := by simp [verdict]
theorem verdict_broken (n d : Nat) (h : d ≠ 0) : verdict n d false = (3, 0) := by simp [verdict, h]

theorem judge_own (l : List Nat) (h : l.length ≤ 512) : judgeL l (wordL l) = (0, 0) := by
  have := judge_turned l l (fun _ => false) 0 h rfl (fun i _ => by simp)
  have e1 : gx (fun _ => false) (8 * l.length) = 0 := by
    generalize 8 * l.length = k
    induction k with
    | zero => rfl
    | succ k ih => rw [gx_succ]; simpa using ih
  have e2 : gn (fun _ => false) (8 * l.length) = 0 := by
    generalize 8 * l.length = k
    induction k with
    | zero => rfl
    | succ k ih => rw [gn_succ]; simpa using ih
  rw [e1, e2] at this
  simpa [verdict_clean, pop, popA_zero] using this
end Go.Proofs.Ytljjbphmglbhnaa
