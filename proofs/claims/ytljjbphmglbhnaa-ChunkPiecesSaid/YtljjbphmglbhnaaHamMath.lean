/-
  Plain facts on positions and check words, of no program: powers of two, the k-th number from 3 on that is none, the exclusive or of the positions of the bits that are 1, how many bits are 1.
-/
import Derived.Test.YtljjbphmglbhnaaMath2
namespace Go.Proofs.Ytljjbphmglbhnaa

/-- A power of two. -/
def powB (n : Nat) : Bool := decide (n = 2 ^ n.log2)
theorem powB_iff (n : Nat) : powB n = true ↔ ∃ i, n = 2 ^ i := by
  unfold powB
  rw [decide_eq_true_eq]
  constructor
  · exact fun h => ⟨_, h⟩
  · rintro ⟨i, rfl⟩
    rw [Nat.log2_two_pow]
theorem powB_pow (i : Nat) : powB (2 ^ i) = true := (powB_iff _).2 ⟨i, rfl⟩
theorem powB_zero : powB 0 = false := by decide
theorem powB_odd (n : Nat) (h : n % 2 = 1) : powB n = decide (n = 1) := by
  rw [Bool.eq_iff_iff, powB_iff, decide_eq_true_eq]
  constructor
  · rintro ⟨i, rfl⟩
    rcases i with _ | i
    · rfl
    · rw [Nat.pow_succ] at h
      omega
  · rintro rfl
    exact ⟨0, rfl⟩
theorem powB_even (n : Nat) (h1 : 1 < n) (h : n % 2 = 0) : powB n = powB (n / 2) := by
  rw [Bool.eq_iff_iff, powB_iff, powB_iff]
  constructor
  · rintro ⟨i, rfl⟩
    rcases i with _ | i
    · simp at h1
    · exact ⟨i, by rw [Nat.pow_succ]; omega⟩
  · rintro ⟨i, hi⟩
    exact ⟨i + 1, by rw [Nat.pow_succ]; omega⟩
theorem powB_next (p : Nat) (h : 3 ≤ p) (hp : powB (p + 1) = true) : powB (p + 2) = false := by
  obtain ⟨i, hi⟩ := (powB_iff _).1 hp
  rcases i with _ | i
  · simp at hi; omega
  · rw [Nat.pow_succ] at hi
    rw [powB_odd _ (by omega)]
    simp

/-- The position of bit k: the k-th number from 3 on that is no power of two. -/
def place : Nat → Nat
  | 0 => 3
  | k + 1 => if powB (place k + 1) then place k + 2 else place k + 1
theorem place_zero : place 0 = 3 := rfl
theorem place_succ (k : Nat) : place (k + 1) = if powB (place k + 1) then place k + 2 else place k + 1 := rfl
theorem place_ge (k : Nat) : 3 ≤ place k := by
  induction k with
  | zero => exact Nat.le_refl _
  | succ k ih => rw [place_succ]; split <;> omega
theorem place_not (k : Nat) : powB (place k) = false := by
  induction k with
  | zero => decide
  | succ k ih =>
    rw [place_succ]
    split
    · rename_i h
      exact powB_next _ (place_ge k) h
    · rename_i h
      simpa using h
theorem place_step (k : Nat) : place k < place (k + 1) := by rw [place_succ]; split <;> omega
theorem place_mono {i k : Nat} (h : i < k) : place i < place k := by
  induction k with
  | zero => omega
  | succ k ih =>
    rcases Nat.lt_or_ge i k with h1 | h1
    · exact Nat.lt_trans (ih h1) (place_step k)
    · obtain rfl : i = k := by omega
      exact place_step i
theorem place_inj {i k : Nat} (h : place i = place k) : i = k := by
  rcases Nat.lt_trichotomy i k with h1 | h1 | h1
  · have := place_mono h1; omega
  · exact h1
  · have := place_mono h1; omega
theorem place_lt_iff {i k : Nat} : place i < place k ↔ i < k := by
  constructor
  · intro h
    rcases Nat.lt_or_ge i k with h1 | h1
    · exact h1
    · rcases Nat.lt_or_ge k i with h2 | h2
      · have := place_mono h2; omega
      · obtain rfl : i = k := by omega
        omega
  · exact place_mono
theorem log2_step (p : Nat) (h : 1 ≤ p) (hp : powB (p + 1) = false) : (p + 1).log2 = p.log2 := by
  have h1 := Nat.log2_self_le (n := p) (by omega)
  have h2 := Nat.lt_log2_self (n := p)
  rw [Nat.log2_eq_iff (by omega)]
  refine ⟨by omega, ?_⟩
  rcases Nat.lt_or_ge (p + 1) (2 ^ (p.log2 + 1)) with h3 | h3
  · exact h3
  · have e : p + 1 = 2 ^ (p.log2 + 1) := by omega
    rw [e, powB_pow] at hp
    cases hp
theorem log2_jump (p : Nat) (h : 3 ≤ p) (hp : powB (p + 1) = true) : (p + 2).log2 = p.log2 + 1 := by
  obtain ⟨i, hi⟩ := (powB_iff _).1 hp
  rcases i with _ | i
  · simp at hi; omega
  · rcases i with _ | i
    · simp at hi; omega
    · have e0 : 2 ^ (i + 1 + 1) = 2 * 2 ^ (i + 1) := by rw [Nat.pow_succ 2 (i + 1)]; omega
      have e1 : 2 ^ (i + 1 + 1 + 1) = 2 * 2 ^ (i + 1 + 1) := by rw [Nat.pow_succ 2 (i + 1 + 1)]; omega
      have e2 : 2 ^ (i + 1) = 2 * 2 ^ i := by rw [Nat.pow_succ]; omega
      have e3 : 0 < 2 ^ i := Nat.two_pow_pos i
      have a1 : p.log2 = i + 1 := by rw [Nat.log2_eq_iff (by omega)]; omega
      have a2 : (p + 2).log2 = i + 1 + 1 := by rw [Nat.log2_eq_iff (by omega)]; omega
      rw [a1, a2]
/-- Which bit has a position. -/
theorem place_form (k : Nat) : place k = k + 2 + (place k).log2 := by
  induction k with
  | zero => decide
  | succ k ih =>
    rw [place_succ]
    have hg := place_ge k
    cases h : powB (place k + 1)
    · simp only [Bool.false_eq_true, if_false]
      rw [log2_step _ (by omega) h]
      omega
    · simp only [if_true]
      rw [log2_jump _ hg h]
      omega
theorem place_cover (p : Nat) (h : 3 ≤ p) : ∃ k, place k = if powB p then p + 1 else p := by
  induction p with
  | zero => omega
  | succ p ih =>
    rcases Nat.lt_or_ge p 3 with h1 | h1
    · obtain rfl : p = 2 := by omega
      exact ⟨0, by decide⟩
    · obtain ⟨k, hk⟩ := ih h1
      cases hp : powB p
      · rw [hp] at hk
        simp only [Bool.false_eq_true, if_false] at hk
        refine ⟨k + 1, ?_⟩
        rw [place_succ, hk]
      · rw [hp] at hk
        simp only [if_true] at hk
        refine ⟨k, ?_⟩
        rw [hk]
        rw [if_neg]
        intro hq
        have h2 := place_not k
        rw [hk, hq] at h2
        cases h2
theorem place_of (p : Nat) (h : 3 ≤ p) (hp : powB p = false) : ∃ k, place k = p ∧ k + 2 + p.log2 = p := by
  obtain ⟨k, hk⟩ := place_cover p h
  rw [hp] at hk
  simp only [Bool.false_eq_true, if_false] at hk
  refine ⟨k, hk, ?_⟩
  have := place_form k
  rw [hk] at this
  exact this.symm
theorem place_8178 : place 8178 = 8193 := by
  obtain ⟨k, h1, h2⟩ := place_of 8193 (by omega) (by decide +kernel)
  have e : Nat.log2 8193 = 13 := by decide +kernel
  rw [e] at h2
  obtain rfl : k = 8178 := by omega
  exact h1
theorem place_lt13 (k : Nat) (h : k ≤ 4096) : place k < 8192 := by
  have h1 : place k < 8193 := by rw [← place_8178]; exact place_mono (by omega)
  have h2 := place_not k
  rcases Nat.lt_or_ge (place k) 8192 with h3 | h3
  · exact h3
  · have e : place k = 2 ^ 13 := by omega
    rw [e, powB_pow] at h2
    cases h2
theorem place_lt21 (k : Nat) (h : k ≤ 1048576) : place k < 2097152 := by
  obtain ⟨j, h1, h2⟩ := place_of 2097153 (by omega) (by decide +kernel)
  have e : Nat.log2 2097153 = 21 := by decide +kernel
  rw [e] at h2
  have h4 : place k < 2097153 := by rw [← h1]; exact place_mono (by omega)
  have h5 := place_not k
  rcases Nat.lt_or_ge (place k) 2097152 with h3 | h3
  · exact h3
  · have e2 : place k = 2 ^ 21 := by omega
    rw [e2, powB_pow] at h5
    cases h5

/-- The exclusive or of the positions of the first k bits that are 1; how many are 1. -/
def gx (f : Nat → Bool) : Nat → Nat
  | 0 => 0
  | k + 1 => if f k then gx f k ^^^ place k else gx f k
def gn (f : Nat → Bool) : Nat → Nat
  | 0 => 0
  | k + 1 => if f k then gn f k + 1 else gn f k
theorem gx_succ (f : Nat → Bool) (k : Nat) : gx f (k + 1) = if f k then gx f k ^^^ place k else gx f k := rfl
theorem gn_succ (f : Nat → Bool) (k : Nat) : gn f (k + 1) = if f k then gn f k + 1 else gn f k := rfl
theorem gn_le (f : Nat → Bool) (k : Nat) : gn f k ≤ k := by
  induction k with
  | zero => exact Nat.le_refl _
  | succ k ih => rw [gn_succ]; split <;> omega
theorem xor_lt13 {a b : Nat} (ha : a < 8192) (hb : b < 8192) : a ^^^ b < 8192 := Nat.xor_lt_two_pow (n := 13) ha hb
theorem gx_lt (f : Nat → Bool) (k : Nat) (h : k ≤ 4096) : gx f k < 8192 := by
  induction k with
  | zero => show 0 < 8192; omega
  | succ k ih =>
    rw [gx_succ]
    split
    · exact xor_lt13 (ih (by omega)) (place_lt13 k (by omega))
    · exact ih (by omega)
theorem gx_congr {f g : Nat → Bool} {k : Nat} (h : ∀ i, i < k → f i = g i) : gx f k = gx g k := by
  induction k with
  | zero => rfl
  | succ k ih => rw [gx_succ, gx_succ, h k (by omega), ih (fun i hi => h i (by omega))]
theorem gn_congr {f g : Nat → Bool} {k : Nat} (h : ∀ i, i < k → f i = g i) : gn f k = gn g k := by
  induction k with
  | zero => rfl
  | succ k ih => rw [gn_succ, gn_succ, h k (by omega), ih (fun i hi => h i (by omega))]
theorem xor_swap (a b c d : Nat) : (a ^^^ b) ^^^ (c ^^^ d) = (a ^^^ c) ^^^ (b ^^^ d) := by
  rw [Nat.xor_assoc, Nat.xor_assoc, ← Nat.xor_assoc b c d, ← Nat.xor_assoc c b d, Nat.xor_comm b c]
theorem gx_xor (f g : Nat → Bool) (k : Nat) : gx (fun i => f i ^^ g i) k = gx f k ^^^ gx g k := by
  induction k with
  | zero => show 0 = 0 ^^^ 0; decide
  | succ k ih =>
    rw [gx_succ, gx_succ, gx_succ]
    cases f k <;> cases g k
    · simpa using ih
    · simp only [Bool.false_xor, if_true, Bool.false_eq_true, if_false, ih]; exact Nat.xor_assoc _ _ _
    · simp only [Bool.xor_false, if_true, Bool.false_eq_true, if_false, ih]
      rw [Nat.xor_assoc, Nat.xor_assoc, Nat.xor_comm (gx g k)]
    · simp only [Bool.xor_self, if_true, Bool.false_eq_true, if_false, ih]
      rw [xor_swap, Nat.xor_self, Nat.xor_zero]
theorem gn_xor (f g : Nat → Bool) (k : Nat) : gn (fun i => f i ^^ g i) k % 2 = (gn f k + gn g k) % 2 := by
  induction k with
  | zero => rfl
  | succ k ih =>
    rw [gn_succ, gn_succ, gn_succ]
    cases f k <;> cases g k <;> simp <;> omega
/-- One bit alone. -/
theorem gx_one (j k : Nat) : gx (fun i => decide (i = j)) k = if j < k then place j else 0 := by
  induction k with
  | zero => rfl
  | succ k ih =>
    rw [gx_succ, ih]
    by_cases h : k = j
    · subst h; simp
    · rw [decide_eq_false h]
      by_cases h2 : j < k
      · simp [h2, show j < k + 1 by omega]
      · simp [h2, show ¬ j < k + 1 by omega]
theorem gn_one (j k : Nat) : gn (fun i => decide (i = j)) k = if j < k then 1 else 0 := by
  induction k with
  | zero => rfl
  | succ k ih =>
    rw [gn_succ, ih]
    by_cases h : k = j
    · subst h; simp
    · rw [decide_eq_false h]
      by_cases h2 : j < k
      · simp [h2, show j < k + 1 by omega]
      · simp [h2, show ¬ j < k + 1 by omega]
end Go.Proofs.Ytljjbphmglbhnaa
