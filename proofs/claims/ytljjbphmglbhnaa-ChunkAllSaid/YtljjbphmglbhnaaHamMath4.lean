/-
  Plain facts for loops over positions and check words, of no program: halving a number, two numbers bit by bit, the next position, the search for a position.
-/
import Derived.Test.YtljjbphmglbhnaaHamMath3
namespace Go.Proofs.Ytljjbphmglbhnaa

/-- How many bits are 1, by halving. -/
theorem pop_step (n : Nat) (h : n < 2 ^ 64) : pop n = n % 2 + pop (n / 2) := by
  unfold pop
  rw [popA_succ 63 n, popA_any 63 64 (n / 2) (by omega) (by omega)]
theorem pop_le (n : Nat) (h : n < 16384) : pop n ≤ 14 := by
  have key : ∀ f n : Nat, Lib.popAux f n ≤ f := by
    intro f
    induction f with
    | zero => intro n; exact Nat.le_refl _
    | succ f ih => intro n; rw [popA_succ]; have := ih (n / 2); omega
  unfold pop
  rw [popA_any 64 14 n (by omega) (by omega)]
  exact key 14 n

/-- Two numbers' exclusive or, its first i bits. -/
def xTo (a b i : Nat) : Nat := (a ^^^ b) % 2 ^ i
theorem xTo_zero (a b : Nat) : xTo a b 0 = 0 := by simp [xTo, Nat.mod_one]
theorem xTo_all (a b i : Nat) (ha : a < 2 ^ i) (hb : b < 2 ^ i) : xTo a b i = a ^^^ b := Nat.mod_eq_of_lt (Nat.xor_lt_two_pow ha hb)
theorem xTo_lt (a b i : Nat) : xTo a b i < 2 ^ i := Nat.mod_lt _ (Nat.two_pow_pos i)
theorem xTo_succ (a b i : Nat) : xTo a b (i + 1) = if a / 2 ^ i % 2 = b / 2 ^ i % 2 then xTo a b i else xTo a b i + 2 ^ i := by
  have e : (a ^^^ b) / 2 ^ i % 2 = (a / 2 ^ i % 2 + b / 2 ^ i % 2) % 2 := by rw [Nat.xor_div_two_pow, hx_mod2]
  have e2 : (a ^^^ b) % 2 ^ (i + 1) = (a ^^^ b) % 2 ^ i + 2 ^ i * ((a ^^^ b) / 2 ^ i % 2) := by rw [Nat.pow_succ, Nat.mod_mul]
  unfold xTo
  rw [e2, e]
  have ha := Nat.mod_two_eq_zero_or_one (a / 2 ^ i)
  have hb := Nat.mod_two_eq_zero_or_one (b / 2 ^ i)
  rcases ha with ha | ha <;> rcases hb with hb | hb <;> rw [ha, hb] <;> simp

/-- Going up from 3: m positions have been met, all below p. -/
def Met (m p : Nat) : Prop := 3 ≤ p ∧ place m = if powB p then p + 1 else p
theorem Met.start : Met 0 3 := ⟨Nat.le_refl _, by decide⟩
theorem Met.yes {m p : Nat} (h : Met m p) (hp : powB p = false) : place m = p ∧ Met (m + 1) (p + 1) := by
  have h1 := h.2
  rw [hp] at h1
  simp only [Bool.false_eq_true, if_false] at h1
  refine ⟨h1, by have := h.1; omega, ?_⟩
  rw [place_succ, h1]
theorem Met.no {m p : Nat} (h : Met m p) (hp : powB p = true) : Met m (p + 1) ∧ powB (p + 1) = false := by
  have h1 := h.2
  rw [hp] at h1
  simp only [if_true] at h1
  have h2 := place_not m
  rw [h1] at h2
  refine ⟨⟨by have := h.1; omega, ?_⟩, h2⟩
  rw [h2, h1]
  rfl
theorem Met.le {m p : Nat} (h : Met m p) : p ≤ place m := by rw [h.2]; split <;> omega

/-- The first n positions. -/
def places (n : Nat) : List Int := (List.range n).map fun k => ((place k : Nat) : Int)
theorem places_length (n : Nat) : (places n).length = n := by simp [places]
theorem places_succ (n : Nat) : places (n + 1) = places n ++ [((place n : Nat) : Int)] := by simp [places, List.range_succ]
theorem places_at (n k : Nat) (h : k < n) : (places n)[k]? = some ((place k : Nat) : Int) := by simp [places, h]

/-- The search for a position. -/
theorem verdict_found (n d k : Nat) (h : place k = d) (hk : k < n) : verdict n d true = (1, k) := by rw [← h]; exact verdict_bit n k hk
theorem verdict_lost (n d : Nat) (h0 : d ≠ 0) (hp : powB d = false) (h : ∀ k, k < n → place k ≠ d) : verdict n d true = (3, 0) := by
  have h3 : 3 ≤ d := by
    rcases Nat.lt_or_ge d 3 with h1 | h1
    · have h2 : d = 1 ∨ d = 2 := by omega
      rcases h2 with rfl | rfl
      · simp [powB_odd] at hp
      · have : powB 2 = true := powB_pow 1
        rw [this] at hp; cases hp
    · exact h1
  obtain ⟨k, h1, h2⟩ := place_of d h3 hp
  have h4 : d - 2 - d.log2 = k := by omega
  unfold verdict
  rw [if_pos rfl, if_neg (by rw [hp]; simp; exact h0), h4, if_neg]
  intro h5
  exact h k h5 h1
end Go.Proofs.Ytljjbphmglbhnaa
