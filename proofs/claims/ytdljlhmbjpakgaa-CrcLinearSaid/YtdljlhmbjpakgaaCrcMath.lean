/-
  Plain facts on the checksum: a register of 32 bits that is shifted by bits and by bytes; that it is linear, that nothing is lost, its four bytes. No program, no memory.
-/
import Derived.Test.YtdljlhmbjpakgaaMath3
namespace Go.Proofs.Ytdljlhmbjpakgaa

/-- The polynomial. -/
def pol : Nat := 3988292384
def full : Nat := 4294967295
/-- One shift. -/
def sh (r : Nat) : Nat := if r % 2 = 0 then r / 2 else (r / 2) ^^^ pol
/-- Some shifts. -/
def shs : Nat → Nat → Nat
  | 0, r => r
  | k + 1, r => sh (shs k r)
theorem shs_succ' (k r : Nat) : shs (k + 1) r = shs k (sh r) := by
  induction k with
  | zero => rfl
  | succ k ih => rw [shs, ih]; rfl
/-- One byte. -/
def by1 (r v : Nat) : Nat := shs 8 (r ^^^ v)
/-- Bytes. -/
def feedL (r : Nat) (l : List Nat) : Nat := l.foldl by1 r
/-- The checksum. -/
def sumL (l : List Nat) : Nat := full - feedL full l

theorem lt32 {r : Nat} (h : r < 4294967296) : r / 2 < 2147483648 := by omega
theorem sh_lt (r : Nat) (h : r < 4294967296) : sh r < 4294967296 := by
  unfold sh
  split
  · omega
  · exact Nat.xor_lt_two_pow (n := 32) (by omega) (by unfold pol; omega)
theorem shs_lt (k r : Nat) (h : r < 4294967296) : shs k r < 4294967296 := by
  induction k with
  | zero => exact h
  | succ k ih => exact sh_lt _ ih
theorem xor32 {a b : Nat} (ha : a < 4294967296) (hb : b < 4294967296) : a ^^^ b < 4294967296 := Nat.xor_lt_two_pow (n := 32) ha hb
theorem by1_lt (r v : Nat) (h : r < 4294967296) (hv : v < 256) : by1 r v < 4294967296 := shs_lt _ _ (xor32 h (by omega))
theorem feedL_lt (l : List Nat) (hl : ∀ x ∈ l, x < 256) : ∀ r, r < 4294967296 → feedL r l < 4294967296 := by
  induction l with
  | nil => intro r h; exact h
  | cons a t ih => intro r h; exact ih (fun x hx => hl x (by simp [hx])) _ (by1_lt _ _ h (hl a (by simp)))
theorem feedL_snoc (r : Nat) (l : List Nat) (x : Nat) : feedL r (l ++ [x]) = by1 (feedL r l) x := by simp [feedL]
theorem feedL_append (r : Nat) (a b : List Nat) : feedL r (a ++ b) = feedL (feedL r a) b := by simp [feedL]
theorem sumL_lt (l : List Nat) : sumL l < 4294967296 := by unfold sumL full; omega

theorem xor_mod2 (a b : Nat) : (a ^^^ b) % 2 = (a % 2 + b % 2) % 2 := by
  have := Nat.xor_mod_two_pow (a := a) (b := b) (n := 1)
  simp only [Nat.pow_one] at this
  rw [this]
  rcases Nat.mod_two_eq_zero_or_one a with h | h <;> rcases Nat.mod_two_eq_zero_or_one b with k | k <;> simp [h, k]
theorem xor_div2 (a b : Nat) : (a ^^^ b) / 2 = (a / 2) ^^^ (b / 2) := by
  have := Nat.xor_div_two_pow (a := a) (b := b) (n := 1)
  simpa using this

/-- A shift is linear. -/
theorem sh_xor (a b : Nat) : sh (a ^^^ b) = sh a ^^^ sh b := by
  unfold sh
  rw [xor_mod2, xor_div2]
  rcases Nat.mod_two_eq_zero_or_one a with h | h <;> rcases Nat.mod_two_eq_zero_or_one b with k | k
  · simp [h, k]
  · simp [h, k, Nat.xor_assoc]
  · simp only [h, k]
    simp only [Nat.add_zero, Nat.reduceMod, Nat.one_ne_zero, ↓reduceIte]
    rw [Nat.xor_assoc, Nat.xor_comm (b / 2) pol, ← Nat.xor_assoc]
  · simp only [h, k]
    simp only [Nat.one_ne_zero, ↓reduceIte]
    rw [Nat.xor_assoc (a / 2) pol, ← Nat.xor_assoc pol, Nat.xor_comm pol (b / 2), Nat.xor_assoc (b / 2), Nat.xor_self, Nat.xor_zero]
theorem shs_xor (k a b : Nat) : shs k (a ^^^ b) = shs k a ^^^ shs k b := by
  induction k with
  | zero => rfl
  | succ k ih => rw [shs, ih, sh_xor]; rfl
theorem by1_xor (r s x y : Nat) : by1 (r ^^^ s) (x ^^^ y) = by1 r x ^^^ by1 s y := by
  unfold by1
  rw [← shs_xor]
  congr 1
  rw [Nat.xor_assoc, ← Nat.xor_assoc s, Nat.xor_comm s x, Nat.xor_assoc x, ← Nat.xor_assoc]
/-- Two texts of one length, put together. -/
def xorL (a b : List Nat) : List Nat := List.zipWith (· ^^^ ·) a b
theorem xorL_length (a b : List Nat) (h : a.length = b.length) : (xorL a b).length = a.length := by simp [xorL, h]
theorem xorL_lt (a b : List Nat) (ha : ∀ x ∈ a, x < 256) (hb : ∀ x ∈ b, x < 256) : ∀ x ∈ xorL a b, x < 256 := by
  induction a generalizing b with
  | nil => intro x hx; simp [xorL] at hx
  | cons p a ih =>
    rcases b with _ | ⟨q, b⟩
    · intro x hx; simp [xorL] at hx
    · intro x hx
      have hx2 : x ∈ (p ^^^ q) :: xorL a b := hx
      rcases List.mem_cons.1 hx2 with h | h
      · subst h; exact xor_lt8 _ _ (ha p (by simp)) (hb q (by simp))
      · exact ih b (fun z hz => ha z (by simp [hz])) (fun z hz => hb z (by simp [hz])) x h
theorem feedL_xor : ∀ (a b : List Nat) (r s : Nat), a.length = b.length → feedL (r ^^^ s) (xorL a b) = feedL r a ^^^ feedL s b := by
  intro a
  induction a with
  | nil =>
    intro b r s h
    obtain rfl : b = [] := List.eq_nil_of_length_eq_zero h.symm
    rfl
  | cons x a ih =>
    intro b r s h
    rcases b with _ | ⟨y, b⟩
    · simp at h
    · show feedL (by1 (r ^^^ s) (x ^^^ y)) (xorL a b) = feedL (by1 r x) a ^^^ feedL (by1 s y) b
      rw [by1_xor, ih b _ _ (by simpa using h)]
theorem inv_eq (r : Nat) (h : r < 4294967296) : full - r = r ^^^ full := by
  refine Nat.eq_of_testBit_eq fun i => ?_
  have e1 : full - r = 2 ^ 32 - (r + 1) := by unfold full; omega
  have e2 : full = 2 ^ 32 - 1 := by decide
  rw [e1, Nat.testBit_two_pow_sub_succ (show r < 2 ^ 32 by omega), Nat.testBit_xor, e2, Nat.testBit_two_pow_sub_one]
  by_cases hi : i < 32
  · simp [hi]
  · have : r.testBit i = false := Nat.testBit_lt_two_pow (Nat.lt_of_lt_of_le (show r < 2 ^ 32 by omega) (Nat.pow_le_pow_right (by omega) (by omega)))
    simp [hi, this]
theorem sumL_eq (l : List Nat) (hl : ∀ x ∈ l, x < 256) : sumL l = feedL full l ^^^ full := inv_eq _ (feedL_lt l hl _ (by decide))

theorem sumL_three (a b c : List Nat) (ha : ∀ x ∈ a, x < 256) (hb : ∀ x ∈ b, x < 256) (hc : ∀ x ∈ c, x < 256) (h1 : a.length = b.length) (h2 : a.length = c.length) :
    sumL (xorL (xorL a b) c) = sumL a ^^^ sumL b ^^^ sumL c := by
  have hab := xorL_lt a b ha hb
  have h3 : (xorL a b).length = c.length := by rw [xorL_length a b h1, h2]
  rw [sumL_eq _ (xorL_lt _ _ hab hc), sumL_eq a ha, sumL_eq b hb, sumL_eq c hc]
  have e : full = (full ^^^ full) ^^^ full := by decide
  have e1 : feedL full (xorL (xorL a b) c) = (feedL full a ^^^ feedL full b) ^^^ feedL full c := by
    conv => lhs; rw [e]
    rw [feedL_xor _ _ _ _ h3, feedL_xor _ _ _ _ h1]
  rw [e1]
  generalize feedL full a = x
  generalize feedL full b = y
  generalize feedL full c = z
  refine Nat.eq_of_testBit_eq fun i => ?_
  simp only [Nat.testBit_xor]
  cases x.testBit i <;> cases y.testBit i <;> cases z.testBit i <;> cases full.testBit i <;> rfl

theorem xor_rc {a b c : Nat} (h : a ^^^ c = b ^^^ c) : a = b := by
  have := congrArg (· ^^^ c) h
  simpa [Nat.xor_assoc] using this
theorem xor_lc {a b c : Nat} (h : c ^^^ a = c ^^^ b) : a = b := xor_rc (c := c) (by rw [Nat.xor_comm a, Nat.xor_comm b]; exact h)
/-- Nothing is lost in a shift. -/
theorem sh_inj (a b : Nat) (ha : a < 4294967296) (hb : b < 4294967296) (h : sh a = sh b) : a = b := by
  have key : ∀ r, r < 4294967296 → ((r / 2) ^^^ pol).testBit 31 = true := by
    intro r hr
    rw [Nat.testBit_xor, Nat.testBit_lt_two_pow (show r / 2 < 2 ^ 31 by omega)]
    decide
  have low : ∀ r, r < 4294967296 → (r / 2).testBit 31 = false := fun r hr => Nat.testBit_lt_two_pow (show r / 2 < 2 ^ 31 by omega)
  unfold sh at h
  split at h <;> split at h
  · omega
  · have := key b hb; rw [← h, low a ha] at this; cases this
  · have := key a ha; rw [h, low b hb] at this; cases this
  · have := xor_rc h
    omega
theorem shs_inj (k a b : Nat) (ha : a < 4294967296) (hb : b < 4294967296) (h : shs k a = shs k b) : a = b := by
  induction k with
  | zero => exact h
  | succ k ih => exact ih (sh_inj _ _ (shs_lt _ _ ha) (shs_lt _ _ hb) h)
theorem by1_inj (r s v : Nat) (hr : r < 4294967296) (hs : s < 4294967296) (hv : v < 256) (h : by1 r v = by1 s v) : r = s :=
  xor_rc (shs_inj 8 _ _ (xor32 hr (by omega)) (xor32 hs (by omega)) h)
theorem by1_inj2 (r x y : Nat) (hr : r < 4294967296) (hx : x < 256) (hy : y < 256) (h : by1 r x = by1 r y) : x = y :=
  xor_lc (shs_inj 8 _ _ (xor32 hr (by omega)) (xor32 hr (by omega)) h)
theorem feedL_inj (l : List Nat) (hl : ∀ x ∈ l, x < 256) : ∀ r s, r < 4294967296 → s < 4294967296 → feedL r l = feedL s l → r = s := by
  induction l with
  | nil => intro r s _ _ h; exact h
  | cons a t ih =>
    intro r s hr hs h
    have ha := hl a (by simp)
    exact by1_inj r s a hr hs ha (ih (fun x hx => hl x (by simp [hx])) _ _ (by1_lt _ _ hr ha) (by1_lt _ _ hs ha) h)
theorem feedL_set (l : List Nat) (hl : ∀ x ∈ l, x < 256) : ∀ (k x y r : Nat), r < 4294967296 → l[k]? = some x → y < 256 → feedL r (l.set k y) = feedL r l → y = x := by
  induction l with
  | nil => intro k x y r _ h; simp at h
  | cons a t ih =>
    intro k x y r hr hx hy h
    have ha := hl a (by simp)
    have ht : ∀ z ∈ t, z < 256 := fun z hz => hl z (by simp [hz])
    rcases k with _ | k
    · simp at hx
      subst hx
      exact by1_inj2 r y a hr hy ha (feedL_inj t ht _ _ (by1_lt _ _ hr hy) (by1_lt _ _ hr ha) h)
    · exact ih ht k x y _ (by1_lt _ _ hr ha) (by simpa using hx) hy h
theorem sumL_set (l : List Nat) (hl : ∀ x ∈ l, x < 256) (k x y : Nat) (hx : l[k]? = some x) (hy : y < 256) (h : sumL (l.set k y) = sumL l) : y = x := by
  have hl2 : ∀ z ∈ l.set k y, z < 256 := by
    intro z hz
    rcases List.mem_or_eq_of_mem_set hz with h1 | h1
    · exact hl z h1
    · subst h1; exact hy
  refine feedL_set l hl k x y full (by decide) hx hy ?_
  have h1 := feedL_lt l hl full (by decide)
  have h2 := feedL_lt _ hl2 full (by decide)
  unfold sumL at h
  unfold full at *
  omega

/-- The document's step: one bit. -/
def rs (r : Nat) (b : Bool) : Nat := if decide (r % 2 = 1) = b then r / 2 else (r / 2) ^^^ pol
theorem rs_lt (r : Nat) (b : Bool) (h : r < 4294967296) : rs r b < 4294967296 := by
  unfold rs
  split
  · omega
  · exact Nat.xor_lt_two_pow (n := 32) (by omega) (by unfold pol; omega)
theorem foldl_rs_lt (bs : List Bool) : ∀ r, r < 4294967296 → bs.foldl rs r < 4294967296 := by
  induction bs with
  | nil => intro r h; exact h
  | cons b t ih => intro r h; exact ih _ (rs_lt r b h)
theorem sh_rs (r v : Nat) : sh (r ^^^ v) = rs r (decide (v % 2 = 1)) ^^^ (v / 2) := by
  unfold sh rs
  rw [xor_mod2, xor_div2]
  rcases Nat.mod_two_eq_zero_or_one r with h | h <;> rcases Nat.mod_two_eq_zero_or_one v with k | k
  · simp [h, k]
  · simp only [h, k]
    simp [Nat.xor_assoc, Nat.xor_comm pol]
  · simp only [h, k]
    simp [Nat.xor_assoc, Nat.xor_comm pol]
  · simp [h, k]
theorem shs_rs (k : Nat) : ∀ r v, shs k (r ^^^ v) = ((List.range k).map fun i => v.testBit i).foldl rs r ^^^ (v / 2 ^ k) := by
  induction k with
  | zero => intro r v; simp [shs]
  | succ k ih =>
    intro r v
    rw [shs, ih, sh_rs, List.range_succ, List.map_append, List.foldl_append]
    congr 1
    · simp only [List.map_cons, List.map_nil, List.foldl_cons, List.foldl_nil]
      rw [Nat.testBit_eq_decide_div_mod_eq]
    · rw [Nat.pow_succ, Nat.div_div_eq_div_mul]
theorem by1_rs (r v : Nat) (hv : v < 256) : by1 r v = ((List.range 8).map fun i => v.testBit i).foldl rs r := by
  unfold by1
  rw [shs_rs, Nat.div_eq_of_lt (by omega), Nat.xor_zero]

theorem bitsB_cons (a : Nat) (t : List Nat) : bitsB (a :: t) = ((List.range 8).map fun i => a.testBit i) ++ bitsB t := by
  unfold bitsB
  rw [List.length_cons, show 8 * (t.length + 1) = 8 + 8 * t.length by omega, List.range_add, List.map_append]
  congr 1
  rw [List.map_map]
  refine List.map_congr_left fun i _ => ?_
  unfold getN
  simp only [Function.comp]
  rw [show (8 + i) / 8 = i / 8 + 1 by omega, show (8 + i) % 8 = i % 8 by omega]
  rfl
theorem feedL_bits (l : List Nat) (hl : ∀ x ∈ l, x < 256) : ∀ r, feedL r l = (bitsB l).foldl rs r := by
  induction l with
  | nil => intro r; rfl
  | cons a t ih =>
    intro r
    rw [bitsB_cons, List.foldl_append, ← by1_rs r a (hl a (by simp)), ← ih (fun x hx => hl x (by simp [hx]))]
    rfl

/-- The four bytes of a number. -/
def le4 (n : Nat) : List Nat := [n % 256, n / 256 % 256, n / 65536 % 256, n / 16777216 % 256]
theorem le4_length (n : Nat) : (le4 n).length = 4 := rfl
theorem le4_lt (n : Nat) : ∀ x ∈ le4 n, x < 256 := by
  intro x hx
  simp only [le4, List.mem_cons, List.not_mem_nil, or_false] at hx
  rcases hx with rfl | rfl | rfl | rfl <;> exact Nat.mod_lt _ (by omega)
theorem le4_inj (a b : Nat) (ha : a < 4294967296) (hb : b < 4294967296) (h : le4 a = le4 b) : a = b := by
  simp only [le4, List.cons.injEq, and_true] at h
  omega
/-- Does a text end with its checksum? -/
def chk (l : List Nat) : Bool := decide (4 ≤ l.length) && decide (l.drop (l.length - 4) = le4 (sumL (l.take (l.length - 4))))
end Go.Proofs.Ytdljlhmbjpakgaa
