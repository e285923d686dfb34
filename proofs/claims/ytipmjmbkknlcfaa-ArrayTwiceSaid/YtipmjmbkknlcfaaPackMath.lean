/-
  Plain facts on layouts: sizes, which numbers fit, numbers as bytes with the least significant one first, fields one behind the other, and back.
-/
import Derived.Test.YtipmjmbkknlcfaaMath
namespace Go.Proofs.Ytipmjmbkknlcfaa

/-- A field may have that size. -/
def okSz (x : Int) : Bool := decide (1 ≤ x ∧ x ≤ 8)
theorem okSz_yes {x : Int} (h : okSz x = true) : 1 ≤ x ∧ x ≤ 8 := by simpa [okSz] using h
theorem okSz_no {x : Int} (h : okSz x = false) : ¬ (1 ≤ x ∧ x ≤ 8) := by simpa [okSz] using h
/-- The sizes together. -/
def sumI (l : List Int) : Nat := (l.map Int.toNat).sum
/-- A layout is allowed. -/
def okL (l : List Int) : Bool := decide (l.length ≤ 64) && l.all okSz
theorem sumI_append (a b : List Int) : sumI (a ++ b) = sumI a + sumI b := by simp [sumI]
theorem sumI_snoc (l : List Int) (x : Int) : sumI (l ++ [x]) = sumI l + x.toNat := by simp [sumI]
theorem sumI_le (l : List Int) (h : ∀ x ∈ l, okSz x = true) : sumI l ≤ 8 * l.length := by
  induction l with
  | nil => simp [sumI]
  | cons x t ih =>
    have h1 := okSz_yes (h x (by simp))
    have h2 := ih fun y hy => h y (by simp [hy])
    simp only [sumI, List.map_cons, List.sum_cons, List.length_cons] at h2 ⊢
    omega
theorem okL_len {l : List Int} (h : okL l = true) : l.length ≤ 64 := by
  unfold okL at h
  rw [Bool.and_eq_true] at h
  simpa using h.1
theorem okL_all {l : List Int} (h : okL l = true) : ∀ x ∈ l, okSz x = true := by
  unfold okL at h
  rw [Bool.and_eq_true] at h
  simpa using h.2
theorem okL_mk {l : List Int} (h : l.length ≤ 64) (h2 : ∀ x ∈ l, okSz x = true) : okL l = true := by
  unfold okL
  rw [Bool.and_eq_true]
  exact ⟨by simpa using h, by simpa using h2⟩
theorem okL_long {l : List Int} (h : 64 < l.length) : okL l = false := by
  unfold okL
  rw [Bool.and_eq_false_iff]
  left
  simpa using h
theorem okL_bad {l : List Int} {k : Nat} {x : Int} (h : l[k]? = some x) (h2 : okSz x = false) : okL l = false := by
  unfold okL
  rw [Bool.and_eq_false_iff]
  right
  rw [List.all_eq_false]
  exact ⟨x, List.mem_of_getElem? h, by simp [h2]⟩
theorem okL_at {l : List Int} {k : Nat} {x : Int} (h : okL l = true) (h2 : l[k]? = some x) : 1 ≤ x ∧ x ≤ 8 := okSz_yes (okL_all h x (List.mem_of_getElem? h2))
theorem okL_sum {l : List Int} (h : okL l = true) : sumI l ≤ 512 := by
  have h1 := sumI_le l (okL_all h)
  have h2 := okL_len h
  omega
theorem okL_take {l : List Int} (h : okL l = true) (k : Nat) : okL (l.take k) = true :=
  okL_mk (by have := okL_len h; simp; omega) fun x hx => okL_all h x (List.mem_of_mem_take hx)
theorem okL_drop {l : List Int} (h : okL l = true) (k : Nat) : okL (l.drop k) = true :=
  okL_mk (by have := okL_len h; simp; omega) fun x hx => okL_all h x (List.mem_of_mem_drop hx)
theorem sumI_take_le (l : List Int) (k : Nat) : sumI (l.take k) ≤ sumI l := by
  have h := sumI_append (l.take k) (l.drop k)
  rw [List.take_append_drop] at h
  omega

/-- The greatest number of a field of that size. -/
def great (s : Nat) : Nat := if s = 8 then 4611686018427387904 else 2 ^ (8 * s) - 1
theorem great_8 : great 8 = 4611686018427387904 := rfl
theorem great_of (s : Nat) (h : s ≠ 8) : great s = 2 ^ (8 * s) - 1 := by unfold great; rw [if_neg h]
theorem pow8_le (s : Nat) (h : s ≤ 7) : 2 ^ (8 * s) ≤ 72057594037927936 := Nat.pow_le_pow_right (n := 2) (by omega) (show 8 * s ≤ 56 by omega)
theorem pow8_pos (s : Nat) : 1 ≤ 2 ^ (8 * s) := Nat.one_le_two_pow
theorem great_le (s : Nat) (h : s ≤ 8) : great s ≤ 4611686018427387904 := by
  by_cases h8 : s = 8
  · subst h8; exact Nat.le_refl _
  · rw [great_of s h8]
    have := pow8_le s (by omega)
    omega
theorem great_lt (s : Nat) (h : s ≤ 8) : great s < 2 ^ (8 * s) := by
  by_cases h8 : s = 8
  · subst h8; decide
  · rw [great_of s h8]
    have := pow8_pos s
    omega
/-- A number fits into a field of that size. -/
def fitsB (n s : Int) : Bool := okSz s && (decide (0 ≤ n) && decide (n ≤ (great s.toNat : Int)))
theorem fitsB_bad {n s : Int} (h : okSz s = false) : fitsB n s = false := by unfold fitsB; rw [h]; rfl
theorem fitsB_neg {n s : Int} (h : n < 0) : fitsB n s = false := by unfold fitsB; rw [show decide (0 ≤ n) = false by simpa using h]; simp
theorem fitsB_yes {n s : Int} (h : fitsB n s = true) : 1 ≤ s ∧ s ≤ 8 ∧ 0 ≤ n ∧ n ≤ (great s.toNat : Int) := by
  unfold fitsB at h
  rw [Bool.and_eq_true, Bool.and_eq_true] at h
  have := okSz_yes h.1
  exact ⟨this.1, this.2, by simpa using h.2.1, by simpa using h.2.2⟩
theorem fitsB_nat (n s : Nat) (h1 : 1 ≤ s) (h2 : s ≤ 8) : fitsB (n : Int) (s : Int) = decide (n ≤ great s) := by
  unfold fitsB
  rw [show okSz (s : Int) = true by simp [okSz]; omega]
  simp
theorem fits_pow (n s : Nat) (h2 : s ≤ 8) : n ≤ great s ↔ (n ≤ 4611686018427387904 ∧ n / 2 ^ (8 * s) = 0) := by
  have hp := pow8_pos s
  rw [Nat.div_eq_zero_iff]
  by_cases h8 : s = 8
  · subst h8
    rw [great_8]
    constructor
    · intro h
      exact ⟨h, .inr (Nat.lt_of_le_of_lt h (by decide))⟩
    · exact fun h => h.1
  · rw [great_of s h8]
    have := pow8_le s (by omega)
    omega

/-- The first k bytes of a number. -/
def leN (n k : Nat) : List Nat := (List.range k).map fun i => n / 2 ^ (8 * i) % 256
theorem leN_length (n k : Nat) : (leN n k).length = k := by simp [leN]
theorem leN_zero (n : Nat) : leN n 0 = [] := rfl
theorem leN_succ (n k : Nat) : leN n (k + 1) = leN n k ++ [n / 2 ^ (8 * k) % 256] := by simp [leN, List.range_succ]
theorem leN_lt (n k : Nat) : ∀ x ∈ leN n k, x < 256 := by
  intro x hx
  simp only [leN, List.mem_map] at hx
  obtain ⟨i, _, rfl⟩ := hx
  exact Nat.mod_lt _ (by omega)
theorem leN_cons (n k : Nat) : leN n (k + 1) = n % 256 :: leN (n / 256) k := by
  unfold leN
  rw [List.range_succ_eq_map, List.map_cons, List.map_map]
  refine congr (congrArg List.cons (by simp)) (List.map_congr_left fun i _ => ?_)
  show n / 2 ^ (8 * (i + 1)) % 256 = n / 256 / 2 ^ (8 * i) % 256
  rw [Nat.div_div_eq_div_mul, show 8 * (i + 1) = 8 + 8 * i by omega, Nat.pow_add]
/-- Bytes as a number. -/
def numN : List Nat → Nat
  | [] => 0
  | x :: t => x + 256 * numN t
theorem numN_leN (k : Nat) : ∀ n, numN (leN n k) = n % 2 ^ (8 * k) := by
  induction k with
  | zero => intro n; simp [leN_zero, numN, Nat.mod_one]
  | succ k ih =>
    intro n
    rw [leN_cons, numN, ih, show 8 * (k + 1) = 8 + 8 * k by omega, Nat.pow_add, Nat.mod_mul]
theorem numN_lt (l : List Nat) (h : ∀ x ∈ l, x < 256) : numN l < 2 ^ (8 * l.length) := by
  induction l with
  | nil => simp [numN]
  | cons x t ih =>
    have h1 := h x (by simp)
    have h2 := ih fun y hy => h y (by simp [hy])
    rw [numN, List.length_cons, show 8 * (t.length + 1) = 8 * t.length + 8 by omega, Nat.pow_add]
    omega
theorem numN_snoc (l : List Nat) (x : Nat) : numN (l ++ [x]) = numN l + x * 2 ^ (8 * l.length) := by
  induction l with
  | nil => simp [numN]
  | cons y t ih =>
    rw [List.cons_append, numN, ih, numN, List.length_cons, show 8 * (t.length + 1) = 8 * t.length + 8 by omega, Nat.pow_add, Nat.mul_add, ← Nat.add_assoc]
    congr 1
    rw [Nat.mul_comm (2 ^ (8 * t.length)), ← Nat.mul_assoc, ← Nat.mul_assoc, Nat.mul_comm 256 x]
theorem leN_numN (l : List Nat) (h : ∀ x ∈ l, x < 256) : leN (numN l) l.length = l := by
  induction l with
  | nil => rfl
  | cons x t ih =>
    have h1 := h x (by simp)
    rw [List.length_cons, leN_cons, numN, show (x + 256 * numN t) % 256 = x by omega, show (x + 256 * numN t) / 256 = numN t by omega, ih fun y hy => h y (by simp [hy])]

/-- The first k fields. -/
def putTo (s z : List Int) (k : Nat) : List Nat := (((s.zip z).take k).map fun p => leN p.2.toNat p.1.toNat).flatten
/-- All fields. -/
def putL (s z : List Int) : List Nat := ((s.zip z).map fun p => leN p.2.toNat p.1.toNat).flatten
theorem zip_at {s z : List Int} {k : Nat} {x n : Int} (hx : s[k]? = some x) (hn : z[k]? = some n) : (s.zip z)[k]? = some (x, n) := by
  rw [List.getElem?_zip_eq_some]
  exact ⟨hx, hn⟩
theorem putTo_succ {s z : List Int} {k : Nat} {x n : Int} (hx : s[k]? = some x) (hn : z[k]? = some n) : putTo s z (k + 1) = putTo s z k ++ leN n.toNat x.toNat := by
  unfold putTo
  rw [take_snoc (zip_at hx hn)]
  simp
theorem putTo_all (s z : List Int) (k : Nat) (h : s.length ≤ k) : putTo s z k = putL s z := by
  unfold putTo putL
  rw [List.take_of_length_le (by simp; omega)]
theorem putL_lt (s z : List Int) : ∀ x ∈ putL s z, x < 256 := by
  intro x hx
  simp only [putL, List.mem_flatten, List.mem_map] at hx
  obtain ⟨l, ⟨p, _, rfl⟩, h⟩ := hx
  exact leN_lt _ _ x h
theorem putL_length : ∀ (s z : List Int), s.length = z.length → (putL s z).length = sumI s
  | [], [], _ => rfl
  | x :: s, n :: z, h => by
    have ih := putL_length s z (by simpa using h)
    simp only [putL, List.zip_cons_cons, List.map_cons, List.flatten_cons, List.length_append, leN_length] at ih ⊢
    rw [ih]
    simp [sumI]
theorem putTo_length (s z : List Int) (h : s.length = z.length) (k : Nat) : (putTo s z k).length = sumI (s.take k) := by
  have e : putTo s z k = putL (s.take k) (z.take k) := by
    unfold putTo putL
    simp only [List.zip, List.take_zipWith]
  rw [e, putL_length _ _ (by simp [h])]
theorem putL_cons (x n : Int) (s z : List Int) : putL (x :: s) (n :: z) = leN n.toNat x.toNat ++ putL s z := by simp [putL]
theorem putL_append (s t z u : List Int) (h : s.length = z.length) : putL (s ++ t) (z ++ u) = putL s z ++ putL t u := by
  unfold putL
  rw [List.zip_append h]
  simp
theorem putL_split (s z : List Int) (k : Nat) (h : s.length = z.length) : putL s z = putL (s.take k) (z.take k) ++ putL (s.drop k) (z.drop k) := by
  rw [← putL_append _ _ _ _ (by simp [h]), List.take_append_drop, List.take_append_drop]

/-- The numbers fit, one by one. -/
def fitsL (s z : List Int) : Bool := (s.zip z).all fun p => fitsB p.2 p.1
/-- The first k numbers fit. -/
def fitsTo (s z : List Int) (k : Nat) : Bool := ((s.zip z).take k).all fun p => fitsB p.2 p.1
theorem fitsTo_succ {s z : List Int} {k : Nat} {x n : Int} (hx : s[k]? = some x) (hn : z[k]? = some n) (h : fitsTo s z k = true) (h2 : fitsB n x = true) : fitsTo s z (k + 1) = true := by
  unfold fitsTo at h ⊢
  rw [take_snoc (zip_at hx hn), List.all_append, h]
  simp [h2]
theorem fitsTo_all (s z : List Int) (k : Nat) (h : s.length ≤ k) : fitsTo s z k = fitsL s z := by
  unfold fitsTo fitsL
  rw [List.take_of_length_le (by simp; omega)]
theorem fitsL_bad {s z : List Int} {k : Nat} {x n : Int} (hx : s[k]? = some x) (hn : z[k]? = some n) (h2 : fitsB n x = false) : fitsL s z = false := by
  unfold fitsL
  rw [List.all_eq_false]
  exact ⟨(x, n), List.mem_of_getElem? (zip_at hx hn), by simp [h2]⟩
theorem fitsL_at {s z : List Int} {k : Nat} {x n : Int} (hx : s[k]? = some x) (hn : z[k]? = some n) (h2 : fitsL s z = true) : fitsB n x = true := by
  unfold fitsL at h2
  rw [List.all_eq_true] at h2
  exact h2 (x, n) (List.mem_of_getElem? (zip_at hx hn))
theorem fitsL_split (s z : List Int) (k : Nat) (h : s.length = z.length) : fitsL s z = (fitsL (s.take k) (z.take k) && fitsL (s.drop k) (z.drop k)) := by
  unfold fitsL
  rw [← List.all_append, ← List.zip_append (by simp [h]), List.take_append_drop, List.take_append_drop]

/-- Put answers the fields. -/
def canPut (s z : List Int) : Bool := okL s && (decide (s.length = z.length) && fitsL s z)
theorem canPut_yes {s z : List Int} (h : canPut s z = true) : okL s = true ∧ s.length = z.length ∧ fitsL s z = true := by
  unfold canPut at h
  rw [Bool.and_eq_true, Bool.and_eq_true] at h
  exact ⟨h.1, by simpa using h.2.1, h.2.2⟩
theorem canPut_mk {s z : List Int} (h1 : okL s = true) (h2 : s.length = z.length) (h3 : fitsL s z = true) : canPut s z = true := by
  unfold canPut
  rw [h1, h3]
  simpa using h2
/-- What Put answers. -/
def putA (s z : List Int) : List Nat := if canPut s z then putL s z else []
/-- The error beside it. -/
def putE (s z : List Int) : Int := if canPut s z then 0 else 2
theorem putA_yes {s z : List Int} (h : canPut s z = true) : putA s z = putL s z := by unfold putA; rw [h]; rfl
theorem putA_no {s z : List Int} (h : canPut s z = false) : putA s z = [] := by unfold putA; rw [h]; rfl
theorem putE_yes {s z : List Int} (h : canPut s z = true) : putE s z = 0 := by unfold putE; rw [h]; rfl
theorem putE_no {s z : List Int} (h : canPut s z = false) : putE s z = 2 := by unfold putE; rw [h]; rfl
theorem putA_lt (s z : List Int) : ∀ x ∈ putA s z, x < 256 := by
  unfold putA
  split
  · exact putL_lt s z
  · simp
theorem okL_split (s : List Int) (k : Nat) (h : s.length ≤ 64) : okL s = (okL (s.take k) && okL (s.drop k)) := by
  have e := @List.all_append _ okSz (s.take k) (s.drop k)
  rw [List.take_append_drop] at e
  unfold okL
  rw [e, decide_eq_true h, decide_eq_true (show (s.take k).length ≤ 64 by simp; omega), decide_eq_true (show (s.drop k).length ≤ 64 by simp; omega)]
  simp
theorem canPut_split (s z : List Int) (k : Nat) (h : s.length = z.length) (h2 : s.length ≤ 64) : canPut s z = (canPut (s.take k) (z.take k) && canPut (s.drop k) (z.drop k)) := by
  unfold canPut
  rw [okL_split s k h2, fitsL_split s z k h, decide_eq_true h, decide_eq_true (show (s.take k).length = (z.take k).length by simp [h]), decide_eq_true (show (s.drop k).length = (z.drop k).length by simp [h])]
  cases okL (s.take k) <;> cases okL (s.drop k) <;> cases fitsL (s.take k) (z.take k) <;> cases fitsL (s.drop k) (z.drop k) <;> rfl

/-- The numbers of the fields. -/
def vals : List Int → List Nat → List Int
  | [], _ => []
  | s :: t, b => (numN (b.take s.toNat) : Int) :: vals t (b.drop s.toNat)
theorem vals_length (s : List Int) : ∀ b, (vals s b).length = s.length := by
  induction s with
  | nil => intro b; rfl
  | cons x t ih => intro b; simp [vals, ih]
theorem vals_snoc (s : List Int) (x : Int) : ∀ b, vals (s ++ [x]) b = vals s b ++ [(numN ((b.drop (sumI s)).take x.toNat) : Int)] := by
  induction s with
  | nil => intro b; simp [vals, sumI]
  | cons y t ih =>
    intro b
    rw [List.cons_append, vals, ih, vals, List.drop_drop]
    simp [sumI]
theorem vals_at {s : List Int} {k : Nat} {x : Int} (b : List Nat) (hx : s[k]? = some x) : (vals s b)[k]? = some (numN ((b.drop (sumI (s.take k))).take x.toNat) : Int) := by
  induction s generalizing k b with
  | nil => simp at hx
  | cons y t ih =>
    cases k with
    | zero => simp at hx; subst hx; simp [vals, sumI]
    | succ k =>
      simp at hx
      rw [vals, List.getElem?_cons_succ, ih _ hx, List.drop_drop]
      simp [sumI]
theorem vals_nn (s : List Int) : ∀ b, ∀ x ∈ vals s b, 0 ≤ x := by
  induction s with
  | nil => intro b; simp [vals]
  | cons y t ih =>
    intro b x hx
    simp only [vals, List.mem_cons] at hx
    rcases hx with rfl | h
    · omega
    · exact ih _ x h
/-- No number is too great. -/
def low (l : List Int) : Bool := l.all fun x => decide (x ≤ 4611686018427387904)
theorem low_bad {l : List Int} {k : Nat} {x : Int} (h : l[k]? = some x) (h2 : 4611686018427387904 < x) : low l = false := by
  unfold low
  rw [List.all_eq_false]
  exact ⟨x, List.mem_of_getElem? h, by simpa using h2⟩
theorem low_at {l : List Int} (h : low l = true) : ∀ x ∈ l, x ≤ 4611686018427387904 := by
  unfold low at h
  rw [List.all_eq_true] at h
  exact fun x hx => by simpa using h x hx
theorem low_snoc {l : List Int} {x : Int} (h : low l = true) (h2 : x ≤ 4611686018427387904) : low (l ++ [x]) = true := by
  unfold low at h ⊢
  rw [List.all_append, h]
  simpa using h2
/-- The error of Take. -/
def takeE (s : List Int) (b : List Nat) : Int :=
  if okL s then (if b.length < sumI s then 10 else if sumI s < b.length then 13 else if low (vals s b) then 0 else 11) else 2
/-- What Take answers. -/
def takeA (s : List Int) (b : List Nat) : List Int := if takeE s b = 0 then vals s b else []
theorem takeE_bad {s : List Int} {b : List Nat} (h : okL s = false) : takeE s b = 2 := by unfold takeE; rw [h]; rfl
theorem takeE_short {s : List Int} {b : List Nat} (h : okL s = true) (h2 : b.length < sumI s) : takeE s b = 10 := by unfold takeE; rw [if_pos h, if_pos h2]
theorem takeE_long {s : List Int} {b : List Nat} (h : okL s = true) (h2 : sumI s < b.length) : takeE s b = 13 := by unfold takeE; rw [if_pos h, if_neg (by omega), if_pos h2]
theorem takeE_high {s : List Int} {b : List Nat} (h : okL s = true) (h2 : sumI s = b.length) (h3 : low (vals s b) = false) : takeE s b = 11 := by
  unfold takeE; rw [if_pos h, if_neg (by omega), if_neg (by omega), h3]; rfl
theorem takeE_yes {s : List Int} {b : List Nat} (h : okL s = true) (h2 : sumI s = b.length) (h3 : low (vals s b) = true) : takeE s b = 0 := by
  unfold takeE; rw [if_pos h, if_neg (by omega), if_neg (by omega), h3]; rfl
theorem takeA_no {s : List Int} {b : List Nat} {e : Int} (h : takeE s b = e) (he : e ≠ 0) : takeA s b = [] := by unfold takeA; rw [if_neg (by omega)]
theorem takeA_yes {s : List Int} {b : List Nat} (h : takeE s b = 0) : takeA s b = vals s b := by unfold takeA; rw [if_pos h]
theorem takeE_zero {s : List Int} {b : List Nat} (h : takeE s b = 0) : okL s = true ∧ sumI s = b.length ∧ low (vals s b) = true := by
  cases h1 : okL s
  · rw [takeE_bad h1] at h; omega
  · rcases Nat.lt_trichotomy b.length (sumI s) with h2 | h2 | h2
    · rw [takeE_short h1 h2] at h; omega
    · cases h3 : low (vals s b)
      · rw [takeE_high h1 h2.symm h3] at h; omega
      · exact ⟨rfl, h2.symm, rfl⟩
    · rw [takeE_long h1 h2] at h; omega
theorem takeA_bd (s : List Int) (b : List Nat) : ∀ x ∈ takeA s b, 0 ≤ x ∧ x ≤ 4611686018427387904 := by
  intro x hx
  by_cases h : takeE s b = 0
  · rw [takeA_yes h] at hx
    exact ⟨vals_nn s b x hx, low_at (takeE_zero h).2.2 x hx⟩
  · rw [takeA_no rfl h] at hx
    simp at hx

/-- What is put is taken. -/
theorem vals_putL : ∀ (s z : List Int) (r : List Nat), s.length = z.length → fitsL s z = true → vals s (putL s z ++ r) = z
  | [], [], _, _, _ => rfl
  | x :: s, n :: z, r, h, hf => by
    have h0 := fitsB_yes (fitsL_at (s := x :: s) (z := n :: z) (k := 0) rfl rfl hf)
    have h1 : fitsL s z = true := by
      simp only [fitsL, List.zip_cons_cons, List.all_cons, Bool.and_eq_true] at hf ⊢
      exact hf.2
    have ih := vals_putL s z r (by simpa using h) h1
    have hg := great_lt x.toNat (by omega)
    rw [putL_cons, vals, List.append_assoc]
    rw [List.take_append_of_le_length (by rw [leN_length]; exact Nat.le_refl _), List.take_of_length_le (by rw [leN_length]; exact Nat.le_refl _), numN_leN, Nat.mod_eq_of_lt (by omega)]
    rw [List.drop_append_of_le_length (by rw [leN_length]; exact Nat.le_refl _), List.drop_eq_nil_of_le (by rw [leN_length]; exact Nat.le_refl _), List.nil_append, ih]
    congr 1
    omega
theorem low_fits (s z : List Int) (h : s.length = z.length) (hf : fitsL s z = true) : low z = true := by
  unfold low
  rw [List.all_eq_true]
  intro n hn
  obtain ⟨k, hk, rfl⟩ := List.getElem_of_mem hn
  have h0 := fitsB_yes (fitsL_at (k := k) (List.getElem?_eq_getElem (by omega)) (List.getElem?_eq_getElem hk) hf)
  have h1 := great_le (s[k]'(by omega)).toNat (by omega)
  simp only [decide_eq_true_eq]
  omega
theorem take_put {s z : List Int} (h : canPut s z = true) : takeE s (putL s z) = 0 ∧ takeA s (putL s z) = z := by
  obtain ⟨h1, h2, h3⟩ := canPut_yes h
  have h4 := vals_putL s z [] h2 h3
  rw [List.append_nil] at h4
  have h5 : takeE s (putL s z) = 0 := takeE_yes h1 (putL_length s z h2).symm (by rw [h4]; exact low_fits s z h2 h3)
  exact ⟨h5, by rw [takeA_yes h5, h4]⟩
theorem take_more {s z : List Int} (h : canPut s z = true) (x : Nat) : takeE s (putL s z ++ [x]) = 13 := by
  obtain ⟨h1, h2, h3⟩ := canPut_yes h
  exact takeE_long h1 (by rw [List.length_append, putL_length s z h2]; simp)
/-- What is taken is put so again. -/
theorem putL_vals : ∀ (s : List Int) (b : List Nat), (∀ x ∈ s, okSz x = true) → (∀ x ∈ b, x < 256) → sumI s = b.length → low (vals s b) = true → putL s (vals s b) = b ∧ fitsL s (vals s b) = true
  | [], b, _, _, h, _ => by
    have : b = [] := List.eq_nil_of_length_eq_zero (by simpa [sumI] using h.symm)
    subst this
    exact ⟨rfl, rfl⟩
  | x :: s, b, hs, hb, h, hl => by
    have hx := okSz_yes (hs x (by simp))
    have hsum : sumI (x :: s) = x.toNat + sumI s := by simp [sumI]
    have hl1 : (b.take x.toNat).length = x.toNat := by rw [List.length_take]; omega
    have h0 : numN (b.take x.toNat) < 2 ^ (8 * x.toNat) := by
      have := numN_lt (b.take x.toNat) fun y hy => hb y (List.mem_of_mem_take hy)
      rwa [hl1] at this
    rw [vals] at hl ⊢
    have hl2 : numN (b.take x.toNat) ≤ 4611686018427387904 ∧ low (vals s (b.drop x.toNat)) = true := by
      unfold low at hl ⊢
      rw [List.all_cons, Bool.and_eq_true] at hl
      exact ⟨by have := hl.1; simp only [decide_eq_true_eq] at this; omega, hl.2⟩
    obtain ⟨ih1, ih2⟩ := putL_vals s (b.drop x.toNat) (fun y hy => hs y (by simp [hy])) (fun y hy => hb y (List.mem_of_mem_drop hy)) (by simp; omega) hl2.2
    have e := leN_numN (b.take x.toNat) fun y hy => hb y (List.mem_of_mem_take hy)
    rw [hl1] at e
    refine ⟨?_, ?_⟩
    · rw [putL_cons, ih1, Int.toNat_natCast, e, List.take_append_drop]
    · unfold fitsL at ih2 ⊢
      rw [List.zip_cons_cons, List.all_cons, ih2, Bool.and_true]
      obtain ⟨t, rfl⟩ := Int.eq_ofNat_of_zero_le (show 0 ≤ x by omega)
      rw [fitsB_nat _ _ (by omega) (by omega), decide_eq_true_eq, fits_pow _ _ (by omega)]
      exact ⟨hl2.1, Nat.div_eq_of_lt (by simpa using h0)⟩
theorem put_take {s : List Int} {b : List Nat} (hb : ∀ x ∈ b, x < 256) (h : takeE s b = 0) : canPut s (takeA s b) = true ∧ putL s (takeA s b) = b := by
  obtain ⟨h1, h2, h3⟩ := takeE_zero h
  obtain ⟨h4, h5⟩ := putL_vals s b (okL_all h1) hb h2 h3
  rw [takeA_yes h]
  exact ⟨canPut_mk h1 (vals_length s b).symm h5, h4⟩
end Go.Proofs.Ytipmjmbkknlcfaa
