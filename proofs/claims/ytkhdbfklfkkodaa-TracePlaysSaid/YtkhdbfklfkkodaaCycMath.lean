/-
  Plain facts on cycles and their texts: the text of cycles, where a text of bytes is wrong, the cycles of a text; there and back. Of no program.
-/
import Derived.Test.YtkhdbfklfkkodaaMath4
namespace Go.Proofs.Ytkhdbfklfkkodaa

/-- A cycle: its kind and its byte. -/
structure Cy where
  k : Int
  b : Nat

def eqC (x y : Cy) : Bool := x.k == y.k && x.b == y.b
def sameC : List Cy → List Cy → Bool
  | [], [] => true
  | x :: a, y :: b => eqC x y && sameC a b
  | _, _ => false
theorem eqC_iff {x y : Cy} : eqC x y = true ↔ x = y := by
  obtain ⟨k, b⟩ := x
  obtain ⟨k', b'⟩ := y
  simp [eqC]
theorem sameC_iff {a b : List Cy} : sameC a b = true ↔ a = b := by
  induction a generalizing b with
  | nil => cases b <;> simp [sameC]
  | cons x a ih => cases b with
    | nil => simp [sameC]
    | cons y b => simp [sameC, eqC_iff, ih]
theorem sameC_self (a : List Cy) : sameC a a = true := sameC_iff.2 rfl
theorem sameC_len {a b : List Cy} (h : a.length ≠ b.length) : sameC a b = false := by
  cases hs : sameC a b with
  | false => rfl
  | true => exact absurd (congrArg List.length (sameC_iff.1 hs)) h
theorem sameC_drop {a b : List Cy} {i : Nat} {x y : Cy} (hx : a[i]? = some x) (hy : b[i]? = some y) : sameC (a.drop i) (b.drop i) = (eqC x y && sameC (a.drop (i + 1)) (b.drop (i + 1))) := by
  obtain ⟨h1, rfl⟩ := List.getElem?_eq_some_iff.1 hx
  obtain ⟨h2, rfl⟩ := List.getElem?_eq_some_iff.1 hy
  rw [List.drop_eq_getElem_cons h1, List.drop_eq_getElem_cons h2]
  rfl

/-- Is its kind one of the four? -/
def okK (k : Int) : Bool := decide (1 ≤ k) && decide (k ≤ 4)
def okC (l : List Cy) : Bool := l.all fun c => okK c.k
theorem okK_iff {k : Int} : okK k = true ↔ 1 ≤ k ∧ k ≤ 4 := by simp [okK]
theorem okC_iff {l : List Cy} : okC l = true ↔ ∀ c ∈ l, 1 ≤ c.k ∧ c.k ≤ 4 := by simp [okC, okK]
theorem okC_append (a b : List Cy) : okC (a ++ b) = (okC a && okC b) := by simp [okC]
theorem okC_drop {l : List Cy} {i : Nat} {x : Cy} (hx : l[i]? = some x) : okC (l.drop i) = (okK x.k && okC (l.drop (i + 1))) := by
  obtain ⟨h1, rfl⟩ := List.getElem?_eq_some_iff.1 hx
  rw [List.drop_eq_getElem_cons h1]
  rfl

/-- The letter of a kind, the digit of a number. -/
def letB (k : Int) : Nat := if k = 1 then 99 else if k = 2 then 97 else if k = 3 then 119 else 114
def hexB (n : Nat) : Nat := if n < 10 then 48 + n else 87 + n
/-- The kind of a letter, the number of a digit. -/
def letK (v : Nat) : Int := if v = 99 then 1 else if v = 97 then 2 else if v = 119 then 3 else if v = 114 then 4 else 0
def digI (v : Nat) : Int := if 48 ≤ v ∧ v ≤ 57 then (v : Int) - 48 else if 97 ≤ v ∧ v ≤ 102 then (v : Int) - 87 else -1
theorem letK_letB {k : Int} (h : 1 ≤ k ∧ k ≤ 4) : letK (letB k) = k := by
  unfold letB letK
  (repeat' split) <;> omega
theorem letB_letK {v : Nat} (h : letK v ≠ 0) : letB (letK v) = v := by
  unfold letK at h ⊢
  (repeat' split at h) <;> simp_all [letB]
theorem letK_bd (v : Nat) : 0 ≤ letK v ∧ letK v ≤ 4 := by unfold letK; (repeat' split) <;> omega
theorem letB_lt (k : Int) : letB k < 128 := by unfold letB; (repeat' split) <;> omega
theorem letB_ne (k : Int) : letB k ≠ 32 := by unfold letB; (repeat' split) <;> omega
theorem digI_hexB {n : Nat} (h : n < 16) : digI (hexB n) = n := by
  unfold hexB digI
  (repeat' split) <;> omega
theorem digI_bd (v : Nat) : -1 ≤ digI v ∧ digI v ≤ 15 := by unfold digI; (repeat' split) <;> omega
theorem hexB_digI {v : Nat} (h : 0 ≤ digI v) : hexB (digI v).toNat = v := by
  unfold digI at h ⊢
  unfold hexB
  (repeat' split at h) <;> (repeat' split) <;> omega
theorem hexB_lt {n : Nat} (h : n < 16) : hexB n < 128 := by unfold hexB; split <;> omega

/-- The text of a cycle; of cycles, each behind a space; of cycles. -/
def tx (c : Cy) : List Nat := [letB c.k, hexB (c.b / 16), hexB (c.b % 16)]
def spL (l : List Cy) : List Nat := l.flatMap fun c => 32 :: tx c
def textL (l : List Cy) : List Nat := (spL l).tail
theorem spL_length (l : List Cy) : (spL l).length = l.length * 4 := by
  induction l with
  | nil => rfl
  | cons t l ih => simp only [spL, List.flatMap_cons, List.length_append, List.length_cons, tx, List.length_nil] at ih ⊢; omega
theorem spL_append (a b : List Cy) : spL (a ++ b) = spL a ++ spL b := by simp [spL]
theorem textL_length (l : List Cy) : (textL l).length = l.length * 4 - 1 := by simp [textL, spL_length]
theorem textL_snoc (l : List Cy) (c : Cy) (h : l ≠ []) : textL (l ++ [c]) = textL l ++ (32 :: tx c) := by
  cases l with
  | nil => exact absurd rfl h
  | cons x l => simp [textL, spL, tx]
theorem textL_one (c : Cy) : textL [c] = tx c := rfl
theorem textL_append (a b : List Cy) (ha : a ≠ []) (hb : b ≠ []) : textL (a ++ b) = textL a ++ (32 :: textL b) := by
  cases a with
  | nil => exact absurd rfl ha
  | cons x a => cases b with
    | nil => exact absurd rfl hb
    | cons y b => simp [textL, spL, tx]
theorem spL_at {l : List Cy} {k : Nat} {t : Cy} (h : l[k]? = some t) (j : Nat) (hj : j < 4) : (spL l)[k * 4 + j]? = (32 :: tx t)[j]? := by
  induction l generalizing k with
  | nil => simp at h
  | cons x l ih =>
    have e : spL (x :: l) = (32 :: tx x) ++ spL l := by simp [spL]
    cases k with
    | zero =>
      simp at h
      subst h
      rw [e, Nat.zero_mul, Nat.zero_add, List.getElem?_append_left (by simpa [tx] using hj)]
    | succ k =>
      simp at h
      rw [e, List.getElem?_append_right (by simp [tx]; omega), ← ih h]
      congr 1
      simp [tx]
      omega
theorem textL_at (l : List Cy) (j : Nat) : (textL l)[j]? = (spL l)[j + 1]? := by simp [textL]
/-- The byte of a text at place 0, 1, 2 of a cycle's; the space behind it. -/
theorem textL_get {l : List Cy} {k : Nat} {t : Cy} (h : l[k]? = some t) : (textL l).getD (k * 4) 0 = letB t.k ∧ (textL l).getD (k * 4 + 1) 0 = hexB (t.b / 16) ∧ (textL l).getD (k * 4 + 2) 0 = hexB (t.b % 16) ∧ (k + 1 < l.length → (textL l).getD (k * 4 + 3) 0 = 32) := by
  have h1 := spL_at h 1 (by omega)
  have h2 := spL_at h 2 (by omega)
  have h3 := spL_at h 3 (by omega)
  refine ⟨?_, ?_, ?_, fun hk => ?_⟩
  · rw [List.getD_eq_getElem?_getD, textL_at, h1]; rfl
  · rw [List.getD_eq_getElem?_getD, textL_at, h2]; rfl
  · rw [List.getD_eq_getElem?_getD, textL_at, h3]; rfl
  · have h4 := spL_at (List.getElem?_eq_getElem hk) 0 (by omega)
    rw [List.getD_eq_getElem?_getD, textL_at, show k * 4 + 3 + 1 = (k + 1) * 4 + 0 by omega, h4]; rfl
theorem textL_lt {l : List Cy} (hb : ∀ c ∈ l, c.b < 256) : ∀ x ∈ textL l, x < 128 := by
  intro x hx
  have h := List.mem_of_mem_tail hx
  simp only [spL, List.mem_flatMap, tx, List.mem_cons, List.not_mem_nil, or_false] at h
  obtain ⟨c, hc, rfl | rfl | rfl | rfl⟩ := h
  · omega
  · exact letB_lt _
  · exact hexB_lt (by have := hb c hc; omega)
  · exact hexB_lt (by have := hb c hc; omega)

/-- May the byte v be at that place of a cycle's text and the space behind it? -/
def fitB (v p : Nat) : Bool := if p = 0 then letK v != 0 else if p = 3 then v == 32 else decide (0 ≤ digI v)
/-- The position, from 1 on, of the first byte that is wrong, from place i on; 0 if none is. -/
def badAt : Nat → List Nat → Nat
  | i, [] => if i = 0 ∨ i % 4 = 3 then 0 else i + 1
  | i, v :: r => if fitB v (i % 4) = true then badAt (i + 1) r else i + 1
def faultL (s : List Nat) : Nat := badAt 0 s
theorem badAt_nil {i : Nat} : badAt i [] = if i = 0 ∨ i % 4 = 3 then 0 else i + 1 := rfl
theorem badAt_cons {i v : Nat} {r : List Nat} : badAt i (v :: r) = if fitB v (i % 4) = true then badAt (i + 1) r else i + 1 := rfl
theorem badAt_drop {s : List Nat} {i v : Nat} (h : s[i]? = some v) : badAt i (s.drop i) = if fitB v (i % 4) = true then badAt (i + 1) (s.drop (i + 1)) else i + 1 := by
  obtain ⟨h1, rfl⟩ := List.getElem?_eq_some_iff.1 h
  rw [List.drop_eq_getElem_cons h1, badAt_cons]
theorem badAt_end {s : List Nat} {i : Nat} (h : i = s.length) : badAt i (s.drop i) = if i = 0 ∨ i % 4 = 3 then 0 else i + 1 := by
  subst h
  rw [List.drop_length, badAt_nil]
theorem badAt_zero {s : List Nat} {i : Nat} : badAt i s = 0 ↔ (∀ j, j < s.length → fitB (s.getD j 0) ((i + j) % 4) = true) ∧ (i + s.length = 0 ∨ (i + s.length) % 4 = 3) := by
  induction s generalizing i with
  | nil =>
    rw [badAt_nil]
    constructor
    · intro h
      refine ⟨fun j hj => absurd hj (by simp), ?_⟩
      split at h
      · simpa using by assumption
      · omega
    · rintro ⟨_, h⟩
      rw [if_pos (by simpa using h)]
  | cons v r ih =>
    rw [badAt_cons]
    constructor
    · intro h
      split at h
      · rename_i hf
        obtain ⟨h1, h2⟩ := ih.1 h
        refine ⟨fun j hj => ?_, ?_⟩
        · cases j with
          | zero => simpa using hf
          | succ j =>
            have := h1 j (by simpa using hj)
            rw [show i + (j + 1) = i + 1 + j by omega]
            simpa using this
        · simp only [List.length_cons]
          rw [show i + (r.length + 1) = i + 1 + r.length by omega]
          exact h2
      · omega
    · rintro ⟨h1, h2⟩
      have h0 := h1 0 (by simp)
      rw [if_pos (by simpa using h0)]
      refine ih.2 ⟨fun j hj => ?_, ?_⟩
      · have := h1 (j + 1) (by simpa using hj)
        rw [show i + (j + 1) = i + 1 + j by omega] at this
        simpa using this
      · simp only [List.length_cons] at h2
        rw [show i + (r.length + 1) = i + 1 + r.length by omega] at h2
        exact h2
theorem badAt_append {x y : List Nat} {i : Nat} (h : ∀ j, j < x.length → fitB (x.getD j 0) ((i + j) % 4) = true) : badAt i (x ++ y) = badAt (i + x.length) y := by
  induction x generalizing i with
  | nil => rfl
  | cons v r ih =>
    rw [List.cons_append, badAt_cons, if_pos (by simpa using h 0 (by simp)), ih fun j hj => by
      have := h (j + 1) (by simpa using hj)
      rw [show i + (j + 1) = i + 1 + j by omega] at this
      simpa using this]
    congr 1
    simp only [List.length_cons]
    omega
theorem badAt_le (s : List Nat) (i : Nat) : badAt i s ≤ i + s.length + 1 := by
  induction s generalizing i with
  | nil => rw [badAt_nil]; split <;> simp
  | cons v r ih =>
    rw [badAt_cons]
    have := ih (i + 1)
    simp only [List.length_cons]
    split <;> omega
theorem faultL_le (s : List Nat) : faultL s ≤ s.length + 1 := by have := badAt_le s 0; unfold faultL; omega
theorem faultL_zero {s : List Nat} : faultL s = 0 ↔ (∀ j, j < s.length → fitB (s.getD j 0) (j % 4) = true) ∧ (s.length = 0 ∨ s.length % 4 = 3) := by
  unfold faultL
  rw [badAt_zero]
  simp only [Nat.zero_add]

/-- The cycle at place 4 j of a text; the cycles of a text. -/
def cyAt (s : List Nat) (j : Nat) : Cy := ⟨letK (s.getD (j * 4) 0), (16 * digI (s.getD (j * 4 + 1) 0) + digI (s.getD (j * 4 + 2) 0)).toNat⟩
def cysTo (s : List Nat) (m : Nat) : List Cy := (List.range m).map (cyAt s)
def parseL (s : List Nat) : List Cy := cysTo s ((s.length + 1) / 4)
theorem cysTo_length (s : List Nat) (m : Nat) : (cysTo s m).length = m := by simp [cysTo]
theorem cysTo_succ (s : List Nat) (m : Nat) : cysTo s (m + 1) = cysTo s m ++ [cyAt s m] := by simp [cysTo, List.range_succ]
theorem cysTo_at {s : List Nat} {m j : Nat} (h : j < m) : (cysTo s m)[j]? = some (cyAt s j) := by simp [cysTo, List.getElem?_map, List.getElem?_range h]
theorem cyAt_b (s : List Nat) (j : Nat) : (cyAt s j).b < 256 := by
  have h1 := digI_bd (s.getD (j * 4 + 1) 0)
  have h2 := digI_bd (s.getD (j * 4 + 2) 0)
  show (16 * digI (s.getD (j * 4 + 1) 0) + digI (s.getD (j * 4 + 2) 0)).toNat < 256
  omega
theorem cyAt_k (s : List Nat) (j : Nat) : 0 ≤ (cyAt s j).k ∧ (cyAt s j).k ≤ 4 := letK_bd _
theorem cysTo_b {s : List Nat} {m : Nat} : ∀ c ∈ cysTo s m, c.b < 256 ∧ 0 ≤ c.k ∧ c.k ≤ 4 := by
  intro c hc
  simp only [cysTo, List.mem_map] at hc
  obtain ⟨j, _, rfl⟩ := hc
  exact ⟨cyAt_b s j, cyAt_k s j⟩
theorem mod4 (k r : Nat) (h : r < 4) : (k * 4 + r) % 4 = r := by omega
theorem faultL_text {l : List Cy} (hk : ∀ c ∈ l, 1 ≤ c.k ∧ c.k ≤ 4) (hb : ∀ c ∈ l, c.b < 256) : faultL (textL l) = 0 := by
  rw [faultL_zero]
  have hl := textL_length l
  refine ⟨fun j hj => ?_, ?_⟩
  · rw [hl] at hj
    obtain ⟨q, r, hr, rfl⟩ : ∃ q r, r < 4 ∧ j = q * 4 + r := ⟨j / 4, j % 4, by omega, by omega⟩
    have hq : q < l.length := by omega
    have hm := List.getElem_mem hq
    obtain ⟨h0, h1, h2, h3⟩ := textL_get (List.getElem?_eq_getElem hq)
    have hbq := hb _ hm
    have hkq := hk _ hm
    rw [mod4 q r hr]
    have hr4 : r = 0 ∨ r = 1 ∨ r = 2 ∨ r = 3 := by omega
    rcases hr4 with rfl | rfl | rfl | rfl
    · rw [Nat.add_zero, h0]
      simp only [fitB, if_true, bne_iff_ne, ne_eq, letK_letB hkq]
      omega
    · rw [h1]
      simp only [fitB, show ¬((1 : Nat) = 0) by omega, show ¬((1 : Nat) = 3) by omega, if_false, digI_hexB (show (l[q]).b / 16 < 16 by omega)]
      exact decide_eq_true (by omega)
    · rw [h2]
      simp only [fitB, show ¬((2 : Nat) = 0) by omega, show ¬((2 : Nat) = 3) by omega, if_false, digI_hexB (show (l[q]).b % 16 < 16 by omega)]
      exact decide_eq_true (by omega)
    · rw [h3 (by omega)]
      simp [fitB]
  · omega
theorem parseL_text {l : List Cy} (hk : ∀ c ∈ l, 1 ≤ c.k ∧ c.k ≤ 4) (hb : ∀ c ∈ l, c.b < 256) : parseL (textL l) = l := by
  have hl := textL_length l
  apply List.ext_getElem?
  intro j
  by_cases hj : j < l.length
  · have hm := List.getElem_mem hj
    obtain ⟨h0, h1, h2, _⟩ := textL_get (List.getElem?_eq_getElem hj)
    have hbq := hb _ hm
    unfold parseL
    rw [cysTo_at (by omega), List.getElem?_eq_getElem hj, cyAt, h0, h1, h2, letK_letB (hk _ hm), digI_hexB (by omega), digI_hexB (by omega)]
    congr 1
    generalize l[j] = x at *
    obtain ⟨k, b⟩ := x
    simp only [Cy.mk.injEq, true_and]
    show (16 * ((b / 16 : Nat) : Int) + ((b % 16 : Nat) : Int)).toNat = b
    omega
  · rw [List.getElem?_eq_none (by unfold parseL; rw [cysTo_length]; omega), List.getElem?_eq_none (by omega)]
theorem text_parse {s : List Nat} (h : faultL s = 0) : textL (parseL s) = s ∧ okC (parseL s) = true := by
  obtain ⟨hf, hl⟩ := faultL_zero.1 h
  have hn : (parseL s).length = (s.length + 1) / 4 := cysTo_length _ _
  have hd : ∀ j, j < s.length → s[j]? = some (s.getD j 0) := fun j hj => by rw [List.getElem?_eq_getElem hj, List.getD_eq_getElem?_getD, List.getElem?_eq_getElem hj]; rfl
  constructor
  · apply List.ext_getElem?
    intro j
    by_cases hj : j < s.length
    · obtain ⟨q, r, hr, rfl⟩ : ∃ q r, r < 4 ∧ j = q * 4 + r := ⟨j / 4, j % 4, by omega, by omega⟩
      have hq : q < (parseL s).length := by omega
      have hget : (parseL s)[q]? = some (cyAt s q) := cysTo_at (by omega)
      obtain ⟨h0, h1, h2, h3⟩ := textL_get hget
      have hfj := hf _ hj
      rw [mod4 q r hr] at hfj
      have hd2 : (textL (parseL s))[q * 4 + r]? = some ((textL (parseL s)).getD (q * 4 + r) 0) := by
        have hj2 : q * 4 + r < (textL (parseL s)).length := by rw [textL_length]; omega
        rw [List.getElem?_eq_getElem hj2, List.getD_eq_getElem?_getD, List.getElem?_eq_getElem hj2]; rfl
      rw [hd _ hj, hd2]
      congr 1
      have f1 := hf (q * 4 + 1) (by omega)
      have f2 := hf (q * 4 + 2) (by omega)
      rw [mod4 q 1 (by omega)] at f1
      rw [mod4 q 2 (by omega)] at f2
      simp only [fitB, show ¬((1 : Nat) = 0) by omega, show ¬((1 : Nat) = 3) by omega, if_false, decide_eq_true_eq] at f1
      simp only [fitB, show ¬((2 : Nat) = 0) by omega, show ¬((2 : Nat) = 3) by omega, if_false, decide_eq_true_eq] at f2
      have b1 := digI_bd (s.getD (q * 4 + 1) 0)
      have b2 := digI_bd (s.getD (q * 4 + 2) 0)
      have e1 : (cyAt s q).b / 16 = (digI (s.getD (q * 4 + 1) 0)).toNat := by
        show (16 * digI (s.getD (q * 4 + 1) 0) + digI (s.getD (q * 4 + 2) 0)).toNat / 16 = _
        omega
      have e2 : (cyAt s q).b % 16 = (digI (s.getD (q * 4 + 2) 0)).toNat := by
        show (16 * digI (s.getD (q * 4 + 1) 0) + digI (s.getD (q * 4 + 2) 0)).toNat % 16 = _
        omega
      have hr4 : r = 0 ∨ r = 1 ∨ r = 2 ∨ r = 3 := by omega
      rcases hr4 with rfl | rfl | rfl | rfl
      · rw [Nat.add_zero] at hfj ⊢
        rw [h0]
        simp only [fitB, if_true, bne_iff_ne, ne_eq] at hfj
        exact letB_letK hfj
      · rw [h1, e1, hexB_digI f1]
      · rw [h2, e2, hexB_digI f2]
      · rw [h3 (by omega)]
        simp [fitB] at hfj
        exact hfj.symm
    · rw [List.getElem?_eq_none (by rw [textL_length]; omega), List.getElem?_eq_none (by omega)]
  · rw [okC_iff]
    intro c hc
    simp only [parseL, cysTo, List.mem_map, List.mem_range] at hc
    obtain ⟨j, hj, rfl⟩ := hc
    have h1 := hf (j * 4) (by omega)
    rw [show j * 4 % 4 = 0 by omega] at h1
    simp only [fitB, if_true, bne_iff_ne, ne_eq] at h1
    have h2 := letK_bd (s.getD (j * 4) 0)
    show 1 ≤ letK (s.getD (j * 4) 0) ∧ letK (s.getD (j * 4) 0) ≤ 4
    omega
theorem faultL_two {a b : List Cy} (ha : a ≠ []) (hb : b ≠ []) (hk : ∀ c ∈ a, 1 ≤ c.k ∧ c.k ≤ 4) (h2 : ∀ c ∈ a, c.b < 256) : faultL (textL a ++ textL b) = (textL a).length + 1 := by
  have h := faultL_zero.1 (faultL_text hk h2)
  unfold faultL
  rw [badAt_append (by simpa using h.1)]
  have hl := textL_length a
  have hp : 0 < a.length := List.length_pos_iff.2 ha
  cases b with
  | nil => exact absurd rfl hb
  | cons y b =>
    have e : textL (y :: b) = letB y.k :: (hexB (y.b / 16) :: hexB (y.b % 16) :: spL b) := by simp [textL, spL, tx]
    rw [e, badAt_cons, if_neg, Nat.zero_add]
    rw [Nat.zero_add, show (textL a).length % 4 = 3 by omega]
    simp [fitB, letB_ne]

/-- The bytes of a string. -/
def bl (s : ByteArray) : List Nat := s.data.toList.map (·.toNat)
theorem bl_length (s : ByteArray) : (bl s).length = s.size := by
  obtain ⟨⟨l⟩⟩ := s
  unfold bl
  rw [List.length_map]
  rfl
theorem bl_lt (s : ByteArray) : ∀ x ∈ bl s, x < 256 := by
  intro x hx
  simp only [bl, List.mem_map] at hx
  obtain ⟨y, _, rfl⟩ := hx
  exact y.toNat_lt
theorem str_bl (s : ByteArray) : str (bl s) = s := by
  obtain ⟨⟨l⟩⟩ := s
  unfold str bl
  rw [List.map_map]
  have e : ((fun x => UInt8.ofNat x) ∘ fun x : UInt8 => x.toNat) = id := by
    funext x
    exact UInt8.ofNat_toNat
  rw [e, List.map_id]
theorem bl_str {l : List Nat} (h : ∀ x ∈ l, x < 256) : bl (str l) = l := by
  unfold bl str
  rw [List.map_map]
  conv => rhs; rw [← List.map_id l]
  apply List.map_congr_left
  intro x hx
  have := h x hx
  simp
  omega
theorem str_append (a b : List Nat) : str (a ++ b) = str a ++ str b := by
  unfold str
  apply ByteArray.ext
  simp [ByteArray.data_append]
end Go.Proofs.Ytkhdbfklfkkodaa
