/-
  Plain facts on codewords, of no program: encL, decL; what is encoded is decoded, with none and with one bit turned, with two it is refused; pieces, and all of them.
-/
import Derived.Test.YtljjbphmglbhnaaTurn
namespace Go.Proofs.Ytljjbphmglbhnaa

/-- The two bytes of a word. -/
def le2 (W : Nat) : List Nat := [W % 256, W / 256]
/-- The codeword of bytes. -/
def encL (l : List Nat) : List Nat := l ++ le2 (wordL l)
/-- The bytes behind a verdict: the bytes, how many turned bits, the error. -/
def decV (d : List Nat) (v : Nat × Nat) : List Nat × Nat × Nat :=
  if v.1 = 0 then (d, 0, 0) else if v.1 = 2 then (d, 1, 0) else if v.1 = 1 then (flip1 d (v.2 : Int), 1, 0) else ([], 0, 14)
/-- The word at the end of raw bytes. -/
def endW (raw : List Nat) : Nat := raw.getD (raw.length - 2) 0 + 256 * raw.getD (raw.length - 2 + 1) 0
def decL (raw : List Nat) : List Nat × Nat × Nat :=
  if raw.length < 3 ∨ 514 < raw.length then ([], 0, 2) else decV (raw.take (raw.length - 2)) (judgeL (raw.take (raw.length - 2)) (endW raw))

theorem verdict_le (n d : Nat) (o : Bool) : (verdict n d o).1 ≤ 3 := by
  unfold verdict
  split
  · split
    · simp
    · split <;> simp
  · split <;> simp
theorem judge_le (l : List Nat) (w : Nat) : (judgeL l w).1 ≤ 3 := verdict_le _ _ _

theorem decV_facts (d : List Nat) (v : Nat × Nat) (h : ∀ x ∈ d, x < 256) : (decV d v).1.length ≤ d.length ∧ (∀ x ∈ (decV d v).1, x < 256) ∧ (decV d v).2.1 ≤ 1 ∧ (decV d v).2.2 ≤ 14 := by
  unfold decV
  split
  · exact ⟨Nat.le_refl _, h, by simp, by simp⟩
  · split
    · exact ⟨Nat.le_refl _, h, by simp, by simp⟩
    · split
      · exact ⟨by simp [flip1_length], flip1_lt d _ h, by simp, by simp⟩
      · exact ⟨by simp, by simp, by simp, by simp⟩
theorem decL_facts (raw : List Nat) (h : ∀ x ∈ raw, x < 256) : (decL raw).1.length ≤ raw.length ∧ (∀ x ∈ (decL raw).1, x < 256) ∧ (decL raw).2.1 ≤ 1 ∧ (decL raw).2.2 ≤ 14 := by
  unfold decL
  split
  · exact ⟨by simp, by simp, by simp, by simp⟩
  · have := decV_facts (raw.take (raw.length - 2)) (judgeL (raw.take (raw.length - 2)) (endW raw)) (fun x hx => h x (List.mem_of_mem_take hx))
    refine ⟨Nat.le_trans this.1 (by simp), this.2⟩
theorem decL_nil (raw : List Nat) (h : (decL raw).2.2 ≠ 0) : (decL raw).1 = [] ∧ (decL raw).2.1 = 0 := by
  unfold decL at h ⊢
  split
  · exact ⟨rfl, rfl⟩
  · rename_i h1
    rw [if_neg h1] at h
    unfold decV at h ⊢
    split
    · rename_i h2; rw [if_pos h2] at h; simp at h
    · rename_i h2; rw [if_neg h2] at h
      split
      · rename_i h3; rw [if_pos h3] at h; simp at h
      · rename_i h3; rw [if_neg h3] at h
        split
        · rename_i h4; rw [if_pos h4] at h; simp at h
        · exact ⟨rfl, rfl⟩

theorem le2_length (W : Nat) : (le2 W).length = 2 := rfl
theorem le2_lt (W : Nat) (h : W < 65536) : ∀ x ∈ le2 W, x < 256 := by
  intro x hx
  simp [le2] at hx
  omega
theorem encL_length (l : List Nat) : (encL l).length = l.length + 2 := by simp [encL, le2_length]
theorem decL_parts (l : List Nat) (W : Nat) (h0 : 1 ≤ l.length) (h1 : l.length ≤ 512) : decL (l ++ le2 W) = decV l (judgeL l W) := by
  have e1 : (l ++ le2 W).length - 2 = l.length := by simp [le2_length]
  have e2 : (l ++ le2 W).take l.length = l := by simp
  have e3 : endW (l ++ le2 W) = W := by
    unfold endW
    rw [e1]
    simp [le2, List.getD_eq_getElem?_getD]
    omega
  unfold decL
  rw [if_neg (by simp [le2_length]; omega), e1, e2, e3]

theorem le2_flip (W z : Nat) (hz : z < 16) : flip1 (le2 W) (z : Int) = le2 (W ^^^ 2 ^ z) := by
  have m : (W ^^^ 2 ^ z) % 256 = W % 256 ^^^ 2 ^ z % 256 := Nat.xor_mod_two_pow (n := 8)
  have d : (W ^^^ 2 ^ z) / 256 = W / 256 ^^^ 2 ^ z / 256 := Nat.xor_div_two_pow (n := 8)
  rcases Nat.lt_or_ge z 8 with h | h
  · have h2 : 2 ^ z < 256 := Nat.pow_lt_pow_right (a := 2) (m := z) (n := 8) (by omega) h
    rw [Nat.mod_eq_of_lt h2] at m
    rw [Nat.div_eq_of_lt h2, Nat.xor_zero] at d
    rw [flip1_yes (le2 W) z (W % 256) (by rw [Nat.div_eq_of_lt h]; rfl)]
    unfold le2 mk8
    rw [m, d, Nat.div_eq_of_lt h, Nat.mod_eq_of_lt h]
    rfl
  · obtain ⟨y, rfl⟩ : ∃ y, z = y + 8 := ⟨z - 8, by omega⟩
    have e : 2 ^ (y + 8) = 2 ^ y * 256 := by rw [Nat.pow_add]
    have e0 : 2 ^ (y + 8) % 256 = 0 := by rw [e]; exact Nat.mul_mod_left _ _
    have e1 : 2 ^ (y + 8) / 256 = 2 ^ y := by rw [e]; exact Nat.mul_div_cancel _ (by omega)
    rw [e0, Nat.xor_zero] at m
    rw [e1] at d
    have q1 : (y + 8) / 8 = 1 := by omega
    have q2 : (y + 8) % 8 = y := by omega
    rw [flip1_yes (le2 W) (y + 8) (W / 256) (by rw [q1]; rfl)]
    unfold le2 mk8
    rw [m, d, q1, q2]
    rfl
theorem flip1_left (l t : List Nat) (x : Nat) (h : x < 8 * l.length) : flip1 (l ++ t) (x : Int) = flip1 l (x : Int) ++ t := by
  have hx : x / 8 < l.length := by omega
  rw [flip1_yes (l ++ t) x l[x / 8] (by rw [List.getElem?_append_left hx, List.getElem?_eq_getElem hx]), flip1_yes l x l[x / 8] (List.getElem?_eq_getElem hx)]
  rw [List.set_append_left _ _ hx]
theorem flip1_right (l t : List Nat) (x : Nat) (h : 8 * l.length ≤ x) (h2 : x < 8 * l.length + 8 * t.length) : flip1 (l ++ t) (x : Int) = l ++ flip1 t ((x - 8 * l.length : Nat) : Int) := by
  obtain ⟨y, rfl⟩ : ∃ y, x = 8 * l.length + y := ⟨x - 8 * l.length, by omega⟩
  have e : 8 * l.length + y - 8 * l.length = y := by omega
  have hy : y / 8 < t.length := by omega
  have q1 : (8 * l.length + y) / 8 = l.length + y / 8 := by omega
  have q2 : mk8 (8 * l.length + y) = mk8 y := by unfold mk8; congr 1; omega
  rw [e, flip1_yes t y t[y / 8] (List.getElem?_eq_getElem hy), flip1_yes (l ++ t) (8 * l.length + y) t[y / 8] (by rw [q1, List.getElem?_append_right (by omega), Nat.add_sub_cancel_left, List.getElem?_eq_getElem hy])]
  rw [q1, q2, List.set_append_right _ _ (by omega), Nat.add_sub_cancel_left]
/-- A bit of a codeword turned. -/
theorem flip_code (l : List Nat) (W x : Nat) (hW : W < 65536) (hx : x < 8 * l.length + 16) :
    flip1 (l ++ le2 W) (x : Int) = (turn1 (8 * l.length) (l, W) x).1 ++ le2 (turn1 (8 * l.length) (l, W) x).2 ∧ (turn1 (8 * l.length) (l, W) x).1.length = l.length ∧ (turn1 (8 * l.length) (l, W) x).2 < 65536 := by
  unfold turn1
  by_cases h : x < 8 * l.length
  · simp only [h, if_true]
    exact ⟨flip1_left _ _ _ h, flip1_length _ _, hW⟩
  · simp only [h, if_false]
    refine ⟨?_, trivial, turn_lt W _ hW (by omega)⟩
    rw [flip1_right l (le2 W) x (by omega) (by rw [le2_length]; omega), le2_flip W _ (by omega)]

theorem enc_none (l : List Nat) (h0 : 1 ≤ l.length) (h1 : l.length ≤ 512) : decL (encL l) = (l, 0, 0) := by
  unfold encL
  rw [decL_parts l _ h0 h1, judge_own l h1]
  rfl
theorem enc_one (l : List Nat) (x : Nat) (h0 : 1 ≤ l.length) (h1 : l.length ≤ 512) (hb : ∀ y ∈ l, y < 256) (hx : x < 8 * l.length + 14) : decL (flip1 (encL l) (x : Int)) = (l, 1, 0) := by
  have hw := (wordL_parts l h1).2.2.1
  unfold encL
  obtain ⟨e, _, _⟩ := flip_code l (wordL l) x hw (by omega)
  rw [e]
  unfold turn1
  by_cases h : x < 8 * l.length
  · simp only [h, if_true]
    rw [decL_parts _ _ (by rw [flip1_length]; exact h0) (by rw [flip1_length]; exact h1), judge_flip l x h1 h]
    have := flips_twice l [(x : Int)] hb
    simp only [flips, List.foldl_cons, List.foldl_nil] at this
    simp [decV, this]
  · simp only [h, if_false]
    rw [decL_parts _ _ h0 h1, judge_wbit l _ h1 (by omega)]
    rfl
theorem enc_two (l : List Nat) (x y : Nat) (h0 : 1 ≤ l.length) (h1 : l.length ≤ 512) (hx : x < 8 * l.length + 14) (hy : y < 8 * l.length + 14) (hne : x ≠ y) : decL (flip1 (flip1 (encL l) (x : Int)) (y : Int)) = ([], 0, 14) := by
  have hw := (wordL_parts l h1).2.2.1
  have hb := turn_both l x y h1 hx hy hne
  unfold encL
  obtain ⟨e, e1, e2⟩ := flip_code l (wordL l) x hw (by omega)
  rw [e]
  generalize turn1 (8 * l.length) (l, wordL l) x = s at *
  obtain ⟨l', W'⟩ := s
  simp only at e1 e2 ⊢
  obtain ⟨f, f1, f2⟩ := flip_code l' W' y e2 (by omega)
  rw [f]
  rw [e1] at f1 f2 ⊢
  rw [decL_parts _ _ (by omega) (by omega), hb]
  rfl

/-- A piece of raw bytes. -/
def pieceL (len : Nat) (raw : List Nat) (i : Nat) : List Nat := (raw.drop (i * len)).take len
def piecesL (len : Nat) (raw : List Nat) (k : Nat) : List (List Nat) := (List.range k).map (pieceL len raw)
theorem piecesL_succ (len : Nat) (raw : List Nat) (k : Nat) : piecesL len raw (k + 1) = piecesL len raw k ++ [pieceL len raw k] := by simp [piecesL, List.range_succ]
theorem piecesL_length (len : Nat) (raw : List Nat) (k : Nat) : (piecesL len raw k).length = k := by simp [piecesL]
theorem pieceL_length (len : Nat) (raw : List Nat) (i N : Nat) (h : raw.length = N * len) (hi : i < N) : (pieceL len raw i).length = len := by
  have : (i + 1) * len ≤ N * len := Nat.mul_le_mul_right _ hi
  rw [Nat.add_mul, Nat.one_mul] at this
  simp [pieceL]
  omega
theorem pieceL_lt (len : Nat) (raw : List Nat) (i : Nat) (h : ∀ x ∈ raw, x < 256) : ∀ x ∈ pieceL len raw i, x < 256 := fun x hx => h x (List.mem_of_mem_drop (List.mem_of_mem_take hx))
theorem piecesL_flat (len : Nat) (raw : List Nat) (k : Nat) : (piecesL len raw k).flatten = raw.take (k * len) := by
  induction k with
  | zero => simp [piecesL]
  | succ k ih =>
    rw [piecesL_succ, List.flatten_append, ih, Nat.add_mul, Nat.one_mul, List.take_add]
    simp [pieceL]

/-- All pieces: joined, summed; or the error of the first that has one. -/
def joinD (ps : List (List Nat)) : List Nat := (ps.map fun p => (decL p).1).flatten
def sumD (ps : List (List Nat)) : Nat := (ps.map fun p => (decL p).2.1).sum
def okD (ps : List (List Nat)) : Prop := ∀ p ∈ ps, (decL p).2.2 = 0
def allL (ps : List (List Nat)) : List Nat × Nat × Nat :=
  match ps.find? fun p => decide ((decL p).2.2 ≠ 0) with
  | some p => ([], 0, (decL p).2.2)
  | none => (joinD ps, sumD ps, 0)
theorem allL_ok (ps : List (List Nat)) (h : okD ps) : allL ps = (joinD ps, sumD ps, 0) := by
  unfold allL
  rw [List.find?_eq_none.2 (by intro p hp; simp [h p hp])]
theorem allL_bad (pre rest : List (List Nat)) (x : List Nat) (h : okD pre) (hx : (decL x).2.2 ≠ 0) : allL (pre ++ x :: rest) = ([], 0, (decL x).2.2) := by
  unfold allL
  rw [List.find?_append, List.find?_eq_none.2 (by intro p hp; simp [h p hp])]
  simp [hx]
theorem okD_nil : okD [] := fun p hp => by cases hp
theorem okD_snoc {pre : List (List Nat)} {x : List Nat} (h : okD pre) (hx : (decL x).2.2 = 0) : okD (pre ++ [x]) := by
  intro p hp
  rw [List.mem_append] at hp
  rcases hp with h1 | h1
  · exact h p h1
  · simp at h1; subst h1; exact hx
theorem joinD_snoc (pre : List (List Nat)) (x : List Nat) : joinD (pre ++ [x]) = joinD pre ++ (decL x).1 := by simp [joinD]
theorem sumD_snoc (pre : List (List Nat)) (x : List Nat) : sumD (pre ++ [x]) = sumD pre + (decL x).2.1 := by simp [sumD]
theorem joinD_facts (ps : List (List Nat)) (len : Nat) (h : ∀ p ∈ ps, p.length = len ∧ ∀ x ∈ p, x < 256) : (joinD ps).length ≤ ps.length * len ∧ (∀ x ∈ joinD ps, x < 256) ∧ sumD ps ≤ ps.length := by
  induction ps with
  | nil => exact ⟨by simp [joinD], by simp [joinD], by simp [sumD]⟩
  | cons p ps ih =>
    obtain ⟨h1, h2, h3⟩ := ih fun q hq => h q (List.mem_cons_of_mem _ hq)
    have hp := h p (List.mem_cons_self)
    obtain ⟨d1, d2, d3, _⟩ := decL_facts p hp.2
    refine ⟨?_, ?_, ?_⟩
    · have e : joinD (p :: ps) = (decL p).1 ++ joinD ps := by simp [joinD]
      rw [e, List.length_append, List.length_cons, Nat.add_mul, Nat.one_mul]
      omega
    · have e : joinD (p :: ps) = (decL p).1 ++ joinD ps := by simp [joinD]
      rw [e]
      intro x hx
      rw [List.mem_append] at hx
      rcases hx with hx | hx
      · exact d2 x hx
      · exact h2 x hx
    · have e : sumD (p :: ps) = (decL p).2.1 + sumD ps := by simp [sumD]
      rw [e, List.length_cons]
      omega
theorem piecesL_facts (len : Nat) (raw : List Nat) (k N : Nat) (h : raw.length = N * len) (hk : k ≤ N) (hb : ∀ x ∈ raw, x < 256) : ∀ p ∈ piecesL len raw k, p.length = len ∧ ∀ x ∈ p, x < 256 := by
  intro p hp
  simp only [piecesL, List.mem_map, List.mem_range] at hp
  obtain ⟨i, hi, rfl⟩ := hp
  exact ⟨pieceL_length len raw i N h (by omega), pieceL_lt len raw i hb⟩
end Go.Proofs.Ytljjbphmglbhnaa
