/-
  Plain facts, of no program: a new slice of one int; a bit of a word turned; two bits of a codeword turned.
-/
import Derived.Test.YtgiihdeilkiphaaLadderFitsJ1
import Derived.Test.YtgiihdeilkiphaaIntBits
import Derived.Test.YtgiihdeilkiphaaLadderFitsJ2
namespace Go.Proofs.Ytgiihdeilkiphaa
open Go.RowKit

theorem one_int (w : World) (x : Int) (t : TypeId) (h0 : -9223372036854775808 ≤ x) (h1 : x ≤ 9223372036854775807) : R64 (w.alloc (.cells #[.int .i64 x] t)) (some ⟨w.heap.size, 0, none⟩) 1 [x] := by
  refine ⟨⟨rfl, fun _ => ⟨_, 0, rfl, by simp, fun j hj => ?_⟩⟩, by simp; omega⟩
  match j, hj with
  | 0, _ => simp [I64]
theorem flips_one (l : List Nat) (k : Int) : flips l [k] = flip1 l k := rfl

theorem turn_word (W i : Nat) (hW : W < 65536) (hi : i < 16) : Go.bits .xor .u16 (W : Int) (IntKind.u16.wrap (2 ^ i)) = ((W ^^^ 2 ^ i : Nat) : Int) := by
  have h1 : 2 ^ i < 65536 := Nat.pow_lt_pow_right (a := 2) (m := i) (n := 16) (by omega) hi
  have h2 : ((2 : Int) ^ i) = ((2 ^ i : Nat) : Int) := by rw [Int.natCast_pow]; rfl
  have h3 : ∀ q : Nat, q < 65536 → IntKind.u16.wrap (q : Int) = (q : Int) := by
    intro q hq
    simp only [IntKind.wrap, IntKind.bits, IntKind.signed]
    simp only [Bool.false_eq_true, Bool.false_and, if_false]
    omega
  rw [h2, h3 _ h1]
  exact u16_xor_nat W (2 ^ i) hW h1
theorem turn_lt (W i : Nat) (hW : W < 65536) (hi : i < 16) : W ^^^ 2 ^ i < 65536 := Nat.xor_lt_two_pow (n := 16) hW (Nat.pow_lt_pow_right (by omega) hi)

/-- One bit turned: of the bytes, or of the word. -/
def turn1 (m : Nat) (s : List Nat × Nat) (x : Nat) : List Nat × Nat := if x < m then (flip1 s.1 (x : Int), s.2) else (s.1, s.2 ^^^ 2 ^ (x - m))
theorem turn_both (l : List Nat) (i k : Nat) (h : l.length ≤ 512) (hi : i < 8 * l.length + 14) (hk : k < 8 * l.length + 14) (hne : i ≠ k) :
    judgeL (turn1 (8 * l.length) (turn1 (8 * l.length) (l, wordL l) i) k).1 (turn1 (8 * l.length) (turn1 (8 * l.length) (l, wordL l) i) k).2 = (3, 0) := by
  unfold turn1
  by_cases h1 : i < 8 * l.length <;> by_cases h2 : k < 8 * l.length
  · simp only [h1, h2, if_true]
    exact judge_two l i k h h1 h2 hne
  · simp only [h1, h2, if_true, if_false]
    exact judge_mixed l i (k - 8 * l.length) h h1 (by omega)
  · simp only [h1, h2, if_true, if_false]
    exact judge_mixed l k (i - 8 * l.length) h h2 (by omega)
  · simp only [h1, h2, if_false]
    exact judge_words l (i - 8 * l.length) (k - 8 * l.length) h (by omega) (by omega) (by omega)
end Go.Proofs.Ytgiihdeilkiphaa

/-
  Plain facts on codewords, of no program: encL, decL; what is encoded is decoded, with none and with one bit turned, with two it is refused; pieces, and all of them.
-/
namespace Go.Proofs.Ytgiihdeilkiphaa

/-- The two bytes of a word. -/
def le2 (W : Nat) : List Nat := [W % 256, W / 256]
/-- The codeword of bytes. -/
def encL (l : List Nat) : List Nat := l ++ le2 (wordL l)
/-- The bytes behind a verdict: the bytes, how many turned bits, the error. -/
def decV (d : List Nat) (v : Nat × Nat) : List Nat × Nat × Nat :=
  if v.1 = 0 then (d, 0, 0) else if v.1 = 2 then (d, 1, 0) else if v.1 = 1 then (flip1 d (v.2 : Int), 1, 0) else ([], 0, 14)
/-- The word at the end of raw bytes. -/
def endW (raw : List Nat) : Nat := raw.getD (raw.length - 2) 0 + 256 * raw.getD (raw.length - 2 + 1) 0
def decL (raw : List Nat) : List Nat × Nat × Nat :=
  if raw.length < 3 ∨ 514 < raw.length then ([], 0, 2) else decV (raw.take (raw.length - 2)) (judgeL (raw.take (raw.length - 2)) (endW raw))

theorem verdict_le (n d : Nat) (o : Bool) : (verdict n d o).1 ≤ 3 := by
  unfold verdict
  split
  · split
    · simp
    · split <;> simp
  · split <;> simp
theorem judge_le (l : List Nat) (w : Nat) : (judgeL l w).1 ≤ 3 := verdict_le _ _ _

theorem decV_facts (d : List Nat) (v : Nat × Nat) (h : ∀ x ∈ d, x < 256) : (decV d v).1.length ≤ d.length ∧ (∀ x ∈ (decV d v).1, x < 256) ∧ (decV d v).2.1 ≤ 1 ∧ (decV d v).2.2 ≤ 14 := by
  unfold decV
  split
  · exact ⟨Nat.le_refl _, h, by simp, by simp⟩
  · split
    · exact ⟨Nat.le_refl _, h, by simp, by simp⟩
    · split
      · exact ⟨by simp [flip1_length], flip1_lt d _ h, by simp, by simp⟩
      · exact ⟨by simp, by simp, by simp, by simp⟩
theorem decL_facts (raw : List Nat) (h : ∀ x ∈ raw, x < 256) : (decL raw).1.length ≤ raw.length ∧ (∀ x ∈ (decL raw).1, x < 256) ∧ (decL raw).2.1 ≤ 1 ∧ (decL raw).2.2 ≤ 14 := by
  unfold decL
  split
  · exact ⟨by simp, by simp, by simp, by simp⟩
  · have := decV_facts (raw.take (raw.length - 2)) (judgeL (raw.take (raw.length - 2)) (endW raw)) (fun x hx => h x (List.mem_of_mem_take hx))
    refine ⟨Nat.le_trans this.1 (by simp), this.2⟩
theorem decL_nil (raw : List Nat) (h : (decL raw).2.2 ≠ 0) : (decL raw).1 = [] ∧ (decL raw).2.1 = 0 := by
  unfold decL at h ⊢
  split
  · exact ⟨rfl, rfl⟩
  · rename_i h1
    rw [if_neg h1] at h
    unfold decV at h ⊢
    split
    · rename_i h2; rw [if_pos h2] at h; simp at h
    · rename_i h2; rw [if_neg h2] at h
      split
      · rename_i h3; rw [if_pos h3] at h; simp at h
      · rename_i h3; rw [if_neg h3] at h
        split
        · rename_i h4; rw [if_pos h4] at h; simp at h
        · exact ⟨rfl, rfl⟩

theorem le2_length (W : Nat) : (le2 W).length = 2 := rfl
theorem le2_lt (W : Nat) (h : W < 65536) : ∀ x ∈ le2 W, x < 256 := by
  intro x hx
  simp [le2] at hx
  omega
theorem encL_length (l : List Nat) : (encL l).length = l.length + 2 := by simp [encL, le2_length]
theorem decL_parts (l : List Nat) (W : Nat) (h0 : 1 ≤ l.length) (h1 : l.length ≤ 512) : decL (l ++ le2 W) = decV l (judgeL l W) := by
  have e1 : (l ++ le2 W).length - 2 = l.length := by simp [le2_length]
  have e2 : (l ++ le2 W).take l.length = l := by simp
  have e3 : endW (l ++ le2 W) = W := by
    unfold endW
    rw [e1]
    simp [le2, List.getD_eq_getElem?_getD]
    omega
  unfold decL
  rw [if_neg (by simp [le2_length]; omega), e1, e2, e3]

theorem le2_flip (W z : Nat) (hz : z < 16) : flip1 (le2 W) (z : Int) = le2 (W ^^^ 2 ^ z) := by
  have m : (W ^^^ 2 ^ z) % 256 = W % 256 ^^^ 2 ^ z % 256 := Nat.xor_mod_two_pow (n := 8)
  have d : (W ^^^ 2 ^ z) / 256 = W / 256 ^^^ 2 ^ z / 256 := Nat.xor_div_two_pow (n := 8)
  rcases Nat.lt_or_ge z 8 with h | h
  · have h2 : 2 ^ z < 256 := Nat.pow_lt_pow_right (a := 2) (m := z) (n := 8) (by omega) h
    rw [Nat.mod_eq_of_lt h2] at m
    rw [Nat.div_eq_of_lt h2, Nat.xor_zero] at d
    rw [flip1_yes (le2 W) z (W % 256) (by rw [Nat.div_eq_of_lt h]; rfl)]
    unfold le2 mk8
    rw [m, d, Nat.div_eq_of_lt h, Nat.mod_eq_of_lt h]
    rfl
  · obtain ⟨y, rfl⟩ : ∃ y, z = y + 8 := ⟨z - 8, by omega⟩
    have e : 2 ^ (y + 8) = 2 ^ y * 256 := by rw [Nat.pow_add]
    have e0 : 2 ^ (y + 8) % 256 = 0 := by rw [e]; exact Nat.mul_mod_left _ _
    have e1 : 2 ^ (y + 8) / 256 = 2 ^ y := by rw [e]; exact Nat.mul_div_cancel _ (by omega)
    rw [e0, Nat.xor_zero] at m
    rw [e1] at d
    have q1 : (y + 8) / 8 = 1 := by omega
    have q2 : (y + 8) % 8 = y := by omega
    rw [flip1_yes (le2 W) (y + 8) (W / 256) (by rw [q1]; rfl)]
    unfold le2 mk8
    rw [m, d, q1, q2]
    rfl
theorem flip1_left (l t : List Nat) (x : Nat) (h : x < 8 * l.length) : flip1 (l ++ t) (x : Int) = flip1 l (x : Int) ++ t := by
  have hx : x / 8 < l.length := by omega
  rw [flip1_yes (l ++ t) x l[x / 8] (by rw [List.getElem?_append_left hx, List.getElem?_eq_getElem hx]), flip1_yes l x l[x / 8] (List.getElem?_eq_getElem hx)]
  rw [List.set_append_left _ _ hx]
theorem flip1_right (l t : List Nat) (x : Nat) (h : 8 * l.length ≤ x) (h2 : x < 8 * l.length + 8 * t.length) : flip1 (l ++ t) (x : Int) = l ++ flip1 t ((x - 8 * l.length : Nat) : Int) := by
  obtain ⟨y, rfl⟩ : ∃ y, x = 8 * l.length + y := ⟨x - 8 * l.length, by omega⟩
  have e : 8 * l.length + y - 8 * l.length = y := by omega
  have hy : y / 8 < t.length := by omega
  have q1 : (8 * l.length + y) / 8 = l.length + y / 8 := by omega
  have q2 : mk8 (8 * l.length + y) = mk8 y := by unfold mk8; congr 1; omega
  rw [e, flip1_yes t y t[y / 8] (List.getElem?_eq_getElem hy), flip1_yes (l ++ t) (8 * l.length + y) t[y / 8] (by rw [q1, List.getElem?_append_right (by omega), Nat.add_sub_cancel_left, List.getElem?_eq_getElem hy])]
  rw [q1, q2, List.set_append_right _ _ (by omega), Nat.add_sub_cancel_left]
/-- A bit of a codeword turned. -/
theorem flip_code (l : List Nat) (W x : Nat) (hW : W < 65536) (hx : x < 8 * l.length + 16) :
    flip1 (l ++ le2 W) (x : Int) = (turn1 (8 * l.length) (l, W) x).1 ++ le2 (turn1 (8 * l.length) (l, W) x).2 ∧ (turn1 (8 * l.length) (l, W) x).1.length = l.length ∧ (turn1 (8 * l.length) (l, W) x).2 < 65536 := by
  unfold turn1
  by_cases h : x < 8 * l.length
  · simp only [h, if_true]
    exact ⟨flip1_left _ _ _ h, flip1_length _ _, hW⟩
  · simp only [h, if_false]
    refine ⟨?_, trivial, turn_lt W _ hW (by omega)⟩
    rw [flip1_right l (le2 W) x (by omega) (by rw [le2_length]; omega), le2_flip W _ (by omega)]

theorem enc_none (l : List Nat) (h0 : 1 ≤ l.length) (h1 : l.length ≤ 512) : decL (encL l) = (l, 0, 0) := by
  unfold encL
  rw [decL_parts l _ h0 h1, judge_own l h1]
  rfl
theorem enc_one (l : List Nat) (x : Nat) (h0 : 1 ≤ l.length) (h1 : l.length ≤ 512) (hb : ∀ y ∈ l, y < 256) (hx : x < 8 * l.length + 14) : decL (flip1 (encL l) (x : Int)) = (l, 1, 0) := by
  have hw := (wordL_parts l h1).2.2.1
  unfold encL
  obtain ⟨e, _, _⟩ := flip_code l (wordL l) x hw (by omega)
  rw [e]
  unfold turn1
  by_cases h : x < 8 * l.length
  · simp only [h, if_true]
    rw [decL_parts _ _ (by rw [flip1_length]; exact h0) (by rw [flip1_length]; exact h1), judge_flip l x h1 h]
    have := flips_twice l [(x : Int)] hb
    simp only [flips, List.foldl_cons, List.foldl_nil] at this
    simp [decV, this]
  · simp only [h, if_false]
    rw [decL_parts _ _ h0 h1, judge_wbit l _ h1 (by omega)]
    rfl
theorem enc_two (l : List Nat) (x y : Nat) (h0 : 1 ≤ l.length) (h1 : l.length ≤ 512) (hx : x < 8 * l.length + 14) (hy : y < 8 * l.length + 14) (hne : x ≠ y) : decL (flip1 (flip1 (encL l) (x : Int)) (y : Int)) = ([], 0, 14) := by
  have hw := (wordL_parts l h1).2.2.1
  have hb := turn_both l x y h1 hx hy hne
  unfold encL
  obtain ⟨e, e1, e2⟩ := flip_code l (wordL l) x hw (by omega)
  rw [e]
  generalize turn1 (8 * l.length) (l, wordL l) x = s at *
  obtain ⟨l', W'⟩ := s
  simp only at e1 e2 ⊢
  obtain ⟨f, f1, f2⟩ := flip_code l' W' y e2 (by omega)
  rw [f]
  rw [e1] at f1 f2 ⊢
  rw [decL_parts _ _ (by omega) (by omega), hb]
  rfl

/-- A piece of raw bytes. -/
def pieceL (len : Nat) (raw : List Nat) (i : Nat) : List Nat := (raw.drop (i * len)).take len
def piecesL (len : Nat) (raw : List Nat) (k : Nat) : List (List Nat) := (List.range k).map (pieceL len raw)
theorem piecesL_succ (len : Nat) (raw : List Nat) (k : Nat) : piecesL len raw (k + 1) = piecesL len raw k ++ [pieceL len raw k] := by simp [piecesL, List.range_succ]
theorem piecesL_length (len : Nat) (raw : List Nat) (k : Nat) : (piecesL len raw k).length = k := by simp [piecesL]
theorem pieceL_length (len : Nat) (raw : List Nat) (i N : Nat) (h : raw.length = N * len) (hi : i < N) : (pieceL len raw i).length = len := by
  have : (i + 1) * len ≤ N * len := Nat.mul_le_mul_right _ hi
  rw [Nat.add_mul, Nat.one_mul] at this
  simp [pieceL]
  omega
theorem pieceL_lt (len : Nat) (raw : List Nat) (i : Nat) (h : ∀ x ∈ raw, x < 256) : ∀ x ∈ pieceL len raw i, x < 256 := fun x hx => h x (List.mem_of_mem_drop (List.mem_of_mem_take hx))
theorem piecesL_flat (len : Nat) (raw : List Nat) (k : Nat) : (piecesL len raw k).flatten = raw.take (k * len) := by
  induction k with
  | zero => simp [piecesL]
  | succ k ih =>
    rw [piecesL_succ, List.flatten_append, ih, Nat.add_mul, Nat.one_mul, List.take_add]
    simp [pieceL]

/-- All pieces: joined, summed; or the error of the first that has one. -/
def joinD (ps : List (List Nat)) : List Nat := (ps.map fun p => (decL p).1).flatten
def sumD (ps : List (List Nat)) : Nat := (ps.map fun p => (decL p).2.1).sum
def okD (ps : List (List Nat)) : Prop := ∀ p ∈ ps, (decL p).2.2 = 0
def allL (ps : List (List Nat)) : List Nat × Nat × Nat :=
  match ps.find? fun p => decide ((decL p).2.2 ≠ 0) with
  | some p => ([], 0, (decL p).2.2)
  | none => (joinD ps, sumD ps, 0)
theorem allL_ok (ps : List (List Nat)) (h : okD ps) : allL ps = (joinD ps, sumD ps, 0) := by
  unfold allL
  rw [List.find?_eq_none.2 (by intro p hp; simp [h p hp])]
theorem allL_bad (pre rest : List (List Nat)) (x : List Nat) (h : okD pre) (hx : (decL x).2.2 ≠ 0) : allL (pre ++ x :: rest) = ([], 0, (decL x).2.2) := by
  unfold allL
  rw [List.find?_append, List.find?_eq_none.2 (by intro p hp; simp [h p hp])]
  simp [hx]
theorem okD_nil : okD [] := fun p hp => by cases hp
theorem okD_snoc {pre : List (List Nat)} {x : List Nat} (h : okD pre) (hx : (decL x).2.2 = 0) : okD (pre ++ [x]) := by
  intro p hp
  rw [List.mem_append] at hp
  rcases hp with h1 | h1
  · exact h p h1
  · simp at h1; subst h1; exact hx
theorem joinD_snoc (pre : List (List Nat)) (x : List Nat) : joinD (pre ++ [x]) = joinD pre ++ (decL x).1 := by simp [joinD]
theorem sumD_snoc (pre : List (List Nat)) (x : List Nat) : sumD (pre ++ [x]) = sumD pre + (decL x).2.1 := by simp [sumD]
theorem joinD_facts (ps : List (List Nat)) (len : Nat) (h : ∀ p ∈ ps, p.length = len ∧ ∀ x ∈ p, x < 256) : (joinD ps).length ≤ ps.length * len ∧ (∀ x ∈ joinD ps, x < 256) ∧ sumD ps ≤ ps.length := by
  induction ps with
  | nil => exact ⟨by simp [joinD], by simp [joinD], by simp [sumD]⟩
  | cons p ps ih =>
    obtain ⟨h1, h2, h3⟩ := ih fun q hq => h q (List.mem_cons_of_mem _ hq)
    have hp := h p (List.mem_cons_self)
    obtain ⟨d1, d2, d3, _⟩ := decL_facts p hp.2
    refine ⟨?_, ?_, ?_⟩
    · have e : joinD (p :: ps) = (decL p).1 ++ joinD ps := by simp [joinD]
      rw [e, List.length_append, List.length_cons, Nat.add_mul, Nat.one_mul]
      omega
    · have e : joinD (p :: ps) = (decL p).1 ++ joinD ps := by simp [joinD]
      rw [e]
      intro x hx
      rw [List.mem_append] at hx
      rcases hx with hx | hx
      · exact d2 x hx
      · exact h2 x hx
    · have e : sumD (p :: ps) = (decL p).2.1 + sumD ps := by simp [sumD]
      rw [e, List.length_cons]
      omega
theorem piecesL_facts (len : Nat) (raw : List Nat) (k N : Nat) (h : raw.length = N * len) (hk : k ≤ N) (hb : ∀ x ∈ raw, x < 256) : ∀ p ∈ piecesL len raw k, p.length = len ∧ ∀ x ∈ p, x < 256 := by
  intro p hp
  simp only [piecesL, List.mem_map, List.mem_range] at hp
  obtain ⟨i, hi, rfl⟩ := hp
  exact ⟨pieceL_length len raw i N h (by omega), pieceL_lt len raw i hb⟩
end Go.Proofs.Ytgiihdeilkiphaa

/-
  Plain facts on raw pages, of no program: codewords joined, what they hold; one bit turned in each codeword is mended, two in one are refused; few bits turned leave an erased page empty, and a written one not.
-/
namespace Go.Proofs.Ytgiihdeilkiphaa

/-- The lists f 0 .. f (k - 1), joined. -/
def catTo (f : Nat → List Nat) (k : Nat) : List Nat := ((List.range k).map f).flatten
theorem catTo_zero (f : Nat → List Nat) : catTo f 0 = [] := rfl
theorem catTo_succ (f : Nat → List Nat) (k : Nat) : catTo f (k + 1) = catTo f k ++ f k := by simp [catTo, List.range_succ]
theorem catTo_length (f : Nat → List Nat) (m : Nat) : ∀ k, (∀ i, i < k → (f i).length = m) → (catTo f k).length = k * m
  | 0, _ => by simp [catTo]
  | k + 1, h => by
    rw [catTo_succ, List.length_append, catTo_length f m k (fun i hi => h i (by omega)), h k (by omega), Nat.add_mul, Nat.one_mul]
theorem catTo_lt (f : Nat → List Nat) : ∀ k, (∀ i, i < k → ∀ x ∈ f i, x < 256) → ∀ x ∈ catTo f k, x < 256
  | 0, _ => by simp [catTo]
  | k + 1, h => by
    rw [catTo_succ]
    intro x hx
    rw [List.mem_append] at hx
    rcases hx with hx | hx
    · exact catTo_lt f k (fun i hi => h i (by omega)) x hx
    · exact h k (by omega) x hx
theorem catTo_congr (f g : Nat → List Nat) : ∀ k, (∀ i, i < k → f i = g i) → catTo f k = catTo g k
  | 0, _ => rfl
  | k + 1, h => by rw [catTo_succ, catTo_succ, catTo_congr f g k (fun i hi => h i (by omega)), h k (by omega)]
theorem pieceL_catTo (f : Nat → List Nat) (m : Nat) : ∀ k t, (∀ i, i < k → (f i).length = m) → ∀ i, i < k → pieceL m (catTo f k ++ t) i = f i
  | 0, _, _, i, hi => absurd hi (by omega)
  | k + 1, t, h, i, hi => by
    rw [catTo_succ, List.append_assoc]
    by_cases hik : i = k
    · subst hik
      have hl := catTo_length f m i (fun j hj => h j (by omega))
      unfold pieceL
      rw [← hl, List.drop_left, ← h i (by omega), List.take_left]
    · exact pieceL_catTo f m k (f k ++ t) (fun j hj => h j (by omega)) i (by omega)
theorem piecesL_catTo (f : Nat → List Nat) (m k : Nat) (h : ∀ i, i < k → (f i).length = m) : piecesL m (catTo f k) k = (List.range k).map f := by
  unfold piecesL
  refine List.map_congr_left fun i hi => ?_
  have := pieceL_catTo f m k [] h i (by simpa using hi)
  rwa [List.append_nil] at this
theorem catTo_pieces (m : Nat) (l : List Nat) (k : Nat) (h : l.length = k * m) : catTo (pieceL m l) k = l := by
  have := piecesL_flat m l k
  unfold piecesL at this
  unfold catTo
  rw [this, ← h, List.take_length]

/-- f, but for its j-th, of which the bit x is turned. -/
def upd (f : Nat → List Nat) (j x : Nat) : Nat → List Nat := fun i => if i = j then flip1 (f i) (x : Int) else f i
theorem upd_at (f : Nat → List Nat) (j x : Nat) : upd f j x j = flip1 (f j) (x : Int) := if_pos rfl
theorem upd_ne (f : Nat → List Nat) {i j : Nat} (x : Nat) (h : i ≠ j) : upd f j x i = f i := if_neg h
theorem upd_len (f : Nat → List Nat) (j x i : Nat) : (upd f j x i).length = (f i).length := by
  unfold upd
  split
  · rw [flip1_length]
  · rfl
theorem flip_catTo (f : Nat → List Nat) (m j x : Nat) : ∀ k t, (∀ i, i < k → (f i).length = m) → j < k → x < 8 * m → flip1 (catTo f k ++ t) ((8 * (j * m) + x : Nat) : Int) = catTo (upd f j x) k ++ t
  | 0, _, _, hj, _ => absurd hj (by omega)
  | k + 1, t, h, hj, hx => by
    have hl := catTo_length f m k (fun i hi => h i (by omega))
    rw [catTo_succ, catTo_succ, List.append_assoc, List.append_assoc]
    by_cases hjk : j = k
    · subst hjk
      have hf := h j (by omega)
      rw [flip1_right _ _ _ (by omega) (by rw [List.length_append]; omega), show 8 * (j * m) + x - 8 * (catTo f j).length = x by omega, flip1_left _ _ _ (by omega), upd_at, catTo_congr (upd f j x) f j (fun i hi => upd_ne f x (by omega))]
    · rw [flip_catTo f m j x k (f k ++ t) (fun i hi => h i (by omega)) (by omega) hx, upd_ne f x (fun h => hjk h.symm)]

/-- A raw page of the codewords f 0 .. f C. -/
def pg (f : Nat → List Nat) (C : Nat) : List Nat := catTo f C ++ (f C ++ [255])
theorem pg_congr (f g : Nat → List Nat) (C : Nat) (h : ∀ i, i ≤ C → f i = g i) : pg f C = pg g C := by
  unfold pg
  rw [catTo_congr f g C (fun i hi => h i (by omega)), h C (by omega)]
theorem pg_length (f : Nat → List Nat) (C m : Nat) (h : ∀ i, i < C → (f i).length = m) (hC : (f C).length = 30) : (pg f C).length = C * m + 31 := by
  unfold pg
  rw [List.length_append, List.length_append, catTo_length f m C h, hC]
  rfl
theorem pg_lt (f : Nat → List Nat) (C : Nat) (h : ∀ i, i ≤ C → ∀ x ∈ f i, x < 256) : ∀ x ∈ pg f C, x < 256 := by
  unfold pg
  intro x hx
  simp only [List.mem_append, List.mem_singleton] at hx
  rcases hx with hx | hx | rfl
  · exact catTo_lt f C (fun i hi => h i (by omega)) x hx
  · exact h C (by omega) x hx
  · omega
theorem pg_take (f : Nat → List Nat) (C m : Nat) (h : ∀ i, i < C → (f i).length = m) : (pg f C).take (C * m) = catTo f C := by
  unfold pg
  rw [← catTo_length f m C h, List.take_left]
theorem pg_label (f : Nat → List Nat) (C m : Nat) (h : ∀ i, i < C → (f i).length = m) (hC : (f C).length = 30) : ((pg f C).drop (C * m)).take 30 = f C := by
  unfold pg
  rw [← catTo_length f m C h, List.drop_left, ← hC, List.take_left]
theorem flip_pg (f : Nat → List Nat) (C m j x : Nat) (h : ∀ i, i < C → (f i).length = m) (hj : j ≤ C) (hx : x < 8 * (f j).length) : flip1 (pg f C) ((8 * (j * m) + x : Nat) : Int) = pg (upd f j x) C := by
  unfold pg
  by_cases hjC : j = C
  · subst hjC
    have hl := catTo_length f m j h
    rw [flip1_right _ _ _ (by omega) (by rw [List.length_append]; omega), show 8 * (j * m) + x - 8 * (catTo f j).length = x by omega, flip1_left _ _ _ (by omega), upd_at, catTo_congr (upd f j x) f j (fun i hi => upd_ne f x (by omega))]
  · rw [flip_catTo f m j x C _ h (by omega) (by rw [← h j (by omega)]; exact hx), upd_ne f x (fun h => hjC h.symm)]

/-- What a raw page of C chunks of K bytes has, told by the codewords of the chunks and that of the tag: data, tag, state, error. -/
def decQ (C K : Nat) (ch lab : List Nat) : List Nat × Tg × Nat × Int :=
  if 220 ≤ ones lab then ([], Tg.zero, 2, 0) else
  if (allL (piecesL (K + 2) ch C)).2.2 ≠ 0 then ([], Tg.zero, 0, ((allL (piecesL (K + 2) ch C)).2.2 : Int)) else
  if (decL lab).2.2 ≠ 0 then ([], Tg.zero, 0, ((decL lab).2.2 : Int)) else
  if le4 (sumL ((allL (piecesL (K + 2) ch C)).1 ++ (decL lab).1.take 24)) ≠ (decL lab).1.drop 24 then ([], Tg.zero, 0, 12) else
  if (takeT ((decL lab).1.take 24)).2 ≠ 0 then ([], Tg.zero, 0, (takeT ((decL lab).1.take 24)).2) else
  ((allL (piecesL (K + 2) ch C)).1, (takeT ((decL lab).1.take 24)).1, if 0 < (allL (piecesL (K + 2) ch C)).2.1 + (decL lab).2.1 then 1 else 0, 0)
def decP (C K : Nat) (raw : List Nat) : List Nat × Tg × Nat × Int := decQ C K (raw.take (C * (K + 2))) ((raw.drop (C * (K + 2))).take 30)

section
variable {C K : Nat} {ch lab d b : List Nat} {n m e : Nat} {t : Tg} {er : Int}
theorem decQ_empty (h : 220 ≤ ones lab) : decQ C K ch lab = ([], Tg.zero, 2, 0) := by unfold decQ; rw [if_pos h]
theorem decQ_chunks (h : ¬ 220 ≤ ones lab) (ha : allL (piecesL (K + 2) ch C) = (d, n, e)) (he : e ≠ 0) : decQ C K ch lab = ([], Tg.zero, 0, (e : Int)) := by unfold decQ; rw [if_neg h, ha]; simp only; rw [if_pos he]
theorem decQ_label (h : ¬ 220 ≤ ones lab) (ha : allL (piecesL (K + 2) ch C) = (d, n, 0)) (hb : decL lab = (b, m, e)) (he : e ≠ 0) : decQ C K ch lab = ([], Tg.zero, 0, (e : Int)) := by
  unfold decQ; rw [if_neg h, ha, hb]; simp only; rw [if_neg (by simp), if_pos he]
theorem decQ_sum (h : ¬ 220 ≤ ones lab) (ha : allL (piecesL (K + 2) ch C) = (d, n, 0)) (hb : decL lab = (b, m, 0)) (hs : le4 (sumL (d ++ b.take 24)) ≠ b.drop 24) : decQ C K ch lab = ([], Tg.zero, 0, 12) := by
  unfold decQ; rw [if_neg h, ha, hb]; simp only; rw [if_neg (by simp), if_neg (by simp), if_pos hs]
theorem decQ_tag (h : ¬ 220 ≤ ones lab) (ha : allL (piecesL (K + 2) ch C) = (d, n, 0)) (hb : decL lab = (b, m, 0)) (hs : le4 (sumL (d ++ b.take 24)) = b.drop 24) (ht : takeT (b.take 24) = (t, er)) (he : er ≠ 0) : decQ C K ch lab = ([], Tg.zero, 0, er) := by
  unfold decQ; rw [if_neg h, ha, hb]; simp only; rw [if_neg (by simp), if_neg (by simp), if_neg (by simpa using hs), ht]; simp only; rw [if_pos he]
theorem decQ_ok (h : ¬ 220 ≤ ones lab) (ha : allL (piecesL (K + 2) ch C) = (d, n, 0)) (hb : decL lab = (b, m, 0)) (hs : le4 (sumL (d ++ b.take 24)) = b.drop 24) (ht : takeT (b.take 24) = (t, 0)) : decQ C K ch lab = (d, t, if 0 < n + m then 1 else 0, 0) := by
  unfold decQ; rw [if_neg h, ha, hb]; simp only; rw [if_neg (by simp), if_neg (by simp), if_neg (by simpa using hs), ht]; simp
theorem decQ_state (h : ¬ 220 ≤ ones lab) : (decQ C K ch lab).2.2.1 ≤ 1 := by
  unfold decQ
  rw [if_neg h]
  split
  · simp
  · split
    · simp
    · split
      · simp
      · split
        · simp
        · simp only
          split <;> simp
end

/-- What stands in the i-th codeword of a raw page. -/
def part (C K : Nat) (d tb : List Nat) (i : Nat) : List Nat := if i = C then tb ++ le4 (sumL (d ++ tb)) else pieceL K d i
def cws (C K : Nat) (d tb : List Nat) (i : Nat) : List Nat := encL (part C K d tb i)
/-- The raw page of data and the bytes of a tag. -/
def pageL (C K : Nat) (d tb : List Nat) : List Nat := pg (cws C K d tb) C
theorem pageL_eq (C K : Nat) (d tb : List Nat) : pageL C K d tb = catTo (fun i => encL (pieceL K d i)) C ++ (encL (tb ++ le4 (sumL (d ++ tb))) ++ [255]) := by
  unfold pageL pg
  rw [catTo_congr (cws C K d tb) (fun i => encL (pieceL K d i)) C (fun i hi => by unfold cws part; rw [if_neg (by omega)])]
  unfold cws part
  rw [if_pos rfl]
theorem encL_lt (l : List Nat) (h : ∀ x ∈ l, x < 256) (hl : l.length ≤ 512) : ∀ x ∈ encL l, x < 256 := by
  unfold encL
  intro x hx
  rw [List.mem_append] at hx
  rcases hx with hx | hx
  · exact h x hx
  · exact le2_lt _ (wordL_parts l hl).2.2.1 x hx

/-- A page that can be written: its sizes. -/
structure PgOk (C K : Nat) (d tb : List Nat) : Prop where
  k0 : 1 ≤ K
  k1 : K ≤ 512
  len : d.length = C * K
  lt : ∀ x ∈ d, x < 256
  tlen : tb.length = 24
  tlt : ∀ x ∈ tb, x < 256

section
variable {C K : Nat} {d tb : List Nat}
theorem part_len (h : PgOk C K d tb) (i : Nat) (hi : i ≤ C) : (part C K d tb i).length = if i = C then 28 else K := by
  unfold part
  split
  · rw [List.length_append, h.tlen, le4_length]
  · exact pieceL_length K d i C h.len (by omega)
theorem part_bd (h : PgOk C K d tb) (i : Nat) (hi : i ≤ C) : 1 ≤ (part C K d tb i).length ∧ (part C K d tb i).length ≤ 512 := by
  rw [part_len h i hi]
  have := h.k0
  have := h.k1
  split <;> omega
theorem part_lt (h : PgOk C K d tb) (i : Nat) : ∀ x ∈ part C K d tb i, x < 256 := by
  unfold part
  split
  · intro x hx
    rw [List.mem_append] at hx
    rcases hx with hx | hx
    · exact h.tlt x hx
    · exact le4_lt _ x hx
  · exact pieceL_lt K d i h.lt
theorem cws_len (h : PgOk C K d tb) (i : Nat) (hi : i < C) : (cws C K d tb i).length = K + 2 := by
  unfold cws
  rw [encL_length, part_len h i (by omega), if_neg (by omega)]
theorem cws_last (h : PgOk C K d tb) : (cws C K d tb C).length = 30 := by
  unfold cws
  rw [encL_length, part_len h C (by omega), if_pos rfl]
theorem cws_lt (h : PgOk C K d tb) (i : Nat) (hi : i ≤ C) : ∀ x ∈ cws C K d tb i, x < 256 := encL_lt _ (part_lt h i) (part_bd h i hi).2
theorem pageL_length (h : PgOk C K d tb) : (pageL C K d tb).length = C * (K + 2) + 31 := pg_length _ C (K + 2) (fun i hi => cws_len h i hi) (cws_last h)
theorem pageL_lt (h : PgOk C K d tb) : ∀ x ∈ pageL C K d tb, x < 256 := pg_lt _ C (fun i hi => cws_lt h i hi)
theorem catTo_parts (h : PgOk C K d tb) : catTo (part C K d tb) C = d := by
  rw [catTo_congr (part C K d tb) (pieceL K d) C (fun i hi => by unfold part; rw [if_neg (by omega)])]
  exact catTo_pieces K d C h.len
end

/-- How many bits of the i-th codeword count. -/
def wid (C K i : Nat) : Nat := if i = C then 238 else 8 * K + 14
/-- Codewords of which the first j have the bit turned that a list names for them, if it is one that counts. -/
def hit (C K : Nat) (l : List Nat) (j i : Nat) : Bool := decide (i < j) && (decide (i < l.length) && decide (l.getD i 0 < wid C K i))
def turnF (C K : Nat) (l : List Nat) (f : Nat → List Nat) (j i : Nat) : List Nat := if hit C K l j i then flip1 (f i) ((l.getD i 0 : Nat) : Int) else f i
theorem hit_zero (C K : Nat) (l : List Nat) (i : Nat) : hit C K l 0 i = false := by simp [hit]
theorem turnF_zero (C K : Nat) (l : List Nat) (f : Nat → List Nat) : turnF C K l f 0 = f := by
  funext i
  unfold turnF
  rw [hit_zero]
  rfl
theorem hit_succ_ne (C K : Nat) (l : List Nat) (j i : Nat) (h : i ≠ j) : hit C K l (j + 1) i = hit C K l j i := by
  unfold hit
  congr 1
  rw [decide_eq_decide]
  omega
theorem hit_at (C K : Nat) (l : List Nat) (j k : Nat) (hk : l[j]? = some k) : hit C K l j j = false ∧ hit C K l (j + 1) j = decide (k < wid C K j) := by
  have hl : j < l.length := (List.getElem?_eq_some_iff.1 hk).1
  unfold hit
  rw [List.getD_eq_getElem?_getD, hk]
  simp [hl]
theorem turnF_len (C K : Nat) (l : List Nat) (f : Nat → List Nat) (j i : Nat) : (turnF C K l f j i).length = (f i).length := by
  unfold turnF
  split
  · rw [flip1_length]
  · rfl
theorem turn_yes (C K : Nat) (l : List Nat) (f : Nat → List Nat) (j k : Nat) (hk : l[j]? = some k) (hj : j ≤ C) (hw : k < wid C K j) (h : ∀ i, i < C → (f i).length = K + 2) (hC : (f C).length = 30) :
    flip1 (pg (turnF C K l f j) C) ((8 * (j * (K + 2)) + k : Nat) : Int) = pg (turnF C K l f (j + 1)) C := by
  have hx : k < 8 * (turnF C K l f j j).length := by
    rw [turnF_len]
    unfold wid at hw
    by_cases hjC : j = C
    · subst hjC; rw [if_pos rfl] at hw; omega
    · rw [if_neg hjC] at hw; rw [h j (by omega)]; omega
  rw [flip_pg _ C (K + 2) j k (fun i hi => by rw [turnF_len]; exact h i hi) hj hx]
  refine pg_congr _ _ C fun i hi => ?_
  by_cases hij : i = j
  · subst hij
    rw [upd_at]
    unfold turnF
    rw [(hit_at C K l i k hk).1, (hit_at C K l i k hk).2, decide_eq_true hw, List.getD_eq_getElem?_getD, hk]
    rfl
  · rw [upd_ne _ _ hij]
    unfold turnF
    rw [hit_succ_ne C K l j i hij]
theorem turn_no (C K : Nat) (l : List Nat) (f : Nat → List Nat) (j k : Nat) (hk : l[j]? = some k) (hw : ¬ (j ≤ C ∧ k < wid C K j)) : pg (turnF C K l f j) C = pg (turnF C K l f (j + 1)) C := by
  refine pg_congr _ _ C fun i hi => ?_
  unfold turnF
  by_cases hij : i = j
  · subst hij
    rw [(hit_at C K l i k hk).1, (hit_at C K l i k hk).2, decide_eq_false (fun h => hw ⟨hi, h⟩)]
  · rw [hit_succ_ne C K l j i hij]

theorem flip8_fin : ∀ (x : Fin 256) (t : Fin 8), Lib.onesCount (x.val ^^^ 2 ^ t.val) ≤ Lib.onesCount x.val + 1 ∧ Lib.onesCount x.val ≤ Lib.onesCount (x.val ^^^ 2 ^ t.val) + 1 := by decide +kernel
theorem flip8 (x i : Nat) (h : x < 256) : Lib.onesCount (x ^^^ mk8 i) ≤ Lib.onesCount x + 1 ∧ Lib.onesCount x ≤ Lib.onesCount (x ^^^ mk8 i) + 1 := flip8_fin ⟨x, h⟩ ⟨i % 8, Nat.mod_lt _ (by omega)⟩
theorem ones_set (l : List Nat) : ∀ (j x y : Nat), l[j]? = some x → ones (l.set j y) + Lib.onesCount x = ones l + Lib.onesCount y := by
  induction l with
  | nil => intro j x y h; simp at h
  | cons a t ih =>
    intro j x y h
    match j with
    | 0 => simp at h; subst h; simp [ones]; omega
    | j + 1 =>
      have := ih j x y (by simpa using h)
      simp [ones] at this ⊢
      omega
theorem ones_set_flip (l : List Nat) (hl : ∀ x ∈ l, x < 256) (j x i : Nat) (h : l[j]? = some x) : ones (l.set j (x ^^^ mk8 i)) ≤ ones l + 1 ∧ ones l ≤ ones (l.set j (x ^^^ mk8 i)) + 1 := by
  have h1 := ones_set l j x (x ^^^ mk8 i) h
  have h2 := flip8 x i (hl x (List.mem_of_getElem? h))
  omega
/-- A turned bit changes the number of ones of a part by one at most. -/
theorem ones_sub_flip (l : List Nat) (hl : ∀ x ∈ l, x < 256) (p : Int) (a b : Nat) :
    ones (((flip1 l p).drop a).take b) ≤ ones ((l.drop a).take b) + 1 ∧ ones ((l.drop a).take b) ≤ ones (((flip1 l p).drop a).take b) + 1 := by
  unfold flip1
  split
  · rename_i hp
    generalize hj : p.toNat / 8 = j
    have hjl : j < l.length := by omega
    have hx : l.getD j 0 = l[j] := by rw [List.getD_eq_getElem?_getD, List.getElem?_eq_getElem hjl]; rfl
    rw [hx, List.drop_set]
    split
    · omega
    · rename_i hja
      rw [List.take_set]
      by_cases hjb : j - a < b
      · have hs : ((l.drop a).take b)[j - a]? = some l[j] := by
          rw [List.getElem?_take, if_pos hjb, List.getElem?_drop, show a + (j - a) = j by omega, List.getElem?_eq_getElem hjl]
        exact ones_set_flip _ (fun x hx => hl x (List.mem_of_mem_drop (List.mem_of_mem_take hx))) _ _ _ hs
      · rw [List.set_eq_of_length_le (by simp; omega)]
        omega
  · omega
theorem ones_sub_flips (a b : Nat) : ∀ (ps : List Int) (l : List Nat), (∀ x ∈ l, x < 256) → ones (((flips l ps).drop a).take b) ≤ ones ((l.drop a).take b) + ps.length ∧ ones ((l.drop a).take b) ≤ ones (((flips l ps).drop a).take b) + ps.length
  | [], l, _ => by simp [flips]
  | p :: ps, l, hl => by
    have h1 := ones_sub_flip l hl p a b
    have h2 := ones_sub_flips a b ps (flip1 l p) (flip1_lt l p hl)
    have e : flips l (p :: ps) = flips (flip1 l p) ps := rfl
    rw [e, List.length_cons]
    omega

/-- The codeword of a tag has few ones. -/
theorem label_few {C K : Nat} {d : List Nat} (t : Tg) : ones (cws C K d t.bytes C) ≤ 184 := by
  unfold cws part encL
  rw [if_pos rfl, ones_app, ones_app]
  have h1 := t.few
  have h2 := ones_le (le4 (sumL (d ++ t.bytes))) (le4_lt _)
  have hw : wordL (t.bytes ++ le4 (sumL (d ++ t.bytes))) < 65536 := (wordL_parts _ (by rw [List.length_append, t.bytes_len, le4_length]; omega)).2.2.1
  have h3 := ones_le _ (le2_lt _ hw)
  rw [le4_length] at h2
  rw [le2_length] at h3
  omega
theorem ones_flip (l : List Nat) (hl : ∀ x ∈ l, x < 256) (p : Int) : ones (flip1 l p) ≤ ones l + 1 := by
  have h := (ones_sub_flip l hl p 0 l.length).1
  simpa [flip1_length, List.take_of_length_le] using h

theorem pageOk (C K : Nat) (d : List Nat) (t : Tg) (k0 : 1 ≤ K) (k1 : K ≤ 512) (len : d.length = C * K) (lt : ∀ x ∈ d, x < 256) : PgOk C K d t.bytes := ⟨k0, k1, len, lt, t.bytes_len, t.bytes_lt⟩

section
variable {C K : Nat} {d : List Nat} {t : Tg}
/-- With the codewords F, each of which is decoded to its part, with b i turned bits found, the page is read. -/
theorem dec_of (h : PgOk C K d t.bytes) (ht : t.ok = true) (F : Nat → List Nat) (b : Nat → Nat) (hl : ∀ i, i < C → (F i).length = K + 2) (hC : (F C).length = 30) (hd : ∀ i, i ≤ C → decL (F i) = (part C K d t.bytes i, b i, 0)) (ho : ones (F C) < 220) :
    decP C K (pg F C) = (d, t, if 0 < ((List.range (C + 1)).map b).sum then 1 else 0, 0) := by
  unfold decP
  rw [pg_take F C (K + 2) hl, pg_label F C (K + 2) hl hC]
  have hok : okD ((List.range C).map F) := by
    intro p hp
    simp only [List.mem_map, List.mem_range] at hp
    obtain ⟨i, hi, rfl⟩ := hp
    rw [hd i (by omega)]
  have hj : joinD ((List.range C).map F) = d := by
    unfold joinD
    rw [List.map_map]
    have e : (List.range C).map ((fun p => (decL p).1) ∘ F) = (List.range C).map (part C K d t.bytes) := List.map_congr_left fun i hi => by
      simp only [Function.comp, hd i (by have := List.mem_range.1 hi; omega)]
    rw [e]
    exact catTo_parts h
  have hs : sumD ((List.range C).map F) = ((List.range C).map b).sum := by
    unfold sumD
    rw [List.map_map]
    congr 1
    exact List.map_congr_left fun i hi => by simp only [Function.comp, hd i (by have := List.mem_range.1 hi; omega)]
  have ha : allL (piecesL (K + 2) (catTo F C) C) = (d, ((List.range C).map b).sum, 0) := by
    rw [piecesL_catTo F (K + 2) C hl, allL_ok _ hok, hj, hs]
  have hb : decL (F C) = (t.bytes ++ le4 (sumL (d ++ t.bytes)), b C, 0) := by
    rw [hd C (Nat.le_refl _)]
    unfold part
    rw [if_pos rfl]
  have e1 : (t.bytes ++ le4 (sumL (d ++ t.bytes))).take 24 = t.bytes := by rw [← t.bytes_len, List.take_left]
  have e2 : (t.bytes ++ le4 (sumL (d ++ t.bytes))).drop 24 = le4 (sumL (d ++ t.bytes)) := by rw [← t.bytes_len, List.drop_left]
  rw [decQ_ok (by omega) ha hb (by rw [e1, e2]) (by rw [e1]; exact takeT_bytes ht)]
  rw [List.range_succ, List.map_append, List.sum_append]
  simp
theorem wid_len (h : PgOk C K d t.bytes) (i : Nat) (hi : i ≤ C) : wid C K i = 8 * (part C K d t.bytes i).length + 14 := by
  rw [part_len h i hi]
  unfold wid
  split <;> omega
/-- One bit turned in each codeword that the list names one for: the page is read as it was, and it is whole just if no bit was turned. -/
theorem dec_turned (h : PgOk C K d t.bytes) (ht : t.ok = true) (l : List Nat) (j : Nat) :
    ∃ s, decP C K (pg (turnF C K l (cws C K d t.bytes) j) C) = (d, t, s, 0) ∧ s ≤ 1 ∧ (s = 0 ↔ pg (turnF C K l (cws C K d t.bytes) j) C = pageL C K d t.bytes) := by
  have dec : ∀ l j, decP C K (pg (turnF C K l (cws C K d t.bytes) j) C) = (d, t, if 0 < ((List.range (C + 1)).map fun i => (hit C K l j i).toNat).sum then 1 else 0, 0) := by
    intro l j
    refine dec_of h ht _ _ (fun i hi => by rw [turnF_len]; exact cws_len h i hi) (by rw [turnF_len]; exact cws_last h) (fun i hi => ?_) ?_
    · unfold turnF cws
      have hb := part_bd h i hi
      cases hh : hit C K l j i
      · exact enc_none _ hb.1 hb.2
      · refine enc_one _ _ hb.1 hb.2 (part_lt h i) ?_
        have hw : l.getD i 0 < wid C K i := by
          unfold hit at hh
          simp only [Bool.and_eq_true, decide_eq_true_eq] at hh
          exact hh.2.2
        rw [wid_len h i hi] at hw
        exact hw
    · have h1 := label_few (C := C) (K := K) (d := d) t
      unfold turnF
      split
      · have := ones_flip (cws C K d t.bytes C) (cws_lt h C (Nat.le_refl _)) ((l.getD C 0 : Nat) : Int)
        omega
      · omega
  refine ⟨_, dec l j, by split <;> omega, ?_⟩
  constructor
  · intro hs
    refine pg_congr _ _ C fun i hi => ?_
    have h0 : ((List.range (C + 1)).map fun i => (hit C K l j i).toNat).sum = 0 := by
      by_cases hp : 0 < ((List.range (C + 1)).map fun i => (hit C K l j i).toNat).sum
      · rw [if_pos hp] at hs; omega
      · omega
    have hz : (hit C K l j i).toNat = 0 := by
      have := List.sum_eq_zero_iff_forall_eq_nat.1 h0 ((hit C K l j i).toNat) (List.mem_map.2 ⟨i, List.mem_range.2 (by omega), rfl⟩)
      exact this
    unfold turnF
    cases hh : hit C K l j i
    · rfl
    · rw [hh] at hz; simp at hz
  · intro he
    have h1 := dec l j
    have h2 := dec [] 0
    have e : pg (turnF C K [] (cws C K d t.bytes) 0) C = pageL C K d t.bytes := by rw [turnF_zero]; rfl
    rw [e, ← he, h1] at h2
    simp only [Prod.mk.injEq, true_and, and_true] at h2
    rw [h2]
    have : ((List.range (C + 1)).map fun i => (hit C K [] 0 i).toNat).sum = 0 := List.sum_eq_zero_iff_forall_eq_nat.2 fun x hx => by
      simp only [List.mem_map] at hx
      obtain ⟨i, _, rfl⟩ := hx
      rw [hit_zero]
      rfl
    rw [this]
    rfl
/-- Two bits turned in the first codeword. -/
theorem dec_two (h : PgOk C K d t.bytes) (hC : 1 ≤ C) (x y : Nat) (hx : x < 8 * K + 14) (hy : y < 8 * K + 14) (hne : x ≠ y) : decP C K (flips (pageL C K d t.bytes) [(x : Int), (y : Int)]) = ([], Tg.zero, 0, 14) := by
  have e : flips (pageL C K d t.bytes) [(x : Int), (y : Int)] = flip1 (flip1 (pageL C K d t.bytes) (x : Int)) (y : Int) := rfl
  have hl := fun i hi => cws_len h i hi
  have e1 : flip1 (pageL C K d t.bytes) (x : Int) = pg (upd (cws C K d t.bytes) 0 x) C := by
    have := flip_pg (cws C K d t.bytes) C (K + 2) 0 x hl (by omega) (by rw [hl 0 (by omega)]; omega)
    rw [Nat.zero_mul, Nat.mul_zero, Nat.zero_add] at this
    exact this
  have hl1 : ∀ i, i < C → (upd (cws C K d t.bytes) 0 x i).length = K + 2 := fun i hi => (upd_len _ _ _ _).trans (hl i hi)
  have e2 : flip1 (pg (upd (cws C K d t.bytes) 0 x) C) (y : Int) = pg (upd (upd (cws C K d t.bytes) 0 x) 0 y) C := by
    have := flip_pg (upd (cws C K d t.bytes) 0 x) C (K + 2) 0 y hl1 (by omega) (by rw [hl1 0 (by omega)]; omega)
    rw [Nat.zero_mul, Nat.mul_zero, Nat.zero_add] at this
    exact this
  have hl2 : ∀ i, i < C → (upd (upd (cws C K d t.bytes) 0 x) 0 y i).length = K + 2 := fun i hi => (upd_len _ _ _ _).trans (hl1 i hi)
  have hlast : upd (upd (cws C K d t.bytes) 0 x) 0 y C = cws C K d t.bytes C := by rw [upd_ne _ _ (by omega), upd_ne _ _ (by omega)]
  rw [e, e1, e2]
  unfold decP
  rw [pg_take _ C (K + 2) hl2, pg_label _ C (K + 2) hl2 (by rw [hlast]; exact cws_last h), hlast]
  have hb := part_bd h 0 (by omega)
  have hp : (part C K d t.bytes 0).length = K := by rw [part_len h 0 (by omega), if_neg (by omega)]
  have hd : decL (upd (upd (cws C K d t.bytes) 0 x) 0 y 0) = ([], 0, 14) := by
    rw [upd_at, upd_at]
    exact enc_two _ x y hb.1 hb.2 (by rw [hp]; exact hx) (by rw [hp]; exact hy) hne
  have ha : allL (piecesL (K + 2) (catTo (upd (upd (cws C K d t.bytes) 0 x) 0 y) C) C) = ([], 0, 14) := by
    rw [piecesL_catTo _ (K + 2) C hl2]
    obtain ⟨c, rfl⟩ : ∃ c, C = c + 1 := ⟨C - 1, by omega⟩
    rw [List.range_succ_eq_map, List.map_cons]
    have := allL_bad [] (((List.range c).map Nat.succ).map (upd (upd (cws (c + 1) K d t.bytes) 0 x) 0 y)) (upd (upd (cws (c + 1) K d t.bytes) 0 x) 0 y 0) okD_nil (by rw [hd]; simp)
    rw [hd] at this
    exact this
  exact decQ_chunks (e := 14) (by have := label_few (C := C) (K := K) (d := d) t; omega) ha (by decide)
end

/-- Few bits turned: an erased page is empty, a written one isn't. -/
theorem dec_erased (C K n : Nat) (hn : n = C * (K + 2) + 31) (ps : List Int) (hp : ps.length ≤ 10) : decP C K (flips (List.replicate n 255) ps) = ([], Tg.zero, 2, 0) := by
  unfold decP
  refine decQ_empty ?_
  have h := (ones_sub_flips (C * (K + 2)) 30 ps (List.replicate n 255) (by intro x hx; rw [(List.mem_replicate.1 hx).2]; omega)).2
  have e : ones (((List.replicate n 255).drop (C * (K + 2))).take 30) = 240 := by
    rw [List.drop_replicate, List.take_replicate, show min 30 (n - C * (K + 2)) = 30 by omega]
    decide +kernel
  omega
theorem dec_written {C K : Nat} {d : List Nat} {t : Tg} (h : PgOk C K d t.bytes) (ps : List Int) (hp : ps.length ≤ 10) : (decP C K (flips (pageL C K d t.bytes) ps)).2.2.1 ≤ 1 := by
  unfold decP
  refine decQ_state ?_
  have h1 := (ones_sub_flips (C * (K + 2)) 30 ps (pageL C K d t.bytes) (pageL_lt h)).1
  have e : ((pageL C K d t.bytes).drop (C * (K + 2))).take 30 = cws C K d t.bytes C := pg_label _ C (K + 2) (fun i hi => cws_len h i hi) (cws_last h)
  rw [e] at h1
  have := label_few (C := C) (K := K) (d := d) t
  omega
/-- The mark makes no difference. -/
theorem dec_mark (C K : Nat) (l : List Nat) (x : Nat) (h : l.length = C * (K + 2) + 31) : decP C K (l.set (l.length - 1) x) = decP C K l := by
  unfold decP
  rw [List.take_set, List.set_eq_of_length_le (by simp; omega), List.drop_set, if_neg (by omega), List.take_set, List.set_eq_of_length_le (by simp; omega)]
/-- How many bytes what is read has. -/
theorem decP_len (C K : Nat) (raw : List Nat) (h : raw.length = C * (K + 2) + 31) (hb : ∀ x ∈ raw, x < 256) : (decP C K raw).1.length ≤ C * (K + 2) := by
  have ht : (raw.take (C * (K + 2))).length = C * (K + 2) := by rw [List.length_take]; omega
  have key : (allL (piecesL (K + 2) (raw.take (C * (K + 2))) C)).1.length ≤ C * (K + 2) := by
    have hf := joinD_facts (piecesL (K + 2) (raw.take (C * (K + 2))) C) (K + 2) (piecesL_facts (K + 2) _ C C ht (Nat.le_refl _) (fun x hx => hb x (List.mem_of_mem_take hx)))
    rw [piecesL_length] at hf
    unfold allL
    split
    · simp
    · exact hf.1
  unfold decP decQ
  split
  · simp
  · split
    · simp
    · split
      · simp
      · split
        · simp
        · split
          · simp
          · exact key
end Go.Proofs.Ytgiihdeilkiphaa
