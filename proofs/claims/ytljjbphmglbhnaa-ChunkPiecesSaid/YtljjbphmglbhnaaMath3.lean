/-
  Plain facts on the document's own way of telling bits: lists of 0 and 1, their bytes.
-/
import Derived.Test.YtljjbphmglbhnaaMath2
namespace Go.Proofs.Ytljjbphmglbhnaa

/-- 0 or 1. -/
def bi (b : Bool) : Int := if b then 1 else 0
theorem bi_01 (b : Bool) : 0 ≤ bi b ∧ bi b ≤ 1 := by cases b <;> simp [bi]
theorem bi_inj {a b : Bool} (h : bi a = bi b) : a = b := by cases a <;> cases b <;> simp_all [bi]
/-- x, halved t times. -/
def hv (x t : Nat) : Nat := x / 2 ^ t
theorem hv_zero (x : Nat) : hv x 0 = x := by simp [hv]
theorem hv_succ (x t : Nat) : hv x (t + 1) = hv x t / 2 := by unfold hv; rw [Nat.pow_succ, Nat.div_div_eq_div_mul]
theorem hv_le (x t : Nat) : hv x t ≤ x := Nat.div_le_self _ _
theorem hv_bit (x t : Nat) : ((hv x t % 2 : Nat) : Int) = bi (x.testBit t) := by
  unfold hv bi
  rw [Nat.testBit_eq_decide_div_mod_eq]
  rcases Nat.mod_two_eq_zero_or_one (x / 2 ^ t) with h | h <;> simp [h]
theorem getN_of (l : List Nat) (j x : Nat) (h : l[j / 8]? = some x) : getN l j = x.testBit (j % 8) := by simp [getN, h]

/-- The bits of bytes, in their order. -/
def bitsB (l : List Nat) : List Bool := (List.range (8 * l.length)).map fun i => getN l i
def bis (bs : List Bool) : List Int := bs.map bi
theorem bitsB_length (l : List Nat) : (bitsB l).length = 8 * l.length := by simp [bitsB]
theorem bis_length (bs : List Bool) : (bis bs).length = bs.length := by simp [bis]
theorem bis_append (x y : List Bool) : bis (x ++ y) = bis x ++ bis y := by simp [bis]
def bitsTo (l : List Nat) (k : Nat) : List Bool := (List.range k).map fun i => getN l i
theorem bitsTo_succ (l : List Nat) (k : Nat) : bitsTo l (k + 1) = bitsTo l k ++ [getN l k] := by simp [bitsTo, List.range_succ]
theorem bitsTo_length (l : List Nat) (k : Nat) : (bitsTo l k).length = k := by simp [bitsTo]
theorem bitsB_get (l : List Nat) (i : Nat) (h : i < 8 * l.length) : (bitsB l)[i]? = some (getN l i) := by
  unfold bitsB; rw [List.getElem?_map, List.getElem?_range h]; rfl
theorem bitsB_getD (l : List Nat) (i : Nat) (h : i < 8 * l.length) : (bitsB l).getD i false = getN l i := by
  rw [List.getD_eq_getElem?_getD, bitsB_get l i h]; rfl

/-- Eight bits from place n on, the last first, t of them. -/
def hor (bs : List Bool) (n : Nat) : Nat → Nat
  | 0 => 0
  | t + 1 => 2 * hor bs n t + (bs.getD (n + (7 - t)) false).toNat
theorem hor_lt (bs : List Bool) (n t : Nat) : hor bs n t < 2 ^ t := by
  induction t with
  | zero => simp [hor]
  | succ t ih =>
    have := Bool.toNat_le (bs.getD (n + (7 - t)) false)
    simp only [hor, Nat.pow_succ]
    omega
theorem hor_lt8 (bs : List Bool) (n t : Nat) (h : t ≤ 8) : hor bs n t < 256 := Nat.lt_of_lt_of_le (hor_lt bs n t) (Nat.pow_le_pow_right (n := 2) (by omega) h)
theorem hor_bit (bs : List Bool) (n : Nat) : ∀ t s, t ≤ 8 → s < t → (hor bs n t).testBit s = bs.getD (n + (8 - t + s)) false := by
  intro t
  induction t with
  | zero => intro s _ h; omega
  | succ t ih =>
    intro s h8 hs
    rw [hor]
    rcases s with _ | s
    · rw [show 8 - (t + 1) + 0 = 7 - t by omega, Nat.testBit_zero]
      cases bs.getD (n + (7 - t)) false
      · simp
      · simp only [Bool.toNat_true]
        apply decide_eq_true
        omega
    · rw [Nat.testBit_succ]
      have e : (2 * hor bs n t + (bs.getD (n + (7 - t)) false).toNat) / 2 = hor bs n t := by
        have := Bool.toNat_le (bs.getD (n + (7 - t)) false)
        omega
      rw [e, ih s (by omega) (by omega), show 8 - (t + 1) + (s + 1) = 8 - t + s by omega]
/-- The bytes of bits. -/
def ofTo (bs : List Bool) (k : Nat) : List Nat := (List.range k).map fun n => hor bs (8 * n) 8
theorem ofTo_succ (bs : List Bool) (k : Nat) : ofTo bs (k + 1) = ofTo bs k ++ [hor bs (8 * k) 8] := by simp [ofTo, List.range_succ]
theorem ofTo_length (bs : List Bool) (k : Nat) : (ofTo bs k).length = k := by simp [ofTo]
theorem ofTo_lt (bs : List Bool) (k : Nat) : ∀ x ∈ ofTo bs k, x < 256 := by
  intro x hx
  simp only [ofTo, List.mem_map] at hx
  obtain ⟨n, _, rfl⟩ := hx
  exact hor_lt8 bs _ 8 (by omega)
theorem getN_ofTo (bs : List Bool) (k i : Nat) (h : i < 8 * k) : getN (ofTo bs k) i = bs.getD i false := by
  unfold getN ofTo
  have e : ((List.range k).map fun n => hor bs (8 * n) 8).getD (i / 8) 0 = hor bs (8 * (i / 8)) 8 := by
    rw [List.getD_eq_getElem?_getD, List.getElem?_map, List.getElem?_range (by omega)]
    rfl
  rw [e, hor_bit bs _ 8 (i % 8) (by omega) (by omega)]
  congr 1
  omega
/-- Bytes that have these bits, so many, are these bytes. -/
theorem ofTo_eq (bs : List Bool) (l : List Nat) (hl : ∀ x ∈ l, x < 256) (h : ∀ i, i < 8 * l.length → bs.getD i false = getN l i) : ofTo bs l.length = l := by
  refine bits_ext (ofTo_lt bs _) hl (ofTo_length bs _) (fun i hi => ?_)
  rw [ofTo_length] at hi
  rw [getN_ofTo bs _ i hi, h i hi]

/-- A bit of a list turned, where there is one. -/
def flipB (bs : List Bool) (p : Int) : List Bool := if 0 ≤ p ∧ p < bs.length then bs.set p.toNat (!bs.getD p.toNat false) else bs
def flipsB (bs : List Bool) (ps : List Int) : List Bool := ps.foldl flipB bs
theorem flipB_length (bs : List Bool) (p : Int) : (flipB bs p).length = bs.length := by unfold flipB; split <;> simp
theorem flipsB_length (ps : List Int) : ∀ bs : List Bool, (flipsB bs ps).length = bs.length := by
  induction ps with
  | nil => intro bs; rfl
  | cons p t ih => intro bs; show (flipsB (flipB bs p) t).length = _; rw [ih, flipB_length]
theorem flipsB_snoc (bs : List Bool) (ps : List Int) (p : Int) : flipsB bs (ps ++ [p]) = flipB (flipsB bs ps) p := by simp [flipsB]
theorem flipB_get (bs : List Bool) (p : Int) (i : Nat) (hi : i < bs.length) : (flipB bs p).getD i false = (bs.getD i false ^^ decide (p = (i : Int))) := by
  unfold flipB
  by_cases hp : 0 ≤ p ∧ p < bs.length
  · rw [if_pos hp]
    obtain ⟨h0, h1⟩ := hp
    obtain ⟨j, rfl⟩ := Int.eq_ofNat_of_zero_le h0
    rw [Int.toNat_natCast]
    by_cases he : j = i
    · subst he
      simp [hi]
    · have e1 : ¬ (j : Int) = (i : Int) := by omega
      rw [List.getD_eq_getElem?_getD, List.getElem?_set_ne he, ← List.getD_eq_getElem?_getD]
      simp [e1]
  · rw [if_neg hp]
    have e1 : ¬ p = (i : Int) := by omega
    simp [e1]
theorem flipsB_get (ps : List Int) (i : Nat) : ∀ bs : List Bool, i < bs.length → (flipsB bs ps).getD i false = (bs.getD i false ^^ par ps i) := by
  induction ps with
  | nil => intro bs _; simp [flipsB, par]
  | cons p t ih =>
    intro bs hi
    show (flipsB (flipB bs p) t).getD i false = (bs.getD i false ^^ (decide (p = (i : Int)) ^^ par t i))
    rw [ih _ (by rw [flipB_length]; exact hi), flipB_get bs p i hi, Bool.xor_assoc]
theorem flipsB_eq (l : List Nat) (ps : List Int) (h : ∀ x ∈ l, x < 256) : ofTo (flipsB (bitsB l) ps) l.length = flips l ps := by
  have e := ofTo_eq (flipsB (bitsB l) ps) (flips l ps) (flips_lt l ps h) (fun i hi => by
    rw [flips_length] at hi
    rw [flipsB_get ps i _ (by rw [bitsB_length]; exact hi), getN_flips ps i l hi, bitsB_getD l i hi])
  rwa [flips_length] at e

/-- How many of the first k bits are 0. -/
def zB (bs : List Bool) (k : Nat) : Int := ((bs.take k).map fun b => 1 - bi b).sum
theorem zB_succ (bs : List Bool) (k : Nat) (b : Bool) (h : bs[k]? = some b) : zB bs (k + 1) = zB bs k + 1 - bi b := by
  unfold zB
  rw [take_snoc h, List.map_append, List.sum_append]
  simp
  omega
theorem zB_bd (bs : List Bool) (k : Nat) : 0 ≤ zB bs k ∧ zB bs k ≤ k := by
  induction k with
  | zero => simp [zB]
  | succ k ih =>
    rcases h : bs[k]? with _ | b
    · have h1 : bs.length ≤ k := List.getElem?_eq_none_iff.1 h
      have e : zB bs (k + 1) = zB bs k := by unfold zB; rw [List.take_of_length_le (by omega), List.take_of_length_le h1]
      rw [e]; omega
    · rw [zB_succ bs k b h]
      have := bi_01 b
      omega
theorem pop_bits_fin : ∀ x : Fin 256, (((List.range 8).map fun t => 1 - bi (x.val.testBit t)).sum : Int) = 8 - (Lib.onesCount x.val : Int) := by decide +kernel
theorem pop_bits (x : Nat) (h : x < 256) : (((List.range 8).map fun t => 1 - bi (x.testBit t)).sum : Int) = 8 - (Lib.onesCount x : Int) := pop_bits_fin ⟨x, h⟩
theorem zB_eq : ∀ l : List Nat, (∀ x ∈ l, x < 256) → (((List.range (8 * l.length)).map fun i => 1 - bi (getN l i)).sum : Int) = 8 * (l.length : Int) - (ones l : Int)
  | [], _ => by simp [ones]
  | x :: t, h => by
    have ih := zB_eq t (fun y hy => h y (by simp [hy]))
    rw [List.length_cons, show 8 * (t.length + 1) = 8 + 8 * t.length by omega, List.range_add, List.map_append, List.sum_append, List.map_map]
    have e1 : ((List.range 8).map fun i => 1 - bi (getN (x :: t) i)) = (List.range 8).map fun i => 1 - bi (x.testBit i) := by
      apply List.map_congr_left
      intro i hi
      have h8 : i < 8 := List.mem_range.1 hi
      unfold getN
      rw [show i / 8 = 0 by omega, show i % 8 = i by omega]
      rfl
    have e2 : ((List.range (8 * t.length)).map ((fun i => 1 - bi (getN (x :: t) i)) ∘ fun y => 8 + y)) = (List.range (8 * t.length)).map fun i => 1 - bi (getN t i) := by
      apply List.map_congr_left
      intro i _
      simp only [Function.comp, getN]
      rw [show (8 + i) / 8 = i / 8 + 1 by omega, show (8 + i) % 8 = i % 8 by omega]
      rfl
    rw [e1, e2, ih, pop_bits x (h x (by simp))]
    simp only [ones, List.map_cons, List.sum_cons]
    omega
theorem zB_all (l : List Nat) (h : ∀ x ∈ l, x < 256) : zB (bitsB l) (8 * l.length) = 8 * (l.length : Int) - (ones l : Int) := by
  unfold zB
  rw [List.take_of_length_le (by rw [bitsB_length]; omega), ← zB_eq l h]
  unfold bitsB
  rw [List.map_map]
  rfl

/-- What two lists of bits have, as far as k. -/
def andB (x y : List Bool) (i : Nat) : Bool := x.getD i true && y.getD i true
def andBTo (x y : List Bool) (k : Nat) : List Bool := (List.range k).map (andB x y)
theorem andBTo_succ (x y : List Bool) (k : Nat) : andBTo x y (k + 1) = andBTo x y k ++ [andB x y k] := by simp [andBTo, List.range_succ]
theorem andBTo_length (x y : List Bool) (k : Nat) : (andBTo x y k).length = k := by simp [andBTo]
theorem getDT (l : List Nat) (i : Nat) : (bitsB l).getD i true = (l.getD (i / 8) 255).testBit (i % 8) := by
  by_cases hi : i < 8 * l.length
  · rw [List.getD_eq_getElem?_getD, bitsB_get l i hi]
    have h8 : i / 8 < l.length := by omega
    simp [getN, h8]
  · rw [getD_over l (i / 8) (by omega), List.getD_eq_getElem?_getD, List.getElem?_eq_none (by rw [bitsB_length]; omega)]
    have h8 : i % 8 < 8 := by omega
    generalize i % 8 = t at *
    have : ∀ t : Fin 8, true = (255 : Nat).testBit t.val := by decide
    exact this ⟨t, h8⟩
theorem andB_eq (a b : List Nat) (ha : ∀ x ∈ a, x < 256) : ofTo (andBTo (bitsB a) (bitsB b) (8 * max a.length b.length)) (max a.length b.length) = andL a b := by
  have e := ofTo_eq (andBTo (bitsB a) (bitsB b) (8 * max a.length b.length)) (andL a b) (andL_lt a b ha) (fun i hi => by
    rw [andL_length] at hi
    have e1 : (andBTo (bitsB a) (bitsB b) (8 * max a.length b.length)).getD i false = andB (bitsB a) (bitsB b) i := by
      unfold andBTo
      rw [List.getD_eq_getElem?_getD, List.getElem?_map, List.getElem?_range hi]
      rfl
    have e2 : (andL a b).getD (i / 8) 0 = a.getD (i / 8) 255 &&& b.getD (i / 8) 255 := by
      rw [List.getD_eq_getElem?_getD, andL_get, if_pos (by omega)]
      rfl
    rw [e1]
    unfold andB getN
    rw [getDT, getDT, e2, Nat.testBit_and])
  rwa [andL_length] at e

/-- Where two lists of bits differ, as far as k. -/
def diffB (x y : List Bool) (k : Nat) : List Int := ((List.range k).filter fun i => x.getD i false != y.getD i false).map fun i => ((i : Nat) : Int)
theorem diffB_length (x y : List Bool) (k : Nat) : (diffB x y k).length ≤ k := by
  have := List.length_filter_le (fun i => x.getD i false != y.getD i false) (List.range k)
  simpa [diffB] using this
theorem diffB_yes (x y : List Bool) (k : Nat) (p q : Bool) (hp : x[k]? = some p) (hq : y[k]? = some q) (h : p ≠ q) : diffB x y (k + 1) = diffB x y k ++ [((k : Nat) : Int)] := by
  unfold diffB
  rw [List.range_succ, List.filter_append, List.map_append]
  have e : (p != q) = true := by simpa using h
  simp [hp, hq, e]
theorem diffB_no (x y : List Bool) (k : Nat) (p : Bool) (hp : x[k]? = some p) (hq : y[k]? = some p) : diffB x y (k + 1) = diffB x y k := by
  unfold diffB
  rw [List.range_succ, List.filter_append, List.map_append]
  simp [hp, hq]
theorem diffB_eq (a b : List Nat) : diffB (bitsB a) (bitsB b) (8 * min a.length b.length) = diffL a b := by
  unfold diffL
  rw [diffTo_eq]
  unfold diffB
  congr 1
  apply List.filter_congr
  intro i hi
  have h := List.mem_range.1 hi
  rw [bitsB_getD a i (by omega), bitsB_getD b i (by omega)]
theorem diffB_mem (x y : List Bool) (k : Nat) : ∀ q ∈ diffB x y k, 0 ≤ q ∧ q < k := by
  intro q hq
  simp only [diffB, List.mem_map, List.mem_filter, List.mem_range] at hq
  obtain ⟨i, ⟨h, _⟩, rfl⟩ := hq
  omega
end Go.Proofs.Ytljjbphmglbhnaa
