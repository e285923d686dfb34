/-
  Plain facts on bytes, bits and lists for the layer bits: no program, no memory.
-/
import Derived.Lib.BitFns
import Derived.Laws.BitsAllLaws
import Derived.Laws.Strings
namespace Go.Proofs.YtmbgoopkpfhamaaGreat
def mk8 (i : Nat) : Nat := 2 ^ (i % 8)
theorem mk8_lt (i : Nat) : mk8 i < 256 := by
 have : 2 ^ (i % 8) ≤ 2 ^ 7 := Nat.pow_le_pow_right (by omega) (by omega)
 unfold mk8; omega
def getN (l : List Nat) (i : Nat) : Bool := (l.getD (i / 8) 0).testBit (i % 8)
def getI (l : List Nat) (i : Int) : Bool := decide (0 ≤ i) && getN l i.toNat
def ones (l : List Nat) : Nat := (l.map Lib.onesCount).sum
theorem take_snoc {α : Type} {l : List α} {k : Nat} {x : α} (h : l[k]? = some x) : l.take (k + 1) = l.take k ++ [x] := by
 rw [List.take_add_one, h]; rfl
def flip1 (l : List Nat) (i : Int) : List Nat := if 0 ≤ i ∧ i / 8 < l.length then l.set (i.toNat / 8) (l.getD (i.toNat / 8) 0 ^^^ mk8 i.toNat) else l
def flips (l : List Nat) (ps : List Int) : List Nat := ps.foldl flip1 l
theorem flip1_length (l : List Nat) (i : Int) : (flip1 l i).length = l.length := by unfold flip1; split <;> simp
theorem flips_length (l : List Nat) (ps : List Int) : (flips l ps).length = l.length := by
 unfold flips
 induction ps generalizing l with
 | nil => rfl
 | cons p t ih => rw [List.foldl_cons, ih, flip1_length]
theorem flips_snoc (l : List Nat) (ps : List Int) (p : Int) : flips l (ps ++ [p]) = flip1 (flips l ps) p := by simp [flips]
theorem xor_lt8 (x y : Nat) (hx : x < 256) (hy : y < 256) : x ^^^ y < 256 := Nat.xor_lt_two_pow (n := 8) hx hy
theorem flip1_lt (l : List Nat) (i : Int) (h : ∀ x ∈ l, x < 256) : ∀ x ∈ flip1 l i, x < 256 := by
 unfold flip1
 split
 ·
  intro x hx
  rcases List.mem_or_eq_of_mem_set hx with h1 | h1
  ·
   exact h x h1
  ·
   subst h1
   refine xor_lt8 _ _ ?_ (mk8_lt _)
   rw [List.getD_eq_getElem?_getD]
   rcases e : l[i.toNat / 8]? with _ | y
   ·
    simp
   ·
    exact h y (List.mem_of_getElem? e)
 ·
  exact h
theorem flips_lt (l : List Nat) (ps : List Int) (h : ∀ x ∈ l, x < 256) : ∀ x ∈ flips l ps, x < 256 := by
 unfold flips
 induction ps generalizing l with
 | nil => exact h
 | cons p t ih => rw [List.foldl_cons]; exact ih _ (flip1_lt l p h)
theorem flip1_yes (l : List Nat) (j y : Nat) (h : l[j / 8]? = some y) : flip1 l (j : Int) = l.set (j / 8) (y ^^^ mk8 j) := by
 have hl : j / 8 < l.length := (List.getElem?_eq_some_iff.1 h).1
 unfold flip1
 rw [if_pos ⟨by omega, by omega⟩]
 simp [h]
theorem flip1_no (l : List Nat) (i : Int) (h : ¬ (0 ≤ i ∧ i / 8 < l.length)) : flip1 l i = l := by unfold flip1; rw [if_neg h]
def andL (a b : List Nat) : List Nat := (List.range (max a.length b.length)).map fun i => a.getD i 255 &&& b.getD i 255
def andTo (a b : List Nat) (k : Nat) : List Nat := (List.range a.length).map fun i => if i < k then a.getD i 255 &&& b.getD i 255 else a.getD i 255
theorem andL_length (a b : List Nat) : (andL a b).length = max a.length b.length := by simp [andL]
theorem andTo_length (a b : List Nat) (k : Nat) : (andTo a b k).length = a.length := by simp [andTo]
theorem andL_get (a b : List Nat) (i : Nat) : (andL a b)[i]? = if i < max a.length b.length then some (a.getD i 255 &&& b.getD i 255) else none := by
 unfold andL
 rw [List.getElem?_map]
 split
 ·
  rename_i h; rw [List.getElem?_range h]; rfl
 ·
  rename_i h; rw [List.getElem?_eq_none (by simp only [List.length_range]; omega)]; rfl
theorem andTo_get (a b : List Nat) (k i : Nat) : (andTo a b k)[i]? = if i < a.length then some (if i < k then a.getD i 255 &&& b.getD i 255 else a.getD i 255) else none := by
 unfold andTo
 rw [List.getElem?_map]
 split
 ·
  rename_i h; rw [List.getElem?_range h]; rfl
 ·
  rename_i h; rw [List.getElem?_eq_none (by simp only [List.length_range]; omega)]; rfl
theorem getD_some {l : List Nat} {i x d : Nat} (h : l[i]? = some x) : l.getD i d = x := by simp [h]
theorem getD_none {l : List Nat} {i d : Nat} (h : l.length ≤ i) : l.getD i d = d := by simp [List.getElem?_eq_none h]
theorem andTo_zero (a b : List Nat) : andTo a b 0 = a := by
 apply List.ext_getElem?
 intro i
 rw [andTo_get]
 split
 ·
  rename_i h; simp [List.getElem?_eq_getElem h]
 ·
  rename_i h; rw [List.getElem?_eq_none (by omega)]
theorem andTo_cell (a b : List Nat) (k x : Nat) (h : a[k]? = some x) : (andTo a b k)[k]? = some x := by
 have hl : k < a.length := (List.getElem?_eq_some_iff.1 h).1
 rw [andTo_get, if_pos hl, if_neg (by omega), getD_some h]
theorem andTo_succ (a b : List Nat) (k x y : Nat) (hx : a[k]? = some x) (hy : b[k]? = some y) : andTo a b (k + 1) = (andTo a b k).set k (x &&& y) := by
 have hl : k < a.length := (List.getElem?_eq_some_iff.1 hx).1
 apply List.ext_getElem?
 intro i
 rw [andTo_get, List.getElem?_set, andTo_length, andTo_get]
 by_cases hik : k = i
 ·
  subst hik
  rw [if_pos hl, if_pos rfl, if_pos hl, if_pos (by omega), getD_some hx, getD_some hy]
 ·
  rw [if_neg hik]
  split
  ·
   congr 1
   by_cases h1 : i < k
   ·
    rw [if_pos h1, if_pos (by omega)]
   ·
    rw [if_neg h1, if_neg (by omega)]
  ·
   rfl
theorem and_255 (x : Nat) (h : x < 256) : x &&& 255 = x := by rw [nat_mask8]; omega
theorem getD_lt {l : List Nat} (h : ∀ x ∈ l, x < 256) (i : Nat) : l.getD i 255 < 256 := by
 rw [List.getD_eq_getElem?_getD]
 rcases e : l[i]? with _ | y
 ·
  simp
 ·
  exact h y (List.mem_of_getElem? e)
theorem andTo_all (a b : List Nat) (ha : ∀ x ∈ a, x < 256) (hl : b.length ≤ a.length) : andTo a b b.length = andL a b := by
 apply List.ext_getElem?
 intro i
 rw [andTo_get, andL_get, Nat.max_eq_left hl]
 split
 ·
  congr 1
  split
  ·
   rfl
  ·
   rw [getD_none (l := b) (by omega), and_255 _ (getD_lt ha i)]
 ·
  rfl
theorem andL_comm (a b : List Nat) : andL a b = andL b a := by
 unfold andL
 rw [Nat.max_comm]
 apply List.map_congr_left
 intro i _
 exact Nat.and_comm _ _
theorem and_lt8 (x y : Nat) (hx : x < 256) : x &&& y < 256 := Nat.lt_of_le_of_lt Nat.and_le_left hx
theorem andL_lt (a b : List Nat) (ha : ∀ x ∈ a, x < 256) : ∀ x ∈ andL a b, x < 256 := by
 intro x hx
 simp only [andL, List.mem_map] at hx
 obtain ⟨i, _, rfl⟩ := hx
 exact and_lt8 _ _ (getD_lt ha i)
def bitsOf (z : Nat) : List Nat := (List.range 8).filter fun i => z.testBit i
def offs (n z : Nat) : List Int := (bitsOf z).map fun t => ((8 * n + t : Nat) : Int)
def diffTo (a b : List Nat) (k : Nat) : List Int := (List.range k).flatMap fun n => offs n (a.getD n 0 ^^^ b.getD n 0)
def diffL (a b : List Nat) : List Int := diffTo a b (min a.length b.length)
def par (ps : List Int) (i : Nat) : Bool := ps.foldr (fun p acc => decide (p = (i : Int)) ^^ acc) false
def zerosS (l : List Nat) : Nat := (l.map fun x => 8 - Lib.onesCount x).sum
def okSz (x : Int) : Bool := decide (1 ≤ x ∧ x ≤ 8)
def sumI (l : List Int) : Nat := (l.map Int.toNat).sum
def okL (l : List Int) : Bool := decide (l.length ≤ 64) && l.all okSz
def great (s : Nat) : Nat := if s = 8 then 4611686018427387904 else 2 ^ (8 * s) - 1
def fitsB (n s : Int) : Bool := okSz s && (decide (0 ≤ n) && decide (n ≤ (great s.toNat : Int)))
def leN (n k : Nat) : List Nat := (List.range k).map fun i => n / 2 ^ (8 * i) % 256
def numN : List Nat → Nat
 | [] => 0
 | x :: t => x + 256 * numN t
def putTo (s z : List Int) (k : Nat) : List Nat := (((s.zip z).take k).map fun p => leN p.2.toNat p.1.toNat).flatten
def putL (s z : List Int) : List Nat := ((s.zip z).map fun p => leN p.2.toNat p.1.toNat).flatten
def fitsL (s z : List Int) : Bool := (s.zip z).all fun p => fitsB p.2 p.1
def fitsTo (s z : List Int) (k : Nat) : Bool := ((s.zip z).take k).all fun p => fitsB p.2 p.1
def canPut (s z : List Int) : Bool := okL s && (decide (s.length = z.length) && fitsL s z)
def putA (s z : List Int) : List Nat := if canPut s z then putL s z else []
def putE (s z : List Int) : Int := if canPut s z then 0 else 2
def vals : List Int → List Nat → List Int
 | [], _ => []
 | s :: t, b => (numN (b.take s.toNat) : Int) :: vals t (b.drop s.toNat)
def low (l : List Int) : Bool := l.all fun x => decide (x ≤ 4611686018427387904)
def takeE (s : List Int) (b : List Nat) : Int :=
 if okL s then (if b.length < sumI s then 10 else if sumI s < b.length then 13 else if low (vals s b) then 0 else 11) else 2
def takeA (s : List Int) (b : List Nat) : List Int := if takeE s b = 0 then vals s b else []
structure Tg where
 k : Int
 s : Int
 q : Int
 e : Int
def Tg.val (t : Tg) : Value := .agg #[.int .i64 t.k, .int .i64 t.s, .int .i64 t.q, .int .i64 t.e]
def Tg.fit (t : Tg) : Prop := (-9223372036854775808 ≤ t.k ∧ t.k ≤ 9223372036854775807) ∧ (-9223372036854775808 ≤ t.s ∧ t.s ≤ 9223372036854775807) ∧ (-9223372036854775808 ≤ t.q ∧ t.q ≤ 9223372036854775807) ∧ -9223372036854775808 ≤ t.e ∧ t.e ≤ 9223372036854775807
def Tg.ok (t : Tg) : Bool := decide ((1 ≤ t.k ∧ t.k ≤ 4) ∧ (0 ≤ t.s ∧ t.s ≤ 2147483648) ∧ (0 ≤ t.q ∧ t.q ≤ 2305843009213693952) ∧ 0 ≤ t.e ∧ t.e ≤ 2147483648)
def Tg.zero : Tg := ⟨0, 0, 0, 0⟩
def lay : List Int := [2, 1, 4, 8, 4, 5]
def Tg.nums (t : Tg) : List Int := [0, t.k, t.s, t.q, t.e, 0]
def Tg.bytes (t : Tg) : List Nat := putL lay t.nums
def takeT (b : List Nat) : Tg × Int :=
 match takeA lay b with
 | [v0, v1, v2, v3, v4, v5] => if v0 = 0 ∧ v5 = 0 ∧ Tg.ok ⟨v1, v2, v3, v4⟩ = true then (⟨v1, v2, v3, v4⟩, 0) else (Tg.zero, 11)
 | _ => (Tg.zero, takeE lay b)
def LateTo (l : List Tg) (k p : Nat) : Prop := ∃ t, l[p]? = some t ∧ (∀ j u, j < k → l[j]? = some u → u.q ≤ t.q) ∧ ∀ j u, j < p → l[j]? = some u → u.q < t.q
def str (l : List Nat) : ByteArray := ⟨(l.map fun x => UInt8.ofNat x).toArray⟩
structure Cy where
 k : Int
 b : Nat
def eqC (x y : Cy) : Bool := x.k == y.k && x.b == y.b
def sameC : List Cy → List Cy → Bool
 | [], [] => true
 | x :: a, y :: b => eqC x y && sameC a b
 | _, _ => false
def okK (k : Int) : Bool := decide (1 ≤ k) && decide (k ≤ 4)
def okC (l : List Cy) : Bool := l.all fun c => okK c.k
theorem okK_iff {k : Int} : okK k = true ↔ 1 ≤ k ∧ k ≤ 4 := by simp [okK]
def letB (k : Int) : Nat := if k = 1 then 99 else if k = 2 then 97 else if k = 3 then 119 else 114
def hexB (n : Nat) : Nat := if n < 10 then 48 + n else 87 + n
def letK (v : Nat) : Int := if v = 99 then 1 else if v = 97 then 2 else if v = 119 then 3 else if v = 114 then 4 else 0
def digI (v : Nat) : Int := if 48 ≤ v ∧ v ≤ 57 then (v : Int) - 48 else if 97 ≤ v ∧ v ≤ 102 then (v : Int) - 87 else -1
def tx (c : Cy) : List Nat := [letB c.k, hexB (c.b / 16), hexB (c.b % 16)]
def spL (l : List Cy) : List Nat := l.flatMap fun c => 32 :: tx c
def textL (l : List Cy) : List Nat := (spL l).tail
def fitB (v p : Nat) : Bool := if p = 0 then letK v != 0 else if p = 3 then v == 32 else decide (0 ≤ digI v)
def badAt : Nat → List Nat → Nat
 | i, [] => if i = 0 ∨ i % 4 = 3 then 0 else i + 1
 | i, v :: r => if fitB v (i % 4) = true then badAt (i + 1) r else i + 1
def faultL (s : List Nat) : Nat := badAt 0 s
def cyAt (s : List Nat) (j : Nat) : Cy := ⟨letK (s.getD (j * 4) 0), (16 * digI (s.getD (j * 4 + 1) 0) + digI (s.getD (j * 4 + 2) 0)).toNat⟩
def cysTo (s : List Nat) (m : Nat) : List Cy := (List.range m).map (cyAt s)
def parseL (s : List Nat) : List Cy := cysTo s ((s.length + 1) / 4)
def bl (s : ByteArray) : List Nat := s.data.toList.map (·.toNat)
structure Dv where
 nm : ByteArray
 a : Option Go.Addr
 c : Nat
 cs : List Cy
def addT (d : Dv) : List Cy := if d.nm.size = 0 then d.cs else []
def allT (l : List Dv) (k : Nat) : List Cy := (l.take k).flatMap addT
def marksT (l : List Dv) : Nat → ByteArray → Option Nat
 | 0, _ => none
 | k + 1, s => match l[k]? with
  | some d => if d.nm.size = 0 then marksT l k s else if s = d.nm then some (allT l k).length else marksT l k s
  | none => marksT l k s
def sinceT (l : List Dv) (k : Nat) (s : ByteArray) : List Cy :=
 match marksT l k s with
 | none => []
 | some p => (allT l k).drop p
section
variable {l : List Dv} {k : Nat} {d : Dv}
end
end Go.Proofs.YtmbgoopkpfhamaaGreat
