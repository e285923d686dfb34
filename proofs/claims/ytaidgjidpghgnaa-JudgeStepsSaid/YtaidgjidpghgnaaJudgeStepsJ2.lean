/-
  Plain facts on bytes, bits and lists for the layer bits: no program, no memory.
-/
import Derived.Lib.BitFns
import Derived.Laws.BitsAllLaws
namespace Go.Proofs.Ytaidgjidpghgnaa

/-- The byte that has bit i % 8 alone. -/
def mk8 (i : Nat) : Nat := 2 ^ (i % 8)
/-- Bit i of bytes (false: there is none). -/
def getN (l : List Nat) (i : Nat) : Bool := (l.getD (i / 8) 0).testBit (i % 8)
def getI (l : List Nat) (i : Int) : Bool := decide (0 ≤ i) && getN l i.toNat

/-- How many bits of bytes are 1. -/
def ones (l : List Nat) : Nat := (l.map Lib.onesCount).sum
/-- Bit i turned, where there is one. -/
def flip1 (l : List Nat) (i : Int) : List Nat := if 0 ≤ i ∧ i / 8 < l.length then l.set (i.toNat / 8) (l.getD (i.toNat / 8) 0 ^^^ mk8 i.toNat) else l
def flips (l : List Nat) (ps : List Int) : List Nat := ps.foldl flip1 l
/-- What two lists of bytes have, the bytes that the shorter one lacks counting as 255. -/
def andL (a b : List Nat) : List Nat := (List.range (max a.length b.length)).map fun i => a.getD i 255 &&& b.getD i 255
/-- The same, as far as k bytes of the first. -/
def andTo (a b : List Nat) (k : Nat) : List Nat := (List.range a.length).map fun i => if i < k then a.getD i 255 &&& b.getD i 255 else a.getD i 255
theorem getD_some {l : List Nat} {i x d : Nat} (h : l[i]? = some x) : l.getD i d = x := by simp [h]
/-- The places of a byte's bits that are 1, rising. -/
def bitsOf (z : Nat) : List Nat := (List.range 8).filter fun i => z.testBit i
/-- The n-th byte's places, as places of the whole. -/
def offs (n z : Nat) : List Int := (bitsOf z).map fun t => ((8 * n + t : Nat) : Int)
/-- Where two lists of bytes differ, as far as k bytes. -/
def diffTo (a b : List Nat) (k : Nat) : List Int := (List.range k).flatMap fun n => offs n (a.getD n 0 ^^^ b.getD n 0)
def diffL (a b : List Nat) : List Int := diffTo a b (min a.length b.length)
end Go.Proofs.Ytaidgjidpghgnaa

/-
  Plain facts on bytes and bits, more: two turns are none; what differs, turned, is the same; what two have has no more ones than either.
-/
namespace Go.Proofs.Ytaidgjidpghgnaa

/-- Is i named an odd number of times? -/
def par (ps : List Int) (i : Nat) : Bool := ps.foldr (fun p acc => decide (p = (i : Int)) ^^ acc) false
def zerosS (l : List Nat) : Nat := (l.map fun x => 8 - Lib.onesCount x).sum
end Go.Proofs.Ytaidgjidpghgnaa

/-
  Plain facts on what two lists of bytes have: it does not hang on their order; three, not on which come first. Bytes as a text.
-/
namespace Go.Proofs.Ytaidgjidpghgnaa

/-- Bytes, as a text. -/
def str (l : List Nat) : ByteArray := ⟨(l.map fun x => UInt8.ofNat x).toArray⟩
end Go.Proofs.Ytaidgjidpghgnaa

/-
  Plain facts on cycles and their texts: the text of cycles, where a text of bytes is wrong, the cycles of a text; there and back. Of no program.
-/
namespace Go.Proofs.Ytaidgjidpghgnaa

/-- A cycle: its kind and its byte. -/
structure Cy where
 k : Int
 b : Nat

def eqC (x y : Cy) : Bool := x.k == y.k && x.b == y.b
def sameC : List Cy → List Cy → Bool
 | [], [] => true
 | x :: a, y :: b => eqC x y && sameC a b
 | _, _ => false
/-- Is its kind one of the four? -/
def okK (k : Int) : Bool := decide (1 ≤ k) && decide (k ≤ 4)
def okC (l : List Cy) : Bool := l.all fun c => okK c.k
/-- The letter of a kind, the digit of a number. -/
def letB (k : Int) : Nat := if k = 1 then 99 else if k = 2 then 97 else if k = 3 then 119 else 114
def hexB (n : Nat) : Nat := if n < 10 then 48 + n else 87 + n
/-- The kind of a letter, the number of a digit. -/
def letK (v : Nat) : Int := if v = 99 then 1 else if v = 97 then 2 else if v = 119 then 3 else if v = 114 then 4 else 0
def digI (v : Nat) : Int := if 48 ≤ v ∧ v ≤ 57 then (v : Int) - 48 else if 97 ≤ v ∧ v ≤ 102 then (v : Int) - 87 else -1
/-- The text of a cycle; of cycles, each behind a space; of cycles. -/
def tx (c : Cy) : List Nat := [letB c.k, hexB (c.b / 16), hexB (c.b % 16)]
def spL (l : List Cy) : List Nat := l.flatMap fun c => 32 :: tx c
def textL (l : List Cy) : List Nat := (spL l).tail
/-- May the byte v be at that place of a cycle's text and the space behind it? -/
def fitB (v p : Nat) : Bool := if p = 0 then letK v != 0 else if p = 3 then v == 32 else decide (0 ≤ digI v)
/-- The position, from 1 on, of the first byte that is wrong, from place i on; 0 if none is. -/
def badAt : Nat → List Nat → Nat
 | i, [] => if i = 0 ∨ i % 4 = 3 then 0 else i + 1
 | i, v :: r => if fitB v (i % 4) = true then badAt (i + 1) r else i + 1
def faultL (s : List Nat) : Nat := badAt 0 s
/-- The cycle at place 4 j of a text; the cycles of a text. -/
def cyAt (s : List Nat) (j : Nat) : Cy := ⟨letK (s.getD (j * 4) 0), (16 * digI (s.getD (j * 4 + 1) 0) + digI (s.getD (j * 4 + 2) 0)).toNat⟩
def cysTo (s : List Nat) (m : Nat) : List Cy := (List.range m).map (cyAt s)
def parseL (s : List Nat) : List Cy := cysTo s ((s.length + 1) / 4)
/-- The bytes of a string. -/
def bl (s : ByteArray) : List Nat := s.data.toList.map (·.toNat)
end Go.Proofs.Ytaidgjidpghgnaa
