/-
  The bytes of a geometry, and the geometry of bytes; plain facts.
-/
import Derived.Test.YtimphjgjcnbmnaaWords
import Derived.Test.YtimphjgjcnbmnaaGeomMath
namespace Go.Proofs.Ytimphjgjcnbmnaa
open Go.RowKit
set_option maxRecDepth 100000

/-- The numbers of a geometry; the bytes of the first k of them. -/
def Gm.nums (g : Gm) : List Int := [g.p, g.b, g.s, g.c, g.k, g.r, g.q]
def gbK (g : Gm) (k : Nat) : List Nat := (g.nums.take k).flatMap adr
def gb (g : Gm) : List Nat := gbK g 7
/-- The numbers of bytes. -/
def nmB (l : List Nat) (i : Nat) : Int := ((l.getD (2 * i) 0 + 256 * l.getD (2 * i + 1) 0 : Nat) : Int)
def gOf (l : List Nat) : Gm := ⟨nmB l 0, nmB l 1, nmB l 2, nmB l 3, nmB l 4, nmB l 5, nmB l 6⟩
def gZ : Gm := ⟨0, 0, 0, 0, 0, 0, 0⟩
def tkgE (l : List Nat) : Int := if l.length < 14 then 10 else if 14 < l.length then 13 else if (gOf l).ok = true then 0 else 11
def tkgG (l : List Nat) : Gm := if tkgE l = 0 then gOf l else gZ
section
variable {g : Gm} {k : Nat}
theorem nums_at (hk : k < 7) : ∃ x, g.nums[k]? = some x := ⟨_, List.getElem?_eq_getElem (by exact hk)⟩
theorem gbK_succ {v : Int} (h : g.nums[k]? = some v) : gbK g (k + 1) = gbK g k ++ adr v := by
  unfold gbK
  rw [List.take_add_one, h, List.flatMap_append]
  simp
theorem gbK_len (hk : k ≤ 7) : (gbK g k).length = 2 * k := by
  obtain rfl | rfl | rfl | rfl | rfl | rfl | rfl | rfl : k = 0 ∨ k = 1 ∨ k = 2 ∨ k = 3 ∨ k = 4 ∨ k = 5 ∨ k = 6 ∨ k = 7 := by omega
  all_goals rfl
theorem gb_len : (gb g).length = 14 := rfl
theorem gbK_lt : ∀ x ∈ gbK g k, x < 256 := by
  intro x hx
  obtain ⟨v, _, h⟩ := List.mem_flatMap.1 hx
  exact adr_lt v x h
theorem adr_num {n : Int} (h1 : 0 ≤ n) (h2 : n < 65536) : (((n % 256).toNat + 256 * (n / 256 % 256).toNat : Nat) : Int) = n := by omega
theorem gOf_gb (h : g.ok = true) : gOf (gb g) = g := by
  obtain ⟨h1, h2, h3, h4, h5, h6, h7⟩ := Gm.bounds_of h
  obtain ⟨p, b, s, c, k, r, q⟩ := g
  simp only at h1 h2 h3 h4 h5 h6 h7
  have e1 := adr_num (n := p) (by omega) (by omega)
  have e2 := adr_num (n := b) (by omega) (by omega)
  have e3 := adr_num (n := s) (by omega) (by omega)
  have e4 := adr_num (n := c) (by omega) (by omega)
  have e5 := adr_num (n := k) (by omega) (by omega)
  have e6 := adr_num (n := r) (by omega) (by omega)
  have e7 := adr_num (n := q) (by omega) (by omega)
  unfold gOf
  rw [Gm.mk.injEq]
  exact ⟨e1, e2, e3, e4, e5, e6, e7⟩
theorem tkg_gb (h : g.ok = true) : tkgE (gb g) = 0 ∧ tkgG (gb g) = g := by
  have e : tkgE (gb g) = 0 := by
    unfold tkgE
    rw [gb_len, if_neg (by omega), if_neg (by omega), gOf_gb h, if_pos h]
  exact ⟨e, by unfold tkgG; rw [if_pos e, gOf_gb h]⟩
theorem tkgE_not {l : List Nat} (h : l.length = 14) : (tkgE l = 0 ∧ (gOf l).ok = true) ∨ (tkgE l = 11 ∧ (gOf l).ok = false) := by
  unfold tkgE
  rw [h, if_neg (by omega), if_neg (by omega)]
  cases hq : (gOf l).ok
  · exact .inr ⟨if_neg (by decide), rfl⟩
  · exact .inl ⟨if_pos rfl, rfl⟩
/-- A geometry that is taken is right. -/
theorem tkgG_ok {l : List Nat} (h : tkgE l = 0) : (tkgG l).ok = true := by
  unfold tkgG
  rw [if_pos h]
  unfold tkgE at h
  split at h
  · cases h
  · split at h
    · cases h
    · split at h
      · assumption
      · cases h
end
end Go.Proofs.Ytimphjgjcnbmnaa
