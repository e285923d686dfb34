/-
  More words for slices of slices of bytes: parts of them; a row of one's own that holds slices. Of no program.
-/
import Derived.Test.YtgiihdeilkiphaaLadderFitsJMat
import Derived.Test.YtgiihdeilkiphaaLadderFitsJ4
import Derived.Test.YtgiihdeilkiphaaLadderFitsJ3
namespace Go.Proofs.Ytgiihdeilkiphaa
open Go.RowKit

section
variable {w w' : World} {A : Option Addr} {n c : Nat} {PA : Nat → Option Addr} {PC : Nat → Nat} {ls : List (List Nat)}
theorem RR.row (h : RR w A n PA PC ls) {r : Nat} {l : List Nat} (hl : ls[r]? = some l) : R8 w (PA r) l.length l ∧ l.length ≤ PC r ∧ (PA r = none → PC r = 0) := by
  have hr := (List.getElem?_eq_some_iff.1 hl).1
  obtain ⟨_, _, _, _, hc⟩ := h.2 (by rw [← h.1]; omega)
  exact (hc r l hl).2
theorem RR.take_ (h : RR w A n PA PC ls) (k : Nat) (hk : k ≤ n) : RR w A k PA PC (ls.take k) := by
  refine ⟨by rw [List.length_take, h.1]; omega, fun h0 => ?_⟩
  obtain ⟨b, off, e, hb, hc⟩ := h.2 (by omega)
  refine ⟨b, off, e, hb, fun r l hl => hc r l ?_⟩
  rw [List.getElem?_take] at hl
  split at hl
  · exact hl
  · cases hl
/-- The values of the slices, the r-th one told by its place. -/
def SV (PA : Nat → Option Addr) (PC : Nat → Nat) (ls : List (List Nat)) (n : Nat) : List Value := (List.range n).map fun r => .slice (PA r) (ls.getD r []).length (PC r)
theorem SV_length (n : Nat) : (SV PA PC ls n).length = n := by simp [SV]
theorem SV_one (n : Nat) : ∀ u ∈ SV PA PC ls n, u.oneCell' = true := by
  intro u hu
  unfold SV at hu
  obtain ⟨r, _, rfl⟩ := List.mem_map.1 hu
  rfl
theorem SV_succ (n : Nat) {l : List Nat} (hl : ls[n]? = some l) : SV PA PC ls (n + 1) = SV PA PC ls n ++ [.slice (PA n) l.length (PC n)] := by
  unfold SV
  rw [List.range_succ, List.map_append]
  simp [List.getD, hl]
theorem SV_get (n r : Nat) {l : List Nat} (hr : r < n) (hl : ls[r]? = some l) : (SV PA PC ls n)[r]? = some (.slice (PA r) l.length (PC r)) := by
  unfold SV
  rw [List.getElem?_map, List.getElem?_range hr]
  simp [List.getD, hl]
theorem RR.of_row (h : Rd w A n (SV PA PC ls n)) (hl : ls.length = n) (hc : ∀ r l, ls[r]? = some l → R8 w (PA r) l.length l ∧ l.length ≤ PC r ∧ (PA r = none → PC r = 0)) : RR w A n PA PC ls := by
  refine ⟨hl, fun h0 => ?_⟩
  obtain ⟨b, off, e, hb, hcell⟩ := h.2 h0
  refine ⟨b, off, e, hb, fun r l hl2 => ?_⟩
  have hr : r < n := by rw [← hl]; exact (List.getElem?_eq_some_iff.1 hl2).1
  exact ⟨by rw [hcell r hr]; exact SV_get n r hr hl2, hc r l hl2⟩
/-- The slices' values as they stand in memory. -/
theorem RR.rd (h : RR w A n PA PC ls) : Rd w A n (SV PA PC ls n) := by
  refine ⟨SV_length n, fun h0 => ?_⟩
  obtain ⟨b, off, e, hb, hc⟩ := h.2 h0
  refine ⟨b, off, e, hb, fun j hj => ?_⟩
  have hjl : j < ls.length := by rw [h.1]; exact hj
  have hl : ls[j]? = some ls[j] := List.getElem?_eq_getElem hjl
  rw [SV_get n j hj hl]
  exact (hc j _ hl).1
end
theorem info_sl24 : (Try.prog.info? 27).map (fun i => (i.zero, i.size, i.bytes)) = some (some (.slice none 0 0), 1, 24) := by kernel_rfl
end Go.Proofs.Ytgiihdeilkiphaa
