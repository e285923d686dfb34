/-
  An array as a value: rows (raw page, how often programmed, torn) and how often each block was erased; what is done to it.
-/
import Derived.RowKit
import Derived.Test.YtmbgoopkpfhamaaGreatIdentChecksJ1
import Derived.Test.YtmbgoopkpfhamaaGreatIdentChecksJ2
namespace Go.Proofs.YtmbgoopkpfhamaaGreat
open Go.RowKit
structure Pg where
 raw : List Nat
 n : Int
 t : Bool
structure St where
 rows : List Pg
 er : List Int
def inc (x : Int) : Int := wrap64 (x + 1)
def sec {α : Type} (f : α → α) (a n : Nat) (l : List α) : List α := l.mapIdx fun i x => if a ≤ i ∧ i < a + n then f x else x
section
variable {α β : Type} {f : α → α} {a n : Nat} {l : List α}
theorem sec_len : (sec f a n l).length = l.length := by simp [sec]
theorem sec_get (i : Nat) : (sec f a n l)[i]? = (l[i]?).map fun x => if a ≤ i ∧ i < a + n then f x else x := by simp [sec]
theorem sec_zero : sec f a 0 l = l := by
 apply List.ext_getElem?
 intro i
 rw [sec_get]
 rcases l[i]? with _ | x
 ·
  rfl
 ·
  simp only [Option.map_some]
  rw [if_neg (by omega)]
theorem sec_succ : sec f a (n + 1) l = sec f (a + n) 1 (sec f a n l) := by
 apply List.ext_getElem?
 intro i
 rw [sec_get, sec_get, sec_get]
 rcases l[i]? with _ | x
 ·
  rfl
 ·
  simp only [Option.map_some]
  by_cases h1 : a ≤ i ∧ i < a + n
  ·
   rw [if_pos (by omega), if_neg (by omega), if_pos h1]
  ·
   by_cases h2 : i = a + n
   ·
    rw [if_pos (by omega), if_pos (by omega), if_neg h1]
   ·
    rw [if_neg (by omega), if_neg (by omega), if_neg h1]
theorem sec_map (g : α → β) (f' : β → β) (h : ∀ x, g (f x) = f' (g x)) : (sec f a n l).map g = sec f' a n (l.map g) := by
 apply List.ext_getElem?
 intro i
 rw [List.getElem?_map, sec_get, sec_get, List.getElem?_map]
 rcases l[i]? with _ | x
 ·
  rfl
 ·
  simp only [Option.map_some]
  split <;> simp [h]
theorem sec_one {x : α} (h : l[a]? = some x) : sec f a 1 l = l.set a (f x) := by
 apply List.ext_getElem?
 intro i
 rw [sec_get, List.getElem?_set]
 have hl := (List.getElem?_eq_some_iff.1 h).1
 by_cases e : a = i
 ·
  subst e
  rw [h, if_pos rfl, if_pos hl, Option.map_some, if_pos (by omega)]
 ·
  rw [if_neg e]
  rcases l[i]? with _ | y
  ·
   rfl
  ·
   rw [Option.map_some, if_neg (by omega)]
end
def ersd (N : Nat) : Pg := ⟨List.replicate N 255, 0, false⟩
def Pg.prog (y : Pg) (r : List Nat) : Pg := ⟨andL y.raw r, inc y.n, y.t⟩
def Pg.tear (y : Pg) (r : List Nat) : Pg := ⟨r, inc y.n, true⟩
def St.prog (s : St) (i : Nat) (r : List Nat) : St := ⟨sec (·.prog r) i 1 s.rows, s.er⟩
def St.tear (s : St) (i : Nat) (r : List Nat) : St := ⟨sec (·.tear r) i 1 s.rows, s.er⟩
def St.tearB (s : St) (P b : Nat) (r : List Nat) : St := ⟨sec (·.tear r) (b * P) P s.rows, s.er⟩
def St.erase (s : St) (N P b : Nat) : St := ⟨sec (fun _ => ersd N) (b * P) P s.rows, sec inc b 1 s.er⟩
def mrk (N : Nat) : List Nat := (List.replicate N 255).set (N - 1) 0
def newR (N R P : Nat) (ms : List Int) : List Pg := (List.range R).map fun (i : Nat) => if ms.any (fun m => decide (m * P = (i : Int))) then ⟨mrk N, 0, false⟩ else ersd N
theorem newR_len (N R P : Nat) (ms : List Int) : (newR N R P ms).length = R := by simp [newR]
theorem newR_nil (N R P : Nat) : newR N R P [] = List.replicate R (ersd N) := by
 apply List.ext_getElem?
 intro i
 unfold newR
 rw [List.getElem?_map, List.getElem?_replicate]
 by_cases h : i < R
 ·
  rw [List.getElem?_range h, if_pos h]; rfl
 ·
  rw [List.getElem?_eq_none (by simpa using h), if_neg h]; rfl
theorem newR_get (N R P : Nat) (ms : List Int) (i : Nat) (h : i < R) : (newR N R P ms)[i]? = some (if ms.any (fun m => decide (m * P = (i : Int))) then ⟨mrk N, 0, false⟩ else ersd N) := by
 unfold newR
 rw [List.getElem?_map, List.getElem?_range h]; rfl
theorem newR_snoc (N R P : Nat) (ms : List Int) (b : Nat) (f : Pg → Pg) (h1 : f (ersd N) = ⟨mrk N, 0, false⟩) (h2 : f ⟨mrk N, 0, false⟩ = ⟨mrk N, 0, false⟩) :
  newR N R P (ms ++ [(b : Int)]) = sec f (b * P) 1 (newR N R P ms) := by
 apply List.ext_getElem?
 intro i
 rw [sec_get]
 by_cases h : i < R
 ·
  rw [newR_get _ _ _ _ _ h, newR_get _ _ _ _ _ h, Option.map_some, List.any_append]
  simp only [List.any_cons, List.any_nil, Bool.or_false]
  by_cases e : (b : Int) * P = (i : Int)
  ·
   have e' : b * P = i := by exact_mod_cast e
   rw [decide_eq_true e, Bool.or_true, if_pos rfl, if_pos (by omega)]
   by_cases e2 : (ms.any fun m => decide (m * (P : Int) = (i : Int))) = true
   ·
    rw [if_pos e2, h2]
   ·
    rw [if_neg e2, h1]
  ·
   have e' : ¬ b * P = i := fun h3 => e (by exact_mod_cast h3)
   rw [decide_eq_false e, Bool.or_false, if_neg (show ¬ (b * P ≤ i ∧ i < b * P + 1) by omega)]
 ·
  rw [List.getElem?_eq_none (by rw [newR_len]; omega), List.getElem?_eq_none (by rw [newR_len]; omega)]; rfl
def St.new (N R P B : Nat) (ms : List Int) : St := ⟨newR N R P ms, List.replicate B 0⟩
def Pg.well (N : Nat) (y : Pg) : Prop := y.raw.length = N ∧ ∀ x ∈ y.raw, x < 256
theorem ersd_well (N : Nat) : (ersd N).well N := ⟨by simp [ersd], fun x hx => by rw [(List.mem_replicate.1 hx).2]; omega⟩
theorem andL_nil (r : List Nat) (h : ∀ x ∈ r, x < 256) : andL [] r = r := by
 apply List.ext_getElem?
 intro i
 rw [andL_get]
 simp only [List.length_nil, Nat.zero_max]
 by_cases hi : i < r.length
 ·
  rw [if_pos hi, List.getElem?_eq_getElem hi]
  have hx := h _ (List.getElem_mem hi)
  have e : r.getD i 255 = r[i] := by simp [List.getD, hi]
  rw [e]
  simp only [List.getD_nil]
  congr 1
  rw [Nat.and_comm]
  exact Nat.and_two_pow_sub_one_of_lt_two_pow (n := 8) hx
 ·
  rw [if_neg hi, List.getElem?_eq_none (by omega)]
theorem andL_erased (N : Nat) (r : List Nat) (hl : r.length = N) (h : ∀ x ∈ r, x < 256) : andL (List.replicate N 255) r = r := by
 rw [← andL_nil r h]
 apply List.ext_getElem?
 intro i
 rw [andL_get, andL_get, andL_nil r h]
 simp only [List.length_replicate, List.length_nil, hl, Nat.max_self, Nat.zero_max]
 by_cases hi : i < N
 ·
  rw [if_pos hi, if_pos hi]
  simp [List.getD, hi]
 ·
  rw [if_neg hi, if_neg hi]
end Go.Proofs.YtmbgoopkpfhamaaGreat
