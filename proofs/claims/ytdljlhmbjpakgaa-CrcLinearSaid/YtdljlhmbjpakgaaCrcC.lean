/-
  Parts of slices; contracts of crc.Sum at one part and of crc.Check, over the landed code.
-/
import Derived.Test.YtdljlhmbjpakgaaCrcB
import Derived.Test.YtdljlhmbjpakgaaEqual
import Derived.Deep.RegionHeld3
namespace Go.Proofs.Ytdljlhmbjpakgaa
open Go.RowKit

/-- A part of a slice of bytes. -/
theorem R8.sub {w : World} {b off n : Nat} {l : List Nat} (h : R8 w (some ⟨b, off, none⟩) n l) (k m : Nat) (hk : k + m ≤ n) : R8 w (some ⟨b, off + k, none⟩) m ((l.drop k).take m) := by
  have hl := h.len
  refine ⟨⟨by simp [U8]; omega, fun hm => ?_⟩, fun x hx => h.2 x (List.mem_of_mem_drop (List.mem_of_mem_take hx))⟩
  obtain ⟨b1, off1, e, hb, hc⟩ := h.1.2 (by omega)
  injection e with e
  injection e with e1 e2
  subst e1 e2
  refine ⟨b, off + k, rfl, hb, fun j hj => ?_⟩
  rw [Nat.add_assoc, hc (k + j) (by omega), U8, U8, List.getElem?_map, List.getElem?_map, List.getElem?_take, if_pos hj, List.getElem?_drop]

theorem Sum_one (g : Nat) (A : Option Addr) (n c d : Nat) (l : List Nat) (w : World) (hc : w.cell? ⟨g, 0, none⟩ = some (.slice A n c)) (hr : R8 w A n l) (hn : n ≤ 1099511627776) :
    Calls Try.prog 7 #[.slice (some ⟨g, 0, none⟩) 1 d] w fun e w' => e = .returned (.int .u32 (sumL l : Int)) ∧ w = w' := by
  have h := Sum_any (some ⟨g, 0, none⟩) 1 d [(A, n, c)] [l] w ⟨rfl, fun _ => ⟨g, 0, rfl, World.block_lt_of_cell? w _ hc, fun j hj => ?_⟩⟩ (by omega) rfl ?_
  · simpa using h
  · match j, hj with
    | 0, _ => exact hc
  · intro j v l' hv hl
    match j, hv, hl with
    | 0, hv, hl =>
      simp at hv hl
      subst hv hl
      exact ⟨hr, hn⟩

theorem Bytes_four (n : Nat) (w : World) (h : n < 4294967296) :
    Calls Try.prog 10 #[.int .u32 (n : Int)] w fun e w' => ∃ A c, e = .returned (.slice A 4 c) ∧ Hid (R8 w' A 4 (le4 n)) ∧ Hid (Below w.heap.size w w') :=
  (Bytes_any n w h).mono fun _ _ ⟨A, c, he, ho, hb⟩ => ⟨A, c, he, ⟨Rd.own ho, le4_lt n⟩, hb⟩

set_option maxRecDepth 100000 in
set_option maxHeartbeats 1000000 in
theorem Check_yes (b off m c : Nat) (l : List Nat) (w : World) (hr : R8 w (some ⟨b, off, none⟩) (m + 4) l) (hn : m + 4 ≤ 1099511627776) (hcap : m + 4 ≤ c) :
    Calls Try.prog 12 #[.slice (some ⟨b, off, none⟩) (m + 4) c] w (Gives (.bool (decide (l.drop m = le4 (sumL (l.take m))))) w) := by
  have HR1 := Lib.hid (show R8 w (some ⟨b, off + m, none⟩) 4 (l.drop m) by
    have := hr.sub m 4 (by omega)
    rwa [List.take_of_length_le (by have := hr.len; simp; omega)] at this)
  have HR2 := Lib.hid (show R8 w (some ⟨b, off, none⟩) m (l.take m) by
    have := hr.sub 0 m (by omega)
    rwa [List.drop_zero, Nat.add_zero] at this)
  clear hr
  have e1 : ((m + 4 : Nat) : Int) - 4 = (m : Int) := by omega
  have h1 : (0 : Int) ≤ (m : Int) := by omega
  have h2 : (m : Int) ≤ (m : Int) + 4 := by omega
  have h3 : (m : Int) ≤ (c : Int) := by omega
  have h4 : m ≠ c := by omega
  go_enter Try.func12, Try.ntmps12
  go_wp2_with fail
  go_region_held3 (fun _ => True) (trivial) (first
    | (go_at_call 7; refine (Sum_one _ (some ⟨b, off, none⟩) m c _ (l.take m) _ ?_ ?_ ?_).mono ?_; (simp); (exact HR2.out.below (((Below.refl _ _).alloc (Nat.le_refl _) _).drew)); (omega); rintro e w' ⟨rfl, rfl⟩)
    | (go_at_call 10; refine (Bytes_four _ _ ?_).mono ?_; (exact sumL_lt _); rintro e w2 ⟨A2, c2, rfl, H2, B2⟩)
    | (go_at_call 15; refine (Equal_any _ _ _ _ _ _ (l.drop m) (le4 (sumL (l.take m))) _ ?_ ?_).mono ?_; (exact HR1.out.below ((((Below.refl _ _).alloc (Nat.le_refl _) _).drew).trans (B2.out.mono (by simp)))); (exact H2.out); rintro e w' ⟨rfl, rfl⟩))
  go_wp2
  go_ret
  exact ⟨rfl, (((Below.refl _ _).alloc (Nat.le_refl _) _).drew).trans (B2.out.mono (by simp))⟩

theorem Check_any (A : Option Addr) (n c : Nat) (l : List Nat) (w : World) (hr : R8 w A n l) (hn : n ≤ 1099511627776) (hcap : n ≤ c) :
    Calls Try.prog 12 #[.slice A n c] w (Gives (.bool (chk l)) w) := by
  by_cases h4 : 4 ≤ n
  · obtain ⟨b, off, rfl, hb, _⟩ := hr.1.2 (by omega)
    obtain ⟨m, rfl⟩ : ∃ m, n = m + 4 := ⟨n - 4, by omega⟩
    have e : chk l = decide (l.drop m = le4 (sumL (l.take m))) := by
      unfold chk
      rw [hr.len, show m + 4 - 4 = m by omega, decide_eq_true h4, Bool.true_and]
    rw [e]
    exact Check_yes b off m c l w hr hn hcap
  · have e : chk l = false := by
      unfold chk
      rw [hr.len, decide_eq_false h4, Bool.false_and]
    rw [e]
    clear e hr
    have h5 : (n : Int) < 4 := by omega
    go_enter Try.func12, Try.ntmps12
    go_wp2
    go_ret
    exact ⟨rfl, Below.refl _ _⟩

theorem Sum_two (g : Nat) (A B : Option Addr) (n c m d k : Nat) (a b : List Nat) (w : World) (hc0 : w.cell? ⟨g, 0, none⟩ = some (.slice A n c)) (hc1 : w.cell? ⟨g, 1, none⟩ = some (.slice B m d))
    (ha : R8 w A n a) (hb : R8 w B m b) (hn : n ≤ 1099511627776) (hm : m ≤ 1099511627776) :
    Calls Try.prog 7 #[.slice (some ⟨g, 0, none⟩) 2 k] w fun e w' => e = .returned (.int .u32 (sumL (a ++ b) : Int)) ∧ w = w' := by
  have h := Sum_any (some ⟨g, 0, none⟩) 2 k [(A, n, c), (B, m, d)] [a, b] w ⟨rfl, fun _ => ⟨g, 0, rfl, World.block_lt_of_cell? w _ hc0, fun j hj => ?_⟩⟩ (by omega) rfl ?_
  · simpa using h
  · match j, hj with
    | 0, _ => exact hc0
    | 1, _ => exact hc1
  · intro j v l' hv hl
    match j, hv, hl with
    | 0, hv, hl => simp at hv hl; subst hv hl; exact ⟨ha, hn⟩
    | 1, hv, hl => simp at hv hl; subst hv hl; exact ⟨hb, hm⟩
theorem Sum_three (g : Nat) (A B C : Option Addr) (n c m d p q k : Nat) (a b x : List Nat) (w : World) (hc0 : w.cell? ⟨g, 0, none⟩ = some (.slice A n c)) (hc1 : w.cell? ⟨g, 1, none⟩ = some (.slice B m d)) (hc2 : w.cell? ⟨g, 2, none⟩ = some (.slice C p q))
    (ha : R8 w A n a) (hb : R8 w B m b) (hx : R8 w C p x) (hn : n ≤ 1099511627776) (hm : m ≤ 1099511627776) (hp : p ≤ 1099511627776) :
    Calls Try.prog 7 #[.slice (some ⟨g, 0, none⟩) 3 k] w fun e w' => e = .returned (.int .u32 (sumL (a ++ (b ++ x)) : Int)) ∧ w = w' := by
  have h := Sum_any (some ⟨g, 0, none⟩) 3 k [(A, n, c), (B, m, d), (C, p, q)] [a, b, x] w ⟨rfl, fun _ => ⟨g, 0, rfl, World.block_lt_of_cell? w _ hc0, fun j hj => ?_⟩⟩ (by omega) rfl ?_
  · simpa using h
  · match j, hj with
    | 0, _ => exact hc0
    | 1, _ => exact hc1
    | 2, _ => exact hc2
  · intro j v l' hv hl
    match j, hv, hl with
    | 0, hv, hl => simp at hv hl; subst hv hl; exact ⟨ha, hn⟩
    | 1, hv, hl => simp at hv hl; subst hv hl; exact ⟨hb, hm⟩
    | 2, hv, hl => simp at hv hl; subst hv hl; exact ⟨hx, hp⟩

set_option maxRecDepth 100000 in
theorem awake2_any (w : World) : Calls Try.prog 6 #[] w (Gives (.bool true) w) := by
  have HS := Lib.hid (show sumL ([49, 50, 51, 52] ++ [53, 54, 55, 56, 57]) = 3421780262 by decide +kernel)
  go_enter Try.func6, Try.ntmps6
  go_wp2_with fail
  refine (Sum_two _ (some ⟨w.heap.size, 0, none⟩) (some ⟨w.heap.size + 1, 0, none⟩) 4 4 5 5 _ [49, 50, 51, 52] [53, 54, 55, 56, 57] _ ?_ ?_ ?_ ?_ (by omega) (by omega)).mono ?_
  · rw [World.cell?_alloc_at (hn := by simp)]; rfl
  · rw [World.cell?_alloc_at (hn := by simp)]; rfl
  · refine ⟨⟨rfl, fun _ => ⟨_, 0, rfl, by simp; omega, fun j hj => ?_⟩⟩, by simp⟩
    rw [World.cell?_alloc_lt _ _ _ (by simp; omega), World.cell?_alloc_lt _ _ _ (by simp)]
    match j, hj with
    | 0, _ => simp [U8]
    | 1, _ => simp [U8]
    | 2, _ => simp [U8]
    | 3, _ => simp [U8]
  · refine ⟨⟨rfl, fun _ => ⟨_, 0, rfl, by simp, fun j hj => ?_⟩⟩, by simp⟩
    rw [World.cell?_alloc_lt _ _ _ (by simp)]
    match j, hj with
    | 0, _ => simp [U8]
    | 1, _ => simp [U8]
    | 2, _ => simp [U8]
    | 3, _ => simp [U8]
    | 4, _ => simp [U8]
  · rintro e w' ⟨rfl, rfl⟩
    rw [HS.out]
    go_wp2
    go_ret
    exact ⟨rfl, (((Below.refl _ _).alloc (Nat.le_refl _) _).alloc (by simp) _).alloc (by simp; omega) _⟩
end Go.Proofs.Ytdljlhmbjpakgaa
