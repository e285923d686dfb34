/-
  The chapter's example, and the walk of the law PackTakes over the landed code, out of its callees' contracts.
-/
import Derived.Test.YtkmjocicikgnlaaPackG
namespace Go.Proofs.Ytkmjocicikgnlaa
open Go.RowKit

theorem PutsB.at_ {l : List Nat} {er : Int} {w w' : World} {e : Ending} {n : Nat} (h : PutsB l er w e w') (hl : l.length = n) :
    ∃ A c, e = .returned (.tuple #[.slice A n c, .int .i64 er]) ∧ Hid (R8 w' A n l) ∧ Hid (Below w.heap.size w w') ∧ n ≤ c ∧ Hid (A = none → c = 0) := by
  subst hl
  exact h
theorem TakesI.at_ {l : List Int} {er : Int} {w w' : World} {e : Ending} {n : Nat} (h : TakesI l er w e w') (hl : l.length = n) :
    ∃ A c, e = .returned (.tuple #[.slice A n c, .int .i64 er]) ∧ Hid (R64 w' A n l) ∧ Hid (Below w.heap.size w w') ∧ n ≤ c ∧ Hid (A = none → c = 0) := by
  subst hl
  exact h
theorem R64.one {w : World} {g : Nat} {x : Int} (h : w.cell? ⟨g, 0, none⟩ = some (.int .i64 x)) (h1 : -9223372036854775808 ≤ x) (h2 : x ≤ 9223372036854775807) : R64 w (some ⟨g, 0, none⟩) 1 [x] := by
  refine ⟨⟨rfl, fun _ => ⟨g, 0, rfl, World.block_lt_of_cell? w _ h, fun j hj => ?_⟩⟩, by intro y hy; simp at hy; subst hy; exact ⟨h1, h2⟩⟩
  match j, hj with
  | 0, _ => simpa [I64] using h

set_option maxHeartbeats 400000 in
theorem awake3_any (w : World) : Calls Try.prog 7 #[] w (Gives (.bool true) w) := by
  go_enter Try.func7, Try.ntmps7
  go_wp2_with fail
  refine (Put_any _ _ 1 _ 1 _ [2] [300] _ (R64.one (by simp) (by omega) (by omega)) (R64.one (by simp) (by omega) (by omega)) (by omega) (by omega)).mono ?_
  intro e w1 hp
  rw [show putA [2] [300] = [44, 1] by decide +kernel, show putE [2] [300] = 0 by decide +kernel] at hp
  obtain ⟨A1, c1, rfl, H1, B1, hc1, _⟩ := hp.at_ rfl
  clear hp
  have C1 := Lib.hid ((((Below.refl w.heap.size w).alloc (Nat.le_refl _) (.cells #[.int .i64 2] 3)).alloc (by simp) (.cells #[.int .i64 300] 3)).trans (B1.out.mono (by simp; omega)))
  clear B1
  go_wp2_with fail
  refine (Same_any _ _ 2 _ 2 _ [44, 1] [44, 1] _ (H1.out.alloc _) ⟨⟨rfl, fun _ => ⟨_, 0, rfl, by simp, fun j hj => ?_⟩⟩, by simp⟩ (by omega) (by omega)).mono ?_
  · match j, hj with
    | 0, _ => simp [U8]
    | 1, _ => simp [U8]
  · intro e w2 hq
    obtain ⟨rfl, B2⟩ := hq.at_
    clear hq
    go_wp2
    go_ret
    exact ⟨rfl, (C1.out.alloc C1.out.size _).trans (B2.out.mono (by have := C1.out.size; simp; omega))⟩

set_option maxHeartbeats 1000000 in
theorem PackTakes_walk (A B : Option Addr) (n c m d : Nat) (s : List Int) (b : List Nat) (w : World) (ha : R64 w A n s) (hb : R8 w B m b) (hn : n ≤ 9223372036854775807) (hm : m ≤ 9223372036854775807) (hd : m ≤ d) :
    Calls Try.prog 4 #[.slice A n c, .slice B m d] w (Gives (.bool true) w) := by
  have HA := Lib.hid ha
  have HB := Lib.hid hb
  clear ha hb
  go_enter Try.func4, Try.ntmps4
  go_wp2_with fail
  refine (awake3_any _).mono ?_
  rintro e w1 ⟨rfl, h1⟩
  have B1 := Lib.hid h1
  clear h1
  by_cases hn1 : 100 < n
  · go_wp2
    go_ret
    exact ⟨rfl, B1.out⟩
  · by_cases hm1 : 1000 < m
    · go_wp2
      go_ret
      exact ⟨rfl, B1.out⟩
    · go_wp2_with fail
      refine (Take_any _ _ n _ m _ s b _ (HA.out.below B1.out) (HB.out.below B1.out) (by omega) (by omega) hd).mono ?_
      intro e w2 hp
      obtain ⟨N, hN⟩ : ∃ N, (takeA s b).length = N := ⟨_, rfl⟩
      have hN2 : N ≤ 100 := by
        rw [← hN]
        have h3 := HA.out.len
        unfold takeA
        split
        · rw [vals_length]; omega
        · simp
      obtain ⟨A2, c2, rfl, H2, D2, hc2, _⟩ := hp.at_ hN
      have B2 := Lib.hid (below_step B1.out D2.out)
      clear hp
      have HN := Lib.hid hN
      clear hN D2
      go_wp2_with fail
      refine (RefTake_any _ _ n _ m _ s b _ (HA.out.below B2.out) (HB.out.below B2.out) (by omega) (by omega)).mono ?_
      intro e w3 hp
      obtain ⟨A3, c3, rfl, H3, D3, hc3, _⟩ := hp.at_ HN.out
      have B3 := Lib.hid (below_step B2.out D3.out)
      have H2' := Lib.hid (H2.out.below D3.out)
      clear hp D3
      go_wp2_with fail
      refine (Ints_any _ _ N _ N _ _ _ _ H2'.out H3.out (by omega) (by omega)).mono ?_
      intro e w4 hq
      obtain ⟨rfl, D4⟩ := hq.at_
      clear hq
      rw [show decide (takeA s b = takeA s b) = true by simp]
      go_wp2
      go_ret
      exact ⟨rfl, below_step B3.out D4.out⟩
end Go.Proofs.Ytkmjocicikgnlaa
