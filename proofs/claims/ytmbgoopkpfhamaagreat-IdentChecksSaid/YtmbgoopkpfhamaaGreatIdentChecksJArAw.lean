/-
  Contracts of stage 13's plain, Small, awake, over the landed code.
-/
import Derived.Laws.ResultCell
import Derived.Test.YtmbgoopkpfhamaaGreatIdentChecksJ17
import Derived.Test.YtmbgoopkpfhamaaGreatIdentChecksJ6
import Derived.Test.YtmbgoopkpfhamaaGreatIdentChecksJ20
namespace Go.Proofs.YtmbgoopkpfhamaaGreat
open Go.RowKit
set_option maxRecDepth 100000
def geo2 : Gm := ⟨1, 2, 4, 1, 4, 1, 1⟩
def small13 (g : Gm) : Prop := smallG g ∧ g.b ≤ 16 ∧ g.s ≤ 12
set_option maxHeartbeats 1000000 in
theorem Small13_any (g : Gm) (w : World) : ∃ v, (v = true ↔ small13 g) ∧ Calls Tryz.prog 5 #[g.val] w (Gives (.bool v) w) := by
 have Y0 := Lib.hid (GBox.new w g 23)
 have B0 := Lib.hid (below_new w (.cells #[.int .i64 g.p, .int .i64 g.b, .int .i64 g.s, .int .i64 g.c, .int .i64 g.k, .int .i64 g.r, .int .i64 g.q] 23))
 by_cases hs : smallG g
 ·
  have HS := Lib.hid (fun w' => Small_yes g hs w')
  unfold Gm.val at HS ⊢
  by_cases h1 : g.b ≤ 16
  ·
   have d1 : decide (g.b ≤ 16) = true := decide_eq_true h1
   by_cases h2 : g.s ≤ 12
   ·
    have d2 : decide (g.s ≤ 12) = true := decide_eq_true h2
    refine ⟨true, ⟨fun _ => ⟨hs, h1, h2⟩, fun _ => rfl⟩, ?_⟩
    clear hs
    go_enter Tryz.func5, Tryz.ntmps5
    obtain ⟨_, g0, g1, g2, g3, g4, g5, g6⟩ := Y0.out
    go_wp2_with fail
    refine (HS.out _).mono ?_
    rintro _ w1 ⟨rfl, h3⟩
    have B1 := Lib.hid (below_step B0.out h3)
    clear g0 g1 g2 g3 g4 g5 g6
    obtain ⟨_, g0, g1, g2, g3, g4, g5, g6⟩ := Y0.out.below h3
    clear h3
    go_wp2
    go_ret
    exact ⟨rfl, B1.out⟩
   ·
    have d2 : decide (g.s ≤ 12) = false := decide_eq_false h2
    refine ⟨false, ⟨(by intro h; cases h), fun h => absurd h.2.2 h2⟩, ?_⟩
    clear hs
    go_enter Tryz.func5, Tryz.ntmps5
    obtain ⟨_, g0, g1, g2, g3, g4, g5, g6⟩ := Y0.out
    go_wp2_with fail
    refine (HS.out _).mono ?_
    rintro _ w1 ⟨rfl, h3⟩
    have B1 := Lib.hid (below_step B0.out h3)
    clear g0 g1 g2 g3 g4 g5 g6
    obtain ⟨_, g0, g1, g2, g3, g4, g5, g6⟩ := Y0.out.below h3
    clear h3
    go_wp2
    go_ret
    exact ⟨rfl, B1.out⟩
  ·
   have d1 : decide (g.b ≤ 16) = false := decide_eq_false h1
   refine ⟨false, ⟨(by intro h; cases h), fun h => absurd h.2.1 h1⟩, ?_⟩
   clear hs
   go_enter Tryz.func5, Tryz.ntmps5
   obtain ⟨_, g0, g1, g2, g3, g4, g5, g6⟩ := Y0.out
   go_wp2_with fail
   refine (HS.out _).mono ?_
   rintro _ w1 ⟨rfl, h3⟩
   have B1 := Lib.hid (below_step B0.out h3)
   clear g0 g1 g2 g3 g4 g5 g6
   obtain ⟨_, g0, g1, g2, g3, g4, g5, g6⟩ := Y0.out.below h3
   clear h3
   go_wp2
   go_ret
   exact ⟨rfl, B1.out⟩
 ·
  have HS := Lib.hid (fun w' => Small_no g hs w')
  unfold Gm.val at HS ⊢
  refine ⟨false, ⟨(by intro h; cases h), fun h => absurd h.1 hs⟩, ?_⟩
  clear hs
  go_enter Tryz.func5, Tryz.ntmps5
  obtain ⟨_, g0, g1, g2, g3, g4, g5, g6⟩ := Y0.out
  go_wp2_with fail
  refine (HS.out _).mono ?_
  rintro _ w1 ⟨rfl, h3⟩
  have B1 := Lib.hid (below_step B0.out h3)
  clear g0 g1 g2 g3 g4 g5 g6 h3
  go_wp2
  go_ret
  exact ⟨rfl, B1.out⟩
theorem raw_small {g : Gm} (ho : g.ok = true) (h : small13 g) : g.raw ≤ 1000 := by
 have hb := Gm.bounds_of ho
 obtain ⟨⟨h1, h2, _, _⟩, _, _⟩ := h
 unfold Gm.raw
 rw [if_pos ho]
 have := (mul_le (a := g.c) (b := g.k + 2) (m := 4) (n := 42) (by omega) (by omega) (by omega) (by omega)).2
 omega
end Go.Proofs.YtmbgoopkpfhamaaGreat
