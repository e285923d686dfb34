/-
  Contracts of stage 13's plain, Small, awake, over the landed code.
-/
import Derived.Laws.ResultCell
import Derived.Test.YtlalghhaibknfaaGreatChipResetsJ13
import Derived.Test.YtlalghhaibknfaaGreatChipResetsJ6
import Derived.Test.YtlalghhaibknfaaGreatChipResetsJ16
namespace Go.Proofs.YtlalghhaibknfaaGreat
open Go.RowKit
set_option maxRecDepth 100000

theorem size_geom13 : (Tryz.prog.info? 23).map (·.size) = some 7 := by kernel_rfl
def geo2 : Gm := ⟨1, 2, 4, 1, 4, 1, 1⟩
theorem geo2_ok : geo2.ok = true := by decide +kernel
/-- Small enough for a play. -/
def small13 (g : Gm) : Prop := smallG g ∧ g.b ≤ 16 ∧ g.s ≤ 12
set_option maxHeartbeats 1000000 in
theorem Small13_any (g : Gm) (w : World) : ∃ v, (v = true ↔ small13 g) ∧ Calls Tryz.prog 13 #[g.val] w (Gives (.bool v) w) := by
  have Y0 := Lib.hid (GBox.new w g 23)
  have B0 := Lib.hid (below_new w (.cells #[.int .i64 g.p, .int .i64 g.b, .int .i64 g.s, .int .i64 g.c, .int .i64 g.k, .int .i64 g.r, .int .i64 g.q] 23))
  by_cases hs : smallG g
  · have HS := Lib.hid (fun w' => Small_yes g hs w')
    unfold Gm.val at HS ⊢
    by_cases h1 : g.b ≤ 16
    · have d1 : decide (g.b ≤ 16) = true := decide_eq_true h1
      by_cases h2 : g.s ≤ 12
      · have d2 : decide (g.s ≤ 12) = true := decide_eq_true h2
        refine ⟨true, ⟨fun _ => ⟨hs, h1, h2⟩, fun _ => rfl⟩, ?_⟩
        clear hs
        go_enter Tryz.func13, Tryz.ntmps13
        obtain ⟨_, g0, g1, g2, g3, g4, g5, g6⟩ := Y0.out
        go_wp2_with fail
        refine (HS.out _).mono ?_
        rintro _ w1 ⟨rfl, h3⟩
        have B1 := Lib.hid (below_step B0.out h3)
        clear g0 g1 g2 g3 g4 g5 g6
        obtain ⟨_, g0, g1, g2, g3, g4, g5, g6⟩ := Y0.out.below h3
        clear h3
        go_wp2
        go_ret
        exact ⟨rfl, B1.out⟩
      · have d2 : decide (g.s ≤ 12) = false := decide_eq_false h2
        refine ⟨false, ⟨(by intro h; cases h), fun h => absurd h.2.2 h2⟩, ?_⟩
        clear hs
        go_enter Tryz.func13, Tryz.ntmps13
        obtain ⟨_, g0, g1, g2, g3, g4, g5, g6⟩ := Y0.out
        go_wp2_with fail
        refine (HS.out _).mono ?_
        rintro _ w1 ⟨rfl, h3⟩
        have B1 := Lib.hid (below_step B0.out h3)
        clear g0 g1 g2 g3 g4 g5 g6
        obtain ⟨_, g0, g1, g2, g3, g4, g5, g6⟩ := Y0.out.below h3
        clear h3
        go_wp2
        go_ret
        exact ⟨rfl, B1.out⟩
    · have d1 : decide (g.b ≤ 16) = false := decide_eq_false h1
      refine ⟨false, ⟨(by intro h; cases h), fun h => absurd h.2.1 h1⟩, ?_⟩
      clear hs
      go_enter Tryz.func13, Tryz.ntmps13
      obtain ⟨_, g0, g1, g2, g3, g4, g5, g6⟩ := Y0.out
      go_wp2_with fail
      refine (HS.out _).mono ?_
      rintro _ w1 ⟨rfl, h3⟩
      have B1 := Lib.hid (below_step B0.out h3)
      clear g0 g1 g2 g3 g4 g5 g6
      obtain ⟨_, g0, g1, g2, g3, g4, g5, g6⟩ := Y0.out.below h3
      clear h3
      go_wp2
      go_ret
      exact ⟨rfl, B1.out⟩
  · have HS := Lib.hid (fun w' => Small_no g hs w')
    unfold Gm.val at HS ⊢
    refine ⟨false, ⟨(by intro h; cases h), fun h => absurd h.1 hs⟩, ?_⟩
    clear hs
    go_enter Tryz.func13, Tryz.ntmps13
    obtain ⟨_, g0, g1, g2, g3, g4, g5, g6⟩ := Y0.out
    go_wp2_with fail
    refine (HS.out _).mono ?_
    rintro _ w1 ⟨rfl, h3⟩
    have B1 := Lib.hid (below_step B0.out h3)
    clear g0 g1 g2 g3 g4 g5 g6 h3
    go_wp2
    go_ret
    exact ⟨rfl, B1.out⟩

theorem raw_small {g : Gm} (ho : g.ok = true) (h : small13 g) : g.raw ≤ 1000 := by
  have hb := Gm.bounds_of ho
  obtain ⟨⟨h1, h2, _, _⟩, _, _⟩ := h
  unfold Gm.raw
  rw [if_pos ho]
  have := (mul_le (a := g.c) (b := g.k + 2) (m := 4) (n := 42) (by omega) (by omega) (by omega) (by omega)).2
  omega

theorem New_nil (g : Gm) (w : World) (ho : g.ok = true) (hlow : g.raw ≤ 1000) :
    Calls Tryz.prog 27 #[g.val, .slice none 0 0] w fun e w' => ∃ p q r, e = .returned (.tuple #[.pointer (some ⟨p, 0, none⟩), .int .i64 0]) ∧ AR (fun j => j = p ∨ j = q ∨ j = r) w' p q r g (St.new g.raw.toNat (g.b * g.s).toNat g.s.toNat g.b.toNat []) ∧ Below w.heap.size w w' ∧ w.heap.size ≤ p ∧ w.heap.size ≤ q ∧ w.heap.size ≤ r := by
  refine (New_any g none 0 0 [] w ho hlow ⟨Rd.nil_, by simp⟩ (by omega)).mono ?_
  rintro e w' (⟨_, h⟩ | ⟨h, _⟩)
  · exact h
  · exact absurd (fun x hx => by cases hx) h
theorem ones_erased : ones (List.replicate 37 255) = 296 := by decide +kernel
end Go.Proofs.YtlalghhaibknfaaGreat
