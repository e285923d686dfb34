/-
  The law's Small (stage 8's), for whatever geometry.
-/
import Derived.Test.YtipmjmbkknlcfaaGeomK
namespace Go.Proofs.Ytipmjmbkknlcfaa
open Go.RowKit
set_option maxRecDepth 100000

def smallG (g : Gm) : Prop := g.c ≤ 4 ∧ g.k ≤ 40 ∧ 0 ≤ g.c ∧ 0 ≤ g.k
set_option maxHeartbeats 1000000 in
theorem Small_yes (g : Gm) (h : smallG g) (w : World) : Calls Try.prog 30 #[g.val] w (Gives (.bool true) w) := by
  obtain ⟨p, b, s, c, k, r, q⟩ := g
  obtain ⟨h1, h2, h3, h4⟩ := h
  simp only at h1 h2 h3 h4
  have d1 : decide (c ≤ 4) = true := decide_eq_true h1
  have d2 : decide (k ≤ 40) = true := decide_eq_true h2
  have d3 : decide (0 ≤ c) = true := decide_eq_true h3
  have d4 : decide (0 ≤ k) = true := decide_eq_true h4
  simp only [Gm.val]
  go_enter Try.func30, Try.ntmps30
  go_wp2
  go_ret
  exact ⟨rfl, below_new w _⟩
set_option maxHeartbeats 1000000 in
theorem Small_no (g : Gm) (h : ¬ smallG g) (w : World) : Calls Try.prog 30 #[g.val] w (Gives (.bool false) w) := by
  obtain ⟨p, b, s, c, k, r, q⟩ := g
  unfold smallG at h
  simp only at h
  simp only [Gm.val]
  by_cases h1 : c ≤ 4
  · have d1 : decide (c ≤ 4) = true := decide_eq_true h1
    by_cases h2 : k ≤ 40
    · have d2 : decide (k ≤ 40) = true := decide_eq_true h2
      by_cases h3 : 0 ≤ c
      · have d3 : decide (0 ≤ c) = true := decide_eq_true h3
        have d4 : decide (0 ≤ k) = false := decide_eq_false (by omega)
        clear h
        go_enter Try.func30, Try.ntmps30
        go_wp2
        go_ret
        exact ⟨rfl, below_new w _⟩
      · have d3 : decide (0 ≤ c) = false := decide_eq_false h3
        clear h
        go_enter Try.func30, Try.ntmps30
        go_wp2
        go_ret
        exact ⟨rfl, below_new w _⟩
    · have d2 : decide (k ≤ 40) = false := decide_eq_false h2
      clear h
      go_enter Try.func30, Try.ntmps30
      go_wp2
      go_ret
      exact ⟨rfl, below_new w _⟩
  · have d1 : decide (c ≤ 4) = false := decide_eq_false h1
    clear h
    go_enter Try.func30, Try.ntmps30
    go_wp2
    go_ret
    exact ⟨rfl, below_new w _⟩
end Go.Proofs.Ytipmjmbkknlcfaa
