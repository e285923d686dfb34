/-
  The chapter's example (package incunablelaw07), over the landed code.
-/
import Derived.Test.YtfioapdbibggkaaTagB
namespace Go.Proofs.Ytfioapdbibggkaa
open Go.RowKit

set_option maxHeartbeats 400000 in
theorem awake7_any (w : World) : Calls Try.prog 7 #[] w (Gives (.bool true) w) := by
  go_enter Try.func7, Try.ntmps7
  go_wp2_with fail
  refine (TagPut_yes ⟨2, 5, 0, 0⟩ (by decide) _).mono ?_
  intro _ w1 hp
  obtain ⟨A1, c1, rfl, H1, B1, _, _⟩ := hp.at_ (Tg.bytes_len _)
  clear hp
  obtain ⟨b, o, x, rfl, hb, HX, hx, k2⟩ := H1.out.at_ (k := 2) (by omega)
  obtain ⟨b', o', y, e, hb', HY, hy, k3⟩ := H1.out.at_ (k := 3) (by omega)
  injection e with e
  injection e with e1 e2
  subst e1 e2
  obtain rfl : x = 2 := by
    have h : (Tg.bytes ⟨2, 5, 0, 0⟩)[2]? = some 2 := by decide +kernel
    rw [HX.out] at h
    injection h
  obtain rfl : y = 5 := by
    have h : (Tg.bytes ⟨2, 5, 0, 0⟩)[3]? = some 5 := by decide +kernel
    rw [HY.out] at h
    injection h
  clear HX HY hx hy hb' H1
  go_wp2
  go_ret
  exact ⟨rfl, B1.out⟩
end Go.Proofs.Ytfioapdbibggkaa
