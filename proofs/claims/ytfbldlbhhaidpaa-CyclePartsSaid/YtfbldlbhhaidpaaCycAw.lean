/-
  Contract of stage 10's awake, over the landed code.
-/
import Derived.Test.YtfbldlbhhaidpaaCycE
namespace Go.Proofs.Ytfbldlbhhaidpaa
open Go.RowKit
set_option maxRecDepth 100000

theorem RC.two (w : World) (x y : Cy) (hx : inC x) (hy : inC y) (T : TypeId) : RC (w.alloc (.cells #[.int .i64 x.k, .int .u8 (x.b : Int), .int .i64 y.k, .int .u8 (y.b : Int)] T)) (some ⟨w.heap.size, 0, none⟩) 2 [x, y] := by
  refine ⟨rfl, fun t ht => ?_, fun _ => ⟨w.heap.size, 0, rfl, by simp, fun j hj => ?_⟩⟩
  · simp only [List.mem_cons, List.not_mem_nil, or_false] at ht
    rcases ht with rfl | rfl
    · exact hx
    · exact hy
  · have h4 : j = 0 ∨ j = 1 ∨ j = 2 ∨ j = 3 := by omega
    rcases h4 with rfl | rfl | rfl | rfl <;> simp [CyC]

theorem awake10_any (w : World) : Calls Try.prog 7 #[] w (Gives (.bool true) w) := by
  have HR := Lib.hid (RC.two w ⟨1, 112⟩ ⟨4, 224⟩ (by unfold inC; simp) (by unfold inC; simp) 31)
  have hs : str (textL [⟨1, 112⟩, ⟨4, 224⟩]) = ⟨#[99, 55, 48, 32, 114, 101, 48]⟩ := by decide +kernel
  go_enter Try.func7, Try.ntmps7
  go_wp2_with fail
  refine (Text_any _ _ _ _ _ HR.out (by omega)).mono ?_
  rintro _ w1 ⟨h1, ⟨_, rfl⟩ | ⟨h2, _⟩⟩
  · rw [hs]
    go_wp2
    go_ret
    exact ⟨rfl, below_step (below_new w _) h1⟩
  · exact absurd h2 (by decide)
end Go.Proofs.Ytfbldlbhhaidpaa
