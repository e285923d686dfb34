/-
  Contract of stage 11's awake, over the landed code.
-/
import Derived.Test.YtkhdbfklfkkodaaTrB
namespace Go.Proofs.Ytkhdbfklfkkodaa
open Go.RowKit
set_option maxRecDepth 100000

set_option maxHeartbeats 4000000 in
theorem awake11_any (w : World) : Calls Try.prog 4 #[] w (Gives (.bool true) w) := by
  go_enter Try.func4, Try.ntmps4
  go_wp2_with fail
  refine (New_any _).mono ?_
  rintro _ w1 ⟨p, I, rfl, h1, r1, i1⟩
  have B1 := Lib.hid h1
  have R1 := Lib.hid r1
  have I1 := Lib.hid i1
  clear h1 r1 i1
  have X1 := Lib.hid (RC.two w1 ⟨1, 0⟩ ⟨2, 0⟩ (by unfold inC; simp) (by unfold inC; simp) 38)
  have N1 := Lib.hid (below_new w1 (.cells #[.int .i64 1, .int .u8 0, .int .i64 2, .int .u8 0] 38))
  go_wp2_with fail
  refine (Add_any p I [] 0 _ 0 _ 2 2 [⟨1, 0⟩, ⟨2, 0⟩] _ (R1.out.below N1.out) X1.out (by simp) (by omega) (by simp) (by omega)).mono ?_
  rintro _ w2 ⟨rfl, g2, J2, r2, j2⟩
  have hj2 : ∀ j, J2 j → w.heap.size ≤ j := fun j hj => by
    rcases Nat.lt_or_ge j (w1.alloc (.cells #[.int .i64 1, .int .u8 0, .int .i64 2, .int .u8 0] 38)).heap.size with h | h
    · exact I1.out j (j2 j h hj)
    · have := B1.out.size
      have := N1.out.size
      omega
  have B2 := Lib.hid (show Below w.heap.size w w2 from (below_step B1.out N1.out).trans (g2.below I1.out (Nat.le_trans B1.out.size N1.out.size)))
  have R2 := Lib.hid r2
  have I2 := Lib.hid hj2
  clear g2 r2 j2 hj2 R1 I1 X1 N1 B1
  go_wp2_with fail
  refine (Mark_any p J2 _ _ _ _ ⟨#[97]⟩ _ R2.out (by omega) (by simp) (by decide)).mono ?_
  rintro _ w3 ⟨rfl, g3, J3, r3, j3⟩
  have hj3 : ∀ j, J3 j → w.heap.size ≤ j := fun j hj => by
    rcases Nat.lt_or_ge j w2.heap.size with h | h
    · exact I2.out j (j3 j h hj)
    · have := B2.out.size
      omega
  have B3 := Lib.hid (show Below w.heap.size w w3 from B2.out.trans (g3.below I2.out B2.out.size))
  have R3 := Lib.hid r3
  have I3 := Lib.hid hj3
  clear g3 r3 j3 hj3 R2 I2 B2
  have X3 := Lib.hid (RC.one w3 ⟨3, 0⟩ (by unfold inC; simp) 38)
  have N3 := Lib.hid (below_new w3 (.cells #[.int .i64 3, .int .u8 0] 38))
  go_wp2_with fail
  refine (Add_any p J3 _ 2 _ _ _ 1 1 [⟨3, 0⟩] _ (R3.out.below N3.out) X3.out (by simp) (by omega) (by simp) (by omega)).mono ?_
  rintro _ w4 ⟨rfl, g4, J4, r4, j4⟩
  have B4 := Lib.hid (show Below w.heap.size w w4 from (B3.out.trans (N3.out.mono B3.out.size)).trans (g4.below I3.out (Nat.le_trans B3.out.size N3.out.size)))
  have R4 := Lib.hid r4
  clear g4 r4 j4 R3 I3 X3 N3 B3
  go_wp2_with fail
  refine (Since_any p J4 _ _ _ _ ⟨#[97]⟩ _ R4.out (by simp) (by decide) (by simp)).mono ?_
  rintro _ w5 ⟨h5, ⟨h, _⟩ | ⟨x, hx, A, c, rfl, r5⟩⟩
  · simp at h
  simp at hx
  subst hx
  have B5 := Lib.hid (B4.out.trans (h5.mono B4.out.size))
  have R5 := Lib.hid (R4.out.below h5)
  obtain ⟨b, off, t, rfl, _, ht, _, c0, c1⟩ := r5.at_ (k := 0) (by simp)
  have ht := ht.out
  simp at ht
  subst ht
  clear h5 r5 R4 B4
  obtain ⟨A6, c6, b6, D6, r6, _⟩ := R5.out
  have HC := Lib.hid r6
  simp only [Nat.zero_mul, Nat.add_zero] at c0
  rw [show (List.drop 2 ([] ++ [(⟨1, 0⟩ : Cy), ⟨2, 0⟩] ++ [⟨3, 0⟩])).length = 1 from rfl]
  clear R5 r6 c1
  go_wp2_with fail
  refine (All_any p b6 _ _ _ HC.out).mono ?_
  rintro _ w6 ⟨rfl, h6⟩
  have B6 := Lib.hid (B5.out.trans (h6.mono B5.out.size))
  clear h6
  go_wp2
  go_ret
  exact ⟨by simp, B6.out⟩
end Go.Proofs.Ytkhdbfklfkkodaa
