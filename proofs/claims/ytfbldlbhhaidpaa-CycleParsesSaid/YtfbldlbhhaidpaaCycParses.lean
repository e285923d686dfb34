/-
  The walk of the law CycleParses over the landed code, out of its callees' contracts.
-/
import Derived.Test.YtfbldlbhhaidpaaCycAw
import Derived.Test.YtfbldlbhhaidpaaCycC
import Derived.Test.YtfbldlbhhaidpaaCycH
namespace Go.Proofs.Ytfbldlbhhaidpaa
open Go.RowKit
set_option maxRecDepth 100000

set_option maxHeartbeats 2000000 in
theorem CycleParses_walk (s : ByteArray) (w : World) (hs : s.size ≤ 9223372036854775807) :
    Calls Try.prog 4 #[.string s] w (Gives (.bool true) w) := by
  have HLE := Lib.hid (faultL_le (bl s))
  go_enter Try.func4, Try.ntmps4
  go_wp2_with fail
  refine (awake10_any _).mono ?_
  rintro _ w1 ⟨rfl, h1⟩
  have B1 := Lib.hid h1
  clear h1
  by_cases hbig : 1000 < s.size
  · go_wp2
    go_ret
    exact ⟨rfl, B1.out⟩
  · have e0 : decide ((1000 : Int) < (s.size : Int)) = false := decide_eq_false (by omega)
    go_wp2_with fail
    refine (Parse_any s _ (by omega)).mono ?_
    rintro _ w2 ⟨h2, h⟩
    have B2 := Lib.hid (below_step B1.out h2)
    clear h2
    rcases h with ⟨hf, rfl⟩ | ⟨hf, A1, c1, rfl, r1, _⟩
    · obtain ⟨f, HF⟩ : ∃ f, Hid (faultL (bl s) = f) := ⟨_, Lib.hid rfl⟩
      rw [HF.out] at hf ⊢
      go_wp2_with fail
      refine (RefParseC_any s _ (by omega)).mono ?_
      rintro _ w3 ⟨h3, h⟩
      have B3 := Lib.hid (below_step B2.out h3)
      clear h3
      rw [HF.out] at h
      rcases h with ⟨_, rfl⟩ | ⟨h, _⟩
      · go_wp2
        go_ret
        exact ⟨rfl, B3.out⟩
      · omega
    · have HF := Lib.hid hf
      have R1 := Lib.hid r1
      obtain ⟨m, HM⟩ : ∃ m, Hid ((parseL (bl s)).length = m) := ⟨_, Lib.hid rfl⟩
      have hm : m ≤ 1000 := by
        have h := HM.out
        unfold parseL at h
        rw [cysTo_length, bl_length] at h
        omega
      rw [HM.out] at R1 ⊢
      clear hf r1
      go_wp2_with fail
      refine (RefParseC_any s _ (by omega)).mono ?_
      rintro _ w3 ⟨h3, h⟩
      rcases h with ⟨h, _⟩ | ⟨_, A2, c2, rfl, r2⟩
      · rw [HF.out] at h
        omega
      · rw [HM.out] at r2 ⊢
        have R2 := Lib.hid r2
        have R1 := Lib.hid (R1.out.below h3)
        have B3 := Lib.hid (below_step B2.out h3)
        clear r2 h3
        go_wp2_with fail
        refine (RefSameC_any A1 A2 m c1 m c2 _ _ _ R1.out R2.out (by omega) (by omega)).mono ?_
        rintro _ w4 ⟨rfl, h4⟩
        rw [sameC_self]
        have B4 := Lib.hid (below_step B3.out h4)
        clear h4
        go_wp2
        go_ret
        exact ⟨rfl, B4.out⟩
end Go.Proofs.Ytfbldlbhhaidpaa
