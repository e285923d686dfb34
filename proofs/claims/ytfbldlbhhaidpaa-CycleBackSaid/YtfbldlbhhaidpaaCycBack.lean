/-
  The walk of the law CycleBack over the landed code, out of its callees' contracts.
-/
import Derived.Test.YtfbldlbhhaidpaaCycAw
import Derived.Test.YtfbldlbhhaidpaaCycC
import Derived.Test.YtfbldlbhhaidpaaCycP
namespace Go.Proofs.Ytfbldlbhhaidpaa
open Go.RowKit
set_option maxRecDepth 100000

set_option maxHeartbeats 4000000 in
theorem CycleBack_walk (A : Option Addr) (n c : Nat) (l : List Cy) (s : ByteArray) (w : World) (hr : RC w A n l) (hn : n ≤ 9223372036854775807) (hs : s.size ≤ 9223372036854775807) :
    Calls Try.prog 5 #[.slice A n c, .string s] w (Gives (.bool true) w) := by
  have HR := Lib.hid hr
  have hlen := Lib.hid hr.len
  have h256 := Lib.hid hr.b256
  have HLE := Lib.hid (faultL_le (bl s))
  clear hr
  go_enter Try.func5, Try.ntmps5
  go_wp2_with fail
  refine (awake10_any _).mono ?_
  rintro _ w1 ⟨rfl, h1⟩
  have B1 := Lib.hid h1
  clear h1
  by_cases hbig : 300 < n
  · go_wp2
    go_ret
    exact ⟨rfl, B1.out⟩
  · have e0 : decide ((300 : Int) < (n : Int)) = false := decide_eq_false (by omega)
    by_cases hbs : 1000 < s.size
    · go_wp2
      go_ret
      exact ⟨rfl, B1.out⟩
    · have e1 : decide ((1000 : Int) < (s.size : Int)) = false := decide_eq_false (by omega)
      go_wp2_with fail
      refine (Text_any A n c l _ (HR.out.below B1.out) (by omega)).mono ?_
      rintro _ w2 ⟨h2, h⟩
      have B2 := Lib.hid (below_step B1.out h2)
      clear h2
      rcases h with ⟨hok, rfl⟩ | ⟨_, rfl⟩
      · have hk := okC_iff.1 hok
        have hb := bl_str (l := textL l) (fun x hx => by have := textL_lt h256.out x hx; omega)
        have HF0 := Lib.hid (show faultL (bl (str (textL l))) = 0 by rw [hb, faultL_text hk h256.out])
        have HPL := Lib.hid (show parseL (bl (str (textL l))) = l by rw [hb, parseL_text hk h256.out])
        have hsz : (str (textL l)).size ≤ 67108864 := by rw [str_size, textL_length, hlen.out]; omega
        obtain ⟨t, HT⟩ : ∃ t, Hid (str (textL l) = t) := ⟨_, Lib.hid rfl⟩
        rw [HT.out] at HF0 HPL hsz ⊢
        clear hk hb hok
        go_wp2_with fail
        refine (Parse_any t _ (by omega)).mono ?_
        rintro _ w3 ⟨h3, h⟩
        have B3 := Lib.hid (below_step B2.out h3)
        clear h3
        rcases h with ⟨h, _⟩ | ⟨_, A3, c3, rfl, r3, _⟩
        · rw [HF0.out] at h
          omega
        · rw [HPL.out, hlen.out] at r3 ⊢
          have R3 := Lib.hid r3
          clear r3 HF0 HPL
          go_wp2_with fail
          refine (RefSameC_any A A3 n c n c3 _ _ _ (HR.out.below B3.out) R3.out (by omega) (by omega)).mono ?_
          rintro _ w4 ⟨rfl, h4⟩
          rw [sameC_self]
          have B4 := Lib.hid (below_step B3.out h4)
          clear h4
          go_wp2_with fail
          refine (Parse_any s _ (by omega)).mono ?_
          rintro _ w7 ⟨h7, h⟩
          have B7 := Lib.hid (below_step B4.out h7)
          clear h7
          rcases h with ⟨hf, rfl⟩ | ⟨hf, A7, c7, rfl, r7, _⟩
          · obtain ⟨f, HF⟩ : ∃ f, Hid (faultL (bl s) = f) := ⟨_, Lib.hid rfl⟩
            rw [HF.out] at hf ⊢
            have e1 : decide ((1 : Int) ≤ (f : Int)) = true := decide_eq_true (by omega)
            have e2 : decide ((f : Int) ≤ (s.size : Int) + 1) = true := decide_eq_true (by have := HLE.out; rw [HF.out, bl_length] at this; omega)
            have e3 : 1 ≤ f := by omega
            have e4 : f ≤ s.size + 1 := by have := HLE.out; rw [HF.out, bl_length] at this; omega
            go_wp2
            go_ret
            exact ⟨by simp, B7.out⟩
          · have R7 := Lib.hid r7
            obtain ⟨g1, g2⟩ := text_parse hf
            have hts := Lib.hid (show str (textL (parseL (bl s))) = s by rw [g1, str_bl])
            obtain ⟨m, HM⟩ : ∃ m, Hid ((parseL (bl s)).length = m) := ⟨_, Lib.hid rfl⟩
            have hm : m ≤ 1000 := by
              have h := HM.out
              unfold parseL at h
              rw [cysTo_length, bl_length] at h
              omega
            rw [HM.out] at R7 ⊢
            have G2 := Lib.hid g2
            clear hf r7 g1 g2
            go_wp2_with fail
            refine (Text_any A7 m c7 _ _ R7.out (by omega)).mono ?_
            rintro _ w8 ⟨h8, ⟨_, rfl⟩ | ⟨h, _⟩⟩
            · rw [hts.out]
              have B8 := Lib.hid (below_step B7.out h8)
              clear h8 hts
              go_wp2
              go_ret
              exact ⟨by simp, B8.out⟩
            · rw [G2.out] at h
              cases h
      · skip
        go_wp2_with fail
        refine (Parse_any s _ (by omega)).mono ?_
        rintro _ w7 ⟨h7, h⟩
        have B7 := Lib.hid (below_step B2.out h7)
        clear h7
        rcases h with ⟨hf, rfl⟩ | ⟨hf, A7, c7, rfl, r7, _⟩
        · obtain ⟨f, HF⟩ : ∃ f, Hid (faultL (bl s) = f) := ⟨_, Lib.hid rfl⟩
          rw [HF.out] at hf ⊢
          have e1 : decide ((1 : Int) ≤ (f : Int)) = true := decide_eq_true (by omega)
          have e2 : decide ((f : Int) ≤ (s.size : Int) + 1) = true := decide_eq_true (by have := HLE.out; rw [HF.out, bl_length] at this; omega)
          have e3 : 1 ≤ f := by omega
          have e4 : f ≤ s.size + 1 := by have := HLE.out; rw [HF.out, bl_length] at this; omega
          go_wp2
          go_ret
          exact ⟨by simp, B7.out⟩
        · have R7 := Lib.hid r7
          obtain ⟨g1, g2⟩ := text_parse hf
          have hts := Lib.hid (show str (textL (parseL (bl s))) = s by rw [g1, str_bl])
          obtain ⟨m, HM⟩ : ∃ m, Hid ((parseL (bl s)).length = m) := ⟨_, Lib.hid rfl⟩
          have hm : m ≤ 1000 := by
            have h := HM.out
            unfold parseL at h
            rw [cysTo_length, bl_length] at h
            omega
          rw [HM.out] at R7 ⊢
          have G2 := Lib.hid g2
          clear hf r7 g1 g2
          go_wp2_with fail
          refine (Text_any A7 m c7 _ _ R7.out (by omega)).mono ?_
          rintro _ w8 ⟨h8, ⟨_, rfl⟩ | ⟨h, _⟩⟩
          · rw [hts.out]
            have B8 := Lib.hid (below_step B7.out h8)
            clear h8 hts
            go_wp2
            go_ret
            exact ⟨by simp, B8.out⟩
          · rw [G2.out] at h
            cases h
end Go.Proofs.Ytfbldlbhhaidpaa
