/-
  The walk of the law PackPuts over the landed code, out of its callees' contracts.
-/
import Derived.Test.YtkmjocicikgnlaaPackE
import Derived.Test.YtkmjocicikgnlaaPackTakes
namespace Go.Proofs.Ytkmjocicikgnlaa
open Go.RowKit

theorem putA_len (s z : List Int) : (putA s z).length ≤ 512 := by
  cases h : canPut s z
  · rw [putA_no h]; simp
  · obtain ⟨h1, h2, _⟩ := canPut_yes h
    rw [putA_yes h, putL_length s z h2]
    exact okL_sum h1

set_option maxRecDepth 100000 in
set_option maxHeartbeats 2000000 in
theorem PackPuts_walk (A B : Option Addr) (n c m d : Nat) (s z : List Int) (w : World) (ha : R64 w A n s) (hb : R64 w B m z) (hn : n ≤ 9223372036854775807) (hm : m ≤ 9223372036854775807) :
    Calls Try.prog 3 #[.slice A n c, .slice B m d] w (Gives (.bool true) w) := by
  have HA := Lib.hid ha
  have HB := Lib.hid hb
  clear ha hb
  go_enter Try.func3, Try.ntmps3
  go_wp2_with fail
  refine (awake3_any _).mono ?_
  rintro e w1 ⟨rfl, h1⟩
  have B1 := Lib.hid h1
  clear h1
  by_cases hn1 : 100 < n
  · go_wp2
    go_ret
    exact ⟨rfl, B1.out⟩
  · by_cases hm1 : 100 < m
    · go_wp2
      go_ret
      exact ⟨rfl, B1.out⟩
    · have d1 : decide ((100 : Int) < (n : Int)) = false := decide_eq_false (by omega)
      have d2 : decide ((100 : Int) < (m : Int)) = false := decide_eq_false (by omega)
      go_wp2_with fail
      refine (Put_any _ _ n _ m _ s z _ (HA.out.below B1.out) (HB.out.below B1.out) (by omega) (by omega)).mono ?_
      intro e w2 hp
      obtain ⟨N, hN⟩ : ∃ N, (putA s z).length = N := ⟨_, rfl⟩
      have hN2 : N ≤ 512 := by rw [← hN]; exact putA_len s z
      obtain ⟨A2, c2, rfl, H2, D2, hc2, _⟩ := hp.at_ hN
      have B2 := Lib.hid (below_step B1.out D2.out)
      clear hp
      have HN := Lib.hid hN
      clear hN D2
      go_wp2_with fail
      refine (RefPut_any _ _ n _ m _ s z _ (HA.out.below B2.out) (HB.out.below B2.out) (by omega) (by omega)).mono ?_
      intro e w3 hp
      obtain ⟨A3, c3, rfl, H3, D3, hc3, _⟩ := hp.at_ HN.out
      have B3 := Lib.hid (below_step B2.out D3.out)
      have H2' := Lib.hid (H2.out.below D3.out)
      clear hp D3 H2
      obtain ⟨S, ok, hS, hR⟩ : ∃ S ok, Hid (Calls Try.prog 10 #[.slice A n c] w3 fun e w' => e = .returned (.tuple #[.int .i64 S, .bool ok]) ∧ w3 = w') ∧ Hid (Calls Try.prog 11 #[.slice A n c] w3 fun e w' => e = .returned (.tuple #[.int .i64 S, .bool ok]) ∧ w3 = w') := by
        have hr := HA.out.below B3.out
        cases h : okL s
        · exact ⟨_, _, Size_no _ _ _ s _ hr h (by omega), RefSize_no _ _ _ s _ hr h (by omega)⟩
        · exact ⟨_, _, Size_yes _ _ _ s _ hr h, RefSize_yes _ _ _ s _ hr h⟩
      go_wp2_with fail
      refine hS.out.mono ?_
      rintro e w' ⟨rfl, rfl⟩
      go_wp2_with fail
      refine hR.out.mono ?_
      rintro e w' ⟨rfl, rfl⟩
      generalize putE s z = er at *
      go_wp2
      go_loopw [13] (fun i wr => ∃ k : Nat, k ≤ n ∧ k ≤ m ∧ i = .int .i64 k ∧ Hid (Below w3.heap.size w3 wr)) (fun i _ => n - (intOf i).toNat)
      case atStart => exact ⟨0, Nat.zero_le _, Nat.zero_le _, rfl, Below.refl _ _⟩
      case round =>
        obtain ⟨k, hk1, hk2, rfl, HBr⟩ := hrel
        by_cases hlt : k < n
        · by_cases hlt2 : k < m
          · obtain ⟨b1, o1, x, rfl, h1, HX, hx1, hx2, hc1⟩ := ((HA.out.below B3.out).below HBr.out).at_ hlt
            obtain ⟨b2, o2, y, rfl, h2, HY, hy1, hy2, hc4⟩ := ((HB.out.below B3.out).below HBr.out).at_ hlt2
            obtain ⟨f, hf⟩ : ∃ f, fitsB y x = f := ⟨_, rfl⟩
            have HF := Lib.hid hf
            clear hf
            have hff : (f != f) = false := by cases f <;> rfl
            go_wp2
            go_quiet ((first | (go_at_call 12; exact quiet_eq (Fits_is _ _ f _ HF.out hy1 hy2 hx1 hx2)) | (go_at_call 13; exact quiet_eq (RefFits_is _ _ f _ HF.out hy1 hy2 hx1 hx2))))
            go_wp2
            go_roundw
            case rel => exact ⟨k + 1, by omega, by omega, by go_num, below_drewN HBr.out _⟩
            case measure => simp [intOf]; omega
          · go_wp2_with fail
            refine (Same_any _ _ N _ N _ _ _ _ (H2'.out.below HBr.out) (H3.out.below HBr.out) (by omega) (by omega)).mono ?_
            intro e w4 hq
            obtain ⟨rfl, D4⟩ := hq.at_
            clear hq
            rw [show decide (putA s z = putA s z) = true by simp]
            go_wp2
            go_ret
            exact ⟨by simp [go_sem], below_step B3.out (below_step HBr.out D4.out)⟩
        · go_wp2_with fail
          refine (Same_any _ _ N _ N _ _ _ _ (H2'.out.below HBr.out) (H3.out.below HBr.out) (by omega) (by omega)).mono ?_
          intro e w4 hq
          obtain ⟨rfl, D4⟩ := hq.at_
          clear hq
          rw [show decide (putA s z = putA s z) = true by simp]
          go_wp2
          go_ret
          exact ⟨by simp [go_sem], below_step B3.out (below_step HBr.out D4.out)⟩
end Go.Proofs.Ytkmjocicikgnlaa
