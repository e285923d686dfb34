/-
  Contracts of the document's Word and Judge (package incunableref05), over the landed code's translation.
-/
import Derived.Test.YtljjbphmglbhnaaHamF
namespace Go.Proofs.Ytljjbphmglbhnaa
open Go.RowKit

theorem nL_le (l : List Nat) : nL l ≤ 8 * l.length := gn_le _ _
theorem RefWord_any (A : Option Addr) (n c : Nat) (l : List Nat) (w : World) (hr : R8 w A n l) (hn : n ≤ 512) :
    Calls Try.prog 19 #[.slice A n c] w (Gives (.int .i64 (wordL l : Int)) w) := by
  have hl := hr.len
  have hx := xL_lt l (by omega)
  have hy := nL_le l
  have hp := pop_le (xL l) (by omega)
  have hG := gather_any A n c l w hr hn
  have hO := fun w' => ones_any (xL l) w' (by omega)
  have hW : wordL l = xL l + 8192 * ((nL l + pop (xL l)) % 2) + 49152 := rfl
  rw [hW]
  clear hW
  generalize pop (xL l) = p at *
  generalize nL l = y at *
  generalize xL l = x at *
  rw [hl] at hy
  clear hl
  go_enter Try.func19, Try.ntmps19
  go_wp2_with fail
  refine hG.mono ?_
  rintro e w1 ⟨rfl, hb1⟩
  have HB1 := Lib.hid hb1
  clear hb1 hG
  by_cases ho : (y + p) % 2 = 1
  · have hd : ((((y : Int) + (p : Int)) % 2) == 1) = true := by simp; omega
    go_wp2_with (go_at_call 32; refine (hO _).mono ?_; rintro e w' ⟨rfl, rfl⟩)
    go_ret
    exact ⟨ret_int (by omega), HB1.out⟩
  · have hd : ((((y : Int) + (p : Int)) % 2) == 1) = false := by simp; omega
    go_wp2_with (go_at_call 32; refine (hO _).mono ?_; rintro e w' ⟨rfl, rfl⟩)
    go_ret
    exact ⟨ret_int (by omega), HB1.out⟩

set_option maxHeartbeats 1000000 in
theorem RefJudge_any (A : Option Addr) (n c : Nat) (l : List Nat) (m : Nat) (w : World) (hr : R8 w A n l) (hn : n ≤ 512) (hm : m < 65536) :
    Calls Try.prog 23 #[.slice A n c, .int .i64 (m : Int)] w (Gives (.tuple #[.int .i64 ((judgeL l m).1 : Int), .int .i64 ((judgeL l m).2 : Int)]) w) := by
  have hl := hr.len
  have hx := xL_lt l (by omega)
  have hy := nL_le l
  have hp := pop_le (m % 16384) (by omega)
  have hG := gather_any A n c l w hr hn
  have hO : ∀ w', Calls Try.prog 32 #[.int .i64 ((m : Int) % 16384)] w' fun e w'' => e = .returned (.int .i64 (pop (m % 16384) : Int)) ∧ w' = w'' := fun w' => ones_any (m % 16384) w' (by omega)
  have hX : ∀ w', Calls Try.prog 34 #[.int .i64 (xL l : Int), .int .i64 ((m : Int) % 8192)] w' fun e w'' => e = .returned (.int .i64 ((xL l ^^^ m % 8192 : Nat) : Int)) ∧ w' = w'' := fun w' => xor_any (xL l) (m % 8192) w' hx (by omega)
  have hD : xL l ^^^ m % 8192 < 8192 := xor_lt13 hx (by omega)
  have hJ : judgeL l m = verdict (8 * n) (xL l ^^^ m % 8192) (decide ((nL l + pop (m % 16384)) % 2 = 1)) := by unfold judgeL; rw [hl]
  rw [hJ]
  clear hJ
  generalize xL l ^^^ m % 8192 = D at *
  generalize pop (m % 16384) = p at *
  generalize nL l = y at *
  generalize xL l = x at *
  rw [hl] at hy
  clear hl
  have hm4 : 8 * n ≤ 4096 := by omega
  have hPl : ∀ w', Calls Try.prog 36 #[.int .i64 (8 * (n : Int))] w' (MakesI (places (8 * n)) w') := fun w' => Places_any (8 * n) w' hm4
  by_cases ho : (y + p) % 2 = 1
  · have hd : ((((y : Int) + (p : Int)) % 2) == 1) = true := by simp; omega
    rw [decide_eq_true ho]
    by_cases hd0 : D = 0
    · subst hd0
      rw [verdict_zero]
      go_enter Try.func23, Try.ntmps23
      go_wp2_with fail
      refine hG.mono ?_
      rintro e w1 ⟨rfl, hb1⟩
      have HB1 := Lib.hid hb1
      clear hb1 hG hPl
      go_wp2_with (first | (go_at_call 32; refine (hO _).mono ?_; rintro e w' ⟨rfl, rfl⟩) | (go_at_call 34; refine (hX _).mono ?_; rintro e w' ⟨rfl, rfl⟩))
      go_ret2
      exact ⟨rfl, HB1.out⟩
    · have hne : ((D : Int) == 0) = false := by simp; omega
      cases hb : powB D
      · have HV : Hid (∀ k, k < 8 * n → place k = D → verdict (8 * n) D true = (1, k)) := fun k hk hp => verdict_found _ _ k hp hk
        have HV2 : Hid ((∀ k, k < 8 * n → place k ≠ D) → verdict (8 * n) D true = (3, 0)) := fun h => verdict_lost _ _ hd0 hb h
        have hPw := fun w' => Power_is (D : Int) D false w' rfl hb (by omega)
        clear hb
        generalize verdict (8 * n) D true = V at *
        go_enter Try.func23, Try.ntmps23
        go_wp2_with fail
        refine hG.mono ?_
        rintro e w1 ⟨rfl, hb1⟩
        have HB1 := Lib.hid hb1
        clear hb1 hG
        go_wp2_with (first | (go_at_call 32; refine (hO _).mono ?_; rintro e w' ⟨rfl, rfl⟩) | (go_at_call 34; refine (hX _).mono ?_; rintro e w' ⟨rfl, rfl⟩) | (go_at_call 35; refine (hPw _).mono ?_; rintro e w' ⟨rfl, rfl⟩))
        refine (hPl _).mono ?_
        rintro e w2 hM
        obtain ⟨A2, c2, rfl, H2, HB2⟩ := hM.at_ (places_length (8 * n))
        clear hM hPl hO hX hPw
        have HBB := Lib.hid (below_step HB1.out HB2.out)
        generalize 8 * n = N at *
        go_wp2
        go_loop [11] (fun i => ∃ k : Nat, k ≤ N ∧ i = .int .i64 (k : Int) ∧ Hid (∀ j, j < k → place j ≠ D)) (fun i => N - (intOf i).toNat)
        case atStart => exact ⟨0, Nat.zero_le _, rfl, fun j hj => absurd hj (by omega)⟩
        case round =>
          obtain ⟨k, hk, rfl, HK⟩ := hrel
          by_cases hlt : k < N
          · obtain ⟨b2, o2, q, rfl, g2, HG2, _, _, hc2⟩ := H2.out.at_ hlt
            have hq : q = ((place k : Nat) : Int) := by
              have := HG2.out
              rw [places_at N k hlt] at this
              injection this with this
              exact this.symm
            by_cases he : place k = D
            · have hqD : q = (D : Int) := by rw [hq, he]
              subst hqD
              have HE := Lib.hid (HV.out k hlt he)
              clear he hq
              go_wp2
              go_ret2
              refine ⟨?_, HBB.out⟩
              rw [HE.out]
              rfl
            · have hqD : ((q : Int) == (D : Int)) = false := by rw [hq]; simp; omega
              have HN := Lib.hid (show ∀ j, j < k + 1 → place j ≠ D by
                intro j hj
                rcases Nat.lt_or_ge j k with h1 | h1
                · exact HK.out j h1
                · obtain rfl : j = k := by omega
                  exact he)
              clear he hq
              go_wp2
              go_round
              case rel => exact ⟨k + 1, by omega, by go_num, HN⟩
              case measure => simp [intOf]; omega
          · obtain rfl : k = N := by omega
            have HE := Lib.hid (HV2.out HK.out)
            go_wp2
            go_ret2
            refine ⟨?_, HBB.out⟩
            rw [HE.out]
            rfl
      · rw [show verdict (8 * n) D true = (2, 0) by unfold verdict; rw [if_pos rfl, if_pos (Or.inr hb)]]
        have hPw := fun w' => Power_is (D : Int) D true w' rfl hb (by omega)
        clear hb
        go_enter Try.func23, Try.ntmps23
        go_wp2_with fail
        refine hG.mono ?_
        rintro e w1 ⟨rfl, hb1⟩
        have HB1 := Lib.hid hb1
        clear hb1 hG hPl
        go_wp2_with (first | (go_at_call 32; refine (hO _).mono ?_; rintro e w' ⟨rfl, rfl⟩) | (go_at_call 34; refine (hX _).mono ?_; rintro e w' ⟨rfl, rfl⟩) | (go_at_call 35; refine (hPw _).mono ?_; rintro e w' ⟨rfl, rfl⟩))
        go_ret2
        exact ⟨rfl, HB1.out⟩
  · have hd : ((((y : Int) + (p : Int)) % 2) == 1) = false := by simp; omega
    rw [decide_eq_false ho]
    by_cases hd0 : D = 0
    · subst hd0
      rw [verdict_clean]
      go_enter Try.func23, Try.ntmps23
      go_wp2_with fail
      refine hG.mono ?_
      rintro e w1 ⟨rfl, hb1⟩
      have HB1 := Lib.hid hb1
      clear hb1 hG hPl
      go_wp2_with (first | (go_at_call 32; refine (hO _).mono ?_; rintro e w' ⟨rfl, rfl⟩) | (go_at_call 34; refine (hX _).mono ?_; rintro e w' ⟨rfl, rfl⟩))
      go_ret2
      exact ⟨rfl, HB1.out⟩
    · have hne : ((D : Int) == 0) = false := by simp; omega
      rw [verdict_broken _ _ hd0]
      go_enter Try.func23, Try.ntmps23
      go_wp2_with fail
      refine hG.mono ?_
      rintro e w1 ⟨rfl, hb1⟩
      have HB1 := Lib.hid hb1
      clear hb1 hG hPl
      go_wp2_with (first | (go_at_call 32; refine (hO _).mono ?_; rintro e w' ⟨rfl, rfl⟩) | (go_at_call 34; refine (hX _).mono ?_; rintro e w' ⟨rfl, rfl⟩))
      go_ret2
      exact ⟨rfl, HB1.out⟩
end Go.Proofs.Ytljjbphmglbhnaa
