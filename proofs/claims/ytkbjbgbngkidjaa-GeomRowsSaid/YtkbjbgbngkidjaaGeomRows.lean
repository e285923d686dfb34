/-
  The walk of the law GeomRows over the landed code, out of its callees' contracts.
-/
import Derived.Test.YtkbjbgbngkidjaaGeomD
namespace Go.Proofs.Ytkbjbgbngkidjaa
open Go.RowKit

theorem rows_div (m S h : Nat) (hh : h < S) : ((m * S + h : Nat) : Int) / (S : Int) = (m : Int) ∧ ((m * S + h : Nat) : Int) % (S : Int) = (h : Int) := by
  have h1 : (m * S + h) / S = m := by rw [Nat.mul_comm, Nat.mul_add_div (by omega), Nat.div_eq_of_lt hh]; rfl
  have h2 : (m * S + h) % S = h := by rw [Nat.mul_comm, Nat.mul_add_mod, Nat.mod_eq_of_lt hh]
  exact ⟨by rw [← Int.natCast_ediv, h1], by rw [← Int.natCast_emod, h2]⟩

set_option maxRecDepth 100000 in
set_option maxHeartbeats 1000000 in
theorem GeomRows_no (g : Gm) (w : World) (ho : g.ok = false) : Calls Try.prog 6 #[g.val] w (Gives (.bool true) w) := by
  have HO := Lib.hid ho
  clear ho
  obtain ⟨p, b, s, c, k, r, q⟩ := g
  simp only [Gm.val]
  go_enter Try.func6, Try.ntmps6
  go_wp2_with fail
  refine (awake4_any _).mono ?_
  rintro e w1 ⟨rfl, h1⟩
  have G1 := Lib.hid ((GBox.new w ⟨p, b, s, c, k, r, q⟩ 23).below h1)
  have B1 := Lib.hid (below_step (below_alloc w _) h1)
  clear h1
  obtain ⟨_, g0, g1, g2, g3, g4, g5, g6⟩ := G1.out
  go_wp2_with fail
  refine (Check_no ⟨p, b, s, c, k, r, q⟩ HO.out _).mono ?_
  rintro e w2 ⟨rfl, h1⟩
  have B2 := Lib.hid (below_step B1.out h1)
  clear h1
  go_wp2
  go_ret
  exact ⟨rfl, B2.out⟩

set_option maxRecDepth 100000 in
set_option maxHeartbeats 1000000 in
theorem GeomRows_many (g : Gm) (w : World) (ho : g.ok = true) (hb : 64 < g.b) : Calls Try.prog 6 #[g.val] w (Gives (.bool true) w) := by
  have HO := Lib.hid ho
  clear ho
  obtain ⟨p, b, s, c, k, r, q⟩ := g
  simp only at hb
  simp only [Gm.val]
  go_enter Try.func6, Try.ntmps6
  go_wp2_with fail
  refine (awake4_any _).mono ?_
  rintro e w1 ⟨rfl, h1⟩
  have G1 := Lib.hid ((GBox.new w ⟨p, b, s, c, k, r, q⟩ 23).below h1)
  have B1 := Lib.hid (below_step (below_alloc w _) h1)
  clear h1
  obtain ⟨_, g0, g1, g2, g3, g4, g5, g6⟩ := G1.out
  go_wp2_with fail
  refine (Check_yes ⟨p, b, s, c, k, r, q⟩ HO.out _).mono ?_
  rintro e w2 ⟨rfl, h1⟩
  clear g0 g1 g2 g3 g4 g5 g6
  have G2 := Lib.hid (G1.out.below h1)
  have B2 := Lib.hid (below_step B1.out h1)
  clear h1
  obtain ⟨_, g0, g1, g2, g3, g4, g5, g6⟩ := G2.out
  go_wp2
  go_ret
  exact ⟨rfl, B2.out⟩

set_option maxRecDepth 100000 in
set_option maxHeartbeats 4000000 in
theorem GeomRows_few (p : Int) (B S : Nat) (c k r q : Int) (w : World) (ho : Gm.ok ⟨p, B, S, c, k, r, q⟩ = true) (hB : B ≤ 64) :
    Calls Try.prog 6 #[Gm.val ⟨p, B, S, c, k, r, q⟩] w (Gives (.bool true) w) := by
  have HO := Lib.hid ho
  have hb := Gm.bounds_of ho
  have he := (Gm.ok_yes ho).2.2
  simp only at hb he
  have hS : 4 ≤ S ∧ S ≤ 64 := by omega
  have HE := Lib.hid (show S % 2 = 0 by omega)
  have N1 := Lib.hid (show ¬ Gm.hasPage ⟨p, B, S, c, k, r, q⟩ (B : Int) 0 from fun h => by have := h.2.1.2; simp only at this; omega)
  have N2 := Lib.hid (show ¬ Gm.hasRow ⟨p, B, S, c, k, r, q⟩ ((B * S : Nat) : Int) from fun h => by have := h.2.2; simp at this)
  clear ho hb he
  simp only [Gm.val]
  go_enter Try.func6, Try.ntmps6
  go_wp2_with fail
  refine (awake4_any _).mono ?_
  rintro e w1 ⟨rfl, h1⟩
  have G1 := Lib.hid ((GBox.new w ⟨p, B, S, c, k, r, q⟩ 23).below h1)
  have B1 := Lib.hid (below_step (below_alloc w _) h1)
  clear h1
  obtain ⟨_, g0, g1, g2, g3, g4, g5, g6⟩ := G1.out
  go_wp2_with fail
  refine (Check_yes ⟨p, B, S, c, k, r, q⟩ HO.out _).mono ?_
  rintro e w2 ⟨rfl, h1⟩
  clear g0 g1 g2 g3 g4 g5 g6
  have G2 := Lib.hid (G1.out.below h1)
  have B2 := Lib.hid (below_step B1.out h1)
  clear h1
  obtain ⟨_, g0, g1, g2, g3, g4, g5, g6⟩ := G2.out
  simp only at g0 g1 g2 g3 g4 g5 g6
  have hd : decide ((64 : Int) < (B : Int)) = false := decide_eq_false (by omega)
  go_wp2_with fail
  clear g0 g1 g2 g3 g4 g5 g6 hd
  go_loopw [3, 28] (fun nx i wr => ∃ m : Nat, m ≤ B ∧ i = .int .i64 m ∧ nx = .int .i64 ((m * S : Nat) : Int) ∧ Hid (Below w2.heap.size w2 wr)) (fun _ i _ => B - (intOf i).toNat)
  case atStart => exact ⟨0, Nat.zero_le _, rfl, by simp, Below.refl _ _⟩
  case round =>
    obtain ⟨m, hm, rfl, rfl, HBr⟩ := hrel
    obtain ⟨M, hM⟩ : ∃ M, m * S = M := ⟨_, rfl⟩
    have HM := Lib.hid hM
    rw [hM]
    clear hM
    have G3 := Lib.hid (G2.out.below HBr.out)
    obtain ⟨_, g0, g1, g2, g3, g4, g5, g6⟩ := G3.out
    simp only at g0 g1 g2 g3 g4 g5 g6
    by_cases hlt : m < B
    · have hM2 : M ≤ 4096 := by
        have h1 : m * S ≤ 64 * 64 := Nat.mul_le_mul (by omega) (by omega)
        have := HM.out
        omega
      go_wp2_with fail
      clear g0 g1 g2 g3 g4 g5 g6
      go_loopw [3, 33] (fun nx j wr2 => ∃ h : Nat, h ≤ S ∧ j = .int .i64 h ∧ nx = .int .i64 ((M + h : Nat) : Int) ∧ Hid (Below w2.heap.size w2 wr2)) (fun _ j _ => S - (intOf j).toNat)
      case atStart => exact ⟨0, Nat.zero_le _, rfl, rfl, HBr⟩
      case round =>
        obtain ⟨h, hh, rfl, rfl, HB4⟩ := hrel
        by_cases hlt2 : h < S
        · have G4 := Lib.hid (G2.out.below HB4.out)
          obtain ⟨_, g0, g1, g2, g3, g4, g5, g6⟩ := G4.out
          simp only at g0 g1 g2 g3 g4 g5 g6
          have HPg := Lib.hid (show Gm.hasPage ⟨p, B, S, c, k, r, q⟩ (m : Int) (h : Int) from ⟨HO.out, ⟨by omega, by simp only; omega⟩, by omega, by simp only; omega⟩)
          have HV := Lib.hid (show (m : Int) * (S : Int) + (h : Int) = ((M + h : Nat) : Int) by rw [← HM.out]; simp)
          have HD1 := Lib.hid (show ((M + h : Nat) : Int) / (S : Int) = (m : Int) by rw [← HM.out]; exact (rows_div m S h hlt2).1)
          have HD2 := Lib.hid (show ((M + h : Nat) : Int) % (S : Int) = (h : Int) by rw [← HM.out]; exact (rows_div m S h hlt2).2)
          have HRo := Lib.hid (show Gm.hasRow ⟨p, B, S, c, k, r, q⟩ ((M + h : Nat) : Int) from ⟨HO.out, by omega, by
            have h1 : m * S + S ≤ B * S := by rw [← Nat.succ_mul]; exact Nat.mul_le_mul hlt (Nat.le_refl _)
            have := HM.out
            simp only
            rw [show (B : Int) * (S : Int) = ((B * S : Nat) : Int) by simp]
            omega⟩)
          obtain ⟨lw, hlw⟩ : ∃ lw, lowerI (h : Int) = lw := ⟨_, rfl⟩
          obtain ⟨up, hup⟩ : ∃ up, upperI (h : Int) = up := ⟨_, rfl⟩
          have HLw := Lib.hid hlw
          have HUp := Lib.hid hup
          have hz : up = lw + 1 ∧ 0 ≤ lw ∧ up < S ∧ (((h : Int) = lw) ∨ ((h : Int) = up ∧ (h : Int) ≠ lw)) := by
            have := HE.out
            unfold lowerI at hlw
            unfold upperI at hup
            rw [if_neg (by omega)] at hlw hup
            omega
          clear hlw hup
          go_wp2_with fail
          refine (Row_is ⟨p, B, S, c, k, r, q⟩ m h _ HPg.out HV.out _).mono ?_
          rintro e w5 ⟨rfl, h1⟩
          clear g0 g1 g2 g3 g4 g5 g6
          have G5 := Lib.hid (G4.out.below h1)
          have B5 := Lib.hid (below_step HB4.out h1)
          clear h1
          obtain ⟨_, g0, g1, g2, g3, g4, g5, g6⟩ := G5.out
          simp only at g0 g1 g2 g3 g4 g5 g6
          go_wp2_with fail
          refine (Split_is ⟨p, B, S, c, k, r, q⟩ _ m h HRo.out HD1.out HD2.out _).mono ?_
          rintro e w6 ⟨rfl, h1⟩
          clear g0 g1 g2 g3 g4 g5 g6
          have G6 := Lib.hid (G5.out.below h1)
          have B6 := Lib.hid (below_step B5.out h1)
          clear h1
          obtain ⟨_, g0, g1, g2, g3, g4, g5, g6⟩ := G6.out
          simp only at g0 g1 g2 g3 g4 g5 g6
          have q1 : (up - lw != 1) = false := by simp; omega
          have q4 : decide ((S : Int) ≤ up) = false := decide_eq_false (by omega)
          go_wp2_with fail
          have hl2 : 0 ≤ lw ∧ lw ≤ 64 := by omega
          have hu2 : 0 ≤ up ∧ up ≤ 64 := by omega
          rcases hz with ⟨hz1, hz2, hz3, hz4 | ⟨hz4, hz5⟩⟩
          · have q3 : ((h : Int) != lw) = false := by simp; omega
            clear hz1 hz4
            go_quiet ((first | (go_at_call 20; exact quiet_eq (Upper_is (h : Int) up HUp.out _ (by omega))) | (go_at_call 19; exact quiet_eq (Lower_is (h : Int) lw HLw.out _ (by omega)))))
            go_wp2
            go_roundw
            case rel => exact ⟨h + 1, by omega, by go_num, by go_num, below_drewN B6.out _⟩
            case measure => simp [intOf]; omega
          · have q3 : ((h : Int) != lw) = true := by simpa using hz5
            have q5 : ((h : Int) != up) = false := by simp; omega
            clear hz1 hz4 hz5
            go_quiet ((first | (go_at_call 20; exact quiet_eq (Upper_is (h : Int) up HUp.out _ (by omega))) | (go_at_call 19; exact quiet_eq (Lower_is (h : Int) lw HLw.out _ (by omega)))))
            go_wp2
            go_roundw
            case rel => exact ⟨h + 1, by omega, by go_num, by go_num, below_drewN B6.out _⟩
            case measure => simp [intOf]; omega
        · obtain rfl : h = S := by omega
          have HN := Lib.hid (show M + h = (m + 1) * h by rw [Nat.succ_mul, HM.out])
          go_wp2
          go_roundw
          case rel => exact ⟨m + 1, by omega, by go_num, by rw [HN.out], HB4⟩
          case measure => simp [intOf]; omega
    · obtain rfl : m = B := by omega
      go_wp2_with fail
      refine (Row_no ⟨p, m, S, c, k, r, q⟩ (m : Int) 0 N1.out _).mono ?_
      rintro e w5 ⟨rfl, h1⟩
      clear g0 g1 g2 g3 g4 g5 g6
      have G5 := Lib.hid (G3.out.below h1)
      have B5 := Lib.hid (below_step HBr.out h1)
      clear h1
      obtain ⟨_, g0, g1, g2, g3, g4, g5, g6⟩ := G5.out
      simp only at g0 g1 g2 g3 g4 g5 g6
      have N3 := Lib.hid (show ¬ Gm.hasRow ⟨p, m, S, c, k, r, q⟩ (M : Int) by rw [← HM.out]; exact N2.out)
      go_wp2_with fail
      refine (Split_no ⟨p, m, S, c, k, r, q⟩ (M : Int) N3.out _).mono ?_
      rintro e w6 ⟨rfl, h1⟩
      have B6 := Lib.hid (below_step B5.out h1)
      clear h1
      go_wp2
      go_ret
      exact ⟨rfl, below_step B2.out B6.out⟩

theorem GeomRows_walk (g : Gm) (w : World) : Calls Try.prog 6 #[g.val] w (Gives (.bool true) w) := by
  cases ho : g.ok
  · exact GeomRows_no g w ho
  · by_cases hb : 64 < g.b
    · exact GeomRows_many g w ho hb
    · have hb2 := Gm.bounds_of ho
      obtain ⟨p, b, s, c, k, r, q⟩ := g
      simp only at hb hb2
      obtain ⟨B, rfl⟩ := Int.eq_ofNat_of_zero_le (show 0 ≤ b by omega)
      obtain ⟨S, rfl⟩ := Int.eq_ofNat_of_zero_le (show 0 ≤ s by omega)
      exact GeomRows_few p B S c k r q w ho (by omega)
end Go.Proofs.Ytkbjbgbngkidjaa
