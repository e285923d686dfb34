/-
  Contract of the document's Put (package incunableref03), over the landed code's translation.
-/
import Derived.Test.YtfioapdbibggkaaPackD
namespace Go.Proofs.Ytfioapdbibggkaa
open Go.RowKit

set_option maxHeartbeats 1000000 in
theorem RefPut_any (A B : Option Addr) (n c m d : Nat) (s z : List Int) (w : World) (ha : R64 w A n s) (hb : R64 w B m z) (hn : n ≤ 1099511627776) (hm : m ≤ 1099511627776) :
    Calls Try.prog 21 #[.slice A n c, .slice B m d] w (PutsB (putA s z) (putE s z) w) := by
  have HA := Lib.hid ha
  have HB := Lib.hid hb
  have la := Lib.hid ha.len
  have lb := Lib.hid hb.len
  clear ha hb
  cases hok : okL s
  · have HP := Lib.hid (canPut_bad (z := z) hok)
    have HO := Lib.hid hok
    clear hok
    go_enter Try.func21, Try.ntmps21
    go_wp2_with (go_at_call 30; refine (RefSize_no _ _ _ s _ HA.out HO.out hn).mono ?_; rintro e w' ⟨rfl, rfl⟩)
    go_ret2
    exact PutsB.no HP.out (Below.refl _ _)
  · have HO := Lib.hid hok
    clear hok
    by_cases hnm : n = m
    · subst hnm
      obtain ⟨i0, ti, tz0, tz1, tz2⟩ := info_parts info_u8
      have hn64 : n ≤ 64 := by have := okL_len HO.out; have := la.out; omega
      have HEl := Lib.hid (show s.length = z.length by rw [la.out, lb.out])
      clear hm hn
      go_enter Try.func21, Try.ntmps21
      go_wp2_with (go_at_call 30; refine (RefSize_yes _ _ _ s _ HA.out HO.out).mono ?_; rintro e w' ⟨rfl, rfl⟩)
      go_loopw [8, 9] (fun v i wr => ∃ k : Nat, k ≤ n ∧ i = .int .i64 k ∧ Hid (wr.ownsRow w.heap.size 5 1 v (sumI (s.take k)) (U8 (putTo s z k))) ∧ Hid (Below w.heap.size w wr) ∧ Hid (fitsTo s z k = true)) (fun _ i _ => n - (intOf i).toNat)
      case atStart => exact ⟨0, Nat.zero_le _, rfl, World.ownsRow_nil _ _ _ _, Below.refl _ _, rfl⟩
      case round =>
        obtain ⟨k, hk, rfl, HOr, HBr, HFr⟩ := hrel
        by_cases hlt : k < n
        · obtain ⟨b1, o1, x, rfl, h1, HX, hx1, hx2, hc1⟩ := (HA.out.below HBr.out).at_ hlt
          obtain ⟨b2, o2, y, rfl, h2, HY, hy1, hy2, hc2⟩ := (HB.out.below HBr.out).at_ hlt
          cases hf : fitsB y x
          · have HP := Lib.hid (canPut_unfit (fitsL_bad HX.out HY.out hf))
            have HF := Lib.hid hf
            clear hf
            go_wp2
            go_quiet ((go_at_call 31; exact quiet_eq (RefFits_is _ _ false _ HF.out hy1 hy2 hx1 hx2)))
            go_wp2
            go_ret2
            exact PutsB.no HP.out (below_drewN HBr.out _)
          · have HF2 := Lib.hid (fitsTo_succ HX.out HY.out HFr.out hf)
            have HP2 := Lib.hid (putTo_succ HX.out HY.out)
            have HS2 := Lib.hid (show sumI (s.take (k + 1)) = sumI (s.take k) + x.toNat by rw [take_snoc HX.out, sumI_snoc])
            have hy := fitsB_yes hf
            have HF := Lib.hid hf
            have hq := okL_sum (okL_take HO.out k)
            clear hf
            obtain ⟨t, rfl⟩ := Int.eq_ofNat_of_zero_le (show 0 ≤ x by omega)
            obtain ⟨u, rfl⟩ := Int.eq_ofNat_of_zero_le (show 0 ≤ y by omega)
            simp only [Int.toNat_natCast] at hy
            have hgr := great_le t (by omega)
            have hz : w.heap.size ≤ wr.heap.size := HBr.out.size
            go_wp2
            go_quiet ((go_at_call 31; exact quiet_eq (RefFits_is _ _ true _ HF.out hy1 hy2 hx1 hx2)))
            go_wp2
            have HC1 := Lib.hid (show w.cell? ⟨b1, o1 + k, none⟩ = some (.int .i64 (t : Int)) from by
              obtain ⟨b, o, h3, h4, h5⟩ := HA.out.1.2 (by omega)
              injection h3 with h3
              injection h3 with h31 h32
              subst h31 h32
              rw [← HBr.out.cell (p := ⟨b1, o1 + k, none⟩) h4]
              exact hc1)
            have HG1 := Lib.hid (show b1 < w.heap.size from by
              obtain ⟨b, o, h3, h4, h5⟩ := HA.out.1.2 (by omega)
              injection h3 with h3
              injection h3 with h31 h32
              subst h31
              exact h4)
            clear hc1 hc2
            go_loopw [8, 10, 11] (fun v p i wr2 => ∃ j : Nat, j ≤ t ∧ i = .int .i64 j ∧ p = .int .i64 (cutN u j : Int) ∧ Hid (wr2.ownsRow w.heap.size 5 1 v (sumI (s.take k) + j) (U8 (putTo s z k ++ leN u j))) ∧ Hid (Below w.heap.size w wr2)) (fun _ _ i _ => t - (intOf i).toNat)
            case atStart => exact ⟨0, Nat.zero_le _, rfl, by rw [cutN_zero], by rw [leN_zero, List.append_nil]; exact HOr, below_drewN HBr.out _⟩
            case round =>
              obtain ⟨j, hj, rfl, rfl, HOj, HBj⟩ := hrel
              have hcl := cutN_le u j
              have hcj := (HBj.out.cell (p := ⟨b1, o1 + k, none⟩) HG1.out).trans HC1.out
              by_cases hjt : j < t
              · have HC := Lib.hid (cutN_succ u j)
                have HLe := Lib.hid (show leN u (j + 1) = leN u j ++ [cutN u j % 256] from leN_succ u j)
                generalize cutN u j = q at *
                go_wp2_with (at_builtin; refine wpList_append_own _ rfl (.tmp 54) (.tmp 58) _ rfl w.heap.size 5 i0 _ 1 1 Try.underlying24 ti tz0 tz1 tz2 rfl (by decide) _ _ _ rfl (HOj.out.alloc _) ⟨wr.heap.size, 0, none⟩ 1 1 [_] rfl rfl (one_new _ _ _) ?c1 ?c2 ?c3 ?c4 ?_)
                case c1 => intro u hu; simp at hu; subst hu; rfl
                case c2 => unfold maxLen; omega
                case c3 => omega
                case c4 => have := HBj.out.size; simp; omega
                · intro v' w2 hown' hgrow _
                  have HO2 := Lib.hid (show w2.ownsRow w.heap.size 5 1 v' (sumI (s.take k) + (j + 1)) (U8 (putTo s z k ++ leN u (j + 1))) by
                    rw [HLe.out, ← List.append_assoc, U8_append _ [_]]
                    exact hown')
                  have HB2 := Lib.hid ((HBj.out.alloc HBj.out.size _).grown hgrow (by have := HBj.out.size; simp; omega) (fun j hj => (HOj.out.lt j hj).1))
                  clear hown' hgrow
                  go_wp2
                  go_roundw
                  case rel => exact ⟨j + 1, by omega, by go_num, by rw [HC.out]; go_num, HO2, HB2⟩
                  case measure => simp [intOf]; omega
              · obtain rfl : j = t := by omega
                have HO2 := Lib.hid (show wr.ownsRow w.heap.size 5 1 _ (sumI (s.take (k + 1))) (U8 (putTo s z (k + 1))) by
                  rw [HS2.out, HP2.out]
                  exact HOj.out)
                go_wp2
                go_roundw
                case rel => exact ⟨k + 1, by omega, by go_num, HO2, HBj, HF2⟩
                case measure => simp [intOf]; omega
        · obtain rfl : k = n := by omega
          have HP := Lib.hid (canPut_mk HO.out HEl.out (by have := HFr.out; rwa [fitsTo_all _ _ _ (by have := la.out; omega)] at this))
          have HE := Lib.hid (show s.take k = s from List.take_of_length_le (by have := la.out; omega))
          have HPt := Lib.hid (putTo_all s z k (by have := la.out; omega))
          obtain ⟨A1, c1, rfl⟩ := own_form HOr.out
          go_wp2
          go_ret2
          exact PutsB.yes HP.out (by rw [HE.out]) (by rw [← HPt.out]; exact HOr.out) HBr.out
    · have HP := Lib.hid (canPut_ne (s := s) (z := z) (by rw [la.out, lb.out]; exact hnm))
      have hne : ((n : Int) != (m : Int)) = true := by simp; omega
      clear hnm
      go_enter Try.func21, Try.ntmps21
      go_wp2_with (go_at_call 30; refine (RefSize_yes _ _ _ s _ HA.out HO.out).mono ?_; rintro e w' ⟨rfl, rfl⟩)
      go_ret2
      exact PutsB.no HP.out (Below.refl _ _)
end Go.Proofs.Ytfioapdbibggkaa
