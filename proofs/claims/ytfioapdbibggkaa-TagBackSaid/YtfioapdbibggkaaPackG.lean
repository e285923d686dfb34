/-
  Contract of the document's Take (package incunableref03), over the landed code's translation.
-/
import Derived.Test.YtfioapdbibggkaaPackF
namespace Go.Proofs.Ytfioapdbibggkaa
open Go.RowKit

/-- What a byte counts at its place, as far as an int holds it. -/
def scl (j : Nat) : Nat := if j = 8 then 0 else 2 ^ (8 * j)
theorem scl_of (j : Nat) (h : j ≤ 7) : scl j = 2 ^ (8 * j) := by unfold scl; rw [if_neg (by omega)]
theorem scl_le (j : Nat) (h : j ≤ 7) : scl j ≤ 72057594037927936 := by rw [scl_of j h]; exact pow8_le j h
theorem scl_succ (j : Nat) (h : j < 7) : scl (j + 1) = scl j * 256 := by rw [scl_of _ (by omega), scl_of _ (by omega), show 8 * (j + 1) = 8 * j + 8 by omega, Nat.pow_add]
theorem scl_7 : scl 7 = 72057594037927936 := rfl
theorem scl_8 : scl 8 = 0 := rfl

theorem wrap_two (q y sc : Nat) (h1 : y * sc ≤ 9223372036854775807) (h2 : q + y * sc ≤ 9223372036854775807) : Value.int .i64 (wrap64 ((q : Int) + wrap64 ((y : Int) * (sc : Int)))) = Value.int .i64 ((q + y * sc : Nat) : Int) := by
  have e : (y : Int) * (sc : Int) = ((y * sc : Nat) : Int) := by simp
  rw [e]
  generalize y * sc = p at *
  have h : wrap64 ((q : Int) + wrap64 (p : Int)) = ((q + p : Nat) : Int) := by unfold wrap64; omega
  rw [h]
theorem wrap_out (sc j : Nat) (h : sc = 72057594037927936) (hj : j = 7) : Value.int .i64 (wrap64 ((sc : Int) * 256)) = Value.int .i64 (scl (j + 1) : Int) := by
  have e : wrap64 ((sc : Int) * 256) = (scl (j + 1) : Int) := by
    subst h hj
    rw [show 7 + 1 = 8 from rfl, scl_8]
    unfold wrap64
    omega
  rw [e]

set_option maxHeartbeats 1000000 in
theorem RefTake_any (A B : Option Addr) (n c m d : Nat) (s : List Int) (b : List Nat) (w : World) (ha : R64 w A n s) (hb : R8 w B m b) (hn : n ≤ 1099511627776) (_hm : m ≤ 1099511627776) :
    Calls Try.prog 24 #[.slice A n c, .slice B m d] w (TakesI (takeA s b) (takeE s b) w) := by
  have HA := Lib.hid ha
  have HB := Lib.hid hb
  have la := Lib.hid ha.len
  have lb := Lib.hid hb.len
  clear ha hb
  cases hok : okL s
  · have HP := Lib.hid (takeE_bad (b := b) hok)
    have HO := Lib.hid hok
    clear hok
    go_enter Try.func24, Try.ntmps24
    go_wp2_with (go_at_call 30; refine (RefSize_no _ _ _ s _ HA.out HO.out hn).mono ?_; rintro e w' ⟨rfl, rfl⟩)
    go_ret2
    exact TakesI.no HP.out (by decide) (Below.refl _ _)
  · have HO := Lib.hid hok
    have hT := okL_sum hok
    clear hok
    by_cases hlo : m < sumI s
    · have HP := Lib.hid (takeE_short HO.out (show b.length < sumI s by rw [lb.out]; exact hlo))
      go_enter Try.func24, Try.ntmps24
      go_wp2_with (go_at_call 30; refine (RefSize_yes _ _ _ s _ HA.out HO.out).mono ?_; rintro e w' ⟨rfl, rfl⟩)
      go_ret2
      exact TakesI.no HP.out (by decide) (Below.refl _ _)
    · by_cases hhi : sumI s < m
      · have HP := Lib.hid (takeE_long HO.out (show sumI s < b.length by rw [lb.out]; exact hhi))
        go_enter Try.func24, Try.ntmps24
        go_wp2_with (go_at_call 30; refine (RefSize_yes _ _ _ s _ HA.out HO.out).mono ?_; rintro e w' ⟨rfl, rfl⟩)
        go_ret2
        exact TakesI.no HP.out (by decide) (Below.refl _ _)
      · have HM := Lib.hid (show sumI s = m by omega)
        obtain ⟨i0, ti, tz0, tz1, tz2⟩ := info_parts info_int
        have hn64 : n ≤ 64 := by have := okL_len HO.out; have := la.out; omega
        go_enter Try.func24, Try.ntmps24
        go_wp2_with (go_at_call 30; refine (RefSize_yes _ _ _ s _ HA.out HO.out).mono ?_; rintro e w' ⟨rfl, rfl⟩)
        go_loopw [8, 9, 10] (fun v a i wr => ∃ k : Nat, k ≤ n ∧ i = .int .i64 k ∧ a = .int .i64 (sumI (s.take k) : Int) ∧ Hid (wr.ownsRow w.heap.size 3 1 v k (I64 (vals (s.take k) b))) ∧ Hid (Below w.heap.size w wr) ∧ Hid (low (vals (s.take k) b) = true)) (fun _ _ i _ => n - (intOf i).toNat)
        case atStart => exact ⟨0, Nat.zero_le _, rfl, rfl, World.ownsRow_nil _ _ _ _, Below.refl _ _, rfl⟩
        case round =>
          obtain ⟨k, hk, rfl, rfl, HOr, HBr, HL⟩ := hrel
          by_cases hlt : k < n
          · obtain ⟨b1, o1, x, rfl, h1, HX, hx1, hx2, hc1⟩ := (HA.out.below HBr.out).at_ hlt
            have hx := okL_at HO.out HX.out
            obtain ⟨t, rfl⟩ := Int.eq_ofNat_of_zero_le (show 0 ≤ x by omega)
            have HS2 := Lib.hid (show sumI (s.take (k + 1)) = sumI (s.take k) + t by rw [take_snoc HX.out, sumI_snoc]; rfl)
            have HV2 := Lib.hid (show vals (s.take (k + 1)) b = vals (s.take k) b ++ [(numN ((b.drop (sumI (s.take k))).take t) : Int)] by rw [take_snoc HX.out, vals_snoc]; rfl)
            have HV3 := Lib.hid (show (vals s b)[k]? = some (numN ((b.drop (sumI (s.take k))).take t) : Int) from vals_at b HX.out)
            have htp : sumI (s.take k) + t ≤ m := by
              have h3 := sumI_take_le s (k + 1)
              have h4 := HS2.out
              have h6 := HM.out
              omega
            have hz : w.heap.size ≤ wr.heap.size := HBr.out.size
            have HFl := Lib.hid (show ((b.drop (sumI (s.take k))).take t).length = t by rw [List.length_take, List.length_drop, lb.out]; omega)
            have HFb := Lib.hid (show ∀ j, j < t → ((b.drop (sumI (s.take k))).take t)[j]? = b[sumI (s.take k) + j]? by
              intro j hj
              rw [List.getElem?_take, if_pos hj, List.getElem?_drop])
            have HFx := Lib.hid (show ∀ y ∈ (b.drop (sumI (s.take k))).take t, y < 256 from fun y hy => HB.out.2 y (List.mem_of_mem_drop (List.mem_of_mem_take hy)))
            generalize (b.drop (sumI (s.take k))).take t = f at *
            have hat : sumI (s.take k) ≤ 512 := by omega
            generalize hatq : sumI (s.take k) = at0 at *
            have HAT := Lib.hid hatq
            clear hatq
            go_wp2
            go_loop [11, 12, 13] (fun v sc i => ∃ j : Nat, j ≤ t ∧ i = .int .i64 j ∧ v = .int .i64 (numN (f.take j) : Int) ∧ sc = .int .i64 (scl j : Int) ∧ numN (f.take j) ≤ 4611686018427387904) (fun _ _ i => t - (intOf i).toNat)
            case atStart => exact ⟨0, Nat.zero_le _, rfl, rfl, rfl, by simp [numN]⟩
            case round =>
              obtain ⟨j, hj, rfl, rfl, rfl, hle⟩ := hrel
              by_cases hjt : j < t
              · obtain ⟨b2, o2, y, rfl, h2, HY, hy, hc2⟩ := (HB.out.below HBr.out).at_ (show at0 + j < m by omega)
                have hcl : (f.take j).length = j := by rw [List.length_take, HFl.out]; omega
                have HY2 := Lib.hid (show f[j]? = some y by rw [HFb.out j hjt]; exact HY.out)
                have HN := Lib.hid (show numN (f.take (j + 1)) = numN (f.take j) + y * 2 ^ (8 * j) by rw [take_snoc HY2.out, numN_snoc, hcl])
                have hlt2 : numN (f.take j) < 2 ^ (8 * j) := by
                  have h3 := numN_lt (f.take j) fun z hz => HFx.out z (List.mem_of_mem_take hz)
                  rwa [hcl] at h3
                clear hcl
                have hc3 : wr.cell? ⟨b2, o2 + (at0 + j), none⟩ = some (.int .u8 (y : Int)) := hc2
                by_cases h7 : j = 7
                · have h7t : ((j : Int) == 7) = true := by subst h7; rfl
                  have HJ := Lib.hid h7
                  have hq7 : numN (f.take j) < 72057594037927936 := by rw [h7] at hlt2 ⊢; exact hlt2
                  have HSe := Lib.hid (show scl j = 72057594037927936 by rw [h7]; rfl)
                  have HFe := Lib.hid (show numN f = numN (f.take j) + y * 72057594037927936 by
                    have h3 := HN.out
                    rw [h7] at h3 ⊢
                    rw [List.take_of_length_le (show f.length ≤ 7 + 1 by rw [HFl.out]; omega)] at h3
                    exact h3)
                  have HN7 := Lib.hid (show numN (f.take (j + 1)) = numN (f.take j) + y * 72057594037927936 by
                    have h3 := HN.out
                    rw [h7] at h3 ⊢
                    exact h3)
                  have hsl : scl j ≤ 72057594037927936 := by rw [HSe.out]; exact Nat.le_refl _
                  have hj8 : j < 8 := by omega
                  clear h7 hlt2
                  generalize numN (f.take j) = q at *
                  generalize scl j = sc at *
                  by_cases hy64 : 64 < y
                  · have HP := Lib.hid (takeE_high HO.out (show sumI s = b.length by rw [HM.out, lb.out]) (low_bad HV3.out (by have := HFe.out; omega)))
                    go_wp2
                    go_ret2
                    exact TakesI.no HP.out (by decide) HBr.out
                  · by_cases hye : y = 64
                    · subst hye
                      by_cases hq0 : 0 < q
                      · have HP := Lib.hid (takeE_high HO.out (show sumI s = b.length by rw [HM.out, lb.out]) (low_bad HV3.out (by have := HFe.out; omega)))
                        go_wp2
                        go_ret2
                        exact TakesI.no HP.out (by decide) HBr.out
                      · go_wp2
                        go_round
                        case rel =>
                          refine ⟨j + 1, by omega, by go_num, ?_, wrap_out _ _ HSe.out HJ.out, by rw [HN7.out]; omega⟩
                          have e : (q : Int) + 64 * (sc : Int) = (numN (f.take (j + 1)) : Int) := by have h3 := HN7.out; have h4 := HSe.out; omega
                          rw [e]
                        case measure => simp [intOf]; omega
                    · have hye2 : ((y : Int) == 64) = false := beq_eq_false_iff_ne.2 (by omega)
                      go_wp2
                      go_round
                      case rel =>
                        have h4 := HSe.out
                        have h5 : y * sc ≤ 4539628424389459968 := by rw [h4]; omega
                        refine ⟨j + 1, by omega, by go_num, ?_, wrap_out _ _ h4 HJ.out, by rw [HN7.out]; omega⟩
                        rw [wrap_two q y sc (by omega) (by omega), HN7.out, h4]
                      case measure => simp [intOf]; omega
                · have hj7 : j < 7 := by omega
                  have hne : ((j : Int) == 7) = false := beq_eq_false_iff_ne.2 (by omega)
                  have HSc := Lib.hid (scl_succ j hj7)
                  have hsl : scl j ≤ 281474976710656 := by rw [scl_of j (by omega)]; exact Nat.pow_le_pow_right (n := 2) (by omega) (show 8 * j ≤ 48 by omega)
                  have HSe := Lib.hid (scl_of j (by omega))
                  clear h7
                  generalize numN (f.take j) = q at *
                  generalize scl j = sc at *
                  go_wp2
                  go_round
                  case rel =>
                    have hy2 : y * 2 ^ (8 * j) ≤ 255 * 281474976710656 := Nat.mul_le_mul (by omega) (by rw [← HSe.out]; exact hsl)
                    rw [← HSe.out] at hy2 hlt2
                    have hN := HN.out
                    rw [← HSe.out] at hN
                    refine ⟨j + 1, by omega, by go_num, ?_, by rw [HSc.out]; go_num, by omega⟩
                    rw [hN]
                    rw [wrap_two q y sc (by omega) (by omega)]
                  case measure => simp [intOf]; omega
              · obtain rfl : j = t := by omega
                have HFe := Lib.hid (show f.take j = f from List.take_of_length_le (by rw [HFl.out]; exact Nat.le_refl _))
                have HL2 := Lib.hid (show low (vals (s.take (k + 1)) b) = true by rw [HV2.out]; exact low_snoc HL.out (by have := HFe.out; rw [this] at hle; omega))
                go_wp2_with (at_builtin; refine wpList_append_own _ rfl (.tmp 72) (.tmp 74) _ rfl w.heap.size 3 i0 _ 1 8 Try.underlying44 ti tz0 tz1 tz2 rfl (by decide) _ _ _ rfl (HOr.out.alloc _) ⟨wr.heap.size, 0, none⟩ 1 1 [_] rfl rfl (one_new _ _ _) ?c1 ?c2 ?c3 ?c4 ?_)
                case c1 => first | rfl | (intro u hu; simp at hu; subst hu; rfl)
                case c2 => unfold maxLen; omega
                case c3 => omega
                case c4 => first | omega | (simp; omega)
                · intro v' w2 hown' hgrow _
                  have HO2 := Lib.hid (show w2.ownsRow w.heap.size 3 1 v' (k + 1) (I64 (vals (s.take (k + 1)) b)) by
                    rw [HV2.out, I64_append, ← HFe.out]
                    exact hown')
                  have HB2 := Lib.hid ((HBr.out.alloc hz _).grown hgrow (by simp; omega) (fun j hj => (HOr.out.lt j hj).1))
                  have hb1w : b1 < w.heap.size := by
                    obtain ⟨b9, o9, h3, h4, h5⟩ := HA.out.1.2 (by omega)
                    injection h3 with h3
                    injection h3 with h31 h32
                    subst h31
                    exact h4
                  have hc4 : w2.cell? ⟨b1, o1 + k, none⟩ = some (.int .i64 (j : Int)) := by
                    rw [HB2.out.cell (p := ⟨b1, o1 + k, none⟩) hb1w, ← HBr.out.cell (p := ⟨b1, o1 + k, none⟩) hb1w]
                    exact hc1
                  clear hown' hgrow hc1
                  go_wp2
                  go_roundw
                  case rel => exact ⟨k + 1, by omega, by go_num, by rw [HS2.out]; go_num, HO2, HB2, HL2⟩
                  case measure => simp [intOf]; omega
          · obtain rfl : k = n := by omega
            have HE2 := Lib.hid (show s.take k = s from List.take_of_length_le (by have := la.out; omega))
            have HP := Lib.hid (takeE_yes HO.out (show sumI s = b.length by rw [HM.out, lb.out]) (by have := HL.out; rwa [HE2.out] at this))
            obtain ⟨A1, c1, rfl⟩ := own_form HOr.out
            go_wp2
            go_ret2
            exact TakesI.yes HP.out la.out (by have := HOr.out; rw [HE2.out] at this; exact this) HBr.out
end Go.Proofs.Ytfioapdbibggkaa
