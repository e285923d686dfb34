/-
  Contract of pack.Take, over the landed code.
-/
import Derived.Test.YtfioapdbibggkaaPackD
namespace Go.Proofs.Ytfioapdbibggkaa
open Go.RowKit

/-- It returns a slice of the ints l, and the error; nothing that was there has turned. -/
def TakesI (l : List Int) (er : Int) (w : World) (e : Ending) (w' : World) : Prop :=
  ∃ A c, e = .returned (.tuple #[.slice A l.length c, .int .i64 er]) ∧ R64 w' A l.length l ∧ Below w.heap.size w w' ∧ l.length ≤ c ∧ (A = none → c = 0)
theorem TakesI.no {s : List Int} {b : List Nat} {er : Int} {w w' : World} (h : takeE s b = er) (h0 : er ≠ 0) (hb : Below w.heap.size w w') : TakesI (takeA s b) (takeE s b) w (.returned (.tuple #[.slice none 0 0, .int .i64 er])) w' := by
  rw [takeA_no h h0, h]
  exact ⟨none, 0, rfl, ⟨Rd.nil_, by simp⟩, hb, Nat.le_refl _, fun _ => rfl⟩
theorem TakesI.yes {s : List Int} {b : List Nat} {w w' : World} {A : Option Addr} {c m : Nat} (h : takeE s b = 0) (hm : s.length = m) (ho : w'.ownsRow w.heap.size 3 1 (.slice A m c) m (I64 (vals s b))) (hb : Below w.heap.size w w') :
    TakesI (takeA s b) (takeE s b) w (.returned (.tuple #[.slice A m c, .int .i64 0])) w' := by
  have hbd := takeA_bd s b
  rw [h]
  rw [takeA_yes h] at hbd ⊢
  have e : (vals s b).length = m := by rw [vals_length, hm]
  refine ⟨A, c, by rw [e], ?_, hb, ?_, own_nil ho⟩
  · rw [e]
    exact R64.own ho fun x hx => by have := hbd x hx; omega
  · rw [e]
    exact own_cap ho

set_option maxHeartbeats 1000000 in
theorem Take_any (A B : Option Addr) (n c m d : Nat) (s : List Int) (b : List Nat) (w : World) (ha : R64 w A n s) (hb : R8 w B m b) (hn : n ≤ 1099511627776) (_hm : m ≤ 1099511627776) (hd : m ≤ d) :
    Calls Try.prog 23 #[.slice A n c, .slice B m d] w (TakesI (takeA s b) (takeE s b) w) := by
  have HA := Lib.hid ha
  have HB := Lib.hid hb
  have la := Lib.hid ha.len
  have lb := Lib.hid hb.len
  clear ha hb
  cases hok : okL s
  · have HP := Lib.hid (takeE_bad (b := b) hok)
    have HO := Lib.hid hok
    clear hok
    go_enter Try.func23, Try.ntmps23
    go_wp2_with (go_at_call 27; refine (Size_no _ _ _ s _ HA.out HO.out hn).mono ?_; rintro e w' ⟨rfl, rfl⟩)
    go_ret2
    exact TakesI.no HP.out (by decide) (Below.refl _ _)
  · have HO := Lib.hid hok
    have hT := okL_sum hok
    clear hok
    by_cases hlo : m < sumI s
    · have HP := Lib.hid (takeE_short HO.out (show b.length < sumI s by rw [lb.out]; exact hlo))
      go_enter Try.func23, Try.ntmps23
      go_wp2_with (go_at_call 27; refine (Size_yes _ _ _ s _ HA.out HO.out).mono ?_; rintro e w' ⟨rfl, rfl⟩)
      go_ret2
      exact TakesI.no HP.out (by decide) (Below.refl _ _)
    · by_cases hhi : sumI s < m
      · have HP := Lib.hid (takeE_long HO.out (show sumI s < b.length by rw [lb.out]; exact hhi))
        go_enter Try.func23, Try.ntmps23
        go_wp2_with (go_at_call 27; refine (Size_yes _ _ _ s _ HA.out HO.out).mono ?_; rintro e w' ⟨rfl, rfl⟩)
        go_ret2
        exact TakesI.no HP.out (by decide) (Below.refl _ _)
      · have HM := Lib.hid (show sumI s = m by omega)
        obtain ⟨i0, ti, tz0, tz1, tz2⟩ := info_parts info_int
        have hn64 : n ≤ 64 := by have := okL_len HO.out; have := la.out; omega
        go_enter Try.func23, Try.ntmps23
        go_wp2_with (first | (go_at_call 27; refine (Size_yes _ _ _ s _ HA.out HO.out).mono ?_; rintro e w' ⟨rfl, rfl⟩) | (at_make; refine wpList_make_own _ rfl _ _ _ rfl w.heap.size 3 i0 _ 1 Try.underlying44 ti tz0 tz1 .i64 .i64 (n : Int) n rfl rfl rfl ?b1 ?b2 ?b3 ?_))
        case b1 => rw [tz2]; omega
        case b2 => unfold maxLen; omega
        case b3 => exact Nat.le_refl _
        intro w1 hown hg
        have HO1 := Lib.hid hown
        have HB1 := Lib.hid (show Below w.heap.size w w1 from (Below.refl _ _).grown hg (by simp) (by simp))
        clear hown hg
        go_wp2
        go_loopw [1, 8, 35] (fun y v i wr => ∃ k : Nat, k ≤ n ∧ i = .int .i64 k ∧ ∃ D p cc, y = .slice D p cc ∧ Hid (p + sumI (s.take k) = m) ∧ p ≤ cc ∧ p ≤ 512 ∧ Hid (R8 w D p (b.drop (sumI (s.take k)))) ∧ Hid (wr.ownsRow w.heap.size 3 1 v k (I64 (vals (s.take k) b))) ∧ Hid (Below w.heap.size w wr) ∧ Hid (low (vals (s.take k) b) = true)) (fun _ _ i _ => n - (intOf i).toNat)
        case atStart => exact ⟨0, Nat.zero_le _, rfl, B, m, d, rfl, rfl, hd, by omega, HB, HO1, HB1, rfl⟩
        case round =>
          obtain ⟨k, hk, rfl, D, p, cc, rfl, HE, hpc, hp5, HD, HOr, HBr, HL⟩ := hrel
          by_cases hlt : k < n
          · obtain ⟨b1, o1, x, rfl, h1, HX, hx1, hx2, hc1⟩ := (HA.out.below HBr.out).at_ hlt
            have hx := okL_at HO.out HX.out
            obtain ⟨t, rfl⟩ := Int.eq_ofNat_of_zero_le (show 0 ≤ x by omega)
            have HS2 := Lib.hid (show sumI (s.take (k + 1)) = sumI (s.take k) + t by rw [take_snoc HX.out, sumI_snoc]; rfl)
            have HV2 := Lib.hid (show vals (s.take (k + 1)) b = vals (s.take k) b ++ [(numN ((b.drop (sumI (s.take k))).take t) : Int)] by rw [take_snoc HX.out, vals_snoc]; rfl)
            have HV3 := Lib.hid (show (vals s b)[k]? = some (numN ((b.drop (sumI (s.take k))).take t) : Int) from vals_at b HX.out)
            have htp : t ≤ p := by
              have h3 := sumI_take_le s (k + 1)
              have h4 := HS2.out
              have h5 := HE.out
              have h6 := HM.out
              omega
            obtain ⟨ad, rfl⟩ : ∃ ad, D = some ad := by
              obtain ⟨b2, o2, h3, _⟩ := HD.out.1.2 (by omega)
              exact ⟨_, h3⟩
            obtain ⟨D2, hD2, hr2⟩ : ∃ D2 : Option Addr, (if cc = t then some ad else some (ad.add t)) = D2 ∧ R8 w D2 (p - t) ((b.drop (sumI (s.take k))).drop t) := ⟨_, rfl, HD.out.cut t cc htp hpc⟩
            have HR2 := Lib.hid (show R8 w D2 (p - t) (b.drop (sumI (s.take (k + 1)))) by rw [HS2.out, ← List.drop_drop]; exact hr2)
            have HR1 := Lib.hid ((HD.out.below HBr.out).take_ t htp)
            have hnum : numN ((b.drop (sumI (s.take k))).take t) < 18446744073709551616 := by
              have h3 := numN_lt _ HR1.out.2
              rw [HR1.out.len] at h3
              exact Nat.lt_of_lt_of_le h3 (Nat.pow_le_pow_right (n := 2) (by omega) (show 8 * t ≤ 64 by omega))
            clear hr2
            have k1 : (0 : Int) ≤ (t : Int) := by omega
            have k2 : (t : Int) ≤ (p : Int) := by omega
            have k3 : (t : Int) ≤ (cc : Int) := by omega
            generalize (b.drop (sumI (s.take k))).take t = f at *
            by_cases hbig : 4611686018427387904 < numN f
            · have HP := Lib.hid (takeE_high HO.out (show sumI s = b.length by rw [HM.out, lb.out]) (low_bad HV3.out (by omega)))
              go_wp2_with (go_at_call 32; refine (number_any _ _ _ f _ HR1.out (by omega)).mono ?_; rintro e w' ⟨rfl, rfl⟩)
              go_ret2
              exact TakesI.no HP.out (by decide) HBr.out
            · have HL2 := Lib.hid (show low (vals (s.take (k + 1)) b) = true by rw [HV2.out]; exact low_snoc HL.out (by omega))
              have hz : w.heap.size ≤ wr.heap.size := HBr.out.size
              go_wp2_with (first | (go_at_call 32; refine (number_any _ _ _ f _ HR1.out (by omega)).mono ?_; rintro e w' ⟨rfl, rfl⟩) | (at_builtin; refine wpList_append_own _ rfl (.tmp 45) (.tmp 48) _ rfl w.heap.size 3 i0 _ 1 8 Try.underlying44 ti tz0 tz1 tz2 rfl (by decide) _ _ _ rfl (HOr.out.alloc _) ⟨wr.heap.size, 0, none⟩ 1 1 [_] rfl rfl (one_new _ _ _) ?c1 ?c2 ?c3 ?c4 ?_))
              case c1 => intro u hu; simp at hu; subst hu; rfl
              case c2 => unfold maxLen; omega
              case c3 => omega
              case c4 => simp; omega
              · intro v' w2 hown' hgrow _
                have HO2 := Lib.hid (show w2.ownsRow w.heap.size 3 1 v' (k + 1) (I64 (vals (s.take (k + 1)) b)) by
                  rw [HV2.out, I64_append]
                  exact hown')
                have HB2 := Lib.hid ((HBr.out.alloc hz _).grown hgrow (by simp; omega) (fun j hj => (HOr.out.lt j hj).1))
                clear hown' hgrow
                go_wp2
                go_roundw
                case rel => exact ⟨k + 1, by omega, by go_num, D2, p - t, cc - t, rfl, (by have h4 := HS2.out; have h5 := HE.out; show p - t + sumI (s.take (k + 1)) = m; omega), by omega, by omega, HR2, HO2, HB2, HL2⟩
                case measure => simp [intOf]; omega
          · obtain rfl : k = n := by omega
            have HE2 := Lib.hid (show s.take k = s from List.take_of_length_le (by have := la.out; omega))
            have HP := Lib.hid (takeE_yes HO.out (show sumI s = b.length by rw [HM.out, lb.out]) (by have := HL.out; rwa [HE2.out] at this))
            obtain ⟨A1, c1, rfl⟩ := own_form HOr.out
            go_wp2
            go_ret2
            exact TakesI.yes HP.out la.out (by have := HOr.out; rw [HE2.out] at this; exact this) HBr.out
end Go.Proofs.Ytfioapdbibggkaa
