/-
  Contract of cycle.Parse, over the landed code.
-/
import Derived.Test.YtfbldlbhhaidpaaCycR
import Derived.Test.YtfbldlbhhaidpaaCycD
namespace Go.Proofs.Ytfbldlbhhaidpaa
open Go.RowKit
set_option maxRecDepth 100000

theorem bl_extract {s : ByteArray} {i j k : Nat} (hj : j ≤ s.size) (hk : i + k < j) : (bl (s.extract i j))[k]? = (bl s)[i + k]? := by
  obtain ⟨⟨l⟩⟩ := s
  have e : ByteArray.extract ⟨⟨l⟩⟩ i j = ⟨((l.drop i).take (j - i)).toArray⟩ := ByteArray.extract_mk l i j
  rw [e]
  show (((l.drop i).take (j - i)).map (·.toNat))[k]? = (l.map (·.toNat))[i + k]?
  rw [List.getElem?_map, List.getElem?_map, List.getElem?_take, if_pos (by omega), List.getElem?_drop]
theorem extract_size {s : ByteArray} {i j : Nat} (hj : j ≤ s.size) : (s.extract i j).size = j - i := by
  simp [ByteArray.size_extract, Nat.min_eq_left hj]

/-- The cycles of the text, 0 and no error; or no cycle, where it is wrong, and ErrForm. -/
def ParsesCy (s : List Nat) (w : World) (e : Ending) (w' : World) : Prop :=
  Below w.heap.size w w' ∧
  ((0 < faultL s ∧ e = .returned (.tuple #[.slice none 0 0, .int .i64 (faultL s : Int), .int .i64 11])) ∨
   (faultL s = 0 ∧ ∃ A c, e = .returned (.tuple #[.slice A (parseL s).length c, .int .i64 0, .int .i64 0]) ∧ RC w' A (parseL s).length (parseL s) ∧ (A = none → c = 0)))

set_option maxHeartbeats 2000000 in
theorem Parse_any (s : ByteArray) (w : World) (hs : s.size ≤ 67108864) :
    Calls Try.prog 15 #[.string s] w (ParsesCy (bl s) w) := by
  have hlen := Lib.hid (bl_length s)
  obtain ⟨i0, ti, tz0, tz1, tz2⟩ := info_parts info_cycle
  by_cases hf : 0 < faultL (bl s)
  · obtain ⟨f, hF⟩ : ∃ f, Hid (faultL (bl s) = f) := ⟨_, rfl⟩
    have e1 : 0 < f := by have := hF.out; omega
    have HF := Lib.hid hf
    clear hf
    go_enter Try.func15, Try.ntmps15
    go_wp2_with fail
    refine (faultAt_any s _ (by omega)).mono ?_
    rintro _ w1 ⟨rfl, rfl⟩
    rw [hF.out]
    go_wp2
    go_ret3
    exact ⟨Below.refl _ _, .inl ⟨HF.out, by rw [hF.out]; rfl⟩⟩
  · have h0 := Lib.hid (show faultL (bl s) = 0 by omega)
    obtain ⟨hfit, hl3⟩ := faultL_zero.1 h0.out
    have HFit := Lib.hid hfit
    clear hfit hf
    have e1 : decide ((67108864 : Int) < (s.size : Int)) = false := decide_eq_false (by omega)
    obtain ⟨m, HM⟩ : ∃ m, Hid ((s.size + 1) / 4 = m) := ⟨_, rfl⟩
    rw [hlen.out] at hl3
    have hm : s.size = 0 ∧ m = 0 ∨ s.size + 1 = m * 4 := by have := HM.out; omega
    go_enter Try.func15, Try.ntmps15
    go_wp2_with fail
    refine (faultAt_any s _ (by omega)).mono ?_
    rintro _ w1 ⟨rfl, rfl⟩
    rw [h0.out]
    go_wp2_with (at_make; refine wpList_make_own _ rfl _ _ _ rfl w.heap.size 31 i0 _ 2 Try.underlying22 ti tz0 tz1 .i64 .i64 ((s.size : Int) / 4 + 1) (s.size / 4 + 1) rfl rfl ?b0 ?b1 ?b2 ?b3 ?_)
    case b0 => omega
    case b1 => rw [tz2]; omega
    case b2 => unfold maxLen; omega
    case b3 => exact Nat.le_refl _
    intro w1 hown hg
    have HO1 := Lib.hid hown
    have HB1 := Lib.hid (show Below w.heap.size w w1 from (Below.refl _ _).grown hg (by simp) (by simp))
    clear hown hg
    go_wp2
    go_loopw [6, 7] (fun v i wr => ∃ k : Nat, k ≤ m ∧ i = .int .i64 ((k * 4 : Nat) : Int) ∧ Hid (wr.ownsRow w.heap.size 31 2 v k (CyC (cysTo (bl s) k))) ∧ Hid (Below w.heap.size w wr)) (fun _ i _ => m * 4 - (intOf i).toNat)
    case atStart => exact ⟨0, Nat.zero_le _, rfl, HO1, HB1⟩
    case round =>
      obtain ⟨k, hk, rfl, HOr, HBr⟩ := hrel
      by_cases hlt : k < m
      · have HX := Lib.hid (bl_at (s := s) (show k * 4 < s.size by omega))
        have HY := Lib.hid (bl_at (s := s) (show k * 4 + 1 < s.size by omega))
        have HZ := Lib.hid (bl_at (s := s) (show k * 4 + 2 < s.size by omega))
        have hgx : (bl s).getD (k * 4) 0 = (s[k * 4]'(by omega)).toNat := by rw [List.getD_eq_getElem?_getD, HX.out]; rfl
        have hgy : (bl s).getD (k * 4 + 1) 0 = (s[k * 4 + 1]'(by omega)).toNat := by rw [List.getD_eq_getElem?_getD, HY.out]; rfl
        have hgz : (bl s).getD (k * 4 + 2) 0 = (s[k * 4 + 2]'(by omega)).toNat := by rw [List.getD_eq_getElem?_getD, HZ.out]; rfl
        have fy := HFit.out (k * 4 + 1) (by rw [hlen.out]; omega)
        have fz := HFit.out (k * 4 + 2) (by rw [hlen.out]; omega)
        rw [mod4 k 1 (by omega), hgy] at fy
        rw [mod4 k 2 (by omega), hgz] at fz
        simp only [fitB, show ¬((1 : Nat) = 0) by omega, show ¬((1 : Nat) = 3) by omega, if_false, decide_eq_true_eq] at fy
        simp only [fitB, show ¬((2 : Nat) = 0) by omega, show ¬((2 : Nat) = 3) by omega, if_false, decide_eq_true_eq] at fz
        have hcy : cyAt (bl s) k = ⟨letK (s[k * 4]'(by omega)).toNat, (16 * digI (s[k * 4 + 1]'(by omega)).toNat + digI (s[k * 4 + 2]'(by omega)).toNat).toNat⟩ := by
          unfold cyAt
          rw [hgx, hgy, hgz]
        generalize (s[k * 4]'(by omega)).toNat = x at *
        generalize (s[k * 4 + 1]'(by omega)).toNat = y at *
        generalize (s[k * 4 + 2]'(by omega)).toNat = z at *
        obtain ⟨p, hp⟩ := Int.eq_ofNat_of_zero_le fy
        obtain ⟨q, hq⟩ := Int.eq_ofNat_of_zero_le fz
        have HT := Lib.hid (show cysTo (bl s) (k + 1) = cysTo (bl s) k ++ [⟨letK x, p * 16 + q⟩] by
          rw [cysTo_succ, hcy, hp, hq]
          congr 3
          show (16 * (p : Int) + (q : Int)).toNat = _
          omega)
        have HRd := Lib.hid (fun w => read_any (s.extract (k * 4) (k * 4 + 3)) x y z p q w (by rw [extract_size (by omega)]; omega) (by rw [bl_extract (by omega) (by omega)]; exact HX.out) (by rw [bl_extract (by omega) (by omega)]; exact HY.out) (by rw [bl_extract (by omega) (by omega)]; exact HZ.out) hp hq)
        have hkx := letK_bd x
        have hz : w.heap.size ≤ wr.heap.size := HBr.out.size
        clear hgx hgy hgz fy fz hcy hp hq HX HY HZ
        go_wp2_with fail
        refine (HRd.out _).mono ?_
        rintro _ w3 ⟨rfl, h3⟩
        have B3 := Lib.hid (below_step HBr.out h3)
        have O3 := Lib.hid (own_below2 HOr.out h3)
        have hz3 : w.heap.size ≤ w3.heap.size := B3.out.size
        clear h3
        go_wp2_with (at_builtin; refine wpList_append_own _ rfl (.tmp 27) (.tmp 34) _ rfl w.heap.size 31 i0 _ 2 16 Try.underlying22 ti tz0 tz1 tz2 rfl (by decide) _ _ _ rfl (O3.out.alloc _) ⟨w3.heap.size, 0, none⟩ 1 1 [_, _] rfl rfl (pair_new _ _ _ _) ?c1 ?c2 ?c3 ?c4 ?_)
        case c1 => intro u hu; simp at hu; rcases hu with rfl | rfl <;> rfl
        case c2 => unfold maxLen; omega
        case c3 => omega
        case c4 => simp; omega
        intro v' w2 hown' hgrow _
        have HO2 := Lib.hid (show w2.ownsRow w.heap.size 31 2 v' (k + 1) (CyC (cysTo (bl s) (k + 1))) by
          rw [HT.out, CyC_append]
          exact hown')
        have HB2 := Lib.hid ((B3.out.alloc hz3 _).grown hgrow (by simp; omega) (fun j hj => (O3.out.lt j hj).1))
        clear hown' hgrow
        go_wp2
        go_roundw
        case rel => exact ⟨k + 1, by omega, by go_num, HO2, HB2⟩
        case measure => simp [intOf]; omega
      · obtain rfl : k = m := by omega
        obtain ⟨A', c', rfl⟩ := own_form2 HOr.out
        have HE := Lib.hid (show ParsesCy (bl s) w (.returned (.tuple #[.slice A' k c', .int .i64 0, .int .i64 0])) wr by
          have h := HOr.out
          have h2 : parseL (bl s) = cysTo (bl s) k := by unfold parseL; rw [hlen.out, HM.out]
          have h3 : (parseL (bl s)).length = k := by rw [h2, cysTo_length]
          refine ⟨HBr.out, .inr ⟨h0.out, ?_⟩⟩
          rw [h3, h2]
          exact ⟨A', c', rfl, RC.own h fun t ht => by have h4 := cysTo_b t ht; unfold inC; omega, own_nil2 h⟩)
        go_wp2
        go_ret3
        exact HE.out
end Go.Proofs.Ytfbldlbhhaidpaa
