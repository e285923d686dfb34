/-
  Contract of pack.Put, over the landed code.
-/
import Derived.Test.YtfioapdbibggkaaPackC
import Derived.Test.YtfioapdbibggkaaOwn
namespace Go.Proofs.Ytfioapdbibggkaa
open Go.RowKit

/-- It returns a slice of the bytes l, and the error; nothing that was there has turned. -/
def PutsB (l : List Nat) (er : Int) (w : World) (e : Ending) (w' : World) : Prop :=
  ∃ A c, e = .returned (.tuple #[.slice A l.length c, .int .i64 er]) ∧ R8 w' A l.length l ∧ Below w.heap.size w w' ∧ l.length ≤ c ∧ (A = none → c = 0)
theorem PutsB.no {s z : List Int} {w w' : World} (h : canPut s z = false) (hb : Below w.heap.size w w') : PutsB (putA s z) (putE s z) w (.returned (.tuple #[.slice none 0 0, .int .i64 2])) w' := by
  rw [putA_no h, putE_no h]
  exact ⟨none, 0, rfl, ⟨Rd.nil_, by simp⟩, hb, Nat.le_refl _, fun _ => rfl⟩
theorem PutsB.yes {s z : List Int} {w w' : World} {A : Option Addr} {c m : Nat} (h : canPut s z = true) (hm : sumI s = m) (ho : w'.ownsRow w.heap.size 5 1 (.slice A m c) m (U8 (putL s z))) (hb : Below w.heap.size w w') :
    PutsB (putA s z) (putE s z) w (.returned (.tuple #[.slice A m c, .int .i64 0])) w' := by
  obtain ⟨h1, h2, h3⟩ := canPut_yes h
  rw [putA_yes h, putE_yes h]
  have e : (putL s z).length = m := by rw [putL_length s z h2, hm]
  refine ⟨A, c, by rw [e], ?_, hb, ?_, own_nil ho⟩
  · rw [e]
    exact R8.own ho (putL_lt s z)
  · rw [e]
    exact own_cap ho
theorem canPut_bad {s z : List Int} (h : okL s = false) : canPut s z = false := by unfold canPut; rw [h]; rfl
theorem canPut_ne {s z : List Int} (h : s.length ≠ z.length) : canPut s z = false := by unfold canPut; rw [decide_eq_false h]; simp
theorem canPut_unfit {s z : List Int} (h : fitsL s z = false) : canPut s z = false := by unfold canPut; rw [h]; simp

set_option maxHeartbeats 1000000 in
theorem Put_any (A B : Option Addr) (n c m d : Nat) (s z : List Int) (w : World) (ha : R64 w A n s) (hb : R64 w B m z) (hn : n ≤ 1099511627776) (hm : m ≤ 1099511627776) :
    Calls Try.prog 17 #[.slice A n c, .slice B m d] w (PutsB (putA s z) (putE s z) w) := by
  have HA := Lib.hid ha
  have HB := Lib.hid hb
  have la := Lib.hid ha.len
  have lb := Lib.hid hb.len
  clear ha hb
  cases hok : okL s
  · have HP := Lib.hid (canPut_bad (z := z) hok)
    have HO := Lib.hid hok
    clear hok
    go_enter Try.func17, Try.ntmps17
    go_wp2_with (go_at_call 27; refine (Size_no _ _ _ s _ HA.out HO.out hn).mono ?_; rintro e w' ⟨rfl, rfl⟩)
    go_ret2
    exact PutsB.no HP.out (Below.refl _ _)
  · have HO := Lib.hid hok
    clear hok
    by_cases hnm : n = m
    · subst hnm
      obtain ⟨i0, ti, tz0, tz1, tz2⟩ := info_parts info_u8
      have hn64 : n ≤ 64 := by have := okL_len HO.out; have := la.out; omega
      have hT := okL_sum HO.out
      have HEl := Lib.hid (show s.length = z.length by rw [la.out, lb.out])
      clear hm hn
      go_enter Try.func17, Try.ntmps17
      go_wp2_with (first | (go_at_call 27; refine (Size_yes _ _ _ s _ HA.out HO.out).mono ?_; rintro e w' ⟨rfl, rfl⟩) | (at_make; refine wpList_make_own _ rfl _ _ _ rfl w.heap.size 5 i0 _ 1 Try.underlying24 ti tz0 tz1 .i64 .i64 (sumI s : Int) (sumI s) rfl rfl rfl ?b1 ?b2 ?b3 ?_))
      case b1 => rw [tz2]; omega
      case b2 => unfold maxLen; omega
      case b3 => exact Nat.le_refl _
      intro w1 hown hg
      have HO1 := Lib.hid hown
      have HB1 := Lib.hid (show Below w.heap.size w w1 from (Below.refl _ _).grown hg (by simp) (by simp))
      clear hown hg
      go_wp2
      go_loopw [8, 29] (fun v i wr => ∃ k : Nat, k ≤ n ∧ i = .int .i64 k ∧ Hid (wr.ownsRow w.heap.size 5 1 v (sumI (s.take k)) (U8 (putTo s z k))) ∧ Hid (Below w.heap.size w wr) ∧ Hid (fitsTo s z k = true)) (fun _ i _ => n - (intOf i).toNat)
      case atStart => exact ⟨0, Nat.zero_le _, rfl, HO1, HB1, rfl⟩
      case round =>
        obtain ⟨k, hk, rfl, HOr, HBr, HFr⟩ := hrel
        by_cases hlt : k < n
        · obtain ⟨b1, o1, x, rfl, h1, HX, hx1, hx2, hc1⟩ := (HA.out.below HBr.out).at_ hlt
          obtain ⟨b2, o2, y, rfl, h2, HY, hy1, hy2, hc2⟩ := (HB.out.below HBr.out).at_ hlt
          cases hf : fitsB y x
          · have HP := Lib.hid (canPut_unfit (fitsL_bad HX.out HY.out hf))
            have HF := Lib.hid hf
            clear hf
            go_wp2_with (go_at_call 28; refine (Fits_is _ _ false _ HF.out hy1 hy2 hx1 hx2).mono ?_; rintro e w' ⟨rfl, rfl⟩)
            go_ret2
            exact PutsB.no HP.out HBr.out
          · have HF2 := Lib.hid (fitsTo_succ HX.out HY.out HFr.out hf)
            have HP2 := Lib.hid (putTo_succ HX.out HY.out)
            have HS2 := Lib.hid (show sumI (s.take (k + 1)) = sumI (s.take k) + x.toNat by rw [take_snoc HX.out, sumI_snoc])
            have hy := fitsB_yes hf
            have HF := Lib.hid hf
            have hq := okL_sum (okL_take HO.out k)
            clear hf
            obtain ⟨t, rfl⟩ := Int.eq_ofNat_of_zero_le (show 0 ≤ x by omega)
            obtain ⟨u, rfl⟩ := Int.eq_ofNat_of_zero_le (show 0 ≤ y by omega)
            simp only [Int.toNat_natCast] at hy
            have hgr := great_le t (by omega)
            have hz : w.heap.size ≤ wr.heap.size := HBr.out.size
            go_wp2_with (go_at_call 28; refine (Fits_is _ _ true _ HF.out hy1 hy2 hx1 hx2).mono ?_; rintro e w' ⟨rfl, rfl⟩)
            refine (appendField_any _ _ _ u t w.heap.size _ HOr.out hz (by omega) (by omega) (by omega)).mono ?_
            rintro e w2 ⟨A2, c2, rfl, ho2, hb2⟩
            have HO2 := Lib.hid (show w2.ownsRow w.heap.size 5 1 (.slice A2 (sumI (s.take k) + t) c2) (sumI (s.take (k + 1))) (U8 (putTo s z (k + 1))) by
              rw [HS2.out, HP2.out]
              exact ho2)
            have HB2 := Lib.hid (HBr.out.trans hb2)
            clear ho2 hb2
            go_wp2
            go_roundw
            case rel => exact ⟨k + 1, by omega, by go_num, HO2, HB2, HF2⟩
            case measure => simp [intOf]; omega
        · obtain rfl : k = n := by omega
          have HP := Lib.hid (canPut_mk HO.out HEl.out (by have := HFr.out; rwa [fitsTo_all _ _ _ (by have := la.out; omega)] at this))
          have HE := Lib.hid (show s.take k = s from List.take_of_length_le (by have := la.out; omega))
          have HPt := Lib.hid (putTo_all s z k (by have := la.out; omega))
          obtain ⟨A1, c1, rfl⟩ := own_form HOr.out
          go_wp2
          go_ret2
          exact PutsB.yes HP.out (by rw [HE.out]) (by rw [← HPt.out]; exact HOr.out) HBr.out
    · have HP := Lib.hid (canPut_ne (s := s) (z := z) (by rw [la.out, lb.out]; exact hnm))
      have hne : ((m : Int) != (n : Int)) = true := by simp; omega
      clear hnm
      go_enter Try.func17, Try.ntmps17
      go_wp2_with (go_at_call 27; refine (Size_yes _ _ _ s _ HA.out HO.out).mono ?_; rintro e w' ⟨rfl, rfl⟩)
      go_ret2
      exact PutsB.no HP.out (Below.refl _ _)
end Go.Proofs.Ytfioapdbibggkaa
