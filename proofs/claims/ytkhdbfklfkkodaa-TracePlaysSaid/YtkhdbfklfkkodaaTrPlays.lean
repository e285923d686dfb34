/-
  The walk of the law TracePlays over the landed code, out of its callees' contracts.
-/
import Derived.Test.YtkhdbfklfkkodaaTrAw
import Derived.Test.YtkhdbfklfkkodaaCycC
namespace Go.Proofs.Ytkhdbfklfkkodaa
open Go.RowKit
set_option maxRecDepth 100000

set_option maxHeartbeats 16000000 in
theorem TracePlays_walk (A : Option Addr) (n c : Nat) (ls : List Dv) (w : World) (hr : RD w A n ls) (hnc : n ≤ c) (hnil : A = none → c = 0) (hn : n ≤ 9223372036854775807) :
    Calls Try.prog 3 #[.slice A n c] w (Gives (.bool true) w) := by
  obtain ⟨i0, ti, tz0, tz1, tz2⟩ := info_parts info_cycle
  have HRD := Lib.hid hr
  have HNL := Lib.hid hnil
  have hlen := Lib.hid hr.len
  clear hr hnil
  go_enter Try.func3, Try.ntmps3
  go_wp2_with fail
  refine (awake11_any _).mono ?_
  rintro _ w1 ⟨rfl, h1⟩
  have B1 := Lib.hid h1
  clear h1
  by_cases hbig : 40 < n
  · go_wp2
    go_ret
    exact ⟨rfl, B1.out⟩
  · have e0 : decide ((40 : Int) < (n : Int)) = false := decide_eq_false (by omega)
    go_wp2_with fail
    refine (New_any _).mono ?_
    rintro _ w2 ⟨p, I, rfl, h2, r2, i2⟩
    have B2 := Lib.hid (below_step B1.out h2)
    have R2 := Lib.hid r2
    have I2 := Lib.hid (fun j hj => Nat.le_trans B1.out.size (i2 j hj))
    clear h2 r2 i2
    go_wp2
    go_loopw [4, 23] (fun v i wr => ∃ k : Nat, k ≤ n ∧ i = .int .i64 (k : Int) ∧ ∃ (V : Option Addr) (cV : Nat) (J : Nat → Prop), v = .slice V (allT ls k).length cV ∧ Hid (wr.ownsRow w.heap.size 38 2 (.slice V (allT ls k).length cV) (allT ls k).length (CyC (allT ls k))) ∧ Hid (Rec wr p J (allT ls k) ((allT ls k).length : Int) (marksT ls k) k) ∧ Hid (∀ j, J j → w.heap.size ≤ j) ∧ Hid (∀ j, (Value.slice V (allT ls k).length cV).ownBlock = some j → ¬ J j) ∧ Hid (Below w.heap.size w wr) ∧ (allT ls k).length ≤ 50 * k) (fun _ i _ => n - (intOf i).toNat)
    case atStart =>
      exact ⟨0, Nat.zero_le _, rfl, none, 0, I, rfl, World.ownsRow_nil _ _ _ _, R2.out, I2.out, fun j hj => (by cases hj), B2.out, by simp [allT]⟩
    case round =>
      obtain ⟨k, hk, rfl, V, cV, J, rfl, HO, HR, HJ, HV, HB, hlk⟩ := hrel
      clear B1 B2 R2 I2 HNL
      by_cases hkn : k < n
      · obtain ⟨b, off, d, rfl, hb, HD, c0, c1, HDR, HDN, hds, hdc, hdl⟩ := (HRD.out.below HB.out).at_ hkn
        obtain ⟨nm, da, dc, cs⟩ := d
        simp only at c0 c1 HDR HDN hds hdc hdl
        by_cases h50 : 50 < cs.length
        · go_wp2
          go_ret
          exact ⟨rfl, HB.out.alloc HB.out.size _⟩
        · have e50 : decide ((50 : Int) < (cs.length : Int)) = false := decide_eq_false (by omega)
          have NB := Lib.hid (below_new wr (.cells #[.string nm, .slice da cs.length dc] 28))
          by_cases hz : nm.size = 0
          · skip
            have ez := empty_yes hz
            go_wp2_with fail
            refine (Add_any p J _ (allT ls k).length _ k da cs.length dc cs _ (HR.out.below NB.out) (HDR.out.below NB.out) HDN.out hdc (by omega) (by omega)).mono ?_
            rintro _ w4 ⟨rfl, g4, J4, r4, j4⟩
            obtain ⟨b4, jj4⟩ := Btw.step (HB.out.trans (NB.out.mono HB.out.size)) (Nat.le_trans HB.out.size NB.out.size) HJ.out g4 j4
            obtain ⟨o4, v4⟩ := own_step (own_below2 HO.out NB.out) HV.out g4 j4
            have t4 := (CRow.new wr #[.string nm, .slice da cs.length dc] 28).btw g4 (fun h => absurd (HR.out.lt _ h) (Nat.lt_irrefl _))
            have eA := allT_add HD.out hz
            have mA := marksT_add HD.out hz
            have hl : (allT ls (k + 1)).length = (allT ls k).length + cs.length := by rw [eA, List.length_append]
            simp only at eA
            rw [← mA, ← eA, ← hl] at r4
            have B4 := Lib.hid b4
            have R4 := Lib.hid r4
            have J4H := Lib.hid jj4
            have O4 := Lib.hid o4
            have V4 := Lib.hid v4
            have EA := Lib.hid eA
            have RC4 := Lib.hid (HRD.out.row HD.out |>.below b4)
            simp only at RC4
            have y1 := t4.cell_at 1 (.slice da cs.length dc) rfl
            clear g4 r4 j4 b4 jj4 o4 v4 eA mA t4 HR HO HJ HV HB NB
            go_wp2_with (at_builtin; refine wpList_appendCA _ rfl (.tmp 43) (.tmp 45) _ rfl w.heap.size 38 i0 Try.underlying26 ti tz0 tz1 tz2 (.slice V (allT ls k).length cV) (allT ls k).length (allT ls k) rfl O4.out da cs.length dc cs rfl HDN.out RC4.out (by omega) B4.out.size ?_)
            intro v5 w5 hown hg hwh
            obtain ⟨V5, c5, rfl⟩ := own_form2 hown
            rw [← hl, ← EA.out] at hown
            have hv5 : ∀ j, (Value.slice V5 ((allT ls k).length + cs.length) c5).ownBlock = some j → ¬ J4 j := fun j hj h => by
              rcases hwh with e | e
              · exact V4.out j (e ▸ hj) h
              · rw [e] at hj
                injection hj with hj
                have := R4.out.lt j h
                omega
            rw [← hl] at hv5
            have O5 := Lib.hid hown
            have V5H := Lib.hid hv5
            have R5 := Lib.hid (R4.out.btw (Btw.of_grown (I := fun j => (Value.slice V (allT ls k).length cV).ownBlock = some j) hg (fun _ h => h)) (fun j hj h => V4.out j h hj))
            have B5 := Lib.hid (B4.out.grown hg B4.out.size (fun j hj => (own_at2 O4.out j hj).1))
            rw [← hl]
            have hl1 : (allT ls (k + 1)).length ≤ 50 * (k + 1) := by omega
            clear hown hg hwh hv5 R4 O4 V4 B4 RC4 y1 EA hl
            generalize hLL : allT ls (k + 1) = LL at *
            have HLL := Lib.hid hLL
            have HALL := Lib.hid (show ∀ j, j ≤ k + 1 → (allT ls j).length ≤ LL.length from fun j hj => hLL ▸ allT_mono ls hj)
            clear hLL
            go_wp2_with fail
            refine (AllR_any p J4 _ _ _ _ _ R5.out).mono ?_
            rintro _ w6 ⟨rfl, h6⟩
            have B6 := Lib.hid (B5.out.trans (h6.mono B5.out.size))
            have R6 := Lib.hid (R5.out.below h6)
            have O6 := Lib.hid (own_below2 O5.out h6)
            clear h6 B5 R5 O5
            go_wp2_with fail
            refine (List_any p J4 _ _ _ _ _ R6.out (by omega)).mono ?_
            rintro _ w7 ⟨h7, A7, c7, rfl, r7⟩
            have B7 := Lib.hid (B6.out.trans (h7.mono B6.out.size))
            have R7 := Lib.hid (R6.out.below h7)
            have O7 := Lib.hid (own_below2 O6.out h7)
            have RC7 := Lib.hid r7
            clear h7 r7 B6 R6 O6
            go_wp2_with fail
            refine (RefSameC_any A7 V5 _ c7 _ c5 _ _ _ RC7.out (RC.own O7.out R7.out.in_) (by omega) (by omega)).mono ?_
            rintro _ w8 ⟨rfl, h8⟩
            rw [sameC_self]
            have B8 := Lib.hid (B7.out.trans (h8.mono B7.out.size))
            have R8 := Lib.hid (R7.out.below h8)
            have O8 := Lib.hid (own_below2 O7.out h8)
            clear h8 B7 R7 O7 RC7
            have hkc : k ≤ c := by omega
            go_wp2
            go_loopw [63] (fun i2 wq => ∃ q : Nat, q ≤ k ∧ i2 = .int .i64 (q : Int) ∧ Hid (Below w8.heap.size w8 wq)) (fun i2 _ => k - (intOf i2).toNat)
            case atStart => exact ⟨0, Nat.zero_le _, rfl, Below.refl _ _⟩
            case round =>
              obtain ⟨q, hq, rfl, BQ⟩ := hrel
              by_cases hqk : q < k
              · rename World => wq
                obtain ⟨b2, off2, dq, e2, hb2, HDq, m0, m1, _, _, hqs, _, _⟩ := (HRD.out.below (B8.out.trans (BQ.out.mono B8.out.size))).at_ (k := q) (by omega)
                injection e2 with e2
                obtain ⟨rfl, rfl, _⟩ := Addr.mk.inj e2
                obtain ⟨mn, ma, mc, ms⟩ := dq
                simp only at m0 m1 hqs
                have hk1 : (k : Int) + 1 ≤ (c : Int) := by omega
                have MB := Lib.hid (below_new wq (.cells #[.string mn, .slice ma ms.length mc] 28))
                go_wp2
                go_loopw [9, 10, 72] (fun v9 v10 i3 wj => ∃ j : Nat, j ≤ k + 1 ∧ i3 = .int .i64 (j : Int) ∧ v10 = .bool (marksT ls j mn).isSome ∧ ∃ (U : Option Addr) (cU : Nat), v9 = .slice U (sinceT ls j mn).length cU ∧ Hid (wj.ownsRow (wq.heap.size + 1) 38 2 (.slice U (sinceT ls j mn).length cU) (sinceT ls j mn).length (CyC (sinceT ls j mn))) ∧ Hid (CRow wj wq.heap.size 28 #[.string mn, .slice ma ms.length mc]) ∧ Hid (Below wq.heap.size wq wj)) (fun _ _ i3 _ => (k + 1) - (intOf i3).toNat)
                case atStart => exact ⟨0, Nat.zero_le _, rfl, rfl, none, 0, rfl, World.ownsRow_nil _ _ _ _, CRow.new wq _ _, MB.out⟩
                case round =>
                  obtain ⟨j, hj, rfl, rfl, U, cU, rfl, OU, CU, BJ⟩ := hrel
                  rename World => wj
                  by_cases hjk : j < k + 1
                  · obtain ⟨b3, off3, dx, e3, hb3, HDx, x0, x1, HXR, HXN, hxs, hxc, hxl⟩ := (HRD.out.below (B8.out.trans ((BQ.out.trans (BJ.out.mono BQ.out.size)).mono B8.out.size))).at_ (k := j) (by omega)
                    injection e3 with e3
                    obtain ⟨rfl, rfl, _⟩ := Addr.mk.inj e3
                    obtain ⟨xn, xa, xc, xs⟩ := dx
                    simp only at x0 x1 HXR HXN hxs hxc hxl
                    have TB := Lib.hid (below_new wj (.cells #[.string xn, .slice xa xs.length xc] 28))
                    have mc0 := (CU.out.below TB.out).cell_at 0 (.string mn) rfl
                    by_cases hxz : xn.size = 0
                    · have ex := empty_yes hxz
                      cases hf : (marksT ls j mn).isSome
                      · have E1 := Lib.hid (show (marksT ls (j + 1) mn).isSome = false by rw [marksT_add HDx.out hxz]; exact hf)
                        have E2 := Lib.hid (since_stay HDx.out hxz hf)
                        by_cases heq : xn.toList = mn.toList
                        · have em : mn.toList.isEmpty = true := heq ▸ ex
                          clear hf
                          go_wp2
                          go_roundw
                          case rel => exact ⟨j + 1, by omega, by go_num, by rw [E1.out], U, cU, by rw [E2.out], by rw [E2.out]; exact Lib.hid (own_below2 OU.out TB.out), Lib.hid (CU.out.below TB.out), Lib.hid (BJ.out.trans (TB.out.mono BJ.out.size))⟩
                          case measure => simp [intOf]; omega
                        · clear hf
                          go_wp2
                          go_roundw
                          case rel => exact ⟨j + 1, by omega, by go_num, by rw [E1.out], U, cU, by rw [E2.out], by rw [E2.out]; exact Lib.hid (own_below2 OU.out TB.out), Lib.hid (CU.out.below TB.out), Lib.hid (BJ.out.trans (TB.out.mono BJ.out.size))⟩
                          case measure => simp [intOf]; omega
                      · have hmz : mn.size ≠ 0 := fun h => by rw [marksT_empty h] at hf; cases hf
                        have heq : ¬ xn.toList = mn.toList := fun h => hmz (toList_inj h ▸ hxz)
                        have em := empty_no hmz
                        have E1 := Lib.hid (show (marksT ls (j + 1) mn).isSome = true by rw [marksT_add HDx.out hxz]; exact hf)
                        have E2 := Lib.hid (since_add HDx.out hxz hf)
                        have hl9 : (sinceT ls (j + 1) mn).length = (sinceT ls j mn).length + xs.length := by rw [E2.out, List.length_append]
                        have hsl := sinceT_le ls (j + 1) mn
                        have hal := HALL.out (j + 1) (by omega)
                        have TX := Lib.hid (CRow.new wj #[.string xn, .slice xa xs.length xc] 28)
                        clear hf
                        go_wp2_with (at_builtin; refine wpList_appendC _ rfl (.tmp 82) (.tmp 84) _ rfl (wq.heap.size + 1) 38 i0 Try.underlying26 ti tz0 tz1 tz2 (.slice U (sinceT ls j mn).length cU) (sinceT ls j mn).length (sinceT ls j mn) rfl (own_below2 OU.out TB.out) xa xs.length xc xs rfl HXN.out (HXR.out.below TB.out) (by omega) (by have := CU.out.lt; have := TB.out.size; omega) ?_)
                        intro v9 w9 hown hg
                        obtain ⟨U9, c9, rfl⟩ := own_form2 hown
                        have hbs := own_at2 OU.out
                        have G9 : Btw (fun g => (Value.slice U (sinceT ls j mn).length cU).ownBlock = some g) (wj.alloc (.cells #[.string xn, .slice xa xs.length xc] 28)) w9 := Btw.of_grown hg (fun _ h => h)
                        have T9 := Lib.hid (TX.out.btw G9 (fun h => by obtain ⟨_, cur, hc⟩ := hbs _ h; have := (Array.getElem?_eq_some_iff.1 hc).1; omega))
                        have C9 := Lib.hid ((CU.out.below TB.out).btw G9 (fun h => by have := (hbs _ h).1; omega))
                        have B9 := Lib.hid ((BJ.out.trans (TB.out.mono BJ.out.size)).grown hg (Nat.le_trans BJ.out.size TB.out.size) (fun g h => by have := (hbs g h).1; omega))
                        rw [← hl9, ← E2.out] at hown
                        rw [← hl9]
                        have O9 := Lib.hid hown
                        have z0 := T9.out.cell_at 0 (.string xn) rfl
                        have z1 := C9.out.cell_at 0 (.string mn) rfl
                        clear hown hg hbs G9 hl9 E2
                        go_wp2
                        go_roundw
                        case rel => exact ⟨j + 1, by omega, by go_num, by rw [E1.out], U9, c9, rfl, O9, C9, B9⟩
                        case measure => simp [intOf]; omega
                    · have ex := empty_no hxz
                      by_cases heq : xn.toList = mn.toList
                      · have e4 := toList_inj heq
                        subst e4
                        obtain ⟨E1, E2⟩ := since_here HDx.out hxz
                        simp only at E1 E2
                        have E1 := Lib.hid E1
                        have E2 := Lib.hid E2
                        go_wp2
                        go_roundw
                        case rel => exact ⟨j + 1, by omega, by go_num, by rw [E1.out], none, 0, by rw [E2.out]; rfl, by rw [E2.out]; exact Lib.hid (World.ownsRow_nil _ _ _ _), Lib.hid (CU.out.below TB.out), Lib.hid (BJ.out.trans (TB.out.mono BJ.out.size))⟩
                        case measure => simp [intOf]; omega
                      · obtain ⟨E1, E2⟩ := since_other (s := mn) HDx.out hxz (fun h => heq (h ▸ rfl))
                        have E2 := Lib.hid E2
                        have E1 := Lib.hid (congrArg Option.isSome E1)
                        cases hf : (marksT ls j mn).isSome
                        · rw [hf] at E1
                          clear hf
                          go_wp2
                          go_roundw
                          case rel => exact ⟨j + 1, by omega, by go_num, by rw [E1.out], U, cU, by rw [E2.out], by rw [E2.out]; exact Lib.hid (own_below2 OU.out TB.out), Lib.hid (CU.out.below TB.out), Lib.hid (BJ.out.trans (TB.out.mono BJ.out.size))⟩
                          case measure => simp [intOf]; omega
                        · rw [hf] at E1
                          clear hf
                          go_wp2
                          go_roundw
                          case rel => exact ⟨j + 1, by omega, by go_num, by rw [E1.out], U, cU, by rw [E2.out], by rw [E2.out]; exact Lib.hid (own_below2 OU.out TB.out), Lib.hid (CU.out.below TB.out), Lib.hid (BJ.out.trans (TB.out.mono BJ.out.size))⟩
                          case measure => simp [intOf]; omega
                  · obtain rfl : j = k + 1 := by omega
                    have mc0 := CU.out.cell_at 0 (.string mn) rfl
                    have RJ := Lib.hid (R8.out.below (BQ.out.trans (BJ.out.mono BQ.out.size)))
                    go_wp2_with fail
                    refine (Since_any p J4 LL _ (marksT ls (k + 1)) _ mn _ RJ.out (by omega) hqs (fun x hx => by have := marksT_le hx; rw [HLL.out] at this; exact this)).mono ?_
                    rintro _ wk ⟨h9, hs9⟩
                    have mc1 := (CU.out.below h9).cell_at 0 (.string mn) rfl
                    have B9 := Lib.hid ((BQ.out.trans (BJ.out.mono BQ.out.size)).trans (h9.mono (Nat.le_trans BQ.out.size BJ.out.size)))
                    rcases hs9 with ⟨hm, rfl⟩ | ⟨x, hm, A9, c9, rfl, r9⟩
                    · have hmz : mn.size = 0 := Decidable.byContradiction fun h => by
                        have := marksT_some HDq.out h (show q < k + 1 by omega)
                        rw [hm] at this
                        cases this
                      have em := empty_yes hmz
                      clear hm h9
                      go_wp2
                      go_roundw
                      case rel => exact ⟨q + 1, by omega, by go_num, B9⟩
                      case measure => simp [intOf]; omega
                    · have hmz : mn.size ≠ 0 := fun h => by rw [marksT_empty h] at hm; cases hm
                      have em := empty_no hmz
                      have ES : sinceT ls (k + 1) mn = LL.drop x := by unfold sinceT; rw [hm, HLL.out]
                      have O9 := own_below2 OU.out h9
                      have hle : (LL.drop x).length ≤ LL.length := by rw [List.length_drop]; omega
                      rw [ES] at O9 ⊢
                      generalize LL.drop x = LX at *
                      have RC1 := Lib.hid r9
                      have RC2 := Lib.hid (RC.own O9 r9.in_)
                      clear hm h9 r9 O9 ES
                      go_wp2_with fail
                      refine (RefSameC_any A9 U _ c9 _ cU _ _ _ RC1.out RC2.out (by omega) (by omega)).mono ?_
                      rintro _ wl ⟨rfl, hl9⟩
                      rw [sameC_self]
                      have BL := Lib.hid (B9.out.trans (hl9.mono B9.out.size))
                      clear hl9
                      go_wp2
                      go_roundw
                      case rel => exact ⟨q + 1, by omega, by go_num, BL⟩
                      case measure => simp [intOf]; omega
              · obtain rfl : q = k := by omega
                go_wp2
                go_roundw
                case rel => exact ⟨q + 1, by omega, by go_num, V5, c5, J4, by rw [HLL.out], by rw [HLL.out]; exact Lib.hid (own_below2 O8.out BQ.out), by rw [HLL.out]; exact Lib.hid (Rec.mono (R8.out.below BQ.out) (by omega)), J4H, by rw [HLL.out]; exact V5H, Lib.hid (B8.out.trans (BQ.out.mono B8.out.size)), by rw [HLL.out]; omega⟩
                case measure => simp [intOf]; omega
          · skip
            have ez := empty_no hz
            go_wp2_with fail
            refine (Mark_any p J _ _ _ k nm _ (HR.out.below NB.out) (by omega) (by omega) hds).mono ?_
            rintro _ w4 ⟨rfl, g4, J4, r4, j4⟩
            obtain ⟨b4, jj4⟩ := Btw.step (HB.out.trans (NB.out.mono HB.out.size)) (Nat.le_trans HB.out.size NB.out.size) HJ.out g4 j4
            obtain ⟨o4, v4⟩ := own_step (own_below2 HO.out NB.out) HV.out g4 j4
            have eM := allT_mark HD.out hz
            have mM := marksT_mark HD.out hz
            rw [← mM, ← eM] at r4
            rw [← eM] at o4 v4
            have B4 := Lib.hid b4
            have R4 := Lib.hid r4
            have J4H := Lib.hid jj4
            have O4 := Lib.hid o4
            have V4 := Lib.hid v4
            have EM := Lib.hid eM
            clear g4 r4 j4 b4 jj4 o4 v4 eM mM
            go_wp2
            go_roundw
            case rel => exact ⟨k + 1, by omega, by go_num, V, cV, J4, by rw [EM.out], O4, R4, J4H, V4, B4, by rw [EM.out]; omega⟩
            case measure => simp [intOf]; omega
      · obtain rfl : k = n := by omega
        go_wp2
        go_ret
        exact ⟨rfl, HB.out⟩
end Go.Proofs.Ytkhdbfklfkkodaa
