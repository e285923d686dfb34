/-
  Contracts of the laws' Same at two pages of the same contents, and of awake, over the landed code.
-/
import Derived.Test.YtgiihdeilkiphaaLadderSameJ13
import Derived.Test.YtgiihdeilkiphaaLadderSameJPageH
import Derived.Test.YtgiihdeilkiphaaLadderSameJ3
import Derived.Test.YtgiihdeilkiphaaLadderSameJMat2
namespace Go.Proofs.Ytgiihdeilkiphaa
open Go.RowKit
set_option maxRecDepth 100000

set_option maxHeartbeats 1000000 in
theorem SameP_yes (A B : Option Addr) (n c d : Nat) (l : List Nat) (tk ts tq te st : Int) (w : World) (ha : R8 w A n l) (hb : R8 w B n l) (hn : n ≤ 1099511627776) :
    Calls Try.prog 11 #[.agg #[.slice A n c, .int .i64 tk, .int .i64 ts, .int .i64 tq, .int .i64 te, .int .i64 st], .agg #[.slice B n d, .int .i64 tk, .int .i64 ts, .int .i64 tq, .int .i64 te, .int .i64 st]] w (Gives (.bool true) w) := by
  have BB := Lib.hid (below_step (below_new w (.cells #[.slice A n c, .int .i64 tk, .int .i64 ts, .int .i64 tq, .int .i64 te, .int .i64 st] 31)) (below_new _ (.cells #[.slice B n d, .int .i64 tk, .int .i64 ts, .int .i64 tq, .int .i64 te, .int .i64 st] 31)))
  have HA := Lib.hid (ha.below BB.out)
  have HB := Lib.hid (hb.below BB.out)
  clear ha hb
  go_enter Try.func11, Try.ntmps11
  go_wp2_with fail
  refine (Same_any A B n c n d l l _ HA.out HB.out hn hn).mono ?_
  rintro _ w1 ⟨rfl, n1, rfl⟩
  rw [decide_eq_true rfl]
  go_wp2
  go_ret
  exact ⟨rfl, below_drewN BB.out n1⟩

theorem raw2 : geo2.raw = ((37 : Nat) : Int) := by decide +kernel
theorem climb_erased : climbL geo2 [List.replicate 37 255] = (([], ⟨0, 0, 0, 0⟩, 2), 0, 0) := by
  have h1 := dec_erased 1 4 37 rfl [] (by simp)
  have h2 : decG geo2 (List.replicate 37 255) = ([], Tg.zero, 2, 0) := by
    unfold decG
    rw [List.length_replicate, okG_mk geo2_ok 1 4 rfl rfl rfl, if_pos rfl]
    exact h1
  have ho : climbOk geo2 [List.replicate 37 255] = true := climbOk_iff.2 ⟨geo2_ok, by simp, by decide, fun l hl => by
    rw [List.mem_singleton.1 hl, List.length_replicate]
    exact raw2.symm⟩
  rw [climbL_at (k := 0) (l := List.replicate 37 255) ho (NoneTo.zero _ _) rfl (by unfold rungE; rw [h2])]
  unfold rungP
  rw [h2]
  rfl
theorem RR.one (w : World) (b n c : Nat) (A : Option Addr) (l : List Nat) (hb : w.cell? ⟨b, 0, none⟩ = some (.slice A n c)) (hlt : b < w.heap.size) (hr : R8 w A n l) (hc : n ≤ c) (hn : A = none → c = 0) : RR w (some ⟨b, 0, none⟩) 1 (fun _ => A) (fun _ => c) [l] := by
  refine ⟨rfl, fun _ => ⟨b, 0, rfl, hlt, fun r l' hl => ?_⟩⟩
  match r with
  | 0 =>
    simp only [List.getElem?_cons_zero, Option.some.injEq] at hl
    subst hl
    exact ⟨by rw [hr.len]; exact hb, by rw [hr.len]; exact hr, by rw [hr.len]; exact hc, hn⟩
  | r + 1 => simp at hl
set_option maxHeartbeats 1000000 in
theorem awake9_any (w : World) : Calls Try.prog 7 #[] w (Gives (.bool true) w) := by
  have HP := Lib.hid plain_any
  have HE := Lib.hid (Erased_any geo2 37 raw2 (by omega))
  have HC := Lib.hid (fun A c PA PC w' h => Climb_any geo2 A 1 c PA PC [List.replicate 37 255] w' h (by omega))
  rw [climb_erased] at HC
  simp only [geo2, Gm.val] at HP HE HC
  go_enter Try.func7, Try.ntmps7
  go_wp2_with fail
  refine (HP.out _).mono ?_
  rintro _ w1 ⟨rfl, h1⟩
  have B1 := Lib.hid h1
  clear h1
  go_wp2_with fail
  refine (HP.out _).mono ?_
  rintro _ w2 ⟨rfl, h2⟩
  have B2 := Lib.hid (below_step B1.out h2)
  clear h2
  go_wp2_with fail
  refine (HE.out _).mono ?_
  intro _ w3 hM
  obtain ⟨A, c, rfl, R3, hc, D3⟩ := hM.at_ (n := 37) (by simp)
  have B3 := Lib.hid (below_step B2.out D3.out)
  have B4 := Lib.hid (below_step B3.out (below_new w3 (.cells #[.slice A 37 c] 27)))
  have R4 : Hid (RR (w3.alloc (.cells #[.slice A 37 c] 27)) (some ⟨w3.heap.size, 0, none⟩) 1 (fun _ => A) (fun _ => c) [List.replicate 37 255]) := Lib.hid (RR.one _ _ 37 c A _ (by simp) (by simp) (R3.out.alloc _) hc (R3.out.some_ (by omega)))
  clear hM D3
  go_wp2_with fail
  refine (HC.out _ _ _ _ _ R4.out).mono ?_
  rintro _ w5 ⟨hU, h5⟩
  obtain ⟨A5, c5, rfl, _⟩ := hU.at_ (n := 0) rfl
  have B5 := Lib.hid (below_step B4.out h5)
  have T5 := Lib.hid (CRow.new w5 #[.slice none 0 0, .int .i64 0, .int .i64 0, .int .i64 0, .int .i64 0, .int .i64 0] 31)
  have B6 := Lib.hid (below_setRow (below_step B5.out (below_new w5 (.cells #[.slice none 0 0, .int .i64 0, .int .i64 0, .int .i64 0, .int .i64 0, .int .i64 0] 31))) B5.out.size #[.slice A5 0 c5, .int .i64 0, .int .i64 0, .int .i64 0, .int .i64 0, .int .i64 2])
  have T6 := Lib.hid (T5.out.set #[.slice A5 0 c5, .int .i64 0, .int .i64 0, .int .i64 0, .int .i64 0, .int .i64 2])
  have z5 := T6.out.cell_at 5 _ rfl
  clear hU h5
  go_wp2_with (with_reducible refine (?_ : wpList _ _ _ ({ dst := _, op := Op.store 31 _ _, type := _, pos := _, after := _, guard := _ } :: _) _ _); refine wpList_store_at rfl 31 _ _ rfl 6 size_page _ w5.heap.size ?hx rfl _ T5.out.row ?hn ?ho ?h1 ?_; (case hx => simp [Act.eval]); (case hn => simp); (case ho => simp); (case h1 => simp [Value.oneCell']))
  go_ret
  exact ⟨rfl, B6.out⟩
/-- A page that is climbed to has 8224 bytes at most. -/
theorem climbL_len (g : Gm) (ls : List (List Nat)) (hb : ∀ l ∈ ls, ∀ x ∈ l, x < 256) : (climbL g ls).1.1.length ≤ 8224 := by
  rcases climbL_cases g ls with ⟨_, h⟩ | ⟨_, _, h⟩ | ⟨k, l, _, _, hl, _, _, h⟩
  · rw [h]; simp [noPage]
  · rw [h]; simp [noPage]
  · rw [h]
    exact decG_len g l (hb l (List.mem_of_getElem? hl))
end Go.Proofs.Ytgiihdeilkiphaa

/-
  The walk of the law LadderSame over the landed code, out of its callees' contracts: for whatever geometry, rungs and number it returns true, and nothing that was there has turned.
-/
namespace Go.Proofs.Ytgiihdeilkiphaa
open Go.RowKit
set_option maxRecDepth 100000

/-- Where the r-th of the rungs, the i-th read twice, comes from. -/
def twoSrc (i r : Nat) : Nat := if r ≤ i then r else r - 1
theorem twice_src {ls : List (List Nat)} {i : Nat} (h : i < ls.length) (r : Nat) : (twiceL ls i)[r]? = ls[twoSrc i r]? := by
  rw [twiceL_get h]
  unfold twoSrc
  split <;> rfl
theorem climbL_rung (g : Gm) (ls : List (List Nat)) : (climbL g ls).2.1 ≤ ls.length := by
  rcases climbL_cases g ls with ⟨_, h⟩ | ⟨_, _, h⟩ | ⟨k, l, _, _, hl, hk, _, h⟩
  · rw [h]; simp [noPage]
  · rw [h]; simp [noPage]
  · rw [h]; simp only; omega

set_option maxHeartbeats 8000000 in
theorem LadderSame_walk (g : Gm) (A : Option Addr) (n c : Nat) (PA : Nat → Option Addr) (PC : Nat → Nat) (ls : List (List Nat)) (kb : Nat) (w : World) (hr : RR w A n PA PC ls) (hn : n ≤ 9223372036854775807) (hkb : kb < 256) :
    Calls Try.prog 6 #[g.val, .slice A n c, .int .u8 (kb : Int)] w (Gives (.bool true) w) := by
  obtain ⟨i0, ti, tz0, tz1, tz2⟩ := info_parts info_sl24
  have HR := Lib.hid hr
  have HLL := Lib.hid hr.len
  have HFW := Lib.hid (fun w' h => few_any g A n c PA PC ls w' h hn)
  have HC := Lib.hid (fun w' h h2 => Climb_any g A n c PA PC ls w' h h2)
  have HC2 := Lib.hid (fun A n c PA PC l2 w' h h2 => Climb_any g A n c PA PC l2 w' h h2)
  have hvl := climbL_len g ls (fun l hl => hr.lt hl)
  have hrl := climbL_rung g ls
  have HTW := Lib.hid (fun i (h1 : i < ls.length) (h2 : (ls.length : Int) < g.r) => climb_twice (g := g) h1 h2)
  obtain ⟨⟨⟨vd, ⟨tk, ts, tq, te⟩, vs⟩, rung, er⟩, HX⟩ : ∃ z, Hid (climbL g ls = z) := ⟨_, rfl⟩
  rw [HX.out] at HC hvl HTW hrl
  simp only at hvl hrl
  obtain ⟨vn, HVN⟩ : ∃ vn, Hid (vd.length = vn) := ⟨_, rfl⟩
  rw [HVN.out] at hvl
  rw [HLL.out] at hrl
  generalize hcl : climbL g = cl at *
  clear hr hcl HX
  obtain ⟨p, b, s, gc, kk, r, q⟩ := g
  simp only [Gm.val] at HFW HC HC2 HTW ⊢
  have B0 := Lib.hid (below_new w (.cells #[.int .i64 p, .int .i64 b, .int .i64 s, .int .i64 gc, .int .i64 kk, .int .i64 r, .int .i64 q] 23))
  have Y0 := Lib.hid (GBox.new w ⟨p, b, s, gc, kk, r, q⟩ 23)
  go_enter Try.func6, Try.ntmps6
  go_wp2_with fail
  refine (awake9_any _).mono ?_
  rintro _ w1 ⟨rfl, h1⟩
  have B1 := Lib.hid (below_step B0.out h1)
  have Y1 := Lib.hid (Y0.out.below h1)
  clear h1 B0 Y0
  obtain ⟨_, g0, g1, g2, g3, g4, g5, g6⟩ := Y1.out
  simp only at g0 g1 g2 g3 g4 g5 g6
  go_wp2_with fail
  refine (HFW.out _ (HR.out.below B1.out)).mono ?_
  rintro _ w2 ⟨v, rfl, hv, h2⟩
  have B2 := Lib.hid (below_step B1.out h2)
  have Y2 := Lib.hid (Y1.out.below h2)
  clear h2 g0 g1 g2 g3 g4 g5 g6
  obtain ⟨_, g0, g1, g2, g3, g4, g5, g6⟩ := Y2.out
  simp only at g0 g1 g2 g3 g4 g5 g6
  cases v
  · go_wp2
    go_ret
    exact ⟨rfl, B2.out⟩
  · have h12 := hv rfl
    by_cases h0 : n = 0
    · subst h0
      go_wp2
      go_ret
      exact ⟨rfl, B2.out⟩
    · have hz : ((n : Int) == 0) = false := by simp; omega
      by_cases hge : r ≤ (n : Int)
      · have hd : decide (r ≤ (n : Int)) = true := decide_eq_true hge
        clear hge
        go_wp2
        go_ret
        exact ⟨rfl, B2.out⟩
      · have hd : decide (r ≤ (n : Int)) = false := decide_eq_false hge
        obtain ⟨i, hi⟩ : ∃ i, kb % n = i := ⟨_, rfl⟩
        have hin : i < n := by rw [← hi]; exact Nat.mod_lt _ (by omega)
        have hmod : (kb : Int) % (n : Int) = (i : Int) := by rw [← hi]; exact (Int.natCast_emod _ _).symm
        have hn0 : (n : Int) ≠ 0 := by omega
        have HTW2 := Lib.hid (HTW.out i (by rw [HLL.out]; exact hin) (by rw [HLL.out]; omega))
        have HLI := Lib.hid (show i < ls.length by rw [HLL.out]; exact hin)
        clear hge hi HTW HFW
        go_wp2
        rw [hmod]
        clear hmod hn0 hd hz g0 g1 g2 g3 g4 g5 g6
        -- the rungs, the i-th twice
        go_loopw [8, 42] (fun v ix wr => ∃ (j m : Nat), j ≤ n ∧ m ≤ 13 ∧ ix = .int .i64 (j : Int) ∧ Hid (m = if i < j then j + 1 else j) ∧ Hid (wr.ownsRow w2.heap.size 27 1 v m (SV (fun x => PA (twoSrc i x)) (fun x => PC (twoSrc i x)) (twiceL ls i) m)) ∧ Hid (Below w2.heap.size w2 wr))
          (fun _ ix _ => n - (intOf ix).toNat)
        case atStart => exact ⟨0, 0, Nat.zero_le _, by omega, rfl, rfl, World.ownsRow_nil _ _ _ _, Below.refl _ _⟩
        case round =>
          obtain ⟨j, m, hj, hm, rfl, HM, HO, HB⟩ := hrel
          by_cases hlt : j < n
          · obtain ⟨b1, o1, l, m1, rfl, hb1, HLk, HLm, hcl, HRk, hmc, _⟩ := ((HR.out.below B2.out).below HB.out).at_ hlt
            have hsrc : twoSrc i m = j := by
              have := HM.out
              unfold twoSrc
              split at this <;> split <;> omega
            have HS : Hid (SV (fun x => PA (twoSrc i x)) (fun x => PC (twoSrc i x)) (twiceL ls i) (m + 1) = SV (fun x => PA (twoSrc i x)) (fun x => PC (twoSrc i x)) (twiceL ls i) m ++ [.slice (PA j) m1 (PC j)]) := Lib.hid (by
              rw [SV_succ (l := l) m (by rw [twice_src HLI.out, hsrc]; exact HLk.out), hsrc, HLm.out])
            have HS2 : Hid (j = i → SV (fun x => PA (twoSrc i x)) (fun x => PC (twoSrc i x)) (twiceL ls i) (m + 1 + 1) = SV (fun x => PA (twoSrc i x)) (fun x => PC (twoSrc i x)) (twiceL ls i) (m + 1) ++ [.slice (PA j) m1 (PC j)]) := Lib.hid (by
              intro hji
              have hsrc2 : twoSrc i (m + 1) = j := by
                have := HM.out
                unfold twoSrc
                split at this <;> split <;> omega
              rw [SV_succ (l := l) (m + 1) (by rw [twice_src HLI.out, hsrc2]; exact HLk.out), hsrc2, HLm.out])
            generalize hsv : SV (fun x => PA (twoSrc i x)) (fun x => PC (twoSrc i x)) (twiceL ls i) = sv at *
            generalize PA j = A1 at *
            generalize PC j = C1 at *
            clear hsrc
            go_wp2_with (at_builtin; refine wpList_append_own _ rfl (.tmp 47) (.tmp 49) _ rfl w2.heap.size 27 i0 _ 1 24 Try.underlying24 ti tz0 tz1 tz2 rfl (by decide) _ _ _ rfl (HO.out.alloc _) ⟨wr.heap.size, 0, none⟩ 1 1 [_] rfl rfl (one_new _ _ _) ?c1 ?c2 ?c3 ?c4 ?_)
            case c1 => first | (intro u hu; simp at hu; subst hu; rfl) | rfl
            case c2 => unfold maxLen; omega
            case c3 => omega
            case c4 => have := HB.out.size; simp; omega
            intro v' w3 hown hg _
            have HB3 := Lib.hid ((HB.out.alloc HB.out.size _).grown hg (by have := HB.out.size; simp; omega) (fun j hj => (HO.out.lt j hj).1))
            have HO3 := Lib.hid (show w3.ownsRow w2.heap.size 27 1 v' (m + 1) (sv (m + 1)) by
              rw [HS.out]
              exact hown)
            clear hown hg hcl
            by_cases hji : j = i
            · have hb1' : ((j : Int) == (i : Int)) = true := by simp; omega
              go_wp2_with (at_builtin; refine wpList_append_own _ rfl (.tmp 54) (.tmp 56) _ rfl w2.heap.size 27 i0 _ 1 24 Try.underlying24 ti tz0 tz1 tz2 rfl (by decide) _ _ _ rfl (HO3.out.alloc _) ⟨w3.heap.size, 0, none⟩ 1 1 [_] rfl rfl (one_new _ _ _) ?c1 ?c2 ?c3 ?c4 ?_)
              case c1 => first | (intro u hu; simp at hu; subst hu; rfl) | rfl
              case c2 => unfold maxLen; omega
              case c3 => omega
              case c4 => have := HB3.out.size; simp; omega
              intro v'' w4 hown hg _
              have HB4 := Lib.hid ((HB3.out.alloc HB3.out.size _).grown hg (by have := HB3.out.size; simp; omega) (fun j hj => (HO3.out.lt j hj).1))
              have HO4 := Lib.hid (show w4.ownsRow w2.heap.size 27 1 v'' (m + 1 + 1) (sv (m + 1 + 1)) by
                rw [HS2.out hji]
                exact hown)
              have HM4 := Lib.hid (show m + 1 + 1 = if i < j + 1 then j + 1 + 1 else j + 1 by have := HM.out; split at this <;> split <;> omega)
              have hm4 : m + 1 + 1 ≤ 13 := by have := HM.out; split at this <;> omega
              clear hown hg
              go_wp2
              go_roundw
              case rel => exact ⟨j + 1, m + 1 + 1, by omega, hm4, by go_num, HM4, HO4, HB4⟩
              case measure => simp [intOf]; omega
            · have hb1' : ((j : Int) == (i : Int)) = false := by simp; omega
              have HM4 := Lib.hid (show m + 1 = if i < j + 1 then j + 1 + 1 else j + 1 by have := HM.out; split at this <;> split <;> omega)
              have hm4 : m + 1 ≤ 13 := by have := HM.out; split at this <;> omega
              go_wp2
              go_roundw
              case rel => exact ⟨j + 1, m + 1, by omega, hm4, by go_num, HM4, HO3, HB3⟩
              case measure => simp [intOf]; omega
          · obtain rfl : j = n := by omega
            have hm1 : m = j + 1 := by have := HM.out; rw [if_pos hin] at this; exact this
            subst hm1
            obtain ⟨A7, c7, rfl⟩ := own_form HO.out
            have B3 := Lib.hid (below_step B2.out HB.out)
            have Y3 := Lib.hid (Y2.out.below HB.out)
            have RT := Lib.hid (show RR wr A7 (j + 1) (fun x => PA (twoSrc i x)) (fun x => PC (twoSrc i x)) (twiceL ls i) from
              RR.of_row (Rd.own HO.out) (by rw [twiceL_length HLI.out, HLL.out]) (fun x l hl => (HR.out.below B3.out).row (by rw [← twice_src HLI.out]; exact hl)))
            have hCl := fun w' h => HC2.out A7 (j + 1) c7 (fun x => PA (twoSrc i x)) (fun x => PC (twoSrc i x)) (twiceL ls i) w' h (by omega)
            rw [HTW2.out] at hCl
            have HC3 := Lib.hid hCl
            clear hCl HO HC2 HTW2 HM HB B2 Y2
            obtain ⟨_, g0, g1, g2, g3, g4, g5, g6⟩ := Y3.out
            simp only at g0 g1 g2 g3 g4 g5 g6
            go_wp2_with fail
            refine (HC.out _ (HR.out.below B3.out) (by omega)).mono ?_
            rintro _ w4 ⟨hU, h4⟩
            obtain ⟨A3, c3, rfl, R4⟩ := hU.at_ HVN.out
            have B4 := Lib.hid (below_step B3.out h4)
            have Y4 := Lib.hid (Y3.out.below h4)
            have RT4 := Lib.hid (RT.out.below h4)
            clear hU h4 g0 g1 g2 g3 g4 g5 g6
            have T4 := Lib.hid (CRow.new w4 #[.slice none 0 0, .int .i64 0, .int .i64 0, .int .i64 0, .int .i64 0, .int .i64 0] 31)
            have D5 := Lib.hid (below_setRow (below_new w4 (.cells #[.slice none 0 0, .int .i64 0, .int .i64 0, .int .i64 0, .int .i64 0, .int .i64 0] 31)) (Nat.le_refl _) #[.slice A3 vn c3, .int .i64 tk, .int .i64 ts, .int .i64 tq, .int .i64 te, .int .i64 (vs : Int)])
            have T5 := Lib.hid (T4.out.set #[.slice A3 vn c3, .int .i64 tk, .int .i64 ts, .int .i64 tq, .int .i64 te, .int .i64 (vs : Int)])
            have B5 := Lib.hid (below_step B4.out D5.out)
            have Y5 := Lib.hid (Y4.out.below D5.out)
            have R5 := Lib.hid (R4.out.below D5.out)
            have RT5 := Lib.hid (RT4.out.below D5.out)
            obtain ⟨_, g0, g1, g2, g3, g4, g5, g6⟩ := Y5.out
            simp only at g0 g1 g2 g3 g4 g5 g6
            go_wp2_with (with_reducible refine (?_ : wpList _ _ _ ({ dst := _, op := Op.store 31 _ _, type := _, pos := _, after := _, guard := _ } :: _) _ _); refine wpList_store_at rfl 31 _ _ rfl 6 size_page _ w4.heap.size ?hx rfl _ T4.out.row ?hn ?ho ?h1 ?_; (case hx => simp [Act.eval]); (case hn => simp); (case ho => simp); (case h1 => simp [Value.oneCell']))
            generalize (w4.alloc (.cells #[.slice none 0 0, .int .i64 0, .int .i64 0, .int .i64 0, .int .i64 0, .int .i64 0] 31)).setRow w4.heap.size #[.slice A3 vn c3, .int .i64 tk, .int .i64 ts, .int .i64 tq, .int .i64 te, .int .i64 (vs : Int)] = w5 at *
            refine (HC3.out _ RT5.out).mono ?_
            rintro _ w6 ⟨hU, h6⟩
            obtain ⟨A5, c5, rfl, R6b⟩ := hU.at_ HVN.out
            have B6 := Lib.hid (below_step B5.out h6)
            have T6a := Lib.hid (T5.out.below h6)
            have R6c := Lib.hid (R5.out.below h6)
            clear hU h6 D5 g0 g1 g2 g3 g4 g5 g6
            have T6 := Lib.hid (CRow.new w6 #[.slice none 0 0, .int .i64 0, .int .i64 0, .int .i64 0, .int .i64 0, .int .i64 0] 31)
            have D7 := Lib.hid (below_setRow (below_new w6 (.cells #[.slice none 0 0, .int .i64 0, .int .i64 0, .int .i64 0, .int .i64 0, .int .i64 0] 31)) (Nat.le_refl _) #[.slice A5 vn c5, .int .i64 tk, .int .i64 ts, .int .i64 tq, .int .i64 te, .int .i64 (vs : Int)])
            have T7 := Lib.hid (T6.out.set #[.slice A5 vn c5, .int .i64 tk, .int .i64 ts, .int .i64 tq, .int .i64 te, .int .i64 (vs : Int)])
            have T7a := Lib.hid (T6a.out.below D7.out)
            have B7 := Lib.hid (below_step B6.out D7.out)
            have R6 := Lib.hid (R6b.out.below D7.out)
            have R6a := Lib.hid (R6c.out.below D7.out)
            have x0 := T7.out.cell_at 0 _ rfl
            have y0 := T7a.out.cell_at 0 _ rfl
            have x1 := T7.out.cell_at 1 _ rfl
            have y1 := T7a.out.cell_at 1 _ rfl
            have x2 := T7.out.cell_at 2 _ rfl
            have y2 := T7a.out.cell_at 2 _ rfl
            have x3 := T7.out.cell_at 3 _ rfl
            have y3 := T7a.out.cell_at 3 _ rfl
            have x4 := T7.out.cell_at 4 _ rfl
            have y4 := T7a.out.cell_at 4 _ rfl
            have x5 := T7.out.cell_at 5 _ rfl
            have y5 := T7a.out.cell_at 5 _ rfl
            by_cases hri : i < rung
            · have hd1 : decide (i < rung) = true := decide_eq_true hri
              simp only [if_pos hri]
              go_wp2_with (with_reducible refine (?_ : wpList _ _ _ ({ dst := _, op := Op.store 31 _ _, type := _, pos := _, after := _, guard := _ } :: _) _ _); refine wpList_store_at rfl 31 _ _ rfl 6 size_page _ w6.heap.size ?hx rfl _ T6.out.row ?hn ?ho ?h1 ?_; (case hx => simp [Act.eval]); (case hn => simp); (case ho => simp); (case h1 => simp [Value.oneCell']))
              generalize (w6.alloc (.cells #[.slice none 0 0, .int .i64 0, .int .i64 0, .int .i64 0, .int .i64 0, .int .i64 0] 31)).setRow w6.heap.size #[.slice A5 vn c5, .int .i64 tk, .int .i64 ts, .int .i64 tq, .int .i64 te, .int .i64 (vs : Int)] = w7 at *
              by_cases he : er = 0
              · subst he
                go_wp2_with fail
                refine (SameP_yes A3 A5 vn c3 c5 vd tk ts tq te vs _ R6a.out R6.out (by omega)).mono ?_
                rintro _ w8 ⟨rfl, h8⟩
                have B8 := Lib.hid (below_step B7.out h8)
                clear h8 x0 y0 x1 y1 x2 y2 x3 y3 x4 y4 x5 y5
                go_wp2
                go_ret
                exact ⟨by simp, B8.out⟩
              · have heb : (er != 0) = true := by simpa using he
                go_wp2_with fail
                refine (SameP_yes A3 A5 vn c3 c5 vd tk ts tq te vs _ R6a.out R6.out (by omega)).mono ?_
                rintro _ w8 ⟨rfl, h8⟩
                have B8 := Lib.hid (below_step B7.out h8)
                clear h8 x0 y0 x1 y1 x2 y2 x3 y3 x4 y4 x5 y5
                go_wp2
                go_ret
                exact ⟨by simp, B8.out⟩
            · have hd1 : decide (i < rung) = false := decide_eq_false hri
              simp only [if_neg hri]
              go_wp2_with (with_reducible refine (?_ : wpList _ _ _ ({ dst := _, op := Op.store 31 _ _, type := _, pos := _, after := _, guard := _ } :: _) _ _); refine wpList_store_at rfl 31 _ _ rfl 6 size_page _ w6.heap.size ?hx rfl _ T6.out.row ?hn ?ho ?h1 ?_; (case hx => simp [Act.eval]); (case hn => simp); (case ho => simp); (case h1 => simp [Value.oneCell']))
              generalize (w6.alloc (.cells #[.slice none 0 0, .int .i64 0, .int .i64 0, .int .i64 0, .int .i64 0, .int .i64 0] 31)).setRow w6.heap.size #[.slice A5 vn c5, .int .i64 tk, .int .i64 ts, .int .i64 tq, .int .i64 te, .int .i64 (vs : Int)] = w7 at *
              by_cases he : er = 0
              · subst he
                go_wp2_with fail
                refine (SameP_yes A3 A5 vn c3 c5 vd tk ts tq te vs _ R6a.out R6.out (by omega)).mono ?_
                rintro _ w8 ⟨rfl, h8⟩
                have B8 := Lib.hid (below_step B7.out h8)
                clear h8 x0 y0 x1 y1 x2 y2 x3 y3 x4 y4 x5 y5
                go_wp2
                go_ret
                exact ⟨by simp, B8.out⟩
              · have heb : (er != 0) = true := by simpa using he
                go_wp2_with fail
                refine (SameP_yes A3 A5 vn c3 c5 vd tk ts tq te vs _ R6a.out R6.out (by omega)).mono ?_
                rintro _ w8 ⟨rfl, h8⟩
                have B8 := Lib.hid (below_step B7.out h8)
                clear h8 x0 y0 x1 y1 x2 y2 x3 y3 x4 y4 x5 y5
                go_wp2
                go_ret
                exact ⟨by simp, B8.out⟩
end Go.Proofs.Ytgiihdeilkiphaa
