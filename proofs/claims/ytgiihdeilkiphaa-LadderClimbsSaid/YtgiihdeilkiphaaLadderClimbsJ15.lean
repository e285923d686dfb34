/-
  Contracts of the laws' Same at two pages of the same contents, and of awake, over the landed code.
-/
import Derived.Test.YtgiihdeilkiphaaLadderClimbsJ14
import Derived.Test.YtgiihdeilkiphaaLadderClimbsJPageH
import Derived.Test.YtgiihdeilkiphaaLadderClimbsJ3
namespace Go.Proofs.Ytgiihdeilkiphaa
open Go.RowKit
set_option maxRecDepth 100000

set_option maxHeartbeats 1000000 in
theorem SameP_yes (A B : Option Addr) (n c d : Nat) (l : List Nat) (tk ts tq te st : Int) (w : World) (ha : R8 w A n l) (hb : R8 w B n l) (hn : n ≤ 1099511627776) :
    Calls Try.prog 11 #[.agg #[.slice A n c, .int .i64 tk, .int .i64 ts, .int .i64 tq, .int .i64 te, .int .i64 st], .agg #[.slice B n d, .int .i64 tk, .int .i64 ts, .int .i64 tq, .int .i64 te, .int .i64 st]] w (Gives (.bool true) w) := by
  have BB := Lib.hid (below_step (below_new w (.cells #[.slice A n c, .int .i64 tk, .int .i64 ts, .int .i64 tq, .int .i64 te, .int .i64 st] 31)) (below_new _ (.cells #[.slice B n d, .int .i64 tk, .int .i64 ts, .int .i64 tq, .int .i64 te, .int .i64 st] 31)))
  have HA := Lib.hid (ha.below BB.out)
  have HB := Lib.hid (hb.below BB.out)
  clear ha hb
  go_enter Try.func11, Try.ntmps11
  go_wp2_with fail
  refine (Same_any A B n c n d l l _ HA.out HB.out hn hn).mono ?_
  rintro _ w1 ⟨rfl, n1, rfl⟩
  rw [decide_eq_true rfl]
  go_wp2
  go_ret
  exact ⟨rfl, below_drewN BB.out n1⟩

theorem raw2 : geo2.raw = ((37 : Nat) : Int) := by decide +kernel
theorem climb_erased : climbL geo2 [List.replicate 37 255] = (([], ⟨0, 0, 0, 0⟩, 2), 0, 0) := by
  have h1 := dec_erased 1 4 37 rfl [] (by simp)
  have h2 : decG geo2 (List.replicate 37 255) = ([], Tg.zero, 2, 0) := by
    unfold decG
    rw [List.length_replicate, okG_mk geo2_ok 1 4 rfl rfl rfl, if_pos rfl]
    exact h1
  have ho : climbOk geo2 [List.replicate 37 255] = true := climbOk_iff.2 ⟨geo2_ok, by simp, by decide, fun l hl => by
    rw [List.mem_singleton.1 hl, List.length_replicate]
    exact raw2.symm⟩
  rw [climbL_at (k := 0) (l := List.replicate 37 255) ho (NoneTo.zero _ _) rfl (by unfold rungE; rw [h2])]
  unfold rungP
  rw [h2]
  rfl
theorem RR.one (w : World) (b n c : Nat) (A : Option Addr) (l : List Nat) (hb : w.cell? ⟨b, 0, none⟩ = some (.slice A n c)) (hlt : b < w.heap.size) (hr : R8 w A n l) (hc : n ≤ c) (hn : A = none → c = 0) : RR w (some ⟨b, 0, none⟩) 1 (fun _ => A) (fun _ => c) [l] := by
  refine ⟨rfl, fun _ => ⟨b, 0, rfl, hlt, fun r l' hl => ?_⟩⟩
  match r with
  | 0 =>
    simp only [List.getElem?_cons_zero, Option.some.injEq] at hl
    subst hl
    exact ⟨by rw [hr.len]; exact hb, by rw [hr.len]; exact hr, by rw [hr.len]; exact hc, hn⟩
  | r + 1 => simp at hl
set_option maxHeartbeats 1000000 in
theorem awake9_any (w : World) : Calls Try.prog 7 #[] w (Gives (.bool true) w) := by
  have HP := Lib.hid plain_any
  have HE := Lib.hid (Erased_any geo2 37 raw2 (by omega))
  have HC := Lib.hid (fun A c PA PC w' h => Climb_any geo2 A 1 c PA PC [List.replicate 37 255] w' h (by omega))
  rw [climb_erased] at HC
  simp only [geo2, Gm.val] at HP HE HC
  go_enter Try.func7, Try.ntmps7
  go_wp2_with fail
  refine (HP.out _).mono ?_
  rintro _ w1 ⟨rfl, h1⟩
  have B1 := Lib.hid h1
  clear h1
  go_wp2_with fail
  refine (HP.out _).mono ?_
  rintro _ w2 ⟨rfl, h2⟩
  have B2 := Lib.hid (below_step B1.out h2)
  clear h2
  go_wp2_with fail
  refine (HE.out _).mono ?_
  intro _ w3 hM
  obtain ⟨A, c, rfl, R3, hc, D3⟩ := hM.at_ (n := 37) (by simp)
  have B3 := Lib.hid (below_step B2.out D3.out)
  have B4 := Lib.hid (below_step B3.out (below_new w3 (.cells #[.slice A 37 c] 27)))
  have R4 : Hid (RR (w3.alloc (.cells #[.slice A 37 c] 27)) (some ⟨w3.heap.size, 0, none⟩) 1 (fun _ => A) (fun _ => c) [List.replicate 37 255]) := Lib.hid (RR.one _ _ 37 c A _ (by simp) (by simp) (R3.out.alloc _) hc (R3.out.some_ (by omega)))
  clear hM D3
  go_wp2_with fail
  refine (HC.out _ _ _ _ _ R4.out).mono ?_
  rintro _ w5 ⟨hU, h5⟩
  obtain ⟨A5, c5, rfl, _⟩ := hU.at_ (n := 0) rfl
  have B5 := Lib.hid (below_step B4.out h5)
  have T5 := Lib.hid (CRow.new w5 #[.slice none 0 0, .int .i64 0, .int .i64 0, .int .i64 0, .int .i64 0, .int .i64 0] 31)
  have B6 := Lib.hid (below_setRow (below_step B5.out (below_new w5 (.cells #[.slice none 0 0, .int .i64 0, .int .i64 0, .int .i64 0, .int .i64 0, .int .i64 0] 31))) B5.out.size #[.slice A5 0 c5, .int .i64 0, .int .i64 0, .int .i64 0, .int .i64 0, .int .i64 2])
  have T6 := Lib.hid (T5.out.set #[.slice A5 0 c5, .int .i64 0, .int .i64 0, .int .i64 0, .int .i64 0, .int .i64 2])
  have z5 := T6.out.cell_at 5 _ rfl
  clear hU h5
  go_wp2_with (with_reducible refine (?_ : wpList _ _ _ ({ dst := _, op := Op.store 31 _ _, type := _, pos := _, after := _, guard := _ } :: _) _ _); refine wpList_store_at rfl 31 _ _ rfl 6 size_page _ w5.heap.size ?hx rfl _ T5.out.row ?hn ?ho ?h1 ?_; (case hx => simp [Act.eval]); (case hn => simp); (case ho => simp); (case h1 => simp [Value.oneCell']))
  go_ret
  exact ⟨rfl, B6.out⟩
/-- A page that is climbed to has 8224 bytes at most. -/
theorem climbL_len (g : Gm) (ls : List (List Nat)) (hb : ∀ l ∈ ls, ∀ x ∈ l, x < 256) : (climbL g ls).1.1.length ≤ 8224 := by
  rcases climbL_cases g ls with ⟨_, h⟩ | ⟨_, _, h⟩ | ⟨k, l, _, _, hl, _, _, h⟩
  · rw [h]; simp [noPage]
  · rw [h]; simp [noPage]
  · rw [h]
    exact decG_len g l (hb l (List.mem_of_getElem? hl))
end Go.Proofs.Ytgiihdeilkiphaa

/-
  The walk of the law LadderClimbs over the landed code, out of its callees' contracts: for whatever geometry and rungs it returns true, and nothing that was there has turned.
-/
namespace Go.Proofs.Ytgiihdeilkiphaa
open Go.RowKit
set_option maxRecDepth 100000

set_option maxHeartbeats 4000000 in
theorem LadderClimbs_walk (g : Gm) (A : Option Addr) (n c : Nat) (PA : Nat → Option Addr) (PC : Nat → Nat) (ls : List (List Nat)) (w : World) (hr : RR w A n PA PC ls) (hn : n ≤ 9223372036854775807) :
    Calls Try.prog 3 #[g.val, .slice A n c] w (Gives (.bool true) w) := by
  have HR := Lib.hid hr
  have HFW := Lib.hid (fun w' h => few_any g A n c PA PC ls w' h hn)
  have HC := Lib.hid (fun w' h h2 => Climb_any g A n c PA PC ls w' h h2)
  have HD := Lib.hid (fun w' h h2 => RefClimb_any g A n c PA PC ls w' h h2)
  have hvl := climbL_len g ls (fun l hl => hr.lt hl)
  obtain ⟨⟨⟨vd, ⟨tk, ts, tq, te⟩, vs⟩, rung, er⟩, HX⟩ : ∃ z, Hid (climbL g ls = z) := ⟨_, rfl⟩
  rw [HX.out] at HC HD hvl
  simp only at hvl
  obtain ⟨vn, HVN⟩ : ∃ vn, Hid (vd.length = vn) := ⟨_, rfl⟩
  rw [HVN.out] at hvl
  clear hr
  obtain ⟨p, b, s, gc, kk, r, q⟩ := g
  simp only [Gm.val] at HFW HC HD ⊢
  have B0 := Lib.hid (below_new w (.cells #[.int .i64 p, .int .i64 b, .int .i64 s, .int .i64 gc, .int .i64 kk, .int .i64 r, .int .i64 q] 23))
  have Y0 := Lib.hid (GBox.new w ⟨p, b, s, gc, kk, r, q⟩ 23)
  go_enter Try.func3, Try.ntmps3
  go_wp2_with fail
  refine (awake9_any _).mono ?_
  rintro _ w1 ⟨rfl, h1⟩
  have B1 := Lib.hid (below_step B0.out h1)
  have Y1 := Lib.hid (Y0.out.below h1)
  clear h1 B0 Y0
  obtain ⟨_, g0, g1, g2, g3, g4, g5, g6⟩ := Y1.out
  simp only at g0 g1 g2 g3 g4 g5 g6
  go_wp2_with fail
  refine (HFW.out _ (HR.out.below B1.out)).mono ?_
  rintro _ w2 ⟨v, rfl, hv, h2⟩
  have B2 := Lib.hid (below_step B1.out h2)
  have Y2 := Lib.hid (Y1.out.below h2)
  clear h2 g0 g1 g2 g3 g4 g5 g6
  cases v
  · go_wp2
    go_ret
    exact ⟨rfl, B2.out⟩
  · have h12 := hv rfl
    obtain ⟨_, g0, g1, g2, g3, g4, g5, g6⟩ := Y2.out
    simp only at g0 g1 g2 g3 g4 g5 g6
    go_wp2_with fail
    refine (HC.out _ (HR.out.below B2.out) (by omega)).mono ?_
    rintro _ w3 ⟨hU, h3⟩
    obtain ⟨A3, c3, rfl, R3⟩ := hU.at_ HVN.out
    have B3 := Lib.hid (below_step B2.out h3)
    have Y3 := Lib.hid (Y2.out.below h3)
    clear hU h3 g0 g1 g2 g3 g4 g5 g6
    have T3 := Lib.hid (CRow.new w3 #[.slice none 0 0, .int .i64 0, .int .i64 0, .int .i64 0, .int .i64 0, .int .i64 0] 31)
    have D4 := Lib.hid (below_setRow (below_new w3 (.cells #[.slice none 0 0, .int .i64 0, .int .i64 0, .int .i64 0, .int .i64 0, .int .i64 0] 31)) (Nat.le_refl _) #[.slice A3 vn c3, .int .i64 tk, .int .i64 ts, .int .i64 tq, .int .i64 te, .int .i64 (vs : Int)])
    have T4 := Lib.hid (T3.out.set #[.slice A3 vn c3, .int .i64 tk, .int .i64 ts, .int .i64 tq, .int .i64 te, .int .i64 (vs : Int)])
    have B4 := Lib.hid (below_step B3.out D4.out)
    have Y4 := Lib.hid (Y3.out.below D4.out)
    have R4 := Lib.hid (R3.out.below D4.out)
    obtain ⟨_, g0, g1, g2, g3, g4, g5, g6⟩ := Y4.out
    simp only at g0 g1 g2 g3 g4 g5 g6
    go_wp2_with (with_reducible refine (?_ : wpList _ _ _ ({ dst := _, op := Op.store 31 _ _, type := _, pos := _, after := _, guard := _ } :: _) _ _); refine wpList_store_at rfl 31 _ _ rfl 6 size_page _ w3.heap.size ?hx rfl _ T3.out.row ?hn ?ho ?h1 ?_; (case hx => simp [Act.eval]); (case hn => simp); (case ho => simp); (case h1 => simp [Value.oneCell']))
    generalize (w3.alloc (.cells #[.slice none 0 0, .int .i64 0, .int .i64 0, .int .i64 0, .int .i64 0, .int .i64 0] 31)).setRow w3.heap.size #[.slice A3 vn c3, .int .i64 tk, .int .i64 ts, .int .i64 tq, .int .i64 te, .int .i64 (vs : Int)] = w4 at *
    refine (HD.out _ (HR.out.below B4.out) (by omega)).mono ?_
    rintro _ w5 ⟨hU, h5⟩
    obtain ⟨A5, c5, rfl, R5⟩ := hU.at_ HVN.out
    have B5 := Lib.hid (below_step B4.out h5)
    have T5a := Lib.hid (T4.out.below h5)
    have R5a := Lib.hid (R4.out.below h5)
    clear hU h5 D4 g0 g1 g2 g3 g4 g5 g6
    have T5 := Lib.hid (CRow.new w5 #[.slice none 0 0, .int .i64 0, .int .i64 0, .int .i64 0, .int .i64 0, .int .i64 0] 31)
    have D6 := Lib.hid (below_setRow (below_new w5 (.cells #[.slice none 0 0, .int .i64 0, .int .i64 0, .int .i64 0, .int .i64 0, .int .i64 0] 31)) (Nat.le_refl _) #[.slice A5 vn c5, .int .i64 tk, .int .i64 ts, .int .i64 tq, .int .i64 te, .int .i64 (vs : Int)])
    have T6 := Lib.hid (T5.out.set #[.slice A5 vn c5, .int .i64 tk, .int .i64 ts, .int .i64 tq, .int .i64 te, .int .i64 (vs : Int)])
    have T6a := Lib.hid (T5a.out.below D6.out)
    have B6 := Lib.hid (below_step B5.out D6.out)
    have R6 := Lib.hid (R5.out.below D6.out)
    have R6a := Lib.hid (R5a.out.below D6.out)
    have x0 := T6.out.cell_at 0 _ rfl
    have y0 := T6a.out.cell_at 0 _ rfl
    have x1 := T6.out.cell_at 1 _ rfl
    have y1 := T6a.out.cell_at 1 _ rfl
    have x2 := T6.out.cell_at 2 _ rfl
    have y2 := T6a.out.cell_at 2 _ rfl
    have x3 := T6.out.cell_at 3 _ rfl
    have y3 := T6a.out.cell_at 3 _ rfl
    have x4 := T6.out.cell_at 4 _ rfl
    have y4 := T6a.out.cell_at 4 _ rfl
    have x5 := T6.out.cell_at 5 _ rfl
    have y5 := T6a.out.cell_at 5 _ rfl
    go_wp2_with (with_reducible refine (?_ : wpList _ _ _ ({ dst := _, op := Op.store 31 _ _, type := _, pos := _, after := _, guard := _ } :: _) _ _); refine wpList_store_at rfl 31 _ _ rfl 6 size_page _ w5.heap.size ?hx rfl _ T5.out.row ?hn ?ho ?h1 ?_; (case hx => simp [Act.eval]); (case hn => simp); (case ho => simp); (case h1 => simp [Value.oneCell']))
    refine (SameP_yes A3 A5 vn c3 c5 vd tk ts tq te vs _ R6a.out R6.out (by omega)).mono ?_
    rintro _ w7 ⟨rfl, h7⟩
    have B7 := Lib.hid (below_step B6.out h7)
    clear h7 x0 y0 x1 y1 x2 y2 x3 y3 x4 y4 x5 y5
    go_wp2
    go_ret
    exact ⟨by simp, B7.out⟩
end Go.Proofs.Ytgiihdeilkiphaa
