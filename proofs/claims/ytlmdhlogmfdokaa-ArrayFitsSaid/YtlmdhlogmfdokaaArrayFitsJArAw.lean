/-
  Contracts of stage 13's plain, Small, awake, over the landed code.
-/
import Derived.Laws.ResultCell
import Derived.Test.YtlmdhlogmfdokaaArrayFitsJ9
import Derived.Test.YtlmdhlogmfdokaaArrayFitsJ6
import Derived.Test.YtlmdhlogmfdokaaArrayFitsJ11
namespace Go.Proofs.Ytlmdhlogmfdokaa
open Go.RowKit
set_option maxRecDepth 100000

theorem size_geom : (Try.prog.info? 23).map (·.size) = some 7 := by kernel_rfl
def geo2 : Gm := ⟨1, 2, 4, 1, 4, 1, 1⟩
theorem geo2_ok : geo2.ok = true := by decide +kernel
set_option maxHeartbeats 400000 in
theorem plain_any (w : World) : Calls Try.prog 28 #[] w (Gives geo2.val w) := by
  go_enter Try.func28, Try.ntmps28
  have T0 := Lib.hid (CRow.new w #[.int .i64 0, .int .i64 0, .int .i64 0, .int .i64 0, .int .i64 0, .int .i64 0, .int .i64 0] 23)
  have B0 := Lib.hid (below_new w (.cells #[.int .i64 0, .int .i64 0, .int .i64 0, .int .i64 0, .int .i64 0, .int .i64 0, .int .i64 0] 23))
  go_wp2_with (with_reducible refine (?_ : wpList _ _ _ ({ dst := _, op := Op.store 23 _ _, type := _, pos := _, after := _, guard := _ } :: _) _ _); refine wpList_store_at rfl 23 _ _ rfl 7 size_geom _ w.heap.size ?hx rfl _ T0.out.row ?hn ?ho ?h1 ?_; (case hx => simp [Act.eval]); (case hn => simp); (case ho => simp); (case h1 => simp [Value.oneCell']))
  have B9 := Lib.hid (below_setRow B0.out (Nat.le_refl _) #[.int .i64 1, .int .i64 2, .int .i64 4, .int .i64 1, .int .i64 4, .int .i64 1, .int .i64 1])
  have T9 := Lib.hid (T0.out.set #[.int .i64 1, .int .i64 2, .int .i64 4, .int .i64 1, .int .i64 4, .int .i64 1, .int .i64 1])
  go_wp2
  refine bodyPost_ret (results_cell_row rfl _ _ w.heap.size 23 _ (0, 0) _ rfl T9.out.row Try.underlying23 rfl size_geom) rfl ?_
  exact ⟨rfl, B9.out⟩

/-- Small enough for a play. -/
def small13 (g : Gm) : Prop := smallG g ∧ g.b ≤ 16 ∧ g.s ≤ 12
set_option maxHeartbeats 1000000 in
theorem Small13_any (g : Gm) (w : World) : ∃ v, (v = true ↔ small13 g) ∧ Calls Try.prog 7 #[g.val] w (Gives (.bool v) w) := by
  have Y0 := Lib.hid (GBox.new w g 23)
  have B0 := Lib.hid (below_new w (.cells #[.int .i64 g.p, .int .i64 g.b, .int .i64 g.s, .int .i64 g.c, .int .i64 g.k, .int .i64 g.r, .int .i64 g.q] 23))
  by_cases hs : smallG g
  · have HS := Lib.hid (fun w' => Small_yes g hs w')
    unfold Gm.val at HS ⊢
    by_cases h1 : g.b ≤ 16
    · have d1 : decide (g.b ≤ 16) = true := decide_eq_true h1
      by_cases h2 : g.s ≤ 12
      · have d2 : decide (g.s ≤ 12) = true := decide_eq_true h2
        refine ⟨true, ⟨fun _ => ⟨hs, h1, h2⟩, fun _ => rfl⟩, ?_⟩
        clear hs
        go_enter Try.func7, Try.ntmps7
        obtain ⟨_, g0, g1, g2, g3, g4, g5, g6⟩ := Y0.out
        go_wp2_with fail
        refine (HS.out _).mono ?_
        rintro _ w1 ⟨rfl, h3⟩
        have B1 := Lib.hid (below_step B0.out h3)
        clear g0 g1 g2 g3 g4 g5 g6
        obtain ⟨_, g0, g1, g2, g3, g4, g5, g6⟩ := Y0.out.below h3
        clear h3
        go_wp2
        go_ret
        exact ⟨rfl, B1.out⟩
      · have d2 : decide (g.s ≤ 12) = false := decide_eq_false h2
        refine ⟨false, ⟨(by intro h; cases h), fun h => absurd h.2.2 h2⟩, ?_⟩
        clear hs
        go_enter Try.func7, Try.ntmps7
        obtain ⟨_, g0, g1, g2, g3, g4, g5, g6⟩ := Y0.out
        go_wp2_with fail
        refine (HS.out _).mono ?_
        rintro _ w1 ⟨rfl, h3⟩
        have B1 := Lib.hid (below_step B0.out h3)
        clear g0 g1 g2 g3 g4 g5 g6
        obtain ⟨_, g0, g1, g2, g3, g4, g5, g6⟩ := Y0.out.below h3
        clear h3
        go_wp2
        go_ret
        exact ⟨rfl, B1.out⟩
    · have d1 : decide (g.b ≤ 16) = false := decide_eq_false h1
      refine ⟨false, ⟨(by intro h; cases h), fun h => absurd h.2.1 h1⟩, ?_⟩
      clear hs
      go_enter Try.func7, Try.ntmps7
      obtain ⟨_, g0, g1, g2, g3, g4, g5, g6⟩ := Y0.out
      go_wp2_with fail
      refine (HS.out _).mono ?_
      rintro _ w1 ⟨rfl, h3⟩
      have B1 := Lib.hid (below_step B0.out h3)
      clear g0 g1 g2 g3 g4 g5 g6
      obtain ⟨_, g0, g1, g2, g3, g4, g5, g6⟩ := Y0.out.below h3
      clear h3
      go_wp2
      go_ret
      exact ⟨rfl, B1.out⟩
  · have HS := Lib.hid (fun w' => Small_no g hs w')
    unfold Gm.val at HS ⊢
    refine ⟨false, ⟨(by intro h; cases h), fun h => absurd h.1 hs⟩, ?_⟩
    clear hs
    go_enter Try.func7, Try.ntmps7
    obtain ⟨_, g0, g1, g2, g3, g4, g5, g6⟩ := Y0.out
    go_wp2_with fail
    refine (HS.out _).mono ?_
    rintro _ w1 ⟨rfl, h3⟩
    have B1 := Lib.hid (below_step B0.out h3)
    clear g0 g1 g2 g3 g4 g5 g6 h3
    go_wp2
    go_ret
    exact ⟨rfl, B1.out⟩

theorem raw_small {g : Gm} (ho : g.ok = true) (h : small13 g) : g.raw ≤ 1000 := by
  have hb := Gm.bounds_of ho
  obtain ⟨⟨h1, h2, _, _⟩, _, _⟩ := h
  unfold Gm.raw
  rw [if_pos ho]
  have := (mul_le (a := g.c) (b := g.k + 2) (m := 4) (n := 42) (by omega) (by omega) (by omega) (by omega)).2
  omega

theorem New_nil (g : Gm) (w : World) (ho : g.ok = true) (hlow : g.raw ≤ 1000) :
    Calls Try.prog 8 #[g.val, .slice none 0 0] w fun e w' => ∃ p q r, e = .returned (.tuple #[.pointer (some ⟨p, 0, none⟩), .int .i64 0]) ∧ AR (fun j => j = p ∨ j = q ∨ j = r) w' p q r g (St.new g.raw.toNat (g.b * g.s).toNat g.s.toNat g.b.toNat []) ∧ Below w.heap.size w w' ∧ w.heap.size ≤ p ∧ w.heap.size ≤ q ∧ w.heap.size ≤ r := by
  refine (New_any g none 0 0 [] w ho hlow ⟨Rd.nil_, by simp⟩ (by omega)).mono ?_
  rintro e w' (⟨_, h⟩ | ⟨h, _⟩)
  · exact h
  · exact absurd (fun x hx => by cases hx) h
theorem ones_erased : ones (List.replicate 37 255) = 296 := by decide +kernel
set_option maxHeartbeats 4000000 in
theorem awake13_any (w : World) : Calls Try.prog 6 #[] w (Gives (.bool true) w) := by
  go_enter Try.func6, Try.ntmps6
  go_wp2_with fail
  refine (plain_any _).mono ?_
  rintro _ w1 ⟨rfl, h1⟩
  have B1 := Lib.hid h1
  clear h1
  go_wp2_with fail
  refine (New_nil geo2 _ geo2_ok (by decide +kernel)).mono ?_
  rintro _ w2 ⟨p, q, r, rfl, h2, b2, hp, hq, hr⟩
  have A2 := Lib.hid h2
  have B2 := Lib.hid (below_step B1.out b2)
  have hqw : w.heap.size ≤ q := Nat.le_trans B1.out.size hq
  clear h2 b2
  go_wp2_with fail
  refine (plain_any _).mono ?_
  rintro _ w3 ⟨rfl, h3⟩
  have A3 := Lib.hid (A2.out.below h3)
  have B3 := Lib.hid (below_step B2.out h3)
  clear h3
  go_wp2_with fail
  refine (Erased_any geo2 37 (by decide +kernel) (by omega) _).mono ?_
  rintro _ w4 ⟨E, c, rfl, hr4, hc, h4⟩
  rw [List.length_replicate] at hr4 ⊢
  have A4 := Lib.hid (A3.out.below h4)
  have B4 := Lib.hid (below_step B3.out h4)
  have R4 := Lib.hid hr4
  have hraw : geo2.raw.toNat = 37 := by decide +kernel
  have hrow : (St.new geo2.raw.toNat (geo2.b * geo2.s).toNat geo2.s.toNat geo2.b.toNat []).rows[3]? = some (ersd 37) := by
    show (newR geo2.raw.toNat (geo2.b * geo2.s).toNat geo2.s.toNat [])[3]? = _
    rw [newR_get _ _ _ _ 3 (by decide +kernel), hraw]
    rfl
  have HROW := Lib.hid hrow
  clear hr4 h4 hrow
  go_wp2_with fail
  refine (Program_yes A4.out HROW.out E 37 c _ R4.out hraw.symm).mono ?_
  rintro _ w5 ⟨rfl, h5, b5⟩
  have A5 := Lib.hid h5
  have B5 := Lib.hid (B4.out.trans (b5.below (S := w.heap.size) (fun j e => by subst e; exact hqw) B4.out.size))
  have HROW5 := Lib.hid (show ((St.new geo2.raw.toNat (geo2.b * geo2.s).toNat geo2.s.toNat geo2.b.toNat []).prog 3 (List.replicate 37 255)).rows[3]? = some ⟨List.replicate 37 255, 1, false⟩ by
    unfold St.prog
    rw [sec_get, HROW.out, Option.map_some, if_pos (by omega)]
    have e : andL (List.replicate 37 255) (List.replicate 37 255) = List.replicate 37 255 := andL_erased 37 _ (by simp) (by intro x hx; rw [(List.mem_replicate.1 hx).2]; omega)
    show some (Pg.prog (ersd 37) _) = _
    unfold Pg.prog ersd
    have ei : inc 0 = 1 := by decide +kernel
    simp only [e, ei])
  clear h5 b5 hraw
  go_wp2_with fail
  refine (Programs_yes A5.out HROW5.out).mono ?_
  rintro _ w6 ⟨rfl, h6⟩
  have A6 := Lib.hid (A5.out.below h6)
  have B6 := Lib.hid (below_step B5.out h6)
  clear h6
  go_wp2_with fail
  refine (Raw_yes A6.out HROW5.out).mono ?_
  rintro _ w7 ⟨A7, c7, rfl, hr7, h7⟩
  rw [List.length_replicate] at hr7 ⊢
  have A7' := Lib.hid (A6.out.below h7)
  have B7 := Lib.hid (below_step B6.out h7)
  have R7 := Lib.hid hr7
  clear hr7 h7
  go_wp2_with fail
  refine (Zeros_any A7 37 c7 _ _ R7.out (by omega)).mono ?_
  rintro _ w8 ⟨rfl, rfl⟩
  rw [ones_erased]
  go_wp2_with fail
  refine (Raw_yes A7'.out HROW5.out).mono ?_
  rintro _ w9 ⟨A9, c9, rfl, hr9, h9⟩
  rw [List.length_replicate]
  have B9 := Lib.hid (below_step B7.out h9)
  clear hr9 h9
  go_wp2
  go_ret
  exact ⟨rfl, B9.out⟩
end Go.Proofs.Ytlmdhlogmfdokaa
