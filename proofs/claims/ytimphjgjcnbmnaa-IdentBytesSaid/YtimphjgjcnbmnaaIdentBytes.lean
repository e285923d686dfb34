/-
  IdentBytes: the walk.
-/
import Derived.Test.YtimphjgjcnbmnaaIdnAw
import Derived.Test.YtimphjgjcnbmnaaIdnD
import Derived.Test.YtimphjgjcnbmnaaSame
namespace Go.Proofs.Ytimphjgjcnbmnaa
open Go.RowKit
set_option maxRecDepth 100000

set_option maxHeartbeats 8000000 in
theorem IdentBytes_walk (g : Gm) (A : Option Addr) (n c : Nat) (l : List Nat) (w : World) (hr : R8 w A n l) (hc : n ≤ c) :
    Calls Try.prog 3 #[g.val, .slice A n c] w (Gives (.bool true) w) := by
  have R0 := Lib.hid hr
  have HCC := Lib.hid hc
  have S0 := Lib.hid (CRow.new w #[.int .i64 g.p, .int .i64 g.b, .int .i64 g.s, .int .i64 g.c, .int .i64 g.k, .int .i64 g.r, .int .i64 g.q] 23)
  have B0 := Lib.hid (below_new w (.cells #[.int .i64 g.p, .int .i64 g.b, .int .i64 g.s, .int .i64 g.c, .int .i64 g.k, .int .i64 g.r, .int .i64 g.q] 23))
  clear hr hc
  have HPN := Lib.hid (fun (h : g.ok = false) W => idPut_no g h W)
  have HPY := Lib.hid (fun (h : g.ok = true) W => idPut_yes g h W)
  have HRI := Lib.hid (fun W => RefRight_any g W)
  have HRP := Lib.hid (fun (h : g.ok = true) W => RefIdPut_any g h W)
  have HTG := Lib.hid (fun (h : g.ok = true) => tkg_gb h)
  have HGL := Lib.hid (gb_len (g := g))
  have HOK := Lib.hid (show g.ok = g.ok from rfl)
  generalize g.ok = ok at *
  simp only [Gm.val] at *
  go_enter Try.func3, Try.ntmps3
  go_wp2_with fail
  refine (awake18_any _).mono ?_
  rintro _ w1 ⟨rfl, h1⟩
  have B1 := Lib.hid (below_step B0.out h1)
  have S1 := Lib.hid (S0.out.below h1)
  have R1 := Lib.hid (R0.out.below B1.out)
  clear h1 B0 S0 R0
  by_cases hn : 100 < n
  · have d1 : decide (100 < (n : Int)) = true := decide_eq_true (by omega)
    go_wp2
    go_ret
    exact ⟨rfl, B1.out⟩
  have d1 : decide (100 < (n : Int)) = false := decide_eq_false (by omega)
  have HN := Lib.hid (show n ≤ 100 by omega)
  clear hn
  have x0 := S1.out.cell_at 0 (.int .i64 g.p) rfl
  have x1 := S1.out.cell_at 1 (.int .i64 g.b) rfl
  have x2 := S1.out.cell_at 2 (.int .i64 g.s) rfl
  have x3 := S1.out.cell_at 3 (.int .i64 g.c) rfl
  have x4 := S1.out.cell_at 4 (.int .i64 g.k) rfl
  have x5 := S1.out.cell_at 5 (.int .i64 g.r) rfl
  have x6 := S1.out.cell_at 6 (.int .i64 g.q) rfl
  cases ok
  · skip
    go_wp2_with fail
    refine (HPN.out (by first | rfl | trivial) _).mono ?_
    rintro _ w2 ⟨rfl, h2⟩
    have B2 := Lib.hid (below_step B1.out h2)
    have S2 := Lib.hid (S1.out.below h2)
    have R2 := Lib.hid (R1.out.below h2)
    clear h2 B1 S1 R1 HPN HPY HRP HTG HGL HOK
    clear x0 x1 x2 x3 x4 x5 x6
    have x0 := S2.out.cell_at 0 (.int .i64 g.p) rfl
    have x1 := S2.out.cell_at 1 (.int .i64 g.b) rfl
    have x2 := S2.out.cell_at 2 (.int .i64 g.s) rfl
    have x3 := S2.out.cell_at 3 (.int .i64 g.c) rfl
    have x4 := S2.out.cell_at 4 (.int .i64 g.k) rfl
    have x5 := S2.out.cell_at 5 (.int .i64 g.r) rfl
    have x6 := S2.out.cell_at 6 (.int .i64 g.q) rfl
    go_wp2_with fail
    refine (HRI.out _).mono ?_
    rintro _ w3 ⟨rfl, h3⟩
    have B3 := Lib.hid (below_step B2.out h3)
    have R3 := Lib.hid (R2.out.below h3)
    clear h3 B2 S2 R2 HRI
    clear x0 x1 x2 x3 x4 x5 x6
    have HT1 := Lib.hid (fun W (h : R8 W A n l) => idTake_any A n c l W h (by have := HN.out; omega) HCC.out)
    have HT2 := Lib.hid (fun W (h : R8 W A n l) => RefIdTake_any A n c l W h (by have := HN.out; omega))
    obtain ⟨o, ho⟩ : ∃ o, o = tkgG l := ⟨_, rfl⟩
    obtain ⟨E, hE⟩ : ∃ E, E = tkgE l := ⟨_, rfl⟩
    rw [← ho, ← hE] at HT1 HT2
    clear ho hE
    simp only [Gm.val] at HT1 HT2
    go_wp2_with fail
    refine (HT1.out _ R3.out).mono ?_
    rintro _ v1 ⟨rfl, h1⟩
    have BT1 := Lib.hid (below_step B3.out h1)
    have RT1 := Lib.hid (R3.out.below h1)
    clear h1 HT1
    have G0 := Lib.hid (CRow.new v1 #[.int .i64 0, .int .i64 0, .int .i64 0, .int .i64 0, .int .i64 0, .int .i64 0, .int .i64 0] 23)
    have G1 := Lib.hid (G0.out.set #[.int .i64 o.p, .int .i64 o.b, .int .i64 o.s, .int .i64 o.c, .int .i64 o.k, .int .i64 o.r, .int .i64 o.q])
    have hsz : w.heap.size ≤ v1.heap.size := BT1.out.size
    have BN := Lib.hid (show Below v1.heap.size v1 ((v1.alloc (.cells #[.int .i64 0, .int .i64 0, .int .i64 0, .int .i64 0, .int .i64 0, .int .i64 0, .int .i64 0] 23)).setRow v1.heap.size #[.int .i64 o.p, .int .i64 o.b, .int .i64 o.s, .int .i64 o.c, .int .i64 o.k, .int .i64 o.r, .int .i64 o.q]) from below_setRow (below_new v1 _) (Nat.le_refl _) #[.int .i64 o.p, .int .i64 o.b, .int .i64 o.s, .int .i64 o.c, .int .i64 o.k, .int .i64 o.r, .int .i64 o.q])
    have BT2 := Lib.hid (below_step BT1.out BN.out)
    have RT2 := Lib.hid (RT1.out.below BN.out)
    clear BT1 RT1 BN
    go_wp2_with (with_reducible refine (?_ : wpList _ _ _ ({ dst := _, op := Op.store 23 _ _, type := _, pos := _, after := _, guard := _ } :: _) _ _); refine wpList_store_at rfl 23 _ _ rfl 7 size_geomA _ v1.heap.size ?hx rfl _ G0.out.row rfl rfl (by simp [Value.oneCell']) ?_; (case hx => simp [Act.eval]))
    obtain ⟨v2, hwn⟩ : ∃ v2, v2 = ((v1.alloc (.cells #[.int .i64 0, .int .i64 0, .int .i64 0, .int .i64 0, .int .i64 0, .int .i64 0, .int .i64 0] 23)).setRow v1.heap.size #[.int .i64 o.p, .int .i64 o.b, .int .i64 o.s, .int .i64 o.c, .int .i64 o.k, .int .i64 o.r, .int .i64 o.q]) := ⟨_, rfl⟩
    rw [← hwn] at G1 BT2 RT2 ⊢
    clear hwn
    clear G0 hsz
    try go_wp2_with fail
    refine (HT2.out _ RT2.out).mono ?_
    rintro _ v3 ⟨rfl, h3⟩
    have BT3 := Lib.hid (below_step BT2.out h3)
    have G3 := Lib.hid (G1.out.below h3)
    clear h3 HT2 BT2 G1 RT2
    have G0 := Lib.hid (CRow.new v3 #[.int .i64 0, .int .i64 0, .int .i64 0, .int .i64 0, .int .i64 0, .int .i64 0, .int .i64 0] 23)
    have G1 := Lib.hid (G0.out.set #[.int .i64 o.p, .int .i64 o.b, .int .i64 o.s, .int .i64 o.c, .int .i64 o.k, .int .i64 o.r, .int .i64 o.q])
    have hsz : w.heap.size ≤ v3.heap.size := BT3.out.size
    have BN := Lib.hid (show Below v3.heap.size v3 ((v3.alloc (.cells #[.int .i64 0, .int .i64 0, .int .i64 0, .int .i64 0, .int .i64 0, .int .i64 0, .int .i64 0] 23)).setRow v3.heap.size #[.int .i64 o.p, .int .i64 o.b, .int .i64 o.s, .int .i64 o.c, .int .i64 o.k, .int .i64 o.r, .int .i64 o.q]) from below_setRow (below_new v3 _) (Nat.le_refl _) #[.int .i64 o.p, .int .i64 o.b, .int .i64 o.s, .int .i64 o.c, .int .i64 o.k, .int .i64 o.r, .int .i64 o.q])
    have G4 := Lib.hid (G3.out.below BN.out)
    have BT4 := Lib.hid (below_step BT3.out BN.out)
    have x0 := G4.out.cell_at 0 (.int .i64 o.p) rfl
    have x1 := G4.out.cell_at 1 (.int .i64 o.b) rfl
    have x2 := G4.out.cell_at 2 (.int .i64 o.s) rfl
    have x3 := G4.out.cell_at 3 (.int .i64 o.c) rfl
    have x4 := G4.out.cell_at 4 (.int .i64 o.k) rfl
    have x5 := G4.out.cell_at 5 (.int .i64 o.r) rfl
    have x6 := G4.out.cell_at 6 (.int .i64 o.q) rfl
    have y0 := G1.out.cell_at 0 (.int .i64 o.p) rfl
    have y1 := G1.out.cell_at 1 (.int .i64 o.b) rfl
    have y2 := G1.out.cell_at 2 (.int .i64 o.s) rfl
    have y3 := G1.out.cell_at 3 (.int .i64 o.c) rfl
    have y4 := G1.out.cell_at 4 (.int .i64 o.k) rfl
    have y5 := G1.out.cell_at 5 (.int .i64 o.r) rfl
    have y6 := G1.out.cell_at 6 (.int .i64 o.q) rfl
    go_wp2_with (with_reducible refine (?_ : wpList _ _ _ ({ dst := _, op := Op.store 23 _ _, type := _, pos := _, after := _, guard := _ } :: _) _ _); refine wpList_store_at rfl 23 _ _ rfl 7 size_geomA _ v3.heap.size ?hx rfl _ G0.out.row rfl rfl (by simp [Value.oneCell']) ?_; (case hx => simp [Act.eval]))
    first | done | (go_ret; exact ⟨by simp [go_sem], BT4.out⟩) | (go_wp2; go_ret; exact ⟨by simp [go_sem], BT4.out⟩)
  · skip
    go_wp2_with fail
    refine (HPY.out (by first | rfl | trivial) _).mono ?_
    rintro _ w2 ⟨A2, c2, rfl, r2, hc2, h2⟩
    have X2 := Lib.hid r2
    have C2 := Lib.hid hc2
    have B2 := Lib.hid (below_step B1.out h2)
    have S2 := Lib.hid (S1.out.below h2)
    have R2 := Lib.hid (R1.out.below h2)
    clear r2 hc2 h2 B1 S1 R1 HPN HPY
    clear x0 x1 x2 x3 x4 x5 x6
    have x0 := S2.out.cell_at 0 (.int .i64 g.p) rfl
    have x1 := S2.out.cell_at 1 (.int .i64 g.b) rfl
    have x2 := S2.out.cell_at 2 (.int .i64 g.s) rfl
    have x3 := S2.out.cell_at 3 (.int .i64 g.c) rfl
    have x4 := S2.out.cell_at 4 (.int .i64 g.k) rfl
    have x5 := S2.out.cell_at 5 (.int .i64 g.r) rfl
    have x6 := S2.out.cell_at 6 (.int .i64 g.q) rfl
    go_wp2_with fail
    refine (HRI.out _).mono ?_
    rintro _ w3 ⟨rfl, h3⟩
    have B3 := Lib.hid (below_step B2.out h3)
    have S3 := Lib.hid (S2.out.below h3)
    have R3 := Lib.hid (R2.out.below h3)
    have X3 := Lib.hid (X2.out.below h3)
    clear h3 B2 S2 R2 X2 HRI
    clear x0 x1 x2 x3 x4 x5 x6
    have HT0 := Lib.hid (fun W (h : R8 W A2 14 (gb g)) => idTake_any A2 14 c2 (gb g) W h (by omega) C2.out)
    rw [(HTG.out (by first | rfl | trivial)).1, (HTG.out (by first | rfl | trivial)).2] at HT0
    simp only [Gm.val] at HT0
    have HRP2 := Lib.hid (fun W => HRP.out (by first | rfl | trivial) W)
    clear HRP HTG
    go_wp2_with fail
    refine (HT0.out _ X3.out).mono ?_
    rintro _ w4 ⟨rfl, h4⟩
    have B4 := Lib.hid (below_step B3.out h4)
    have S4 := Lib.hid (S3.out.below h4)
    have R4 := Lib.hid (R3.out.below h4)
    have X4 := Lib.hid (X3.out.below h4)
    clear h4 B3 S3 R3 X3 HT0
    have G0 := Lib.hid (CRow.new w4 #[.int .i64 0, .int .i64 0, .int .i64 0, .int .i64 0, .int .i64 0, .int .i64 0, .int .i64 0] 23)
    have G1 := Lib.hid (G0.out.set #[.int .i64 g.p, .int .i64 g.b, .int .i64 g.s, .int .i64 g.c, .int .i64 g.k, .int .i64 g.r, .int .i64 g.q])
    have hsz : w.heap.size ≤ w4.heap.size := B4.out.size
    have BN := Lib.hid (show Below w4.heap.size w4 ((w4.alloc (.cells #[.int .i64 0, .int .i64 0, .int .i64 0, .int .i64 0, .int .i64 0, .int .i64 0, .int .i64 0] 23)).setRow w4.heap.size #[.int .i64 g.p, .int .i64 g.b, .int .i64 g.s, .int .i64 g.c, .int .i64 g.k, .int .i64 g.r, .int .i64 g.q]) from below_setRow (below_new w4 _) (Nat.le_refl _) #[.int .i64 g.p, .int .i64 g.b, .int .i64 g.s, .int .i64 g.c, .int .i64 g.k, .int .i64 g.r, .int .i64 g.q])
    have S5 := Lib.hid (S4.out.below BN.out)
    have B5 := Lib.hid (below_step B4.out BN.out)
    have R5 := Lib.hid (R4.out.below BN.out)
    have X5 := Lib.hid (X4.out.below BN.out)
    clear B4 S4 R4 X4 BN
    have x0 := S5.out.cell_at 0 (.int .i64 g.p) rfl
    have x1 := S5.out.cell_at 1 (.int .i64 g.b) rfl
    have x2 := S5.out.cell_at 2 (.int .i64 g.s) rfl
    have x3 := S5.out.cell_at 3 (.int .i64 g.c) rfl
    have x4 := S5.out.cell_at 4 (.int .i64 g.k) rfl
    have x5 := S5.out.cell_at 5 (.int .i64 g.r) rfl
    have x6 := S5.out.cell_at 6 (.int .i64 g.q) rfl
    go_wp2_with (with_reducible refine (?_ : wpList _ _ _ ({ dst := _, op := Op.store 23 _ _, type := _, pos := _, after := _, guard := _ } :: _) _ _); refine wpList_store_at rfl 23 _ _ rfl 7 size_geomA _ w4.heap.size ?hx rfl _ G0.out.row rfl rfl (by simp [Value.oneCell']) ?_; (case hx => simp [Act.eval]))
    clear x0 x1 x2 x3 x4 x5 x6
    obtain ⟨w5, hwn⟩ : ∃ w5, w5 = ((w4.alloc (.cells #[.int .i64 0, .int .i64 0, .int .i64 0, .int .i64 0, .int .i64 0, .int .i64 0, .int .i64 0] 23)).setRow w4.heap.size #[.int .i64 g.p, .int .i64 g.b, .int .i64 g.s, .int .i64 g.c, .int .i64 g.k, .int .i64 g.r, .int .i64 g.q]) := ⟨_, rfl⟩
    rw [← hwn] at G1 S5 B5 R5 X5 ⊢
    clear hwn
    clear G0 hsz
    try go_wp2_with fail
    refine (HRP2.out _).mono ?_
    rintro _ w6 hM
    obtain ⟨A6, c6, rfl, r6, h6⟩ := hM.at_ (n := 14) HGL.out
    have X6 := Lib.hid (X5.out.below h6.out)
    have Y6 := r6
    have B6 := Lib.hid (below_step B5.out h6.out)
    have S6 := Lib.hid (S5.out.below h6.out)
    have R6 := Lib.hid (R5.out.below h6.out)
    have G6 := Lib.hid (G1.out.below h6.out)
    have HSM := Lib.hid (Same_any A2 A6 14 c2 14 c6 (gb g) (gb g) w6 X6.out Y6.out (by omega) (by omega))
    rw [decide_eq_true (rfl : gb g = gb g)] at HSM
    clear hM r6 h6 X5 B5 S5 R5 G1 HRP2
    go_wp2_with fail
    refine HSM.out.mono ?_
    intro _ w7 hq
    obtain ⟨rfl, h7⟩ := hq.at_
    have B7 := Lib.hid (below_step B6.out h7.out)
    have S7 := Lib.hid (S6.out.below h7.out)
    have R7 := Lib.hid (R6.out.below h7.out)
    have G7 := Lib.hid (G6.out.below h7.out)
    clear hq h7 B6 S6 R6 G6 X6 Y6 HSM
    have x0 := S7.out.cell_at 0 (.int .i64 g.p) rfl
    have x1 := S7.out.cell_at 1 (.int .i64 g.b) rfl
    have x2 := S7.out.cell_at 2 (.int .i64 g.s) rfl
    have x3 := S7.out.cell_at 3 (.int .i64 g.c) rfl
    have x4 := S7.out.cell_at 4 (.int .i64 g.k) rfl
    have x5 := S7.out.cell_at 5 (.int .i64 g.r) rfl
    have x6 := S7.out.cell_at 6 (.int .i64 g.q) rfl
    have y0 := G7.out.cell_at 0 (.int .i64 g.p) rfl
    have y1 := G7.out.cell_at 1 (.int .i64 g.b) rfl
    have y2 := G7.out.cell_at 2 (.int .i64 g.s) rfl
    have y3 := G7.out.cell_at 3 (.int .i64 g.c) rfl
    have y4 := G7.out.cell_at 4 (.int .i64 g.k) rfl
    have y5 := G7.out.cell_at 5 (.int .i64 g.r) rfl
    have y6 := G7.out.cell_at 6 (.int .i64 g.q) rfl
    have HT1 := Lib.hid (fun W (h : R8 W A n l) => idTake_any A n c l W h (by have := HN.out; omega) HCC.out)
    have HT2 := Lib.hid (fun W (h : R8 W A n l) => RefIdTake_any A n c l W h (by have := HN.out; omega))
    obtain ⟨o, ho⟩ : ∃ o, o = tkgG l := ⟨_, rfl⟩
    obtain ⟨E, hE⟩ : ∃ E, E = tkgE l := ⟨_, rfl⟩
    rw [← ho, ← hE] at HT1 HT2
    clear ho hE
    simp only [Gm.val] at HT1 HT2
    go_wp2_with fail
    refine (HT1.out _ R7.out).mono ?_
    rintro _ v1 ⟨rfl, h1⟩
    clear x0 x1 x2 x3 x4 x5 x6 y0 y1 y2 y3 y4 y5 y6
    have BT1 := Lib.hid (below_step B7.out h1)
    have RT1 := Lib.hid (R7.out.below h1)
    clear h1 HT1
    have G0 := Lib.hid (CRow.new v1 #[.int .i64 0, .int .i64 0, .int .i64 0, .int .i64 0, .int .i64 0, .int .i64 0, .int .i64 0] 23)
    have G1 := Lib.hid (G0.out.set #[.int .i64 o.p, .int .i64 o.b, .int .i64 o.s, .int .i64 o.c, .int .i64 o.k, .int .i64 o.r, .int .i64 o.q])
    have hsz : w.heap.size ≤ v1.heap.size := BT1.out.size
    have BN := Lib.hid (show Below v1.heap.size v1 ((v1.alloc (.cells #[.int .i64 0, .int .i64 0, .int .i64 0, .int .i64 0, .int .i64 0, .int .i64 0, .int .i64 0] 23)).setRow v1.heap.size #[.int .i64 o.p, .int .i64 o.b, .int .i64 o.s, .int .i64 o.c, .int .i64 o.k, .int .i64 o.r, .int .i64 o.q]) from below_setRow (below_new v1 _) (Nat.le_refl _) #[.int .i64 o.p, .int .i64 o.b, .int .i64 o.s, .int .i64 o.c, .int .i64 o.k, .int .i64 o.r, .int .i64 o.q])
    have BT2 := Lib.hid (below_step BT1.out BN.out)
    have RT2 := Lib.hid (RT1.out.below BN.out)
    clear BT1 RT1 BN
    go_wp2_with (with_reducible refine (?_ : wpList _ _ _ ({ dst := _, op := Op.store 23 _ _, type := _, pos := _, after := _, guard := _ } :: _) _ _); refine wpList_store_at rfl 23 _ _ rfl 7 size_geomA _ v1.heap.size ?hx rfl _ G0.out.row rfl rfl (by simp [Value.oneCell']) ?_; (case hx => simp [Act.eval]))
    obtain ⟨v2, hwn⟩ : ∃ v2, v2 = ((v1.alloc (.cells #[.int .i64 0, .int .i64 0, .int .i64 0, .int .i64 0, .int .i64 0, .int .i64 0, .int .i64 0] 23)).setRow v1.heap.size #[.int .i64 o.p, .int .i64 o.b, .int .i64 o.s, .int .i64 o.c, .int .i64 o.k, .int .i64 o.r, .int .i64 o.q]) := ⟨_, rfl⟩
    rw [← hwn] at G1 BT2 RT2 ⊢
    clear hwn
    clear G0 hsz
    try go_wp2_with fail
    refine (HT2.out _ RT2.out).mono ?_
    rintro _ v3 ⟨rfl, h3⟩
    have BT3 := Lib.hid (below_step BT2.out h3)
    have G3 := Lib.hid (G1.out.below h3)
    clear h3 HT2 BT2 G1 RT2
    have G0 := Lib.hid (CRow.new v3 #[.int .i64 0, .int .i64 0, .int .i64 0, .int .i64 0, .int .i64 0, .int .i64 0, .int .i64 0] 23)
    have G1 := Lib.hid (G0.out.set #[.int .i64 o.p, .int .i64 o.b, .int .i64 o.s, .int .i64 o.c, .int .i64 o.k, .int .i64 o.r, .int .i64 o.q])
    have hsz : w.heap.size ≤ v3.heap.size := BT3.out.size
    have BN := Lib.hid (show Below v3.heap.size v3 ((v3.alloc (.cells #[.int .i64 0, .int .i64 0, .int .i64 0, .int .i64 0, .int .i64 0, .int .i64 0, .int .i64 0] 23)).setRow v3.heap.size #[.int .i64 o.p, .int .i64 o.b, .int .i64 o.s, .int .i64 o.c, .int .i64 o.k, .int .i64 o.r, .int .i64 o.q]) from below_setRow (below_new v3 _) (Nat.le_refl _) #[.int .i64 o.p, .int .i64 o.b, .int .i64 o.s, .int .i64 o.c, .int .i64 o.k, .int .i64 o.r, .int .i64 o.q])
    have G4 := Lib.hid (G3.out.below BN.out)
    have BT4 := Lib.hid (below_step BT3.out BN.out)
    have x0 := G4.out.cell_at 0 (.int .i64 o.p) rfl
    have x1 := G4.out.cell_at 1 (.int .i64 o.b) rfl
    have x2 := G4.out.cell_at 2 (.int .i64 o.s) rfl
    have x3 := G4.out.cell_at 3 (.int .i64 o.c) rfl
    have x4 := G4.out.cell_at 4 (.int .i64 o.k) rfl
    have x5 := G4.out.cell_at 5 (.int .i64 o.r) rfl
    have x6 := G4.out.cell_at 6 (.int .i64 o.q) rfl
    have y0 := G1.out.cell_at 0 (.int .i64 o.p) rfl
    have y1 := G1.out.cell_at 1 (.int .i64 o.b) rfl
    have y2 := G1.out.cell_at 2 (.int .i64 o.s) rfl
    have y3 := G1.out.cell_at 3 (.int .i64 o.c) rfl
    have y4 := G1.out.cell_at 4 (.int .i64 o.k) rfl
    have y5 := G1.out.cell_at 5 (.int .i64 o.r) rfl
    have y6 := G1.out.cell_at 6 (.int .i64 o.q) rfl
    go_wp2_with (with_reducible refine (?_ : wpList _ _ _ ({ dst := _, op := Op.store 23 _ _, type := _, pos := _, after := _, guard := _ } :: _) _ _); refine wpList_store_at rfl 23 _ _ rfl 7 size_geomA _ v3.heap.size ?hx rfl _ G0.out.row rfl rfl (by simp [Value.oneCell']) ?_; (case hx => simp [Act.eval]))
    first | done | (go_ret; exact ⟨by simp [go_sem], BT4.out⟩) | (go_wp2; go_ret; exact ⟨by simp [go_sem], BT4.out⟩)
end Go.Proofs.Ytimphjgjcnbmnaa
