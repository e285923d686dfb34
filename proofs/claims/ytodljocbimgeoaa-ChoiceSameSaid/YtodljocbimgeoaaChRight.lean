/-
  Contract of the check of a whole script, over the landed code.
-/
import Derived.Test.YtodljocbimgeoaaChA
namespace Go.Proofs.Ytodljocbimgeoaa
open Go.RowKit
set_option maxRecDepth 100000

theorem Check12 (w : World) : Calls Try.prog 24 #[.agg #[.int .i64 1, .int .i64 4, .int .i64 4, .int .i64 1, .int .i64 4, .int .i64 2, .int .i64 1]] w (Gives (.int .i64 0) w) := Check_yes geo12 geo12_ok w
theorem areTurns12 (A : Option Addr) (n c : Nat) (l : List Tn) (w : World) (hr : RN w A n l) (hn : n ≤ 4096) :
    Calls Try.prog 28 #[.agg #[.int .i64 1, .int .i64 4, .int .i64 4, .int .i64 1, .int .i64 4, .int .i64 2, .int .i64 1], .slice A n c] w (Checks (trnL l 295 n) w) := areTurns_any A n c l w hr hn

set_option maxHeartbeats 4000000 in
theorem Right_any (m : Sa) (s : Sc) (w : World) (h : SIn w m s) (hf : s.short) : Calls Try.prog 20 #[geo12.val, m.val s] w (Checks s.ok w) := by
  have HI := Lib.hid h
  have HF := Lib.hid hf
  clear h hf
  simp only [Gm.val, geo12, Sa.val]
  have G0 := Lib.hid (CRow.new w #[.int .i64 1, .int .i64 4, .int .i64 4, .int .i64 1, .int .i64 4, .int .i64 2, .int .i64 1] 39)
  have S0 := Lib.hid (CRow.new (w.alloc (.cells #[.int .i64 1, .int .i64 4, .int .i64 4, .int .i64 1, .int .i64 4, .int .i64 2, .int .i64 1] 39)) (m.cells s) 26)
  have B0 := Lib.hid ((below_new w (.cells #[.int .i64 1, .int .i64 4, .int .i64 4, .int .i64 1, .int .i64 4, .int .i64 2, .int .i64 1] 39)).alloc (by simp) (.cells (m.cells s) 26))
  have E0 := Lib.hid (Below.alloc (Below.refl _ (w.alloc (.cells #[.int .i64 1, .int .i64 4, .int .i64 4, .int .i64 1, .int .i64 4, .int .i64 2, .int .i64 1] 39))) (Nat.le_refl _) (.cells (m.cells s) 26))
  unfold Sa.cells at *
  go_enter Try.func20, Try.ntmps20
  go_wp2_with fail
  refine (Check12 _).mono ?_
  rintro _ w1 ⟨rfl, h1⟩
  have G1 := Lib.hid ((G0.out.below E0.out).below h1)
  have S1 := Lib.hid (S0.out.below h1)
  have B1 := Lib.hid (B0.out.trans (h1.mono B0.out.size))
  have I1 := Lib.hid (HI.out.below B1.out)
  clear G0 S0 B0 E0 h1
  rw [show (w.alloc (.cells #[.int .i64 1, .int .i64 4, .int .i64 4, .int .i64 1, .int .i64 4, .int .i64 2, .int .i64 1] 39)).heap.size = w.heap.size + 1 by simp] at S1
  have s10 := S1.out.cell_at 0 _ rfl
  have s11 := S1.out.cell_at 1 _ rfl
  have s12 := S1.out.cell_at 2 _ rfl
  have s13 := S1.out.cell_at 3 _ rfl
  have s14 := S1.out.cell_at 4 _ rfl
  have s15 := S1.out.cell_at 5 _ rfl
  have g10 := G1.out.cell_at 0 _ rfl
  have g11 := G1.out.cell_at 1 _ rfl
  have g12 := G1.out.cell_at 2 _ rfl
  have g13 := G1.out.cell_at 3 _ rfl
  have g14 := G1.out.cell_at 4 _ rfl
  have g15 := G1.out.cell_at 5 _ rfl
  have g16 := G1.out.cell_at 6 _ rfl
  go_wp2_with fail
  refine (areShort_yes m.a1 m.a2 m.a3 m.a4 m.a5 s.busy.length m.c1 s.fails.length m.c2 s.turns.length m.c3 s.torn.length m.c4 s.marked.length m.c5 s.cut _ HF.out.busy HF.out.fails HF.out.turns HF.out.torn HF.out.marked).mono ?_
  rintro _ w2 ⟨rfl, h2⟩
  have G2 := Lib.hid (G1.out.below h2)
  have S2 := Lib.hid (S1.out.below h2)
  have B2 := Lib.hid (B1.out.trans (h2.mono B1.out.size))
  have I2 := Lib.hid (I1.out.below h2)
  clear h2 G1 S1 B1 I1
  clear s10 s11 s12 s13 s14 s15 g10 g11 g12 g13 g14 g15 g16
  have s20 := S2.out.cell_at 0 _ rfl
  have s21 := S2.out.cell_at 1 _ rfl
  have s22 := S2.out.cell_at 2 _ rfl
  have s23 := S2.out.cell_at 3 _ rfl
  have s24 := S2.out.cell_at 4 _ rfl
  have s25 := S2.out.cell_at 5 _ rfl
  have g20 := G2.out.cell_at 0 _ rfl
  have g21 := G2.out.cell_at 1 _ rfl
  have g22 := G2.out.cell_at 2 _ rfl
  have g23 := G2.out.cell_at 3 _ rfl
  have g24 := G2.out.cell_at 4 _ rfl
  have g25 := G2.out.cell_at 5 _ rfl
  have g26 := G2.out.cell_at 6 _ rfl
  go_wp2_with fail
  refine (areDurations_any m.a1 s.busy.length m.c1 s.busy _ I2.out.busy HF.out.busy).mono ?_
  rintro _ w3 ⟨v2, rfl, hv2, h3⟩
  have V2 := Lib.hid hv2
  clear hv2
  have G3 := Lib.hid (G2.out.below h3)
  have S3 := Lib.hid (S2.out.below h3)
  have B3 := Lib.hid (B2.out.trans (h3.mono B2.out.size))
  have I3 := Lib.hid (I2.out.below h3)
  clear h3
  clear s20 s21 s22 s23 s24 s25 g20 g21 g22 g23 g24 g25 g26
  clear G2 S2 B2 I2
  cases v2
  · go_wp2
    go_ret
    exact checks_no (fun h => Bool.noConfusion (V2.out.2 h.busy)) B3.out
  have s30 := S3.out.cell_at 0 _ rfl
  have s31 := S3.out.cell_at 1 _ rfl
  have s32 := S3.out.cell_at 2 _ rfl
  have s33 := S3.out.cell_at 3 _ rfl
  have s34 := S3.out.cell_at 4 _ rfl
  have s35 := S3.out.cell_at 5 _ rfl
  have g30 := G3.out.cell_at 0 _ rfl
  have g31 := G3.out.cell_at 1 _ rfl
  have g32 := G3.out.cell_at 2 _ rfl
  have g33 := G3.out.cell_at 3 _ rfl
  have g34 := G3.out.cell_at 4 _ rfl
  have g35 := G3.out.cell_at 5 _ rfl
  have g36 := G3.out.cell_at 6 _ rfl
  go_wp2_with fail
  refine (areAscending_any m.a2 s.fails.length m.c2 s.fails 4611686018427387904 _ I3.out.fails HF.out.fails).mono ?_
  rintro _ w4 ⟨v3, rfl, hv3, h4⟩
  have V3 := Lib.hid hv3
  clear hv3
  have G4 := Lib.hid (G3.out.below h4)
  have S4 := Lib.hid (S3.out.below h4)
  have B4 := Lib.hid (B3.out.trans (h4.mono B3.out.size))
  have I4 := Lib.hid (I3.out.below h4)
  clear h4
  clear s30 s31 s32 s33 s34 s35 g30 g31 g32 g33 g34 g35 g36
  clear G3 S3 B3 I3
  cases v3
  · go_wp2
    go_ret
    exact checks_no (fun h => Bool.noConfusion (V3.out.2 h.fails)) B4.out
  have s40 := S4.out.cell_at 0 _ rfl
  have s41 := S4.out.cell_at 1 _ rfl
  have s42 := S4.out.cell_at 2 _ rfl
  have s43 := S4.out.cell_at 3 _ rfl
  have s44 := S4.out.cell_at 4 _ rfl
  have s45 := S4.out.cell_at 5 _ rfl
  have g40 := G4.out.cell_at 0 _ rfl
  have g41 := G4.out.cell_at 1 _ rfl
  have g42 := G4.out.cell_at 2 _ rfl
  have g43 := G4.out.cell_at 3 _ rfl
  have g44 := G4.out.cell_at 4 _ rfl
  have g45 := G4.out.cell_at 5 _ rfl
  have g46 := G4.out.cell_at 6 _ rfl
  go_wp2_with fail
  refine (areTurns12 m.a3 s.turns.length m.c3 s.turns _ I4.out.turns HF.out.turns).mono ?_
  rintro _ w5 ⟨v4, rfl, hv4, h5⟩
  have V4 := Lib.hid hv4
  clear hv4
  have G5 := Lib.hid (G4.out.below h5)
  have S5 := Lib.hid (S4.out.below h5)
  have B5 := Lib.hid (B4.out.trans (h5.mono B4.out.size))
  have I5 := Lib.hid (I4.out.below h5)
  clear h5
  clear s40 s41 s42 s43 s44 s45 g40 g41 g42 g43 g44 g45 g46
  clear G4 S4 B4 I4
  cases v4
  · go_wp2
    go_ret
    exact checks_no (fun h => Bool.noConfusion (V4.out.2 h.turns)) B5.out
  have s50 := S5.out.cell_at 0 _ rfl
  have s51 := S5.out.cell_at 1 _ rfl
  have s52 := S5.out.cell_at 2 _ rfl
  have s53 := S5.out.cell_at 3 _ rfl
  have s54 := S5.out.cell_at 4 _ rfl
  have s55 := S5.out.cell_at 5 _ rfl
  have g50 := G5.out.cell_at 0 _ rfl
  have g51 := G5.out.cell_at 1 _ rfl
  have g52 := G5.out.cell_at 2 _ rfl
  have g53 := G5.out.cell_at 3 _ rfl
  have g54 := G5.out.cell_at 4 _ rfl
  have g55 := G5.out.cell_at 5 _ rfl
  have g56 := G5.out.cell_at 6 _ rfl
  go_wp2_with fail
  refine (within_any s.cut (-1) 16777216 _).mono ?_
  obtain ⟨v5, hv5⟩ : ∃ v5 : Bool, decide (-1 ≤ s.cut ∧ s.cut ≤ 16777216) = v5 := ⟨_, rfl⟩
  rw [hv5]
  have V5 := Lib.hid (show v5 = true ↔ (-1 ≤ s.cut ∧ s.cut ≤ 16777216) by rw [← hv5, decide_eq_true_iff])
  clear hv5
  rintro _ w6 ⟨rfl, h6⟩
  have h6 : Below w5.heap.size w5 w6 := h6 ▸ Below.refl _ _
  have G6 := Lib.hid (G5.out.below h6)
  have S6 := Lib.hid (S5.out.below h6)
  have B6 := Lib.hid (B5.out.trans (h6.mono B5.out.size))
  have I6 := Lib.hid (I5.out.below h6)
  clear h6
  clear s50 s51 s52 s53 s54 s55 g50 g51 g52 g53 g54 g55 g56
  clear G5 S5 B5 I5
  cases v5
  · go_wp2
    go_ret
    exact checks_no (fun h => Bool.noConfusion (V5.out.2 h.cut)) B6.out
  have s60 := S6.out.cell_at 0 _ rfl
  have s61 := S6.out.cell_at 1 _ rfl
  have s62 := S6.out.cell_at 2 _ rfl
  have s63 := S6.out.cell_at 3 _ rfl
  have s64 := S6.out.cell_at 4 _ rfl
  have s65 := S6.out.cell_at 5 _ rfl
  have g60 := G6.out.cell_at 0 _ rfl
  have g61 := G6.out.cell_at 1 _ rfl
  have g62 := G6.out.cell_at 2 _ rfl
  have g63 := G6.out.cell_at 3 _ rfl
  have g64 := G6.out.cell_at 4 _ rfl
  have g65 := G6.out.cell_at 5 _ rfl
  have g66 := G6.out.cell_at 6 _ rfl
  go_wp2_with fail
  refine (areAscending_any m.a5 s.marked.length m.c5 s.marked 3 _ I6.out.marked HF.out.marked).mono ?_
  rintro _ w7 ⟨v6, rfl, hv6, h7⟩
  have V6 := Lib.hid hv6
  clear hv6
  have G7 := Lib.hid (G6.out.below h7)
  have S7 := Lib.hid (S6.out.below h7)
  have B7 := Lib.hid (B6.out.trans (h7.mono B6.out.size))
  have I7 := Lib.hid (I6.out.below h7)
  clear h7
  clear s60 s61 s62 s63 s64 s65 g60 g61 g62 g63 g64 g65 g66
  go_wp2
  go_ret
  refine ⟨v6, rfl, ⟨fun h => ⟨V2.out.1 trivial, V3.out.1 trivial, V4.out.1 trivial, V5.out.1 trivial, V6.out.1 h⟩, fun h => V6.out.2 h.marked⟩, B7.out⟩
end Go.Proofs.Ytodljocbimgeoaa
