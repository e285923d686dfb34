/-
  Package ident: split, join, Put.
-/
import Derived.Test.YtimphjgjcnbmnaaIdnMath
import Derived.Test.YtimphjgjcnbmnaaOwn
import Derived.Test.YtimphjgjcnbmnaaSlice
import Derived.Test.YtimphjgjcnbmnaaGeomK
import Derived.Test.YtimphjgjcnbmnaaGeomC
import Derived.Test.YtimphjgjcnbmnaaCRow
import Derived.Test.YtimphjgjcnbmnaaBox
namespace Go.Proofs.Ytimphjgjcnbmnaa
open Go.RowKit
set_option maxRecDepth 100000

theorem size_nums : (Try.prog.info? 40).map (·.size) = some 7 := by kernel_rfl
theorem size_geomA : (Try.prog.info? 23).map (·.size) = some 7 := by kernel_rfl
set_option maxHeartbeats 1000000 in
theorem idSplit_any (g : Gm) (w : World) : Calls Try.prog 13 #[g.val] w (Gives g.val w) := by
  obtain ⟨p, b, s, c, k, r, q⟩ := g
  simp only [Gm.val]
  obtain ⟨W1, hW⟩ : ∃ W1, W1 = w.alloc (.cells #[.int .i64 p, .int .i64 b, .int .i64 s, .int .i64 c, .int .i64 k, .int .i64 r, .int .i64 q] 23) := ⟨_, rfl⟩
  have hsz : W1.heap.size = w.heap.size + 1 := by rw [hW]; simp
  have B0 := Lib.hid (show Below w.heap.size w W1 by rw [hW]; exact below_new w _)
  have S0 := Lib.hid (show CRow W1 w.heap.size 23 #[.int .i64 p, .int .i64 b, .int .i64 s, .int .i64 c, .int .i64 k, .int .i64 r, .int .i64 q] by rw [hW]; exact CRow.new w _ _)
  have T0 := Lib.hid (show CRow (W1.alloc (.cells #[.int .i64 0, .int .i64 0, .int .i64 0, .int .i64 0, .int .i64 0, .int .i64 0, .int .i64 0] 40)) (w.heap.size + 1) 40 #[.int .i64 0, .int .i64 0, .int .i64 0, .int .i64 0, .int .i64 0, .int .i64 0, .int .i64 0] by rw [← hsz]; exact CRow.new W1 _ _)
  go_enter Try.func13, Try.ntmps13
  go_wp2_with (with_reducible refine (?_ : wpList _ _ _ ({ dst := _, op := Op.store 40 _ _, type := _, pos := _, after := _, guard := _ } :: _) _ _); rw [← hW]; refine wpList_store_at rfl 40 _ _ rfl 7 size_nums _ (w.heap.size + 1) ?hx rfl _ T0.out.row rfl rfl (by simp [Value.oneCell']) ?_; (case hx => simp [Act.eval]))
  have B9 := Lib.hid (below_setRow (B0.out.alloc (w := W1) (by rw [hsz]; omega) (.cells #[.int .i64 0, .int .i64 0, .int .i64 0, .int .i64 0, .int .i64 0, .int .i64 0, .int .i64 0] 40)) (show w.heap.size ≤ w.heap.size + 1 by omega) #[.int .i64 p, .int .i64 b, .int .i64 s, .int .i64 c, .int .i64 k, .int .i64 r, .int .i64 q])
  have T9 := Lib.hid (T0.out.set #[.int .i64 p, .int .i64 b, .int .i64 s, .int .i64 c, .int .i64 k, .int .i64 r, .int .i64 q])
  go_wp2
  refine bodyPost_ret (results_cell_row rfl _ _ (w.heap.size + 1) 40 _ (0, 0) _ rfl T9.out.row Try.underlying40 rfl size_nums) rfl ?_
  exact ⟨rfl, B9.out⟩
set_option maxHeartbeats 1000000 in
theorem idJoin_any (g : Gm) (w : World) : Calls Try.prog 17 #[g.val] w (Gives g.val w) := by
  obtain ⟨p, b, s, c, k, r, q⟩ := g
  simp only [Gm.val]
  obtain ⟨W1, hW⟩ : ∃ W1, W1 = w.alloc (.cells #[.int .i64 p, .int .i64 b, .int .i64 s, .int .i64 c, .int .i64 k, .int .i64 r, .int .i64 q] 40) := ⟨_, rfl⟩
  have hsz : W1.heap.size = w.heap.size + 1 := by rw [hW]; simp
  have B0 := Lib.hid (show Below w.heap.size w W1 by rw [hW]; exact below_new w _)
  have T0 := Lib.hid (show CRow (W1.alloc (.cells #[.int .i64 0, .int .i64 0, .int .i64 0, .int .i64 0, .int .i64 0, .int .i64 0, .int .i64 0] 23)) (w.heap.size + 1) 23 #[.int .i64 0, .int .i64 0, .int .i64 0, .int .i64 0, .int .i64 0, .int .i64 0, .int .i64 0] by rw [← hsz]; exact CRow.new W1 _ _)
  go_enter Try.func17, Try.ntmps17
  go_wp2_with (with_reducible refine (?_ : wpList _ _ _ ({ dst := _, op := Op.store 23 _ _, type := _, pos := _, after := _, guard := _ } :: _) _ _); rw [← hW]; refine wpList_store_at rfl 23 _ _ rfl 7 size_geomA _ (w.heap.size + 1) ?hx rfl _ T0.out.row rfl rfl (by simp [Value.oneCell']) ?_; (case hx => simp [Act.eval]))
  have B9 := Lib.hid (below_setRow (B0.out.alloc (w := W1) (by rw [hsz]; omega) (.cells #[.int .i64 0, .int .i64 0, .int .i64 0, .int .i64 0, .int .i64 0, .int .i64 0, .int .i64 0] 23)) (show w.heap.size ≤ w.heap.size + 1 by omega) #[.int .i64 p, .int .i64 b, .int .i64 s, .int .i64 c, .int .i64 k, .int .i64 r, .int .i64 q])
  have T9 := Lib.hid (T0.out.set #[.int .i64 p, .int .i64 b, .int .i64 s, .int .i64 c, .int .i64 k, .int .i64 r, .int .i64 q])
  go_wp2
  refine bodyPost_ret (results_cell_row rfl _ _ (w.heap.size + 1) 23 _ (0, 0) _ rfl T9.out.row Try.underlying23 rfl size_geomA) rfl ?_
  exact ⟨rfl, B9.out⟩
/-- One number out of the array. -/
theorem idNums_index (g : Gm) (k : Nat) (hk : k < 7) : ∃ x, g.nums[k]? = some x ∧ ∀ w : World, (Instr.index 40 g.val (.int .i64 k)).run Try.prog w = .ok (.int .i64 x) w := by
  obtain ⟨p, b, s, c, d, r, q⟩ := g
  obtain rfl | rfl | rfl | rfl | rfl | rfl | rfl : k = 0 ∨ k = 1 ∨ k = 2 ∨ k = 3 ∨ k = 4 ∨ k = 5 ∨ k = 6 := by omega
  · exact ⟨_, rfl, fun _ => by kernel_rfl⟩
  · exact ⟨_, rfl, fun _ => by kernel_rfl⟩
  · exact ⟨_, rfl, fun _ => by kernel_rfl⟩
  · exact ⟨_, rfl, fun _ => by kernel_rfl⟩
  · exact ⟨_, rfl, fun _ => by kernel_rfl⟩
  · exact ⟨_, rfl, fun _ => by kernel_rfl⟩
  · exact ⟨_, rfl, fun _ => by kernel_rfl⟩
theorem idPut_no (g : Gm) (h : g.ok = false) (w : World) : Calls Try.prog 5 #[g.val] w (Gives (.tuple #[.slice none 0 0, .int .i64 2]) w) := by
  have HC := Lib.hid (fun W => Check_no g h W)
  obtain ⟨p, b, s, c, k, r, q⟩ := g
  simp only [Gm.val] at *
  clear h
  go_enter Try.func5, Try.ntmps5
  go_wp2_with fail
  refine (HC.out _).mono ?_
  rintro _ w1 ⟨rfl, h1⟩
  have B1 := Lib.hid (below_step (below_new w _) h1)
  clear h1
  go_wp2
  go_ret2
  exact ⟨rfl, B1.out⟩
/-- It returns the bytes of the geometry. -/
def IdPutIs (g : Gm) (w : World) (e : Ending) (w' : World) : Prop := ∃ A c, e = .returned (.tuple #[.slice A 14 c, .int .i64 0]) ∧ R8 w' A 14 (gb g) ∧ 14 ≤ c ∧ Below w.heap.size w w'
set_option maxHeartbeats 4000000 in
theorem idPut_yes (g : Gm) (h : g.ok = true) (w : World) : Calls Try.prog 5 #[g.val] w (IdPutIs g w) := by
  obtain ⟨ti, hti, hz0, hz1, hz2⟩ := info_parts info_u8
  have hmk : ∀ W : World, (Instr.makeSlice 24 (.int .i64 0) (.int .i64 14)).run Try.prog W = .ok (.slice (some ⟨W.heap.size, 0, none⟩) 0 14) (W.alloc (.cells (Array.replicate 14 (.int .u8 0)) 5)) := fun W => by kernel_rfl
  have HC := Lib.hid (fun W => Check_yes g h W)
  have HS := Lib.hid (fun W => idSplit_any g W)
  have HI := Lib.hid (idNums_index g)
  obtain ⟨V, hV⟩ : ∃ V, V = g.val := ⟨_, rfl⟩
  rw [← hV] at HI
  have HV := Lib.hid hV
  have S0 := Lib.hid (show CRow (w.alloc (.cells #[.int .i64 g.p, .int .i64 g.b, .int .i64 g.s, .int .i64 g.c, .int .i64 g.k, .int .i64 g.r, .int .i64 g.q] 23)) w.heap.size 23 #[.int .i64 g.p, .int .i64 g.b, .int .i64 g.s, .int .i64 g.c, .int .i64 g.k, .int .i64 g.r, .int .i64 g.q] from CRow.new w _ _)
  clear h hV
  simp only [Gm.val] at *
  go_enter Try.func5, Try.ntmps5
  go_wp2_with fail
  refine (HC.out _).mono ?_
  rintro _ w1 ⟨rfl, h1⟩
  have B1 := Lib.hid (below_step (below_new w _) h1)
  have S1 := Lib.hid (S0.out.below h1)
  clear h1 S0 HC
  have S2 := Lib.hid (S1.out.alloc (.cells (Array.replicate 14 (.int .u8 0)) 5))
  have x0 := S2.out.cell_at 0 (.int .i64 g.p) rfl
  have x1 := S2.out.cell_at 1 (.int .i64 g.b) rfl
  have x2 := S2.out.cell_at 2 (.int .i64 g.s) rfl
  have x3 := S2.out.cell_at 3 (.int .i64 g.c) rfl
  have x4 := S2.out.cell_at 4 (.int .i64 g.k) rfl
  have x5 := S2.out.cell_at 5 (.int .i64 g.r) rfl
  have x6 := S2.out.cell_at 6 (.int .i64 g.q) rfl
  have hs1 : w.heap.size ≤ w1.heap.size := B1.out.size
  go_wp2_with fail
  refine (HS.out _).mono ?_
  rintro _ w2 ⟨rfl, h2⟩
  have O2 := Lib.hid (own_below (World.ownsRow_made (base := w.heap.size) (e := 5) (size := 1) w1 (Array.replicate 14 (.int .u8 0)) 14 hs1 (by unfold maxLen; omega) rfl) h2)
  have B2 := Lib.hid (B1.out.alloc hs1 _ |>.trans (h2.mono (by simp; omega)))
  rw [show (Value.agg #[.int .i64 g.p, .int .i64 g.b, .int .i64 g.s, .int .i64 g.c, .int .i64 g.k, .int .i64 g.r, .int .i64 g.q]) = V from HV.out.symm]
  clear h2 x0 x1 x2 x3 x4 x5 x6 S1 S2 HS HV B1
  go_wp2
  go_loopw [5, 16] (fun v iv wr => ∃ k : Nat, k ≤ 7 ∧ iv = .int .i64 (k : Int) ∧ Hid (wr.ownsRow w.heap.size 5 1 v (2 * k) (U8 (gbK g k))) ∧ Hid (Below w.heap.size w wr)) (fun _ iv _ => 7 - (intOf iv).toNat)
  case atStart => exact ⟨0, Nat.zero_le _, rfl, O2, B2⟩
  case round =>
    obtain ⟨k, hk, rfl, HO, HB⟩ := hrel
    rename World => wr
    by_cases hlt : k < 7
    · have d1 : decide ((k : Int) < 7) = true := decide_eq_true (by omega)
      obtain ⟨x, hx, hrun⟩ := HI.out k hlt
      have HX := Lib.hid (gbK_succ hx)
      have HA := Lib.hid (fun W => Address_any x W)
      clear hx
      go_wp2_with fail
      refine (HA.out _).mono ?_
      intro _ w3 hM
      obtain ⟨A, c, rfl, R3, D3⟩ := hM.at_ (n := 2) rfl
      have O3 := Lib.hid (own_below HO.out D3.out)
      have B3 := Lib.hid (below_step HB.out D3.out)
      have hs3 : w.heap.size ≤ w3.heap.size := B3.out.size
      have hnil := Lib.hid (R8.some_ (c := c) R3.out (by omega))
      obtain ⟨A0, c0, rfl⟩ := own_form O3.out
      clear hM hrun HA D3 HO HB
      go_wp2_with (at_builtin; refine wpList_append8 _ rfl (.tmp 19) (.tmp 21) _ rfl w.heap.size 5 ti Try.underlying24 hti hz0 hz1 hz2 _ (2 * k) (gbK g k) rfl O3.out A 2 c (adr x) rfl hnil.out R3.out (by omega) hs3 ?_)
      intro v4 w4 hown hg4
      have O4 := Lib.hid (show w4.ownsRow w.heap.size 5 1 v4 (2 * (k + 1)) (U8 (gbK g (k + 1))) by rw [HX.out]; exact hown)
      have B4 := Lib.hid (B3.out.grown hg4 hs3 (fun j hj => (O3.out.lt j hj).1))
      clear hown hg4 O3 R3 hnil HX B3
      go_wp2
      go_roundw
      case rel => exact ⟨k + 1, by omega, by go_num, O4, B4⟩
      case measure => simp [intOf]; omega
    · obtain rfl : k = 7 := by omega
      obtain ⟨A0, c0, rfl⟩ := own_form HO.out
      go_wp2
      go_ret2
      exact ⟨A0, c0, rfl, R8.own HO.out gbK_lt, own_cap HO.out, HB.out⟩
end Go.Proofs.Ytimphjgjcnbmnaa
