/-
  plain, awake of the laws of ident.
-/
import Derived.Test.YtimphjgjcnbmnaaIdnA
namespace Go.Proofs.Ytimphjgjcnbmnaa
open Go.RowKit
set_option maxRecDepth 100000

def geo18 : Gm := ⟨1, 2, 4, 1, 300, 1, 1⟩
theorem geo18_ok : geo18.ok = true := by decide +kernel
set_option maxHeartbeats 400000 in
theorem plain18_any (w : World) : Calls Try.prog 11 #[] w (Gives geo18.val w) := by
  go_enter Try.func11, Try.ntmps11
  have T0 := Lib.hid (CRow.new w #[.int .i64 0, .int .i64 0, .int .i64 0, .int .i64 0, .int .i64 0, .int .i64 0, .int .i64 0] 23)
  have B0 := Lib.hid (below_new w (.cells #[.int .i64 0, .int .i64 0, .int .i64 0, .int .i64 0, .int .i64 0, .int .i64 0, .int .i64 0] 23))
  go_wp2_with (with_reducible refine (?_ : wpList _ _ _ ({ dst := _, op := Op.store 23 _ _, type := _, pos := _, after := _, guard := _ } :: _) _ _); refine wpList_store_at rfl 23 _ _ rfl 7 size_geomA _ w.heap.size ?hx rfl _ T0.out.row rfl rfl (by simp [Value.oneCell']) ?_; (case hx => simp [Act.eval]))
  have B9 := Lib.hid (below_setRow B0.out (Nat.le_refl _) #[.int .i64 1, .int .i64 2, .int .i64 4, .int .i64 1, .int .i64 300, .int .i64 1, .int .i64 1])
  have T9 := Lib.hid (T0.out.set #[.int .i64 1, .int .i64 2, .int .i64 4, .int .i64 1, .int .i64 300, .int .i64 1, .int .i64 1])
  go_wp2
  refine bodyPost_ret (results_cell_row rfl _ _ w.heap.size 23 _ (0, 0) _ rfl T9.out.row Try.underlying23 rfl size_geomA) rfl ?_
  exact ⟨rfl, B9.out⟩
set_option maxHeartbeats 1000000 in
theorem awake18_any (w : World) : Calls Try.prog 4 #[] w (Gives (.bool true) w) := by
  have HP := Lib.hid (fun W => plain18_any W)
  have HU := Lib.hid (fun W => idPut_yes geo18 geo18_ok W)
  obtain ⟨V, hV⟩ : ∃ V, V = geo18.val := ⟨_, rfl⟩
  rw [← hV] at HP HU
  clear hV
  go_enter Try.func4, Try.ntmps4
  go_wp2_with fail
  refine (HP.out _).mono ?_
  rintro _ w1 ⟨rfl, h1⟩
  have B1 := Lib.hid h1
  clear h1
  go_wp2_with fail
  refine (HU.out _).mono ?_
  rintro _ w2 ⟨A, c, rfl, h2, h3, h4⟩
  have B2 := Lib.hid (below_step B1.out h4)
  obtain ⟨b, o, rfl, hb, hc⟩ := h2.1.2 (by omega)
  have x8 : w2.cell? ⟨b, o + 8, none⟩ = some (.int .u8 44) := hc 8 (by omega)
  have x9 : w2.cell? ⟨b, o + 9, none⟩ = some (.int .u8 1) := hc 9 (by omega)
  clear h2 h3 h4 hc hb HP HU B1
  go_wp2
  go_ret
  exact ⟨rfl, B2.out⟩
end Go.Proofs.Ytimphjgjcnbmnaa
