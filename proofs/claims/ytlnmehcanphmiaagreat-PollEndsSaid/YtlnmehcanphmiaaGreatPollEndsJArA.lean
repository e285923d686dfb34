/-
  Contracts of the array's made, fits, row, block, over the landed code.
-/
import Derived.Deep.RegionHeld3
import Derived.Test.YtlnmehcanphmiaaGreatPollEndsJ8
import Derived.Test.YtlnmehcanphmiaaGreatPollEndsJ6
namespace Go.Proofs.YtlnmehcanphmiaaGreat
open Go.RowKit
set_option maxRecDepth 100000

theorem neqRows (q n c : Nat) (w : World) : (binOp .neq 98 (.slice (some ⟨q, 0, none⟩) n c) (.slice none 0 0)).run Tryz.prog w = .ok (.bool true) w := by kernel_rfl
theorem made_yes (p q n c : Nat) (w : World) (x7 : w.cell? ⟨p, 7, none⟩ = some (.slice (some ⟨q, 0, none⟩) n c)) :
    Calls Tryz.prog 51 #[.pointer (some ⟨p, 0, none⟩)] w (Gives (.bool true) w) := by
  have hne := neqRows
  go_enter Tryz.func51, Tryz.ntmps51
  go_wp2
  go_ret
  exact ⟨rfl, Below.refl _ _⟩
theorem fits_any (p : Nat) (g : Gm) (N : Nat) (hN : g.raw = (N : Int)) (B : Option Addr) (n c : Nat) (w : World) (h : GBox w p g) :
    Calls Tryz.prog 86 #[.pointer (some ⟨p, 0, none⟩), .slice B n c] w (Gives (.bool (decide (n = N))) w) := by
  have hRaw := Raw_is g N hN
  obtain ⟨p0, b, s, gc, k, r, q⟩ := g
  obtain ⟨_, x0, x1, x2, x3, x4, x5, x6⟩ := h
  simp only [Gm.val] at hRaw x0 x1 x2 x3 x4 x5 x6
  clear hN
  go_enter Tryz.func86, Tryz.ntmps86
  go_wp2_with fail
  clear x0 x1 x2 x3 x4 x5 x6
  refine (hRaw _).mono ?_
  rintro _ w1 ⟨rfl, h1⟩
  have B1 := Lib.hid h1
  clear h1 hRaw
  by_cases e : n = N
  · subst e
    go_wp2
    go_ret
    exact ⟨by simp, B1.out⟩
  · have e1 : ((n : Int) == (N : Int)) = false := by rw [beq_eq_false_iff_ne]; omega
    have e2 := Lib.hid (decide_eq_false e)
    clear e
    go_wp2
    go_ret
    exact ⟨by rw [e2.out]; rfl, B1.out⟩

theorem row_yes (p q n c k : Nat) (w : World) (x7 : w.cell? ⟨p, 7, none⟩ = some (.slice (some ⟨q, 0, none⟩) n c)) (hp : p < w.heap.size) (hk : k < n) :
    Calls Tryz.prog 105 #[.pointer (some ⟨p, 0, none⟩), .int .i64 (k : Int)] w (Gives (.tuple #[.pointer (some ⟨q, k * 3, none⟩), .bool true]) w) := by
  have X7 := Lib.hid x7
  have i0 : (0 : Int) ≤ (k : Int) := by omega
  have i1 : (k : Int) < (n : Int) := by omega
  go_enter Tryz.func105, Tryz.ntmps105
  go_wp2_with fail
  refine (made_yes p q n c _ X7.out).mono ?_
  rintro _ w1 ⟨rfl, h1⟩
  have B1 := Lib.hid h1
  have y7 := (h1.cell hp).trans X7.out
  clear h1 x7
  go_wp2
  go_ret2
  exact ⟨by simp, B1.out⟩
theorem run_slice_mid3 {P : Program} {t e : TypeId} {i0 : TypeInfo} (h1 : P.underlying t = some (.slice e)) (h2 : P.info? e = some i0) (h4 : P.cellsOf e = 3) (q n c i j : Nat) (hij : i ≤ j) (hi : i < c) (hj : j ≤ c) (W : World) :
    (Instr.slice t (.slice (some ⟨q, 0, none⟩) n c) (some (.int .i64 (i : Int))) (some (.int .i64 (j : Int))) none).run P W = .ok (.slice (some ⟨q, i * 3, none⟩) (j - i) (c - i)) W := by
  have hb : (Instr.sliceBound (.int .i64 (j : Int)) c .sliceAcap).run P W = .ok j W := by
    rw [run_sliceBound W .i64 _ _ _ (by omega) (by omega)]; simp
  have hb2 : (Instr.sliceBound (.int .i64 (i : Int)) j .sliceB).run P W = .ok i W := by
    rw [run_sliceBound W .i64 _ _ _ (by omega) (by omega)]; simp
  have hc : ¬ c = i := by omega
  simp [Instr.slice, run_underlying h1, Instr.sliceBounds, hb, hb2, run_sizeOf W h2, h4, Addr.add, hc]
  exact fun h => h.symm
theorem run_sliceAt_mid3 {P : Program} {t e : TypeId} {i0 : TypeInfo} (h1 : P.underlying t = some (.slice e)) (h2 : P.info? e = some i0) (h4 : P.cellsOf e = 3) (q n c i j : Nat) (hij : i ≤ j) (hi : i < c) (hj : j ≤ c) (W : World) :
    (Instr.sliceAt t (.slice (some ⟨q, 0, none⟩) n c) (some (.int .i64 (i : Int))) (some (.int .i64 (j : Int))) none).run P W = .ok (.slice (some ⟨q, i * 3, none⟩) (j - i) (c - i)) W := by
  rw [← run_slice_mid3 h1 h2 h4 q n c i j hij hi hj W]
  simp [Instr.sliceAt, run_underlying h1]
theorem info_row : ∃ i, Tryz.prog.info? 105 = some i := Option.isSome_iff_exists.1 (by kernel_rfl)
theorem cells_row : Tryz.prog.cellsOf 105 = 3 := by kernel_rfl

set_option maxHeartbeats 1000000 in
theorem block_no (p q n c : Nat) (g : Gm) (x : Int) (w : World) (hg : GBox w p g) (x7 : w.cell? ⟨p, 7, none⟩ = some (.slice (some ⟨q, 0, none⟩) n c)) (hb : 0 < g.s) (hx : ¬ (0 ≤ x ∧ x < g.b)) :
    Calls Tryz.prog 37 #[.pointer (some ⟨p, 0, none⟩), .int .i64 x] w (Gives (.tuple #[.slice none 0 0, .bool false]) w) := by
  have HRow := Lib.hid (fun w' => Row_no g x 0 (fun h => hx h.2.1) w')
  have hp := hg.1
  have G0 := Lib.hid hg
  have X7 := Lib.hid x7
  clear hx x7 hg
  obtain ⟨p0, b, s, gc, k, r, u⟩ := g
  simp only [Gm.val] at HRow
  go_enter Tryz.func37, Tryz.ntmps37
  go_wp2_with fail
  refine (made_yes p q n c _ X7.out).mono ?_
  rintro _ w1 ⟨rfl, h1⟩
  have B1 := Lib.hid h1
  obtain ⟨_, x0, x1, x2, x3, x4, x5, x6⟩ := G0.out.below h1
  simp only at x0 x1 x2 x3 x4 x5 x6
  clear h1
  go_wp2_with fail
  clear x0 x1 x2 x3 x4 x5 x6
  refine (HRow.out _).mono ?_
  rintro _ w2 hw2
  obtain ⟨rfl, h2⟩ := hw2
  have B2 := Lib.hid (below_step B1.out h2)
  clear h2
  go_wp2
  go_ret2
  exact ⟨rfl, B2.out⟩
set_option maxHeartbeats 2000000 in
theorem block_yes (p q R S a k : Nat) (g : Gm) (w : World) (hg : GBox w p g) (x7 : w.cell? ⟨p, 7, none⟩ = some (.slice (some ⟨q, 0, none⟩) R R)) (ho : g.ok = true) (hk : (k : Int) < g.b) (hs : g.s = (S : Int)) (ha : a = k * S) (hR : a + S ≤ R) (hR2 : R ≤ 1000000) :
    Calls Tryz.prog 37 #[.pointer (some ⟨p, 0, none⟩), .int .i64 (k : Int)] w (Gives (.tuple #[.slice (some ⟨q, a * 3, none⟩) S (R - a), .bool true]) w) := by
  have hb := Gm.bounds_of ho
  have e : (k : Int) * g.s + 0 = (a : Int) := by rw [hs, ha]; push_cast; omega
  have HRow := Lib.hid (fun w' => Row_yes g k 0 ⟨ho, ⟨by omega, hk⟩, by omega, by omega⟩ w')
  rw [e] at HRow
  have hS : 0 < S := by omega
  obtain ⟨i0, hi⟩ := info_row
  have hSl1 := run_slice_mid3 (P := Tryz.prog) Tryz.underlying98 hi cells_row q R R a (a + S) (by omega) (by omega) (by omega)
  have hSl2 := run_sliceAt_mid3 (P := Tryz.prog) Tryz.underlying98 hi cells_row q R R a (a + S) (by omega) (by omega) (by omega)
  rw [show a + S - a = S by omega, Int.natCast_add] at hSl1 hSl2
  have hp := hg.1
  have G0 := Lib.hid hg
  have X7 := Lib.hid x7
  clear x7 hg e hk ha hi
  obtain ⟨p0, b, s, gc, kk, r, u⟩ := g
  simp only [Gm.val] at HRow
  simp only at hs hb
  subst hs
  have hp := G0.out.1
  have hw : IntKind.i64.wrap ((a : Int) + (S : Int)) = (a : Int) + (S : Int) := IntWalk.i64_in _ (by omega)
  go_enter Tryz.func37, Tryz.ntmps37
  go_wp2_with fail
  refine (made_yes p q R R _ X7.out).mono ?_
  rintro _ w0 ⟨rfl, h1⟩
  have B0 := Lib.hid h1
  have X7 := Lib.hid ((h1.cell hp).trans X7.out)
  have hp0 : p < w0.heap.size := Nat.lt_of_lt_of_le hp h1.size
  obtain ⟨_, x0, x1, x2, x3, x4, x5, x6⟩ := G0.out.below h1
  simp only at x0 x1 x2 x3 x4 x5 x6
  clear h1
  go_wp2_with fail
  have X2 := Lib.hid x2
  clear x0 x1 x2 x3 x4 x5 x6
  refine (HRow.out _).mono ?_
  rintro _ w1 hw2
  obtain ⟨rfl, h2⟩ := hw2
  have B1 := Lib.hid (below_step B0.out h2)
  have X7 := Lib.hid ((h2.cell hp0).trans X7.out)
  have X2 := Lib.hid ((h2.cell hp0).trans X2.out)
  have hp1 : p < w1.heap.size := Nat.lt_of_lt_of_le hp0 h2.size
  clear h2 B0
  go_wp2
  refine wp_region_noPanic ?_
  refine wp_region_held_drew (S := fun w' => Below w1.heap.size w1 w') (by kernel_rfl) ((Below.refl _ _).drew) (fun C0 => ?_)
  refine wpAnyH_take (i := 0) (oi := { dst := some 22, op := Op.move (Operand.tmp 0), type := 62, pos := "array.go:173", after := #[], guard := none }) (v := ?_) rfl (by kernel_rfl) (by kernel_rfl) (by kernel_rfl) (fun _ _ _ h => h) (Or.inl ⟨by rfl, ?_⟩) C0 ?_
  rotate_left
  · intro W' hSw
    clear hSw
    go_simp <;> with_reducible rfl
  try simp only [Act.put, List.setIfInBounds_toArray, List.set_cons_zero, List.set_cons_succ]
  refine wpAnyH_take (i := 1) (oi := { dst := some 23, op := Op.nilCheck (Operand.tmp 22), type := 0, pos := "array.go:173", after := #[{ on := 0, ground := Ground.data }], guard := none }) (v := ?_) rfl (by kernel_rfl) (by kernel_rfl) (by kernel_rfl) (fun _ _ _ h => h) (Or.inl ⟨by rfl, ?_⟩) C0 ?_
  rotate_left
  · intro W' hSw
    clear hSw
    go_simp <;> with_reducible rfl
  try simp only [Act.put, List.setIfInBounds_toArray, List.set_cons_zero, List.set_cons_succ]
  refine wpAnyH_take (i := 2) (oi := { dst := some 24, op := Op.fieldAddr 100 (Operand.tmp 23) 1, type := 0, pos := "array.go:173", after := #[{ on := 1, ground := Ground.data }], guard := none }) (v := ?_) rfl (by kernel_rfl) (by kernel_rfl) (by kernel_rfl) (fun _ _ _ h => h) (Or.inl ⟨by rfl, ?_⟩) C0 ?_
  rotate_left
  · intro W' hSw
    clear hSw
    go_simp <;> with_reducible rfl
  try simp only [Act.put, List.setIfInBounds_toArray, List.set_cons_zero, List.set_cons_succ]
  refine wpAnyH_take (i := 3) (oi := { dst := some 25, op := Op.load 98 (Operand.tmp 24), type := 98, pos := "array.go:173", after := #[{ on := 2, ground := Ground.data }], guard := none }) (v := ?_) rfl (by kernel_rfl) (by kernel_rfl) (by kernel_rfl) (fun _ _ _ h => h) (Or.inl ⟨by rfl, ?_⟩) C0 ?_
  rotate_left
  · intro W' hSw
    have y := (hSw.cell hp1).trans X7.out
    clear hSw
    go_simp <;> with_reducible rfl
  try simp only [Act.put, List.setIfInBounds_toArray, List.set_cons_zero, List.set_cons_succ]
  refine wpAnyH_take (i := 4) (oi := { dst := some 26, op := Op.move (Operand.tmp 6), type := 3, pos := "array.go:173", after := #[], guard := none }) (v := ?_) rfl (by kernel_rfl) (by kernel_rfl) (by kernel_rfl) (fun _ _ _ h => h) (Or.inl ⟨by rfl, ?_⟩) C0 ?_
  rotate_left
  · intro W' hSw
    clear hSw
    go_simp <;> with_reducible rfl
  try simp only [Act.put, List.setIfInBounds_toArray, List.set_cons_zero, List.set_cons_succ]
  refine wpAnyH_take (i := 5) (oi := { dst := some 27, op := Op.move (Operand.tmp 6), type := 3, pos := "array.go:173", after := #[], guard := none }) (v := ?_) rfl (by kernel_rfl) (by kernel_rfl) (by kernel_rfl) (fun _ _ _ h => h) (Or.inl ⟨by rfl, ?_⟩) C0 ?_
  rotate_left
  · intro W' hSw
    clear hSw
    go_simp <;> with_reducible rfl
  try simp only [Act.put, List.setIfInBounds_toArray, List.set_cons_zero, List.set_cons_succ]
  refine wpAnyH_take (i := 6) (oi := { dst := some 28, op := Op.move (Operand.tmp 0), type := 62, pos := "array.go:173", after := #[], guard := none }) (v := ?_) rfl (by kernel_rfl) (by kernel_rfl) (by kernel_rfl) (fun _ _ _ h => h) (Or.inl ⟨by rfl, ?_⟩) C0 ?_
  rotate_left
  · intro W' hSw
    clear hSw
    go_simp <;> with_reducible rfl
  try simp only [Act.put, List.setIfInBounds_toArray, List.set_cons_zero, List.set_cons_succ]
  refine wpAnyH_take (i := 7) (oi := { dst := some 29, op := Op.nilCheck (Operand.tmp 28), type := 0, pos := "array.go:173", after := #[{ on := 6, ground := Ground.data }], guard := none }) (v := ?_) rfl (by kernel_rfl) (by kernel_rfl) (by kernel_rfl) (fun _ _ _ h => h) (Or.inl ⟨by rfl, ?_⟩) C0 ?_
  rotate_left
  · intro W' hSw
    clear hSw
    go_simp <;> with_reducible rfl
  try simp only [Act.put, List.setIfInBounds_toArray, List.set_cons_zero, List.set_cons_succ]
  refine wpAnyH_take (i := 8) (oi := { dst := some 30, op := Op.fieldAddr 100 (Operand.tmp 29) 0, type := 0, pos := "array.go:173", after := #[{ on := 7, ground := Ground.data }], guard := none }) (v := ?_) rfl (by kernel_rfl) (by kernel_rfl) (by kernel_rfl) (fun _ _ _ h => h) (Or.inl ⟨by rfl, ?_⟩) C0 ?_
  rotate_left
  · intro W' hSw
    clear hSw
    go_simp <;> with_reducible rfl
  try simp only [Act.put, List.setIfInBounds_toArray, List.set_cons_zero, List.set_cons_succ]
  refine wpAnyH_take (i := 9) (oi := { dst := some 31, op := Op.fieldAddr 48 (Operand.tmp 30) 2, type := 0, pos := "array.go:173", after := #[{ on := 8, ground := Ground.data }], guard := none }) (v := ?_) rfl (by kernel_rfl) (by kernel_rfl) (by kernel_rfl) (fun _ _ _ h => h) (Or.inl ⟨by rfl, ?_⟩) C0 ?_
  rotate_left
  · intro W' hSw
    clear hSw
    go_simp <;> with_reducible rfl
  try simp only [Act.put, List.setIfInBounds_toArray, List.set_cons_zero, List.set_cons_succ]
  refine wpAnyH_take (i := 10) (oi := { dst := some 32, op := Op.load 3 (Operand.tmp 31), type := 3, pos := "array.go:173", after := #[{ on := 9, ground := Ground.data }], guard := none }) (v := ?_) rfl (by kernel_rfl) (by kernel_rfl) (by kernel_rfl) (fun _ _ _ h => h) (Or.inl ⟨by rfl, ?_⟩) C0 ?_
  rotate_left
  · intro W' hSw
    have y := (hSw.cell hp1).trans X2.out
    clear hSw
    go_simp <;> with_reducible rfl
  try simp only [Act.put, List.setIfInBounds_toArray, List.set_cons_zero, List.set_cons_succ]
  refine wpAnyH_take (i := 11) (oi := { dst := some 33, op := Op.binOp BinOp.add 3 (Operand.tmp 27) (Operand.tmp 32) 3, type := 3, pos := "array.go:173", after := #[{ on := 5, ground := Ground.data }, { on := 10, ground := Ground.data }], guard := none }) (v := ?_) rfl (by kernel_rfl) (by kernel_rfl) (by kernel_rfl) (fun _ _ _ h => h) (Or.inl ⟨by rfl, ?_⟩) C0 ?_
  rotate_left
  · intro W' hSw
    clear hSw
    go_simp <;> with_reducible rfl
  try simp only [Act.put, List.setIfInBounds_toArray, List.set_cons_zero, List.set_cons_succ]
  refine wpAnyH_take (i := 12) (oi := { dst := some 34, op := Op.slice 98 (Operand.tmp 25) (some (Operand.tmp 26)) (some (Operand.tmp 33)) none, type := 98, pos := "array.go:173", after := #[{ on := 3, ground := Ground.data }, { on := 4, ground := Ground.data }, { on := 11, ground := Ground.data }], guard := none }) (v := ?_) rfl (by kernel_rfl) (by kernel_rfl) (by kernel_rfl) (fun _ _ _ h => h) (Or.inl ⟨by rfl, ?_⟩) C0 ?_
  rotate_left
  · intro W' hSw
    have y1 := hSl1 W'
    have y2 := hSl2 W'
    clear hSw
    go_simp <;> with_reducible rfl
  try simp only [Act.put, List.setIfInBounds_toArray, List.set_cons_zero, List.set_cons_succ]
  refine wpAnyH_take (i := 13) (oi := { dst := some 4, op := Op.assign (Operand.tmp 34), type := 98, pos := "array.go:173", after := #[{ on := 12, ground := Ground.data }, { on := 0, ground := Ground.phase }, { on := 1, ground := Ground.phase }, { on := 2, ground := Ground.phase }, { on := 3, ground := Ground.phase }, { on := 4, ground := Ground.phase }, { on := 5, ground := Ground.phase }, { on := 6, ground := Ground.phase }, { on := 7, ground := Ground.phase }, { on := 8, ground := Ground.phase }, { on := 9, ground := Ground.phase }, { on := 10, ground := Ground.phase }, { on := 11, ground := Ground.phase }, { on := 12, ground := Ground.phase }], guard := none }) (v := ?_) rfl (by kernel_rfl) (by kernel_rfl) (by kernel_rfl) (fun _ _ _ h => h) (Or.inl ⟨by rfl, ?_⟩) C0 ?_
  rotate_left
  · intro W' hSw
    clear hSw
    go_simp <;> with_reducible rfl
  try simp only [Act.put, List.setIfInBounds_toArray, List.set_cons_zero, List.set_cons_succ]
  refine wpAnyH_take (i := 14) (oi := { dst := some 5, op := Op.assign (Operand.const (Value.bool true)), type := 4, pos := "array.go:173", after := #[{ on := 13, ground := Ground.chain }, { on := 0, ground := Ground.phase }, { on := 1, ground := Ground.phase }, { on := 2, ground := Ground.phase }, { on := 3, ground := Ground.phase }, { on := 4, ground := Ground.phase }, { on := 5, ground := Ground.phase }, { on := 6, ground := Ground.phase }, { on := 7, ground := Ground.phase }, { on := 8, ground := Ground.phase }, { on := 9, ground := Ground.phase }, { on := 10, ground := Ground.phase }, { on := 11, ground := Ground.phase }, { on := 12, ground := Ground.phase }, { on := 13, ground := Ground.phase }], guard := none }) (v := ?_) rfl (by kernel_rfl) (by kernel_rfl) (by kernel_rfl) (fun _ _ _ h => h) (Or.inl ⟨by rfl, ?_⟩) C0 ?_
  rotate_left
  · intro W' hSw
    clear hSw
    go_simp <;> with_reducible rfl
  try simp only [Act.put, List.setIfInBounds_toArray, List.set_cons_zero, List.set_cons_succ]
  refine wpAnyH_done (by kernel_rfl) ?_ _
  refine NoPanic.normal ?_
  go_wp2
  go_ret2
  exact ⟨rfl, below_step B1.out C0⟩
end Go.Proofs.YtlnmehcanphmiaaGreat
