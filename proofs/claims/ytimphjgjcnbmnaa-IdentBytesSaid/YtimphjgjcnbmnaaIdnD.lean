/-
  The document's Take of a geometry.
-/
import Derived.Test.YtimphjgjcnbmnaaIdnC
import Derived.Test.YtimphjgjcnbmnaaGeomR
import Derived.Test.YtimphjgjcnbmnaaInfo
namespace Go.Proofs.Ytimphjgjcnbmnaa
open Go.RowKit
set_option maxRecDepth 100000

/-- The first k numbers of bytes. -/
def nmL (l : List Nat) (k : Nat) : List Int := (List.range k).map (nmB l)
theorem nmL_succ (l : List Nat) (k : Nat) : nmL l (k + 1) = nmL l k ++ [nmB l k] := by
  unfold nmL
  rw [List.range_succ, List.map_append]
  rfl
theorem nmL_seven (l : List Nat) : nmL l 7 = [(gOf l).p, (gOf l).b, (gOf l).s, (gOf l).c, (gOf l).k, (gOf l).r, (gOf l).q] := rfl
theorem one_int_new (w : World) (x : Int) (t : TypeId) : ∀ j u, [Value.int .i64 x][j]? = some u → (w.alloc (.cells #[.int .i64 x] t)).cell? ((⟨w.heap.size, 0, none⟩ : Addr).add j) = some u := one_new w _ t
set_option maxHeartbeats 4000000 in
theorem RefIdTake_short (A : Option Addr) (n c : Nat) (l : List Nat) (w : World) (hr : R8 w A n l) (hn : n ≤ 1099511627776) (h : n ≠ 14) :
    Calls Try.prog 10 #[.slice A n c] w (Gives (.tuple #[(tkgG l).val, .int .i64 (tkgE l)]) w) := by
  have hl := hr.len
  have hE0 : tkgE l ≠ 0 := by
    unfold tkgE
    rw [hl]
    by_cases h1 : n < 14
    · rw [if_pos h1]; decide
    · rw [if_neg h1, if_pos (by omega)]; decide
  have hE : tkgG l = gZ := if_neg hE0
  rw [hE]
  have T0 := Lib.hid (CRow.new w #[.int .i64 0, .int .i64 0, .int .i64 0, .int .i64 0, .int .i64 0, .int .i64 0, .int .i64 0] 23)
  have B9 := Lib.hid (below_setRow (below_new w (.cells #[.int .i64 0, .int .i64 0, .int .i64 0, .int .i64 0, .int .i64 0, .int .i64 0, .int .i64 0] 23)) (Nat.le_refl _) #[.int .i64 0, .int .i64 0, .int .i64 0, .int .i64 0, .int .i64 0, .int .i64 0, .int .i64 0])
  have T9 := Lib.hid (T0.out.set #[.int .i64 0, .int .i64 0, .int .i64 0, .int .i64 0, .int .i64 0, .int .i64 0, .int .i64 0])
  rcases Nat.lt_or_gt_of_ne h with h1 | h1
  · have HE := Lib.hid (show tkgE l = 10 by unfold tkgE; rw [hl, if_pos h1])
    have d1 : decide ((n : Int) < 14) = true := decide_eq_true (by omega)
    clear hl hr h1 hE hE0 h
    go_enter Try.func10, Try.ntmps10
    go_wp2_with (with_reducible refine (?_ : wpList _ _ _ ({ dst := _, op := Op.store 23 _ _, type := _, pos := _, after := _, guard := _ } :: _) _ _); refine wpList_store_at rfl 23 _ _ rfl 7 size_geomA _ w.heap.size ?hx rfl _ T0.out.row rfl rfl (by simp [Value.oneCell']) ?_; (case hx => simp [Act.eval]))
    go_wp2
    refine bodyPost_ret (res_cell_tmp rfl _ _ w.heap.size 23 _ (0, 0) _ rfl T9.out.row Try.underlying23 rfl size_geomA) rfl ?_
    exact ⟨by rw [HE.out]; rfl, B9.out⟩
  · have HE := Lib.hid (show tkgE l = 13 by unfold tkgE; rw [hl, if_neg (by omega), if_pos h1])
    have d1 : decide ((n : Int) < 14) = false := decide_eq_false (by omega)
    have d2 : decide (14 < (n : Int)) = true := decide_eq_true (by omega)
    clear hl hr h1 hE hE0 h
    go_enter Try.func10, Try.ntmps10
    go_wp2_with (with_reducible refine (?_ : wpList _ _ _ ({ dst := _, op := Op.store 23 _ _, type := _, pos := _, after := _, guard := _ } :: _) _ _); refine wpList_store_at rfl 23 _ _ rfl 7 size_geomA _ w.heap.size ?hx rfl _ T0.out.row rfl rfl (by simp [Value.oneCell']) ?_; (case hx => simp [Act.eval]))
    go_wp2
    refine bodyPost_ret (res_cell_tmp rfl _ _ w.heap.size 23 _ (0, 0) _ rfl T9.out.row Try.underlying23 rfl size_geomA) rfl ?_
    exact ⟨by rw [HE.out]; rfl, B9.out⟩
set_option maxHeartbeats 8000000 in
theorem RefIdTake_full (A : Option Addr) (c : Nat) (l : List Nat) (w : World) (hr : R8 w A 14 l) :
    Calls Try.prog 10 #[.slice A 14 c] w (Gives (.tuple #[(tkgG l).val, .int .i64 (tkgE l)]) w) := by
  obtain ⟨ti, hti, hz0, hz1, hz2⟩ := info_parts info_int
  have HEN := Lib.hid (tkgE_not hr.len)
  have hl := hr.len
  obtain ⟨bb, oo, rfl, hbb0, hcc⟩ := hr.1.2 (by omega)
  obtain ⟨W1, hW⟩ : ∃ W1, W1 = w.alloc (.cells #[.int .i64 0, .int .i64 0, .int .i64 0, .int .i64 0, .int .i64 0, .int .i64 0, .int .i64 0] 23) := ⟨_, rfl⟩
  have B1 := Lib.hid (show Below w.heap.size w W1 by rw [hW]; exact below_new w _)
  have hbb : bb < W1.heap.size := Nat.lt_of_lt_of_le hbb0 B1.out.size
  have T1 := Lib.hid (show CRow W1 w.heap.size 23 #[.int .i64 0, .int .i64 0, .int .i64 0, .int .i64 0, .int .i64 0, .int .i64 0, .int .i64 0] by rw [hW]; exact CRow.new w _ _)
  have HX8 := Lib.hid (show ∀ j, j < 14 → ∃ x : Nat, x < 256 ∧ l.getD j 0 = x ∧ W1.cell? ⟨bb, oo + j, none⟩ = some (.int .u8 (x : Int)) from fun j hj => by
    have hj2 : j < l.length := by omega
    refine ⟨l[j], hr.2 _ (List.getElem_mem hj2), by rw [List.getD_eq_getElem?_getD, List.getElem?_eq_getElem hj2]; rfl, ?_⟩
    rw [B1.out.cell (p := ⟨bb, oo + j, none⟩) hbb0, hcc j (by omega)]
    unfold U8
    rw [List.getElem?_map, List.getElem?_eq_getElem hj2]
    rfl)
  have HW := Lib.hid hW.symm
  clear hr hl hcc hW hbb0
  go_enter Try.func10, Try.ntmps10
  go_wp2
  rw [HW.out]
  clear HW
  go_loopw [4, 5] (fun v iv wr => ∃ k p : Nat, k ≤ 7 ∧ Hid (p = 2 * k) ∧ iv = .int .i64 (p : Int) ∧ Hid (wr.ownsRow W1.heap.size 3 1 v k (I64 (nmL l k))) ∧ Hid (Below W1.heap.size W1 wr)) (fun _ iv _ => 14 - (intOf iv).toNat)
  case atStart => exact ⟨0, 0, Nat.zero_le _, Lib.hid rfl, rfl, World.ownsRow_nil _ _ _ _, Below.refl _ _⟩
  case round =>
    obtain ⟨k, p, hk, HP, rfl, HO, HB⟩ := hrel
    rename World => wr
    by_cases hlt : k < 7
    · have hp := HP.out
      have hp14 : p < 13 := by omega
      have d1 : decide ((p : Int) < 14) = true := decide_eq_true (by omega)
      have hp0 : (0 : Int) ≤ (p : Int) := by omega
      have hp3 : (0 : Int) ≤ (p : Int) + 1 := by omega
      have hp1 : (p : Int) < 14 := by omega
      have hp2 : (p : Int) + 1 < 14 := by omega
      have hpt : ((p : Int) + 1).toNat = p + 1 := by omega
      have hpw : IntKind.i64.wrap ((p : Int) + 1) = (p : Int) + 1 := IntWalk.i64_in _ (by omega)
      obtain ⟨x, hx, hx2, hx3⟩ := HX8.out p (by omega)
      obtain ⟨y, hy, hy2, hy3⟩ := HX8.out (p + 1) (by omega)
      have hxw : IntKind.i64.wrap (x : Int) = (x : Int) := IntWalk.i64_in _ (by omega)
      have hyw : IntKind.i64.wrap (y : Int) = (y : Int) := IntWalk.i64_in _ (by omega)
      obtain ⟨N, q0, q1, q2, hN⟩ : ∃ N : Nat, IntKind.i64.wrap (256 * (y : Int)) = 256 * (y : Int) ∧ IntKind.i64.wrap (N : Int) = (N : Int) ∧ (x : Int) + 256 * (y : Int) = (N : Int) ∧ nmB l k = (N : Int) := by
        refine ⟨x + 256 * y, IntWalk.i64_in _ (by omega), ?_, by omega, ?_⟩
        · exact IntWalk.i64_in _ (by omega)
        · unfold nmB
          rw [← hp, hx2, hy2]
      have HZ := Lib.hid (show nmL l (k + 1) = nmL l k ++ [(N : Int)] by rw [nmL_succ, hN])
      have HX := Lib.hid hx3
      have HY := Lib.hid hy3
      obtain ⟨A7, c7, rfl⟩ := own_form HO.out
      clear hx2 hy2 hx3 hy3 hN hp HX8
      go_wp2
      have HN := Lib.hid (one_int_new wr.drew (N : Int) 3)
      have HOn := Lib.hid (show ((wr.drew.alloc (.cells #[.int .i64 (N : Int)] 3))).ownsRow W1.heap.size 3 1 (.slice A7 k c7) k (I64 (nmL l k)) from HO.out.alloc _)
      refine wp_region_noPanic ?_
      refine wp_region_held_drew (S := fun w' => Below W1.heap.size W1 w') (by kernel_rfl) (HB.out.drew) (fun C0 => ?_)
      refine wpAnyH_take (i := 0) (oi := { dst := some 19, op := Op.move (Operand.tmp 4), type := 46, pos := "ref.go:29", after := #[], guard := none }) (v := ?_) rfl (by kernel_rfl) (by kernel_rfl) (by kernel_rfl) (fun _ _ _ h => h) (Or.inl ⟨by rfl, ?_⟩) C0 ?_
      rotate_left
      · intro W' hSw
        clear hSw
        go_simp <;> with_reducible rfl
      try simp only [Act.put, List.setIfInBounds_toArray, List.set_cons_zero, List.set_cons_succ]
      refine wpAnyH_take (i := 1) (oi := { dst := some 20, op := Op.move (Operand.tmp 0), type := 24, pos := "ref.go:29", after := #[], guard := none }) (v := ?_) rfl (by kernel_rfl) (by kernel_rfl) (by kernel_rfl) (fun _ _ _ h => h) (Or.inl ⟨by rfl, ?_⟩) C0 ?_
      rotate_left
      · intro W' hSw
        clear hSw
        go_simp <;> with_reducible rfl
      try simp only [Act.put, List.setIfInBounds_toArray, List.set_cons_zero, List.set_cons_succ]
      refine wpAnyH_take (i := 2) (oi := { dst := some 21, op := Op.move (Operand.tmp 5), type := 3, pos := "ref.go:29", after := #[], guard := none }) (v := ?_) rfl (by kernel_rfl) (by kernel_rfl) (by kernel_rfl) (fun _ _ _ h => h) (Or.inl ⟨by rfl, ?_⟩) C0 ?_
      rotate_left
      · intro W' hSw
        clear hSw
        go_simp <;> with_reducible rfl
      try simp only [Act.put, List.setIfInBounds_toArray, List.set_cons_zero, List.set_cons_succ]
      refine wpAnyH_take (i := 3) (oi := { dst := some 22, op := Op.indexAddr 24 (Operand.tmp 20) (Operand.tmp 21), type := 0, pos := "ref.go:29", after := #[{ on := 1, ground := Ground.data }, { on := 2, ground := Ground.data }], guard := none }) (v := ?_) rfl (by kernel_rfl) (by kernel_rfl) (by kernel_rfl) (fun _ _ _ h => h) (Or.inl ⟨by rfl, ?_⟩) C0 ?_
      rotate_left
      · intro W' hSw
        clear hSw
        go_simp <;> with_reducible rfl
      try simp only [Act.put, List.setIfInBounds_toArray, List.set_cons_zero, List.set_cons_succ]
      refine wpAnyH_take (i := 4) (oi := { dst := some 23, op := Op.load 5 (Operand.tmp 22), type := 5, pos := "ref.go:29", after := #[{ on := 3, ground := Ground.data }], guard := none }) (v := ?_) rfl (by kernel_rfl) (by kernel_rfl) (by kernel_rfl) (fun _ _ _ h => h) (Or.inl ⟨by rfl, ?_⟩) C0 ?_
      rotate_left
      · intro W' hSw
        have hc := (hSw.cell (p := ⟨bb, oo + p, none⟩) hbb).trans HX.out
        clear hSw
        go_simp <;> with_reducible rfl
      try simp only [Act.put, List.setIfInBounds_toArray, List.set_cons_zero, List.set_cons_succ]
      refine wpAnyH_take (i := 5) (oi := { dst := some 24, op := Op.convert 5 3 (Operand.tmp 23), type := 3, pos := "ref.go:29", after := #[{ on := 4, ground := Ground.data }], guard := none }) (v := ?_) rfl (by kernel_rfl) (by kernel_rfl) (by kernel_rfl) (fun _ _ _ h => h) (Or.inl ⟨by rfl, ?_⟩) C0 ?_
      rotate_left
      · intro W' hSw
        clear hSw
        go_simp <;> with_reducible rfl
      try simp only [Act.put, List.setIfInBounds_toArray, List.set_cons_zero, List.set_cons_succ]
      refine wpAnyH_take (i := 6) (oi := { dst := some 25, op := Op.move (Operand.tmp 0), type := 24, pos := "ref.go:29", after := #[], guard := none }) (v := ?_) rfl (by kernel_rfl) (by kernel_rfl) (by kernel_rfl) (fun _ _ _ h => h) (Or.inl ⟨by rfl, ?_⟩) C0 ?_
      rotate_left
      · intro W' hSw
        clear hSw
        go_simp <;> with_reducible rfl
      try simp only [Act.put, List.setIfInBounds_toArray, List.set_cons_zero, List.set_cons_succ]
      refine wpAnyH_take (i := 7) (oi := { dst := some 26, op := Op.move (Operand.tmp 5), type := 3, pos := "ref.go:29", after := #[], guard := none }) (v := ?_) rfl (by kernel_rfl) (by kernel_rfl) (by kernel_rfl) (fun _ _ _ h => h) (Or.inl ⟨by rfl, ?_⟩) C0 ?_
      rotate_left
      · intro W' hSw
        clear hSw
        go_simp <;> with_reducible rfl
      try simp only [Act.put, List.setIfInBounds_toArray, List.set_cons_zero, List.set_cons_succ]
      refine wpAnyH_take (i := 8) (oi := { dst := some 27, op := Op.binOp BinOp.add 3 (Operand.tmp 26) (Operand.const (Value.int IntKind.i64 1)) 3, type := 3, pos := "ref.go:29", after := #[{ on := 7, ground := Ground.data }], guard := none }) (v := ?_) rfl (by kernel_rfl) (by kernel_rfl) (by kernel_rfl) (fun _ _ _ h => h) (Or.inl ⟨by rfl, ?_⟩) C0 ?_
      rotate_left
      · intro W' hSw
        clear hSw
        go_simp <;> with_reducible rfl
      try simp only [Act.put, List.setIfInBounds_toArray, List.set_cons_zero, List.set_cons_succ]
      refine wpAnyH_take (i := 9) (oi := { dst := some 28, op := Op.indexAddr 24 (Operand.tmp 25) (Operand.tmp 27), type := 0, pos := "ref.go:29", after := #[{ on := 6, ground := Ground.data }, { on := 8, ground := Ground.data }], guard := none }) (v := ?_) rfl (by kernel_rfl) (by kernel_rfl) (by kernel_rfl) (fun _ _ _ h => h) (Or.inl ⟨by rfl, ?_⟩) C0 ?_
      rotate_left
      · intro W' hSw
        clear hSw
        go_simp <;> with_reducible rfl
      try simp only [Act.put, List.setIfInBounds_toArray, List.set_cons_zero, List.set_cons_succ]
      refine wpAnyH_take (i := 10) (oi := { dst := some 29, op := Op.load 5 (Operand.tmp 28), type := 5, pos := "ref.go:29", after := #[{ on := 9, ground := Ground.data }], guard := none }) (v := ?_) rfl (by kernel_rfl) (by kernel_rfl) (by kernel_rfl) (fun _ _ _ h => h) (Or.inl ⟨by rfl, ?_⟩) C0 ?_
      rotate_left
      · intro W' hSw
        have hc := (hSw.cell (p := ⟨bb, oo + (p + 1), none⟩) hbb).trans HY.out
        clear hSw
        go_simp <;> with_reducible rfl
      try simp only [Act.put, List.setIfInBounds_toArray, List.set_cons_zero, List.set_cons_succ]
      refine wpAnyH_take (i := 11) (oi := { dst := some 30, op := Op.convert 5 3 (Operand.tmp 29), type := 3, pos := "ref.go:29", after := #[{ on := 10, ground := Ground.data }], guard := none }) (v := ?_) rfl (by kernel_rfl) (by kernel_rfl) (by kernel_rfl) (fun _ _ _ h => h) (Or.inl ⟨by rfl, ?_⟩) C0 ?_
      rotate_left
      · intro W' hSw
        clear hSw
        go_simp <;> with_reducible rfl
      try simp only [Act.put, List.setIfInBounds_toArray, List.set_cons_zero, List.set_cons_succ]
      refine wpAnyH_take (i := 12) (oi := { dst := some 31, op := Op.binOp BinOp.mul 3 (Operand.const (Value.int IntKind.i64 256)) (Operand.tmp 30) 3, type := 3, pos := "ref.go:29", after := #[{ on := 11, ground := Ground.data }], guard := none }) (v := ?_) rfl (by kernel_rfl) (by kernel_rfl) (by kernel_rfl) (fun _ _ _ h => h) (Or.inl ⟨by rfl, ?_⟩) C0 ?_
      rotate_left
      · intro W' hSw
        clear hSw
        go_simp <;> with_reducible rfl
      try simp only [Act.put, List.setIfInBounds_toArray, List.set_cons_zero, List.set_cons_succ]
      refine wpAnyH_take (i := 13) (oi := { dst := some 32, op := Op.binOp BinOp.add 3 (Operand.tmp 24) (Operand.tmp 31) 3, type := 3, pos := "ref.go:29", after := #[{ on := 5, ground := Ground.data }, { on := 12, ground := Ground.data }], guard := none }) (v := ?_) rfl (by kernel_rfl) (by kernel_rfl) (by kernel_rfl) (fun _ _ _ h => h) (Or.inl ⟨by rfl, ?_⟩) C0 ?_
      rotate_left
      · intro W' hSw
        clear hSw
        go_simp <;> with_reducible rfl
      try simp only [Act.put, List.setIfInBounds_toArray, List.set_cons_zero, List.set_cons_succ]
      refine wpAnyH_ready (rs := [14]) (by kernel_rfl) (by simp) ?_
      refine AllReadyH.cons (o := { dst := some 33, op := Op.buildSlice 46 1 #[(0, Operand.tmp 32)], type := 46, pos := "ref.go:29", after := #[{ on := 13, ground := Ground.data }], guard := none }) rfl (fun K hK => ?_) AllReadyH.nil
      go_simp
      refine hK.out _ _ (C0.alloc C0.size _) (fun C1 => ?_)
      clear hK K
      try simp only [Act.put, List.setIfInBounds_toArray, List.set_cons_zero, List.set_cons_succ]
      skip
      refine wpAnyH_ready (rs := [15]) (by kernel_rfl) (by simp) ?_
      refine AllReadyH.cons (o := { dst := some 34, op := Op.call { callee := Callee.builtin Builtin.append, args := #[Operand.tmp 19, Operand.tmp 33], argTypes := #[46, 46] }, type := 46, pos := "ref.go:29", after := #[{ on := 0, ground := Ground.data }, { on := 14, ground := Ground.data }], guard := none }) rfl (fun K hK => ?_) AllReadyH.nil
      rw [if_pos (by rfl)]
      refine wp_append_lies _ (.tmp 19) (.tmp 33) 46 rfl W1.heap.size 3 ti _ 1 8 Try.underlying46 hti hz0 hz1 hz2 rfl (by decide) (.slice A7 k c7) k _ (by simp [Act.eval]) HOn.out ⟨wr.heap.size, 0, none⟩ 1 1 [Value.int .i64 (N : Int)] (by simp [Act.eval]) rfl HN.out (by simp [Value.oneCell']) (by decide) (by unfold maxLen; omega) (by omega) (by have := HB.out.size; simp; omega) _ rfl ?_
      intro gg cap w3 hown' hgrow _ _
      have HO2 := Lib.hid (show w3.ownsRow W1.heap.size 3 1 (.slice (some ⟨gg, 0, none⟩) (k + 1) cap) (k + 1) (I64 (nmL l (k + 1))) by rw [HZ.out, I64_append]; exact hown')
      have HB2 := Lib.hid ((HB.out.drew.alloc (w := wr.drew) HB.out.size (.cells #[.int .i64 (N : Int)] 3)).grown hgrow (by have := HB.out.size; simp; omega) (fun j hj => (HOn.out.lt j hj).1))
      clear hown' hgrow
      refine hK.out _ _ HB2.out (fun C2 => ?_)
      clear hK K
      try simp only [Act.put, List.setIfInBounds_toArray, List.set_cons_zero, List.set_cons_succ]
      refine wpAnyH_take (i := 16) (oi := { dst := some 4, op := Op.assign (Operand.tmp 34), type := 46, pos := "ref.go:29", after := #[{ on := 15, ground := Ground.data }, { on := 15, ground := Ground.chain }, { on := 0, ground := Ground.phase }, { on := 1, ground := Ground.phase }, { on := 2, ground := Ground.phase }, { on := 3, ground := Ground.phase }, { on := 4, ground := Ground.phase }, { on := 5, ground := Ground.phase }, { on := 6, ground := Ground.phase }, { on := 7, ground := Ground.phase }, { on := 8, ground := Ground.phase }, { on := 9, ground := Ground.phase }, { on := 10, ground := Ground.phase }, { on := 11, ground := Ground.phase }, { on := 12, ground := Ground.phase }, { on := 13, ground := Ground.phase }, { on := 14, ground := Ground.phase }, { on := 15, ground := Ground.phase }], guard := none }) (v := ?_) rfl (by kernel_rfl) (by kernel_rfl) (by kernel_rfl) (fun _ _ _ h => h) (Or.inl ⟨by rfl, ?_⟩) C2 ?_
      rotate_left
      · intro W' hSw
        clear hSw
        go_simp <;> with_reducible rfl
      try simp only [Act.put, List.setIfInBounds_toArray, List.set_cons_zero, List.set_cons_succ]
      refine wpAnyH_done (by kernel_rfl) ?_ _
      refine NoPanic.normal ?_
      go_wp2
      go_roundw
      case rel => exact ⟨k + 1, p + 2, by omega, Lib.hid (by have := HP.out; omega), by go_num, HO2, HB2⟩
      case measure => simp [intOf]; omega
    · obtain rfl : k = 7 := by omega
      obtain rfl : p = 14 := HP.out
      obtain ⟨A7, c7, rfl⟩ := own_form HO.out
      have hr7 := Rd.own HO.out
      rw [nmL_seven] at hr7
      have HRI := Lib.hid (fun W => RefRight_any (gOf l) W)
      have hce : tkgE l = 0 ∧ (gOf l).ok = true ∨ tkgE l = 11 ∧ (gOf l).ok = false := HEN.out
      have HG := Lib.hid (show tkgG l = if tkgE l = 0 then gOf l else gZ from rfl)
      clear HEN HX8 HO hbb HP
      generalize tkgE l = E at *
      generalize tkgG l = G at *
      generalize gOf l = o at *
      obtain ⟨b7, o7, rfl, hb7, hc7⟩ := hr7.2 (by omega)
      have H0 := Lib.hid (show wr.cell? ⟨b7, o7, none⟩ = some (.int .i64 o.p) from hc7 0 (by omega))
      have H1 := Lib.hid (show wr.cell? ⟨b7, o7 + 1, none⟩ = some (.int .i64 o.b) from hc7 1 (by omega))
      have H2 := Lib.hid (show wr.cell? ⟨b7, o7 + 2, none⟩ = some (.int .i64 o.s) from hc7 2 (by omega))
      have H3 := Lib.hid (show wr.cell? ⟨b7, o7 + 3, none⟩ = some (.int .i64 o.c) from hc7 3 (by omega))
      have H4 := Lib.hid (show wr.cell? ⟨b7, o7 + 4, none⟩ = some (.int .i64 o.k) from hc7 4 (by omega))
      have H5 := Lib.hid (show wr.cell? ⟨b7, o7 + 5, none⟩ = some (.int .i64 o.r) from hc7 5 (by omega))
      have H6 := Lib.hid (show wr.cell? ⟨b7, o7 + 6, none⟩ = some (.int .i64 o.q) from hc7 6 (by omega))
      have HCE := Lib.hid hce
      have T3 := Lib.hid (T1.out.below HB.out)
      have B3 := Lib.hid (below_step B1.out HB.out)
      clear hce hr7 hc7 T1 HB
      simp only [Gm.val] at HRI
      go_wp2
      refine wp_region_noPanic ?_
      refine wp_region_held_drew (S := fun w' => Below wr.heap.size wr w') (by kernel_rfl) ((Below.refl _ _).drew) (fun C0 => ?_)
      refine wpAnyH_take (i := 0) (oi := { dst := some 35, op := Op.move (Operand.tmp 4), type := 46, pos := "ref.go:31", after := #[], guard := none }) (v := ?_) rfl (by kernel_rfl) (by kernel_rfl) (by kernel_rfl) (fun _ _ _ h => h) (Or.inl ⟨by rfl, ?_⟩) C0 ?_
      rotate_left
      · intro W' hSw
        clear hSw
        go_simp <;> with_reducible rfl
      try simp only [Act.put, List.setIfInBounds_toArray, List.set_cons_zero, List.set_cons_succ]
      refine wpAnyH_take (i := 1) (oi := { dst := some 36, op := Op.indexAddr 46 (Operand.tmp 35) (Operand.const (Value.int IntKind.i64 0)), type := 0, pos := "ref.go:31", after := #[{ on := 0, ground := Ground.data }], guard := none }) (v := ?_) rfl (by kernel_rfl) (by kernel_rfl) (by kernel_rfl) (fun _ _ _ h => h) (Or.inl ⟨by rfl, ?_⟩) C0 ?_
      rotate_left
      · intro W' hSw
        clear hSw
        go_simp <;> with_reducible rfl
      try simp only [Act.put, List.setIfInBounds_toArray, List.set_cons_zero, List.set_cons_succ]
      refine wpAnyH_take (i := 2) (oi := { dst := some 37, op := Op.load 3 (Operand.tmp 36), type := 3, pos := "ref.go:31", after := #[{ on := 1, ground := Ground.data }], guard := none }) (v := ?_) rfl (by kernel_rfl) (by kernel_rfl) (by kernel_rfl) (fun _ _ _ h => h) (Or.inl ⟨by rfl, ?_⟩) C0 ?_
      rotate_left
      · intro W' hSw
        have hc := (hSw.cell (p := ⟨b7, o7, none⟩) hb7).trans H0.out
        clear hSw
        go_simp <;> with_reducible rfl
      try simp only [Act.put, List.setIfInBounds_toArray, List.set_cons_zero, List.set_cons_succ]
      refine wpAnyH_take (i := 3) (oi := { dst := some 38, op := Op.move (Operand.tmp 4), type := 46, pos := "ref.go:31", after := #[], guard := none }) (v := ?_) rfl (by kernel_rfl) (by kernel_rfl) (by kernel_rfl) (fun _ _ _ h => h) (Or.inl ⟨by rfl, ?_⟩) C0 ?_
      rotate_left
      · intro W' hSw
        clear hSw
        go_simp <;> with_reducible rfl
      try simp only [Act.put, List.setIfInBounds_toArray, List.set_cons_zero, List.set_cons_succ]
      refine wpAnyH_take (i := 4) (oi := { dst := some 39, op := Op.indexAddr 46 (Operand.tmp 38) (Operand.const (Value.int IntKind.i64 1)), type := 0, pos := "ref.go:31", after := #[{ on := 3, ground := Ground.data }], guard := none }) (v := ?_) rfl (by kernel_rfl) (by kernel_rfl) (by kernel_rfl) (fun _ _ _ h => h) (Or.inl ⟨by rfl, ?_⟩) C0 ?_
      rotate_left
      · intro W' hSw
        clear hSw
        go_simp <;> with_reducible rfl
      try simp only [Act.put, List.setIfInBounds_toArray, List.set_cons_zero, List.set_cons_succ]
      refine wpAnyH_take (i := 5) (oi := { dst := some 40, op := Op.load 3 (Operand.tmp 39), type := 3, pos := "ref.go:31", after := #[{ on := 4, ground := Ground.data }], guard := none }) (v := ?_) rfl (by kernel_rfl) (by kernel_rfl) (by kernel_rfl) (fun _ _ _ h => h) (Or.inl ⟨by rfl, ?_⟩) C0 ?_
      rotate_left
      · intro W' hSw
        have hc := (hSw.cell (p := ⟨b7, o7 + 1, none⟩) hb7).trans H1.out
        clear hSw
        go_simp <;> with_reducible rfl
      try simp only [Act.put, List.setIfInBounds_toArray, List.set_cons_zero, List.set_cons_succ]
      refine wpAnyH_take (i := 6) (oi := { dst := some 41, op := Op.move (Operand.tmp 4), type := 46, pos := "ref.go:31", after := #[], guard := none }) (v := ?_) rfl (by kernel_rfl) (by kernel_rfl) (by kernel_rfl) (fun _ _ _ h => h) (Or.inl ⟨by rfl, ?_⟩) C0 ?_
      rotate_left
      · intro W' hSw
        clear hSw
        go_simp <;> with_reducible rfl
      try simp only [Act.put, List.setIfInBounds_toArray, List.set_cons_zero, List.set_cons_succ]
      refine wpAnyH_take (i := 7) (oi := { dst := some 42, op := Op.indexAddr 46 (Operand.tmp 41) (Operand.const (Value.int IntKind.i64 2)), type := 0, pos := "ref.go:31", after := #[{ on := 6, ground := Ground.data }], guard := none }) (v := ?_) rfl (by kernel_rfl) (by kernel_rfl) (by kernel_rfl) (fun _ _ _ h => h) (Or.inl ⟨by rfl, ?_⟩) C0 ?_
      rotate_left
      · intro W' hSw
        clear hSw
        go_simp <;> with_reducible rfl
      try simp only [Act.put, List.setIfInBounds_toArray, List.set_cons_zero, List.set_cons_succ]
      refine wpAnyH_take (i := 8) (oi := { dst := some 43, op := Op.load 3 (Operand.tmp 42), type := 3, pos := "ref.go:31", after := #[{ on := 7, ground := Ground.data }], guard := none }) (v := ?_) rfl (by kernel_rfl) (by kernel_rfl) (by kernel_rfl) (fun _ _ _ h => h) (Or.inl ⟨by rfl, ?_⟩) C0 ?_
      rotate_left
      · intro W' hSw
        have hc := (hSw.cell (p := ⟨b7, o7 + 2, none⟩) hb7).trans H2.out
        clear hSw
        go_simp <;> with_reducible rfl
      try simp only [Act.put, List.setIfInBounds_toArray, List.set_cons_zero, List.set_cons_succ]
      refine wpAnyH_take (i := 9) (oi := { dst := some 44, op := Op.move (Operand.tmp 4), type := 46, pos := "ref.go:31", after := #[], guard := none }) (v := ?_) rfl (by kernel_rfl) (by kernel_rfl) (by kernel_rfl) (fun _ _ _ h => h) (Or.inl ⟨by rfl, ?_⟩) C0 ?_
      rotate_left
      · intro W' hSw
        clear hSw
        go_simp <;> with_reducible rfl
      try simp only [Act.put, List.setIfInBounds_toArray, List.set_cons_zero, List.set_cons_succ]
      refine wpAnyH_take (i := 10) (oi := { dst := some 45, op := Op.indexAddr 46 (Operand.tmp 44) (Operand.const (Value.int IntKind.i64 3)), type := 0, pos := "ref.go:31", after := #[{ on := 9, ground := Ground.data }], guard := none }) (v := ?_) rfl (by kernel_rfl) (by kernel_rfl) (by kernel_rfl) (fun _ _ _ h => h) (Or.inl ⟨by rfl, ?_⟩) C0 ?_
      rotate_left
      · intro W' hSw
        clear hSw
        go_simp <;> with_reducible rfl
      try simp only [Act.put, List.setIfInBounds_toArray, List.set_cons_zero, List.set_cons_succ]
      refine wpAnyH_take (i := 11) (oi := { dst := some 46, op := Op.load 3 (Operand.tmp 45), type := 3, pos := "ref.go:31", after := #[{ on := 10, ground := Ground.data }], guard := none }) (v := ?_) rfl (by kernel_rfl) (by kernel_rfl) (by kernel_rfl) (fun _ _ _ h => h) (Or.inl ⟨by rfl, ?_⟩) C0 ?_
      rotate_left
      · intro W' hSw
        have hc := (hSw.cell (p := ⟨b7, o7 + 3, none⟩) hb7).trans H3.out
        clear hSw
        go_simp <;> with_reducible rfl
      try simp only [Act.put, List.setIfInBounds_toArray, List.set_cons_zero, List.set_cons_succ]
      refine wpAnyH_take (i := 12) (oi := { dst := some 47, op := Op.move (Operand.tmp 4), type := 46, pos := "ref.go:31", after := #[], guard := none }) (v := ?_) rfl (by kernel_rfl) (by kernel_rfl) (by kernel_rfl) (fun _ _ _ h => h) (Or.inl ⟨by rfl, ?_⟩) C0 ?_
      rotate_left
      · intro W' hSw
        clear hSw
        go_simp <;> with_reducible rfl
      try simp only [Act.put, List.setIfInBounds_toArray, List.set_cons_zero, List.set_cons_succ]
      refine wpAnyH_take (i := 13) (oi := { dst := some 48, op := Op.indexAddr 46 (Operand.tmp 47) (Operand.const (Value.int IntKind.i64 4)), type := 0, pos := "ref.go:31", after := #[{ on := 12, ground := Ground.data }], guard := none }) (v := ?_) rfl (by kernel_rfl) (by kernel_rfl) (by kernel_rfl) (fun _ _ _ h => h) (Or.inl ⟨by rfl, ?_⟩) C0 ?_
      rotate_left
      · intro W' hSw
        clear hSw
        go_simp <;> with_reducible rfl
      try simp only [Act.put, List.setIfInBounds_toArray, List.set_cons_zero, List.set_cons_succ]
      refine wpAnyH_take (i := 14) (oi := { dst := some 49, op := Op.load 3 (Operand.tmp 48), type := 3, pos := "ref.go:31", after := #[{ on := 13, ground := Ground.data }], guard := none }) (v := ?_) rfl (by kernel_rfl) (by kernel_rfl) (by kernel_rfl) (fun _ _ _ h => h) (Or.inl ⟨by rfl, ?_⟩) C0 ?_
      rotate_left
      · intro W' hSw
        have hc := (hSw.cell (p := ⟨b7, o7 + 4, none⟩) hb7).trans H4.out
        clear hSw
        go_simp <;> with_reducible rfl
      try simp only [Act.put, List.setIfInBounds_toArray, List.set_cons_zero, List.set_cons_succ]
      refine wpAnyH_take (i := 15) (oi := { dst := some 50, op := Op.move (Operand.tmp 4), type := 46, pos := "ref.go:31", after := #[], guard := none }) (v := ?_) rfl (by kernel_rfl) (by kernel_rfl) (by kernel_rfl) (fun _ _ _ h => h) (Or.inl ⟨by rfl, ?_⟩) C0 ?_
      rotate_left
      · intro W' hSw
        clear hSw
        go_simp <;> with_reducible rfl
      try simp only [Act.put, List.setIfInBounds_toArray, List.set_cons_zero, List.set_cons_succ]
      refine wpAnyH_take (i := 16) (oi := { dst := some 51, op := Op.indexAddr 46 (Operand.tmp 50) (Operand.const (Value.int IntKind.i64 5)), type := 0, pos := "ref.go:31", after := #[{ on := 15, ground := Ground.data }], guard := none }) (v := ?_) rfl (by kernel_rfl) (by kernel_rfl) (by kernel_rfl) (fun _ _ _ h => h) (Or.inl ⟨by rfl, ?_⟩) C0 ?_
      rotate_left
      · intro W' hSw
        clear hSw
        go_simp <;> with_reducible rfl
      try simp only [Act.put, List.setIfInBounds_toArray, List.set_cons_zero, List.set_cons_succ]
      refine wpAnyH_take (i := 17) (oi := { dst := some 52, op := Op.load 3 (Operand.tmp 51), type := 3, pos := "ref.go:31", after := #[{ on := 16, ground := Ground.data }], guard := none }) (v := ?_) rfl (by kernel_rfl) (by kernel_rfl) (by kernel_rfl) (fun _ _ _ h => h) (Or.inl ⟨by rfl, ?_⟩) C0 ?_
      rotate_left
      · intro W' hSw
        have hc := (hSw.cell (p := ⟨b7, o7 + 5, none⟩) hb7).trans H5.out
        clear hSw
        go_simp <;> with_reducible rfl
      try simp only [Act.put, List.setIfInBounds_toArray, List.set_cons_zero, List.set_cons_succ]
      refine wpAnyH_take (i := 18) (oi := { dst := some 53, op := Op.move (Operand.tmp 4), type := 46, pos := "ref.go:31", after := #[], guard := none }) (v := ?_) rfl (by kernel_rfl) (by kernel_rfl) (by kernel_rfl) (fun _ _ _ h => h) (Or.inl ⟨by rfl, ?_⟩) C0 ?_
      rotate_left
      · intro W' hSw
        clear hSw
        go_simp <;> with_reducible rfl
      try simp only [Act.put, List.setIfInBounds_toArray, List.set_cons_zero, List.set_cons_succ]
      refine wpAnyH_take (i := 19) (oi := { dst := some 54, op := Op.indexAddr 46 (Operand.tmp 53) (Operand.const (Value.int IntKind.i64 6)), type := 0, pos := "ref.go:31", after := #[{ on := 18, ground := Ground.data }], guard := none }) (v := ?_) rfl (by kernel_rfl) (by kernel_rfl) (by kernel_rfl) (fun _ _ _ h => h) (Or.inl ⟨by rfl, ?_⟩) C0 ?_
      rotate_left
      · intro W' hSw
        clear hSw
        go_simp <;> with_reducible rfl
      try simp only [Act.put, List.setIfInBounds_toArray, List.set_cons_zero, List.set_cons_succ]
      refine wpAnyH_take (i := 20) (oi := { dst := some 55, op := Op.load 3 (Operand.tmp 54), type := 3, pos := "ref.go:31", after := #[{ on := 19, ground := Ground.data }], guard := none }) (v := ?_) rfl (by kernel_rfl) (by kernel_rfl) (by kernel_rfl) (fun _ _ _ h => h) (Or.inl ⟨by rfl, ?_⟩) C0 ?_
      rotate_left
      · intro W' hSw
        have hc := (hSw.cell (p := ⟨b7, o7 + 6, none⟩) hb7).trans H6.out
        clear hSw
        go_simp <;> with_reducible rfl
      try simp only [Act.put, List.setIfInBounds_toArray, List.set_cons_zero, List.set_cons_succ]
      refine wpAnyH_take (i := 21) (oi := { dst := some 56, op := Op.build 23 #[(0, Operand.tmp 37), (1, Operand.tmp 40), (2, Operand.tmp 43), (3, Operand.tmp 46), (4, Operand.tmp 49), (5, Operand.tmp 52), (6, Operand.tmp 55)], type := 23, pos := "ref.go:31", after := #[{ on := 2, ground := Ground.data }, { on := 5, ground := Ground.data }, { on := 8, ground := Ground.data }, { on := 11, ground := Ground.data }, { on := 14, ground := Ground.data }, { on := 17, ground := Ground.data }, { on := 20, ground := Ground.data }], guard := none }) (v := ?_) rfl (by kernel_rfl) (by kernel_rfl) (by kernel_rfl) (fun _ _ _ h => h) (Or.inl ⟨by rfl, ?_⟩) C0 ?_
      rotate_left
      · intro W' hSw
        clear hSw
        go_simp <;> with_reducible rfl
      try simp only [Act.put, List.setIfInBounds_toArray, List.set_cons_zero, List.set_cons_succ]
      refine wpAnyH_ready (rs := [22]) (by kernel_rfl) (by simp) ?_
      refine AllReadyH.cons (o := { dst := some 6, op := Op.alloc 23, type := 0, pos := "ref.go:31", after := #[], guard := none }) rfl (fun K hK => ?_) AllReadyH.nil
      go_simp
      refine hK.out _ _ (C0.alloc C0.size _) (fun C1 => ?_)
      clear hK K
      try simp only [Act.put, List.setIfInBounds_toArray, List.set_cons_zero, List.set_cons_succ]
      skip
      refine wpAnyH_ready (rs := [23]) (by kernel_rfl) (by simp) ?_
      refine AllReadyH.cons (o := { dst := none, op := Op.store 23 (Operand.tmp 6) (Operand.tmp 56), type := 0, pos := "ref.go:31", after := #[{ on := 22, ground := Ground.data }, { on := 21, ground := Ground.data }, { on := 0, ground := Ground.phase }, { on := 1, ground := Ground.phase }, { on := 2, ground := Ground.phase }, { on := 3, ground := Ground.phase }, { on := 4, ground := Ground.phase }, { on := 5, ground := Ground.phase }, { on := 6, ground := Ground.phase }, { on := 7, ground := Ground.phase }, { on := 8, ground := Ground.phase }, { on := 9, ground := Ground.phase }, { on := 10, ground := Ground.phase }, { on := 11, ground := Ground.phase }, { on := 12, ground := Ground.phase }, { on := 13, ground := Ground.phase }, { on := 14, ground := Ground.phase }, { on := 15, ground := Ground.phase }, { on := 16, ground := Ground.phase }, { on := 17, ground := Ground.phase }, { on := 18, ground := Ground.phase }, { on := 19, ground := Ground.phase }, { on := 20, ground := Ground.phase }, { on := 21, ground := Ground.phase }, { on := 22, ground := Ground.phase }], guard := none }) rfl (fun K hK => ?_) AllReadyH.nil
      rw [if_pos (by rfl)]
      refine wp_store_row 23 _ _ rfl wr.heap.size #[.int .i64 o.p, .int .i64 o.b, .int .i64 o.s, .int .i64 o.c, .int .i64 o.k, .int .i64 o.r, .int .i64 o.q] (by simp [Act.eval]) rfl 23 _ (CRow.new wr.drew #[.int .i64 0, .int .i64 0, .int .i64 0, .int .i64 0, .int .i64 0, .int .i64 0, .int .i64 0] 23).row size_geomA (by simp) (by simp [Value.oneCell']) ?_
      refine hK.out _ _ (below_setRow C1 (Nat.le_refl _) _) (fun C2 => ?_)
      clear hK K
      try simp only [Act.put]
      refine wpAnyH_done (by kernel_rfl) ?_ _
      refine NoPanic.normal ?_
      have G1 := Lib.hid (show CRow ((wr.alloc (.cells #[.int .i64 0, .int .i64 0, .int .i64 0, .int .i64 0, .int .i64 0, .int .i64 0, .int .i64 0] 23)).drew.setRow wr.heap.size #[.int .i64 o.p, .int .i64 o.b, .int .i64 o.s, .int .i64 o.c, .int .i64 o.k, .int .i64 o.r, .int .i64 o.q]) wr.heap.size 23 #[.int .i64 o.p, .int .i64 o.b, .int .i64 o.s, .int .i64 o.c, .int .i64 o.k, .int .i64 o.r, .int .i64 o.q] from (CRow.new wr.drew #[.int .i64 0, .int .i64 0, .int .i64 0, .int .i64 0, .int .i64 0, .int .i64 0, .int .i64 0] 23).set #[.int .i64 o.p, .int .i64 o.b, .int .i64 o.s, .int .i64 o.c, .int .i64 o.k, .int .i64 o.r, .int .i64 o.q])
      have hs3 : w.heap.size < wr.heap.size := T3.out.lt
      have hs4 : w.heap.size ≤ wr.heap.size := B3.out.size
      have T4 := Lib.hid (show CRow ((wr.alloc (.cells #[.int .i64 0, .int .i64 0, .int .i64 0, .int .i64 0, .int .i64 0, .int .i64 0, .int .i64 0] 23)).drew.setRow wr.heap.size #[.int .i64 o.p, .int .i64 o.b, .int .i64 o.s, .int .i64 o.c, .int .i64 o.k, .int .i64 o.r, .int .i64 o.q]) w.heap.size 23 #[.int .i64 0, .int .i64 0, .int .i64 0, .int .i64 0, .int .i64 0, .int .i64 0, .int .i64 0] from (T3.out.drew.alloc (w := wr.drew) (.cells #[.int .i64 0, .int .i64 0, .int .i64 0, .int .i64 0, .int .i64 0, .int .i64 0, .int .i64 0] 23)).other (g' := wr.heap.size) (cs' := #[.int .i64 o.p, .int .i64 o.b, .int .i64 o.s, .int .i64 o.c, .int .i64 o.k, .int .i64 o.r, .int .i64 o.q]) (by omega))
      have B4 := Lib.hid (show Below w.heap.size w ((wr.alloc (.cells #[.int .i64 0, .int .i64 0, .int .i64 0, .int .i64 0, .int .i64 0, .int .i64 0, .int .i64 0] 23)).drew.setRow wr.heap.size #[.int .i64 o.p, .int .i64 o.b, .int .i64 o.s, .int .i64 o.c, .int .i64 o.k, .int .i64 o.r, .int .i64 o.q]) from below_setRow (B3.out.drew.alloc (w := wr.drew) hs4 (.cells #[.int .i64 0, .int .i64 0, .int .i64 0, .int .i64 0, .int .i64 0, .int .i64 0, .int .i64 0] 23)) hs4 #[.int .i64 o.p, .int .i64 o.b, .int .i64 o.s, .int .i64 o.c, .int .i64 o.k, .int .i64 o.r, .int .i64 o.q])
      obtain ⟨w4, hw4⟩ : ∃ w4, w4 = ((wr.alloc (.cells #[.int .i64 0, .int .i64 0, .int .i64 0, .int .i64 0, .int .i64 0, .int .i64 0, .int .i64 0] 23)).drew.setRow wr.heap.size #[.int .i64 o.p, .int .i64 o.b, .int .i64 o.s, .int .i64 o.c, .int .i64 o.k, .int .i64 o.r, .int .i64 o.q]) := ⟨_, rfl⟩
      rw [← hw4] at G1 T4 B4 ⊢
      clear hw4 H0 H1 H2 H3 H4 H5 H6 T3 B3
      have x0 := G1.out.cell_at 0 (.int .i64 o.p) rfl
      have x1 := G1.out.cell_at 1 (.int .i64 o.b) rfl
      have x2 := G1.out.cell_at 2 (.int .i64 o.s) rfl
      have x3 := G1.out.cell_at 3 (.int .i64 o.c) rfl
      have x4 := G1.out.cell_at 4 (.int .i64 o.k) rfl
      have x5 := G1.out.cell_at 5 (.int .i64 o.r) rfl
      have x6 := G1.out.cell_at 6 (.int .i64 o.q) rfl
      go_wp2_with fail
      refine (HRI.out _).mono ?_
      rintro _ w5 ⟨rfl, h5⟩
      have T5 := Lib.hid (T4.out.below h5)
      have B5 := Lib.hid (below_step B4.out h5)
      have G5 := Lib.hid (G1.out.below h5)
      clear h5 T4 B4 G1 HRI x0 x1 x2 x3 x4 x5 x6
      rcases HCE.out with ⟨he, hok⟩ | ⟨he, hok⟩
      · have HGE := Lib.hid (show G = o by rw [HG.out, if_pos he])
        have HEE := Lib.hid he
        rw [hok]
        clear he hok HCE HG
        have x0 := G5.out.cell_at 0 (.int .i64 o.p) rfl
        have x1 := G5.out.cell_at 1 (.int .i64 o.b) rfl
        have x2 := G5.out.cell_at 2 (.int .i64 o.s) rfl
        have x3 := G5.out.cell_at 3 (.int .i64 o.c) rfl
        have x4 := G5.out.cell_at 4 (.int .i64 o.k) rfl
        have x5 := G5.out.cell_at 5 (.int .i64 o.r) rfl
        have x6 := G5.out.cell_at 6 (.int .i64 o.q) rfl
        go_wp2_with (with_reducible refine (?_ : wpList _ _ _ ({ dst := _, op := Op.store 23 _ _, type := _, pos := _, after := _, guard := _ } :: _) _ _); refine wpList_store_at rfl 23 _ _ rfl 7 size_geomA _ w.heap.size ?hx rfl _ T5.out.row rfl rfl (by simp [Value.oneCell']) ?_; (case hx => simp [Act.eval]))
        have B9 := Lib.hid (below_setRow B5.out (Nat.le_refl _) #[.int .i64 o.p, .int .i64 o.b, .int .i64 o.s, .int .i64 o.c, .int .i64 o.k, .int .i64 o.r, .int .i64 o.q])
        have T9 := Lib.hid (T5.out.set #[.int .i64 o.p, .int .i64 o.b, .int .i64 o.s, .int .i64 o.c, .int .i64 o.k, .int .i64 o.r, .int .i64 o.q])
        clear x0 x1 x2 x3 x4 x5 x6
        go_wp2
        refine bodyPost_ret (res_cell_tmp rfl _ _ w.heap.size 23 _ (0, 0) _ rfl T9.out.row Try.underlying23 rfl size_geomA) rfl ?_
        exact ⟨by rw [HGE.out, HEE.out]; rfl, B9.out⟩
      · have HGE := Lib.hid (show G = gZ by rw [HG.out, if_neg (by omega)])
        have HEE := Lib.hid he
        rw [hok]
        clear he hok HCE HG
        go_wp2_with (with_reducible refine (?_ : wpList _ _ _ ({ dst := _, op := Op.store 23 _ _, type := _, pos := _, after := _, guard := _ } :: _) _ _); refine wpList_store_at rfl 23 _ _ rfl 7 size_geomA _ w.heap.size ?hx rfl _ T5.out.row rfl rfl (by simp [Value.oneCell']) ?_; (case hx => simp [Act.eval]))
        have B9 := Lib.hid (below_setRow B5.out (Nat.le_refl _) #[.int .i64 0, .int .i64 0, .int .i64 0, .int .i64 0, .int .i64 0, .int .i64 0, .int .i64 0])
        have T9 := Lib.hid (T5.out.set #[.int .i64 0, .int .i64 0, .int .i64 0, .int .i64 0, .int .i64 0, .int .i64 0, .int .i64 0])
        go_wp2
        refine bodyPost_ret (res_cell_tmp rfl _ _ w.heap.size 23 _ (0, 0) _ rfl T9.out.row Try.underlying23 rfl size_geomA) rfl ?_
        exact ⟨by rw [HGE.out, HEE.out]; rfl, B9.out⟩
theorem RefIdTake_any (A : Option Addr) (n c : Nat) (l : List Nat) (w : World) (hr : R8 w A n l) (hn : n ≤ 1099511627776) :
    Calls Try.prog 10 #[.slice A n c] w (Gives (.tuple #[(tkgG l).val, .int .i64 (tkgE l)]) w) := by
  by_cases h : n = 14
  · subst h
    exact RefIdTake_full A c l w hr
  · exact RefIdTake_short A n c l w hr hn h
end Go.Proofs.Ytimphjgjcnbmnaa
