/-
  The walk of the law GeomTells over the landed code, where the geometry is right: a way of five.
-/
import Derived.Test.YtkbjbgbngkidjaaGeomTells0
namespace Go.Proofs.Ytkbjbgbngkidjaa
open Go.RowKit

set_option maxRecDepth 100000 in
set_option maxHeartbeats 4000000 in
theorem GeomTells_A (g : Gm) (x y z : Int) (w : World) (ho : g.ok = true) (hx : 0 ≤ x ∧ x < g.b) (hy : 0 ≤ y ∧ y < g.s) :
    Calls Try.prog 3 #[g.val, .agg #[.int .i64 x, .int .i64 y, .int .i64 z]] w (Gives (.bool true) w) := by
  have HO := Lib.hid ho
  have hb := Gm.bounds_of ho
  have HD := Lib.hid (show g.data = g.c * g.k by simp [Gm.data, ho])
  obtain ⟨rr, hr⟩ : ∃ rr, g.raw = rr := ⟨_, rfl⟩
  have HR := Lib.hid hr
  clear ho hr
  obtain ⟨p, b, s, c, k, r, q⟩ := g
  simp only at hb HD hx hy
  have hm : 0 ≤ c * k ∧ c * k ≤ 16 * 512 := mul_le (by omega) (by omega) (by omega) (by omega)
  have hm2 : 0 ≤ b * s ∧ b * s ≤ 256 * 64 := mul_le (by omega) (by omega) (by omega) (by omega)
  have hm3 : 0 ≤ x * s ∧ x * s ≤ 256 * 64 := mul_le (by omega) (by omega) (by omega) (by omega)
  have HW := Lib.hid (show IntKind.i64.wrap (c * k) = c * k by simp [IntKind.wrap, IntKind.bits, IntKind.signed]; omega)
  simp only [Gm.val]
  go_enter Try.func3, Try.ntmps3
  go_wp2_with fail
  refine (awake4_any _).mono ?_
  rintro e w1 ⟨rfl, h1⟩
  have G1 := Lib.hid (((GBox.new w ⟨p, b, s, c, k, r, q⟩ 23).below (below_alloc _ (.cells #[.int .i64 x, .int .i64 y, .int .i64 z] 24))).below h1)
  have A1 := Lib.hid ((ABox.new (w.alloc (.cells #[.int .i64 p, .int .i64 b, .int .i64 s, .int .i64 c, .int .i64 k, .int .i64 r, .int .i64 q] 23)) x y z 24).below h1)
  have B1 := Lib.hid (below_step (below_step (below_alloc w _) (below_alloc _ _)) h1)
  clear h1
  simp only [World.size_alloc] at A1
  obtain ⟨_, g0, g1, g2, g3, g4, g5, g6⟩ := G1.out
  obtain ⟨_, e0, e1, e2⟩ := A1.out
  go_wp2_with fail
  refine (RefRight_is ⟨p, b, s, c, k, r, q⟩ true HO.out _).mono ?_
  rintro e w2 ⟨rfl, h1⟩
  clear g0 g1 g2 g3 g4 g5 g6 e0 e1 e2
  have G2 := Lib.hid (G1.out.below h1)
  have A2 := Lib.hid (A1.out.below h1)
  have B2 := Lib.hid (below_step B1.out h1)
  clear h1
  obtain ⟨_, g0, g1, g2, g3, g4, g5, g6⟩ := G2.out
  obtain ⟨_, e0, e1, e2⟩ := A2.out
  go_wp2_with fail
  refine (Check_yes ⟨p, b, s, c, k, r, q⟩ HO.out _).mono ?_
  rintro e w3 ⟨rfl, h1⟩
  clear g0 g1 g2 g3 g4 g5 g6 e0 e1 e2
  have G3 := Lib.hid (G2.out.below h1)
  have A3 := Lib.hid (A2.out.below h1)
  have B3 := Lib.hid (below_step B2.out h1)
  clear h1
  obtain ⟨_, g0, g1, g2, g3, g4, g5, g6⟩ := G3.out
  obtain ⟨_, e0, e1, e2⟩ := A3.out
  go_wp2_with fail
  refine (Row_is ⟨p, b, s, c, k, r, q⟩ x y (x * s + y) ⟨HO.out, hx, hy⟩ rfl _).mono ?_
  rintro e w4 ⟨rfl, h1⟩
  clear g0 g1 g2 g3 g4 g5 g6 e0 e1 e2
  have G4 := Lib.hid (G3.out.below h1)
  have A4 := Lib.hid (A3.out.below h1)
  have B4 := Lib.hid (below_step B3.out h1)
  clear h1
  obtain ⟨_, g0, g1, g2, g3, g4, g5, g6⟩ := G4.out
  obtain ⟨_, e0, e1, e2⟩ := A4.out
  go_wp2_with fail
  refine (Split_all ⟨p, b, s, c, k, r, q⟩ z _).mono ?_
  rintro e w5 ⟨u, v, d, rfl, HSp, h1⟩
  clear g0 g1 g2 g3 g4 g5 g6 e0 e1 e2
  have G5 := Lib.hid (G4.out.below h1)
  have A5 := Lib.hid (A4.out.below h1)
  have B5 := Lib.hid (below_step B4.out h1)
  clear h1
  obtain ⟨_, g0, g1, g2, g3, g4, g5, g6⟩ := G5.out
  obtain ⟨_, e0, e1, e2⟩ := A5.out
  go_wp2_with fail
  refine (Plane_is ⟨p, b, s, c, k, r, q⟩ x (x % p) ⟨HO.out, hx⟩ rfl _).mono ?_
  rintro e w6 ⟨rfl, h1⟩
  clear g0 g1 g2 g3 g4 g5 g6 e0 e1 e2
  have G6 := Lib.hid (G5.out.below h1)
  have A6 := Lib.hid (A5.out.below h1)
  have B6 := Lib.hid (below_step B5.out h1)
  clear h1
  obtain ⟨_, g0, g1, g2, g3, g4, g5, g6⟩ := G6.out
  obtain ⟨_, e0, e1, e2⟩ := A6.out
  have HZ := Lib.hid (split_cases HO.out HSp.out)
  clear HSp
  simp only at HZ
  go_upto_region 11 with fail
  go_cut [13] (fun i wx => i = .bool true ∧ wx = w6)
  case first =>
    as_aux_lemma =>
      clear HZ
      go_wp2
      go_meet
      case rel => exact ⟨rfl, rfl⟩
  case rest =>
    obtain ⟨rfl, rfl⟩ := hcut
    go_upto_region 12 with fail
    go_cut [140] (fun i wx => i = .bool false ∧ wx = wc)
    case first =>
      as_aux_lemma =>
        rcases HZ.out with ⟨⟨hz1, hz2⟩, rfl, rfl, rfl⟩ | ⟨hz1, rfl, rfl, rfl⟩ | ⟨hz1, rfl, rfl, rfl⟩
        all_goals
          clear HZ
          go_wp2
          go_meet
          case rel => first | exact ⟨rfl, rfl⟩ | exact ⟨congrArg Value.bool (by simp; omega), rfl⟩
    case rest =>
      obtain ⟨rfl, rfl⟩ := hcut
      go_upto_region 14 with fail
      go_cut [181] (fun i wx => i = .bool false ∧ wx = wc)
      case first =>
        as_aux_lemma =>
          clear HZ
          go_wp2
          go_meet
          case rel => first | exact ⟨rfl, rfl⟩ | exact ⟨congrArg Value.bool (by simp; omega), rfl⟩
      case rest =>
        obtain ⟨rfl, rfl⟩ := hcut
        go_upto_region 16 with fail
        go_cut [213] (fun i wx => i = .bool false ∧ wx = wc)
        case first =>
          as_aux_lemma =>
            rcases HZ.out with ⟨⟨hz1, hz2⟩, rfl, rfl, rfl⟩ | ⟨hz1, rfl, rfl, rfl⟩ | ⟨hz1, rfl, rfl, rfl⟩
            · have hq := quo_facts (b := z) (p := s) (by omega) (by omega)
              have hq1 : 0 ≤ z % s ∧ z % s < s := ⟨Int.emod_nonneg _ (by omega), Int.emod_lt_of_pos _ (by omega)⟩
              have hq2 : (z / s * s + z % s != z) = false := by rw [quo_mul]; simp
              clear HZ
              go_wp2
              go_meet
              case rel => first | exact ⟨rfl, rfl⟩ | exact ⟨congrArg Value.bool (by simp; omega), rfl⟩
            · clear HZ
              go_wp2
              go_meet
              case rel => first | exact ⟨rfl, rfl⟩ | exact ⟨congrArg Value.bool (by simp; omega), rfl⟩
            · clear HZ
              go_wp2
              go_meet
              case rel => first | exact ⟨rfl, rfl⟩ | exact ⟨congrArg Value.bool (by simp; omega), rfl⟩
        case rest =>
          obtain ⟨rfl, rfl⟩ := hcut
          clear HZ g0 g1 g2 g3 g4 g5 g6 e0 e1 e2 A6
          go_wp2_with fail
          as_aux_lemma =>
            refine wp_region_noPanic ?_
            refine wp_region_held_drew (S := fun w' => Below wc.heap.size wc w') (by kernel_rfl) ((Below.refl _ _).drew) (fun C0 => ?_)
            refine wpAnyH_take (i := 0) (oi := { dst := some 214, op := Op.load 23 (Operand.tmp 2), type := 23, pos := "law.go:44", after := #[], guard := none }) (v := ?_) rfl (by kernel_rfl) (by kernel_rfl) (by kernel_rfl) (fun _ _ _ h => h) (Or.inl ⟨by rfl, ?_⟩) C0 ?_
            rotate_left
            · intro W' hSw
              obtain ⟨_, q0, q1, q2, q3, q4, q5, q6⟩ := G6.out.below hSw
              clear hSw
              go_simp <;> with_reducible rfl
            try simp only [Act.put, List.setIfInBounds_toArray, List.set_cons_zero, List.set_cons_succ]
            refine wpAnyH_take (i := 2) (oi := { dst := some 216, op := Op.fieldAddr 23 (Operand.tmp 2) 3, type := 0, pos := "law.go:44", after := #[], guard := none }) (v := ?_) rfl (by kernel_rfl) (by kernel_rfl) (by kernel_rfl) (fun _ _ _ h => h) (Or.inl ⟨by rfl, ?_⟩) C0 ?_
            rotate_left
            · intro W' hSw
              clear hSw
              go_simp <;> with_reducible rfl
            try simp only [Act.put, List.setIfInBounds_toArray, List.set_cons_zero, List.set_cons_succ]
            refine wpAnyH_take (i := 3) (oi := { dst := some 217, op := Op.load 3 (Operand.tmp 216), type := 3, pos := "law.go:44", after := #[{ on := 2, ground := Ground.data }], guard := none }) (v := ?_) rfl (by kernel_rfl) (by kernel_rfl) (by kernel_rfl) (fun _ _ _ h => h) (Or.inl ⟨by rfl, ?_⟩) C0 ?_
            rotate_left
            · intro W' hSw
              obtain ⟨_, q0, q1, q2, q3, q4, q5, q6⟩ := G6.out.below hSw
              clear hSw
              go_simp <;> with_reducible rfl
            try simp only [Act.put, List.setIfInBounds_toArray, List.set_cons_zero, List.set_cons_succ]
            refine wpAnyH_take (i := 4) (oi := { dst := some 218, op := Op.fieldAddr 23 (Operand.tmp 2) 4, type := 0, pos := "law.go:44", after := #[], guard := none }) (v := ?_) rfl (by kernel_rfl) (by kernel_rfl) (by kernel_rfl) (fun _ _ _ h => h) (Or.inl ⟨by rfl, ?_⟩) C0 ?_
            rotate_left
            · intro W' hSw
              clear hSw
              go_simp <;> with_reducible rfl
            try simp only [Act.put, List.setIfInBounds_toArray, List.set_cons_zero, List.set_cons_succ]
            refine wpAnyH_take (i := 5) (oi := { dst := some 219, op := Op.load 3 (Operand.tmp 218), type := 3, pos := "law.go:44", after := #[{ on := 4, ground := Ground.data }], guard := none }) (v := ?_) rfl (by kernel_rfl) (by kernel_rfl) (by kernel_rfl) (fun _ _ _ h => h) (Or.inl ⟨by rfl, ?_⟩) C0 ?_
            rotate_left
            · intro W' hSw
              obtain ⟨_, q0, q1, q2, q3, q4, q5, q6⟩ := G6.out.below hSw
              clear hSw
              go_simp <;> with_reducible rfl
            try simp only [Act.put, List.setIfInBounds_toArray, List.set_cons_zero, List.set_cons_succ]
            refine wpAnyH_take (i := 6) (oi := { dst := some 220, op := Op.binOp BinOp.mul 3 (Operand.tmp 217) (Operand.tmp 219) 3, type := 3, pos := "law.go:44", after := #[{ on := 3, ground := Ground.data }, { on := 5, ground := Ground.data }], guard := none }) (v := ?_) rfl (by kernel_rfl) (by kernel_rfl) (by kernel_rfl) (fun _ _ _ h => h) (Or.inl ⟨by rfl, ?_⟩) C0 ?_
            rotate_left
            · intro W' hSw
              clear hSw
              go_simp <;> with_reducible rfl
            try simp only [Act.put, List.setIfInBounds_toArray, List.set_cons_zero, List.set_cons_succ]
            try rw [HW.out]
            refine wpAnyH_ready (rs := [1]) (by kernel_rfl) (by simp) ?_
            refine AllReadyH.cons (o := { dst := some 215, op := Op.call { callee := Callee.value (Operand.func 13), args := #[Operand.tmp 214], argTypes := #[23] }, type := 3, pos := "law.go:44", after := #[{ on := 0, ground := Ground.data }], guard := none }) rfl (fun K hK => ?_) AllReadyH.nil
            go_simp
            refine (Data_is ⟨p, b, s, c, k, r, q⟩ (c * k) HD.out _).mono ?_
            rintro e w'' ⟨rfl, hB⟩
            go_wp2_with fail
            refine hK.out _ _ (C0.trans (hB.mono C0.size)) (fun C1 => ?_)
            clear hK K hB
            try simp only [Act.put, List.setIfInBounds_toArray, List.set_cons_zero, List.set_cons_succ]
            refine wpAnyH_take (i := 7) (oi := { dst := some 221, op := Op.binOp BinOp.eql 3 (Operand.tmp 215) (Operand.tmp 220) 3, type := 4, pos := "law.go:44", after := #[{ on := 1, ground := Ground.data }, { on := 6, ground := Ground.data }], guard := none }) (v := ?_) rfl (by kernel_rfl) (by kernel_rfl) (by kernel_rfl) (fun _ _ _ h => h) (Or.inl ⟨by rfl, ?_⟩) C1 ?_
            rotate_left
            · intro W' hSw
              clear hSw
              go_simp <;> with_reducible rfl
            try simp only [Act.put, List.setIfInBounds_toArray, List.set_cons_zero, List.set_cons_succ]
            refine wpAnyH_take (i := 8) (oi := { dst := some 222, op := Op.move (Operand.tmp 221), type := 4, pos := "law.go:44", after := #[{ on := 7, ground := Ground.data }, { on := 1, ground := Ground.chain }], guard := none }) (v := ?_) rfl (by kernel_rfl) (by kernel_rfl) (by kernel_rfl) (fun _ _ _ h => h) (Or.inl ⟨by rfl, ?_⟩) C1 ?_
            rotate_left
            · intro W' hSw
              clear hSw
              go_simp <;> with_reducible rfl
            try simp only [Act.put, List.setIfInBounds_toArray, List.set_cons_zero, List.set_cons_succ]
            refine wpAnyH_take (i := 9) (oi := { dst := some 223, op := Op.load 23 (Operand.tmp 2), type := 23, pos := "law.go:44", after := #[{ on := 8, ground := Ground.guard }], guard := some (8, true) }) (v := ?_) rfl (by kernel_rfl) (by kernel_rfl) (by kernel_rfl) (fun _ _ _ h => h) (Or.inl ⟨by rfl, ?_⟩) C1 ?_
            rotate_left
            · intro W' hSw
              obtain ⟨_, q0, q1, q2, q3, q4, q5, q6⟩ := G6.out.below hSw
              clear hSw
              go_simp <;> with_reducible rfl
            try simp only [Act.put, List.setIfInBounds_toArray, List.set_cons_zero, List.set_cons_succ]
            refine wpAnyH_take (i := 11) (oi := { dst := some 225, op := Op.load 23 (Operand.tmp 2), type := 23, pos := "law.go:44", after := #[{ on := 8, ground := Ground.guard }], guard := some (8, true) }) (v := ?_) rfl (by kernel_rfl) (by kernel_rfl) (by kernel_rfl) (fun _ _ _ h => h) (Or.inl ⟨by rfl, ?_⟩) C1 ?_
            rotate_left
            · intro W' hSw
              obtain ⟨_, q0, q1, q2, q3, q4, q5, q6⟩ := G6.out.below hSw
              clear hSw
              go_simp <;> with_reducible rfl
            try simp only [Act.put, List.setIfInBounds_toArray, List.set_cons_zero, List.set_cons_succ]
            refine wpAnyH_ready (rs := [10]) (by kernel_rfl) (by simp) ?_
            refine AllReadyH.cons (o := { dst := some 224, op := Op.call { callee := Callee.value (Operand.func 14), args := #[Operand.tmp 223], argTypes := #[23] }, type := 3, pos := "law.go:44", after := #[{ on := 9, ground := Ground.data }, { on := 8, ground := Ground.chain }, { on := 8, ground := Ground.guard }], guard := some (8, true) }) rfl (fun K hK => ?_) AllReadyH.nil
            go_simp
            refine (Raw_is ⟨p, b, s, c, k, r, q⟩ _ HR.out _).mono ?_
            rintro e w'' ⟨rfl, hB⟩
            go_wp2_with fail
            refine hK.out _ _ (C1.trans (hB.mono C1.size)) (fun C2 => ?_)
            clear hK K hB
            try simp only [Act.put, List.setIfInBounds_toArray, List.set_cons_zero, List.set_cons_succ]
            refine wpAnyH_ready (rs := [12]) (by kernel_rfl) (by simp) ?_
            refine AllReadyH.cons (o := { dst := some 226, op := Op.call { callee := Callee.value (Operand.func 15), args := #[Operand.tmp 225], argTypes := #[23] }, type := 3, pos := "law.go:44", after := #[{ on := 11, ground := Ground.data }, { on := 10, ground := Ground.chain }, { on := 8, ground := Ground.guard }], guard := some (8, true) }) rfl (fun K hK => ?_) AllReadyH.nil
            go_simp
            refine (RefRaw_is ⟨p, b, s, c, k, r, q⟩ _ HO.out HR.out _).mono ?_
            rintro e w'' ⟨rfl, hB⟩
            go_wp2_with fail
            refine hK.out _ _ (C2.trans (hB.mono C2.size)) (fun C3 => ?_)
            clear hK K hB
            try simp only [Act.put, List.setIfInBounds_toArray, List.set_cons_zero, List.set_cons_succ]
            refine wpAnyH_take (i := 13) (oi := { dst := some 227, op := Op.binOp BinOp.eql 3 (Operand.tmp 224) (Operand.tmp 226) 3, type := 4, pos := "law.go:44", after := #[{ on := 10, ground := Ground.data }, { on := 12, ground := Ground.data }, { on := 8, ground := Ground.guard }], guard := some (8, true) }) (v := ?_) rfl (by kernel_rfl) (by kernel_rfl) (by kernel_rfl) (fun _ _ _ h => h) (Or.inl ⟨by rfl, ?_⟩) C3 ?_
            rotate_left
            · intro W' hSw
              clear hSw
              go_simp <;> with_reducible rfl
            try simp only [Act.put, List.setIfInBounds_toArray, List.set_cons_zero, List.set_cons_succ]
            refine wpAnyH_take (i := 14) (oi := { dst := some 228, op := Op.pick (Operand.tmp 222) (Operand.tmp 227) (Operand.const (Value.bool false)), type := 4, pos := "law.go:44", after := #[{ on := 8, ground := Ground.data }, { on := 13, ground := Ground.data }], guard := none }) (v := ?_) rfl (by kernel_rfl) (by kernel_rfl) (by kernel_rfl) (fun _ _ _ h => h) (Or.inl ⟨by rfl, ?_⟩) C3 ?_
            rotate_left
            · intro W' hSw
              clear hSw
              go_simp <;> with_reducible rfl
            try simp only [Act.put, List.setIfInBounds_toArray, List.set_cons_zero, List.set_cons_succ]
            refine wpAnyH_take (i := 15) (oi := { dst := some 4, op := Op.assign (Operand.tmp 228), type := 4, pos := "law.go:44", after := #[{ on := 14, ground := Ground.data }, { on := 12, ground := Ground.chain }, { on := 0, ground := Ground.phase }, { on := 1, ground := Ground.phase }, { on := 2, ground := Ground.phase }, { on := 3, ground := Ground.phase }, { on := 4, ground := Ground.phase }, { on := 5, ground := Ground.phase }, { on := 6, ground := Ground.phase }, { on := 7, ground := Ground.phase }, { on := 8, ground := Ground.phase }, { on := 9, ground := Ground.phase }, { on := 10, ground := Ground.phase }, { on := 11, ground := Ground.phase }, { on := 12, ground := Ground.phase }, { on := 13, ground := Ground.phase }, { on := 14, ground := Ground.phase }], guard := none }) (v := ?_) rfl (by kernel_rfl) (by kernel_rfl) (by kernel_rfl) (fun _ _ _ h => h) (Or.inl ⟨by rfl, ?_⟩) C3 ?_
            rotate_left
            · intro W' hSw
              clear hSw
              go_simp <;> with_reducible rfl
            try simp only [Act.put, List.setIfInBounds_toArray, List.set_cons_zero, List.set_cons_succ]
            refine wpAnyH_done (by kernel_rfl) ?_ _
            refine NoPanic.normal ?_
            go_wp2
            go_ret
            exact ⟨rfl, below_step B6.out C3⟩
end Go.Proofs.Ytkbjbgbngkidjaa
