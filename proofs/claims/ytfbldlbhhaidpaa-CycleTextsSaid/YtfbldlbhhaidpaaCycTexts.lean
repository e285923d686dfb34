/-
  The walk of the law CycleTexts over the landed code, out of its callees' contracts.
-/
import Derived.Test.YtfbldlbhhaidpaaCycAw
import Derived.Test.YtfbldlbhhaidpaaCycB
import Derived.Test.YtfbldlbhhaidpaaCycC
import Derived.Test.YtfbldlbhhaidpaaCycD
import Derived.Test.YtfbldlbhhaidpaaCycG
namespace Go.Proofs.Ytfbldlbhhaidpaa
open Go.RowKit
set_option maxRecDepth 100000

set_option maxHeartbeats 8000000 in
theorem CycleTexts_walk (A B : Option Addr) (n c m d : Nat) (l : List Cy) (kind : Int) (b : List Nat) (w : World) (hr : RC w A n l) (hb : R8 w B m b) (hk : -9223372036854775808 ≤ kind ∧ kind ≤ 9223372036854775807) (hn : n ≤ 9223372036854775807) (hm : m ≤ 9223372036854775807) :
    Calls Try.prog 3 #[.slice A n c, .int .i64 kind, .slice B m d] w (Gives (.bool true) w) := by
  have HR := Lib.hid hr
  have HB := Lib.hid hb
  have hlen := Lib.hid hr.len
  have HM := Lib.hid hb.len
  have HOI := Lib.hid (show ∀ t ∈ ofL kind b, inC t by
    intro t ht
    simp only [ofL, List.mem_map] at ht
    obtain ⟨x, hx, rfl⟩ := ht
    exact ⟨hk.1, hk.2, hb.2 x hx⟩)
  clear hr hb
  go_enter Try.func3, Try.ntmps3
  go_wp2_with fail
  refine (awake10_any _).mono ?_
  rintro _ w1 ⟨rfl, h1⟩
  have B1 := Lib.hid h1
  clear h1
  by_cases hbig : 300 < n
  · go_wp2
    go_ret
    exact ⟨rfl, B1.out⟩
  · have e0 : decide ((300 : Int) < (n : Int)) = false := decide_eq_false (by omega)
    by_cases hbs : 300 < m
    · go_wp2
      go_ret
      exact ⟨rfl, B1.out⟩
    · have e1 : decide ((300 : Int) < (m : Int)) = false := decide_eq_false (by omega)
      go_wp2_with fail
      refine (Text_any A n c l _ (HR.out.below B1.out) (by omega)).mono ?_
      rintro _ w2 ⟨h2, h⟩
      have B2 := Lib.hid (below_step B1.out h2)
      clear h2
      rcases h with ⟨hok, rfl⟩ | ⟨hok, rfl⟩
      · obtain ⟨t, HT⟩ : ∃ t, Hid (str (textL l) = t) := ⟨_, Lib.hid rfl⟩
        rw [HT.out]
        have HO := Lib.hid hok
        clear hok
        go_wp2_with fail
        refine (lawRight_any A n c l _ (HR.out.below B2.out) (by omega)).mono ?_
        rintro _ w3 ⟨rfl, h3⟩
        rw [HO.out]
        have B3 := Lib.hid (below_step B2.out h3)
        clear h3
        go_wp2_with fail
        refine (RefTextC_any A n c l _ (HR.out.below B3.out) (by omega) HO.out).mono ?_
        rintro _ w4 ⟨rfl, h4⟩
        rw [HT.out]
        have B4 := Lib.hid (below_step B3.out h4)
        clear h4
        go_wp2
        go_loopw [48] (fun i wr => ∃ k : Nat, k ≤ n ∧ i = .int .i64 (k : Int) ∧ Hid (Below w.heap.size w wr)) (fun i _ => n - (intOf i).toNat)
        case atStart => exact ⟨0, Nat.zero_le _, rfl, B4⟩
        case round =>
          obtain ⟨k, hk, rfl, BL⟩ := hrel
          by_cases hlt : k < n
          · obtain ⟨b1, o1, x, rfl, hb1, HX, ⟨xi1, xi2, xi3⟩, c0, c1⟩ := (HR.out.below BL.out).at_ hlt
            obtain ⟨xk, xb⟩ := x
            simp only at c0 c1 xi1 xi2 xi3
            by_cases h1 : 1 ≤ xk
            · have e1 : decide ((1 : Int) ≤ xk) = true := decide_eq_true h1
              by_cases h2 : xk ≤ 4
              · have e2 : decide (xk ≤ (4 : Int)) = true := decide_eq_true h2
                have hk1 : okK xk = true := okK_iff.2 ⟨h1, h2⟩
                go_wp2
                have BW := Lib.hid (below_step BL.out (below_new wr (.cells #[.int .i64 xk, .int .u8 (xb : Int)] 31)))
                have T := Lib.hid (CRow.new wr #[.int .i64 xk, .int .u8 (xb : Int)] 31)
                have hg := T.out.lt
                have f0 := T.out.cell_at 0 _ rfl
                have f1 := T.out.cell_at 1 _ rfl
                clear T
                generalize wr.alloc (.cells #[.int .i64 xk, .int .u8 (xb : Int)] 31) = W at *
                refine wp_region_noPanic ?_
                refine wp_region_held_drew (S := fun w' => Below W.heap.size W w') (by kernel_rfl) ((Below.refl _ _).drew) (fun C0 => ?_)
                refine wpAnyH_take (i := 0) (oi := { dst := some 52, op := Op.load 31 (Operand.tmp 10), type := 31, pos := "law.go:43", after := #[], guard := none }) (v := ?_) rfl (by kernel_rfl) (by kernel_rfl) (by kernel_rfl) (fun _ _ _ h => h) (Or.inl ⟨by rfl, ?_⟩) C0 ?_
                rotate_left
                · intro W' hSw
                  have z0 := (hSw.cell (p := ⟨wr.heap.size, 0, none⟩) hg).trans f0
                  have z1 := (hSw.cell (p := ⟨wr.heap.size, 1, none⟩) hg).trans f1
                  clear hSw
                  go_simp <;> with_reducible rfl
                try simp only [Act.put, List.setIfInBounds_toArray, List.set_cons_zero, List.set_cons_succ]
                refine wpAnyH_take (i := 2) (oi := { dst := some 54, op := Op.fieldAddr 31 (Operand.tmp 10) 0, type := 0, pos := "law.go:43", after := #[], guard := none }) (v := ?_) rfl (by kernel_rfl) (by kernel_rfl) (by kernel_rfl) (fun _ _ _ h => h) (Or.inl ⟨by rfl, ?_⟩) C0 ?_
                rotate_left
                · intro W' hSw
                  clear hSw
                  go_simp <;> with_reducible rfl
                try simp only [Act.put, List.setIfInBounds_toArray, List.set_cons_zero, List.set_cons_succ]
                refine wpAnyH_take (i := 3) (oi := { dst := some 55, op := Op.load 3 (Operand.tmp 54), type := 3, pos := "law.go:43", after := #[{ on := 2, ground := Ground.data }], guard := none }) (v := ?_) rfl (by kernel_rfl) (by kernel_rfl) (by kernel_rfl) (fun _ _ _ h => h) (Or.inl ⟨by rfl, ?_⟩) C0 ?_
                rotate_left
                · intro W' hSw
                  have z0 := (hSw.cell (p := ⟨wr.heap.size, 0, none⟩) hg).trans f0
                  have z1 := (hSw.cell (p := ⟨wr.heap.size, 1, none⟩) hg).trans f1
                  clear hSw
                  go_simp <;> with_reducible rfl
                try simp only [Act.put, List.setIfInBounds_toArray, List.set_cons_zero, List.set_cons_succ]
                refine wpAnyH_take (i := 4) (oi := { dst := some 56, op := Op.binOp BinOp.geq 3 (Operand.tmp 55) (Operand.const (Value.int IntKind.i64 1)) 3, type := 4, pos := "law.go:43", after := #[{ on := 3, ground := Ground.data }], guard := none }) (v := ?_) rfl (by kernel_rfl) (by kernel_rfl) (by kernel_rfl) (fun _ _ _ h => h) (Or.inl ⟨by rfl, ?_⟩) C0 ?_
                rotate_left
                · intro W' hSw
                  clear hSw
                  go_simp <;> with_reducible rfl
                try simp only [Act.put, List.setIfInBounds_toArray, List.set_cons_zero, List.set_cons_succ]
                refine wpAnyH_ready (rs := [1]) (by kernel_rfl) (by simp) ?_
                refine AllReadyH.cons (o := { dst := some 53, op := Op.call { callee := Callee.value (Operand.func 11), args := #[Operand.tmp 52], argTypes := #[31] }, type := 4, pos := "law.go:43", after := #[{ on := 0, ground := Ground.data }], guard := none }) rfl (fun K hK => ?_) AllReadyH.nil
                go_simp
                refine (Right_any xk xb _).mono ?_
                rintro _ w3 ⟨rfl, hB⟩
                rw [hk1]
                go_wp2_with fail
                refine hK.out _ _ (C0.trans (hB.mono C0.size)) (fun C1 => ?_)
                clear hK K hB
                try simp only [Act.put, List.setIfInBounds_toArray, List.set_cons_zero, List.set_cons_succ]
                refine wpAnyH_take (i := 5) (oi := { dst := some 57, op := Op.move (Operand.tmp 56), type := 4, pos := "law.go:43", after := #[{ on := 4, ground := Ground.data }, { on := 1, ground := Ground.chain }], guard := none }) (v := ?_) rfl (by kernel_rfl) (by kernel_rfl) (by kernel_rfl) (fun _ _ _ h => h) (Or.inl ⟨by rfl, ?_⟩) C1 ?_
                rotate_left
                · intro W' hSw
                  clear hSw
                  go_simp <;> with_reducible rfl
                try simp only [Act.put, List.setIfInBounds_toArray, List.set_cons_zero, List.set_cons_succ]
                refine wpAnyH_take (i := 6) (oi := { dst := some 58, op := Op.fieldAddr 31 (Operand.tmp 10) 0, type := 0, pos := "law.go:43", after := #[{ on := 5, ground := Ground.guard }], guard := some (5, true) }) (v := ?_) rfl (by kernel_rfl) (by kernel_rfl) (by kernel_rfl) (fun _ _ _ h => h) (Or.inl ⟨by rfl, ?_⟩) C1 ?_
                rotate_left
                · intro W' hSw
                  clear hSw
                  go_simp <;> with_reducible rfl
                try simp only [Act.put, List.setIfInBounds_toArray, List.set_cons_zero, List.set_cons_succ]
                refine wpAnyH_take (i := 7) (oi := { dst := some 59, op := Op.load 3 (Operand.tmp 58), type := 3, pos := "law.go:43", after := #[{ on := 6, ground := Ground.data }, { on := 5, ground := Ground.guard }], guard := some (5, true) }) (v := ?_) rfl (by kernel_rfl) (by kernel_rfl) (by kernel_rfl) (fun _ _ _ h => h) (Or.inl ⟨by rfl, ?_⟩) C1 ?_
                rotate_left
                · intro W' hSw
                  have z0 := (hSw.cell (p := ⟨wr.heap.size, 0, none⟩) hg).trans f0
                  have z1 := (hSw.cell (p := ⟨wr.heap.size, 1, none⟩) hg).trans f1
                  clear hSw
                  go_simp <;> with_reducible rfl
                try simp only [Act.put, List.setIfInBounds_toArray, List.set_cons_zero, List.set_cons_succ]
                refine wpAnyH_take (i := 8) (oi := { dst := some 60, op := Op.binOp BinOp.leq 3 (Operand.tmp 59) (Operand.const (Value.int IntKind.i64 4)) 3, type := 4, pos := "law.go:43", after := #[{ on := 7, ground := Ground.data }, { on := 5, ground := Ground.guard }], guard := some (5, true) }) (v := ?_) rfl (by kernel_rfl) (by kernel_rfl) (by kernel_rfl) (fun _ _ _ h => h) (Or.inl ⟨by rfl, ?_⟩) C1 ?_
                rotate_left
                · intro W' hSw
                  clear hSw
                  go_simp <;> with_reducible rfl
                try simp only [Act.put, List.setIfInBounds_toArray, List.set_cons_zero, List.set_cons_succ]
                refine wpAnyH_take (i := 9) (oi := { dst := some 61, op := Op.pick (Operand.tmp 57) (Operand.tmp 60) (Operand.const (Value.bool false)), type := 4, pos := "law.go:43", after := #[{ on := 5, ground := Ground.data }, { on := 8, ground := Ground.data }], guard := none }) (v := ?_) rfl (by kernel_rfl) (by kernel_rfl) (by kernel_rfl) (fun _ _ _ h => h) (Or.inl ⟨by rfl, ?_⟩) C1 ?_
                rotate_left
                · intro W' hSw
                  clear hSw
                  go_simp <;> with_reducible rfl
                try simp only [Act.put, List.setIfInBounds_toArray, List.set_cons_zero, List.set_cons_succ]
                refine wpAnyH_take (i := 10) (oi := { dst := some 62, op := Op.binOp BinOp.neq 4 (Operand.tmp 53) (Operand.tmp 61) 4, type := 4, pos := "law.go:43", after := #[{ on := 1, ground := Ground.data }, { on := 9, ground := Ground.data }], guard := none }) (v := ?_) rfl (by kernel_rfl) (by kernel_rfl) (by kernel_rfl) (fun _ _ _ h => h) (Or.inl ⟨by rfl, ?_⟩) C1 ?_
                rotate_left
                · intro W' hSw
                  clear hSw
                  go_simp <;> with_reducible rfl
                try simp only [Act.put, List.setIfInBounds_toArray, List.set_cons_zero, List.set_cons_succ]
                refine wpAnyH_done (by kernel_rfl) ?_ _
                refine NoPanic.normal ?_
                have B3 := Lib.hid (below_step BW.out C1)
                go_wp2
                go_roundw
                case rel => exact ⟨k + 1, by omega, by go_num, B3⟩
                case measure => simp [intOf]; omega
              · have e2 : decide (xk ≤ (4 : Int)) = false := decide_eq_false h2
                have hk1 : okK xk = false := by unfold okK; rw [e2, Bool.and_false]
                go_wp2
                have BW := Lib.hid (below_step BL.out (below_new wr (.cells #[.int .i64 xk, .int .u8 (xb : Int)] 31)))
                have T := Lib.hid (CRow.new wr #[.int .i64 xk, .int .u8 (xb : Int)] 31)
                have hg := T.out.lt
                have f0 := T.out.cell_at 0 _ rfl
                have f1 := T.out.cell_at 1 _ rfl
                clear T
                generalize wr.alloc (.cells #[.int .i64 xk, .int .u8 (xb : Int)] 31) = W at *
                refine wp_region_noPanic ?_
                refine wp_region_held_drew (S := fun w' => Below W.heap.size W w') (by kernel_rfl) ((Below.refl _ _).drew) (fun C0 => ?_)
                refine wpAnyH_take (i := 0) (oi := { dst := some 52, op := Op.load 31 (Operand.tmp 10), type := 31, pos := "law.go:43", after := #[], guard := none }) (v := ?_) rfl (by kernel_rfl) (by kernel_rfl) (by kernel_rfl) (fun _ _ _ h => h) (Or.inl ⟨by rfl, ?_⟩) C0 ?_
                rotate_left
                · intro W' hSw
                  have z0 := (hSw.cell (p := ⟨wr.heap.size, 0, none⟩) hg).trans f0
                  have z1 := (hSw.cell (p := ⟨wr.heap.size, 1, none⟩) hg).trans f1
                  clear hSw
                  go_simp <;> with_reducible rfl
                try simp only [Act.put, List.setIfInBounds_toArray, List.set_cons_zero, List.set_cons_succ]
                refine wpAnyH_take (i := 2) (oi := { dst := some 54, op := Op.fieldAddr 31 (Operand.tmp 10) 0, type := 0, pos := "law.go:43", after := #[], guard := none }) (v := ?_) rfl (by kernel_rfl) (by kernel_rfl) (by kernel_rfl) (fun _ _ _ h => h) (Or.inl ⟨by rfl, ?_⟩) C0 ?_
                rotate_left
                · intro W' hSw
                  clear hSw
                  go_simp <;> with_reducible rfl
                try simp only [Act.put, List.setIfInBounds_toArray, List.set_cons_zero, List.set_cons_succ]
                refine wpAnyH_take (i := 3) (oi := { dst := some 55, op := Op.load 3 (Operand.tmp 54), type := 3, pos := "law.go:43", after := #[{ on := 2, ground := Ground.data }], guard := none }) (v := ?_) rfl (by kernel_rfl) (by kernel_rfl) (by kernel_rfl) (fun _ _ _ h => h) (Or.inl ⟨by rfl, ?_⟩) C0 ?_
                rotate_left
                · intro W' hSw
                  have z0 := (hSw.cell (p := ⟨wr.heap.size, 0, none⟩) hg).trans f0
                  have z1 := (hSw.cell (p := ⟨wr.heap.size, 1, none⟩) hg).trans f1
                  clear hSw
                  go_simp <;> with_reducible rfl
                try simp only [Act.put, List.setIfInBounds_toArray, List.set_cons_zero, List.set_cons_succ]
                refine wpAnyH_take (i := 4) (oi := { dst := some 56, op := Op.binOp BinOp.geq 3 (Operand.tmp 55) (Operand.const (Value.int IntKind.i64 1)) 3, type := 4, pos := "law.go:43", after := #[{ on := 3, ground := Ground.data }], guard := none }) (v := ?_) rfl (by kernel_rfl) (by kernel_rfl) (by kernel_rfl) (fun _ _ _ h => h) (Or.inl ⟨by rfl, ?_⟩) C0 ?_
                rotate_left
                · intro W' hSw
                  clear hSw
                  go_simp <;> with_reducible rfl
                try simp only [Act.put, List.setIfInBounds_toArray, List.set_cons_zero, List.set_cons_succ]
                refine wpAnyH_ready (rs := [1]) (by kernel_rfl) (by simp) ?_
                refine AllReadyH.cons (o := { dst := some 53, op := Op.call { callee := Callee.value (Operand.func 11), args := #[Operand.tmp 52], argTypes := #[31] }, type := 4, pos := "law.go:43", after := #[{ on := 0, ground := Ground.data }], guard := none }) rfl (fun K hK => ?_) AllReadyH.nil
                go_simp
                refine (Right_any xk xb _).mono ?_
                rintro _ w3 ⟨rfl, hB⟩
                rw [hk1]
                go_wp2_with fail
                refine hK.out _ _ (C0.trans (hB.mono C0.size)) (fun C1 => ?_)
                clear hK K hB
                try simp only [Act.put, List.setIfInBounds_toArray, List.set_cons_zero, List.set_cons_succ]
                refine wpAnyH_take (i := 5) (oi := { dst := some 57, op := Op.move (Operand.tmp 56), type := 4, pos := "law.go:43", after := #[{ on := 4, ground := Ground.data }, { on := 1, ground := Ground.chain }], guard := none }) (v := ?_) rfl (by kernel_rfl) (by kernel_rfl) (by kernel_rfl) (fun _ _ _ h => h) (Or.inl ⟨by rfl, ?_⟩) C1 ?_
                rotate_left
                · intro W' hSw
                  clear hSw
                  go_simp <;> with_reducible rfl
                try simp only [Act.put, List.setIfInBounds_toArray, List.set_cons_zero, List.set_cons_succ]
                refine wpAnyH_take (i := 6) (oi := { dst := some 58, op := Op.fieldAddr 31 (Operand.tmp 10) 0, type := 0, pos := "law.go:43", after := #[{ on := 5, ground := Ground.guard }], guard := some (5, true) }) (v := ?_) rfl (by kernel_rfl) (by kernel_rfl) (by kernel_rfl) (fun _ _ _ h => h) (Or.inl ⟨by rfl, ?_⟩) C1 ?_
                rotate_left
                · intro W' hSw
                  clear hSw
                  go_simp <;> with_reducible rfl
                try simp only [Act.put, List.setIfInBounds_toArray, List.set_cons_zero, List.set_cons_succ]
                refine wpAnyH_take (i := 7) (oi := { dst := some 59, op := Op.load 3 (Operand.tmp 58), type := 3, pos := "law.go:43", after := #[{ on := 6, ground := Ground.data }, { on := 5, ground := Ground.guard }], guard := some (5, true) }) (v := ?_) rfl (by kernel_rfl) (by kernel_rfl) (by kernel_rfl) (fun _ _ _ h => h) (Or.inl ⟨by rfl, ?_⟩) C1 ?_
                rotate_left
                · intro W' hSw
                  have z0 := (hSw.cell (p := ⟨wr.heap.size, 0, none⟩) hg).trans f0
                  have z1 := (hSw.cell (p := ⟨wr.heap.size, 1, none⟩) hg).trans f1
                  clear hSw
                  go_simp <;> with_reducible rfl
                try simp only [Act.put, List.setIfInBounds_toArray, List.set_cons_zero, List.set_cons_succ]
                refine wpAnyH_take (i := 8) (oi := { dst := some 60, op := Op.binOp BinOp.leq 3 (Operand.tmp 59) (Operand.const (Value.int IntKind.i64 4)) 3, type := 4, pos := "law.go:43", after := #[{ on := 7, ground := Ground.data }, { on := 5, ground := Ground.guard }], guard := some (5, true) }) (v := ?_) rfl (by kernel_rfl) (by kernel_rfl) (by kernel_rfl) (fun _ _ _ h => h) (Or.inl ⟨by rfl, ?_⟩) C1 ?_
                rotate_left
                · intro W' hSw
                  clear hSw
                  go_simp <;> with_reducible rfl
                try simp only [Act.put, List.setIfInBounds_toArray, List.set_cons_zero, List.set_cons_succ]
                refine wpAnyH_take (i := 9) (oi := { dst := some 61, op := Op.pick (Operand.tmp 57) (Operand.tmp 60) (Operand.const (Value.bool false)), type := 4, pos := "law.go:43", after := #[{ on := 5, ground := Ground.data }, { on := 8, ground := Ground.data }], guard := none }) (v := ?_) rfl (by kernel_rfl) (by kernel_rfl) (by kernel_rfl) (fun _ _ _ h => h) (Or.inl ⟨by rfl, ?_⟩) C1 ?_
                rotate_left
                · intro W' hSw
                  clear hSw
                  go_simp <;> with_reducible rfl
                try simp only [Act.put, List.setIfInBounds_toArray, List.set_cons_zero, List.set_cons_succ]
                refine wpAnyH_take (i := 10) (oi := { dst := some 62, op := Op.binOp BinOp.neq 4 (Operand.tmp 53) (Operand.tmp 61) 4, type := 4, pos := "law.go:43", after := #[{ on := 1, ground := Ground.data }, { on := 9, ground := Ground.data }], guard := none }) (v := ?_) rfl (by kernel_rfl) (by kernel_rfl) (by kernel_rfl) (fun _ _ _ h => h) (Or.inl ⟨by rfl, ?_⟩) C1 ?_
                rotate_left
                · intro W' hSw
                  clear hSw
                  go_simp <;> with_reducible rfl
                try simp only [Act.put, List.setIfInBounds_toArray, List.set_cons_zero, List.set_cons_succ]
                refine wpAnyH_done (by kernel_rfl) ?_ _
                refine NoPanic.normal ?_
                have B3 := Lib.hid (below_step BW.out C1)
                go_wp2
                go_roundw
                case rel => exact ⟨k + 1, by omega, by go_num, B3⟩
                case measure => simp [intOf]; omega
            · have e1 : decide ((1 : Int) ≤ xk) = false := decide_eq_false h1
              have hk1 : okK xk = false := by unfold okK; rw [e1, Bool.false_and]
              go_wp2
              have BW := Lib.hid (below_step BL.out (below_new wr (.cells #[.int .i64 xk, .int .u8 (xb : Int)] 31)))
              have T := Lib.hid (CRow.new wr #[.int .i64 xk, .int .u8 (xb : Int)] 31)
              have hg := T.out.lt
              have f0 := T.out.cell_at 0 _ rfl
              have f1 := T.out.cell_at 1 _ rfl
              clear T
              generalize wr.alloc (.cells #[.int .i64 xk, .int .u8 (xb : Int)] 31) = W at *
              refine wp_region_noPanic ?_
              refine wp_region_held_drew (S := fun w' => Below W.heap.size W w') (by kernel_rfl) ((Below.refl _ _).drew) (fun C0 => ?_)
              refine wpAnyH_take (i := 0) (oi := { dst := some 52, op := Op.load 31 (Operand.tmp 10), type := 31, pos := "law.go:43", after := #[], guard := none }) (v := ?_) rfl (by kernel_rfl) (by kernel_rfl) (by kernel_rfl) (fun _ _ _ h => h) (Or.inl ⟨by rfl, ?_⟩) C0 ?_
              rotate_left
              · intro W' hSw
                have z0 := (hSw.cell (p := ⟨wr.heap.size, 0, none⟩) hg).trans f0
                have z1 := (hSw.cell (p := ⟨wr.heap.size, 1, none⟩) hg).trans f1
                clear hSw
                go_simp <;> with_reducible rfl
              try simp only [Act.put, List.setIfInBounds_toArray, List.set_cons_zero, List.set_cons_succ]
              refine wpAnyH_take (i := 2) (oi := { dst := some 54, op := Op.fieldAddr 31 (Operand.tmp 10) 0, type := 0, pos := "law.go:43", after := #[], guard := none }) (v := ?_) rfl (by kernel_rfl) (by kernel_rfl) (by kernel_rfl) (fun _ _ _ h => h) (Or.inl ⟨by rfl, ?_⟩) C0 ?_
              rotate_left
              · intro W' hSw
                clear hSw
                go_simp <;> with_reducible rfl
              try simp only [Act.put, List.setIfInBounds_toArray, List.set_cons_zero, List.set_cons_succ]
              refine wpAnyH_take (i := 3) (oi := { dst := some 55, op := Op.load 3 (Operand.tmp 54), type := 3, pos := "law.go:43", after := #[{ on := 2, ground := Ground.data }], guard := none }) (v := ?_) rfl (by kernel_rfl) (by kernel_rfl) (by kernel_rfl) (fun _ _ _ h => h) (Or.inl ⟨by rfl, ?_⟩) C0 ?_
              rotate_left
              · intro W' hSw
                have z0 := (hSw.cell (p := ⟨wr.heap.size, 0, none⟩) hg).trans f0
                have z1 := (hSw.cell (p := ⟨wr.heap.size, 1, none⟩) hg).trans f1
                clear hSw
                go_simp <;> with_reducible rfl
              try simp only [Act.put, List.setIfInBounds_toArray, List.set_cons_zero, List.set_cons_succ]
              refine wpAnyH_take (i := 4) (oi := { dst := some 56, op := Op.binOp BinOp.geq 3 (Operand.tmp 55) (Operand.const (Value.int IntKind.i64 1)) 3, type := 4, pos := "law.go:43", after := #[{ on := 3, ground := Ground.data }], guard := none }) (v := ?_) rfl (by kernel_rfl) (by kernel_rfl) (by kernel_rfl) (fun _ _ _ h => h) (Or.inl ⟨by rfl, ?_⟩) C0 ?_
              rotate_left
              · intro W' hSw
                clear hSw
                go_simp <;> with_reducible rfl
              try simp only [Act.put, List.setIfInBounds_toArray, List.set_cons_zero, List.set_cons_succ]
              refine wpAnyH_ready (rs := [1]) (by kernel_rfl) (by simp) ?_
              refine AllReadyH.cons (o := { dst := some 53, op := Op.call { callee := Callee.value (Operand.func 11), args := #[Operand.tmp 52], argTypes := #[31] }, type := 4, pos := "law.go:43", after := #[{ on := 0, ground := Ground.data }], guard := none }) rfl (fun K hK => ?_) AllReadyH.nil
              go_simp
              refine (Right_any xk xb _).mono ?_
              rintro _ w3 ⟨rfl, hB⟩
              rw [hk1]
              go_wp2_with fail
              refine hK.out _ _ (C0.trans (hB.mono C0.size)) (fun C1 => ?_)
              clear hK K hB
              try simp only [Act.put, List.setIfInBounds_toArray, List.set_cons_zero, List.set_cons_succ]
              refine wpAnyH_take (i := 5) (oi := { dst := some 57, op := Op.move (Operand.tmp 56), type := 4, pos := "law.go:43", after := #[{ on := 4, ground := Ground.data }, { on := 1, ground := Ground.chain }], guard := none }) (v := ?_) rfl (by kernel_rfl) (by kernel_rfl) (by kernel_rfl) (fun _ _ _ h => h) (Or.inl ⟨by rfl, ?_⟩) C1 ?_
              rotate_left
              · intro W' hSw
                clear hSw
                go_simp <;> with_reducible rfl
              try simp only [Act.put, List.setIfInBounds_toArray, List.set_cons_zero, List.set_cons_succ]
              refine wpAnyH_take (i := 6) (oi := { dst := some 58, op := Op.fieldAddr 31 (Operand.tmp 10) 0, type := 0, pos := "law.go:43", after := #[{ on := 5, ground := Ground.guard }], guard := some (5, true) }) (v := undef) rfl (by kernel_rfl) (by kernel_rfl) (by kernel_rfl) (fun _ _ _ h => h) (Or.inr ⟨by rfl, rfl⟩) C1 ?_
              try simp only [Act.put, List.setIfInBounds_toArray, List.set_cons_zero, List.set_cons_succ]
              refine wpAnyH_take (i := 7) (oi := { dst := some 59, op := Op.load 3 (Operand.tmp 58), type := 3, pos := "law.go:43", after := #[{ on := 6, ground := Ground.data }, { on := 5, ground := Ground.guard }], guard := some (5, true) }) (v := undef) rfl (by kernel_rfl) (by kernel_rfl) (by kernel_rfl) (fun _ _ _ h => h) (Or.inr ⟨by rfl, rfl⟩) C1 ?_
              try simp only [Act.put, List.setIfInBounds_toArray, List.set_cons_zero, List.set_cons_succ]
              refine wpAnyH_take (i := 8) (oi := { dst := some 60, op := Op.binOp BinOp.leq 3 (Operand.tmp 59) (Operand.const (Value.int IntKind.i64 4)) 3, type := 4, pos := "law.go:43", after := #[{ on := 7, ground := Ground.data }, { on := 5, ground := Ground.guard }], guard := some (5, true) }) (v := undef) rfl (by kernel_rfl) (by kernel_rfl) (by kernel_rfl) (fun _ _ _ h => h) (Or.inr ⟨by rfl, rfl⟩) C1 ?_
              try simp only [Act.put, List.setIfInBounds_toArray, List.set_cons_zero, List.set_cons_succ]
              refine wpAnyH_take (i := 9) (oi := { dst := some 61, op := Op.pick (Operand.tmp 57) (Operand.tmp 60) (Operand.const (Value.bool false)), type := 4, pos := "law.go:43", after := #[{ on := 5, ground := Ground.data }, { on := 8, ground := Ground.data }], guard := none }) (v := ?_) rfl (by kernel_rfl) (by kernel_rfl) (by kernel_rfl) (fun _ _ _ h => h) (Or.inl ⟨by rfl, ?_⟩) C1 ?_
              rotate_left
              · intro W' hSw
                clear hSw
                go_simp <;> with_reducible rfl
              try simp only [Act.put, List.setIfInBounds_toArray, List.set_cons_zero, List.set_cons_succ]
              refine wpAnyH_take (i := 10) (oi := { dst := some 62, op := Op.binOp BinOp.neq 4 (Operand.tmp 53) (Operand.tmp 61) 4, type := 4, pos := "law.go:43", after := #[{ on := 1, ground := Ground.data }, { on := 9, ground := Ground.data }], guard := none }) (v := ?_) rfl (by kernel_rfl) (by kernel_rfl) (by kernel_rfl) (fun _ _ _ h => h) (Or.inl ⟨by rfl, ?_⟩) C1 ?_
              rotate_left
              · intro W' hSw
                clear hSw
                go_simp <;> with_reducible rfl
              try simp only [Act.put, List.setIfInBounds_toArray, List.set_cons_zero, List.set_cons_succ]
              refine wpAnyH_done (by kernel_rfl) ?_ _
              refine NoPanic.normal ?_
              have B3 := Lib.hid (below_step BW.out C1)
              go_wp2
              go_roundw
              case rel => exact ⟨k + 1, by omega, by go_num, B3⟩
              case measure => simp [intOf]; omega
          · go_wp2_with fail
            refine (Of_any kind B m d b _ (HB.out.below BL.out) (by omega)).mono ?_
            rintro _ w5 ⟨A5, c5, rfl, hown5, h5⟩
            rw [ofL_length, HM.out] at hown5 ⊢
            have R5 := Lib.hid (RC.own hown5 HOI.out)
            have B5 := Lib.hid (below_step BL.out h5)
            clear hown5 h5
            go_wp2
            go_loopw [69] (fun i wr => ∃ k : Nat, k ≤ m ∧ i = .int .i64 (k : Int) ∧ Hid (Below w5.heap.size w5 wr)) (fun i _ => m - (intOf i).toNat)
            case atStart => exact ⟨0, Nat.zero_le _, rfl, Below.refl _ _⟩
            case round =>
              obtain ⟨k, hk, rfl, BL5⟩ := hrel
              by_cases hlt : k < m
              · obtain ⟨b1, o1, y, rfl, hb1, HY, ⟨yi1, yi2, yi3⟩, c0, c1⟩ := (R5.out.below BL5.out).at_ hlt
                obtain ⟨b2, o2, z, rfl, hb2, HZ, hz, d0⟩ := (HB.out.below (below_step B5.out BL5.out)).at_ hlt
                have hy := (HY.out).symm.trans (ofL_at (k := kind) HZ.out)
                injection hy with hy
                subst hy
                simp only at c0 c1 yi1 yi2 yi3
                have ek : (kind != kind) = false := by simp
                have ez : ((z : Int) != (z : Int)) = false := by simp
                go_wp2
                have hb2W : b2 < (wr.alloc (.cells #[.int .i64 kind, .int .u8 (z : Int)] 31)).heap.size := by simp; omega
                have d0 := (World.cell?_alloc_lt wr (.cells #[.int .i64 kind, .int .u8 (z : Int)] 31) ⟨b2, o2 + k, none⟩ (by simp only; omega)).trans d0
                have BW := Lib.hid (below_step BL5.out (below_new wr (.cells #[.int .i64 kind, .int .u8 (z : Int)] 31)))
                have T := Lib.hid (CRow.new wr #[.int .i64 kind, .int .u8 (z : Int)] 31)
                have hg := T.out.lt
                have f0 := T.out.cell_at 0 _ rfl
                have f1 := T.out.cell_at 1 _ rfl
                clear T
                generalize wr.alloc (.cells #[.int .i64 kind, .int .u8 (z : Int)] 31) = W at *
                refine wp_region_noPanic ?_
                refine wp_region_held_drew (S := fun w' => Below W.heap.size W w') (by kernel_rfl) ((Below.refl _ _).drew) (fun C0 => ?_)
                refine wpAnyH_take (i := 0) (oi := { dst := some 74, op := Op.fieldAddr 31 (Operand.tmp 13) 0, type := 0, pos := "law.go:49", after := #[], guard := none }) (v := ?_) rfl (by kernel_rfl) (by kernel_rfl) (by kernel_rfl) (fun _ _ _ h => h) (Or.inl ⟨by rfl, ?_⟩) C0 ?_
                rotate_left
                · intro W' hSw
                  clear hSw
                  go_simp <;> with_reducible rfl
                try simp only [Act.put, List.setIfInBounds_toArray, List.set_cons_zero, List.set_cons_succ]
                refine wpAnyH_take (i := 1) (oi := { dst := some 75, op := Op.load 3 (Operand.tmp 74), type := 3, pos := "law.go:49", after := #[{ on := 0, ground := Ground.data }], guard := none }) (v := ?_) rfl (by kernel_rfl) (by kernel_rfl) (by kernel_rfl) (fun _ _ _ h => h) (Or.inl ⟨by rfl, ?_⟩) C0 ?_
                rotate_left
                · intro W' hSw
                  have z0 := (hSw.cell (p := ⟨wr.heap.size, 0, none⟩) hg).trans f0
                  have z1 := (hSw.cell (p := ⟨wr.heap.size, 1, none⟩) hg).trans f1
                  clear hSw
                  go_simp <;> with_reducible rfl
                try simp only [Act.put, List.setIfInBounds_toArray, List.set_cons_zero, List.set_cons_succ]
                refine wpAnyH_take (i := 2) (oi := { dst := some 76, op := Op.move (Operand.tmp 1), type := 3, pos := "law.go:49", after := #[], guard := none }) (v := ?_) rfl (by kernel_rfl) (by kernel_rfl) (by kernel_rfl) (fun _ _ _ h => h) (Or.inl ⟨by rfl, ?_⟩) C0 ?_
                rotate_left
                · intro W' hSw
                  clear hSw
                  go_simp <;> with_reducible rfl
                try simp only [Act.put, List.setIfInBounds_toArray, List.set_cons_zero, List.set_cons_succ]
                refine wpAnyH_take (i := 3) (oi := { dst := some 77, op := Op.binOp BinOp.neq 3 (Operand.tmp 75) (Operand.tmp 76) 3, type := 4, pos := "law.go:49", after := #[{ on := 1, ground := Ground.data }, { on := 2, ground := Ground.data }], guard := none }) (v := ?_) rfl (by kernel_rfl) (by kernel_rfl) (by kernel_rfl) (fun _ _ _ h => h) (Or.inl ⟨by rfl, ?_⟩) C0 ?_
                rotate_left
                · intro W' hSw
                  clear hSw
                  go_simp <;> with_reducible rfl
                try simp only [Act.put, List.setIfInBounds_toArray, List.set_cons_zero, List.set_cons_succ]
                refine wpAnyH_take (i := 4) (oi := { dst := some 78, op := Op.move (Operand.tmp 77), type := 4, pos := "law.go:49", after := #[{ on := 3, ground := Ground.data }], guard := none }) (v := ?_) rfl (by kernel_rfl) (by kernel_rfl) (by kernel_rfl) (fun _ _ _ h => h) (Or.inl ⟨by rfl, ?_⟩) C0 ?_
                rotate_left
                · intro W' hSw
                  clear hSw
                  go_simp <;> with_reducible rfl
                try simp only [Act.put, List.setIfInBounds_toArray, List.set_cons_zero, List.set_cons_succ]
                refine wpAnyH_take (i := 5) (oi := { dst := some 79, op := Op.fieldAddr 31 (Operand.tmp 13) 1, type := 0, pos := "law.go:49", after := #[{ on := 4, ground := Ground.guard }], guard := some (4, false) }) (v := ?_) rfl (by kernel_rfl) (by kernel_rfl) (by kernel_rfl) (fun _ _ _ h => h) (Or.inl ⟨by rfl, ?_⟩) C0 ?_
                rotate_left
                · intro W' hSw
                  clear hSw
                  go_simp <;> with_reducible rfl
                try simp only [Act.put, List.setIfInBounds_toArray, List.set_cons_zero, List.set_cons_succ]
                refine wpAnyH_take (i := 6) (oi := { dst := some 80, op := Op.load 5 (Operand.tmp 79), type := 5, pos := "law.go:49", after := #[{ on := 5, ground := Ground.data }, { on := 4, ground := Ground.guard }], guard := some (4, false) }) (v := ?_) rfl (by kernel_rfl) (by kernel_rfl) (by kernel_rfl) (fun _ _ _ h => h) (Or.inl ⟨by rfl, ?_⟩) C0 ?_
                rotate_left
                · intro W' hSw
                  have z0 := (hSw.cell (p := ⟨wr.heap.size, 0, none⟩) hg).trans f0
                  have z1 := (hSw.cell (p := ⟨wr.heap.size, 1, none⟩) hg).trans f1
                  clear hSw
                  go_simp <;> with_reducible rfl
                try simp only [Act.put, List.setIfInBounds_toArray, List.set_cons_zero, List.set_cons_succ]
                refine wpAnyH_take (i := 7) (oi := { dst := some 81, op := Op.move (Operand.tmp 2), type := 23, pos := "law.go:49", after := #[{ on := 4, ground := Ground.guard }], guard := some (4, false) }) (v := ?_) rfl (by kernel_rfl) (by kernel_rfl) (by kernel_rfl) (fun _ _ _ h => h) (Or.inl ⟨by rfl, ?_⟩) C0 ?_
                rotate_left
                · intro W' hSw
                  clear hSw
                  go_simp <;> with_reducible rfl
                try simp only [Act.put, List.setIfInBounds_toArray, List.set_cons_zero, List.set_cons_succ]
                refine wpAnyH_take (i := 8) (oi := { dst := some 82, op := Op.move (Operand.tmp 12), type := 3, pos := "law.go:49", after := #[{ on := 4, ground := Ground.guard }], guard := some (4, false) }) (v := ?_) rfl (by kernel_rfl) (by kernel_rfl) (by kernel_rfl) (fun _ _ _ h => h) (Or.inl ⟨by rfl, ?_⟩) C0 ?_
                rotate_left
                · intro W' hSw
                  clear hSw
                  go_simp <;> with_reducible rfl
                try simp only [Act.put, List.setIfInBounds_toArray, List.set_cons_zero, List.set_cons_succ]
                refine wpAnyH_take (i := 9) (oi := { dst := some 83, op := Op.indexAddr 23 (Operand.tmp 81) (Operand.tmp 82), type := 0, pos := "law.go:49", after := #[{ on := 7, ground := Ground.data }, { on := 8, ground := Ground.data }, { on := 4, ground := Ground.guard }], guard := some (4, false) }) (v := ?_) rfl (by kernel_rfl) (by kernel_rfl) (by kernel_rfl) (fun _ _ _ h => h) (Or.inl ⟨by rfl, ?_⟩) C0 ?_
                rotate_left
                · intro W' hSw
                  clear hSw
                  go_simp <;> with_reducible rfl
                try simp only [Act.put, List.setIfInBounds_toArray, List.set_cons_zero, List.set_cons_succ]
                refine wpAnyH_take (i := 10) (oi := { dst := some 84, op := Op.load 5 (Operand.tmp 83), type := 5, pos := "law.go:49", after := #[{ on := 9, ground := Ground.data }, { on := 4, ground := Ground.guard }], guard := some (4, false) }) (v := ?_) rfl (by kernel_rfl) (by kernel_rfl) (by kernel_rfl) (fun _ _ _ h => h) (Or.inl ⟨by rfl, ?_⟩) C0 ?_
                rotate_left
                · intro W' hSw
                  have u0 := (hSw.cell (p := ⟨b2, o2 + k, none⟩) hb2W).trans d0
                  clear hSw
                  go_simp <;> with_reducible rfl
                try simp only [Act.put, List.setIfInBounds_toArray, List.set_cons_zero, List.set_cons_succ]
                refine wpAnyH_take (i := 11) (oi := { dst := some 85, op := Op.binOp BinOp.neq 5 (Operand.tmp 80) (Operand.tmp 84) 5, type := 4, pos := "law.go:49", after := #[{ on := 6, ground := Ground.data }, { on := 10, ground := Ground.data }, { on := 4, ground := Ground.guard }], guard := some (4, false) }) (v := ?_) rfl (by kernel_rfl) (by kernel_rfl) (by kernel_rfl) (fun _ _ _ h => h) (Or.inl ⟨by rfl, ?_⟩) C0 ?_
                rotate_left
                · intro W' hSw
                  clear hSw
                  go_simp <;> with_reducible rfl
                try simp only [Act.put, List.setIfInBounds_toArray, List.set_cons_zero, List.set_cons_succ]
                refine wpAnyH_take (i := 12) (oi := { dst := some 86, op := Op.pick (Operand.tmp 78) (Operand.const (Value.bool true)) (Operand.tmp 85), type := 4, pos := "law.go:49", after := #[{ on := 4, ground := Ground.data }, { on := 11, ground := Ground.data }], guard := none }) (v := ?_) rfl (by kernel_rfl) (by kernel_rfl) (by kernel_rfl) (fun _ _ _ h => h) (Or.inl ⟨by rfl, ?_⟩) C0 ?_
                rotate_left
                · intro W' hSw
                  clear hSw
                  go_simp <;> with_reducible rfl
                try simp only [Act.put, List.setIfInBounds_toArray, List.set_cons_zero, List.set_cons_succ]
                refine wpAnyH_done (by kernel_rfl) ?_ _
                refine NoPanic.normal ?_
                have B3 := Lib.hid (below_step BW.out C0)
                go_wp2
                go_roundw
                case rel => exact ⟨k + 1, by omega, by go_num, B3⟩
                case measure => simp [intOf]; omega
              · have B6 := Lib.hid (below_step B5.out BL5.out)
                have em : ((m : Int) == (m : Int)) = true := by simp
                go_wp2_with fail
                refine (Same_any A A5 n c m c5 _ _ _ (HR.out.below B6.out) (R5.out.below BL5.out) (by omega) (by omega)).mono ?_
                rintro _ w7 ⟨rfl, h7⟩
                have B7 := Lib.hid (below_step B6.out h7)
                have R7 := Lib.hid (R5.out.below (below_step BL5.out h7))
                clear h7
                go_wp2_with fail
                refine (RefSameC_any A A5 n c m c5 _ _ _ (HR.out.below B7.out) R7.out (by omega) (by omega)).mono ?_
                rintro _ w8 ⟨rfl, h8⟩
                have B8 := Lib.hid (below_step B7.out h8)
                clear h8
                go_wp2
                go_ret
                exact ⟨by simp, B8.out⟩
      · have HO := Lib.hid hok
        clear hok
        go_wp2_with fail
        refine (lawRight_any A n c l _ (HR.out.below B2.out) (by omega)).mono ?_
        rintro _ w3 ⟨rfl, h3⟩
        rw [HO.out]
        have B3 := Lib.hid (below_step B2.out h3)
        clear h3
        go_wp2
        go_loopw [48] (fun i wr => ∃ k : Nat, k ≤ n ∧ i = .int .i64 (k : Int) ∧ Hid (Below w.heap.size w wr)) (fun i _ => n - (intOf i).toNat)
        case atStart => exact ⟨0, Nat.zero_le _, rfl, B3⟩
        case round =>
          obtain ⟨k, hk, rfl, BL⟩ := hrel
          by_cases hlt : k < n
          · obtain ⟨b1, o1, x, rfl, hb1, HX, ⟨xi1, xi2, xi3⟩, c0, c1⟩ := (HR.out.below BL.out).at_ hlt
            obtain ⟨xk, xb⟩ := x
            simp only at c0 c1 xi1 xi2 xi3
            by_cases h1 : 1 ≤ xk
            · have e1 : decide ((1 : Int) ≤ xk) = true := decide_eq_true h1
              by_cases h2 : xk ≤ 4
              · have e2 : decide (xk ≤ (4 : Int)) = true := decide_eq_true h2
                have hk1 : okK xk = true := okK_iff.2 ⟨h1, h2⟩
                go_wp2
                have BW := Lib.hid (below_step BL.out (below_new wr (.cells #[.int .i64 xk, .int .u8 (xb : Int)] 31)))
                have T := Lib.hid (CRow.new wr #[.int .i64 xk, .int .u8 (xb : Int)] 31)
                have hg := T.out.lt
                have f0 := T.out.cell_at 0 _ rfl
                have f1 := T.out.cell_at 1 _ rfl
                clear T
                generalize wr.alloc (.cells #[.int .i64 xk, .int .u8 (xb : Int)] 31) = W at *
                refine wp_region_noPanic ?_
                refine wp_region_held_drew (S := fun w' => Below W.heap.size W w') (by kernel_rfl) ((Below.refl _ _).drew) (fun C0 => ?_)
                refine wpAnyH_take (i := 0) (oi := { dst := some 52, op := Op.load 31 (Operand.tmp 10), type := 31, pos := "law.go:43", after := #[], guard := none }) (v := ?_) rfl (by kernel_rfl) (by kernel_rfl) (by kernel_rfl) (fun _ _ _ h => h) (Or.inl ⟨by rfl, ?_⟩) C0 ?_
                rotate_left
                · intro W' hSw
                  have z0 := (hSw.cell (p := ⟨wr.heap.size, 0, none⟩) hg).trans f0
                  have z1 := (hSw.cell (p := ⟨wr.heap.size, 1, none⟩) hg).trans f1
                  clear hSw
                  go_simp <;> with_reducible rfl
                try simp only [Act.put, List.setIfInBounds_toArray, List.set_cons_zero, List.set_cons_succ]
                refine wpAnyH_take (i := 2) (oi := { dst := some 54, op := Op.fieldAddr 31 (Operand.tmp 10) 0, type := 0, pos := "law.go:43", after := #[], guard := none }) (v := ?_) rfl (by kernel_rfl) (by kernel_rfl) (by kernel_rfl) (fun _ _ _ h => h) (Or.inl ⟨by rfl, ?_⟩) C0 ?_
                rotate_left
                · intro W' hSw
                  clear hSw
                  go_simp <;> with_reducible rfl
                try simp only [Act.put, List.setIfInBounds_toArray, List.set_cons_zero, List.set_cons_succ]
                refine wpAnyH_take (i := 3) (oi := { dst := some 55, op := Op.load 3 (Operand.tmp 54), type := 3, pos := "law.go:43", after := #[{ on := 2, ground := Ground.data }], guard := none }) (v := ?_) rfl (by kernel_rfl) (by kernel_rfl) (by kernel_rfl) (fun _ _ _ h => h) (Or.inl ⟨by rfl, ?_⟩) C0 ?_
                rotate_left
                · intro W' hSw
                  have z0 := (hSw.cell (p := ⟨wr.heap.size, 0, none⟩) hg).trans f0
                  have z1 := (hSw.cell (p := ⟨wr.heap.size, 1, none⟩) hg).trans f1
                  clear hSw
                  go_simp <;> with_reducible rfl
                try simp only [Act.put, List.setIfInBounds_toArray, List.set_cons_zero, List.set_cons_succ]
                refine wpAnyH_take (i := 4) (oi := { dst := some 56, op := Op.binOp BinOp.geq 3 (Operand.tmp 55) (Operand.const (Value.int IntKind.i64 1)) 3, type := 4, pos := "law.go:43", after := #[{ on := 3, ground := Ground.data }], guard := none }) (v := ?_) rfl (by kernel_rfl) (by kernel_rfl) (by kernel_rfl) (fun _ _ _ h => h) (Or.inl ⟨by rfl, ?_⟩) C0 ?_
                rotate_left
                · intro W' hSw
                  clear hSw
                  go_simp <;> with_reducible rfl
                try simp only [Act.put, List.setIfInBounds_toArray, List.set_cons_zero, List.set_cons_succ]
                refine wpAnyH_ready (rs := [1]) (by kernel_rfl) (by simp) ?_
                refine AllReadyH.cons (o := { dst := some 53, op := Op.call { callee := Callee.value (Operand.func 11), args := #[Operand.tmp 52], argTypes := #[31] }, type := 4, pos := "law.go:43", after := #[{ on := 0, ground := Ground.data }], guard := none }) rfl (fun K hK => ?_) AllReadyH.nil
                go_simp
                refine (Right_any xk xb _).mono ?_
                rintro _ w3 ⟨rfl, hB⟩
                rw [hk1]
                go_wp2_with fail
                refine hK.out _ _ (C0.trans (hB.mono C0.size)) (fun C1 => ?_)
                clear hK K hB
                try simp only [Act.put, List.setIfInBounds_toArray, List.set_cons_zero, List.set_cons_succ]
                refine wpAnyH_take (i := 5) (oi := { dst := some 57, op := Op.move (Operand.tmp 56), type := 4, pos := "law.go:43", after := #[{ on := 4, ground := Ground.data }, { on := 1, ground := Ground.chain }], guard := none }) (v := ?_) rfl (by kernel_rfl) (by kernel_rfl) (by kernel_rfl) (fun _ _ _ h => h) (Or.inl ⟨by rfl, ?_⟩) C1 ?_
                rotate_left
                · intro W' hSw
                  clear hSw
                  go_simp <;> with_reducible rfl
                try simp only [Act.put, List.setIfInBounds_toArray, List.set_cons_zero, List.set_cons_succ]
                refine wpAnyH_take (i := 6) (oi := { dst := some 58, op := Op.fieldAddr 31 (Operand.tmp 10) 0, type := 0, pos := "law.go:43", after := #[{ on := 5, ground := Ground.guard }], guard := some (5, true) }) (v := ?_) rfl (by kernel_rfl) (by kernel_rfl) (by kernel_rfl) (fun _ _ _ h => h) (Or.inl ⟨by rfl, ?_⟩) C1 ?_
                rotate_left
                · intro W' hSw
                  clear hSw
                  go_simp <;> with_reducible rfl
                try simp only [Act.put, List.setIfInBounds_toArray, List.set_cons_zero, List.set_cons_succ]
                refine wpAnyH_take (i := 7) (oi := { dst := some 59, op := Op.load 3 (Operand.tmp 58), type := 3, pos := "law.go:43", after := #[{ on := 6, ground := Ground.data }, { on := 5, ground := Ground.guard }], guard := some (5, true) }) (v := ?_) rfl (by kernel_rfl) (by kernel_rfl) (by kernel_rfl) (fun _ _ _ h => h) (Or.inl ⟨by rfl, ?_⟩) C1 ?_
                rotate_left
                · intro W' hSw
                  have z0 := (hSw.cell (p := ⟨wr.heap.size, 0, none⟩) hg).trans f0
                  have z1 := (hSw.cell (p := ⟨wr.heap.size, 1, none⟩) hg).trans f1
                  clear hSw
                  go_simp <;> with_reducible rfl
                try simp only [Act.put, List.setIfInBounds_toArray, List.set_cons_zero, List.set_cons_succ]
                refine wpAnyH_take (i := 8) (oi := { dst := some 60, op := Op.binOp BinOp.leq 3 (Operand.tmp 59) (Operand.const (Value.int IntKind.i64 4)) 3, type := 4, pos := "law.go:43", after := #[{ on := 7, ground := Ground.data }, { on := 5, ground := Ground.guard }], guard := some (5, true) }) (v := ?_) rfl (by kernel_rfl) (by kernel_rfl) (by kernel_rfl) (fun _ _ _ h => h) (Or.inl ⟨by rfl, ?_⟩) C1 ?_
                rotate_left
                · intro W' hSw
                  clear hSw
                  go_simp <;> with_reducible rfl
                try simp only [Act.put, List.setIfInBounds_toArray, List.set_cons_zero, List.set_cons_succ]
                refine wpAnyH_take (i := 9) (oi := { dst := some 61, op := Op.pick (Operand.tmp 57) (Operand.tmp 60) (Operand.const (Value.bool false)), type := 4, pos := "law.go:43", after := #[{ on := 5, ground := Ground.data }, { on := 8, ground := Ground.data }], guard := none }) (v := ?_) rfl (by kernel_rfl) (by kernel_rfl) (by kernel_rfl) (fun _ _ _ h => h) (Or.inl ⟨by rfl, ?_⟩) C1 ?_
                rotate_left
                · intro W' hSw
                  clear hSw
                  go_simp <;> with_reducible rfl
                try simp only [Act.put, List.setIfInBounds_toArray, List.set_cons_zero, List.set_cons_succ]
                refine wpAnyH_take (i := 10) (oi := { dst := some 62, op := Op.binOp BinOp.neq 4 (Operand.tmp 53) (Operand.tmp 61) 4, type := 4, pos := "law.go:43", after := #[{ on := 1, ground := Ground.data }, { on := 9, ground := Ground.data }], guard := none }) (v := ?_) rfl (by kernel_rfl) (by kernel_rfl) (by kernel_rfl) (fun _ _ _ h => h) (Or.inl ⟨by rfl, ?_⟩) C1 ?_
                rotate_left
                · intro W' hSw
                  clear hSw
                  go_simp <;> with_reducible rfl
                try simp only [Act.put, List.setIfInBounds_toArray, List.set_cons_zero, List.set_cons_succ]
                refine wpAnyH_done (by kernel_rfl) ?_ _
                refine NoPanic.normal ?_
                have B3 := Lib.hid (below_step BW.out C1)
                go_wp2
                go_roundw
                case rel => exact ⟨k + 1, by omega, by go_num, B3⟩
                case measure => simp [intOf]; omega
              · have e2 : decide (xk ≤ (4 : Int)) = false := decide_eq_false h2
                have hk1 : okK xk = false := by unfold okK; rw [e2, Bool.and_false]
                go_wp2
                have BW := Lib.hid (below_step BL.out (below_new wr (.cells #[.int .i64 xk, .int .u8 (xb : Int)] 31)))
                have T := Lib.hid (CRow.new wr #[.int .i64 xk, .int .u8 (xb : Int)] 31)
                have hg := T.out.lt
                have f0 := T.out.cell_at 0 _ rfl
                have f1 := T.out.cell_at 1 _ rfl
                clear T
                generalize wr.alloc (.cells #[.int .i64 xk, .int .u8 (xb : Int)] 31) = W at *
                refine wp_region_noPanic ?_
                refine wp_region_held_drew (S := fun w' => Below W.heap.size W w') (by kernel_rfl) ((Below.refl _ _).drew) (fun C0 => ?_)
                refine wpAnyH_take (i := 0) (oi := { dst := some 52, op := Op.load 31 (Operand.tmp 10), type := 31, pos := "law.go:43", after := #[], guard := none }) (v := ?_) rfl (by kernel_rfl) (by kernel_rfl) (by kernel_rfl) (fun _ _ _ h => h) (Or.inl ⟨by rfl, ?_⟩) C0 ?_
                rotate_left
                · intro W' hSw
                  have z0 := (hSw.cell (p := ⟨wr.heap.size, 0, none⟩) hg).trans f0
                  have z1 := (hSw.cell (p := ⟨wr.heap.size, 1, none⟩) hg).trans f1
                  clear hSw
                  go_simp <;> with_reducible rfl
                try simp only [Act.put, List.setIfInBounds_toArray, List.set_cons_zero, List.set_cons_succ]
                refine wpAnyH_take (i := 2) (oi := { dst := some 54, op := Op.fieldAddr 31 (Operand.tmp 10) 0, type := 0, pos := "law.go:43", after := #[], guard := none }) (v := ?_) rfl (by kernel_rfl) (by kernel_rfl) (by kernel_rfl) (fun _ _ _ h => h) (Or.inl ⟨by rfl, ?_⟩) C0 ?_
                rotate_left
                · intro W' hSw
                  clear hSw
                  go_simp <;> with_reducible rfl
                try simp only [Act.put, List.setIfInBounds_toArray, List.set_cons_zero, List.set_cons_succ]
                refine wpAnyH_take (i := 3) (oi := { dst := some 55, op := Op.load 3 (Operand.tmp 54), type := 3, pos := "law.go:43", after := #[{ on := 2, ground := Ground.data }], guard := none }) (v := ?_) rfl (by kernel_rfl) (by kernel_rfl) (by kernel_rfl) (fun _ _ _ h => h) (Or.inl ⟨by rfl, ?_⟩) C0 ?_
                rotate_left
                · intro W' hSw
                  have z0 := (hSw.cell (p := ⟨wr.heap.size, 0, none⟩) hg).trans f0
                  have z1 := (hSw.cell (p := ⟨wr.heap.size, 1, none⟩) hg).trans f1
                  clear hSw
                  go_simp <;> with_reducible rfl
                try simp only [Act.put, List.setIfInBounds_toArray, List.set_cons_zero, List.set_cons_succ]
                refine wpAnyH_take (i := 4) (oi := { dst := some 56, op := Op.binOp BinOp.geq 3 (Operand.tmp 55) (Operand.const (Value.int IntKind.i64 1)) 3, type := 4, pos := "law.go:43", after := #[{ on := 3, ground := Ground.data }], guard := none }) (v := ?_) rfl (by kernel_rfl) (by kernel_rfl) (by kernel_rfl) (fun _ _ _ h => h) (Or.inl ⟨by rfl, ?_⟩) C0 ?_
                rotate_left
                · intro W' hSw
                  clear hSw
                  go_simp <;> with_reducible rfl
                try simp only [Act.put, List.setIfInBounds_toArray, List.set_cons_zero, List.set_cons_succ]
                refine wpAnyH_ready (rs := [1]) (by kernel_rfl) (by simp) ?_
                refine AllReadyH.cons (o := { dst := some 53, op := Op.call { callee := Callee.value (Operand.func 11), args := #[Operand.tmp 52], argTypes := #[31] }, type := 4, pos := "law.go:43", after := #[{ on := 0, ground := Ground.data }], guard := none }) rfl (fun K hK => ?_) AllReadyH.nil
                go_simp
                refine (Right_any xk xb _).mono ?_
                rintro _ w3 ⟨rfl, hB⟩
                rw [hk1]
                go_wp2_with fail
                refine hK.out _ _ (C0.trans (hB.mono C0.size)) (fun C1 => ?_)
                clear hK K hB
                try simp only [Act.put, List.setIfInBounds_toArray, List.set_cons_zero, List.set_cons_succ]
                refine wpAnyH_take (i := 5) (oi := { dst := some 57, op := Op.move (Operand.tmp 56), type := 4, pos := "law.go:43", after := #[{ on := 4, ground := Ground.data }, { on := 1, ground := Ground.chain }], guard := none }) (v := ?_) rfl (by kernel_rfl) (by kernel_rfl) (by kernel_rfl) (fun _ _ _ h => h) (Or.inl ⟨by rfl, ?_⟩) C1 ?_
                rotate_left
                · intro W' hSw
                  clear hSw
                  go_simp <;> with_reducible rfl
                try simp only [Act.put, List.setIfInBounds_toArray, List.set_cons_zero, List.set_cons_succ]
                refine wpAnyH_take (i := 6) (oi := { dst := some 58, op := Op.fieldAddr 31 (Operand.tmp 10) 0, type := 0, pos := "law.go:43", after := #[{ on := 5, ground := Ground.guard }], guard := some (5, true) }) (v := ?_) rfl (by kernel_rfl) (by kernel_rfl) (by kernel_rfl) (fun _ _ _ h => h) (Or.inl ⟨by rfl, ?_⟩) C1 ?_
                rotate_left
                · intro W' hSw
                  clear hSw
                  go_simp <;> with_reducible rfl
                try simp only [Act.put, List.setIfInBounds_toArray, List.set_cons_zero, List.set_cons_succ]
                refine wpAnyH_take (i := 7) (oi := { dst := some 59, op := Op.load 3 (Operand.tmp 58), type := 3, pos := "law.go:43", after := #[{ on := 6, ground := Ground.data }, { on := 5, ground := Ground.guard }], guard := some (5, true) }) (v := ?_) rfl (by kernel_rfl) (by kernel_rfl) (by kernel_rfl) (fun _ _ _ h => h) (Or.inl ⟨by rfl, ?_⟩) C1 ?_
                rotate_left
                · intro W' hSw
                  have z0 := (hSw.cell (p := ⟨wr.heap.size, 0, none⟩) hg).trans f0
                  have z1 := (hSw.cell (p := ⟨wr.heap.size, 1, none⟩) hg).trans f1
                  clear hSw
                  go_simp <;> with_reducible rfl
                try simp only [Act.put, List.setIfInBounds_toArray, List.set_cons_zero, List.set_cons_succ]
                refine wpAnyH_take (i := 8) (oi := { dst := some 60, op := Op.binOp BinOp.leq 3 (Operand.tmp 59) (Operand.const (Value.int IntKind.i64 4)) 3, type := 4, pos := "law.go:43", after := #[{ on := 7, ground := Ground.data }, { on := 5, ground := Ground.guard }], guard := some (5, true) }) (v := ?_) rfl (by kernel_rfl) (by kernel_rfl) (by kernel_rfl) (fun _ _ _ h => h) (Or.inl ⟨by rfl, ?_⟩) C1 ?_
                rotate_left
                · intro W' hSw
                  clear hSw
                  go_simp <;> with_reducible rfl
                try simp only [Act.put, List.setIfInBounds_toArray, List.set_cons_zero, List.set_cons_succ]
                refine wpAnyH_take (i := 9) (oi := { dst := some 61, op := Op.pick (Operand.tmp 57) (Operand.tmp 60) (Operand.const (Value.bool false)), type := 4, pos := "law.go:43", after := #[{ on := 5, ground := Ground.data }, { on := 8, ground := Ground.data }], guard := none }) (v := ?_) rfl (by kernel_rfl) (by kernel_rfl) (by kernel_rfl) (fun _ _ _ h => h) (Or.inl ⟨by rfl, ?_⟩) C1 ?_
                rotate_left
                · intro W' hSw
                  clear hSw
                  go_simp <;> with_reducible rfl
                try simp only [Act.put, List.setIfInBounds_toArray, List.set_cons_zero, List.set_cons_succ]
                refine wpAnyH_take (i := 10) (oi := { dst := some 62, op := Op.binOp BinOp.neq 4 (Operand.tmp 53) (Operand.tmp 61) 4, type := 4, pos := "law.go:43", after := #[{ on := 1, ground := Ground.data }, { on := 9, ground := Ground.data }], guard := none }) (v := ?_) rfl (by kernel_rfl) (by kernel_rfl) (by kernel_rfl) (fun _ _ _ h => h) (Or.inl ⟨by rfl, ?_⟩) C1 ?_
                rotate_left
                · intro W' hSw
                  clear hSw
                  go_simp <;> with_reducible rfl
                try simp only [Act.put, List.setIfInBounds_toArray, List.set_cons_zero, List.set_cons_succ]
                refine wpAnyH_done (by kernel_rfl) ?_ _
                refine NoPanic.normal ?_
                have B3 := Lib.hid (below_step BW.out C1)
                go_wp2
                go_roundw
                case rel => exact ⟨k + 1, by omega, by go_num, B3⟩
                case measure => simp [intOf]; omega
            · have e1 : decide ((1 : Int) ≤ xk) = false := decide_eq_false h1
              have hk1 : okK xk = false := by unfold okK; rw [e1, Bool.false_and]
              go_wp2
              have BW := Lib.hid (below_step BL.out (below_new wr (.cells #[.int .i64 xk, .int .u8 (xb : Int)] 31)))
              have T := Lib.hid (CRow.new wr #[.int .i64 xk, .int .u8 (xb : Int)] 31)
              have hg := T.out.lt
              have f0 := T.out.cell_at 0 _ rfl
              have f1 := T.out.cell_at 1 _ rfl
              clear T
              generalize wr.alloc (.cells #[.int .i64 xk, .int .u8 (xb : Int)] 31) = W at *
              refine wp_region_noPanic ?_
              refine wp_region_held_drew (S := fun w' => Below W.heap.size W w') (by kernel_rfl) ((Below.refl _ _).drew) (fun C0 => ?_)
              refine wpAnyH_take (i := 0) (oi := { dst := some 52, op := Op.load 31 (Operand.tmp 10), type := 31, pos := "law.go:43", after := #[], guard := none }) (v := ?_) rfl (by kernel_rfl) (by kernel_rfl) (by kernel_rfl) (fun _ _ _ h => h) (Or.inl ⟨by rfl, ?_⟩) C0 ?_
              rotate_left
              · intro W' hSw
                have z0 := (hSw.cell (p := ⟨wr.heap.size, 0, none⟩) hg).trans f0
                have z1 := (hSw.cell (p := ⟨wr.heap.size, 1, none⟩) hg).trans f1
                clear hSw
                go_simp <;> with_reducible rfl
              try simp only [Act.put, List.setIfInBounds_toArray, List.set_cons_zero, List.set_cons_succ]
              refine wpAnyH_take (i := 2) (oi := { dst := some 54, op := Op.fieldAddr 31 (Operand.tmp 10) 0, type := 0, pos := "law.go:43", after := #[], guard := none }) (v := ?_) rfl (by kernel_rfl) (by kernel_rfl) (by kernel_rfl) (fun _ _ _ h => h) (Or.inl ⟨by rfl, ?_⟩) C0 ?_
              rotate_left
              · intro W' hSw
                clear hSw
                go_simp <;> with_reducible rfl
              try simp only [Act.put, List.setIfInBounds_toArray, List.set_cons_zero, List.set_cons_succ]
              refine wpAnyH_take (i := 3) (oi := { dst := some 55, op := Op.load 3 (Operand.tmp 54), type := 3, pos := "law.go:43", after := #[{ on := 2, ground := Ground.data }], guard := none }) (v := ?_) rfl (by kernel_rfl) (by kernel_rfl) (by kernel_rfl) (fun _ _ _ h => h) (Or.inl ⟨by rfl, ?_⟩) C0 ?_
              rotate_left
              · intro W' hSw
                have z0 := (hSw.cell (p := ⟨wr.heap.size, 0, none⟩) hg).trans f0
                have z1 := (hSw.cell (p := ⟨wr.heap.size, 1, none⟩) hg).trans f1
                clear hSw
                go_simp <;> with_reducible rfl
              try simp only [Act.put, List.setIfInBounds_toArray, List.set_cons_zero, List.set_cons_succ]
              refine wpAnyH_take (i := 4) (oi := { dst := some 56, op := Op.binOp BinOp.geq 3 (Operand.tmp 55) (Operand.const (Value.int IntKind.i64 1)) 3, type := 4, pos := "law.go:43", after := #[{ on := 3, ground := Ground.data }], guard := none }) (v := ?_) rfl (by kernel_rfl) (by kernel_rfl) (by kernel_rfl) (fun _ _ _ h => h) (Or.inl ⟨by rfl, ?_⟩) C0 ?_
              rotate_left
              · intro W' hSw
                clear hSw
                go_simp <;> with_reducible rfl
              try simp only [Act.put, List.setIfInBounds_toArray, List.set_cons_zero, List.set_cons_succ]
              refine wpAnyH_ready (rs := [1]) (by kernel_rfl) (by simp) ?_
              refine AllReadyH.cons (o := { dst := some 53, op := Op.call { callee := Callee.value (Operand.func 11), args := #[Operand.tmp 52], argTypes := #[31] }, type := 4, pos := "law.go:43", after := #[{ on := 0, ground := Ground.data }], guard := none }) rfl (fun K hK => ?_) AllReadyH.nil
              go_simp
              refine (Right_any xk xb _).mono ?_
              rintro _ w3 ⟨rfl, hB⟩
              rw [hk1]
              go_wp2_with fail
              refine hK.out _ _ (C0.trans (hB.mono C0.size)) (fun C1 => ?_)
              clear hK K hB
              try simp only [Act.put, List.setIfInBounds_toArray, List.set_cons_zero, List.set_cons_succ]
              refine wpAnyH_take (i := 5) (oi := { dst := some 57, op := Op.move (Operand.tmp 56), type := 4, pos := "law.go:43", after := #[{ on := 4, ground := Ground.data }, { on := 1, ground := Ground.chain }], guard := none }) (v := ?_) rfl (by kernel_rfl) (by kernel_rfl) (by kernel_rfl) (fun _ _ _ h => h) (Or.inl ⟨by rfl, ?_⟩) C1 ?_
              rotate_left
              · intro W' hSw
                clear hSw
                go_simp <;> with_reducible rfl
              try simp only [Act.put, List.setIfInBounds_toArray, List.set_cons_zero, List.set_cons_succ]
              refine wpAnyH_take (i := 6) (oi := { dst := some 58, op := Op.fieldAddr 31 (Operand.tmp 10) 0, type := 0, pos := "law.go:43", after := #[{ on := 5, ground := Ground.guard }], guard := some (5, true) }) (v := undef) rfl (by kernel_rfl) (by kernel_rfl) (by kernel_rfl) (fun _ _ _ h => h) (Or.inr ⟨by rfl, rfl⟩) C1 ?_
              try simp only [Act.put, List.setIfInBounds_toArray, List.set_cons_zero, List.set_cons_succ]
              refine wpAnyH_take (i := 7) (oi := { dst := some 59, op := Op.load 3 (Operand.tmp 58), type := 3, pos := "law.go:43", after := #[{ on := 6, ground := Ground.data }, { on := 5, ground := Ground.guard }], guard := some (5, true) }) (v := undef) rfl (by kernel_rfl) (by kernel_rfl) (by kernel_rfl) (fun _ _ _ h => h) (Or.inr ⟨by rfl, rfl⟩) C1 ?_
              try simp only [Act.put, List.setIfInBounds_toArray, List.set_cons_zero, List.set_cons_succ]
              refine wpAnyH_take (i := 8) (oi := { dst := some 60, op := Op.binOp BinOp.leq 3 (Operand.tmp 59) (Operand.const (Value.int IntKind.i64 4)) 3, type := 4, pos := "law.go:43", after := #[{ on := 7, ground := Ground.data }, { on := 5, ground := Ground.guard }], guard := some (5, true) }) (v := undef) rfl (by kernel_rfl) (by kernel_rfl) (by kernel_rfl) (fun _ _ _ h => h) (Or.inr ⟨by rfl, rfl⟩) C1 ?_
              try simp only [Act.put, List.setIfInBounds_toArray, List.set_cons_zero, List.set_cons_succ]
              refine wpAnyH_take (i := 9) (oi := { dst := some 61, op := Op.pick (Operand.tmp 57) (Operand.tmp 60) (Operand.const (Value.bool false)), type := 4, pos := "law.go:43", after := #[{ on := 5, ground := Ground.data }, { on := 8, ground := Ground.data }], guard := none }) (v := ?_) rfl (by kernel_rfl) (by kernel_rfl) (by kernel_rfl) (fun _ _ _ h => h) (Or.inl ⟨by rfl, ?_⟩) C1 ?_
              rotate_left
              · intro W' hSw
                clear hSw
                go_simp <;> with_reducible rfl
              try simp only [Act.put, List.setIfInBounds_toArray, List.set_cons_zero, List.set_cons_succ]
              refine wpAnyH_take (i := 10) (oi := { dst := some 62, op := Op.binOp BinOp.neq 4 (Operand.tmp 53) (Operand.tmp 61) 4, type := 4, pos := "law.go:43", after := #[{ on := 1, ground := Ground.data }, { on := 9, ground := Ground.data }], guard := none }) (v := ?_) rfl (by kernel_rfl) (by kernel_rfl) (by kernel_rfl) (fun _ _ _ h => h) (Or.inl ⟨by rfl, ?_⟩) C1 ?_
              rotate_left
              · intro W' hSw
                clear hSw
                go_simp <;> with_reducible rfl
              try simp only [Act.put, List.setIfInBounds_toArray, List.set_cons_zero, List.set_cons_succ]
              refine wpAnyH_done (by kernel_rfl) ?_ _
              refine NoPanic.normal ?_
              have B3 := Lib.hid (below_step BW.out C1)
              go_wp2
              go_roundw
              case rel => exact ⟨k + 1, by omega, by go_num, B3⟩
              case measure => simp [intOf]; omega
          · go_wp2_with fail
            refine (Of_any kind B m d b _ (HB.out.below BL.out) (by omega)).mono ?_
            rintro _ w5 ⟨A5, c5, rfl, hown5, h5⟩
            rw [ofL_length, HM.out] at hown5 ⊢
            have R5 := Lib.hid (RC.own hown5 HOI.out)
            have B5 := Lib.hid (below_step BL.out h5)
            clear hown5 h5
            go_wp2
            go_loopw [69] (fun i wr => ∃ k : Nat, k ≤ m ∧ i = .int .i64 (k : Int) ∧ Hid (Below w5.heap.size w5 wr)) (fun i _ => m - (intOf i).toNat)
            case atStart => exact ⟨0, Nat.zero_le _, rfl, Below.refl _ _⟩
            case round =>
              obtain ⟨k, hk, rfl, BL5⟩ := hrel
              by_cases hlt : k < m
              · obtain ⟨b1, o1, y, rfl, hb1, HY, ⟨yi1, yi2, yi3⟩, c0, c1⟩ := (R5.out.below BL5.out).at_ hlt
                obtain ⟨b2, o2, z, rfl, hb2, HZ, hz, d0⟩ := (HB.out.below (below_step B5.out BL5.out)).at_ hlt
                have hy := (HY.out).symm.trans (ofL_at (k := kind) HZ.out)
                injection hy with hy
                subst hy
                simp only at c0 c1 yi1 yi2 yi3
                have ek : (kind != kind) = false := by simp
                have ez : ((z : Int) != (z : Int)) = false := by simp
                go_wp2
                have hb2W : b2 < (wr.alloc (.cells #[.int .i64 kind, .int .u8 (z : Int)] 31)).heap.size := by simp; omega
                have d0 := (World.cell?_alloc_lt wr (.cells #[.int .i64 kind, .int .u8 (z : Int)] 31) ⟨b2, o2 + k, none⟩ (by simp only; omega)).trans d0
                have BW := Lib.hid (below_step BL5.out (below_new wr (.cells #[.int .i64 kind, .int .u8 (z : Int)] 31)))
                have T := Lib.hid (CRow.new wr #[.int .i64 kind, .int .u8 (z : Int)] 31)
                have hg := T.out.lt
                have f0 := T.out.cell_at 0 _ rfl
                have f1 := T.out.cell_at 1 _ rfl
                clear T
                generalize wr.alloc (.cells #[.int .i64 kind, .int .u8 (z : Int)] 31) = W at *
                refine wp_region_noPanic ?_
                refine wp_region_held_drew (S := fun w' => Below W.heap.size W w') (by kernel_rfl) ((Below.refl _ _).drew) (fun C0 => ?_)
                refine wpAnyH_take (i := 0) (oi := { dst := some 74, op := Op.fieldAddr 31 (Operand.tmp 13) 0, type := 0, pos := "law.go:49", after := #[], guard := none }) (v := ?_) rfl (by kernel_rfl) (by kernel_rfl) (by kernel_rfl) (fun _ _ _ h => h) (Or.inl ⟨by rfl, ?_⟩) C0 ?_
                rotate_left
                · intro W' hSw
                  clear hSw
                  go_simp <;> with_reducible rfl
                try simp only [Act.put, List.setIfInBounds_toArray, List.set_cons_zero, List.set_cons_succ]
                refine wpAnyH_take (i := 1) (oi := { dst := some 75, op := Op.load 3 (Operand.tmp 74), type := 3, pos := "law.go:49", after := #[{ on := 0, ground := Ground.data }], guard := none }) (v := ?_) rfl (by kernel_rfl) (by kernel_rfl) (by kernel_rfl) (fun _ _ _ h => h) (Or.inl ⟨by rfl, ?_⟩) C0 ?_
                rotate_left
                · intro W' hSw
                  have z0 := (hSw.cell (p := ⟨wr.heap.size, 0, none⟩) hg).trans f0
                  have z1 := (hSw.cell (p := ⟨wr.heap.size, 1, none⟩) hg).trans f1
                  clear hSw
                  go_simp <;> with_reducible rfl
                try simp only [Act.put, List.setIfInBounds_toArray, List.set_cons_zero, List.set_cons_succ]
                refine wpAnyH_take (i := 2) (oi := { dst := some 76, op := Op.move (Operand.tmp 1), type := 3, pos := "law.go:49", after := #[], guard := none }) (v := ?_) rfl (by kernel_rfl) (by kernel_rfl) (by kernel_rfl) (fun _ _ _ h => h) (Or.inl ⟨by rfl, ?_⟩) C0 ?_
                rotate_left
                · intro W' hSw
                  clear hSw
                  go_simp <;> with_reducible rfl
                try simp only [Act.put, List.setIfInBounds_toArray, List.set_cons_zero, List.set_cons_succ]
                refine wpAnyH_take (i := 3) (oi := { dst := some 77, op := Op.binOp BinOp.neq 3 (Operand.tmp 75) (Operand.tmp 76) 3, type := 4, pos := "law.go:49", after := #[{ on := 1, ground := Ground.data }, { on := 2, ground := Ground.data }], guard := none }) (v := ?_) rfl (by kernel_rfl) (by kernel_rfl) (by kernel_rfl) (fun _ _ _ h => h) (Or.inl ⟨by rfl, ?_⟩) C0 ?_
                rotate_left
                · intro W' hSw
                  clear hSw
                  go_simp <;> with_reducible rfl
                try simp only [Act.put, List.setIfInBounds_toArray, List.set_cons_zero, List.set_cons_succ]
                refine wpAnyH_take (i := 4) (oi := { dst := some 78, op := Op.move (Operand.tmp 77), type := 4, pos := "law.go:49", after := #[{ on := 3, ground := Ground.data }], guard := none }) (v := ?_) rfl (by kernel_rfl) (by kernel_rfl) (by kernel_rfl) (fun _ _ _ h => h) (Or.inl ⟨by rfl, ?_⟩) C0 ?_
                rotate_left
                · intro W' hSw
                  clear hSw
                  go_simp <;> with_reducible rfl
                try simp only [Act.put, List.setIfInBounds_toArray, List.set_cons_zero, List.set_cons_succ]
                refine wpAnyH_take (i := 5) (oi := { dst := some 79, op := Op.fieldAddr 31 (Operand.tmp 13) 1, type := 0, pos := "law.go:49", after := #[{ on := 4, ground := Ground.guard }], guard := some (4, false) }) (v := ?_) rfl (by kernel_rfl) (by kernel_rfl) (by kernel_rfl) (fun _ _ _ h => h) (Or.inl ⟨by rfl, ?_⟩) C0 ?_
                rotate_left
                · intro W' hSw
                  clear hSw
                  go_simp <;> with_reducible rfl
                try simp only [Act.put, List.setIfInBounds_toArray, List.set_cons_zero, List.set_cons_succ]
                refine wpAnyH_take (i := 6) (oi := { dst := some 80, op := Op.load 5 (Operand.tmp 79), type := 5, pos := "law.go:49", after := #[{ on := 5, ground := Ground.data }, { on := 4, ground := Ground.guard }], guard := some (4, false) }) (v := ?_) rfl (by kernel_rfl) (by kernel_rfl) (by kernel_rfl) (fun _ _ _ h => h) (Or.inl ⟨by rfl, ?_⟩) C0 ?_
                rotate_left
                · intro W' hSw
                  have z0 := (hSw.cell (p := ⟨wr.heap.size, 0, none⟩) hg).trans f0
                  have z1 := (hSw.cell (p := ⟨wr.heap.size, 1, none⟩) hg).trans f1
                  clear hSw
                  go_simp <;> with_reducible rfl
                try simp only [Act.put, List.setIfInBounds_toArray, List.set_cons_zero, List.set_cons_succ]
                refine wpAnyH_take (i := 7) (oi := { dst := some 81, op := Op.move (Operand.tmp 2), type := 23, pos := "law.go:49", after := #[{ on := 4, ground := Ground.guard }], guard := some (4, false) }) (v := ?_) rfl (by kernel_rfl) (by kernel_rfl) (by kernel_rfl) (fun _ _ _ h => h) (Or.inl ⟨by rfl, ?_⟩) C0 ?_
                rotate_left
                · intro W' hSw
                  clear hSw
                  go_simp <;> with_reducible rfl
                try simp only [Act.put, List.setIfInBounds_toArray, List.set_cons_zero, List.set_cons_succ]
                refine wpAnyH_take (i := 8) (oi := { dst := some 82, op := Op.move (Operand.tmp 12), type := 3, pos := "law.go:49", after := #[{ on := 4, ground := Ground.guard }], guard := some (4, false) }) (v := ?_) rfl (by kernel_rfl) (by kernel_rfl) (by kernel_rfl) (fun _ _ _ h => h) (Or.inl ⟨by rfl, ?_⟩) C0 ?_
                rotate_left
                · intro W' hSw
                  clear hSw
                  go_simp <;> with_reducible rfl
                try simp only [Act.put, List.setIfInBounds_toArray, List.set_cons_zero, List.set_cons_succ]
                refine wpAnyH_take (i := 9) (oi := { dst := some 83, op := Op.indexAddr 23 (Operand.tmp 81) (Operand.tmp 82), type := 0, pos := "law.go:49", after := #[{ on := 7, ground := Ground.data }, { on := 8, ground := Ground.data }, { on := 4, ground := Ground.guard }], guard := some (4, false) }) (v := ?_) rfl (by kernel_rfl) (by kernel_rfl) (by kernel_rfl) (fun _ _ _ h => h) (Or.inl ⟨by rfl, ?_⟩) C0 ?_
                rotate_left
                · intro W' hSw
                  clear hSw
                  go_simp <;> with_reducible rfl
                try simp only [Act.put, List.setIfInBounds_toArray, List.set_cons_zero, List.set_cons_succ]
                refine wpAnyH_take (i := 10) (oi := { dst := some 84, op := Op.load 5 (Operand.tmp 83), type := 5, pos := "law.go:49", after := #[{ on := 9, ground := Ground.data }, { on := 4, ground := Ground.guard }], guard := some (4, false) }) (v := ?_) rfl (by kernel_rfl) (by kernel_rfl) (by kernel_rfl) (fun _ _ _ h => h) (Or.inl ⟨by rfl, ?_⟩) C0 ?_
                rotate_left
                · intro W' hSw
                  have u0 := (hSw.cell (p := ⟨b2, o2 + k, none⟩) hb2W).trans d0
                  clear hSw
                  go_simp <;> with_reducible rfl
                try simp only [Act.put, List.setIfInBounds_toArray, List.set_cons_zero, List.set_cons_succ]
                refine wpAnyH_take (i := 11) (oi := { dst := some 85, op := Op.binOp BinOp.neq 5 (Operand.tmp 80) (Operand.tmp 84) 5, type := 4, pos := "law.go:49", after := #[{ on := 6, ground := Ground.data }, { on := 10, ground := Ground.data }, { on := 4, ground := Ground.guard }], guard := some (4, false) }) (v := ?_) rfl (by kernel_rfl) (by kernel_rfl) (by kernel_rfl) (fun _ _ _ h => h) (Or.inl ⟨by rfl, ?_⟩) C0 ?_
                rotate_left
                · intro W' hSw
                  clear hSw
                  go_simp <;> with_reducible rfl
                try simp only [Act.put, List.setIfInBounds_toArray, List.set_cons_zero, List.set_cons_succ]
                refine wpAnyH_take (i := 12) (oi := { dst := some 86, op := Op.pick (Operand.tmp 78) (Operand.const (Value.bool true)) (Operand.tmp 85), type := 4, pos := "law.go:49", after := #[{ on := 4, ground := Ground.data }, { on := 11, ground := Ground.data }], guard := none }) (v := ?_) rfl (by kernel_rfl) (by kernel_rfl) (by kernel_rfl) (fun _ _ _ h => h) (Or.inl ⟨by rfl, ?_⟩) C0 ?_
                rotate_left
                · intro W' hSw
                  clear hSw
                  go_simp <;> with_reducible rfl
                try simp only [Act.put, List.setIfInBounds_toArray, List.set_cons_zero, List.set_cons_succ]
                refine wpAnyH_done (by kernel_rfl) ?_ _
                refine NoPanic.normal ?_
                have B3 := Lib.hid (below_step BW.out C0)
                go_wp2
                go_roundw
                case rel => exact ⟨k + 1, by omega, by go_num, B3⟩
                case measure => simp [intOf]; omega
              · have B6 := Lib.hid (below_step B5.out BL5.out)
                have em : ((m : Int) == (m : Int)) = true := by simp
                go_wp2_with fail
                refine (Same_any A A5 n c m c5 _ _ _ (HR.out.below B6.out) (R5.out.below BL5.out) (by omega) (by omega)).mono ?_
                rintro _ w7 ⟨rfl, h7⟩
                have B7 := Lib.hid (below_step B6.out h7)
                have R7 := Lib.hid (R5.out.below (below_step BL5.out h7))
                clear h7
                go_wp2_with fail
                refine (RefSameC_any A A5 n c m c5 _ _ _ (HR.out.below B7.out) R7.out (by omega) (by omega)).mono ?_
                rintro _ w8 ⟨rfl, h8⟩
                have B8 := Lib.hid (below_step B7.out h8)
                clear h8
                go_wp2
                go_ret
                exact ⟨by simp, B8.out⟩
end Go.Proofs.Ytfbldlbhhaidpaa
