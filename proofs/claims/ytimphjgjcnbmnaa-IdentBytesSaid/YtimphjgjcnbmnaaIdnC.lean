/-
  The document's Put of a geometry.
-/
import Derived.Test.YtimphjgjcnbmnaaIdnB
import Derived.Deep.AppendLies
import Derived.OrdersHeld
import Derived.Deep.RegionHeld3
import Derived.WalkMore
namespace Go.Proofs.Ytimphjgjcnbmnaa
open Go.RowKit
set_option maxRecDepth 100000

theorem adr_nat (X : Nat) (h : X < 65536) : adr (X : Int) = [X % 256, X / 256] := by
  unfold adr
  congr 1
  congr 1
  omega
theorem nums_nat {g : Gm} (h : g.ok = true) {k : Nat} {x : Int} (hx : g.nums[k]? = some x) : ∃ X : Nat, x = (X : Int) ∧ X ≤ 512 := by
  obtain ⟨h1, h2, h3, h4, h5, h6, h7⟩ := Gm.bounds_of h
  have hm := List.mem_of_getElem? hx
  unfold Gm.nums at hm
  simp only [List.mem_cons, List.not_mem_nil, or_false] at hm
  exact ⟨x.toNat, by omega, by omega⟩
theorem nums_cell (g : Gm) {k : Nat} {x : Int} (h : g.nums[k]? = some x) : (#[Value.int .i64 g.p, .int .i64 g.b, .int .i64 g.s, .int .i64 g.c, .int .i64 g.k, .int .i64 g.r, .int .i64 g.q] : Array Value)[k]? = some (.int .i64 x) := by
  have e : (#[Value.int .i64 g.p, .int .i64 g.b, .int .i64 g.s, .int .i64 g.c, .int .i64 g.k, .int .i64 g.r, .int .i64 g.q] : Array Value) = (I64 g.nums).toArray := rfl
  rw [e, List.getElem?_toArray]
  unfold I64
  rw [List.getElem?_map, h]
  rfl
theorem two_new (w : World) (x y : Nat) (t : TypeId) : ∀ j u, [Value.int .u8 (x : Int), Value.int .u8 (y : Int)][j]? = some u → (w.alloc (.cells #[.int .u8 (x : Int), .int .u8 (y : Int)] t)).cell? ((⟨w.heap.size, 0, none⟩ : Addr).add j) = some u := by
  intro j u h
  match j, h with
  | 0, h => simp at h; subst h; simp [Addr.add]
  | 1, h => simp at h; subst h; simp [Addr.add]
  | j + 2, h => simp at h
set_option maxHeartbeats 4000000 in
theorem RefIdPut_any (g : Gm) (h : g.ok = true) (w : World) : Calls Try.prog 9 #[g.val] w (MakesB (gb g) w) := by
  obtain ⟨ti, hti, hz0, hz1, hz2⟩ := info_parts info_u8
  have HXX := Lib.hid (fun (k : Nat) (x : Int) (hx : g.nums[k]? = some x) => nums_nat h hx)
  clear h
  simp only [Gm.val]
  obtain ⟨W1, hW⟩ : ∃ W1, W1 = w.alloc (.cells #[.int .i64 g.p, .int .i64 g.b, .int .i64 g.s, .int .i64 g.c, .int .i64 g.k, .int .i64 g.r, .int .i64 g.q] 23) := ⟨_, rfl⟩
  have hsz : W1.heap.size = w.heap.size + 1 := by rw [hW]; simp
  have b1 : Below w.heap.size w W1 := by rw [hW]; exact below_new w _
  obtain ⟨W2, hW2⟩ : ∃ W2, W2 = W1.alloc (.cells #[.int .i64 g.p, .int .i64 g.b, .int .i64 g.s, .int .i64 g.c, .int .i64 g.k, .int .i64 g.r, .int .i64 g.q] 3) := ⟨_, rfl⟩
  have L2 := Lib.hid (show CRow W2 (w.heap.size + 1) 3 #[.int .i64 g.p, .int .i64 g.b, .int .i64 g.s, .int .i64 g.c, .int .i64 g.k, .int .i64 g.r, .int .i64 g.q] by rw [hW2, ← hsz]; exact CRow.new W1 _ _)
  have B2 := Lib.hid (show Below w.heap.size w W2 by rw [hW2]; exact b1.alloc b1.size _)
  subst hW
  have HW2 := Lib.hid hW2.symm
  clear hsz b1 hW2
  go_enter Try.func9, Try.ntmps9
  go_wp2
  rw [HW2.out]
  clear HW2
  go_loopw [4, 5] (fun v iv wr => ∃ k : Nat, k ≤ 7 ∧ iv = .int .i64 (k : Int) ∧ Hid (wr.ownsRow W2.heap.size 5 1 v (2 * k) (U8 (gbK g k))) ∧ Hid (Below W2.heap.size W2 wr)) (fun _ iv _ => 7 - (intOf iv).toNat)
  case atStart => exact ⟨0, Nat.zero_le _, rfl, World.ownsRow_nil _ _ _ _, Below.refl _ _⟩
  case round =>
    obtain ⟨k, hk, rfl, HO, HB⟩ := hrel
    rename World => wr
    by_cases hlt : k < 7
    · have d1 : decide ((k : Int) < 7) = true := decide_eq_true (by omega)
      have hk0 : (0 : Int) ≤ (k : Int) := by omega
      have hk7 : (k : Int) < 7 := by omega
      obtain ⟨x, hx⟩ := nums_at (g := g) hlt
      obtain ⟨X, rfl, hX⟩ := HXX.out k x hx
      obtain ⟨a, b, q0, q1, hz⟩ : ∃ a b : Nat, IntKind.u8.wrap ((X : Int).tmod 256) = (a : Int) ∧ IntKind.u8.wrap (IntKind.i64.wrap ((X : Int) / 256)) = (b : Int) ∧ gbK g (k + 1) = gbK g k ++ [a, b] := by
        refine ⟨X % 256, X / 256, ?_, ?_, by rw [gbK_succ hx, adr_nat X (by omega)]⟩
        · rw [Int.tmod_eq_emod_of_nonneg (by omega)]
          show ((X : Int) % 256) % 256 = _
          omega
        · have e : IntKind.i64.wrap ((X : Int) / 256) = (X : Int) / 256 := IntWalk.i64_in _ (by omega)
          rw [e]
          show ((X : Int) / 256) % 256 = _
          omega
      have HZ := Lib.hid hz
      have HC := Lib.hid (nums_cell g hx)
      obtain ⟨A7, c7, rfl⟩ := own_form HO.out
      clear hx hz HXX
      go_wp2
      have HN := Lib.hid (show ∀ j u, [Value.int .u8 (a : Int), Value.int .u8 (b : Int)][j]? = some u → ((wr.drew.alloc (.cells #[.int .u8 (a : Int), .int .u8 (b : Int)] 5))).cell? ((⟨wr.heap.size, 0, none⟩ : Addr).add j) = some u from two_new wr.drew _ _ _)
      have HOn := Lib.hid (show ((wr.drew.alloc (.cells #[.int .u8 (a : Int), .int .u8 (b : Int)] 5))).ownsRow W2.heap.size 5 1 (.slice A7 (2 * k) c7) (2 * k) (U8 (gbK g k)) from HO.out.alloc _)
      refine wp_region_noPanic ?_
      refine wp_region_held_drew (S := fun w' => Below W2.heap.size W2 w') (by kernel_rfl) (HB.out.drew) (fun C0 => ?_)
      refine wpAnyH_take (i := 0) (oi := { dst := some 27, op := Op.move (Operand.tmp 4), type := 24, pos := "ref.go:14", after := #[], guard := none }) (v := ?_) rfl (by kernel_rfl) (by kernel_rfl) (by kernel_rfl) (fun _ _ _ h => h) (Or.inl ⟨by rfl, ?_⟩) C0 ?_
      rotate_left
      · intro W' hSw
        clear hSw
        go_simp <;> with_reducible rfl
      try simp only [Act.put, List.setIfInBounds_toArray, List.set_cons_zero, List.set_cons_succ]
      refine wpAnyH_take (i := 1) (oi := { dst := some 28, op := Op.move (Operand.tmp 3), type := 46, pos := "ref.go:14", after := #[], guard := none }) (v := ?_) rfl (by kernel_rfl) (by kernel_rfl) (by kernel_rfl) (fun _ _ _ h => h) (Or.inl ⟨by rfl, ?_⟩) C0 ?_
      rotate_left
      · intro W' hSw
        clear hSw
        go_simp <;> with_reducible rfl
      try simp only [Act.put, List.setIfInBounds_toArray, List.set_cons_zero, List.set_cons_succ]
      refine wpAnyH_take (i := 2) (oi := { dst := some 29, op := Op.move (Operand.tmp 5), type := 3, pos := "ref.go:14", after := #[], guard := none }) (v := ?_) rfl (by kernel_rfl) (by kernel_rfl) (by kernel_rfl) (fun _ _ _ h => h) (Or.inl ⟨by rfl, ?_⟩) C0 ?_
      rotate_left
      · intro W' hSw
        clear hSw
        go_simp <;> with_reducible rfl
      try simp only [Act.put, List.setIfInBounds_toArray, List.set_cons_zero, List.set_cons_succ]
      refine wpAnyH_take (i := 3) (oi := { dst := some 30, op := Op.indexAddr 46 (Operand.tmp 28) (Operand.tmp 29), type := 0, pos := "ref.go:14", after := #[{ on := 1, ground := Ground.data }, { on := 2, ground := Ground.data }], guard := none }) (v := ?_) rfl (by kernel_rfl) (by kernel_rfl) (by kernel_rfl) (fun _ _ _ h => h) (Or.inl ⟨by rfl, ?_⟩) C0 ?_
      rotate_left
      · intro W' hSw
        clear hSw
        go_simp <;> with_reducible rfl
      try simp only [Act.put, List.setIfInBounds_toArray, List.set_cons_zero, List.set_cons_succ]
      refine wpAnyH_take (i := 4) (oi := { dst := some 31, op := Op.load 3 (Operand.tmp 30), type := 3, pos := "ref.go:14", after := #[{ on := 3, ground := Ground.data }], guard := none }) (v := ?_) rfl (by kernel_rfl) (by kernel_rfl) (by kernel_rfl) (fun _ _ _ h => h) (Or.inl ⟨by rfl, ?_⟩) C0 ?_
      rotate_left
      · intro W' hSw
        have hc := (L2.out.below hSw).cell_at k (.int .i64 (X : Int)) HC.out
        clear hSw
        go_simp <;> with_reducible rfl
      try simp only [Act.put, List.setIfInBounds_toArray, List.set_cons_zero, List.set_cons_succ]
      refine wpAnyH_take (i := 5) (oi := { dst := some 32, op := Op.binOp BinOp.rem 3 (Operand.tmp 31) (Operand.const (Value.int IntKind.i64 256)) 3, type := 3, pos := "ref.go:14", after := #[{ on := 4, ground := Ground.data }], guard := none }) (v := ?_) rfl (by kernel_rfl) (by kernel_rfl) (by kernel_rfl) (fun _ _ _ h => h) (Or.inl ⟨by rfl, ?_⟩) C0 ?_
      rotate_left
      · intro W' hSw
        clear hSw
        go_simp <;> with_reducible rfl
      try simp only [Act.put, List.setIfInBounds_toArray, List.set_cons_zero, List.set_cons_succ]
      refine wpAnyH_take (i := 6) (oi := { dst := some 33, op := Op.convert 3 5 (Operand.tmp 32), type := 5, pos := "ref.go:14", after := #[{ on := 5, ground := Ground.data }], guard := none }) (v := ?_) rfl (by kernel_rfl) (by kernel_rfl) (by kernel_rfl) (fun _ _ _ h => h) (Or.inl ⟨by rfl, ?_⟩) C0 ?_
      rotate_left
      · intro W' hSw
        clear hSw
        go_simp <;> with_reducible rfl
      try simp only [Act.put, List.setIfInBounds_toArray, List.set_cons_zero, List.set_cons_succ]
      refine wpAnyH_take (i := 7) (oi := { dst := some 34, op := Op.move (Operand.tmp 3), type := 46, pos := "ref.go:14", after := #[], guard := none }) (v := ?_) rfl (by kernel_rfl) (by kernel_rfl) (by kernel_rfl) (fun _ _ _ h => h) (Or.inl ⟨by rfl, ?_⟩) C0 ?_
      rotate_left
      · intro W' hSw
        clear hSw
        go_simp <;> with_reducible rfl
      try simp only [Act.put, List.setIfInBounds_toArray, List.set_cons_zero, List.set_cons_succ]
      refine wpAnyH_take (i := 8) (oi := { dst := some 35, op := Op.move (Operand.tmp 5), type := 3, pos := "ref.go:14", after := #[], guard := none }) (v := ?_) rfl (by kernel_rfl) (by kernel_rfl) (by kernel_rfl) (fun _ _ _ h => h) (Or.inl ⟨by rfl, ?_⟩) C0 ?_
      rotate_left
      · intro W' hSw
        clear hSw
        go_simp <;> with_reducible rfl
      try simp only [Act.put, List.setIfInBounds_toArray, List.set_cons_zero, List.set_cons_succ]
      refine wpAnyH_take (i := 9) (oi := { dst := some 36, op := Op.indexAddr 46 (Operand.tmp 34) (Operand.tmp 35), type := 0, pos := "ref.go:14", after := #[{ on := 7, ground := Ground.data }, { on := 8, ground := Ground.data }], guard := none }) (v := ?_) rfl (by kernel_rfl) (by kernel_rfl) (by kernel_rfl) (fun _ _ _ h => h) (Or.inl ⟨by rfl, ?_⟩) C0 ?_
      rotate_left
      · intro W' hSw
        clear hSw
        go_simp <;> with_reducible rfl
      try simp only [Act.put, List.setIfInBounds_toArray, List.set_cons_zero, List.set_cons_succ]
      refine wpAnyH_take (i := 10) (oi := { dst := some 37, op := Op.load 3 (Operand.tmp 36), type := 3, pos := "ref.go:14", after := #[{ on := 9, ground := Ground.data }], guard := none }) (v := ?_) rfl (by kernel_rfl) (by kernel_rfl) (by kernel_rfl) (fun _ _ _ h => h) (Or.inl ⟨by rfl, ?_⟩) C0 ?_
      rotate_left
      · intro W' hSw
        have hc := (L2.out.below hSw).cell_at k (.int .i64 (X : Int)) HC.out
        clear hSw
        go_simp <;> with_reducible rfl
      try simp only [Act.put, List.setIfInBounds_toArray, List.set_cons_zero, List.set_cons_succ]
      refine wpAnyH_take (i := 11) (oi := { dst := some 38, op := Op.binOp BinOp.quo 3 (Operand.tmp 37) (Operand.const (Value.int IntKind.i64 256)) 3, type := 3, pos := "ref.go:14", after := #[{ on := 10, ground := Ground.data }], guard := none }) (v := ?_) rfl (by kernel_rfl) (by kernel_rfl) (by kernel_rfl) (fun _ _ _ h => h) (Or.inl ⟨by rfl, ?_⟩) C0 ?_
      rotate_left
      · intro W' hSw
        clear hSw
        go_simp <;> with_reducible rfl
      try simp only [Act.put, List.setIfInBounds_toArray, List.set_cons_zero, List.set_cons_succ]
      refine wpAnyH_take (i := 12) (oi := { dst := some 39, op := Op.convert 3 5 (Operand.tmp 38), type := 5, pos := "ref.go:14", after := #[{ on := 11, ground := Ground.data }], guard := none }) (v := ?_) rfl (by kernel_rfl) (by kernel_rfl) (by kernel_rfl) (fun _ _ _ h => h) (Or.inl ⟨by rfl, ?_⟩) C0 ?_
      rotate_left
      · intro W' hSw
        clear hSw
        go_simp <;> with_reducible rfl
      try simp only [Act.put, List.setIfInBounds_toArray, List.set_cons_zero, List.set_cons_succ]
      refine wpAnyH_ready (rs := [13]) (by kernel_rfl) (by simp) ?_
      refine AllReadyH.cons (o := { dst := some 40, op := Op.buildSlice 24 2 #[(0, Operand.tmp 33), (1, Operand.tmp 39)], type := 24, pos := "ref.go:14", after := #[{ on := 6, ground := Ground.data }, { on := 12, ground := Ground.data }], guard := none }) rfl (fun K hK => ?_) AllReadyH.nil
      go_simp
      refine hK.out _ _ (C0.alloc C0.size _) (fun C1 => ?_)
      clear hK K
      try simp only [Act.put, List.setIfInBounds_toArray, List.set_cons_zero, List.set_cons_succ]
      skip
      refine wpAnyH_ready (rs := [14]) (by kernel_rfl) (by simp) ?_
      refine AllReadyH.cons (o := { dst := some 41, op := Op.call { callee := Callee.builtin Builtin.append, args := #[Operand.tmp 27, Operand.tmp 40], argTypes := #[24, 24] }, type := 24, pos := "ref.go:14", after := #[{ on := 0, ground := Ground.data }, { on := 13, ground := Ground.data }], guard := none }) rfl (fun K hK => ?_) AllReadyH.nil
      rw [if_pos (by rfl)]
      refine wp_append_lies _ (.tmp 27) (.tmp 40) 24 rfl W2.heap.size 5 ti _ 1 1 Try.underlying24 hti hz0 hz1 hz2 rfl (by decide) (.slice A7 (2 * k) c7) (2 * k) _ (by simp [Act.eval]) HOn.out ⟨wr.heap.size, 0, none⟩ 2 2 [Value.int .u8 (a : Int), Value.int .u8 (b : Int)] (by simp [Act.eval]) rfl HN.out (by simp [Value.oneCell']) (by decide) (by unfold maxLen; omega) (by omega) (by have := HB.out.size; simp; omega) _ rfl ?_
      intro gg cap w3 hown' hgrow _ _
      have HO2 := Lib.hid (show w3.ownsRow W2.heap.size 5 1 (.slice (some ⟨gg, 0, none⟩) (2 * (k + 1)) cap) (2 * (k + 1)) (U8 (gbK g (k + 1))) by rw [HZ.out, U8_append]; exact hown')
      have HB2 := Lib.hid ((HB.out.drew.alloc (w := wr.drew) HB.out.size (.cells #[.int .u8 (a : Int), .int .u8 (b : Int)] 5)).grown hgrow (by have := HB.out.size; simp; omega) (fun j hj => (HOn.out.lt j hj).1))
      clear hown' hgrow
      refine hK.out _ _ HB2.out (fun C2 => ?_)
      clear hK K
      try simp only [Act.put, List.setIfInBounds_toArray, List.set_cons_zero, List.set_cons_succ]
      refine wpAnyH_take (i := 15) (oi := { dst := some 4, op := Op.assign (Operand.tmp 41), type := 24, pos := "ref.go:14", after := #[{ on := 14, ground := Ground.data }, { on := 14, ground := Ground.chain }, { on := 0, ground := Ground.phase }, { on := 1, ground := Ground.phase }, { on := 2, ground := Ground.phase }, { on := 3, ground := Ground.phase }, { on := 4, ground := Ground.phase }, { on := 5, ground := Ground.phase }, { on := 6, ground := Ground.phase }, { on := 7, ground := Ground.phase }, { on := 8, ground := Ground.phase }, { on := 9, ground := Ground.phase }, { on := 10, ground := Ground.phase }, { on := 11, ground := Ground.phase }, { on := 12, ground := Ground.phase }, { on := 13, ground := Ground.phase }, { on := 14, ground := Ground.phase }], guard := none }) (v := ?_) rfl (by kernel_rfl) (by kernel_rfl) (by kernel_rfl) (fun _ _ _ h => h) (Or.inl ⟨by rfl, ?_⟩) C2 ?_
      rotate_left
      · intro W' hSw
        clear hSw
        go_simp <;> with_reducible rfl
      try simp only [Act.put, List.setIfInBounds_toArray, List.set_cons_zero, List.set_cons_succ]
      refine wpAnyH_done (by kernel_rfl) ?_ _
      refine NoPanic.normal ?_
      go_wp2
      go_roundw
      case rel => exact ⟨k + 1, by omega, by go_num, HO2, HB2⟩
      case measure => simp [intOf]; omega
    · obtain rfl : k = 7 := by omega
      obtain ⟨A0, c0, rfl⟩ := own_form HO.out
      go_wp2
      go_ret
      exact ⟨A0, c0, rfl, R8.own HO.out gbK_lt, below_step B2.out HB.out⟩
end Go.Proofs.Ytimphjgjcnbmnaa
