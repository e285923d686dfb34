/-
  The walk of the law TagBytes over the landed code, out of its callees' contracts.
-/
import Derived.Test.YtfioapdbibggkaaTagAw
import Derived.Test.YtfioapdbibggkaaTagC
import Derived.Test.YtfioapdbibggkaaSame
namespace Go.Proofs.Ytfioapdbibggkaa
open Go.RowKit

set_option maxRecDepth 100000 in
set_option maxHeartbeats 4000000 in
theorem TagBytes_walk (t : Tg) (A : Option Addr) (n c : Nat) (l : List Nat) (w : World) (ha : R8 w A n l) (hn : n ≤ 9223372036854775807) (hc : n ≤ c) :
    Calls Try.prog 3 #[t.val, .slice A n c] w (Gives (.bool true) w) := by
  have HA := Lib.hid ha
  clear ha
  obtain ⟨⟨⟨yk, ys, yq, ye⟩, er⟩, hT⟩ : ∃ p, takeT l = p := ⟨_, rfl⟩
  have HT := Lib.hid hT
  clear hT
  obtain ⟨k, s, q, e⟩ := t
  simp only [Tg.val]
  go_enter Try.func3, Try.ntmps3
  go_wp2_with fail
  refine (awake7_any _).mono ?_
  rintro _ w1 ⟨rfl, h1⟩
  have B1 := Lib.hid (below_step (below_new w _) h1)
  have T1 := Lib.hid ((TRow.new w ⟨k, s, q, e⟩ 23).below h1)
  clear h1
  by_cases hn1 : 200 < n
  · go_wp2
    go_ret
    exact ⟨rfl, B1.out⟩
  · obtain ⟨_, x0, x1, x2, x3⟩ := T1.out.box
    simp only at x0 x1 x2 x3
    have hd : decide ((200 : Int) < (n : Int)) = false := decide_eq_false (by omega)
    cases ho : Tg.ok ⟨k, s, q, e⟩
    · have HO := Lib.hid ho
      clear ho
      go_wp2_with fail
      refine (TagPut_no ⟨k, s, q, e⟩ HO.out _).mono ?_
      intro _ w2 hp
      obtain ⟨A2, c2, rfl, H2, D2, hc2, _⟩ := hp.at_ rfl
      have B2 := Lib.hid (below_step B1.out D2.out)
      have T2 := Lib.hid (T1.out.below D2.out)
      clear hp D2 x0 x1 x2 x3 T1 B1
      obtain ⟨hlt, x0, x1, x2, x3⟩ := T2.out.box
      simp only at x0 x1 x2 x3
      go_wp2
      refine wp_region_noPanic ?_
      refine wp_region_held_drew (S := fun w' => Below w2.heap.size w2 w') (by kernel_rfl) ((Below.refl _ _).drew) (fun C0 => ?_)
      refine wpAnyH_take (i := 0) (oi := { dst := some 21, op := Op.load 23 (Operand.tmp 2), type := 23, pos := "law.go:27", after := #[], guard := none }) (v := ?_) rfl (by kernel_rfl) (by kernel_rfl) (by kernel_rfl) (fun _ _ _ h => h) (Or.inl ⟨by rfl, ?_⟩) C0 ?_
      rotate_left
      · intro W' hSw
        have z0 := (hSw.cell (p := ⟨w.heap.size, 0, none⟩) hlt).trans x0
        have z1 := (hSw.cell (p := ⟨w.heap.size, 1, none⟩) hlt).trans x1
        have z2 := (hSw.cell (p := ⟨w.heap.size, 2, none⟩) hlt).trans x2
        have z3 := (hSw.cell (p := ⟨w.heap.size, 3, none⟩) hlt).trans x3
        clear hSw
        go_simp <;> with_reducible rfl
      try simp only [Act.put, List.setIfInBounds_toArray, List.set_cons_zero, List.set_cons_succ]
      refine wpAnyH_take (i := 2) (oi := { dst := some 23, op := Op.load 23 (Operand.tmp 2), type := 23, pos := "law.go:27", after := #[], guard := none }) (v := ?_) rfl (by kernel_rfl) (by kernel_rfl) (by kernel_rfl) (fun _ _ _ h => h) (Or.inl ⟨by rfl, ?_⟩) C0 ?_
      rotate_left
      · intro W' hSw
        have z0 := (hSw.cell (p := ⟨w.heap.size, 0, none⟩) hlt).trans x0
        have z1 := (hSw.cell (p := ⟨w.heap.size, 1, none⟩) hlt).trans x1
        have z2 := (hSw.cell (p := ⟨w.heap.size, 2, none⟩) hlt).trans x2
        have z3 := (hSw.cell (p := ⟨w.heap.size, 3, none⟩) hlt).trans x3
        clear hSw
        go_simp <;> with_reducible rfl
      try simp only [Act.put, List.setIfInBounds_toArray, List.set_cons_zero, List.set_cons_succ]
      refine wpAnyH_ready (rs := [1]) (by kernel_rfl) (by simp) ?_
      refine AllReadyH.cons (o := { dst := some 22, op := Op.call { callee := Callee.value (Operand.func 9), args := #[Operand.tmp 21], argTypes := #[23] }, type := 4, pos := "law.go:27", after := #[{ on := 0, ground := Ground.data }], guard := none }) rfl (fun K hK => ?_) AllReadyH.nil
      go_simp
      refine (May_is ⟨k, s, q, e⟩ _ HO.out _).mono ?_
      rintro _ w3 ⟨rfl, hB⟩
      go_wp2_with fail
      refine hK.out _ _ (C0.trans (hB.mono C0.size)) (fun C1 => ?_)
      clear hK K hB
      try simp only [Act.put, List.setIfInBounds_toArray, List.set_cons_zero, List.set_cons_succ]
      refine wpAnyH_ready (rs := [3]) (by kernel_rfl) (by simp) ?_
      refine AllReadyH.cons (o := { dst := some 24, op := Op.call { callee := Callee.value (Operand.func 10), args := #[Operand.tmp 23], argTypes := #[23] }, type := 4, pos := "law.go:27", after := #[{ on := 2, ground := Ground.data }, { on := 1, ground := Ground.chain }], guard := none }) rfl (fun K hK => ?_) AllReadyH.nil
      go_simp
      refine (RefMay_is ⟨k, s, q, e⟩ _ HO.out _).mono ?_
      rintro _ w4 ⟨rfl, hB⟩
      go_wp2_with fail
      refine hK.out _ _ (C1.trans (hB.mono C1.size)) (fun C2 => ?_)
      clear hK K hB
      try simp only [Act.put, List.setIfInBounds_toArray, List.set_cons_zero, List.set_cons_succ]
      refine wpAnyH_take (i := 4) (oi := { dst := some 25, op := Op.binOp BinOp.neq 4 (Operand.tmp 22) (Operand.tmp 24) 4, type := 4, pos := "law.go:27", after := #[{ on := 1, ground := Ground.data }, { on := 3, ground := Ground.data }], guard := none }) (v := ?_) rfl (by kernel_rfl) (by kernel_rfl) (by kernel_rfl) (fun _ _ _ h => h) (Or.inl ⟨by rfl, ?_⟩) C2 ?_
      rotate_left
      · intro W' hSw
        clear hSw
        go_simp <;> with_reducible rfl
      try simp only [Act.put, List.setIfInBounds_toArray, List.set_cons_zero, List.set_cons_succ]
      refine wpAnyH_done (by kernel_rfl) ?_ _
      refine NoPanic.normal ?_
      have B4 := Lib.hid (below_step B2.out C2)
      have T4 := Lib.hid (T2.out.below C2)
      have H4 := Lib.hid (H2.out.below C2)
      clear C0 C1 C2 x0 x1 x2 x3 hlt T2 B2 H2
      obtain ⟨_, x0, x1, x2, x3⟩ := T4.out.box
      simp only at x0 x1 x2 x3
      go_wp2_with fail
      refine (RefMay_is ⟨k, s, q, e⟩ _ HO.out _).mono ?_
      rintro _ w5 ⟨rfl, h5⟩
      have B5 := Lib.hid (below_step B4.out h5)
      have T5 := Lib.hid (T4.out.below h5)
      have H5 := Lib.hid (H4.out.below h5)
      clear h5 x0 x1 x2 x3 T4 B4 H4
      have B7 := B5
      clear B5
      go_wp2_with fail
      refine (TagTake_is _ n _ l ⟨yk, ys, yq, ye⟩ er _ (HA.out.below B7.out) (by omega) hc HT.out).mono ?_
      rintro _ w8 ⟨rfl, h8⟩
      have B8 := Lib.hid (below_step B7.out h8)
      clear h8 B7
      simp only [Tg.val]
      go_wp2_with fail
      have B8' := Lib.hid (below_step B8.out (below_new w8 (.cells #[.int .i64 yk, .int .i64 ys, .int .i64 yq, .int .i64 ye] 23)))
      refine (RefTagTake_is _ n _ l ⟨yk, ys, yq, ye⟩ er _ (HA.out.below B8'.out) (by omega) hc HT.out).mono ?_
      rintro _ w9 ⟨rfl, h9⟩
      have B9 := Lib.hid (below_step B8'.out h9)
      have T9 := Lib.hid ((TRow.new w8 ⟨yk, ys, yq, ye⟩ 23).below h9)
      clear h9 B8' B8
      simp only [Tg.val]
      obtain ⟨_, x0, x1, x2, x3⟩ := T9.out.box
      simp only at x0 x1 x2 x3
      go_wp2
      go_ret
      exact ⟨by simp [go_sem], below_step B9.out (below_new w9 _)⟩
    · have HO := Lib.hid ho
      clear ho
      go_wp2_with fail
      refine (TagPut_yes ⟨k, s, q, e⟩ HO.out _).mono ?_
      intro _ w2 hp
      obtain ⟨A2, c2, rfl, H2, D2, hc2, _⟩ := hp.at_ (Tg.bytes_len _)
      have B2 := Lib.hid (below_step B1.out D2.out)
      have T2 := Lib.hid (T1.out.below D2.out)
      clear hp D2 x0 x1 x2 x3 T1 B1
      obtain ⟨hlt, x0, x1, x2, x3⟩ := T2.out.box
      simp only at x0 x1 x2 x3
      go_wp2
      refine wp_region_noPanic ?_
      refine wp_region_held_drew (S := fun w' => Below w2.heap.size w2 w') (by kernel_rfl) ((Below.refl _ _).drew) (fun C0 => ?_)
      refine wpAnyH_take (i := 0) (oi := { dst := some 21, op := Op.load 23 (Operand.tmp 2), type := 23, pos := "law.go:27", after := #[], guard := none }) (v := ?_) rfl (by kernel_rfl) (by kernel_rfl) (by kernel_rfl) (fun _ _ _ h => h) (Or.inl ⟨by rfl, ?_⟩) C0 ?_
      rotate_left
      · intro W' hSw
        have z0 := (hSw.cell (p := ⟨w.heap.size, 0, none⟩) hlt).trans x0
        have z1 := (hSw.cell (p := ⟨w.heap.size, 1, none⟩) hlt).trans x1
        have z2 := (hSw.cell (p := ⟨w.heap.size, 2, none⟩) hlt).trans x2
        have z3 := (hSw.cell (p := ⟨w.heap.size, 3, none⟩) hlt).trans x3
        clear hSw
        go_simp <;> with_reducible rfl
      try simp only [Act.put, List.setIfInBounds_toArray, List.set_cons_zero, List.set_cons_succ]
      refine wpAnyH_take (i := 2) (oi := { dst := some 23, op := Op.load 23 (Operand.tmp 2), type := 23, pos := "law.go:27", after := #[], guard := none }) (v := ?_) rfl (by kernel_rfl) (by kernel_rfl) (by kernel_rfl) (fun _ _ _ h => h) (Or.inl ⟨by rfl, ?_⟩) C0 ?_
      rotate_left
      · intro W' hSw
        have z0 := (hSw.cell (p := ⟨w.heap.size, 0, none⟩) hlt).trans x0
        have z1 := (hSw.cell (p := ⟨w.heap.size, 1, none⟩) hlt).trans x1
        have z2 := (hSw.cell (p := ⟨w.heap.size, 2, none⟩) hlt).trans x2
        have z3 := (hSw.cell (p := ⟨w.heap.size, 3, none⟩) hlt).trans x3
        clear hSw
        go_simp <;> with_reducible rfl
      try simp only [Act.put, List.setIfInBounds_toArray, List.set_cons_zero, List.set_cons_succ]
      refine wpAnyH_ready (rs := [1]) (by kernel_rfl) (by simp) ?_
      refine AllReadyH.cons (o := { dst := some 22, op := Op.call { callee := Callee.value (Operand.func 9), args := #[Operand.tmp 21], argTypes := #[23] }, type := 4, pos := "law.go:27", after := #[{ on := 0, ground := Ground.data }], guard := none }) rfl (fun K hK => ?_) AllReadyH.nil
      go_simp
      refine (May_is ⟨k, s, q, e⟩ _ HO.out _).mono ?_
      rintro _ w3 ⟨rfl, hB⟩
      go_wp2_with fail
      refine hK.out _ _ (C0.trans (hB.mono C0.size)) (fun C1 => ?_)
      clear hK K hB
      try simp only [Act.put, List.setIfInBounds_toArray, List.set_cons_zero, List.set_cons_succ]
      refine wpAnyH_ready (rs := [3]) (by kernel_rfl) (by simp) ?_
      refine AllReadyH.cons (o := { dst := some 24, op := Op.call { callee := Callee.value (Operand.func 10), args := #[Operand.tmp 23], argTypes := #[23] }, type := 4, pos := "law.go:27", after := #[{ on := 2, ground := Ground.data }, { on := 1, ground := Ground.chain }], guard := none }) rfl (fun K hK => ?_) AllReadyH.nil
      go_simp
      refine (RefMay_is ⟨k, s, q, e⟩ _ HO.out _).mono ?_
      rintro _ w4 ⟨rfl, hB⟩
      go_wp2_with fail
      refine hK.out _ _ (C1.trans (hB.mono C1.size)) (fun C2 => ?_)
      clear hK K hB
      try simp only [Act.put, List.setIfInBounds_toArray, List.set_cons_zero, List.set_cons_succ]
      refine wpAnyH_take (i := 4) (oi := { dst := some 25, op := Op.binOp BinOp.neq 4 (Operand.tmp 22) (Operand.tmp 24) 4, type := 4, pos := "law.go:27", after := #[{ on := 1, ground := Ground.data }, { on := 3, ground := Ground.data }], guard := none }) (v := ?_) rfl (by kernel_rfl) (by kernel_rfl) (by kernel_rfl) (fun _ _ _ h => h) (Or.inl ⟨by rfl, ?_⟩) C2 ?_
      rotate_left
      · intro W' hSw
        clear hSw
        go_simp <;> with_reducible rfl
      try simp only [Act.put, List.setIfInBounds_toArray, List.set_cons_zero, List.set_cons_succ]
      refine wpAnyH_done (by kernel_rfl) ?_ _
      refine NoPanic.normal ?_
      have B4 := Lib.hid (below_step B2.out C2)
      have T4 := Lib.hid (T2.out.below C2)
      have H4 := Lib.hid (H2.out.below C2)
      clear C0 C1 C2 x0 x1 x2 x3 hlt T2 B2 H2
      obtain ⟨_, x0, x1, x2, x3⟩ := T4.out.box
      simp only at x0 x1 x2 x3
      go_wp2_with fail
      refine (RefMay_is ⟨k, s, q, e⟩ _ HO.out _).mono ?_
      rintro _ w5 ⟨rfl, h5⟩
      have B5 := Lib.hid (below_step B4.out h5)
      have T5 := Lib.hid (T4.out.below h5)
      have H5 := Lib.hid (H4.out.below h5)
      clear h5 x0 x1 x2 x3 T4 B4 H4
      obtain ⟨_, x0, x1, x2, x3⟩ := T5.out.box
      simp only at x0 x1 x2 x3
      go_wp2_with fail
      refine (RefTagPut_any ⟨k, s, q, e⟩ HO.out _).mono ?_
      intro _ w6 hp
      obtain ⟨A6, c6, rfl, H6, D6⟩ := hp.at_ (Tg.bytes_len _)
      have B6 := Lib.hid (below_step B5.out D6.out)
      have H5' := Lib.hid (H5.out.below D6.out)
      clear hp D6 x0 x1 x2 x3 T5 B5 H5
      go_wp2_with fail
      refine (Same_any _ _ 24 _ 24 _ _ _ _ H5'.out H6.out (by omega) (by omega)).mono ?_
      intro _ w7 hq
      obtain ⟨rfl, D7⟩ := hq.at_
      have B7 := Lib.hid (below_step B6.out D7.out)
      clear hq D7 B6 H5' H6
      rw [show decide (Tg.bytes ⟨k, s, q, e⟩ = Tg.bytes ⟨k, s, q, e⟩) = true by simp]
      go_wp2_with fail
      refine (TagTake_is _ n _ l ⟨yk, ys, yq, ye⟩ er _ (HA.out.below B7.out) (by omega) hc HT.out).mono ?_
      rintro _ w8 ⟨rfl, h8⟩
      have B8 := Lib.hid (below_step B7.out h8)
      clear h8 B7
      simp only [Tg.val]
      go_wp2_with fail
      have B8' := Lib.hid (below_step B8.out (below_new w8 (.cells #[.int .i64 yk, .int .i64 ys, .int .i64 yq, .int .i64 ye] 23)))
      refine (RefTagTake_is _ n _ l ⟨yk, ys, yq, ye⟩ er _ (HA.out.below B8'.out) (by omega) hc HT.out).mono ?_
      rintro _ w9 ⟨rfl, h9⟩
      have B9 := Lib.hid (below_step B8'.out h9)
      have T9 := Lib.hid ((TRow.new w8 ⟨yk, ys, yq, ye⟩ 23).below h9)
      clear h9 B8' B8
      simp only [Tg.val]
      obtain ⟨_, x0, x1, x2, x3⟩ := T9.out.box
      simp only at x0 x1 x2 x3
      go_wp2
      go_ret
      exact ⟨by simp [go_sem], below_step B9.out (below_new w9 _)⟩
end Go.Proofs.Ytfioapdbibggkaa
