/-
  Contracts of tag.Put and of the document's Put (package incunableref07), over the landed code.
-/
import Derived.Deep.RegionHeld3
import Derived.Test.YtjahbpmkkfdimaaPageEncodesJ6
namespace Go.Proofs.Ytjahbpmkkfdimaa
open Go.RowKit
set_option maxRecDepth 100000

theorem Tg.nums_fit {t : Tg} (h : t.fit) : ∀ x ∈ [0, t.k, t.s, t.q, t.e, 0], -9223372036854775808 ≤ x ∧ x ≤ 9223372036854775807 := by
  unfold Tg.fit at h
  intro x hx
  simp only [List.mem_cons, List.not_mem_nil, or_false] at hx
  omega
theorem R64.drew {w : World} {A : Option Addr} {n : Nat} {z : List Int} (h : R64 w A n z) : R64 w.drew A n z := h
theorem PutsB.of {l : List Nat} {er : Int} {w w' : World} {A : Option Addr} {n c : Nat} (hl : l.length = n) (h : R8 w' A n l) (hb : Below w.heap.size w w') (hc : n ≤ c) (hn : A = none → c = 0) : PutsB l er w (.returned (.tuple #[.slice A n c, .int .i64 er])) w' := by
  subst hl
  exact ⟨A, c, rfl, h, hb, hc, hn⟩
theorem MakesB.of {l : List Nat} {w w' : World} {A : Option Addr} {n c : Nat} (hl : l.length = n) (h : R8 w' A n l) (hb : Below w.heap.size w w') : MakesB l w (.returned (.slice A n c)) w' := by
  subst hl
  exact ⟨A, c, rfl, h, hb⟩
theorem own_mono {w : World} {base base' : Nat} {e : TypeId} {k : Nat} {v : Value} {n : Nat} {xs : List Value} (h : w.ownsRow base e k v n xs) (hb : base' ≤ base) : w.ownsRow base' e k v n xs := by
  refine ⟨h.1, ?_⟩
  rcases h.2 with h0 | ⟨g, cap, cur, hv, hbase, hr⟩
  · exact .inl h0
  · exact .inr ⟨g, cap, cur, hv, Nat.le_trans hb hbase, hr⟩
theorem OwnsB.of {e0 : TypeId} {l : List Nat} {w w' : World} {A : Option Addr} {n c : Nat} (hl : l.length = n) (h : w'.ownsRow w.heap.size e0 1 (.slice A n c) n (U8 l)) (hb : Below w.heap.size w w') : OwnsB e0 l w (.returned (.slice A n c)) w' := by
  subst hl
  exact ⟨A, c, rfl, h, hb⟩

theorem TagPut_no (t : Tg) (h : t.ok = false) (w : World) : Calls Try.prog 27 #[t.val] w (PutsB [] 2 w) := by
  have HO := Lib.hid h
  clear h
  obtain ⟨k, s, q, e⟩ := t
  simp only [Tg.val]
  go_enter Try.func27, Try.ntmps27
  go_wp2_with fail
  refine (May_is ⟨k, s, q, e⟩ _ HO.out _).mono ?_
  rintro _ w1 ⟨rfl, h1⟩
  have B1 := Lib.hid (below_step (below_new w _) h1)
  clear h1
  go_wp2
  go_ret2
  exact ⟨none, 0, rfl, ⟨Rd.nil_, by simp⟩, B1.out, Nat.le_refl _, fun _ => rfl⟩

set_option maxRecDepth 100000 in
set_option maxHeartbeats 2000000 in
theorem TagPut_yes (t : Tg) (h : t.ok = true) (w : World) : Calls Try.prog 27 #[t.val] w (PutsB t.bytes 0 w) := by
  have HO := Lib.hid h
  have HC := Lib.hid (show canPut lay [0, t.k, t.s, t.q, t.e, 0] = true from Tg.can h)
  have HLn := Lib.hid (show (putL lay [0, t.k, t.s, t.q, t.e, 0]).length = 24 from Tg.bytes_len t)
  have HF := Lib.hid (Tg.nums_fit (Tg.ok_fit h))
  clear h
  obtain ⟨k, s, q, e⟩ := t
  simp only [Tg.val]
  simp only at HC HLn HF
  go_enter Try.func27, Try.ntmps27
  go_wp2_with fail
  refine (May_is ⟨k, s, q, e⟩ _ HO.out _).mono ?_
  rintro _ w1 ⟨rfl, h1⟩
  have B1 := Lib.hid (below_step (below_new w _) h1)
  obtain ⟨hlt, c0, c1, c2, c3⟩ := (TBox.new w ⟨k, s, q, e⟩ _).below h1
  clear h1
  go_wp2
  refine wp_region_noPanic ?_
  refine wp_region_held_drew (S := fun w' => Below w1.heap.size w1 w') (by kernel_rfl) ((Below.refl _ _).drew) (fun C0 => ?_)
  refine wpAnyH_take (i := 1) (oi := { dst := some 8, op := Op.fieldAddr 26 (Operand.tmp 1) 0, type := 0, pos := "tag.go:22", after := #[], guard := none }) (v := ?_) rfl (by kernel_rfl) (by kernel_rfl) (by kernel_rfl) (fun _ _ _ h => h) (Or.inl ⟨by rfl, ?_⟩) C0 ?_
  rotate_left
  · intro W' hSw
    clear hSw
    go_simp <;> with_reducible rfl
  try simp only [Act.put, List.setIfInBounds_toArray, List.set_cons_zero, List.set_cons_succ]
  refine wpAnyH_take (i := 2) (oi := { dst := some 9, op := Op.load 3 (Operand.tmp 8), type := 3, pos := "tag.go:22", after := #[{ on := 1, ground := Ground.data }], guard := none }) (v := ?_) rfl (by kernel_rfl) (by kernel_rfl) (by kernel_rfl) (fun _ _ _ h => h) (Or.inl ⟨by rfl, ?_⟩) C0 ?_
  rotate_left
  · intro W' hSw
    have k0 := (hSw.cell (p := ⟨w.heap.size, 0, none⟩) hlt).trans c0
    have k1 := (hSw.cell (p := ⟨w.heap.size, 1, none⟩) hlt).trans c1
    have k2 := (hSw.cell (p := ⟨w.heap.size, 2, none⟩) hlt).trans c2
    have k3 := (hSw.cell (p := ⟨w.heap.size, 3, none⟩) hlt).trans c3
    clear hSw
    go_simp <;> with_reducible rfl
  try simp only [Act.put, List.setIfInBounds_toArray, List.set_cons_zero, List.set_cons_succ]
  refine wpAnyH_take (i := 3) (oi := { dst := some 10, op := Op.fieldAddr 26 (Operand.tmp 1) 1, type := 0, pos := "tag.go:22", after := #[], guard := none }) (v := ?_) rfl (by kernel_rfl) (by kernel_rfl) (by kernel_rfl) (fun _ _ _ h => h) (Or.inl ⟨by rfl, ?_⟩) C0 ?_
  rotate_left
  · intro W' hSw
    clear hSw
    go_simp <;> with_reducible rfl
  try simp only [Act.put, List.setIfInBounds_toArray, List.set_cons_zero, List.set_cons_succ]
  refine wpAnyH_take (i := 4) (oi := { dst := some 11, op := Op.load 3 (Operand.tmp 10), type := 3, pos := "tag.go:22", after := #[{ on := 3, ground := Ground.data }], guard := none }) (v := ?_) rfl (by kernel_rfl) (by kernel_rfl) (by kernel_rfl) (fun _ _ _ h => h) (Or.inl ⟨by rfl, ?_⟩) C0 ?_
  rotate_left
  · intro W' hSw
    have k0 := (hSw.cell (p := ⟨w.heap.size, 0, none⟩) hlt).trans c0
    have k1 := (hSw.cell (p := ⟨w.heap.size, 1, none⟩) hlt).trans c1
    have k2 := (hSw.cell (p := ⟨w.heap.size, 2, none⟩) hlt).trans c2
    have k3 := (hSw.cell (p := ⟨w.heap.size, 3, none⟩) hlt).trans c3
    clear hSw
    go_simp <;> with_reducible rfl
  try simp only [Act.put, List.setIfInBounds_toArray, List.set_cons_zero, List.set_cons_succ]
  refine wpAnyH_take (i := 5) (oi := { dst := some 12, op := Op.fieldAddr 26 (Operand.tmp 1) 2, type := 0, pos := "tag.go:22", after := #[], guard := none }) (v := ?_) rfl (by kernel_rfl) (by kernel_rfl) (by kernel_rfl) (fun _ _ _ h => h) (Or.inl ⟨by rfl, ?_⟩) C0 ?_
  rotate_left
  · intro W' hSw
    clear hSw
    go_simp <;> with_reducible rfl
  try simp only [Act.put, List.setIfInBounds_toArray, List.set_cons_zero, List.set_cons_succ]
  refine wpAnyH_take (i := 6) (oi := { dst := some 13, op := Op.load 3 (Operand.tmp 12), type := 3, pos := "tag.go:22", after := #[{ on := 5, ground := Ground.data }], guard := none }) (v := ?_) rfl (by kernel_rfl) (by kernel_rfl) (by kernel_rfl) (fun _ _ _ h => h) (Or.inl ⟨by rfl, ?_⟩) C0 ?_
  rotate_left
  · intro W' hSw
    have k0 := (hSw.cell (p := ⟨w.heap.size, 0, none⟩) hlt).trans c0
    have k1 := (hSw.cell (p := ⟨w.heap.size, 1, none⟩) hlt).trans c1
    have k2 := (hSw.cell (p := ⟨w.heap.size, 2, none⟩) hlt).trans c2
    have k3 := (hSw.cell (p := ⟨w.heap.size, 3, none⟩) hlt).trans c3
    clear hSw
    go_simp <;> with_reducible rfl
  try simp only [Act.put, List.setIfInBounds_toArray, List.set_cons_zero, List.set_cons_succ]
  refine wpAnyH_take (i := 7) (oi := { dst := some 14, op := Op.fieldAddr 26 (Operand.tmp 1) 3, type := 0, pos := "tag.go:22", after := #[], guard := none }) (v := ?_) rfl (by kernel_rfl) (by kernel_rfl) (by kernel_rfl) (fun _ _ _ h => h) (Or.inl ⟨by rfl, ?_⟩) C0 ?_
  rotate_left
  · intro W' hSw
    clear hSw
    go_simp <;> with_reducible rfl
  try simp only [Act.put, List.setIfInBounds_toArray, List.set_cons_zero, List.set_cons_succ]
  refine wpAnyH_take (i := 8) (oi := { dst := some 15, op := Op.load 3 (Operand.tmp 14), type := 3, pos := "tag.go:22", after := #[{ on := 7, ground := Ground.data }], guard := none }) (v := ?_) rfl (by kernel_rfl) (by kernel_rfl) (by kernel_rfl) (fun _ _ _ h => h) (Or.inl ⟨by rfl, ?_⟩) C0 ?_
  rotate_left
  · intro W' hSw
    have k0 := (hSw.cell (p := ⟨w.heap.size, 0, none⟩) hlt).trans c0
    have k1 := (hSw.cell (p := ⟨w.heap.size, 1, none⟩) hlt).trans c1
    have k2 := (hSw.cell (p := ⟨w.heap.size, 2, none⟩) hlt).trans c2
    have k3 := (hSw.cell (p := ⟨w.heap.size, 3, none⟩) hlt).trans c3
    clear hSw
    go_simp <;> with_reducible rfl
  try simp only [Act.put, List.setIfInBounds_toArray, List.set_cons_zero, List.set_cons_succ]
  clear c0 c1 c2 c3
  refine wpAnyH_ready (rs := [0, 9]) (by kernel_rfl) (by simp) ?_
  refine (AllReadyH.cons (o := { dst := some 7, op := Op.call { callee := Callee.value (Operand.func 54), args := #[], argTypes := #[] }, type := 54, pos := "tag.go:22", after := #[], guard := none }) rfl (fun K hK => ?_) (AllReadyH.cons (o := { dst := some 16, op := Op.buildSlice 54 6 #[(0, Operand.const (Value.int IntKind.i64 0)), (1, Operand.tmp 9), (2, Operand.tmp 11), (3, Operand.tmp 13), (4, Operand.tmp 15), (5, Operand.const (Value.int IntKind.i64 0))], type := 54, pos := "tag.go:22", after := #[{ on := 2, ground := Ground.data }, { on := 4, ground := Ground.data }, { on := 6, ground := Ground.data }, { on := 8, ground := Ground.data }], guard := none }) rfl (fun K hK => ?_) AllReadyH.nil))
  · go_simp
    refine (layout_any _).mono ?_
    rintro _ wl ⟨A8, c8, rfl, hl, hB⟩
    have HL := Lib.hid hl
    clear hl
    go_wp2_with fail
    refine hK.out _ _ (C0.trans (hB.mono C0.size)) (fun C1 => ?_)
    clear hK K hB
    try simp only [Act.put, List.setIfInBounds_toArray, List.set_cons_zero, List.set_cons_succ]
    refine wpAnyH_ready (rs := [9]) (by kernel_rfl) (by simp) ?_
    refine AllReadyH.cons (o := { dst := some 16, op := Op.buildSlice 54 6 #[(0, Operand.const (Value.int IntKind.i64 0)), (1, Operand.tmp 9), (2, Operand.tmp 11), (3, Operand.tmp 13), (4, Operand.tmp 15), (5, Operand.const (Value.int IntKind.i64 0))], type := 54, pos := "tag.go:22", after := #[{ on := 2, ground := Ground.data }, { on := 4, ground := Ground.data }, { on := 6, ground := Ground.data }, { on := 8, ground := Ground.data }], guard := none }) rfl (fun K hK => ?_) AllReadyH.nil
    go_simp
    refine hK.out _ _ (C1.alloc C1.size _) (fun C2 => ?_)
    clear hK K
    try simp only [Act.put, List.setIfInBounds_toArray, List.set_cons_zero, List.set_cons_succ]
    refine wpAnyH_ready (rs := [10]) (by kernel_rfl) (by simp) ?_
    refine AllReadyH.cons (o := { dst := some 17, op := Op.call { callee := Callee.value (Operand.func 53), args := #[Operand.tmp 7, Operand.tmp 16], argTypes := #[54, 54] }, type := 30, pos := "tag.go:22", after := #[{ on := 0, ground := Ground.data }, { on := 9, ground := Ground.data }, { on := 0, ground := Ground.chain }], guard := none }) rfl (fun K hK => ?_) AllReadyH.nil
    go_simp
    refine (Put_any _ _ 6 _ 6 _ lay [0, k, s, q, e, 0] _ (HL.out.alloc _) (R64.six _ 0 k s q e 0 _ HF.out) (by omega) (by omega)).mono ?_
    rw [putA_yes HC.out, putE_yes HC.out]
    intro _ wp hp
    obtain ⟨A9, c9, rfl, H9, HB9, h9, n9⟩ := hp.at_ HLn.out
    have hB := HB9.out
    clear hp HB9
    go_wp2_with fail
    refine hK.out _ _ (C2.trans (hB.mono C2.size)) (fun C3 => ?_)
    clear hK K hB
    try simp only [Act.put, List.setIfInBounds_toArray, List.set_cons_zero, List.set_cons_succ]
    refine wpAnyH_take (i := 11) (oi := { dst := some 18, op := Op.extract (Operand.tmp 17) 0, type := 24, pos := "tag.go:22", after := #[{ on := 10, ground := Ground.data }], guard := none }) (v := ?_) rfl (by kernel_rfl) (by kernel_rfl) (by kernel_rfl) (fun _ _ _ h => h) (Or.inl ⟨by rfl, ?_⟩) C3 ?_
    rotate_left
    · intro W' hSw
      clear hSw
      go_simp <;> with_reducible rfl
    try simp only [Act.put, List.setIfInBounds_toArray, List.set_cons_zero, List.set_cons_succ]
    refine wpAnyH_take (i := 12) (oi := { dst := some 19, op := Op.extract (Operand.tmp 17) 1, type := 29, pos := "tag.go:22", after := #[{ on := 10, ground := Ground.data }], guard := none }) (v := ?_) rfl (by kernel_rfl) (by kernel_rfl) (by kernel_rfl) (fun _ _ _ h => h) (Or.inl ⟨by rfl, ?_⟩) C3 ?_
    rotate_left
    · intro W' hSw
      clear hSw
      go_simp <;> with_reducible rfl
    try simp only [Act.put, List.setIfInBounds_toArray, List.set_cons_zero, List.set_cons_succ]
    refine wpAnyH_take (i := 13) (oi := { dst := some 2, op := Op.assign (Operand.tmp 18), type := 24, pos := "tag.go:22", after := #[{ on := 11, ground := Ground.data }, { on := 10, ground := Ground.chain }, { on := 0, ground := Ground.phase }, { on := 1, ground := Ground.phase }, { on := 2, ground := Ground.phase }, { on := 3, ground := Ground.phase }, { on := 4, ground := Ground.phase }, { on := 5, ground := Ground.phase }, { on := 6, ground := Ground.phase }, { on := 7, ground := Ground.phase }, { on := 8, ground := Ground.phase }, { on := 9, ground := Ground.phase }, { on := 10, ground := Ground.phase }, { on := 11, ground := Ground.phase }, { on := 12, ground := Ground.phase }], guard := none }) (v := ?_) rfl (by kernel_rfl) (by kernel_rfl) (by kernel_rfl) (fun _ _ _ h => h) (Or.inl ⟨by rfl, ?_⟩) C3 ?_
    rotate_left
    · intro W' hSw
      clear hSw
      go_simp <;> with_reducible rfl
    try simp only [Act.put, List.setIfInBounds_toArray, List.set_cons_zero, List.set_cons_succ]
    refine wpAnyH_take (i := 14) (oi := { dst := some 3, op := Op.assign (Operand.tmp 19), type := 29, pos := "tag.go:22", after := #[{ on := 12, ground := Ground.data }, { on := 13, ground := Ground.chain }, { on := 0, ground := Ground.phase }, { on := 1, ground := Ground.phase }, { on := 2, ground := Ground.phase }, { on := 3, ground := Ground.phase }, { on := 4, ground := Ground.phase }, { on := 5, ground := Ground.phase }, { on := 6, ground := Ground.phase }, { on := 7, ground := Ground.phase }, { on := 8, ground := Ground.phase }, { on := 9, ground := Ground.phase }, { on := 10, ground := Ground.phase }, { on := 11, ground := Ground.phase }, { on := 12, ground := Ground.phase }, { on := 13, ground := Ground.phase }], guard := none }) (v := ?_) rfl (by kernel_rfl) (by kernel_rfl) (by kernel_rfl) (fun _ _ _ h => h) (Or.inl ⟨by rfl, ?_⟩) C3 ?_
    rotate_left
    · intro W' hSw
      clear hSw
      go_simp <;> with_reducible rfl
    try simp only [Act.put, List.setIfInBounds_toArray, List.set_cons_zero, List.set_cons_succ]
    refine wpAnyH_done (by kernel_rfl) ?_ _
    refine NoPanic.normal ?_
    go_wp2
    go_ret2
    exact PutsB.of HLn.out H9.out (below_step B1.out C3) h9 n9.out
  · go_simp
    refine hK.out _ _ (C0.alloc C0.size _) (fun C1 => ?_)
    clear hK K
    try simp only [Act.put, List.setIfInBounds_toArray, List.set_cons_zero, List.set_cons_succ]
    refine wpAnyH_ready (rs := [0]) (by kernel_rfl) (by simp) ?_
    refine AllReadyH.cons (o := { dst := some 7, op := Op.call { callee := Callee.value (Operand.func 54), args := #[], argTypes := #[] }, type := 54, pos := "tag.go:22", after := #[], guard := none }) rfl (fun K hK => ?_) AllReadyH.nil
    go_simp
    refine (layout_any _).mono ?_
    rintro _ wl ⟨A8, c8, rfl, hl, hB⟩
    have HL := Lib.hid hl
    clear hl
    have HN := Lib.hid ((R64.six w1 0 k s q e 0 3 HF.out).drew.below hB)
    go_wp2_with fail
    refine hK.out _ _ (C1.trans (hB.mono C1.size)) (fun C2 => ?_)
    clear hK K hB
    try simp only [Act.put, List.setIfInBounds_toArray, List.set_cons_zero, List.set_cons_succ]
    refine wpAnyH_ready (rs := [10]) (by kernel_rfl) (by simp) ?_
    refine AllReadyH.cons (o := { dst := some 17, op := Op.call { callee := Callee.value (Operand.func 53), args := #[Operand.tmp 7, Operand.tmp 16], argTypes := #[54, 54] }, type := 30, pos := "tag.go:22", after := #[{ on := 0, ground := Ground.data }, { on := 9, ground := Ground.data }, { on := 0, ground := Ground.chain }], guard := none }) rfl (fun K hK => ?_) AllReadyH.nil
    go_simp
    refine (Put_any _ _ 6 _ 6 _ lay [0, k, s, q, e, 0] _ (HL.out) (HN.out) (by omega) (by omega)).mono ?_
    rw [putA_yes HC.out, putE_yes HC.out]
    intro _ wp hp
    obtain ⟨A9, c9, rfl, H9, HB9, h9, n9⟩ := hp.at_ HLn.out
    have hB := HB9.out
    clear hp HB9
    go_wp2_with fail
    refine hK.out _ _ (C2.trans (hB.mono C2.size)) (fun C3 => ?_)
    clear hK K hB
    try simp only [Act.put, List.setIfInBounds_toArray, List.set_cons_zero, List.set_cons_succ]
    refine wpAnyH_take (i := 11) (oi := { dst := some 18, op := Op.extract (Operand.tmp 17) 0, type := 24, pos := "tag.go:22", after := #[{ on := 10, ground := Ground.data }], guard := none }) (v := ?_) rfl (by kernel_rfl) (by kernel_rfl) (by kernel_rfl) (fun _ _ _ h => h) (Or.inl ⟨by rfl, ?_⟩) C3 ?_
    rotate_left
    · intro W' hSw
      clear hSw
      go_simp <;> with_reducible rfl
    try simp only [Act.put, List.setIfInBounds_toArray, List.set_cons_zero, List.set_cons_succ]
    refine wpAnyH_take (i := 12) (oi := { dst := some 19, op := Op.extract (Operand.tmp 17) 1, type := 29, pos := "tag.go:22", after := #[{ on := 10, ground := Ground.data }], guard := none }) (v := ?_) rfl (by kernel_rfl) (by kernel_rfl) (by kernel_rfl) (fun _ _ _ h => h) (Or.inl ⟨by rfl, ?_⟩) C3 ?_
    rotate_left
    · intro W' hSw
      clear hSw
      go_simp <;> with_reducible rfl
    try simp only [Act.put, List.setIfInBounds_toArray, List.set_cons_zero, List.set_cons_succ]
    refine wpAnyH_take (i := 13) (oi := { dst := some 2, op := Op.assign (Operand.tmp 18), type := 24, pos := "tag.go:22", after := #[{ on := 11, ground := Ground.data }, { on := 10, ground := Ground.chain }, { on := 0, ground := Ground.phase }, { on := 1, ground := Ground.phase }, { on := 2, ground := Ground.phase }, { on := 3, ground := Ground.phase }, { on := 4, ground := Ground.phase }, { on := 5, ground := Ground.phase }, { on := 6, ground := Ground.phase }, { on := 7, ground := Ground.phase }, { on := 8, ground := Ground.phase }, { on := 9, ground := Ground.phase }, { on := 10, ground := Ground.phase }, { on := 11, ground := Ground.phase }, { on := 12, ground := Ground.phase }], guard := none }) (v := ?_) rfl (by kernel_rfl) (by kernel_rfl) (by kernel_rfl) (fun _ _ _ h => h) (Or.inl ⟨by rfl, ?_⟩) C3 ?_
    rotate_left
    · intro W' hSw
      clear hSw
      go_simp <;> with_reducible rfl
    try simp only [Act.put, List.setIfInBounds_toArray, List.set_cons_zero, List.set_cons_succ]
    refine wpAnyH_take (i := 14) (oi := { dst := some 3, op := Op.assign (Operand.tmp 19), type := 29, pos := "tag.go:22", after := #[{ on := 12, ground := Ground.data }, { on := 13, ground := Ground.chain }, { on := 0, ground := Ground.phase }, { on := 1, ground := Ground.phase }, { on := 2, ground := Ground.phase }, { on := 3, ground := Ground.phase }, { on := 4, ground := Ground.phase }, { on := 5, ground := Ground.phase }, { on := 6, ground := Ground.phase }, { on := 7, ground := Ground.phase }, { on := 8, ground := Ground.phase }, { on := 9, ground := Ground.phase }, { on := 10, ground := Ground.phase }, { on := 11, ground := Ground.phase }, { on := 12, ground := Ground.phase }, { on := 13, ground := Ground.phase }], guard := none }) (v := ?_) rfl (by kernel_rfl) (by kernel_rfl) (by kernel_rfl) (fun _ _ _ h => h) (Or.inl ⟨by rfl, ?_⟩) C3 ?_
    rotate_left
    · intro W' hSw
      clear hSw
      go_simp <;> with_reducible rfl
    try simp only [Act.put, List.setIfInBounds_toArray, List.set_cons_zero, List.set_cons_succ]
    refine wpAnyH_done (by kernel_rfl) ?_ _
    refine NoPanic.normal ?_
    go_wp2
    go_ret2
    exact PutsB.of HLn.out H9.out (below_step B1.out C3) h9 n9.out

set_option maxRecDepth 100000 in
set_option maxHeartbeats 2000000 in
theorem RefTagPut_owns (t : Tg) (h : t.ok = true) (w : World) : Calls Try.prog 35 #[t.val] w (OwnsB 5 t.bytes w) := by
  have HC := Lib.hid (show canPut lay [0, t.k, t.s, t.q, t.e, 0] = true from Tg.can h)
  have HLn := Lib.hid (show (putL lay [0, t.k, t.s, t.q, t.e, 0]).length = 24 from Tg.bytes_len t)
  have HF := Lib.hid (Tg.nums_fit (Tg.ok_fit h))
  clear h
  obtain ⟨k, s, q, e⟩ := t
  simp only [Tg.val]
  simp only at HC HLn HF
  go_enter Try.func35, Try.ntmps35
  go_wp2
  have B1 := Lib.hid (below_new w (.cells #[.int .i64 k, .int .i64 s, .int .i64 q, .int .i64 e] 26))
  obtain ⟨hlt, c0, c1, c2, c3⟩ := TBox.new w ⟨k, s, q, e⟩ 26
  simp only at hlt c0 c1 c2 c3
  generalize w.alloc (.cells #[.int .i64 k, .int .i64 s, .int .i64 q, .int .i64 e] 26) = w1 at *
  refine wp_region_noPanic ?_
  refine wp_region_held_drew (S := fun w' => Below w1.heap.size w1 w') (by kernel_rfl) ((Below.refl _ _).drew) (fun C0 => ?_)
  refine wpAnyH_take (i := 1) (oi := { dst := some 7, op := Op.fieldAddr 26 (Operand.tmp 1) 0, type := 0, pos := "ref.go:20", after := #[], guard := none }) (v := ?_) rfl (by kernel_rfl) (by kernel_rfl) (by kernel_rfl) (fun _ _ _ h => h) (Or.inl ⟨by rfl, ?_⟩) C0 ?_
  rotate_left
  · intro W' hSw
    clear hSw
    go_simp <;> with_reducible rfl
  try simp only [Act.put, List.setIfInBounds_toArray, List.set_cons_zero, List.set_cons_succ]
  refine wpAnyH_take (i := 2) (oi := { dst := some 8, op := Op.load 3 (Operand.tmp 7), type := 3, pos := "ref.go:20", after := #[{ on := 1, ground := Ground.data }], guard := none }) (v := ?_) rfl (by kernel_rfl) (by kernel_rfl) (by kernel_rfl) (fun _ _ _ h => h) (Or.inl ⟨by rfl, ?_⟩) C0 ?_
  rotate_left
  · intro W' hSw
    have k0 := (hSw.cell (p := ⟨w.heap.size, 0, none⟩) hlt).trans c0
    have k1 := (hSw.cell (p := ⟨w.heap.size, 1, none⟩) hlt).trans c1
    have k2 := (hSw.cell (p := ⟨w.heap.size, 2, none⟩) hlt).trans c2
    have k3 := (hSw.cell (p := ⟨w.heap.size, 3, none⟩) hlt).trans c3
    clear hSw
    go_simp <;> with_reducible rfl
  try simp only [Act.put, List.setIfInBounds_toArray, List.set_cons_zero, List.set_cons_succ]
  refine wpAnyH_take (i := 3) (oi := { dst := some 9, op := Op.fieldAddr 26 (Operand.tmp 1) 1, type := 0, pos := "ref.go:20", after := #[], guard := none }) (v := ?_) rfl (by kernel_rfl) (by kernel_rfl) (by kernel_rfl) (fun _ _ _ h => h) (Or.inl ⟨by rfl, ?_⟩) C0 ?_
  rotate_left
  · intro W' hSw
    clear hSw
    go_simp <;> with_reducible rfl
  try simp only [Act.put, List.setIfInBounds_toArray, List.set_cons_zero, List.set_cons_succ]
  refine wpAnyH_take (i := 4) (oi := { dst := some 10, op := Op.load 3 (Operand.tmp 9), type := 3, pos := "ref.go:20", after := #[{ on := 3, ground := Ground.data }], guard := none }) (v := ?_) rfl (by kernel_rfl) (by kernel_rfl) (by kernel_rfl) (fun _ _ _ h => h) (Or.inl ⟨by rfl, ?_⟩) C0 ?_
  rotate_left
  · intro W' hSw
    have k0 := (hSw.cell (p := ⟨w.heap.size, 0, none⟩) hlt).trans c0
    have k1 := (hSw.cell (p := ⟨w.heap.size, 1, none⟩) hlt).trans c1
    have k2 := (hSw.cell (p := ⟨w.heap.size, 2, none⟩) hlt).trans c2
    have k3 := (hSw.cell (p := ⟨w.heap.size, 3, none⟩) hlt).trans c3
    clear hSw
    go_simp <;> with_reducible rfl
  try simp only [Act.put, List.setIfInBounds_toArray, List.set_cons_zero, List.set_cons_succ]
  refine wpAnyH_take (i := 5) (oi := { dst := some 11, op := Op.fieldAddr 26 (Operand.tmp 1) 2, type := 0, pos := "ref.go:20", after := #[], guard := none }) (v := ?_) rfl (by kernel_rfl) (by kernel_rfl) (by kernel_rfl) (fun _ _ _ h => h) (Or.inl ⟨by rfl, ?_⟩) C0 ?_
  rotate_left
  · intro W' hSw
    clear hSw
    go_simp <;> with_reducible rfl
  try simp only [Act.put, List.setIfInBounds_toArray, List.set_cons_zero, List.set_cons_succ]
  refine wpAnyH_take (i := 6) (oi := { dst := some 12, op := Op.load 3 (Operand.tmp 11), type := 3, pos := "ref.go:20", after := #[{ on := 5, ground := Ground.data }], guard := none }) (v := ?_) rfl (by kernel_rfl) (by kernel_rfl) (by kernel_rfl) (fun _ _ _ h => h) (Or.inl ⟨by rfl, ?_⟩) C0 ?_
  rotate_left
  · intro W' hSw
    have k0 := (hSw.cell (p := ⟨w.heap.size, 0, none⟩) hlt).trans c0
    have k1 := (hSw.cell (p := ⟨w.heap.size, 1, none⟩) hlt).trans c1
    have k2 := (hSw.cell (p := ⟨w.heap.size, 2, none⟩) hlt).trans c2
    have k3 := (hSw.cell (p := ⟨w.heap.size, 3, none⟩) hlt).trans c3
    clear hSw
    go_simp <;> with_reducible rfl
  try simp only [Act.put, List.setIfInBounds_toArray, List.set_cons_zero, List.set_cons_succ]
  refine wpAnyH_take (i := 7) (oi := { dst := some 13, op := Op.fieldAddr 26 (Operand.tmp 1) 3, type := 0, pos := "ref.go:20", after := #[], guard := none }) (v := ?_) rfl (by kernel_rfl) (by kernel_rfl) (by kernel_rfl) (fun _ _ _ h => h) (Or.inl ⟨by rfl, ?_⟩) C0 ?_
  rotate_left
  · intro W' hSw
    clear hSw
    go_simp <;> with_reducible rfl
  try simp only [Act.put, List.setIfInBounds_toArray, List.set_cons_zero, List.set_cons_succ]
  refine wpAnyH_take (i := 8) (oi := { dst := some 14, op := Op.load 3 (Operand.tmp 13), type := 3, pos := "ref.go:20", after := #[{ on := 7, ground := Ground.data }], guard := none }) (v := ?_) rfl (by kernel_rfl) (by kernel_rfl) (by kernel_rfl) (fun _ _ _ h => h) (Or.inl ⟨by rfl, ?_⟩) C0 ?_
  rotate_left
  · intro W' hSw
    have k0 := (hSw.cell (p := ⟨w.heap.size, 0, none⟩) hlt).trans c0
    have k1 := (hSw.cell (p := ⟨w.heap.size, 1, none⟩) hlt).trans c1
    have k2 := (hSw.cell (p := ⟨w.heap.size, 2, none⟩) hlt).trans c2
    have k3 := (hSw.cell (p := ⟨w.heap.size, 3, none⟩) hlt).trans c3
    clear hSw
    go_simp <;> with_reducible rfl
  try simp only [Act.put, List.setIfInBounds_toArray, List.set_cons_zero, List.set_cons_succ]
  clear c0 c1 c2 c3
  refine wpAnyH_ready (rs := [0, 9]) (by kernel_rfl) (by simp) ?_
  refine (AllReadyH.cons (o := { dst := some 6, op := Op.call { callee := Callee.value (Operand.func 63), args := #[], argTypes := #[] }, type := 54, pos := "ref.go:20", after := #[], guard := none }) rfl (fun K hK => ?_) (AllReadyH.cons (o := { dst := some 15, op := Op.buildSlice 54 6 #[(0, Operand.const (Value.int IntKind.i64 0)), (1, Operand.tmp 8), (2, Operand.tmp 10), (3, Operand.tmp 12), (4, Operand.tmp 14), (5, Operand.const (Value.int IntKind.i64 0))], type := 54, pos := "ref.go:20", after := #[{ on := 2, ground := Ground.data }, { on := 4, ground := Ground.data }, { on := 6, ground := Ground.data }, { on := 8, ground := Ground.data }], guard := none }) rfl (fun K hK => ?_) AllReadyH.nil))
  · go_simp
    refine (sizes_any _).mono ?_
    rintro _ wl ⟨A8, c8, rfl, hl, hB⟩
    have HL := Lib.hid hl
    clear hl
    go_wp2_with fail
    refine hK.out _ _ (C0.trans (hB.mono C0.size)) (fun C1 => ?_)
    clear hK K hB
    try simp only [Act.put, List.setIfInBounds_toArray, List.set_cons_zero, List.set_cons_succ]
    refine wpAnyH_ready (rs := [9]) (by kernel_rfl) (by simp) ?_
    refine AllReadyH.cons (o := { dst := some 15, op := Op.buildSlice 54 6 #[(0, Operand.const (Value.int IntKind.i64 0)), (1, Operand.tmp 8), (2, Operand.tmp 10), (3, Operand.tmp 12), (4, Operand.tmp 14), (5, Operand.const (Value.int IntKind.i64 0))], type := 54, pos := "ref.go:20", after := #[{ on := 2, ground := Ground.data }, { on := 4, ground := Ground.data }, { on := 6, ground := Ground.data }, { on := 8, ground := Ground.data }], guard := none }) rfl (fun K hK => ?_) AllReadyH.nil
    go_simp
    refine hK.out _ _ (C1.alloc C1.size _) (fun C2 => ?_)
    clear hK K
    try simp only [Act.put, List.setIfInBounds_toArray, List.set_cons_zero, List.set_cons_succ]
    refine wpAnyH_ready (rs := [10]) (by kernel_rfl) (by simp) ?_
    refine AllReadyH.cons (o := { dst := some 16, op := Op.call { callee := Callee.value (Operand.func 62), args := #[Operand.tmp 6, Operand.tmp 15], argTypes := #[54, 54] }, type := 98, pos := "ref.go:20", after := #[{ on := 0, ground := Ground.data }, { on := 9, ground := Ground.data }, { on := 0, ground := Ground.chain }], guard := none }) rfl (fun K hK => ?_) AllReadyH.nil
    go_simp
    have HS9 := Lib.hid (Nat.le_trans B1.out.size C2.size)
    refine (RefPut_owns _ _ 6 _ 6 _ lay [0, k, s, q, e, 0] _ (HL.out.alloc _) (R64.six _ 0 k s q e 0 _ HF.out) (by omega) (by omega)).mono ?_
    rw [putA_yes HC.out, putE_yes HC.out]
    intro _ wp hp
    obtain ⟨A9, c9, rfl, H9, HB9, h9, n9, O9⟩ := hp.at_ HLn.out
    have hB := HB9.out
    clear hp HB9
    go_wp2_with fail
    refine hK.out _ _ (C2.trans (hB.mono C2.size)) (fun C3 => ?_)
    clear hK K hB
    try simp only [Act.put, List.setIfInBounds_toArray, List.set_cons_zero, List.set_cons_succ]
    refine wpAnyH_take (i := 11) (oi := { dst := some 5, op := Op.move (Operand.tmp 16), type := 98, pos := "ref.go:20", after := #[{ on := 10, ground := Ground.data }], guard := none }) (v := ?_) rfl (by kernel_rfl) (by kernel_rfl) (by kernel_rfl) (fun _ _ _ h => h) (Or.inl ⟨by rfl, ?_⟩) C3 ?_
    rotate_left
    · intro W' hSw
      clear hSw
      go_simp <;> with_reducible rfl
    try simp only [Act.put, List.setIfInBounds_toArray, List.set_cons_zero, List.set_cons_succ]
    refine wpAnyH_take (i := 12) (oi := { dst := some 17, op := Op.extract (Operand.tmp 5) 0, type := 24, pos := "ref.go:20", after := #[{ on := 11, ground := Ground.data }], guard := none }) (v := ?_) rfl (by kernel_rfl) (by kernel_rfl) (by kernel_rfl) (fun _ _ _ h => h) (Or.inl ⟨by rfl, ?_⟩) C3 ?_
    rotate_left
    · intro W' hSw
      clear hSw
      go_simp <;> with_reducible rfl
    try simp only [Act.put, List.setIfInBounds_toArray, List.set_cons_zero, List.set_cons_succ]
    refine wpAnyH_take (i := 13) (oi := { dst := some 18, op := Op.extract (Operand.tmp 5) 1, type := 3, pos := "ref.go:20", after := #[{ on := 11, ground := Ground.data }, { on := 14, ground := Ground.gcOnly Departure.lateStores }], guard := none }) (v := ?_) rfl (by kernel_rfl) (by kernel_rfl) (by kernel_rfl) (fun _ _ _ h => h) (Or.inl ⟨by rfl, ?_⟩) C3 ?_
    rotate_left
    · intro W' hSw
      clear hSw
      go_simp <;> with_reducible rfl
    try simp only [Act.put, List.setIfInBounds_toArray, List.set_cons_zero, List.set_cons_succ]
    refine wpAnyH_take (i := 14) (oi := { dst := some 3, op := Op.assign (Operand.tmp 17), type := 24, pos := "ref.go:20", after := #[{ on := 12, ground := Ground.data }, { on := 10, ground := Ground.chain }, { on := 0, ground := Ground.phase }, { on := 1, ground := Ground.phase }, { on := 2, ground := Ground.phase }, { on := 3, ground := Ground.phase }, { on := 4, ground := Ground.phase }, { on := 5, ground := Ground.phase }, { on := 6, ground := Ground.phase }, { on := 7, ground := Ground.phase }, { on := 8, ground := Ground.phase }, { on := 9, ground := Ground.phase }, { on := 10, ground := Ground.phase }, { on := 11, ground := Ground.phase }, { on := 12, ground := Ground.phase }, { on := 13, ground := Ground.textOnly Departure.lateStores }], guard := none }) (v := ?_) rfl (by kernel_rfl) (by kernel_rfl) (by kernel_rfl) (fun _ _ _ h => h) (Or.inl ⟨by rfl, ?_⟩) C3 ?_
    rotate_left
    · intro W' hSw
      clear hSw
      go_simp <;> with_reducible rfl
    try simp only [Act.put, List.setIfInBounds_toArray, List.set_cons_zero, List.set_cons_succ]
    refine wpAnyH_take (i := 15) (oi := { dst := some 4, op := Op.assign (Operand.tmp 18), type := 3, pos := "ref.go:20", after := #[{ on := 13, ground := Ground.data }, { on := 14, ground := Ground.chain }, { on := 0, ground := Ground.phase }, { on := 1, ground := Ground.phase }, { on := 2, ground := Ground.phase }, { on := 3, ground := Ground.phase }, { on := 4, ground := Ground.phase }, { on := 5, ground := Ground.phase }, { on := 6, ground := Ground.phase }, { on := 7, ground := Ground.phase }, { on := 8, ground := Ground.phase }, { on := 9, ground := Ground.phase }, { on := 10, ground := Ground.phase }, { on := 11, ground := Ground.phase }, { on := 12, ground := Ground.phase }, { on := 13, ground := Ground.phase }, { on := 14, ground := Ground.phase }], guard := none }) (v := ?_) rfl (by kernel_rfl) (by kernel_rfl) (by kernel_rfl) (fun _ _ _ h => h) (Or.inl ⟨by rfl, ?_⟩) C3 ?_
    rotate_left
    · intro W' hSw
      clear hSw
      go_simp <;> with_reducible rfl
    try simp only [Act.put, List.setIfInBounds_toArray, List.set_cons_zero, List.set_cons_succ]
    refine wpAnyH_done (by kernel_rfl) ?_ _
    refine NoPanic.normal ?_
    go_wp2
    go_ret
    exact OwnsB.of HLn.out (own_mono O9.out HS9.out) (below_step B1.out C3)
  · go_simp
    refine hK.out _ _ (C0.alloc C0.size _) (fun C1 => ?_)
    clear hK K
    try simp only [Act.put, List.setIfInBounds_toArray, List.set_cons_zero, List.set_cons_succ]
    refine wpAnyH_ready (rs := [0]) (by kernel_rfl) (by simp) ?_
    refine AllReadyH.cons (o := { dst := some 6, op := Op.call { callee := Callee.value (Operand.func 63), args := #[], argTypes := #[] }, type := 54, pos := "ref.go:20", after := #[], guard := none }) rfl (fun K hK => ?_) AllReadyH.nil
    go_simp
    refine (sizes_any _).mono ?_
    rintro _ wl ⟨A8, c8, rfl, hl, hB⟩
    have HL := Lib.hid hl
    clear hl
    have HN := Lib.hid ((R64.six w1 0 k s q e 0 3 HF.out).drew.below hB)
    go_wp2_with fail
    refine hK.out _ _ (C1.trans (hB.mono C1.size)) (fun C2 => ?_)
    clear hK K hB
    try simp only [Act.put, List.setIfInBounds_toArray, List.set_cons_zero, List.set_cons_succ]
    refine wpAnyH_ready (rs := [10]) (by kernel_rfl) (by simp) ?_
    refine AllReadyH.cons (o := { dst := some 16, op := Op.call { callee := Callee.value (Operand.func 62), args := #[Operand.tmp 6, Operand.tmp 15], argTypes := #[54, 54] }, type := 98, pos := "ref.go:20", after := #[{ on := 0, ground := Ground.data }, { on := 9, ground := Ground.data }, { on := 0, ground := Ground.chain }], guard := none }) rfl (fun K hK => ?_) AllReadyH.nil
    go_simp
    have HS9 := Lib.hid (Nat.le_trans B1.out.size C2.size)
    refine (RefPut_owns _ _ 6 _ 6 _ lay [0, k, s, q, e, 0] _ (HL.out) (HN.out) (by omega) (by omega)).mono ?_
    rw [putA_yes HC.out, putE_yes HC.out]
    intro _ wp hp
    obtain ⟨A9, c9, rfl, H9, HB9, h9, n9, O9⟩ := hp.at_ HLn.out
    have hB := HB9.out
    clear hp HB9
    go_wp2_with fail
    refine hK.out _ _ (C2.trans (hB.mono C2.size)) (fun C3 => ?_)
    clear hK K hB
    try simp only [Act.put, List.setIfInBounds_toArray, List.set_cons_zero, List.set_cons_succ]
    refine wpAnyH_take (i := 11) (oi := { dst := some 5, op := Op.move (Operand.tmp 16), type := 98, pos := "ref.go:20", after := #[{ on := 10, ground := Ground.data }], guard := none }) (v := ?_) rfl (by kernel_rfl) (by kernel_rfl) (by kernel_rfl) (fun _ _ _ h => h) (Or.inl ⟨by rfl, ?_⟩) C3 ?_
    rotate_left
    · intro W' hSw
      clear hSw
      go_simp <;> with_reducible rfl
    try simp only [Act.put, List.setIfInBounds_toArray, List.set_cons_zero, List.set_cons_succ]
    refine wpAnyH_take (i := 12) (oi := { dst := some 17, op := Op.extract (Operand.tmp 5) 0, type := 24, pos := "ref.go:20", after := #[{ on := 11, ground := Ground.data }], guard := none }) (v := ?_) rfl (by kernel_rfl) (by kernel_rfl) (by kernel_rfl) (fun _ _ _ h => h) (Or.inl ⟨by rfl, ?_⟩) C3 ?_
    rotate_left
    · intro W' hSw
      clear hSw
      go_simp <;> with_reducible rfl
    try simp only [Act.put, List.setIfInBounds_toArray, List.set_cons_zero, List.set_cons_succ]
    refine wpAnyH_take (i := 13) (oi := { dst := some 18, op := Op.extract (Operand.tmp 5) 1, type := 3, pos := "ref.go:20", after := #[{ on := 11, ground := Ground.data }, { on := 14, ground := Ground.gcOnly Departure.lateStores }], guard := none }) (v := ?_) rfl (by kernel_rfl) (by kernel_rfl) (by kernel_rfl) (fun _ _ _ h => h) (Or.inl ⟨by rfl, ?_⟩) C3 ?_
    rotate_left
    · intro W' hSw
      clear hSw
      go_simp <;> with_reducible rfl
    try simp only [Act.put, List.setIfInBounds_toArray, List.set_cons_zero, List.set_cons_succ]
    refine wpAnyH_take (i := 14) (oi := { dst := some 3, op := Op.assign (Operand.tmp 17), type := 24, pos := "ref.go:20", after := #[{ on := 12, ground := Ground.data }, { on := 10, ground := Ground.chain }, { on := 0, ground := Ground.phase }, { on := 1, ground := Ground.phase }, { on := 2, ground := Ground.phase }, { on := 3, ground := Ground.phase }, { on := 4, ground := Ground.phase }, { on := 5, ground := Ground.phase }, { on := 6, ground := Ground.phase }, { on := 7, ground := Ground.phase }, { on := 8, ground := Ground.phase }, { on := 9, ground := Ground.phase }, { on := 10, ground := Ground.phase }, { on := 11, ground := Ground.phase }, { on := 12, ground := Ground.phase }, { on := 13, ground := Ground.textOnly Departure.lateStores }], guard := none }) (v := ?_) rfl (by kernel_rfl) (by kernel_rfl) (by kernel_rfl) (fun _ _ _ h => h) (Or.inl ⟨by rfl, ?_⟩) C3 ?_
    rotate_left
    · intro W' hSw
      clear hSw
      go_simp <;> with_reducible rfl
    try simp only [Act.put, List.setIfInBounds_toArray, List.set_cons_zero, List.set_cons_succ]
    refine wpAnyH_take (i := 15) (oi := { dst := some 4, op := Op.assign (Operand.tmp 18), type := 3, pos := "ref.go:20", after := #[{ on := 13, ground := Ground.data }, { on := 14, ground := Ground.chain }, { on := 0, ground := Ground.phase }, { on := 1, ground := Ground.phase }, { on := 2, ground := Ground.phase }, { on := 3, ground := Ground.phase }, { on := 4, ground := Ground.phase }, { on := 5, ground := Ground.phase }, { on := 6, ground := Ground.phase }, { on := 7, ground := Ground.phase }, { on := 8, ground := Ground.phase }, { on := 9, ground := Ground.phase }, { on := 10, ground := Ground.phase }, { on := 11, ground := Ground.phase }, { on := 12, ground := Ground.phase }, { on := 13, ground := Ground.phase }, { on := 14, ground := Ground.phase }], guard := none }) (v := ?_) rfl (by kernel_rfl) (by kernel_rfl) (by kernel_rfl) (fun _ _ _ h => h) (Or.inl ⟨by rfl, ?_⟩) C3 ?_
    rotate_left
    · intro W' hSw
      clear hSw
      go_simp <;> with_reducible rfl
    try simp only [Act.put, List.setIfInBounds_toArray, List.set_cons_zero, List.set_cons_succ]
    refine wpAnyH_done (by kernel_rfl) ?_ _
    refine NoPanic.normal ?_
    go_wp2
    go_ret
    exact OwnsB.of HLn.out (own_mono O9.out HS9.out) (below_step B1.out C3)
theorem RefTagPut_any (t : Tg) (h : t.ok = true) (w : World) : Calls Try.prog 35 #[t.val] w (MakesB t.bytes w) := (RefTagPut_owns t h w).mono fun _ _ ⟨A, c, he, ho, hb⟩ => ⟨A, c, he, R8.own ho t.bytes_lt, hb⟩
end Go.Proofs.Ytjahbpmkkfdimaa
