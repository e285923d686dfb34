/-
  The walk of the law ChoiceSame over the landed code, out of its callees' contracts.
-/
import Derived.Test.YtodljocbimgeoaaChTurns
import Derived.Test.YtodljocbimgeoaaInts
namespace Go.Proofs.Ytodljocbimgeoaa
open Go.RowKit
set_option maxRecDepth 100000

theorem hits_succ (l : List Int) (n : Nat) : hits l (n + 1) = hits l n + if (n : Int) ∈ l then 1 else 0 := rfl
theorem Tel.lo_le {w : World} {p lo hi : Nat} {s : Sc} {bz wk : Int} (h : Tel w p lo hi s bz wk) : lo ≤ p ∧ p < hi := ⟨h.1, h.2.1⟩

set_option maxHeartbeats 16000000 in
theorem ChoiceSame_walk (m : Sa) (s : Sc) (n : Nat) (w : World) (h : SIn w m s) (hn : n < 256) : Calls Try.prog 3 #[m.val s, .int .u8 (n : Int)] w (Gives (.bool true) w) := by
  have HI := Lib.hid h
  clear h
  simp only [Sa.val]
  have S0 := Lib.hid (CRow.new w (m.cells s) 26)
  have B0 := Lib.hid (below_new w (.cells (m.cells s) 26))
  unfold Sa.cells at *
  go_enter Try.func3, Try.ntmps3
  go_wp2_with fail
  refine (awake12_any _).mono ?_
  rintro _ w1 ⟨rfl, h1⟩
  have B1 := Lib.hid (below_step B0.out h1)
  have S1 := Lib.hid (S0.out.below h1)
  have I1 := Lib.hid (HI.out.below B1.out)
  clear h1 B0 S0
  go_wp2_with fail
  refine (Done_nil _).mono ?_
  rintro _ w2 ⟨rfl, h2⟩
  have B2 := Lib.hid (below_step B1.out h2)
  have S2 := Lib.hid (S1.out.below h2)
  have I2 := Lib.hid (I1.out.below h2)
  clear h2 B1 S1 I1
  go_wp2_with fail
  refine (Busy_nil _).mono ?_
  rintro _ w3 ⟨rfl, h3⟩
  have B3 := Lib.hid (below_step B2.out h3)
  have S3 := Lib.hid (S2.out.below h3)
  have I3 := Lib.hid (I2.out.below h3)
  clear h3 B2 S2 I2
  go_wp2_with fail
  refine (Fails_nil _).mono ?_
  rintro _ w4 ⟨rfl, h4⟩
  have B4 := Lib.hid (below_step B3.out h4)
  have S4 := Lib.hid (S3.out.below h4)
  have I4 := Lib.hid (I3.out.below h4)
  clear h4 B3 S3 I3
  go_wp2_with fail
  refine (Turns_nil 0 0 _).mono ?_
  rintro _ w5 ⟨rfl, h5⟩
  have B5 := Lib.hid (below_step B4.out h5)
  have S5 := Lib.hid (S4.out.below h5)
  have I5 := Lib.hid (I4.out.below h5)
  clear h5 B4 S4 I4
  go_wp2_with fail
  refine (Torn_nil 5 _).mono ?_
  rintro _ w6 ⟨rfl, h6⟩
  have B6 := Lib.hid (below_step B5.out h6)
  have S6 := Lib.hid (S5.out.below h6)
  have I6 := Lib.hid (I5.out.below h6)
  clear h6 B5 S5 I5
  have y0 := S6.out.cell_at 0 (.slice m.a1 s.busy.length m.c1) rfl
  have y1 := S6.out.cell_at 1 (.slice m.a2 s.fails.length m.c2) rfl
  have y2 := S6.out.cell_at 2 (.slice m.a3 s.turns.length m.c3) rfl
  have y3 := S6.out.cell_at 3 (.int .i64 s.cut) rfl
  have y4 := S6.out.cell_at 4 (.slice m.a4 s.torn.length m.c4) rfl
  have y5 := S6.out.cell_at 5 (.slice m.a5 s.marked.length m.c5) rfl
  go_wp2_with fail
  refine (Few12 m s _).mono ?_
  rintro _ w7 ⟨v, rfl, hv, h7⟩
  have B7 := Lib.hid (below_step B6.out h7)
  have SB := Lib.hid (S6.out.below h7)
  have IW := Lib.hid (I6.out.below h7)
  clear h7 B6 S6 I6 y0 y1 y2 y3 y4 y5
  cases v
  · clear hv SB IW
    go_wp2
    go_ret
    exact ⟨rfl, B7.out⟩
  have HF := Lib.hid (hv.1 rfl)
  clear hv
  go_wp2
  by_cases hok : s.ok
  · have HOK := Lib.hid hok
    clear hok
    refine wp_region_noPanic ?_
    refine wp_region_held_drew (S := fun w' => Below w7.heap.size w7 w') (by kernel_rfl) ((Below.refl _ _).drew) (fun C0 => ?_)
    refine wpAnyH_take (i := 1) (oi := { dst := some 56, op := Op.load 26 (Operand.tmp 2), type := 26, pos := "law.go:94", after := #[], guard := none }) (v := ?_) rfl (by kernel_rfl) (by kernel_rfl) (by kernel_rfl) (fun _ _ _ h => h) (Or.inl ⟨by rfl, ?_⟩) C0 ?_
    rotate_left
    · intro W' hSw
      have y0 := (SB.out.below hSw).cell_at 0 (.slice m.a1 s.busy.length m.c1) rfl
      have y1 := (SB.out.below hSw).cell_at 1 (.slice m.a2 s.fails.length m.c2) rfl
      have y2 := (SB.out.below hSw).cell_at 2 (.slice m.a3 s.turns.length m.c3) rfl
      have y3 := (SB.out.below hSw).cell_at 3 (.int .i64 s.cut) rfl
      have y4 := (SB.out.below hSw).cell_at 4 (.slice m.a4 s.torn.length m.c4) rfl
      have y5 := (SB.out.below hSw).cell_at 5 (.slice m.a5 s.marked.length m.c5) rfl
      clear hSw
      go_simp <;> with_reducible rfl
    try simp only [Act.put, List.setIfInBounds_toArray, List.set_cons_zero, List.set_cons_succ]
    refine wpAnyH_ready (rs := [0]) (by kernel_rfl) (by simp) ?_
    refine AllReadyH.cons (o := { dst := some 55, op := Op.call { callee := Callee.value (Operand.func 13), args := #[], argTypes := #[] }, type := 39, pos := "law.go:94", after := #[], guard := none }) rfl (fun K hK => ?_) AllReadyH.nil
    go_simp
    refine (plain12_any _).mono ?_
    rintro _ vA1 ⟨rfl, hB⟩
    go_wp2_with fail
    refine hK.out _ _ (C0.trans (hB.mono C0.size)) (fun C1 => ?_)
    clear hK K hB
    try simp only [Act.put, List.setIfInBounds_toArray, List.set_cons_zero, List.set_cons_succ]
    refine wpAnyH_ready (rs := [2]) (by kernel_rfl) (by simp) ?_
    refine AllReadyH.cons (o := { dst := some 57, op := Op.call { callee := Callee.value (Operand.func 12), args := #[Operand.tmp 55, Operand.tmp 56], argTypes := #[39, 26] }, type := 36, pos := "law.go:94", after := #[{ on := 0, ground := Ground.data }, { on := 1, ground := Ground.data }, { on := 0, ground := Ground.chain }], guard := none }) rfl (fun K hK => ?_) AllReadyH.nil
    go_simp
    refine (New_yes m s _ (IW.out.below ((C1))) HF.out.short HOK.out).mono ?_
    rintro _ vA2 ⟨pA, rfl, hB, ht⟩
    have TA := Lib.hid ht
    have LA := Lib.hid (C1.size)
    clear ht
    go_wp2_with fail
    refine hK.out _ _ (C1.trans (hB.mono C1.size)) (fun C2 => ?_)
    have QA := Lib.hid C2
    clear hB
    clear hK K
    try simp only [Act.put, List.setIfInBounds_toArray, List.set_cons_zero, List.set_cons_succ]
    refine wpAnyH_take (i := 3) (oi := { dst := some 54, op := Op.move (Operand.tmp 57), type := 36, pos := "law.go:94", after := #[{ on := 2, ground := Ground.data }], guard := none }) (v := ?_) rfl (by kernel_rfl) (by kernel_rfl) (by kernel_rfl) (fun _ _ _ h => h) (Or.inl ⟨by rfl, ?_⟩) C2 ?_
    rotate_left
    · intro W' hSw
      clear hSw
      go_simp <;> with_reducible rfl
    try simp only [Act.put, List.setIfInBounds_toArray, List.set_cons_zero, List.set_cons_succ]
    refine wpAnyH_take (i := 4) (oi := { dst := some 58, op := Op.extract (Operand.tmp 54) 0, type := 28, pos := "law.go:94", after := #[{ on := 3, ground := Ground.data }], guard := none }) (v := ?_) rfl (by kernel_rfl) (by kernel_rfl) (by kernel_rfl) (fun _ _ _ h => h) (Or.inl ⟨by rfl, ?_⟩) C2 ?_
    rotate_left
    · intro W' hSw
      clear hSw
      go_simp <;> with_reducible rfl
    try simp only [Act.put, List.setIfInBounds_toArray, List.set_cons_zero, List.set_cons_succ]
    refine wpAnyH_take (i := 5) (oi := { dst := some 59, op := Op.extract (Operand.tmp 54) 1, type := 35, pos := "law.go:94", after := #[{ on := 3, ground := Ground.data }, { on := 6, ground := Ground.gcOnly Departure.lateStores }], guard := none }) (v := ?_) rfl (by kernel_rfl) (by kernel_rfl) (by kernel_rfl) (fun _ _ _ h => h) (Or.inl ⟨by rfl, ?_⟩) C2 ?_
    rotate_left
    · intro W' hSw
      clear hSw
      go_simp <;> with_reducible rfl
    try simp only [Act.put, List.setIfInBounds_toArray, List.set_cons_zero, List.set_cons_succ]
    refine wpAnyH_take (i := 6) (oi := { dst := some 8, op := Op.assign (Operand.tmp 58), type := 28, pos := "law.go:94", after := #[{ on := 4, ground := Ground.data }, { on := 2, ground := Ground.chain }, { on := 0, ground := Ground.phase }, { on := 1, ground := Ground.phase }, { on := 2, ground := Ground.phase }, { on := 3, ground := Ground.phase }, { on := 4, ground := Ground.phase }, { on := 5, ground := Ground.textOnly Departure.lateStores }], guard := none }) (v := ?_) rfl (by kernel_rfl) (by kernel_rfl) (by kernel_rfl) (fun _ _ _ h => h) (Or.inl ⟨by rfl, ?_⟩) C2 ?_
    rotate_left
    · intro W' hSw
      clear hSw
      go_simp <;> with_reducible rfl
    try simp only [Act.put, List.setIfInBounds_toArray, List.set_cons_zero, List.set_cons_succ]
    refine wpAnyH_take (i := 7) (oi := { dst := some 9, op := Op.assign (Operand.tmp 59), type := 35, pos := "law.go:94", after := #[{ on := 5, ground := Ground.data }, { on := 6, ground := Ground.chain }, { on := 0, ground := Ground.phase }, { on := 1, ground := Ground.phase }, { on := 2, ground := Ground.phase }, { on := 3, ground := Ground.phase }, { on := 4, ground := Ground.phase }, { on := 5, ground := Ground.phase }, { on := 6, ground := Ground.phase }], guard := none }) (v := ?_) rfl (by kernel_rfl) (by kernel_rfl) (by kernel_rfl) (fun _ _ _ h => h) (Or.inl ⟨by rfl, ?_⟩) C2 ?_
    rotate_left
    · intro W' hSw
      clear hSw
      go_simp <;> with_reducible rfl
    try simp only [Act.put, List.setIfInBounds_toArray, List.set_cons_zero, List.set_cons_succ]
    refine wpAnyH_done (by kernel_rfl) ?_ _
    refine NoPanic.normal ?_
    have SB2 := Lib.hid (SB.out.below QA.out)
    have IW2 := Lib.hid (IW.out.below QA.out)
    have BA := Lib.hid (B7.out.trans (QA.out.mono B7.out.size))
    have LLA := Lib.hid (Nat.lt_of_lt_of_le SB.out.lt LA.out)
    clear C0 C1 C2 SB IW B7 QA LA
    go_wp2
    refine wp_region_noPanic ?_
    refine wp_region_held_drew (S := fun w' => Below vA2.heap.size vA2 w') (by kernel_rfl) ((Below.refl _ _).drew) (fun C0 => ?_)
    refine wpAnyH_take (i := 1) (oi := { dst := some 62, op := Op.load 26 (Operand.tmp 2), type := 26, pos := "law.go:95", after := #[], guard := none }) (v := ?_) rfl (by kernel_rfl) (by kernel_rfl) (by kernel_rfl) (fun _ _ _ h => h) (Or.inl ⟨by rfl, ?_⟩) C0 ?_
    rotate_left
    · intro W' hSw
      have y0 := (SB2.out.below hSw).cell_at 0 (.slice m.a1 s.busy.length m.c1) rfl
      have y1 := (SB2.out.below hSw).cell_at 1 (.slice m.a2 s.fails.length m.c2) rfl
      have y2 := (SB2.out.below hSw).cell_at 2 (.slice m.a3 s.turns.length m.c3) rfl
      have y3 := (SB2.out.below hSw).cell_at 3 (.int .i64 s.cut) rfl
      have y4 := (SB2.out.below hSw).cell_at 4 (.slice m.a4 s.torn.length m.c4) rfl
      have y5 := (SB2.out.below hSw).cell_at 5 (.slice m.a5 s.marked.length m.c5) rfl
      clear hSw
      go_simp <;> with_reducible rfl
    try simp only [Act.put, List.setIfInBounds_toArray, List.set_cons_zero, List.set_cons_succ]
    refine wpAnyH_ready (rs := [0]) (by kernel_rfl) (by simp) ?_
    refine AllReadyH.cons (o := { dst := some 61, op := Op.call { callee := Callee.value (Operand.func 13), args := #[], argTypes := #[] }, type := 39, pos := "law.go:95", after := #[], guard := none }) rfl (fun K hK => ?_) AllReadyH.nil
    go_simp
    refine (plain12_any _).mono ?_
    rintro _ vB1 ⟨rfl, hB⟩
    go_wp2_with fail
    refine hK.out _ _ (C0.trans (hB.mono C0.size)) (fun C1 => ?_)
    clear hK K hB
    try simp only [Act.put, List.setIfInBounds_toArray, List.set_cons_zero, List.set_cons_succ]
    refine wpAnyH_ready (rs := [2]) (by kernel_rfl) (by simp) ?_
    refine AllReadyH.cons (o := { dst := some 63, op := Op.call { callee := Callee.value (Operand.func 12), args := #[Operand.tmp 61, Operand.tmp 62], argTypes := #[39, 26] }, type := 36, pos := "law.go:95", after := #[{ on := 0, ground := Ground.data }, { on := 1, ground := Ground.data }, { on := 0, ground := Ground.chain }], guard := none }) rfl (fun K hK => ?_) AllReadyH.nil
    go_simp
    refine (New_yes m s _ (IW2.out.below ((C1))) HF.out.short HOK.out).mono ?_
    rintro _ vB2 ⟨pB, rfl, hB, ht⟩
    have TB := Lib.hid ht
    have LB := Lib.hid (C1.size)
    clear ht
    go_wp2_with fail
    refine hK.out _ _ (C1.trans (hB.mono C1.size)) (fun C2 => ?_)
    have QB := Lib.hid C2
    clear hB
    clear hK K
    try simp only [Act.put, List.setIfInBounds_toArray, List.set_cons_zero, List.set_cons_succ]
    refine wpAnyH_take (i := 3) (oi := { dst := some 60, op := Op.move (Operand.tmp 63), type := 36, pos := "law.go:95", after := #[{ on := 2, ground := Ground.data }], guard := none }) (v := ?_) rfl (by kernel_rfl) (by kernel_rfl) (by kernel_rfl) (fun _ _ _ h => h) (Or.inl ⟨by rfl, ?_⟩) C2 ?_
    rotate_left
    · intro W' hSw
      clear hSw
      go_simp <;> with_reducible rfl
    try simp only [Act.put, List.setIfInBounds_toArray, List.set_cons_zero, List.set_cons_succ]
    refine wpAnyH_take (i := 4) (oi := { dst := some 64, op := Op.extract (Operand.tmp 60) 0, type := 28, pos := "law.go:95", after := #[{ on := 3, ground := Ground.data }], guard := none }) (v := ?_) rfl (by kernel_rfl) (by kernel_rfl) (by kernel_rfl) (fun _ _ _ h => h) (Or.inl ⟨by rfl, ?_⟩) C2 ?_
    rotate_left
    · intro W' hSw
      clear hSw
      go_simp <;> with_reducible rfl
    try simp only [Act.put, List.setIfInBounds_toArray, List.set_cons_zero, List.set_cons_succ]
    refine wpAnyH_take (i := 5) (oi := { dst := some 65, op := Op.extract (Operand.tmp 60) 1, type := 35, pos := "law.go:95", after := #[{ on := 3, ground := Ground.data }, { on := 6, ground := Ground.gcOnly Departure.lateStores }], guard := none }) (v := ?_) rfl (by kernel_rfl) (by kernel_rfl) (by kernel_rfl) (fun _ _ _ h => h) (Or.inl ⟨by rfl, ?_⟩) C2 ?_
    rotate_left
    · intro W' hSw
      clear hSw
      go_simp <;> with_reducible rfl
    try simp only [Act.put, List.setIfInBounds_toArray, List.set_cons_zero, List.set_cons_succ]
    refine wpAnyH_take (i := 6) (oi := { dst := some 10, op := Op.assign (Operand.tmp 64), type := 28, pos := "law.go:95", after := #[{ on := 4, ground := Ground.data }, { on := 2, ground := Ground.chain }, { on := 0, ground := Ground.phase }, { on := 1, ground := Ground.phase }, { on := 2, ground := Ground.phase }, { on := 3, ground := Ground.phase }, { on := 4, ground := Ground.phase }, { on := 5, ground := Ground.textOnly Departure.lateStores }], guard := none }) (v := ?_) rfl (by kernel_rfl) (by kernel_rfl) (by kernel_rfl) (fun _ _ _ h => h) (Or.inl ⟨by rfl, ?_⟩) C2 ?_
    rotate_left
    · intro W' hSw
      clear hSw
      go_simp <;> with_reducible rfl
    try simp only [Act.put, List.setIfInBounds_toArray, List.set_cons_zero, List.set_cons_succ]
    refine wpAnyH_take (i := 7) (oi := { dst := some 11, op := Op.assign (Operand.tmp 65), type := 35, pos := "law.go:95", after := #[{ on := 5, ground := Ground.data }, { on := 6, ground := Ground.chain }, { on := 0, ground := Ground.phase }, { on := 1, ground := Ground.phase }, { on := 2, ground := Ground.phase }, { on := 3, ground := Ground.phase }, { on := 4, ground := Ground.phase }, { on := 5, ground := Ground.phase }, { on := 6, ground := Ground.phase }], guard := none }) (v := ?_) rfl (by kernel_rfl) (by kernel_rfl) (by kernel_rfl) (fun _ _ _ h => h) (Or.inl ⟨by rfl, ?_⟩) C2 ?_
    rotate_left
    · intro W' hSw
      clear hSw
      go_simp <;> with_reducible rfl
    try simp only [Act.put, List.setIfInBounds_toArray, List.set_cons_zero, List.set_cons_succ]
    refine wpAnyH_done (by kernel_rfl) ?_ _
    refine NoPanic.normal ?_
    have SB3 := Lib.hid (SB2.out.below QB.out)
    have IW3 := Lib.hid (IW2.out.below QB.out)
    have BB := Lib.hid (BA.out.trans (QB.out.mono BA.out.size))
    have TA2 := Lib.hid (TA.out.below QB.out)
    have LLB := LB.out
    clear C0 C1 C2 SB2 IW2 BA QB LB TA
    have HTN := Lib.hid IW3.out.torn.2
    have GA := Lib.hid TA2.out.lo_le
    have GB := Lib.hid TB.out.lo_le
    have HHA := Lib.hid TA2.out.2.2.1
    generalize hAl : vA1.heap.size = loA at *
    generalize hAh : vA2.heap.size = hiA at *
    generalize hBl : vB1.heap.size = loB at *
    have HGA := Lib.hid (show w.heap.size < pA from Nat.lt_of_lt_of_le LLA.out GA.out.1)
    have HGB := Lib.hid (show w.heap.size < pB from Nat.lt_trans HGA.out (Nat.lt_of_lt_of_le (Nat.lt_of_lt_of_le GA.out.2 LLB) GB.out.1))
    have HAB := Lib.hid (show pA < loB from Nat.lt_of_lt_of_le GA.out.2 LLB)
    have HBA := Lib.hid (show hiA ≤ pB from Nat.le_trans LLB GB.out.1)
    have hA0 : hits s.fails 0 = 0 := rfl
    generalize hBh : vB2.heap.size = hiB at TB GB
    clear hAl hAh hBl hBh LLB LLA GA GB HHA
    have hnn : (n : Int) ≤ 255 := by omega
    go_wp2
    go_loopw [12, 85] (fun c i wr => ∃ k : Nat, k ≤ n ∧ i = .int .i64 (k : Int) ∧ c = .int .i64 (hits s.fails k : Int) ∧ Hid (Tel wr pA loA hiA s k k) ∧ Hid (Tel wr pB loB hiB s k k) ∧ Hid (Below w.heap.size w wr) ∧ Hid (CRow wr w.heap.size 26 #[.slice m.a1 s.busy.length m.c1, .slice m.a2 s.fails.length m.c2, .slice m.a3 s.turns.length m.c3, .int .i64 s.cut, .slice m.a4 s.torn.length m.c4, .slice m.a5 s.marked.length m.c5])) (fun c i _ => n - (intOf i).toNat)
    case atStart => exact ⟨0, Nat.zero_le _, rfl, rfl, TA2, TB, BB, SB3⟩
    case round =>
      clear TA2 TB BB SB3 IW3
      obtain ⟨k, hk, rfl, rfl, TA, TB, BB, SB⟩ := hrel
      rename World => wr
      by_cases hkn : k < n
      · skip
        have TA0 := TA
        have TB0 := TB
        have BB0 := BB
        have SB0 := SB
        clear TA TB BB SB
        have hh := hits_le s.fails k
        go_wp2_with fail
        refine (Busy_any pA loA hiA s k k _ TA0.out HF.out.short HOK.out (by omega)).mono ?_
        rintro _ u1 ⟨rfl, g, t⟩
        have TA1 := Lib.hid t
        have TB1 := Lib.hid (TB0.out.btw g (fun j hj => .inl (hj ▸ HAB.out)))
        have BB1 := Lib.hid (BB0.out.trans (g.below (fun j hj => hj ▸ Nat.le_of_lt HGA.out) BB0.out.size))
        have SB1 := Lib.hid (SB0.out.btw g (fun e => by have := HGA.out; omega))
        clear g t TA0 TB0 BB0 SB0
        obtain ⟨xk, hxk⟩ : ∃ xk, s.busy.getD k 0 = xk := ⟨_, rfl⟩
        have HX := Lib.hid hxk
        rw [hxk]
        clear hxk
        go_wp2_with fail
        refine (Fails_any pA loA hiA s ((k : Int) + 1) k _ TA1.out HF.out.short HOK.out (by omega)).mono ?_
        rintro _ u2 ⟨rfl, g, t⟩
        have TA2 := Lib.hid t
        have TB2 := Lib.hid (TB1.out.btw g (fun j hj => .inl (hj ▸ HAB.out)))
        have BB2 := Lib.hid (BB1.out.trans (g.below (fun j hj => hj ▸ Nat.le_of_lt HGA.out) BB1.out.size))
        have SB2 := Lib.hid (SB1.out.btw g (fun e => by have := HGA.out; omega))
        clear g t TA1 TB1 BB1 SB1
        obtain ⟨y, hy⟩ : ∃ y : Bool, decide ((k : Int) ∈ s.fails) = y := ⟨_, rfl⟩
        have HY := Lib.hid hy
        rw [hy]
        clear hy
        go_wp2_with fail
        refine (Busy_any pB loB hiB s k k _ TB2.out HF.out.short HOK.out (by omega)).mono ?_
        rintro _ u3 ⟨rfl, g, t⟩
        rw [HX.out]
        have TB3 := Lib.hid t
        have TA3 := Lib.hid (TA2.out.btw g (fun j hj => .inr (hj ▸ HBA.out)))
        have BB3 := Lib.hid (BB2.out.trans (g.below (fun j hj => hj ▸ Nat.le_of_lt HGB.out) BB2.out.size))
        have SB3 := Lib.hid (SB2.out.btw g (fun e => by have := HGB.out; omega))
        clear g t TA2 TB2 BB2 SB2
        go_wp2_with fail
        refine (Fails_any pB loB hiB s ((k : Int) + 1) k _ TB3.out HF.out.short HOK.out (by omega)).mono ?_
        rintro _ u4 ⟨rfl, g, t⟩
        rw [HY.out]
        have TB4 := Lib.hid t
        have TA4 := Lib.hid (TA3.out.btw g (fun j hj => .inr (hj ▸ HBA.out)))
        have BB4 := Lib.hid (BB3.out.trans (g.below (fun j hj => hj ▸ Nat.le_of_lt HGB.out) BB3.out.size))
        have SB4 := Lib.hid (SB3.out.btw g (fun e => by have := HGB.out; omega))
        clear g t TA3 TB3 BB3 SB3
        have hm1 : in64 ((k : Int) % 16) := by unfold in64; omega
        have hm2 : in64 ((k : Int) % 2) := by unfold in64; omega
        go_wp2_with fail
        refine (Turns_any pA loA hiA s _ _ ((k : Int) % 16) ((k : Int) % 2) _ TA4.out HF.out.short HOK.out hm1 hm2).mono ?_
        rintro _ u5 ⟨E1, d1, rfl, ho, h⟩
        have TA5 := Lib.hid (TA4.out.below h)
        have TB5 := Lib.hid (TB4.out.below h)
        have BB5 := Lib.hid (BB4.out.trans (h.mono BB4.out.size))
        have SB5 := Lib.hid (SB4.out.below h)
        have RA := Lib.hid (R64.own ho (fun x hx => by have := HOK.out.turns.all _ (grp_mem hx); unfold Tn.ok at this; simp only at this; omega))
        clear ho
        clear h TA4 TB4 BB4 SB4
        go_wp2_with fail
        refine (Turns_any pB loB hiB s _ _ ((k : Int) % 16) ((k : Int) % 2) _ TB5.out HF.out.short HOK.out hm1 hm2).mono ?_
        rintro _ u6 ⟨E2, d2, rfl, ho, h⟩
        have TA6 := Lib.hid (TA5.out.below h)
        have TB6 := Lib.hid (TB5.out.below h)
        have BB6 := Lib.hid (BB5.out.trans (h.mono BB5.out.size))
        have SB6 := Lib.hid (SB5.out.below h)
        have RB := Lib.hid (R64.own ho (fun x hx => by have := HOK.out.turns.all _ (grp_mem hx); unfold Tn.ok at this; simp only at this; omega))
        have RA2 := Lib.hid (RA.out.below h)
        clear ho RA
        clear h TA5 TB5 BB5 SB5
        have hgl := Nat.le_trans (grp_len s.turns ((k : Int) % 16, (k : Int) % 2)) HF.out.turns
        go_wp2_with fail
        refine (Ints_any E1 E2 _ d1 _ d2 _ _ _ RA2.out RB.out (by omega) (by omega)).mono ?_
        intro e u7 hq
        obtain ⟨rfl, hB⟩ := hq.at_
        have h := hB.out
        rw [decide_eq_true rfl]
        have TA7 := Lib.hid (TA6.out.below h)
        have TB7 := Lib.hid (TB6.out.below h)
        have BB7 := Lib.hid (BB6.out.trans (h.mono BB6.out.size))
        have SB7 := Lib.hid (SB6.out.below h)
        clear hq hB RA2 RB hgl hm1 hm2
        clear h TA6 TB6 BB6 SB6
        go_wp2_with fail
        refine (Torn_any pA loA hiA s _ _ k _ TA7.out HF.out.short HTN.out (by omega)).mono ?_
        rintro _ u8 ⟨E3, d3, rfl, ho, h⟩
        have TA8 := Lib.hid (TA7.out.below h)
        have TB8 := Lib.hid (TB7.out.below h)
        have BB8 := Lib.hid (BB7.out.trans (h.mono BB7.out.size))
        have SB8 := Lib.hid (SB7.out.below h)
        have RA := Lib.hid ho
        clear ho
        clear h TA7 TB7 BB7 SB7
        go_wp2_with fail
        refine (Torn_any pB loB hiB s _ _ k _ TB8.out HF.out.short HTN.out (by omega)).mono ?_
        rintro _ u9 ⟨E4, d4, rfl, ho, h⟩
        have TA9 := Lib.hid (TA8.out.below h)
        have TB9 := Lib.hid (TB8.out.below h)
        have BB9 := Lib.hid (BB8.out.trans (h.mono BB8.out.size))
        have SB9 := Lib.hid (SB8.out.below h)
        have RB := Lib.hid ho
        have RA2 := Lib.hid (RA.out.below h)
        clear ho RA
        clear h TA8 TB8 BB8 SB8
        go_wp2_with fail
        refine (Same_any E3 E4 _ d3 _ d4 _ _ _ RA2.out RB.out (by rw [tornL_len]; omega) (by rw [tornL_len]; omega)).mono ?_
        intro e u10 hq
        obtain ⟨rfl, hB⟩ := hq.at_
        have h := hB.out
        rw [decide_eq_true rfl]
        have TA10 := Lib.hid (TA9.out.below h)
        have TB10 := Lib.hid (TB9.out.below h)
        have BB10 := Lib.hid (BB9.out.trans (h.mono BB9.out.size))
        have SB10 := Lib.hid (SB9.out.below h)
        clear hq hB RA2 RB
        clear h TA9 TB9 BB9 SB9
        have HS := Lib.hid (show hits s.fails (k + 1) = hits s.fails k + if y = true then 1 else 0 by
          rw [hits_succ, ← HY.out]
          simp only [decide_eq_true_eq])
        clear HY HX
        cases y
        · go_wp2
          go_roundw
          case rel => exact ⟨k + 1, by omega, by go_num, by rw [HS.out]; rfl, TA10, TB10, BB10, SB10⟩
          case measure => simp [intOf]; omega
        · go_wp2
          go_roundw
          case rel => exact ⟨k + 1, by omega, by go_num, by rw [HS.out]; go_num, TA10, TB10, BB10, SB10⟩
          case measure => simp [intOf]; omega
      · obtain rfl : k = n := by omega
        have y1 := SB.out.cell_at 1 _ rfl
        have IW := Lib.hid (HI.out.below BB.out)
        clear TA TB
        go_wp2
        clear y1
        go_loopw [13, 135] (fun c i wq => ∃ q : Nat, q ≤ s.fails.length ∧ i = .int .i64 (q : Int) ∧ c = .int .i64 (under s.fails k q : Int) ∧ Hid (Below wr.heap.size wr wq)) (fun c i _ => s.fails.length - (intOf i).toNat)
        case atStart => exact ⟨0, Nat.zero_le _, rfl, rfl, Below.refl _ _⟩
        case round =>
          obtain ⟨q, hq, rfl, rfl, HB⟩ := hrel
          rename World => wq
          have hql := under_le s.fails k q
          have hfl := HF.out.fails
          by_cases hqn : q < s.fails.length
          · obtain ⟨b0, off, x, ha2, hb0, HX, hx1, hx2, hx3⟩ := (IW.out.fails.below HB.out).at_ hqn
            have hst := under_step (n := (k : Int)) HX.out
            clear HX
            rw [ha2]
            by_cases hxk : x < (k : Int)
            · rw [if_pos hxk] at hst
              have HS := Lib.hid hst
              clear hst
              go_wp2
              go_roundw
              case rel => exact ⟨q + 1, by omega, by go_num, by rw [HS.out]; go_num, HB⟩
              case measure => simp [intOf]; omega
            · rw [if_neg hxk] at hst
              have HS := Lib.hid hst
              clear hst
              go_wp2
              go_roundw
              case rel => exact ⟨q + 1, by omega, by go_num, by rw [HS.out]; rfl, HB⟩
              case measure => simp [intOf]; omega
          · obtain rfl : q = s.fails.length := by omega
            have hfin := hits_under HOK.out.fails.nonneg HOK.out.fails.nodup k
            rw [hfin]
            go_wp2
            go_ret
            exact ⟨rfl, BB.out.trans (HB.out.mono BB.out.size)⟩
  · have HOK := Lib.hid hok
    clear hok
    refine wp_region_noPanic ?_
    refine wp_region_held_drew (S := fun w' => Below w7.heap.size w7 w') (by kernel_rfl) ((Below.refl _ _).drew) (fun C0 => ?_)
    refine wpAnyH_take (i := 1) (oi := { dst := some 56, op := Op.load 26 (Operand.tmp 2), type := 26, pos := "law.go:94", after := #[], guard := none }) (v := ?_) rfl (by kernel_rfl) (by kernel_rfl) (by kernel_rfl) (fun _ _ _ h => h) (Or.inl ⟨by rfl, ?_⟩) C0 ?_
    rotate_left
    · intro W' hSw
      have y0 := (SB.out.below hSw).cell_at 0 (.slice m.a1 s.busy.length m.c1) rfl
      have y1 := (SB.out.below hSw).cell_at 1 (.slice m.a2 s.fails.length m.c2) rfl
      have y2 := (SB.out.below hSw).cell_at 2 (.slice m.a3 s.turns.length m.c3) rfl
      have y3 := (SB.out.below hSw).cell_at 3 (.int .i64 s.cut) rfl
      have y4 := (SB.out.below hSw).cell_at 4 (.slice m.a4 s.torn.length m.c4) rfl
      have y5 := (SB.out.below hSw).cell_at 5 (.slice m.a5 s.marked.length m.c5) rfl
      clear hSw
      go_simp <;> with_reducible rfl
    try simp only [Act.put, List.setIfInBounds_toArray, List.set_cons_zero, List.set_cons_succ]
    refine wpAnyH_ready (rs := [0]) (by kernel_rfl) (by simp) ?_
    refine AllReadyH.cons (o := { dst := some 55, op := Op.call { callee := Callee.value (Operand.func 13), args := #[], argTypes := #[] }, type := 39, pos := "law.go:94", after := #[], guard := none }) rfl (fun K hK => ?_) AllReadyH.nil
    go_simp
    refine (plain12_any _).mono ?_
    rintro _ vA1 ⟨rfl, hB⟩
    go_wp2_with fail
    refine hK.out _ _ (C0.trans (hB.mono C0.size)) (fun C1 => ?_)
    clear hK K hB
    try simp only [Act.put, List.setIfInBounds_toArray, List.set_cons_zero, List.set_cons_succ]
    refine wpAnyH_ready (rs := [2]) (by kernel_rfl) (by simp) ?_
    refine AllReadyH.cons (o := { dst := some 57, op := Op.call { callee := Callee.value (Operand.func 12), args := #[Operand.tmp 55, Operand.tmp 56], argTypes := #[39, 26] }, type := 36, pos := "law.go:94", after := #[{ on := 0, ground := Ground.data }, { on := 1, ground := Ground.data }, { on := 0, ground := Ground.chain }], guard := none }) rfl (fun K hK => ?_) AllReadyH.nil
    go_simp
    refine (New_no m s _ (IW.out.below ((C1))) HF.out.short HOK.out).mono ?_
    rintro _ vA2 ⟨rfl, hB⟩
    go_wp2_with fail
    refine hK.out _ _ (C1.trans (hB.mono C1.size)) (fun C2 => ?_)
    have QA := Lib.hid C2
    clear hB
    clear hK K
    try simp only [Act.put, List.setIfInBounds_toArray, List.set_cons_zero, List.set_cons_succ]
    refine wpAnyH_take (i := 3) (oi := { dst := some 54, op := Op.move (Operand.tmp 57), type := 36, pos := "law.go:94", after := #[{ on := 2, ground := Ground.data }], guard := none }) (v := ?_) rfl (by kernel_rfl) (by kernel_rfl) (by kernel_rfl) (fun _ _ _ h => h) (Or.inl ⟨by rfl, ?_⟩) C2 ?_
    rotate_left
    · intro W' hSw
      clear hSw
      go_simp <;> with_reducible rfl
    try simp only [Act.put, List.setIfInBounds_toArray, List.set_cons_zero, List.set_cons_succ]
    refine wpAnyH_take (i := 4) (oi := { dst := some 58, op := Op.extract (Operand.tmp 54) 0, type := 28, pos := "law.go:94", after := #[{ on := 3, ground := Ground.data }], guard := none }) (v := ?_) rfl (by kernel_rfl) (by kernel_rfl) (by kernel_rfl) (fun _ _ _ h => h) (Or.inl ⟨by rfl, ?_⟩) C2 ?_
    rotate_left
    · intro W' hSw
      clear hSw
      go_simp <;> with_reducible rfl
    try simp only [Act.put, List.setIfInBounds_toArray, List.set_cons_zero, List.set_cons_succ]
    refine wpAnyH_take (i := 5) (oi := { dst := some 59, op := Op.extract (Operand.tmp 54) 1, type := 35, pos := "law.go:94", after := #[{ on := 3, ground := Ground.data }, { on := 6, ground := Ground.gcOnly Departure.lateStores }], guard := none }) (v := ?_) rfl (by kernel_rfl) (by kernel_rfl) (by kernel_rfl) (fun _ _ _ h => h) (Or.inl ⟨by rfl, ?_⟩) C2 ?_
    rotate_left
    · intro W' hSw
      clear hSw
      go_simp <;> with_reducible rfl
    try simp only [Act.put, List.setIfInBounds_toArray, List.set_cons_zero, List.set_cons_succ]
    refine wpAnyH_take (i := 6) (oi := { dst := some 8, op := Op.assign (Operand.tmp 58), type := 28, pos := "law.go:94", after := #[{ on := 4, ground := Ground.data }, { on := 2, ground := Ground.chain }, { on := 0, ground := Ground.phase }, { on := 1, ground := Ground.phase }, { on := 2, ground := Ground.phase }, { on := 3, ground := Ground.phase }, { on := 4, ground := Ground.phase }, { on := 5, ground := Ground.textOnly Departure.lateStores }], guard := none }) (v := ?_) rfl (by kernel_rfl) (by kernel_rfl) (by kernel_rfl) (fun _ _ _ h => h) (Or.inl ⟨by rfl, ?_⟩) C2 ?_
    rotate_left
    · intro W' hSw
      clear hSw
      go_simp <;> with_reducible rfl
    try simp only [Act.put, List.setIfInBounds_toArray, List.set_cons_zero, List.set_cons_succ]
    refine wpAnyH_take (i := 7) (oi := { dst := some 9, op := Op.assign (Operand.tmp 59), type := 35, pos := "law.go:94", after := #[{ on := 5, ground := Ground.data }, { on := 6, ground := Ground.chain }, { on := 0, ground := Ground.phase }, { on := 1, ground := Ground.phase }, { on := 2, ground := Ground.phase }, { on := 3, ground := Ground.phase }, { on := 4, ground := Ground.phase }, { on := 5, ground := Ground.phase }, { on := 6, ground := Ground.phase }], guard := none }) (v := ?_) rfl (by kernel_rfl) (by kernel_rfl) (by kernel_rfl) (fun _ _ _ h => h) (Or.inl ⟨by rfl, ?_⟩) C2 ?_
    rotate_left
    · intro W' hSw
      clear hSw
      go_simp <;> with_reducible rfl
    try simp only [Act.put, List.setIfInBounds_toArray, List.set_cons_zero, List.set_cons_succ]
    refine wpAnyH_done (by kernel_rfl) ?_ _
    refine NoPanic.normal ?_
    have SB2 := Lib.hid (SB.out.below QA.out)
    have IW2 := Lib.hid (IW.out.below QA.out)
    have BA := Lib.hid (B7.out.trans (QA.out.mono B7.out.size))
    clear C0 C1 C2 SB IW B7 QA
    go_wp2
    refine wp_region_noPanic ?_
    refine wp_region_held_drew (S := fun w' => Below vA2.heap.size vA2 w') (by kernel_rfl) ((Below.refl _ _).drew) (fun C0 => ?_)
    refine wpAnyH_take (i := 1) (oi := { dst := some 62, op := Op.load 26 (Operand.tmp 2), type := 26, pos := "law.go:95", after := #[], guard := none }) (v := ?_) rfl (by kernel_rfl) (by kernel_rfl) (by kernel_rfl) (fun _ _ _ h => h) (Or.inl ⟨by rfl, ?_⟩) C0 ?_
    rotate_left
    · intro W' hSw
      have y0 := (SB2.out.below hSw).cell_at 0 (.slice m.a1 s.busy.length m.c1) rfl
      have y1 := (SB2.out.below hSw).cell_at 1 (.slice m.a2 s.fails.length m.c2) rfl
      have y2 := (SB2.out.below hSw).cell_at 2 (.slice m.a3 s.turns.length m.c3) rfl
      have y3 := (SB2.out.below hSw).cell_at 3 (.int .i64 s.cut) rfl
      have y4 := (SB2.out.below hSw).cell_at 4 (.slice m.a4 s.torn.length m.c4) rfl
      have y5 := (SB2.out.below hSw).cell_at 5 (.slice m.a5 s.marked.length m.c5) rfl
      clear hSw
      go_simp <;> with_reducible rfl
    try simp only [Act.put, List.setIfInBounds_toArray, List.set_cons_zero, List.set_cons_succ]
    refine wpAnyH_ready (rs := [0]) (by kernel_rfl) (by simp) ?_
    refine AllReadyH.cons (o := { dst := some 61, op := Op.call { callee := Callee.value (Operand.func 13), args := #[], argTypes := #[] }, type := 39, pos := "law.go:95", after := #[], guard := none }) rfl (fun K hK => ?_) AllReadyH.nil
    go_simp
    refine (plain12_any _).mono ?_
    rintro _ vB1 ⟨rfl, hB⟩
    go_wp2_with fail
    refine hK.out _ _ (C0.trans (hB.mono C0.size)) (fun C1 => ?_)
    clear hK K hB
    try simp only [Act.put, List.setIfInBounds_toArray, List.set_cons_zero, List.set_cons_succ]
    refine wpAnyH_ready (rs := [2]) (by kernel_rfl) (by simp) ?_
    refine AllReadyH.cons (o := { dst := some 63, op := Op.call { callee := Callee.value (Operand.func 12), args := #[Operand.tmp 61, Operand.tmp 62], argTypes := #[39, 26] }, type := 36, pos := "law.go:95", after := #[{ on := 0, ground := Ground.data }, { on := 1, ground := Ground.data }, { on := 0, ground := Ground.chain }], guard := none }) rfl (fun K hK => ?_) AllReadyH.nil
    go_simp
    refine (New_no m s _ (IW2.out.below ((C1))) HF.out.short HOK.out).mono ?_
    rintro _ vB2 ⟨rfl, hB⟩
    go_wp2_with fail
    refine hK.out _ _ (C1.trans (hB.mono C1.size)) (fun C2 => ?_)
    have QB := Lib.hid C2
    clear hB
    clear hK K
    try simp only [Act.put, List.setIfInBounds_toArray, List.set_cons_zero, List.set_cons_succ]
    refine wpAnyH_take (i := 3) (oi := { dst := some 60, op := Op.move (Operand.tmp 63), type := 36, pos := "law.go:95", after := #[{ on := 2, ground := Ground.data }], guard := none }) (v := ?_) rfl (by kernel_rfl) (by kernel_rfl) (by kernel_rfl) (fun _ _ _ h => h) (Or.inl ⟨by rfl, ?_⟩) C2 ?_
    rotate_left
    · intro W' hSw
      clear hSw
      go_simp <;> with_reducible rfl
    try simp only [Act.put, List.setIfInBounds_toArray, List.set_cons_zero, List.set_cons_succ]
    refine wpAnyH_take (i := 4) (oi := { dst := some 64, op := Op.extract (Operand.tmp 60) 0, type := 28, pos := "law.go:95", after := #[{ on := 3, ground := Ground.data }], guard := none }) (v := ?_) rfl (by kernel_rfl) (by kernel_rfl) (by kernel_rfl) (fun _ _ _ h => h) (Or.inl ⟨by rfl, ?_⟩) C2 ?_
    rotate_left
    · intro W' hSw
      clear hSw
      go_simp <;> with_reducible rfl
    try simp only [Act.put, List.setIfInBounds_toArray, List.set_cons_zero, List.set_cons_succ]
    refine wpAnyH_take (i := 5) (oi := { dst := some 65, op := Op.extract (Operand.tmp 60) 1, type := 35, pos := "law.go:95", after := #[{ on := 3, ground := Ground.data }, { on := 6, ground := Ground.gcOnly Departure.lateStores }], guard := none }) (v := ?_) rfl (by kernel_rfl) (by kernel_rfl) (by kernel_rfl) (fun _ _ _ h => h) (Or.inl ⟨by rfl, ?_⟩) C2 ?_
    rotate_left
    · intro W' hSw
      clear hSw
      go_simp <;> with_reducible rfl
    try simp only [Act.put, List.setIfInBounds_toArray, List.set_cons_zero, List.set_cons_succ]
    refine wpAnyH_take (i := 6) (oi := { dst := some 10, op := Op.assign (Operand.tmp 64), type := 28, pos := "law.go:95", after := #[{ on := 4, ground := Ground.data }, { on := 2, ground := Ground.chain }, { on := 0, ground := Ground.phase }, { on := 1, ground := Ground.phase }, { on := 2, ground := Ground.phase }, { on := 3, ground := Ground.phase }, { on := 4, ground := Ground.phase }, { on := 5, ground := Ground.textOnly Departure.lateStores }], guard := none }) (v := ?_) rfl (by kernel_rfl) (by kernel_rfl) (by kernel_rfl) (fun _ _ _ h => h) (Or.inl ⟨by rfl, ?_⟩) C2 ?_
    rotate_left
    · intro W' hSw
      clear hSw
      go_simp <;> with_reducible rfl
    try simp only [Act.put, List.setIfInBounds_toArray, List.set_cons_zero, List.set_cons_succ]
    refine wpAnyH_take (i := 7) (oi := { dst := some 11, op := Op.assign (Operand.tmp 65), type := 35, pos := "law.go:95", after := #[{ on := 5, ground := Ground.data }, { on := 6, ground := Ground.chain }, { on := 0, ground := Ground.phase }, { on := 1, ground := Ground.phase }, { on := 2, ground := Ground.phase }, { on := 3, ground := Ground.phase }, { on := 4, ground := Ground.phase }, { on := 5, ground := Ground.phase }, { on := 6, ground := Ground.phase }], guard := none }) (v := ?_) rfl (by kernel_rfl) (by kernel_rfl) (by kernel_rfl) (fun _ _ _ h => h) (Or.inl ⟨by rfl, ?_⟩) C2 ?_
    rotate_left
    · intro W' hSw
      clear hSw
      go_simp <;> with_reducible rfl
    try simp only [Act.put, List.setIfInBounds_toArray, List.set_cons_zero, List.set_cons_succ]
    refine wpAnyH_done (by kernel_rfl) ?_ _
    refine NoPanic.normal ?_
    have BB := Lib.hid (BA.out.trans (QB.out.mono BA.out.size))
    clear C0 C1 C2 SB2 IW2 BA QB
    go_wp2
    go_ret
    exact ⟨rfl, BB.out⟩
end Go.Proofs.Ytodljocbimgeoaa
