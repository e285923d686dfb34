/-
  The walk of the law ChoiceTurns over the landed code, out of its callees' contracts.
-/
import Derived.Test.YtodljocbimgeoaaChAw
namespace Go.Proofs.Ytodljocbimgeoaa
open Go.RowKit
set_option maxRecDepth 100000

theorem Few12 (m : Sa) (s : Sc) (w : World) : Calls Try.prog 11 #[.agg #[.slice m.a1 s.busy.length m.c1, .slice m.a2 s.fails.length m.c2, .slice m.a3 s.turns.length m.c3, .int .i64 s.cut, .slice m.a4 s.torn.length m.c4, .slice m.a5 s.marked.length m.c5]] w (Checks s.few w) := Few_any m s w
theorem ahead_le (l : List Tn) (r g : Int) : ahead l r g ≤ l.length := List.length_filter_le _ _

set_option maxHeartbeats 16000000 in
theorem ChoiceTurns_walk (m : Sa) (s : Sc) (w : World) (h : SIn w m s) : Calls Try.prog 4 #[m.val s] w (Gives (.bool true) w) := by
  have HI := Lib.hid h
  clear h
  simp only [Sa.val]
  have S0 := Lib.hid (CRow.new w (m.cells s) 26)
  have B0 := Lib.hid (below_new w (.cells (m.cells s) 26))
  unfold Sa.cells at *
  go_enter Try.func4, Try.ntmps4
  go_wp2_with fail
  refine (awake12_any _).mono ?_
  rintro _ w1 ⟨rfl, h1⟩
  have B1 := Lib.hid (below_step B0.out h1)
  have S1 := Lib.hid (S0.out.below h1)
  have I1 := Lib.hid (HI.out.below B1.out)
  have y0 := S1.out.cell_at 0 (.slice m.a1 s.busy.length m.c1) rfl
  have y1 := S1.out.cell_at 1 (.slice m.a2 s.fails.length m.c2) rfl
  have y2 := S1.out.cell_at 2 (.slice m.a3 s.turns.length m.c3) rfl
  have y3 := S1.out.cell_at 3 (.int .i64 s.cut) rfl
  have y4 := S1.out.cell_at 4 (.slice m.a4 s.torn.length m.c4) rfl
  have y5 := S1.out.cell_at 5 (.slice m.a5 s.marked.length m.c5) rfl
  clear h1 B0 S0 HI
  go_wp2_with fail
  refine (Few12 m s _).mono ?_
  rintro _ w2 ⟨v, rfl, hv, h2⟩
  have B2 := Lib.hid (below_step B1.out h2)
  have SB := Lib.hid (S1.out.below h2)
  have IW := Lib.hid (I1.out.below h2)
  clear h2 B1 S1 I1 y0 y1 y2 y3 y4 y5
  cases v
  · clear hv SB IW
    go_wp2
    go_ret
    exact ⟨rfl, B2.out⟩
  have HF := Lib.hid (hv.1 rfl)
  clear hv
  go_wp2
  by_cases hok : s.ok
  · have HOK := Lib.hid hok
    clear hok
    refine wp_region_noPanic ?_
    refine wp_region_held_drew (S := fun w' => Below w2.heap.size w2 w') (by kernel_rfl) ((Below.refl _ _).drew) (fun C0 => ?_)
    refine wpAnyH_take (i := 1) (oi := { dst := some 20, op := Op.load 26 (Operand.tmp 1), type := 26, pos := "outright.go:16", after := #[], guard := none }) (v := ?_) rfl (by kernel_rfl) (by kernel_rfl) (by kernel_rfl) (fun _ _ _ h => h) (Or.inl ⟨by rfl, ?_⟩) C0 ?_
    rotate_left
    · intro W' hSw
      have y0 := (SB.out.below hSw).cell_at 0 (.slice m.a1 s.busy.length m.c1) rfl
      have y1 := (SB.out.below hSw).cell_at 1 (.slice m.a2 s.fails.length m.c2) rfl
      have y2 := (SB.out.below hSw).cell_at 2 (.slice m.a3 s.turns.length m.c3) rfl
      have y3 := (SB.out.below hSw).cell_at 3 (.int .i64 s.cut) rfl
      have y4 := (SB.out.below hSw).cell_at 4 (.slice m.a4 s.torn.length m.c4) rfl
      have y5 := (SB.out.below hSw).cell_at 5 (.slice m.a5 s.marked.length m.c5) rfl
      clear hSw
      go_simp <;> with_reducible rfl
    try simp only [Act.put, List.setIfInBounds_toArray, List.set_cons_zero, List.set_cons_succ]
    refine wpAnyH_ready (rs := [0]) (by kernel_rfl) (by simp) ?_
    refine AllReadyH.cons (o := { dst := some 19, op := Op.call { callee := Callee.value (Operand.func 13), args := #[], argTypes := #[] }, type := 39, pos := "outright.go:16", after := #[], guard := none }) rfl (fun K hK => ?_) AllReadyH.nil
    go_simp
    refine (plain12_any _).mono ?_
    rintro _ v1 ⟨rfl, hB⟩
    have P1 := Lib.hid hB
    go_wp2_with fail
    refine hK.out _ _ (C0.trans (hB.mono C0.size)) (fun C1 => ?_)
    clear hK K hB
    try simp only [Act.put, List.setIfInBounds_toArray, List.set_cons_zero, List.set_cons_succ]
    refine wpAnyH_ready (rs := [2]) (by kernel_rfl) (by simp) ?_
    refine AllReadyH.cons (o := { dst := some 21, op := Op.call { callee := Callee.value (Operand.func 12), args := #[Operand.tmp 19, Operand.tmp 20], argTypes := #[39, 26] }, type := 36, pos := "outright.go:16", after := #[{ on := 0, ground := Ground.data }, { on := 1, ground := Ground.data }, { on := 0, ground := Ground.chain }], guard := none }) rfl (fun K hK => ?_) AllReadyH.nil
    go_simp
    refine (New_yes m s _ (IW.out.below ((C1))) HF.out.short HOK.out).mono ?_
    rintro _ v2 ⟨p, rfl, hB, ht⟩
    have T2 := Lib.hid ht
    have L2 := Lib.hid (C1.size)
    clear ht
    go_wp2_with fail
    refine hK.out _ _ (C1.trans (hB.mono C1.size)) (fun C2 => ?_)
    have Q2 := Lib.hid C2
    clear hB
    clear hK K
    try simp only [Act.put, List.setIfInBounds_toArray, List.set_cons_zero, List.set_cons_succ]
    refine wpAnyH_take (i := 3) (oi := { dst := some 18, op := Op.move (Operand.tmp 21), type := 36, pos := "outright.go:16", after := #[{ on := 2, ground := Ground.data }], guard := none }) (v := ?_) rfl (by kernel_rfl) (by kernel_rfl) (by kernel_rfl) (fun _ _ _ h => h) (Or.inl ⟨by rfl, ?_⟩) C2 ?_
    rotate_left
    · intro W' hSw
      clear hSw
      go_simp <;> with_reducible rfl
    try simp only [Act.put, List.setIfInBounds_toArray, List.set_cons_zero, List.set_cons_succ]
    refine wpAnyH_take (i := 4) (oi := { dst := some 22, op := Op.extract (Operand.tmp 18) 0, type := 28, pos := "outright.go:16", after := #[{ on := 3, ground := Ground.data }], guard := none }) (v := ?_) rfl (by kernel_rfl) (by kernel_rfl) (by kernel_rfl) (fun _ _ _ h => h) (Or.inl ⟨by rfl, ?_⟩) C2 ?_
    rotate_left
    · intro W' hSw
      clear hSw
      go_simp <;> with_reducible rfl
    try simp only [Act.put, List.setIfInBounds_toArray, List.set_cons_zero, List.set_cons_succ]
    refine wpAnyH_take (i := 5) (oi := { dst := some 23, op := Op.extract (Operand.tmp 18) 1, type := 35, pos := "outright.go:16", after := #[{ on := 3, ground := Ground.data }, { on := 6, ground := Ground.gcOnly Departure.lateStores }], guard := none }) (v := ?_) rfl (by kernel_rfl) (by kernel_rfl) (by kernel_rfl) (fun _ _ _ h => h) (Or.inl ⟨by rfl, ?_⟩) C2 ?_
    rotate_left
    · intro W' hSw
      clear hSw
      go_simp <;> with_reducible rfl
    try simp only [Act.put, List.setIfInBounds_toArray, List.set_cons_zero, List.set_cons_succ]
    refine wpAnyH_take (i := 6) (oi := { dst := some 3, op := Op.assign (Operand.tmp 22), type := 28, pos := "outright.go:16", after := #[{ on := 4, ground := Ground.data }, { on := 2, ground := Ground.chain }, { on := 0, ground := Ground.phase }, { on := 1, ground := Ground.phase }, { on := 2, ground := Ground.phase }, { on := 3, ground := Ground.phase }, { on := 4, ground := Ground.phase }, { on := 5, ground := Ground.textOnly Departure.lateStores }], guard := none }) (v := ?_) rfl (by kernel_rfl) (by kernel_rfl) (by kernel_rfl) (fun _ _ _ h => h) (Or.inl ⟨by rfl, ?_⟩) C2 ?_
    rotate_left
    · intro W' hSw
      clear hSw
      go_simp <;> with_reducible rfl
    try simp only [Act.put, List.setIfInBounds_toArray, List.set_cons_zero, List.set_cons_succ]
    refine wpAnyH_take (i := 7) (oi := { dst := some 4, op := Op.assign (Operand.tmp 23), type := 35, pos := "outright.go:16", after := #[{ on := 5, ground := Ground.data }, { on := 6, ground := Ground.chain }, { on := 0, ground := Ground.phase }, { on := 1, ground := Ground.phase }, { on := 2, ground := Ground.phase }, { on := 3, ground := Ground.phase }, { on := 4, ground := Ground.phase }, { on := 5, ground := Ground.phase }, { on := 6, ground := Ground.phase }], guard := none }) (v := ?_) rfl (by kernel_rfl) (by kernel_rfl) (by kernel_rfl) (fun _ _ _ h => h) (Or.inl ⟨by rfl, ?_⟩) C2 ?_
    rotate_left
    · intro W' hSw
      clear hSw
      go_simp <;> with_reducible rfl
    try simp only [Act.put, List.setIfInBounds_toArray, List.set_cons_zero, List.set_cons_succ]
    refine wpAnyH_done (by kernel_rfl) ?_ _
    refine NoPanic.normal ?_
    have BZ := Lib.hid (B2.out.trans (Q2.out.mono B2.out.size))
    have SZ := Lib.hid (SB.out.below Q2.out)
    have IZ := Lib.hid (IW.out.below Q2.out)
    have TS := HF.out.turns
    have HA0 := Lib.hid (show ahead s.turns 0 0 = 0 from ahead_zero fun t ht => by have := HOK.out.turns.all t ht; unfold Tn.ok at this; omega)
    rename World => wz
    clear C0 C1 C2 P1 L2 SB IW Q2 B2
    go_wp2
    go_loopw [5, 28] (fun n i wr => ∃ r : Nat, r ≤ 16 ∧ i = .int .i64 (r : Int) ∧ n = .int .i64 (ahead s.turns r 0 : Int) ∧ Hid (Below wz.heap.size wz wr)) (fun n i _ => 16 - (intOf i).toNat)
    case atStart => exact ⟨0, Nat.zero_le _, rfl, by rw [show ((0 : Nat) : Int) = 0 from rfl, HA0.out]; rfl, Below.refl _ _⟩
    case round =>
      obtain ⟨r, hr, rfl, rfl, HB⟩ := hrel
      rename World => wr
      by_cases hr16 : r < 16
      · have e16 : decide ((r : Int) < 16) = true := decide_eq_true (by omega)
        go_wp2
        clear e16
        go_loopw [5, 31] (fun n i wr => ∃ g : Nat, g ≤ 2 ∧ i = .int .i64 (g : Int) ∧ n = .int .i64 (ahead s.turns r g : Int) ∧ Hid (Below wz.heap.size wz wr)) (fun n i _ => 2 - (intOf i).toNat)
        case atStart => exact ⟨0, Nat.zero_le _, rfl, rfl, HB⟩
        case round =>
          clear HB
          obtain ⟨g, hg, rfl, rfl, HB⟩ := hrel
          rename World => wr2
          by_cases hg2 : g < 2
          · go_wp2_with fail
            refine (Turns_any p _ _ s 0 0 r g _ (T2.out.below HB.out) HF.out.short HOK.out (by unfold in64; omega) (by unfold in64; omega)).mono ?_
            rintro _ w5 ⟨A, c, rfl, ho, h5⟩
            have B5 := Lib.hid (HB.out.trans (h5.mono HB.out.size))
            have HN := Lib.hid (show ahead s.turns r ((g : Int) + 1) = ahead s.turns r g + (grp s.turns (r, g)).length from ahead_next _ _ _)
            have R5 := Lib.hid (R64.own ho (fun x hx => by have := HOK.out.turns.all _ (grp_mem hx); unfold Tn.ok at this; simp only at this; omega))
            have hal := ahead_le s.turns r ((g : Int) + 1)
            have hln : ahead s.turns r g + (grp s.turns (r, g)).length ≤ 100 := by rw [← HN.out]; omega
            clear HB ho h5 hal
            go_wp2
            go_loopw [5, 39] (fun n i wr => ∃ q : Nat, q ≤ (grp s.turns (r, g)).length ∧ i = .int .i64 (q : Int) ∧ n = .int .i64 ((ahead s.turns r g : Int) + (q : Int)) ∧ Hid (Below w5.heap.size w5 wr)) (fun n i _ => (grp s.turns (r, g)).length - (intOf i).toNat)
            case atStart => exact ⟨0, Nat.zero_le _, rfl, by simp, Below.refl _ _⟩
            case round =>
              obtain ⟨q, hq, rfl, rfl, HB⟩ := hrel
              rename World => wr3
              by_cases hql : q < (grp s.turns (r, g)).length
              · obtain ⟨b1, off1, x, rfl, hb1, HX, hx1, hx2, hx3⟩ := (R5.out.below HB.out).at_ hql
                have HIN := Lib.hid (show (⟨r, g, x⟩ : Tn) ∈ s.turns from grp_mem (x := ((r : Int), (g : Int))) (List.mem_of_getElem? HX.out))
                have BW3 := Lib.hid (B5.out.trans (HB.out.mono B5.out.size))
                have y2 := (SZ.out.below BW3.out).cell_at 2 _ rfl
                clear HX
                go_wp2
                clear y2
                go_loopw [10, 46] (fun v i wr => ∃ k : Nat, k ≤ s.turns.length ∧ i = .int .i64 (k : Int) ∧ v = .bool (decide ((⟨r, g, x⟩ : Tn) ∈ s.turns.take k)) ∧ Hid (Below wr3.heap.size wr3 wr)) (fun v i _ => s.turns.length - (intOf i).toNat)
                case atStart => exact ⟨0, Nat.zero_le _, rfl, by simp, Below.refl _ _⟩
                case round =>
                  obtain ⟨k, hk, rfl, rfl, HB4⟩ := hrel
                  rename World => wr4
                  by_cases hkl : k < s.turns.length
                  · have BW4 := BW3.out.trans (HB4.out.mono BW3.out.size)
                    obtain ⟨b0, off, t, ha3, hb0, HT, ht1, ht2, ht3, _, _, _⟩ := (IZ.out.turns.below BW4).at_ hkl
                    have NB := Lib.hid (below_new wr4 (.cells #[.int .i64 t.r, .int .i64 t.g, .int .i64 t.b] 45))
                    have HB5 := Lib.hid (HB4.out.trans (NB.out.mono HB4.out.size))
                    have hst : s.turns.take (k + 1) = s.turns.take k ++ [t] := take_snoc HT.out
                    clear BW4 HB4 NB
                    rw [ha3]
                    by_cases hin : (⟨r, g, x⟩ : Tn) ∈ s.turns.take k
                    · have HD := Lib.hid (show (⟨r, g, x⟩ : Tn) ∈ s.turns.take (k + 1) by rw [hst]; exact List.mem_append_left _ hin)
                      rw [decide_eq_true hin]
                      clear hin hst HT
                      go_wp2
                      go_roundw
                      case rel => exact ⟨k + 1, by omega, by go_num, by rw [decide_eq_true HD.out], HB5⟩
                      case measure => simp [intOf]; omega
                    · rw [decide_eq_false hin]
                      by_cases heq : t = ⟨r, g, x⟩
                      · have HD := Lib.hid (show (⟨r, g, x⟩ : Tn) ∈ s.turns.take (k + 1) by rw [hst, heq]; exact List.mem_append_right _ (by simp))
                        subst heq
                        clear hin hst HT
                        go_wp2
                        go_roundw
                        case rel => exact ⟨k + 1, by omega, by go_num, by rw [decide_eq_true HD.out], HB5⟩
                        case measure => simp [intOf]; omega
                      · have HD := Lib.hid (show ¬ (⟨r, g, x⟩ : Tn) ∈ s.turns.take (k + 1) by
                          rw [hst]
                          intro h
                          rcases List.mem_append.1 h with h | h
                          · exact hin h
                          · exact heq (List.mem_singleton.1 h).symm)
                        have hne : ¬ (t.r = r ∧ t.g = g ∧ t.b = x) := fun ⟨e1, e2, e3⟩ => heq (by cases t; simp only at e1 e2 e3; subst e1 e2 e3; rfl)
                        clear hin hst HT heq
                        have fin : True := trivial
                        by_cases e1 : t.r = r
                        · by_cases e2 : t.g = g
                          · have e3 : (t.b == x) = false := by rw [beq_eq_false_iff_ne]; exact fun e3 => hne ⟨e1, e2, e3⟩
                            have e1' : (t.r == (r : Int)) = true := by rw [beq_iff_eq]; exact e1
                            have e2' : (t.g == (g : Int)) = true := by rw [beq_iff_eq]; exact e2
                            clear e1 e2 hne
                            go_wp2
                            go_roundw
                            case rel => exact ⟨k + 1, by omega, by go_num, by rw [decide_eq_false HD.out], HB5⟩
                            case measure => simp [intOf]; omega
                          · have e2' : (t.g == (g : Int)) = false := by rw [beq_eq_false_iff_ne]; exact e2
                            have e1' : (t.r == (r : Int)) = true := by rw [beq_iff_eq]; exact e1
                            clear e1 e2 hne
                            go_wp2
                            go_roundw
                            case rel => exact ⟨k + 1, by omega, by go_num, by rw [decide_eq_false HD.out], HB5⟩
                            case measure => simp [intOf]; omega
                        · have e1' : (t.r == (r : Int)) = false := by rw [beq_eq_false_iff_ne]; exact e1
                          clear e1 hne
                          go_wp2
                          go_roundw
                          case rel => exact ⟨k + 1, by omega, by go_num, by rw [decide_eq_false HD.out], HB5⟩
                          case measure => simp [intOf]; omega
                  · obtain rfl : k = s.turns.length := by omega
                    rw [List.take_length, decide_eq_true HIN.out]
                    have BN := Lib.hid (HB.out.trans (HB4.out.mono HB.out.size))
                    have hqi : (ahead s.turns r g : Int) + (q : Int) ≤ 99 := by omega
                    go_wp2
                    go_roundw
                    case rel => exact ⟨q + 1, by omega, by go_num, by go_num, BN⟩
                    case measure => simp [intOf]; omega
              · obtain rfl : q = (grp s.turns (r, g)).length := by omega
                have BN := Lib.hid (B5.out.trans (HB.out.mono B5.out.size))
                go_wp2
                go_roundw
                case rel => exact ⟨g + 1, by omega, by go_num, by rw [show ((g + 1 : Nat) : Int) = (g : Int) + 1 from rfl, HN.out]; simp, BN⟩
                case measure => simp [intOf]; omega
          · obtain rfl : g = 2 := by omega
            have HR := Lib.hid (show ahead s.turns ((r : Int) + 1) 0 = ahead s.turns r 2 from ahead_row (fun t ht => by have := HOK.out.turns.all t ht; unfold Tn.ok at this; omega) _)
            go_wp2
            go_roundw
            case rel => exact ⟨r + 1, by omega, by go_num, by rw [show ((r + 1 : Nat) : Int) = (r : Int) + 1 from rfl, HR.out]; rfl, HB⟩
            case measure => simp [intOf]; omega
      · obtain rfl : r = 16 := by omega
        have HE := (show ahead s.turns ((16 : Nat) : Int) 0 = s.turns.length from ahead_all (fun t ht => by have := HOK.out.turns.all t ht; unfold Tn.ok at this; omega))
        rw [HE]
        have y2 := (SZ.out.below HB.out).cell_at 2 _ rfl
        have E1 := Lib.hid (show grp s.turns (16, 0) = [] from grp_none fun t ht e => by have := HOK.out.turns.all t ht; unfold Tn.ok at this; unfold Tn.key at e; injection e; omega)
        have E2 := Lib.hid (show grp s.turns (-1, 0) = [] from grp_none fun t ht e => by have := HOK.out.turns.all t ht; unfold Tn.ok at this; unfold Tn.key at e; injection e; omega)
        clear HE
        go_wp2_with fail
        refine (Turns_any p _ _ s 0 0 16 0 _ (T2.out.below HB.out) HF.out.short HOK.out (by unfold in64; omega) (by unfold in64; omega)).mono ?_
        rintro _ w5 ⟨A, c, rfl, ho, h5⟩
        have B5 := Lib.hid (HB.out.trans (h5.mono HB.out.size))
        clear ho h5 HB y2
        rw [E1.out]
        go_wp2_with fail
        refine (Turns_any p _ _ s 0 0 (-1) 0 _ (T2.out.below B5.out) HF.out.short HOK.out (by unfold in64; omega) (by unfold in64; omega)).mono ?_
        rintro _ w6 ⟨A2, c2, rfl, ho, h6⟩
        have B6 := Lib.hid (B5.out.trans (h6.mono B5.out.size))
        clear ho h6 B5
        rw [E2.out]
        go_wp2
        go_ret
        exact ⟨rfl, BZ.out.trans (B6.out.mono BZ.out.size)⟩
  · have HOK := Lib.hid hok
    clear hok
    refine wp_region_noPanic ?_
    refine wp_region_held_drew (S := fun w' => Below w2.heap.size w2 w') (by kernel_rfl) ((Below.refl _ _).drew) (fun C0 => ?_)
    refine wpAnyH_take (i := 1) (oi := { dst := some 20, op := Op.load 26 (Operand.tmp 1), type := 26, pos := "outright.go:16", after := #[], guard := none }) (v := ?_) rfl (by kernel_rfl) (by kernel_rfl) (by kernel_rfl) (fun _ _ _ h => h) (Or.inl ⟨by rfl, ?_⟩) C0 ?_
    rotate_left
    · intro W' hSw
      have y0 := (SB.out.below hSw).cell_at 0 (.slice m.a1 s.busy.length m.c1) rfl
      have y1 := (SB.out.below hSw).cell_at 1 (.slice m.a2 s.fails.length m.c2) rfl
      have y2 := (SB.out.below hSw).cell_at 2 (.slice m.a3 s.turns.length m.c3) rfl
      have y3 := (SB.out.below hSw).cell_at 3 (.int .i64 s.cut) rfl
      have y4 := (SB.out.below hSw).cell_at 4 (.slice m.a4 s.torn.length m.c4) rfl
      have y5 := (SB.out.below hSw).cell_at 5 (.slice m.a5 s.marked.length m.c5) rfl
      clear hSw
      go_simp <;> with_reducible rfl
    try simp only [Act.put, List.setIfInBounds_toArray, List.set_cons_zero, List.set_cons_succ]
    refine wpAnyH_ready (rs := [0]) (by kernel_rfl) (by simp) ?_
    refine AllReadyH.cons (o := { dst := some 19, op := Op.call { callee := Callee.value (Operand.func 13), args := #[], argTypes := #[] }, type := 39, pos := "outright.go:16", after := #[], guard := none }) rfl (fun K hK => ?_) AllReadyH.nil
    go_simp
    refine (plain12_any _).mono ?_
    rintro _ v1 ⟨rfl, hB⟩
    have P1 := Lib.hid hB
    go_wp2_with fail
    refine hK.out _ _ (C0.trans (hB.mono C0.size)) (fun C1 => ?_)
    clear hK K hB
    try simp only [Act.put, List.setIfInBounds_toArray, List.set_cons_zero, List.set_cons_succ]
    refine wpAnyH_ready (rs := [2]) (by kernel_rfl) (by simp) ?_
    refine AllReadyH.cons (o := { dst := some 21, op := Op.call { callee := Callee.value (Operand.func 12), args := #[Operand.tmp 19, Operand.tmp 20], argTypes := #[39, 26] }, type := 36, pos := "outright.go:16", after := #[{ on := 0, ground := Ground.data }, { on := 1, ground := Ground.data }, { on := 0, ground := Ground.chain }], guard := none }) rfl (fun K hK => ?_) AllReadyH.nil
    go_simp
    refine (New_no m s _ (IW.out.below ((C1))) HF.out.short HOK.out).mono ?_
    rintro _ v2 ⟨rfl, hB⟩
    go_wp2_with fail
    refine hK.out _ _ (C1.trans (hB.mono C1.size)) (fun C2 => ?_)
    have Q2 := Lib.hid C2
    clear hB
    clear hK K
    try simp only [Act.put, List.setIfInBounds_toArray, List.set_cons_zero, List.set_cons_succ]
    refine wpAnyH_take (i := 3) (oi := { dst := some 18, op := Op.move (Operand.tmp 21), type := 36, pos := "outright.go:16", after := #[{ on := 2, ground := Ground.data }], guard := none }) (v := ?_) rfl (by kernel_rfl) (by kernel_rfl) (by kernel_rfl) (fun _ _ _ h => h) (Or.inl ⟨by rfl, ?_⟩) C2 ?_
    rotate_left
    · intro W' hSw
      clear hSw
      go_simp <;> with_reducible rfl
    try simp only [Act.put, List.setIfInBounds_toArray, List.set_cons_zero, List.set_cons_succ]
    refine wpAnyH_take (i := 4) (oi := { dst := some 22, op := Op.extract (Operand.tmp 18) 0, type := 28, pos := "outright.go:16", after := #[{ on := 3, ground := Ground.data }], guard := none }) (v := ?_) rfl (by kernel_rfl) (by kernel_rfl) (by kernel_rfl) (fun _ _ _ h => h) (Or.inl ⟨by rfl, ?_⟩) C2 ?_
    rotate_left
    · intro W' hSw
      clear hSw
      go_simp <;> with_reducible rfl
    try simp only [Act.put, List.setIfInBounds_toArray, List.set_cons_zero, List.set_cons_succ]
    refine wpAnyH_take (i := 5) (oi := { dst := some 23, op := Op.extract (Operand.tmp 18) 1, type := 35, pos := "outright.go:16", after := #[{ on := 3, ground := Ground.data }, { on := 6, ground := Ground.gcOnly Departure.lateStores }], guard := none }) (v := ?_) rfl (by kernel_rfl) (by kernel_rfl) (by kernel_rfl) (fun _ _ _ h => h) (Or.inl ⟨by rfl, ?_⟩) C2 ?_
    rotate_left
    · intro W' hSw
      clear hSw
      go_simp <;> with_reducible rfl
    try simp only [Act.put, List.setIfInBounds_toArray, List.set_cons_zero, List.set_cons_succ]
    refine wpAnyH_take (i := 6) (oi := { dst := some 3, op := Op.assign (Operand.tmp 22), type := 28, pos := "outright.go:16", after := #[{ on := 4, ground := Ground.data }, { on := 2, ground := Ground.chain }, { on := 0, ground := Ground.phase }, { on := 1, ground := Ground.phase }, { on := 2, ground := Ground.phase }, { on := 3, ground := Ground.phase }, { on := 4, ground := Ground.phase }, { on := 5, ground := Ground.textOnly Departure.lateStores }], guard := none }) (v := ?_) rfl (by kernel_rfl) (by kernel_rfl) (by kernel_rfl) (fun _ _ _ h => h) (Or.inl ⟨by rfl, ?_⟩) C2 ?_
    rotate_left
    · intro W' hSw
      clear hSw
      go_simp <;> with_reducible rfl
    try simp only [Act.put, List.setIfInBounds_toArray, List.set_cons_zero, List.set_cons_succ]
    refine wpAnyH_take (i := 7) (oi := { dst := some 4, op := Op.assign (Operand.tmp 23), type := 35, pos := "outright.go:16", after := #[{ on := 5, ground := Ground.data }, { on := 6, ground := Ground.chain }, { on := 0, ground := Ground.phase }, { on := 1, ground := Ground.phase }, { on := 2, ground := Ground.phase }, { on := 3, ground := Ground.phase }, { on := 4, ground := Ground.phase }, { on := 5, ground := Ground.phase }, { on := 6, ground := Ground.phase }], guard := none }) (v := ?_) rfl (by kernel_rfl) (by kernel_rfl) (by kernel_rfl) (fun _ _ _ h => h) (Or.inl ⟨by rfl, ?_⟩) C2 ?_
    rotate_left
    · intro W' hSw
      clear hSw
      go_simp <;> with_reducible rfl
    try simp only [Act.put, List.setIfInBounds_toArray, List.set_cons_zero, List.set_cons_succ]
    refine wpAnyH_done (by kernel_rfl) ?_ _
    refine NoPanic.normal ?_
    have BZ := Lib.hid (B2.out.trans (Q2.out.mono B2.out.size))
    clear C0 C1 C2 P1 SB IW Q2 B2
    go_wp2
    go_ret
    exact ⟨rfl, BZ.out⟩
end Go.Proofs.Ytodljocbimgeoaa
