/-
  The walk of the law ArrayFits over the landed code, out of its callees' contracts.
-/
import Derived.Test.YtlmdhlogmfdokaaArrayFitsJArPlays
import Derived.Test.YtlmdhlogmfdokaaArrayFitsJMat
namespace Go.Proofs.Ytlmdhlogmfdokaa
open Go.RowKit
set_option maxRecDepth 100000

theorem andL_idem (a : List Nat) : andL a a = a := by
  apply List.ext_getElem?
  intro i
  rw [andL_get, Nat.max_self]
  by_cases h : i < a.length
  · rw [if_pos h, Nat.and_self, List.getElem?_eq_getElem h]
    simp [List.getD, h]
  · rw [if_neg h, List.getElem?_eq_none (by omega)]
theorem andL_absorb1 (a b : List Nat) : andL a (andL a b) = andL a b := by rw [andL_comm a (andL a b), andL_self_left]
theorem andL_absorb2 (a b : List Nat) : andL (andL a b) b = andL a b := by rw [andL_comm a b, andL_self_left]
theorem zeros_none (l : List Nat) (N : Nat) (h : l = List.replicate N 255) : 8 * (N : Int) - (ones l : Int) = 0 := by
  subst h
  have e : ones (List.replicate N 255) = 8 * N := by
    have h255 : Lib.onesCount 255 = 8 := by decide +kernel
    induction N with
    | zero => rfl
    | succ N ih =>
      unfold ones at ih ⊢
      rw [List.replicate_succ, List.map_cons, List.sum_cons, ih, h255]
      omega
  rw [e]
  push_cast
  omega

set_option maxHeartbeats 8000000 in
theorem ArrayFits_walk (g : Gm) (LA : Option Addr) (n lc : Nat) (PA : Nat → Option Addr) (PC : Nat → Nat) (ls : List (List Nat)) (a0 a1 a2 : Nat) (w : World) (hl : RR w LA n PA PC ls) (hn : n ≤ 9223372036854775807) (h0 : a0 < 256) (h1 : a1 < 256) (h2 : a2 < 256) :
    Calls Try.prog 4 #[g.val, .slice LA n lc, .agg #[.int .u8 (a0 : Int), .int .u8 (a1 : Int), .int .u8 (a2 : Int)]] w (Gives (.bool true) w) := by
  have HL := Lib.hid hl
  have HS := Lib.hid (fun w' => Small13_any g w')
  have Y0 := Lib.hid (GBox.new w g 23)
  have B0 := Lib.hid (below_new w (.cells #[.int .i64 g.p, .int .i64 g.b, .int .i64 g.s, .int .i64 g.c, .int .i64 g.k, .int .i64 g.r, .int .i64 g.q] 23))
  have hs0 : (w.alloc (.cells #[.int .i64 g.p, .int .i64 g.b, .int .i64 g.s, .int .i64 g.c, .int .i64 g.k, .int .i64 g.r, .int .i64 g.q] 23)).heap.size = w.heap.size + 1 := by simp
  have P0 := Lib.hid (CRow.new (w.alloc (.cells #[.int .i64 g.p, .int .i64 g.b, .int .i64 g.s, .int .i64 g.c, .int .i64 g.k, .int .i64 g.r, .int .i64 g.q] 23)) #[.int .u8 (a0 : Int), .int .u8 (a1 : Int), .int .u8 (a2 : Int)] 44)
  rw [hs0] at P0
  have N0 := Lib.hid (below_new (w.alloc (.cells #[.int .i64 g.p, .int .i64 g.b, .int .i64 g.s, .int .i64 g.c, .int .i64 g.k, .int .i64 g.r, .int .i64 g.q] 23)) (.cells #[.int .u8 (a0 : Int), .int .u8 (a1 : Int), .int .u8 (a2 : Int)] 44))
  have Y1 := Lib.hid (Y0.out.below N0.out)
  have B1 := Lib.hid (below_step B0.out N0.out)
  clear hl hs0 Y0 B0 N0
  unfold Gm.val at HS ⊢
  go_enter Try.func4, Try.ntmps4
  go_wp2_with fail
  refine (awake13_any _).mono ?_
  rintro _ w1 ⟨rfl, h1'⟩
  have Y1' := Lib.hid (Y1.out.below h1')
  have P1 := Lib.hid (P0.out.below h1')
  have B1' := Lib.hid (below_step B1.out h1')
  clear h1' Y1 P0 B1
  have K1 := Lib.hid (Below.refl w1.heap.size w1)
  go_wp2_with fail
  refine (Erase_nil 0 _).mono ?_
  rintro _ w2 h2'
  obtain ⟨rfl, h2'⟩ := h2'
  have K2 := Lib.hid (below_step K1.out h2')
  clear h2' K1
  go_wp2_with fail
  refine (Program_nil 0 _ _).mono ?_
  rintro _ w3 h3'
  obtain ⟨rfl, h3'⟩ := h3'
  have K3 := Lib.hid (below_step K2.out h3')
  clear h3' K2
  go_wp2_with fail
  refine (Tear_nil 0 _ _).mono ?_
  rintro _ w4 h4'
  obtain ⟨rfl, h4'⟩ := h4'
  have K4 := Lib.hid (below_step K3.out h4')
  clear h4' K3
  go_wp2_with fail
  refine (TearBlock_nil 0 _ _).mono ?_
  rintro _ w5 h5'
  obtain ⟨rfl, h5'⟩ := h5'
  have K5 := Lib.hid (below_step K4.out h5')
  clear h5' K4
  go_wp2_with fail
  refine (Raw_nil 0 _).mono ?_
  rintro _ w6 h6'
  obtain ⟨rfl, h6'⟩ := h6'
  have K6 := Lib.hid (below_step K5.out h6')
  clear h6' K5
  go_wp2_with fail
  refine (Torn_nil 0 _).mono ?_
  rintro _ w7 h7'
  obtain ⟨rfl, h7'⟩ := h7'
  have K7 := Lib.hid (below_step K6.out h7')
  clear h7' K6
  go_wp2_with fail
  refine (Programs_nil 0 _).mono ?_
  rintro _ w8 h8'
  obtain ⟨rfl, h8'⟩ := h8'
  have K8 := Lib.hid (below_step K7.out h8')
  clear h8' K7
  go_wp2_with fail
  refine (Erases_nil 0 _).mono ?_
  rintro _ w9 h9'
  obtain ⟨rfl, h9'⟩ := h9'
  have K9 := Lib.hid (below_step K8.out h9')
  clear h9' K8
  have Y9 := Lib.hid (Y1'.out.below K9.out)
  have P9 := Lib.hid (P1.out.below K9.out)
  have B9 := Lib.hid (below_step B1'.out K9.out)
  clear Y1' P1 B1' K9
  obtain ⟨v, hv, hSm⟩ := HS.out w9
  obtain ⟨_, g0, g1, g2, g3, g4, g5, g6⟩ := Y9.out
  go_wp2_with fail
  refine hSm.mono ?_
  rintro _ w10 ⟨rfl, h10⟩
  have Y10 := Lib.hid (Y9.out.below h10)
  have P10 := Lib.hid (P9.out.below h10)
  have B10 := Lib.hid (below_step B9.out h10)
  clear h10 Y9 P9 B9 hSm HS g0 g1 g2 g3 g4 g5 g6
  cases v with
  | false =>
    clear hv
    go_wp2
    go_ret
    exact ⟨rfl, B10.out⟩
  | true =>
    have hsm := hv.1 rfl
    clear hv
    by_cases hn12 : (12 : Int) < (n : Int)
    · have d1 : decide ((12 : Int) < (n : Int)) = true := decide_eq_true hn12
      clear hsm
      go_wp2
      go_ret
      exact ⟨rfl, B10.out⟩
    have d1 : decide ((12 : Int) < (n : Int)) = false := decide_eq_false hn12
    have hn13 : n ≤ 12 := by omega
    have HSM := Lib.hid hsm
    clear hsm hn12
    obtain ⟨_, g0, g1, g2, g3, g4, g5, g6⟩ := Y10.out
    have hRt := RefRight_any g w10
    unfold Gm.val at hRt
    go_wp2_with fail
    clear g0 g1 g2 g3 g4 g5 g6
    refine hRt.mono ?_
    rintro _ w11 ⟨rfl, h11⟩
    have Y11 := Lib.hid (Y10.out.below h11)
    have P11 := Lib.hid (P10.out.below h11)
    have B11 := Lib.hid (below_step B10.out h11)
    clear h11 hRt Y10 P10 B10
    cases ho : g.ok with
    | false =>
      go_wp2
      go_ret
      exact ⟨rfl, B11.out⟩
    | true =>
      have HO := Lib.hid ho
      have hbd := Gm.bounds_of ho
      have hraw : g.raw = g.c * (g.k + 2) + 31 := by unfold Gm.raw; rw [if_pos ho]
      have hck : 0 ≤ g.c * (g.k + 2) := Int.mul_nonneg (by omega) (by omega)
      have hr1000 := raw_small ho HSM.out
      obtain ⟨N, hNN⟩ : ∃ N, N = g.raw.toNat := ⟨_, rfl⟩
      obtain ⟨B, hBB⟩ : ∃ B, B = g.b.toNat := ⟨_, rfl⟩
      obtain ⟨P, hPP⟩ : ∃ P, P = g.s.toNat := ⟨_, rfl⟩
      obtain ⟨R, hRR⟩ : ∃ R, R = (g.b * g.s).toNat := ⟨_, rfl⟩
      have HB0 := Lib.hid (show g.b = (B : Int) by omega)
      have HP0 := Lib.hid (show g.s = (P : Int) by omega)
      have HN := Lib.hid (show g.raw = (N : Int) by omega)
      have HNN := Lib.hid hNN
      have HBB := Lib.hid hBB
      have HPP := Lib.hid hPP
      have HRR := Lib.hid hRR
      have HRB := Lib.hid (show R = B * P by
        have e : g.b * g.s = ((B * P : Nat) : Int) := by rw [HB0.out, HP0.out]; push_cast; rfl
        rw [hRR, e, Int.toNat_natCast])
      have hB1 : 2 ≤ B ∧ B ≤ 256 := by omega
      have hP1 : 4 ≤ P ∧ P ≤ 64 := by omega
      have hN1 : 0 < N := by omega
      have hN3 : N ≤ 1000 := by omega
      have hR6 : R ≤ 1000000 := by
        have h1 : B * P ≤ 256 * 64 := Nat.mul_le_mul hB1.2 hP1.2
        have := HRB.out
        omega
      have hR0 : 0 < R := by
        rw [HRB.out]
        exact Nat.mul_pos (by omega) (by omega)
      have hw5 : IntKind.i64.wrap ((B : Int) * (P : Int)) = (R : Int) := by
        have e : ((B : Int) * (P : Int)) = (R : Int) := by rw [HRB.out]; push_cast; rfl
        rw [e]
        exact IntWalk.i64_in _ (by omega)
      have hNw := New_nil g w11 ho hr1000
      obtain ⟨_, g0, g1, g2, g3, g4, g5, g6⟩ := Y11.out
      unfold Gm.val at hNw
      clear ho hbd hraw hck hNN hBB hPP hRR hr1000
      go_wp2_with fail
      clear g0 g1 g2 g3 g4 g5 g6
      refine hNw.mono ?_
      rintro _ w12 ⟨p, q, r, rfl, h12, b12, hp, hq, hr⟩
      have A12 := Lib.hid h12
      have Y12 := Lib.hid (Y11.out.below b12)
      have P12 := Lib.hid (P11.out.below b12)
      have B12 := Lib.hid (below_step B11.out b12)
      have hsz11 := P11.out.lt
      have hp0 : w.heap.size + 2 ≤ p := by omega
      have hq0 : w.heap.size + 2 ≤ q := by omega
      have hr0 : w.heap.size + 2 ≤ r := by omega
      obtain ⟨s0, hs0⟩ : ∃ s0, s0 = St.new g.raw.toNat (g.b * g.s).toNat g.s.toNat g.b.toNat [] := ⟨_, rfl⟩
      have A12 := Lib.hid (show AR (fun j => j = p ∨ j = q ∨ j = r) w12 p q r g s0 by rw [hs0]; exact h12)
      have E12 := Lib.hid (show s0.er = List.replicate g.b.toNat 0 by rw [hs0]; rfl)
      have AT0 := Lib.hid (P12.out.cell_at 0 (.int .u8 (a0 : Int)) rfl)
      have AT1 := Lib.hid (P12.out.cell_at 1 (.int .u8 (a1 : Int)) rfl)
      have AT2 := Lib.hid (P12.out.cell_at 2 (.int .u8 (a2 : Int)) rfl)
      clear h12 b12 hp hq hr hNw hsz11 hs0 Y11 P11 B11 P12
      obtain ⟨row, hrow⟩ : ∃ row, row = a0 % R := ⟨_, rfl⟩
      obtain ⟨other, hother⟩ : ∃ other, other = a1 % R := ⟨_, rfl⟩
      have hrl : row < R := by rw [hrow]; exact Nat.mod_lt _ hR0
      have hol : other < R := by rw [hother]; exact Nat.mod_lt _ hR0
      have q0 : (a0 : Int).tmod (R : Int) = (row : Int) := by rw [hrow, Int.tmod_eq_emod_of_nonneg (by omega)]; rfl
      have q1 : (a1 : Int).tmod (R : Int) = (other : Int) := by rw [hother, Int.tmod_eq_emod_of_nonneg (by omega)]; rfl
      have q0' : (a0 : Int) % (R : Int) = (row : Int) := by rw [hrow]; rfl
      have q1' : (a1 : Int) % (R : Int) = (other : Int) := by rw [hother]; rfl
      have hRz : ((R : Int) == 0) = false := by rw [beq_eq_false_iff_ne]; omega
      have hRz' : ¬ (R : Int) = 0 := by omega
      have hRz2 : ¬ R = 0 := by omega
      have HQ0 := Lib.hid (show (IntKind.i64.wrap (a0 : Int)).tmod (R : Int) = (row : Int) by rw [IntWalk.i64_in _ (by omega)]; exact q0)
      have HQ1 := Lib.hid (show (IntKind.i64.wrap (a1 : Int)).tmod (R : Int) = (other : Int) by rw [IntWalk.i64_in _ (by omega)]; exact q1)
      clear hrow hother q0' q1'
      obtain ⟨_, g0, g1, g2, g3, g4, g5, g6⟩ := Y12.out
      rw [HB0.out] at g1
      rw [HP0.out] at g2
      go_wp2
      clear g0 g1 g2 g3 g4 g5 g6
      refine wp_region_noPanic ?_
      refine wp_region_held_drew (S := fun w' => Below w12.heap.size w12 w') (by kernel_rfl) ((Below.refl _ _).drew) (fun C0 => ?_)
      refine wpAnyH_take (i := 0) (oi := { dst := some 85, op := Op.indexAddr 44 (Operand.tmp 5) (Operand.const (Value.int IntKind.i64 0)), type := 0, pos := "law.go:112", after := #[], guard := none }) (v := ?_) rfl (by kernel_rfl) (by kernel_rfl) (by kernel_rfl) (fun _ _ _ h => h) (Or.inl ⟨by rfl, ?_⟩) C0 ?_
      rotate_left
      · intro W' hSw
        clear hSw
        go_simp <;> with_reducible rfl
      try simp only [Act.put, List.setIfInBounds_toArray, List.set_cons_zero, List.set_cons_succ]
      refine wpAnyH_take (i := 1) (oi := { dst := some 86, op := Op.load 5 (Operand.tmp 85), type := 5, pos := "law.go:112", after := #[{ on := 0, ground := Ground.data }], guard := none }) (v := ?_) rfl (by kernel_rfl) (by kernel_rfl) (by kernel_rfl) (fun _ _ _ h => h) (Or.inl ⟨by rfl, ?_⟩) C0 ?_
      rotate_left
      · intro W' hSw
        have y := (hSw.cell (World.block_lt_of_cell? _ _ AT0.out)).trans AT0.out
        clear hSw
        go_simp <;> with_reducible rfl
      try simp only [Act.put, List.setIfInBounds_toArray, List.set_cons_zero, List.set_cons_succ]
      refine wpAnyH_take (i := 2) (oi := { dst := some 87, op := Op.convert 5 3 (Operand.tmp 86), type := 3, pos := "law.go:112", after := #[{ on := 1, ground := Ground.data }], guard := none }) (v := ?_) rfl (by kernel_rfl) (by kernel_rfl) (by kernel_rfl) (fun _ _ _ h => h) (Or.inl ⟨by rfl, ?_⟩) C0 ?_
      rotate_left
      · intro W' hSw
        clear hSw
        go_simp <;> with_reducible rfl
      try simp only [Act.put, List.setIfInBounds_toArray, List.set_cons_zero, List.set_cons_succ]
      refine wpAnyH_take (i := 3) (oi := { dst := some 88, op := Op.move (Operand.tmp 10), type := 3, pos := "law.go:112", after := #[], guard := none }) (v := ?_) rfl (by kernel_rfl) (by kernel_rfl) (by kernel_rfl) (fun _ _ _ h => h) (Or.inl ⟨by rfl, ?_⟩) C0 ?_
      rotate_left
      · intro W' hSw
        clear hSw
        go_simp <;> with_reducible rfl
      try simp only [Act.put, List.setIfInBounds_toArray, List.set_cons_zero, List.set_cons_succ]
      refine wpAnyH_take (i := 4) (oi := { dst := some 89, op := Op.binOp BinOp.rem 3 (Operand.tmp 87) (Operand.tmp 88) 3, type := 3, pos := "law.go:112", after := #[{ on := 2, ground := Ground.data }, { on := 3, ground := Ground.data }], guard := none }) (v := ?_) rfl (by kernel_rfl) (by kernel_rfl) (by kernel_rfl) (fun _ _ _ h => h) (Or.inl ⟨by rfl, ?_⟩) C0 ?_
      rotate_left
      · intro W' hSw
        clear hSw
        go_simp <;> with_reducible rfl
      try simp only [Act.put, List.setIfInBounds_toArray, List.set_cons_zero, List.set_cons_succ]
      refine wpAnyH_take (i := 5) (oi := { dst := some 90, op := Op.indexAddr 44 (Operand.tmp 5) (Operand.const (Value.int IntKind.i64 1)), type := 0, pos := "law.go:112", after := #[{ on := 10, ground := Ground.gcOnly Departure.lateStores }], guard := none }) (v := ?_) rfl (by kernel_rfl) (by kernel_rfl) (by kernel_rfl) (fun _ _ _ h => h) (Or.inl ⟨by rfl, ?_⟩) C0 ?_
      rotate_left
      · intro W' hSw
        clear hSw
        go_simp <;> with_reducible rfl
      try simp only [Act.put, List.setIfInBounds_toArray, List.set_cons_zero, List.set_cons_succ]
      refine wpAnyH_take (i := 6) (oi := { dst := some 91, op := Op.load 5 (Operand.tmp 90), type := 5, pos := "law.go:112", after := #[{ on := 5, ground := Ground.data }, { on := 10, ground := Ground.gcOnly Departure.lateStores }], guard := none }) (v := ?_) rfl (by kernel_rfl) (by kernel_rfl) (by kernel_rfl) (fun _ _ _ h => h) (Or.inl ⟨by rfl, ?_⟩) C0 ?_
      rotate_left
      · intro W' hSw
        have y := (hSw.cell (World.block_lt_of_cell? _ _ AT1.out)).trans AT1.out
        clear hSw
        go_simp <;> with_reducible rfl
      try simp only [Act.put, List.setIfInBounds_toArray, List.set_cons_zero, List.set_cons_succ]
      refine wpAnyH_take (i := 7) (oi := { dst := some 92, op := Op.convert 5 3 (Operand.tmp 91), type := 3, pos := "law.go:112", after := #[{ on := 6, ground := Ground.data }, { on := 10, ground := Ground.gcOnly Departure.lateStores }], guard := none }) (v := ?_) rfl (by kernel_rfl) (by kernel_rfl) (by kernel_rfl) (fun _ _ _ h => h) (Or.inl ⟨by rfl, ?_⟩) C0 ?_
      rotate_left
      · intro W' hSw
        clear hSw
        go_simp <;> with_reducible rfl
      try simp only [Act.put, List.setIfInBounds_toArray, List.set_cons_zero, List.set_cons_succ]
      refine wpAnyH_take (i := 8) (oi := { dst := some 93, op := Op.move (Operand.tmp 10), type := 3, pos := "law.go:112", after := #[{ on := 10, ground := Ground.gcOnly Departure.lateStores }], guard := none }) (v := ?_) rfl (by kernel_rfl) (by kernel_rfl) (by kernel_rfl) (fun _ _ _ h => h) (Or.inl ⟨by rfl, ?_⟩) C0 ?_
      rotate_left
      · intro W' hSw
        clear hSw
        go_simp <;> with_reducible rfl
      try simp only [Act.put, List.setIfInBounds_toArray, List.set_cons_zero, List.set_cons_succ]
      refine wpAnyH_take (i := 9) (oi := { dst := some 94, op := Op.binOp BinOp.rem 3 (Operand.tmp 92) (Operand.tmp 93) 3, type := 3, pos := "law.go:112", after := #[{ on := 7, ground := Ground.data }, { on := 8, ground := Ground.data }, { on := 10, ground := Ground.gcOnly Departure.lateStores }], guard := none }) (v := ?_) rfl (by kernel_rfl) (by kernel_rfl) (by kernel_rfl) (fun _ _ _ h => h) (Or.inl ⟨by rfl, ?_⟩) C0 ?_
      rotate_left
      · intro W' hSw
        clear hSw
        go_simp <;> with_reducible rfl
      try simp only [Act.put, List.setIfInBounds_toArray, List.set_cons_zero, List.set_cons_succ]
      refine wpAnyH_take (i := 10) (oi := { dst := some 11, op := Op.assign (Operand.tmp 89), type := 3, pos := "law.go:112", after := #[{ on := 4, ground := Ground.data }, { on := 0, ground := Ground.phase }, { on := 1, ground := Ground.phase }, { on := 2, ground := Ground.phase }, { on := 3, ground := Ground.phase }, { on := 4, ground := Ground.phase }, { on := 5, ground := Ground.textOnly Departure.lateStores }, { on := 6, ground := Ground.textOnly Departure.lateStores }, { on := 7, ground := Ground.textOnly Departure.lateStores }, { on := 8, ground := Ground.textOnly Departure.lateStores }, { on := 9, ground := Ground.textOnly Departure.lateStores }], guard := none }) (v := ?_) rfl (by kernel_rfl) (by kernel_rfl) (by kernel_rfl) (fun _ _ _ h => h) (Or.inl ⟨by rfl, ?_⟩) C0 ?_
      rotate_left
      · intro W' hSw
        clear hSw
        go_simp <;> with_reducible rfl
      try simp only [Act.put, List.setIfInBounds_toArray, List.set_cons_zero, List.set_cons_succ]
      refine wpAnyH_take (i := 11) (oi := { dst := some 12, op := Op.assign (Operand.tmp 94), type := 3, pos := "law.go:112", after := #[{ on := 9, ground := Ground.data }, { on := 10, ground := Ground.chain }, { on := 0, ground := Ground.phase }, { on := 1, ground := Ground.phase }, { on := 2, ground := Ground.phase }, { on := 3, ground := Ground.phase }, { on := 4, ground := Ground.phase }, { on := 5, ground := Ground.phase }, { on := 6, ground := Ground.phase }, { on := 7, ground := Ground.phase }, { on := 8, ground := Ground.phase }, { on := 9, ground := Ground.phase }, { on := 10, ground := Ground.phase }], guard := none }) (v := ?_) rfl (by kernel_rfl) (by kernel_rfl) (by kernel_rfl) (fun _ _ _ h => h) (Or.inl ⟨by rfl, ?_⟩) C0 ?_
      rotate_left
      · intro W' hSw
        clear hSw
        go_simp <;> with_reducible rfl
      try simp only [Act.put, List.setIfInBounds_toArray, List.set_cons_zero, List.set_cons_succ]
      refine wpAnyH_done (by kernel_rfl) ?_ _
      refine NoPanic.normal ?_
      rw [HQ0.out, HQ1.out]
      have B13 := Lib.hid (below_step B12.out C0)
      have A13 := Lib.hid (A12.out.below C0)
      have Y13 := Lib.hid (Y12.out.below C0)
      have AT2' := Lib.hid ((C0.cell (World.block_lt_of_cell? _ _ AT2.out)).trans AT2.out)
      clear A12 Y12 B12 AT0 AT1 AT2 q0 q1 HQ0 HQ1
      rename World => w13
      have e0 : IntKind.i64.wrap (a0 : Int) = (a0 : Int) := IntWalk.i64_in _ (by omega)
      have e1 : IntKind.i64.wrap (a1 : Int) = (a1 : Int) := IntWalk.i64_in _ (by omega)
      rw [e0, e1]
      clear e0 e1
      go_wp2
      go_loopw [14, 15, 16, 17, 18, 19, 97] (fun _ _ _ _ _ _ i wr => ∃ (f : Nat) (s : St), f ≤ n ∧ i = .int .i64 (f : Int) ∧ Hid (AR (fun j => j = p ∨ j = q ∨ j = r) wr p q r g s) ∧ Hid (s.er = List.replicate g.b.toNat 0) ∧ Hid (GBox wr w.heap.size g) ∧ Hid (wr.cell? ⟨w.heap.size + 1, 2, none⟩ = some (.int .u8 (a2 : Int))) ∧ Hid (Below w.heap.size w wr)) (fun _ _ _ _ _ _ i _ => n - (intOf i).toNat)
      case atStart => exact ⟨0, s0, Nat.zero_le _, rfl, A13, E12, Y13, AT2', B13⟩
      case round =>
        clear A13 E12 Y13 AT2' B13
        obtain ⟨f, s, hf, rfl, HA, HE, HY0, HX0, BWR⟩ := hrel
        rename World => wr
        have hnr := HA.out.nr
        rw [← HRR.out] at hnr
        obtain ⟨y, hy⟩ : ∃ y, s.rows[row]? = some y := ⟨_, List.getElem?_eq_getElem (by omega)⟩
        obtain ⟨y2, hy2⟩ : ∃ y2, s.rows[other]? = some y2 := ⟨_, List.getElem?_eq_getElem (by omega)⟩
        have HY := Lib.hid hy
        have HY2 := Lib.hid hy2
        obtain ⟨_, _, _, _, _, _, _, _, hw1, _⟩ := HA.out.row hy
        obtain ⟨_, _, _, _, _, _, _, _, hw2, _⟩ := HA.out.row hy2
        have hyl : Hid (y.raw.length = N) := Lib.hid (by rw [HNN.out]; exact hw1.1)
        have hyl2 : Hid (y2.raw.length = N) := Lib.hid (by rw [HNN.out]; exact hw2.1)
        have hl1 : y.raw.length ≤ 1099511627776 := by rw [hyl.out]; omega
        have hl2 : y2.raw.length ≤ 1099511627776 := by rw [hyl2.out]; omega
        have hq1 := HA.out.lt q (.inr (.inl rfl))
        have hr1 := HA.out.lt r (.inr (.inr rfl))
        clear hy hy2 hw1 hw2 hnr
        by_cases hlt : f < n
        · have d3 : decide ((f : Int) < (n : Int)) = true := decide_eq_true (by omega)
          have i0 : (0 : Int) ≤ (f : Int) := by omega
          have i1 : (f : Int) < (n : Int) := by omega
          obtain ⟨b9, o9, l, m, rfl, hb9, HX9, HM9, hc9, HR9, hmc, hnil9⟩ := HL.out.at_ hlt
          have c9' := (BWR.out.cell hb9).trans hc9
          have RD0 := Lib.hid (HR9.out.below BWR.out)
          obtain ⟨Ad, hAd⟩ : ∃ Ad, Ad = PA f := ⟨_, rfl⟩
          obtain ⟨cd, hcd⟩ : ∃ cd, cd = PC f := ⟨_, rfl⟩
          have FD : Hid (∀ b off, Ad = some ⟨b, off, none⟩ → 0 < m → b < w.heap.size) := Lib.hid (fun b off e h9 => HR9.out.lt_block h9 b off (hAd ▸ e))
          rw [← hAd, ← hcd] at c9'
          rw [← hAd] at RD0
          clear hc9 HR9 hmc hnil9 hAd hcd HX9 HM9
          by_cases h400 : (400 : Int) < (m : Int)
          · have d4 : decide ((400 : Int) < (m : Int)) = true := decide_eq_true h400
            go_wp2
            go_ret
            exact ⟨rfl, BWR.out⟩
          have d4 : decide ((400 : Int) < (m : Int)) = false := decide_eq_false h400
          have hm9 : m ≤ 1099511627776 := by omega
          go_wp2_with fail
          refine (Raw_fresh HA.out HY.out).mono ?_
          rintro _ wa ⟨A1, c1, rfl, ra, ha, fa⟩
          have R1a := Lib.hid ra
          have Aa := Lib.hid (HA.out.below ha)
          have Ya := Lib.hid (HY0.out.below ha)
          have Xa := Lib.hid ((ha.cell (World.block_lt_of_cell? _ _ HX0.out)).trans HX0.out)
          have RDa := Lib.hid (RD0.out.below ha)
          have Ba := Lib.hid (below_step BWR.out ha)
          have F1 : Hid (∀ b off, A1 = some ⟨b, off, none⟩ → wr.heap.size ≤ b) := fa
          have hwa := ha.size
          clear ra ha fa HA HY0 HX0 RD0 c9'
          go_wp2_with fail
          refine (Raw_fresh Aa.out HY2.out).mono ?_
          rintro _ wb ⟨A2, c2, rfl, rb, hb, fb⟩
          have R2b := Lib.hid rb
          have R1b := Lib.hid (R1a.out.below hb)
          have Ab := Lib.hid (Aa.out.below hb)
          have Yb := Lib.hid (Ya.out.below hb)
          have Xb := Lib.hid ((hb.cell (World.block_lt_of_cell? _ _ Xa.out)).trans Xa.out)
          have RDb := Lib.hid (RDa.out.below hb)
          have Bb := Lib.hid (below_step Ba.out hb)
          have F2 : Hid (∀ b off, A2 = some ⟨b, off, none⟩ → wr.heap.size ≤ b) := Lib.hid (fun b off e => Nat.le_trans hwa (fb b off e))
          have hwb := hb.size
          clear rb hb fb Aa Ya Xa RDa Ba R1a
          go_wp2_with fail
          refine (Programs_yes Ab.out HY.out).mono ?_
          rintro _ w3 ⟨rfl, h3⟩
          have R1 := Lib.hid (R1b.out.below h3)
          have R2 := Lib.hid (R2b.out.below h3)
          have A3 := Lib.hid (Ab.out.below h3)
          have Y3 := Lib.hid (Yb.out.below h3)
          have X3 := Lib.hid ((h3.cell (World.block_lt_of_cell? _ _ Xb.out)).trans Xb.out)
          have RD3 := Lib.hid (RDb.out.below h3)
          have B3 := Lib.hid (below_step Bb.out h3)
          have hw3 := h3.size
          clear h3 R1b R2b Ab Yb Xb RDb Bb
          by_cases hfit : m = N
          · subst hfit
            have hl5 : (andL y.raw l).length ≤ 1099511627776 := by rw [andL_length, RD3.out.len, hyl.out]; omega
            have hfit := HNN.out
            have HFIT := Lib.hid hfit
            clear hfit
            by_cases hne : row = other
            · subst hne
              go_wp2_with fail
              refine (Program_yes A3.out HY.out Ad m cd l RD3.out HFIT.out).mono ?_
              rintro _ w4 ⟨rfl, h4, b4⟩
              have S4 := Lib.hid (show (s.prog row l).rows[row]? = some ⟨andL y.raw l, inc y.n, y.t⟩ by unfold St.prog; rw [sec_get, HY.out, Option.map_some, if_pos (by omega)]; rfl)
              have E4 := Lib.hid (show (s.prog row l).er = List.replicate g.b.toNat 0 from HE.out)
              generalize hs' : s.prog row l = s' at *
              have A4 := Lib.hid h4
              have Y4 := Lib.hid (Y3.out.btw6 b4 (by omega))
              have W1 := Lib.hid (R1.out.btw0 b4 (fun b off e _ h => by have := F1.out b off e; omega))
              have W2 := Lib.hid (R2.out.btw0 b4 (fun b off e _ h => by have := F2.out b off e; omega))
              have W3 := Lib.hid (RD3.out.btw0 b4 (fun b off e h0 h => by have := FD.out b off e h0; omega))
              have X4 := Lib.hid (cell_btw b4 (by omega) X3.out)
              have B4 := Lib.hid (B3.out.trans (b4.below (S := w.heap.size) (fun j e => by subst e; omega) B3.out.size))
              clear h4 b4 R1 R2 RD3 A3 Y3 B3 X3 hs' 
              go_wp2_with fail
              refine (Raw_yes A4.out S4.out).mono ?_
              rintro _ w5 ⟨A5, c5, rfl, r5, h5⟩
              have R5 := Lib.hid r5
              have A5' := Lib.hid (A4.out.below h5)
              have Y5 := Lib.hid (Y4.out.below h5)
              have V1 := Lib.hid (W1.out.below h5)
              have V2 := Lib.hid (W2.out.below h5)
              have V3 := Lib.hid (W3.out.below h5)
              have X5 := Lib.hid ((h5.cell (World.block_lt_of_cell? _ _ X4.out)).trans X4.out)
              have B5 := Lib.hid (below_step B4.out h5)
              clear r5 h5 A4 Y4 W1 W2 W3 X4 B4
              obtain ⟨_, g0, g1, g2, g3, g4, g5, g6⟩ := Y5.out
              have hRw := RefRaw_any g w5 HO.out
              rw [HN.out] at hRw
              unfold Gm.val at hRw
              go_wp2_with fail
              clear g0 g1 g2 g3 g4 g5 g6
              refine hRw.mono ?_
              rintro _ w6 ⟨rfl, h6⟩
              have R6 := Lib.hid (R5.out.below h6)
              have A6 := Lib.hid (A5'.out.below h6)
              have Y6 := Lib.hid (Y5.out.below h6)
              have U1 := Lib.hid (V1.out.below h6)
              have U2 := Lib.hid (V2.out.below h6)
              have U3 := Lib.hid (V3.out.below h6)
              have X6 := Lib.hid ((h6.cell (World.block_lt_of_cell? _ _ X5.out)).trans X5.out)
              have B6 := Lib.hid (below_step B5.out h6)
              clear h6 hRw R5 A5' Y5 V1 V2 V3 X5 B5
              go_wp2_with fail
              refine (And_makes A1 A5 y.raw.length c1 (andL y.raw l).length c5 y.raw (andL y.raw l) _ U1.out R6.out hl1 hl5).mono ?_
              rintro _ w7 ⟨A7, c7, rfl, r7, h7⟩
              rw [andL_absorb1] at r7 ⊢
              have R7 := Lib.hid r7
              have T7 := Lib.hid (R6.out.below h7)
              have A7' := Lib.hid (A6.out.below h7)
              have Y7 := Lib.hid (Y6.out.below h7)
              have V1 := Lib.hid (U1.out.below h7)
              have V2 := Lib.hid (U2.out.below h7)
              have V3 := Lib.hid (U3.out.below h7)
              have X7 := Lib.hid ((h7.cell (World.block_lt_of_cell? _ _ X6.out)).trans X6.out)
              have B7 := Lib.hid (below_step B6.out h7)
              clear r7 h7 R6 A6 Y6 U1 U2 U3 X6 B6
              go_wp2_with fail
              refine (Same_gives A7 A5 (andL y.raw l).length c7 (andL y.raw l).length c5 (andL y.raw l) _ R7.out T7.out hl5 hl5).mono ?_
              rintro _ w8 ⟨rfl, h8⟩
              have R8' := Lib.hid (T7.out.below h8)
              have A8 := Lib.hid (A7'.out.below h8)
              have Y8 := Lib.hid (Y7.out.below h8)
              have U1 := Lib.hid (V1.out.below h8)
              have U2 := Lib.hid (V2.out.below h8)
              have U3 := Lib.hid (V3.out.below h8)
              have X8 := Lib.hid ((h8.cell (World.block_lt_of_cell? _ _ X7.out)).trans X7.out)
              have B8 := Lib.hid (below_step B7.out h8)
              clear h8 R7 T7 A7' Y7 V1 V2 V3 X7 B7
              have hinc : (inc y.n == wrap64 (y.n + 1)) = true := by unfold inc; simp
              go_wp2_with fail
              refine (Programs_yes A8.out S4.out).mono ?_
              rintro _ w11 ⟨rfl, h11⟩
              have R11 := Lib.hid (R8'.out.below h11)
              have A11 := Lib.hid (A8.out.below h11)
              have Y11 := Lib.hid (Y8.out.below h11)
              have V3 := Lib.hid (U3.out.below h11)
              have X11 := Lib.hid ((h11.cell (World.block_lt_of_cell? _ _ X8.out)).trans X8.out)
              have B11 := Lib.hid (below_step B8.out h11)
              clear h11 R8' A8 Y8 U1 U3 X8 B8
              go_wp2_with fail
              refine (And_makes A5 Ad (andL y.raw l).length c5 m cd (andL y.raw l) l _ R11.out V3.out hl5 hm9).mono ?_
              rintro _ w12' ⟨A12', c12', rfl, r12, h12⟩
              rw [andL_absorb2] at r12 ⊢
              have R12 := Lib.hid r12
              have T12 := Lib.hid (R11.out.below h12)
              have A12'' := Lib.hid (A11.out.below h12)
              have Y12' := Lib.hid (Y11.out.below h12)
              have X12 := Lib.hid ((h12.cell (World.block_lt_of_cell? _ _ X11.out)).trans X11.out)
              have B12' := Lib.hid (below_step B11.out h12)
              clear r12 h12 R11 A11 Y11 V3 X11 B11
              go_wp2_with fail
              refine (Same_gives A12' A5 (andL y.raw l).length c12' (andL y.raw l).length c5 (andL y.raw l) _ R12.out T12.out hl5 hl5).mono ?_
              rintro _ w14 ⟨rfl, h14⟩
              have A14 := Lib.hid (A12''.out.below h14)
              have Y14 := Lib.hid (Y12'.out.below h14)
              have X14 := Lib.hid ((h14.cell (World.block_lt_of_cell? _ _ X12.out)).trans X12.out)
              have B14 := Lib.hid (below_step B12'.out h14)
              clear h14 R12 T12 A12'' Y12' X12 B12'
              go_wp2
              go_roundw
              case rel => first | exact ⟨f + 1, s', by omega, by go_num, A14, E4, Y14, X14, B14⟩ | exact ⟨f + 1, s', by omega, by go_num, A14, E4, Y14, X14⟩ | exact ⟨f + 1, s', by omega, by go_num, A14, E4⟩
              case measure => simp [intOf]; omega
            · have hro : ((row : Int) == (other : Int)) = false := by rw [beq_eq_false_iff_ne]; omega
              go_wp2_with fail
              refine (Program_yes A3.out HY.out Ad m cd l RD3.out HFIT.out).mono ?_
              rintro _ w4 ⟨rfl, h4, b4⟩
              have S4 := Lib.hid (show (s.prog row l).rows[row]? = some ⟨andL y.raw l, inc y.n, y.t⟩ by unfold St.prog; rw [sec_get, HY.out, Option.map_some, if_pos (by omega)]; rfl)
              have E4 := Lib.hid (show (s.prog row l).er = List.replicate g.b.toNat 0 from HE.out)
              have hy2' : (s.prog row l).rows[other]? = some y2 := by
                unfold St.prog
                rw [sec_get, HY2.out, Option.map_some, if_neg (by omega)]
              have HY2' := Lib.hid hy2'
              clear hy2'
              generalize hs' : s.prog row l = s' at *
              have A4 := Lib.hid h4
              have Y4 := Lib.hid (Y3.out.btw6 b4 (by omega))
              have W1 := Lib.hid (R1.out.btw0 b4 (fun b off e _ h => by have := F1.out b off e; omega))
              have W2 := Lib.hid (R2.out.btw0 b4 (fun b off e _ h => by have := F2.out b off e; omega))
              have W3 := Lib.hid (RD3.out.btw0 b4 (fun b off e h0 h => by have := FD.out b off e h0; omega))
              have X4 := Lib.hid (cell_btw b4 (by omega) X3.out)
              have B4 := Lib.hid (B3.out.trans (b4.below (S := w.heap.size) (fun j e => by subst e; omega) B3.out.size))
              clear h4 b4 R1 R2 RD3 A3 Y3 B3 X3 hs' 
              go_wp2_with fail
              refine (Raw_yes A4.out S4.out).mono ?_
              rintro _ w5 ⟨A5, c5, rfl, r5, h5⟩
              have R5 := Lib.hid r5
              have A5' := Lib.hid (A4.out.below h5)
              have Y5 := Lib.hid (Y4.out.below h5)
              have V1 := Lib.hid (W1.out.below h5)
              have V2 := Lib.hid (W2.out.below h5)
              have V3 := Lib.hid (W3.out.below h5)
              have X5 := Lib.hid ((h5.cell (World.block_lt_of_cell? _ _ X4.out)).trans X4.out)
              have B5 := Lib.hid (below_step B4.out h5)
              clear r5 h5 A4 Y4 W1 W2 W3 X4 B4
              obtain ⟨_, g0, g1, g2, g3, g4, g5, g6⟩ := Y5.out
              have hRw := RefRaw_any g w5 HO.out
              rw [HN.out] at hRw
              unfold Gm.val at hRw
              go_wp2_with fail
              clear g0 g1 g2 g3 g4 g5 g6
              refine hRw.mono ?_
              rintro _ w6 ⟨rfl, h6⟩
              have R6 := Lib.hid (R5.out.below h6)
              have A6 := Lib.hid (A5'.out.below h6)
              have Y6 := Lib.hid (Y5.out.below h6)
              have U1 := Lib.hid (V1.out.below h6)
              have U2 := Lib.hid (V2.out.below h6)
              have U3 := Lib.hid (V3.out.below h6)
              have X6 := Lib.hid ((h6.cell (World.block_lt_of_cell? _ _ X5.out)).trans X5.out)
              have B6 := Lib.hid (below_step B5.out h6)
              clear h6 hRw R5 A5' Y5 V1 V2 V3 X5 B5
              go_wp2_with fail
              refine (And_makes A1 A5 y.raw.length c1 (andL y.raw l).length c5 y.raw (andL y.raw l) _ U1.out R6.out hl1 hl5).mono ?_
              rintro _ w7 ⟨A7, c7, rfl, r7, h7⟩
              rw [andL_absorb1] at r7 ⊢
              have R7 := Lib.hid r7
              have T7 := Lib.hid (R6.out.below h7)
              have A7' := Lib.hid (A6.out.below h7)
              have Y7 := Lib.hid (Y6.out.below h7)
              have V1 := Lib.hid (U1.out.below h7)
              have V2 := Lib.hid (U2.out.below h7)
              have V3 := Lib.hid (U3.out.below h7)
              have X7 := Lib.hid ((h7.cell (World.block_lt_of_cell? _ _ X6.out)).trans X6.out)
              have B7 := Lib.hid (below_step B6.out h7)
              clear r7 h7 R6 A6 Y6 U1 U2 U3 X6 B6
              go_wp2_with fail
              refine (Same_gives A7 A5 (andL y.raw l).length c7 (andL y.raw l).length c5 (andL y.raw l) _ R7.out T7.out hl5 hl5).mono ?_
              rintro _ w8 ⟨rfl, h8⟩
              have R8' := Lib.hid (T7.out.below h8)
              have A8 := Lib.hid (A7'.out.below h8)
              have Y8 := Lib.hid (Y7.out.below h8)
              have U1 := Lib.hid (V1.out.below h8)
              have U2 := Lib.hid (V2.out.below h8)
              have U3 := Lib.hid (V3.out.below h8)
              have X8 := Lib.hid ((h8.cell (World.block_lt_of_cell? _ _ X7.out)).trans X7.out)
              have B8 := Lib.hid (below_step B7.out h8)
              clear h8 R7 T7 A7' Y7 V1 V2 V3 X7 B7
              go_wp2_with fail
              refine (Raw_yes A8.out HY2'.out).mono ?_
              rintro _ w9 ⟨A9, c9, rfl, r9, h9⟩
              have R9 := Lib.hid r9
              have R9' := Lib.hid (R8'.out.below h9)
              have A9' := Lib.hid (A8.out.below h9)
              have Y9 := Lib.hid (Y8.out.below h9)
              have V1 := Lib.hid (U1.out.below h9)
              have V2 := Lib.hid (U2.out.below h9)
              have V3 := Lib.hid (U3.out.below h9)
              have X9 := Lib.hid ((h9.cell (World.block_lt_of_cell? _ _ X8.out)).trans X8.out)
              have B9 := Lib.hid (below_step B8.out h9)
              clear r9 h9 R8' A8 Y8 U1 U2 U3 X8 B8
              go_wp2_with fail
              refine (Same_gives A9 A2 y2.raw.length c9 y2.raw.length c2 y2.raw _ R9.out V2.out hl2 hl2).mono ?_
              rintro _ w10 ⟨rfl, h10⟩
              have R8' := Lib.hid (R9'.out.below h10)
              have A8 := Lib.hid (A9'.out.below h10)
              have Y8 := Lib.hid (Y9.out.below h10)
              have U1 := Lib.hid (V1.out.below h10)
              have U3 := Lib.hid (V3.out.below h10)
              have X8 := Lib.hid ((h10.cell (World.block_lt_of_cell? _ _ X9.out)).trans X9.out)
              have B8 := Lib.hid (below_step B9.out h10)
              clear h10 R9 R9' A9' Y9 V1 V2 V3 X9 B9
              have hinc : (inc y.n == wrap64 (y.n + 1)) = true := by unfold inc; simp
              go_wp2_with fail
              refine (Programs_yes A8.out S4.out).mono ?_
              rintro _ w11 ⟨rfl, h11⟩
              have R11 := Lib.hid (R8'.out.below h11)
              have A11 := Lib.hid (A8.out.below h11)
              have Y11 := Lib.hid (Y8.out.below h11)
              have V3 := Lib.hid (U3.out.below h11)
              have X11 := Lib.hid ((h11.cell (World.block_lt_of_cell? _ _ X8.out)).trans X8.out)
              have B11 := Lib.hid (below_step B8.out h11)
              clear h11 R8' A8 Y8 U1 U3 X8 B8
              go_wp2_with fail
              refine (And_makes A5 Ad (andL y.raw l).length c5 m cd (andL y.raw l) l _ R11.out V3.out hl5 hm9).mono ?_
              rintro _ w12' ⟨A12', c12', rfl, r12, h12⟩
              rw [andL_absorb2] at r12 ⊢
              have R12 := Lib.hid r12
              have T12 := Lib.hid (R11.out.below h12)
              have A12'' := Lib.hid (A11.out.below h12)
              have Y12' := Lib.hid (Y11.out.below h12)
              have X12 := Lib.hid ((h12.cell (World.block_lt_of_cell? _ _ X11.out)).trans X11.out)
              have B12' := Lib.hid (below_step B11.out h12)
              clear r12 h12 R11 A11 Y11 V3 X11 B11
              go_wp2_with fail
              refine (Same_gives A12' A5 (andL y.raw l).length c12' (andL y.raw l).length c5 (andL y.raw l) _ R12.out T12.out hl5 hl5).mono ?_
              rintro _ w14 ⟨rfl, h14⟩
              have A14 := Lib.hid (A12''.out.below h14)
              have Y14 := Lib.hid (Y12'.out.below h14)
              have X14 := Lib.hid ((h14.cell (World.block_lt_of_cell? _ _ X12.out)).trans X12.out)
              have B14 := Lib.hid (below_step B12'.out h14)
              clear h14 R12 T12 A12'' Y12' X12 B12'
              go_wp2
              go_roundw
              case rel => first | exact ⟨f + 1, s', by omega, by go_num, A14, E4, Y14, X14, B14⟩ | exact ⟨f + 1, s', by omega, by go_num, A14, E4, Y14, X14⟩ | exact ⟨f + 1, s', by omega, by go_num, A14, E4⟩
              case measure => simp [intOf]; omega
          · have hbeq : ((m : Int) == (N : Int)) = false := by rw [beq_eq_false_iff_ne]; omega
            have hl5 := hl1
            have HFIT := Lib.hid (show m ≠ g.raw.toNat from fun e => hfit (e.trans HNN.out.symm))
            clear hfit
            by_cases hne : row = other
            · subst hne
              go_wp2_with fail
              refine (Program_no A3.out (row : Int) Ad m cd l RD3.out (.inr HFIT.out)).mono ?_
              rintro _ w4 ⟨rfl, h4'⟩
              have h4 := A3.out.below h4'
              have b4 : Btw (fun j => j = q) w3 w4 := Btw.of_below h4'
              have S4 := Lib.hid HY.out
              have E4 := Lib.hid HE.out
              obtain ⟨s', hs'⟩ : ∃ s', s' = s := ⟨_, rfl⟩
              rw [← hs'] at h4 S4 E4
              have A4 := Lib.hid h4
              have Y4 := Lib.hid (Y3.out.btw6 b4 (by omega))
              have W1 := Lib.hid (R1.out.btw0 b4 (fun b off e _ h => by have := F1.out b off e; omega))
              have W2 := Lib.hid (R2.out.btw0 b4 (fun b off e _ h => by have := F2.out b off e; omega))
              have W3 := Lib.hid (RD3.out.btw0 b4 (fun b off e h0 h => by have := FD.out b off e h0; omega))
              have X4 := Lib.hid (cell_btw b4 (by omega) X3.out)
              have B4 := Lib.hid (B3.out.trans (b4.below (S := w.heap.size) (fun j e => by subst e; omega) B3.out.size))
              clear h4 b4 R1 R2 RD3 A3 Y3 B3 X3 hs' h4'
              go_wp2_with fail
              refine (Raw_yes A4.out S4.out).mono ?_
              rintro _ w5 ⟨A5, c5, rfl, r5, h5⟩
              have R5 := Lib.hid r5
              have A5' := Lib.hid (A4.out.below h5)
              have Y5 := Lib.hid (Y4.out.below h5)
              have V1 := Lib.hid (W1.out.below h5)
              have V2 := Lib.hid (W2.out.below h5)
              have V3 := Lib.hid (W3.out.below h5)
              have X5 := Lib.hid ((h5.cell (World.block_lt_of_cell? _ _ X4.out)).trans X4.out)
              have B5 := Lib.hid (below_step B4.out h5)
              clear r5 h5 A4 Y4 W1 W2 W3 X4 B4
              obtain ⟨_, g0, g1, g2, g3, g4, g5, g6⟩ := Y5.out
              have hRw := RefRaw_any g w5 HO.out
              rw [HN.out] at hRw
              unfold Gm.val at hRw
              go_wp2_with fail
              clear g0 g1 g2 g3 g4 g5 g6
              refine hRw.mono ?_
              rintro _ w6 ⟨rfl, h6⟩
              have R6 := Lib.hid (R5.out.below h6)
              have A6 := Lib.hid (A5'.out.below h6)
              have Y6 := Lib.hid (Y5.out.below h6)
              have U1 := Lib.hid (V1.out.below h6)
              have U2 := Lib.hid (V2.out.below h6)
              have U3 := Lib.hid (V3.out.below h6)
              have X6 := Lib.hid ((h6.cell (World.block_lt_of_cell? _ _ X5.out)).trans X5.out)
              have B6 := Lib.hid (below_step B5.out h6)
              clear h6 hRw R5 A5' Y5 V1 V2 V3 X5 B5
              go_wp2_with fail
              refine (And_makes A1 A5 y.raw.length c1 y.raw.length c5 y.raw y.raw _ U1.out R6.out hl1 hl5).mono ?_
              rintro _ w7 ⟨A7, c7, rfl, r7, h7⟩
              rw [andL_idem] at r7 ⊢
              have R7 := Lib.hid r7
              have T7 := Lib.hid (R6.out.below h7)
              have A7' := Lib.hid (A6.out.below h7)
              have Y7 := Lib.hid (Y6.out.below h7)
              have V1 := Lib.hid (U1.out.below h7)
              have V2 := Lib.hid (U2.out.below h7)
              have V3 := Lib.hid (U3.out.below h7)
              have X7 := Lib.hid ((h7.cell (World.block_lt_of_cell? _ _ X6.out)).trans X6.out)
              have B7 := Lib.hid (below_step B6.out h7)
              clear r7 h7 R6 A6 Y6 U1 U2 U3 X6 B6
              go_wp2_with fail
              refine (Same_gives A7 A5 y.raw.length c7 y.raw.length c5 y.raw _ R7.out T7.out hl5 hl5).mono ?_
              rintro _ w8 ⟨rfl, h8⟩
              have R8' := Lib.hid (T7.out.below h8)
              have A8 := Lib.hid (A7'.out.below h8)
              have Y8 := Lib.hid (Y7.out.below h8)
              have U1 := Lib.hid (V1.out.below h8)
              have U2 := Lib.hid (V2.out.below h8)
              have U3 := Lib.hid (V3.out.below h8)
              have X8 := Lib.hid ((h8.cell (World.block_lt_of_cell? _ _ X7.out)).trans X7.out)
              have B8 := Lib.hid (below_step B7.out h8)
              clear h8 R7 T7 A7' Y7 V1 V2 V3 X7 B7
              go_wp2_with fail
              refine (Same_gives A1 A5 y.raw.length c1 y.raw.length c5 y.raw _ U1.out R8'.out hl1 hl1).mono ?_
              rintro _ w14 ⟨rfl, h14⟩
              have A14 := Lib.hid (A8.out.below h14)
              have Y14 := Lib.hid (Y8.out.below h14)
              have X14 := Lib.hid ((h14.cell (World.block_lt_of_cell? _ _ X8.out)).trans X8.out)
              have B14 := Lib.hid (below_step B8.out h14)
              clear h14 R8' A8 Y8 U1 U3 X8 B8
              go_wp2
              go_roundw
              case rel => first | exact ⟨f + 1, s', by omega, by go_num, A14, E4, Y14, X14, B14⟩ | exact ⟨f + 1, s', by omega, by go_num, A14, E4, Y14, X14⟩ | exact ⟨f + 1, s', by omega, by go_num, A14, E4⟩
              case measure => simp [intOf]; omega
            · have hro : ((row : Int) == (other : Int)) = false := by rw [beq_eq_false_iff_ne]; omega
              go_wp2_with fail
              refine (Program_no A3.out (row : Int) Ad m cd l RD3.out (.inr HFIT.out)).mono ?_
              rintro _ w4 ⟨rfl, h4'⟩
              have h4 := A3.out.below h4'
              have b4 : Btw (fun j => j = q) w3 w4 := Btw.of_below h4'
              have S4 := Lib.hid HY.out
              have E4 := Lib.hid HE.out
              have HY2' := Lib.hid HY2.out
              obtain ⟨s', hs'⟩ : ∃ s', s' = s := ⟨_, rfl⟩
              rw [← hs'] at h4 S4 E4 HY2'
              have A4 := Lib.hid h4
              have Y4 := Lib.hid (Y3.out.btw6 b4 (by omega))
              have W1 := Lib.hid (R1.out.btw0 b4 (fun b off e _ h => by have := F1.out b off e; omega))
              have W2 := Lib.hid (R2.out.btw0 b4 (fun b off e _ h => by have := F2.out b off e; omega))
              have W3 := Lib.hid (RD3.out.btw0 b4 (fun b off e h0 h => by have := FD.out b off e h0; omega))
              have X4 := Lib.hid (cell_btw b4 (by omega) X3.out)
              have B4 := Lib.hid (B3.out.trans (b4.below (S := w.heap.size) (fun j e => by subst e; omega) B3.out.size))
              clear h4 b4 R1 R2 RD3 A3 Y3 B3 X3 hs' h4'
              go_wp2_with fail
              refine (Raw_yes A4.out S4.out).mono ?_
              rintro _ w5 ⟨A5, c5, rfl, r5, h5⟩
              have R5 := Lib.hid r5
              have A5' := Lib.hid (A4.out.below h5)
              have Y5 := Lib.hid (Y4.out.below h5)
              have V1 := Lib.hid (W1.out.below h5)
              have V2 := Lib.hid (W2.out.below h5)
              have V3 := Lib.hid (W3.out.below h5)
              have X5 := Lib.hid ((h5.cell (World.block_lt_of_cell? _ _ X4.out)).trans X4.out)
              have B5 := Lib.hid (below_step B4.out h5)
              clear r5 h5 A4 Y4 W1 W2 W3 X4 B4
              obtain ⟨_, g0, g1, g2, g3, g4, g5, g6⟩ := Y5.out
              have hRw := RefRaw_any g w5 HO.out
              rw [HN.out] at hRw
              unfold Gm.val at hRw
              go_wp2_with fail
              clear g0 g1 g2 g3 g4 g5 g6
              refine hRw.mono ?_
              rintro _ w6 ⟨rfl, h6⟩
              have R6 := Lib.hid (R5.out.below h6)
              have A6 := Lib.hid (A5'.out.below h6)
              have Y6 := Lib.hid (Y5.out.below h6)
              have U1 := Lib.hid (V1.out.below h6)
              have U2 := Lib.hid (V2.out.below h6)
              have U3 := Lib.hid (V3.out.below h6)
              have X6 := Lib.hid ((h6.cell (World.block_lt_of_cell? _ _ X5.out)).trans X5.out)
              have B6 := Lib.hid (below_step B5.out h6)
              clear h6 hRw R5 A5' Y5 V1 V2 V3 X5 B5
              go_wp2_with fail
              refine (And_makes A1 A5 y.raw.length c1 y.raw.length c5 y.raw y.raw _ U1.out R6.out hl1 hl5).mono ?_
              rintro _ w7 ⟨A7, c7, rfl, r7, h7⟩
              rw [andL_idem] at r7 ⊢
              have R7 := Lib.hid r7
              have T7 := Lib.hid (R6.out.below h7)
              have A7' := Lib.hid (A6.out.below h7)
              have Y7 := Lib.hid (Y6.out.below h7)
              have V1 := Lib.hid (U1.out.below h7)
              have V2 := Lib.hid (U2.out.below h7)
              have V3 := Lib.hid (U3.out.below h7)
              have X7 := Lib.hid ((h7.cell (World.block_lt_of_cell? _ _ X6.out)).trans X6.out)
              have B7 := Lib.hid (below_step B6.out h7)
              clear r7 h7 R6 A6 Y6 U1 U2 U3 X6 B6
              go_wp2_with fail
              refine (Same_gives A7 A5 y.raw.length c7 y.raw.length c5 y.raw _ R7.out T7.out hl5 hl5).mono ?_
              rintro _ w8 ⟨rfl, h8⟩
              have R8' := Lib.hid (T7.out.below h8)
              have A8 := Lib.hid (A7'.out.below h8)
              have Y8 := Lib.hid (Y7.out.below h8)
              have U1 := Lib.hid (V1.out.below h8)
              have U2 := Lib.hid (V2.out.below h8)
              have U3 := Lib.hid (V3.out.below h8)
              have X8 := Lib.hid ((h8.cell (World.block_lt_of_cell? _ _ X7.out)).trans X7.out)
              have B8 := Lib.hid (below_step B7.out h8)
              clear h8 R7 T7 A7' Y7 V1 V2 V3 X7 B7
              go_wp2_with fail
              refine (Raw_yes A8.out HY2'.out).mono ?_
              rintro _ w9 ⟨A9, c9, rfl, r9, h9⟩
              have R9 := Lib.hid r9
              have R9' := Lib.hid (R8'.out.below h9)
              have A9' := Lib.hid (A8.out.below h9)
              have Y9 := Lib.hid (Y8.out.below h9)
              have V1 := Lib.hid (U1.out.below h9)
              have V2 := Lib.hid (U2.out.below h9)
              have V3 := Lib.hid (U3.out.below h9)
              have X9 := Lib.hid ((h9.cell (World.block_lt_of_cell? _ _ X8.out)).trans X8.out)
              have B9 := Lib.hid (below_step B8.out h9)
              clear r9 h9 R8' A8 Y8 U1 U2 U3 X8 B8
              go_wp2_with fail
              refine (Same_gives A9 A2 y2.raw.length c9 y2.raw.length c2 y2.raw _ R9.out V2.out hl2 hl2).mono ?_
              rintro _ w10 ⟨rfl, h10⟩
              have R8' := Lib.hid (R9'.out.below h10)
              have A8 := Lib.hid (A9'.out.below h10)
              have Y8 := Lib.hid (Y9.out.below h10)
              have U1 := Lib.hid (V1.out.below h10)
              have U3 := Lib.hid (V3.out.below h10)
              have X8 := Lib.hid ((h10.cell (World.block_lt_of_cell? _ _ X9.out)).trans X9.out)
              have B8 := Lib.hid (below_step B9.out h10)
              clear h10 R9 R9' A9' Y9 V1 V2 V3 X9 B9
              go_wp2_with fail
              refine (Same_gives A1 A5 y.raw.length c1 y.raw.length c5 y.raw _ U1.out R8'.out hl1 hl1).mono ?_
              rintro _ w14 ⟨rfl, h14⟩
              have A14 := Lib.hid (A8.out.below h14)
              have Y14 := Lib.hid (Y8.out.below h14)
              have X14 := Lib.hid ((h14.cell (World.block_lt_of_cell? _ _ X8.out)).trans X8.out)
              have B14 := Lib.hid (below_step B8.out h14)
              clear h14 R8' A8 Y8 U1 U3 X8 B8
              go_wp2
              go_roundw
              case rel => first | exact ⟨f + 1, s', by omega, by go_num, A14, E4, Y14, X14, B14⟩ | exact ⟨f + 1, s', by omega, by go_num, A14, E4, Y14, X14⟩ | exact ⟨f + 1, s', by omega, by go_num, A14, E4⟩
              case measure => simp [intOf]; omega
        · obtain rfl : f = n := by omega
          have d3 : decide ((f : Int) < (f : Int)) = false := decide_eq_false (by omega)
          go_wp2_with fail
          refine (Raw_fresh HA.out HY2.out).mono ?_
          rintro _ wa ⟨A2, c2, rfl, ra, ha, fa⟩
          have R2 := Lib.hid ra
          have Aa := Lib.hid (HA.out.below ha)
          have Ya := Lib.hid (HY0.out.below ha)
          have Xa := (ha.cell (World.block_lt_of_cell? _ _ HX0.out)).trans HX0.out
          have Ba := Lib.hid (below_step BWR.out ha)
          have F2 : Hid (∀ b off, A2 = some ⟨b, off, none⟩ → wr.heap.size ≤ b) := fa
          clear ra ha fa HA HY0 HX0 BWR
          obtain ⟨blk, hblk⟩ : ∃ blk, blk = a2 % B := ⟨_, rfl⟩
          obtain ⟨oq, hoq⟩ : ∃ oq, oq = other / P := ⟨_, rfl⟩
          have hbl : blk < B := by rw [hblk]; exact Nat.mod_lt _ (by omega)
          have hoB : oq < B := by
            rw [hoq, Nat.div_lt_iff_lt_mul (by omega), ← HRB.out]
            exact hol
          have q2 : (a2 : Int).tmod (B : Int) = (blk : Int) := by rw [hblk, Int.tmod_eq_emod_of_nonneg (by omega)]; rfl
          have q2' : (a2 : Int) % (B : Int) = (blk : Int) := by rw [hblk]; rfl
          have q3' : (other : Int) / (P : Int) = (oq : Int) := by rw [hoq]; rfl
          have q3 : (other : Int).tdiv (P : Int) = (oq : Int) := by rw [hoq, Int.tdiv_eq_ediv_of_nonneg (by omega)]; rfl
          have hoq1 : oq * P ≤ other ∧ other < oq * P + P := by
            have e1 := Nat.div_add_mod other P
            have e2 := Nat.mod_lt other (show 0 < P by omega)
            have e3 : P * (other / P) = other / P * P := Nat.mul_comm _ _
            rw [hoq]
            omega
          have HOQ := Lib.hid hoq1
          have hBz : ((B : Int) == 0) = false := by rw [beq_eq_false_iff_ne]; omega
          have hBz' : ¬ (B : Int) = 0 := by omega
          have hBz2 : ¬ B = 0 := by omega
          have hPz : ((P : Int) == 0) = false := by rw [beq_eq_false_iff_ne]; omega
          have hPz' : ¬ (P : Int) = 0 := by omega
          have hPz2 : ¬ P = 0 := by omega
          have HQ2 := Lib.hid q2'
          have HQ3 := Lib.hid q3'
          have HW3 := Lib.hid (show wrap64 (oq : Int) = (oq : Int) by unfold wrap64; omega)
          clear hblk hoq hoq1 q2' q3' q2 q3
          obtain ⟨_, g0, g1, g2, g3, g4, g5, g6⟩ := Ya.out
          rw [HB0.out] at g1
          go_wp2_with fail
          clear g0 g1 g2 g3 g4 g5 g6 Xa
          rw [HQ2.out]
          refine (Erase_yes Aa.out (k := blk) (by rw [← HBB.out]; exact hbl)).mono ?_
          rintro _ wb ⟨rfl, hb, bb⟩
          have hzb : (s.erase g.raw.toNat g.s.toNat blk).er[blk]? = some 1 := by
            show (sec inc blk 1 s.er)[blk]? = some 1
            rw [sec_get, HE.out, List.getElem?_replicate, if_pos (by rw [← HBB.out]; exact hbl), Option.map_some, if_pos (by omega)]
            show some (inc 0) = some 1
            rw [show inc 0 = 1 by unfold inc wrap64; omega]
          have hzo : oq ≠ blk → (s.erase g.raw.toNat g.s.toNat blk).er[oq]? = some 0 := fun h9 => by
            show (sec inc blk 1 s.er)[oq]? = some 0
            rw [sec_get, HE.out, List.getElem?_replicate, if_pos (by rw [← HBB.out]; exact hoB), Option.map_some, if_neg (by omega)]
          have hyo : (s.erase g.raw.toNat g.s.toNat blk).rows[other]? = some (if oq = blk then ersd N else y2) := by
            show (sec (fun _ => ersd g.raw.toNat) (blk * g.s.toNat) g.s.toNat s.rows)[other]? = _
            rw [sec_get, HY2.out, Option.map_some, ← HPP.out, ← HNN.out]
            congr 1
            have h9 := HOQ.out
            by_cases e : oq = blk
            · subst e
              rw [if_pos h9, if_pos rfl]
            · rw [if_neg e, if_neg]
              intro h10
              apply e
              have h11 : oq < blk + 1 := by
                rw [← Nat.mul_lt_mul_right (a := P) (by omega), Nat.succ_mul]
                omega
              have h12 : blk < oq + 1 := by
                rw [← Nat.mul_lt_mul_right (a := P) (by omega), Nat.succ_mul]
                omega
              omega
          have HZB := Lib.hid hzb
          have HZO := Lib.hid hzo
          have HYO := Lib.hid hyo
          generalize s.erase g.raw.toNat g.s.toNat blk = s' at *
          have Ab := Lib.hid hb
          have Yb := Lib.hid (Ya.out.btw_ bb (by omega))
          have Rb := Lib.hid (R2.out.btw0 bb (fun b off e _ h => by have := F2.out b off e; omega))
          have Bb := Lib.hid (Ba.out.trans (bb.below (S := w.heap.size) (fun j e => by omega) Ba.out.size))
          clear hb bb hzb hzo hyo Aa Ya R2 Ba F2
          go_wp2_with fail
          refine (Erases_yes Ab.out HZB.out).mono ?_
          rintro _ wc ⟨rfl, hc⟩
          have Ac := Lib.hid (Ab.out.below hc)
          have Yc := Lib.hid (Yb.out.below hc)
          have Rc_ := Lib.hid (Rb.out.below hc)
          have Bc := Lib.hid (below_step Bb.out hc)
          clear hc Ab Yb Rb Bb
          obtain ⟨_, g0, g1, g2, g3, g4, g5, g6⟩ := Yc.out
          rw [HP0.out] at g2
          by_cases hob : oq = blk
          · have hobq : (wrap64 ((other : Int) / (P : Int)) == (blk : Int)) = true := by rw [HQ3.out, HW3.out, beq_iff_eq]; omega
            have HY3 := Lib.hid (show s'.rows[other]? = some (ersd N) by have := HYO.out; rwa [if_pos hob] at this)
            go_wp2_with fail
            clear g0 g1 g2 g3 g4 g5 g6
            refine (Raw_yes Ac.out HY3.out).mono ?_
            rintro _ wd ⟨Ad, cd, rfl, rd, hd⟩
            have hld : (ersd N).raw.length = N := by simp [ersd]
            rw [hld] at rd ⊢
            have Rd_ := Lib.hid rd
            have Ad' := Lib.hid (Ac.out.below hd)
            have Bd := Lib.hid (below_step Bc.out hd)
            have hz0 := zeros_none (ersd N).raw N rfl
            clear rd hd hld
            go_wp2_with fail
            refine (Zeros_any Ad N cd _ _ Rd_.out (by omega)).mono ?_
            rintro _ we ⟨rfl, rfl⟩
            rw [hz0]
            clear hz0
            go_wp2_with fail
            refine (Programs_yes Ad'.out HY3.out).mono ?_
            rintro _ wf ⟨rfl, hf'⟩
            have Bf := Lib.hid (below_step Bd.out hf')
            clear hf'
            go_wp2
            go_ret
            exact ⟨rfl, Bf.out⟩
          · have hobq : (wrap64 ((other : Int) / (P : Int)) == (blk : Int)) = false := by rw [HQ3.out, HW3.out, beq_eq_false_iff_ne]; omega
            have HY3 := Lib.hid (show s'.rows[other]? = some y2 by have := HYO.out; rwa [if_neg hob] at this)
            have HZ3 := Lib.hid (HZO.out hob)
            go_wp2_with fail
            clear g0 g1 g2 g3 g4 g5 g6
            refine (Raw_yes Ac.out HY3.out).mono ?_
            rintro _ wd ⟨Ad, cd, rfl, rd, hd⟩
            have Rd_ := Lib.hid rd
            have Ad' := Lib.hid (Ac.out.below hd)
            have Yd := Lib.hid (Yc.out.below hd)
            have Re := Lib.hid (Rc_.out.below hd)
            have Bd := Lib.hid (below_step Bc.out hd)
            clear rd hd
            go_wp2_with fail
            refine (Same_gives Ad A2 y2.raw.length cd y2.raw.length c2 y2.raw _ Rd_.out Re.out hl2 hl2).mono ?_
            rintro _ we ⟨rfl, he⟩
            have Ae := Lib.hid (Ad'.out.below he)
            have Be := Lib.hid (below_step Bd.out he)
            obtain ⟨_, g0, g1, g2, g3, g4, g5, g6⟩ := Yd.out.below he
            rw [HP0.out] at g2
            clear he
            go_wp2_with fail
            clear g0 g1 g2 g3 g4 g5 g6
            rw [HQ3.out, HW3.out]
            refine (Erases_yes Ae.out HZ3.out).mono ?_
            rintro _ wf ⟨rfl, hf'⟩
            have Bf := Lib.hid (below_step Be.out hf')
            clear hf'
            go_wp2
            go_ret
            exact ⟨rfl, Bf.out⟩
end Go.Proofs.Ytlmdhlogmfdokaa
