/-
  Contracts of the document's array: ones, Is, Program, Tear.
-/
import Derived.Deep.RegionHeld3
import Derived.Test.YtlmdhlogmfdokaaArrayFitsJ9
import Derived.Test.YtlmdhlogmfdokaaArrayFitsJRefAnd
import Derived.Test.YtlmdhlogmfdokaaArrayFitsJ6
namespace Go.Proofs.Ytlmdhlogmfdokaa
open Go.RowKit
set_option maxRecDepth 100000

theorem wrapq (x : Int) : IntKind.i64.wrap x = wrap64 x := by rw [IntKind.wrap_i64, wrap64]
set_option maxHeartbeats 1000000 in
theorem ones_any (n : Nat) (w : World) (hn : n ≤ 1099511627776) : Calls Try.prog 35 #[.int .i64 (n : Int)] w (OwnsB 5 (List.replicate n 255) w) := by
  obtain ⟨i0, ti, tz0, tz1, tz2⟩ := info_parts info_u8
  go_enter Try.func35, Try.ntmps35
  go_wp2
  go_loopw [3, 4] (fun v i wr => ∃ k : Nat, k ≤ n ∧ i = .int .i64 (k : Int) ∧ Hid (wr.ownsRow w.heap.size 5 1 v k (U8 (List.replicate k 255))) ∧ Hid (Below w.heap.size w wr)) (fun _ i _ => n - (intOf i).toNat)
  case atStart => exact ⟨0, Nat.zero_le _, rfl, World.ownsRow_nil _ _ _ _, Below.refl _ _⟩
  case round =>
    obtain ⟨k, hk, rfl, HO, HB⟩ := hrel
    rename World => wr
    by_cases hlt : k < n
    · have d1 : decide ((k : Int) < (n : Int)) = true := decide_eq_true (by omega)
      go_wp2_with (at_builtin; refine wpList_append_own _ rfl (.tmp 10) (.tmp 11) _ rfl w.heap.size 5 i0 _ 1 1 Try.underlying35 ti tz0 tz1 tz2 rfl (by decide) _ _ _ rfl (HO.out.alloc _) ⟨wr.heap.size, 0, none⟩ 1 1 [_] rfl rfl (one_new _ _ _) ?c5 ?c6 ?c7 ?c8 ?_)
      case c5 => first | rfl | (intro u hu; simp at hu; subst hu; rfl)
      case c6 => unfold maxLen; omega
      case c7 => omega
      case c8 => have := HB.out.size; simp; omega
      · intro v' w3 hown' hgrow _
        have HO2 := Lib.hid (show w3.ownsRow w.heap.size 5 1 v' (k + 1) (U8 (List.replicate (k + 1) 255)) by
          rw [List.replicate_succ', U8_append]
          exact hown')
        have HB2 := Lib.hid ((HB.out.alloc HB.out.size _).grown hgrow (by have := HB.out.size; simp; omega) (fun j hj => (HO.out.lt j hj).1))
        clear hown' hgrow
        go_wp2
        go_roundw
        case rel => exact ⟨k + 1, by omega, by go_num, HO2, HB2⟩
        case measure => simp [intOf]; omega
    · obtain rfl : k = n := by omega
      obtain ⟨A5, c5, rfl⟩ := own_form HO.out
      have d2 : decide ((k : Int) < (k : Int)) = false := decide_eq_false (by omega)
      go_wp2
      go_ret
      exact ⟨A5, c5, by simp, by simpa using HO.out, HB.out⟩
theorem Is_any {I : Nat → Prop} {k : Rf} {g : Gm} {s : St} {w : World} (h : WR I w k g s) (x : Int) : Calls Try.prog 40 #[.pointer (some ⟨k.p, 0, none⟩), .int .i64 x] w (Gives (.bool (decide (0 ≤ x ∧ x < (k.R : Int)))) w) := by
  have x7 := Rf.c7 h.blk
  clear h
  by_cases h0 : 0 ≤ x
  · by_cases h1 : x < (k.R : Int)
    · have E := Lib.hid (decide_eq_true (show 0 ≤ x ∧ x < (k.R : Int) from ⟨h0, h1⟩))
      rw [E.out]
      go_enter Try.func40, Try.ntmps40
      go_wp2
      go_ret
      exact ⟨rfl, Below.refl _ _⟩
    · have E := Lib.hid (decide_eq_false (show ¬ (0 ≤ x ∧ x < (k.R : Int)) from fun h => h1 h.2))
      rw [E.out]
      have h2 : (k.R : Int) ≤ x := by omega
      go_enter Try.func40, Try.ntmps40
      go_wp2
      go_ret
      exact ⟨rfl, Below.refl _ _⟩
  · have E := Lib.hid (decide_eq_false (show ¬ (0 ≤ x ∧ x < (k.R : Int)) from fun h => h0 h.1))
    rw [E.out]
    have h2 : x < 0 := by omega
    go_enter Try.func40, Try.ntmps40
    go_wp2
    go_ret
    exact ⟨rfl, Below.refl _ _⟩

set_option maxHeartbeats 4000000 in
theorem RProgram_yes {I : Nat → Prop} {k : Rf} {g : Gm} {s : St} {w : World} (h : WR I w k g s) {i : Nat} {y : Pg} (hy : s.rows[i]? = some y) (B : Option Addr) (n c : Nat) (l : List Nat) (hr : R8 w B n l) (hn : n = g.raw.toNat) :
    Calls Try.prog 13 #[.pointer (some ⟨k.p, 0, none⟩), .int .i64 (i : Int), .slice B n c] w fun e w' => e = .returned (.int .i64 0) ∧ WR I w' k g (s.prog i l) ∧ Btw k.J w w' := by
  have hsz := h.size
  have hN : Hid (g.raw = (g.raw.toNat : Int)) := Lib.hid (by omega)
  have hlow := h.low
  have H := Lib.hid h
  have hi : i < k.R := by rw [← h.nr]; exact (List.getElem?_eq_some_iff.1 hy).1
  have R := Lib.hid hr
  have DX := Lib.hid (decide_eq_true (show 0 ≤ (i : Int) ∧ (i : Int) < (k.R : Int) by omega))
  have HN := Lib.hid hn
  have HY := Lib.hid hy
  have hn0 : 0 < n := by omega
  have hN0 : Hid (0 < g.raw.toNat) := Lib.hid (by omega)
  have hn9 : n ≤ 1099511627776 := by omega
  have hn8 : g.raw.toNat ≤ 1099511627776 := by omega
  have i0' : (0 : Int) ≤ (i : Int) := by omega
  have i1' : (i : Int) < (k.R : Int) := by omega
  have hne : ((n : Int) == (g.raw.toNat : Int)) = true := by rw [beq_iff_eq]; omega
  clear h hr hy hsz hlow hn
  go_enter Try.func13, Try.ntmps13
  go_wp2_with fail
  refine (Is_any H.out i).mono ?_
  rintro _ w1 ⟨rfl, h1⟩
  rw [DX.out]
  have B1 := Lib.hid h1
  have H1 := Lib.hid (H.out.below h1)
  clear h1
  obtain ⟨_, g0, g1, g2, g3, g4, g5, g6⟩ := H1.out.box
  go_wp2_with fail
  clear g0 g1 g2 g3 g4 g5 g6
  have HRaw := RefRaw_any g w1 H1.out.ok
  rw [hN.out] at HRaw
  refine HRaw.mono ?_
  rintro _ w2 ⟨rfl, h2⟩
  have B2 := Lib.hid (below_step B1.out h2)
  have H2 := Lib.hid (H1.out.below h2)
  have R2 := Lib.hid (R.out.below B2.out)
  clear h2 HRaw
  obtain ⟨bA, oA, c1, x1, _, _, hyw, hyr⟩ := H2.out.row HY.out
  have X1 := Lib.hid x1
  have RB := Lib.hid hyr
  have HYL := Lib.hid hyw.1
  have HYB := Lib.hid hyw.2
  clear x1 hyw hyr
  go_wp2
  refine wp_region_noPanic ?_
  refine wp_region_held_drew (S := fun w' => CRow w' k.p 69 (k.cells g)) (by kernel_rfl) (H2.out.blk.drew) (fun C0 => ?_)
  refine wpAnyH_take (i := 0) (oi := { dst := some 21, op := Op.move (Operand.tmp 0), type := 32, pos := "ref.go:55", after := #[], guard := none }) (v := ?_) rfl (by kernel_rfl) (by kernel_rfl) (by kernel_rfl) (fun _ _ _ h => h) (Or.inl ⟨by rfl, ?_⟩) C0 ?_
  rotate_left
  · intro W' hSw
    clear hSw
    go_simp <;> with_reducible rfl
  try simp only [Act.put, List.setIfInBounds_toArray, List.set_cons_zero, List.set_cons_succ]
  refine wpAnyH_take (i := 1) (oi := { dst := some 22, op := Op.nilCheck (Operand.tmp 21), type := 0, pos := "ref.go:55", after := #[{ on := 0, ground := Ground.data }], guard := none }) (v := ?_) rfl (by kernel_rfl) (by kernel_rfl) (by kernel_rfl) (fun _ _ _ h => h) (Or.inl ⟨by rfl, ?_⟩) C0 ?_
  rotate_left
  · intro W' hSw
    clear hSw
    go_simp <;> with_reducible rfl
  try simp only [Act.put, List.setIfInBounds_toArray, List.set_cons_zero, List.set_cons_succ]
  refine wpAnyH_take (i := 2) (oi := { dst := some 23, op := Op.fieldAddr 69 (Operand.tmp 22) 1, type := 0, pos := "ref.go:55", after := #[{ on := 1, ground := Ground.data }], guard := none }) (v := ?_) rfl (by kernel_rfl) (by kernel_rfl) (by kernel_rfl) (fun _ _ _ h => h) (Or.inl ⟨by rfl, ?_⟩) C0 ?_
  rotate_left
  · intro W' hSw
    clear hSw
    go_simp <;> with_reducible rfl
  try simp only [Act.put, List.setIfInBounds_toArray, List.set_cons_zero, List.set_cons_succ]
  refine wpAnyH_take (i := 3) (oi := { dst := some 24, op := Op.load 43 (Operand.tmp 23), type := 43, pos := "ref.go:55", after := #[{ on := 2, ground := Ground.data }], guard := none }) (v := ?_) rfl (by kernel_rfl) (by kernel_rfl) (by kernel_rfl) (fun _ _ _ h => h) (Or.inl ⟨by rfl, ?_⟩) C0 ?_
  rotate_left
  · intro W' hSw
    have y := Rf.c7 hSw
    clear hSw
    go_simp <;> with_reducible rfl
  try simp only [Act.put, List.setIfInBounds_toArray, List.set_cons_zero, List.set_cons_succ]
  refine wpAnyH_take (i := 4) (oi := { dst := some 25, op := Op.move (Operand.tmp 1), type := 3, pos := "ref.go:55", after := #[], guard := none }) (v := ?_) rfl (by kernel_rfl) (by kernel_rfl) (by kernel_rfl) (fun _ _ _ h => h) (Or.inl ⟨by rfl, ?_⟩) C0 ?_
  rotate_left
  · intro W' hSw
    clear hSw
    go_simp <;> with_reducible rfl
  try simp only [Act.put, List.setIfInBounds_toArray, List.set_cons_zero, List.set_cons_succ]
  refine wpAnyH_take (i := 5) (oi := { dst := some 26, op := Op.move (Operand.tmp 0), type := 32, pos := "ref.go:55", after := #[], guard := none }) (v := ?_) rfl (by kernel_rfl) (by kernel_rfl) (by kernel_rfl) (fun _ _ _ h => h) (Or.inl ⟨by rfl, ?_⟩) C0 ?_
  rotate_left
  · intro W' hSw
    clear hSw
    go_simp <;> with_reducible rfl
  try simp only [Act.put, List.setIfInBounds_toArray, List.set_cons_zero, List.set_cons_succ]
  refine wpAnyH_take (i := 6) (oi := { dst := some 27, op := Op.nilCheck (Operand.tmp 26), type := 0, pos := "ref.go:55", after := #[{ on := 5, ground := Ground.data }], guard := none }) (v := ?_) rfl (by kernel_rfl) (by kernel_rfl) (by kernel_rfl) (fun _ _ _ h => h) (Or.inl ⟨by rfl, ?_⟩) C0 ?_
  rotate_left
  · intro W' hSw
    clear hSw
    go_simp <;> with_reducible rfl
  try simp only [Act.put, List.setIfInBounds_toArray, List.set_cons_zero, List.set_cons_succ]
  refine wpAnyH_take (i := 7) (oi := { dst := some 28, op := Op.fieldAddr 69 (Operand.tmp 27) 1, type := 0, pos := "ref.go:55", after := #[{ on := 6, ground := Ground.data }], guard := none }) (v := ?_) rfl (by kernel_rfl) (by kernel_rfl) (by kernel_rfl) (fun _ _ _ h => h) (Or.inl ⟨by rfl, ?_⟩) C0 ?_
  rotate_left
  · intro W' hSw
    clear hSw
    go_simp <;> with_reducible rfl
  try simp only [Act.put, List.setIfInBounds_toArray, List.set_cons_zero, List.set_cons_succ]
  refine wpAnyH_take (i := 8) (oi := { dst := some 29, op := Op.load 43 (Operand.tmp 28), type := 43, pos := "ref.go:55", after := #[{ on := 7, ground := Ground.data }], guard := none }) (v := ?_) rfl (by kernel_rfl) (by kernel_rfl) (by kernel_rfl) (fun _ _ _ h => h) (Or.inl ⟨by rfl, ?_⟩) C0 ?_
  rotate_left
  · intro W' hSw
    have y := Rf.c7 hSw
    clear hSw
    go_simp <;> with_reducible rfl
  try simp only [Act.put, List.setIfInBounds_toArray, List.set_cons_zero, List.set_cons_succ]
  refine wpAnyH_take (i := 9) (oi := { dst := some 30, op := Op.move (Operand.tmp 1), type := 3, pos := "ref.go:55", after := #[], guard := none }) (v := ?_) rfl (by kernel_rfl) (by kernel_rfl) (by kernel_rfl) (fun _ _ _ h => h) (Or.inl ⟨by rfl, ?_⟩) C0 ?_
  rotate_left
  · intro W' hSw
    clear hSw
    go_simp <;> with_reducible rfl
  try simp only [Act.put, List.setIfInBounds_toArray, List.set_cons_zero, List.set_cons_succ]
  refine wpAnyH_take (i := 10) (oi := { dst := some 31, op := Op.indexAddr 43 (Operand.tmp 29) (Operand.tmp 30), type := 0, pos := "ref.go:55", after := #[{ on := 8, ground := Ground.data }, { on := 9, ground := Ground.data }], guard := none }) (v := ?_) rfl (by kernel_rfl) (by kernel_rfl) (by kernel_rfl) (fun _ _ _ h => h) (Or.inl ⟨by rfl, ?_⟩) C0 ?_
  rotate_left
  · intro W' hSw
    clear hSw
    go_simp <;> with_reducible rfl
  try simp only [Act.put, List.setIfInBounds_toArray, List.set_cons_zero, List.set_cons_succ]
  refine wpAnyH_take (i := 12) (oi := { dst := some 33, op := Op.move (Operand.tmp 2), type := 35, pos := "ref.go:55", after := #[], guard := none }) (v := ?_) rfl (by kernel_rfl) (by kernel_rfl) (by kernel_rfl) (fun _ _ _ h => h) (Or.inl ⟨by rfl, ?_⟩) C0 ?_
  rotate_left
  · intro W' hSw
    clear hSw
    go_simp <;> with_reducible rfl
  try simp only [Act.put, List.setIfInBounds_toArray, List.set_cons_zero, List.set_cons_succ]
  refine wpAnyH_ready (rs := [11]) (by kernel_rfl) (by simp) ?_
  refine AllReadyH.cons (o := { dst := some 32, op := Op.load 35 (Operand.tmp 31), type := 35, pos := "ref.go:55", after := #[{ on := 10, ground := Ground.data }], guard := none }) rfl (fun K hK => ?_) AllReadyH.nil
  have y9 := X1.out
  go_simp
  refine hK.out _ _ H2.out.blk.drew (fun C1 => ?_)
  clear y9
  clear hK K
  try simp only [Act.put, List.setIfInBounds_toArray, List.set_cons_zero, List.set_cons_succ]
  refine wpAnyH_ready (rs := [13]) (by kernel_rfl) (by simp) ?_
  refine AllReadyH.cons (o := { dst := some 34, op := Op.call { callee := Callee.value (Operand.func 41), args := #[Operand.tmp 32, Operand.tmp 33], argTypes := #[35, 35] }, type := 35, pos := "ref.go:55", after := #[{ on := 11, ground := Ground.data }, { on := 12, ground := Ground.data }], guard := none }) rfl (fun K hK => ?_) AllReadyH.nil
  go_simp
  refine (RefAnd_owns _ _ g.raw.toNat c1 n c y.raw l _ (RB.out.below ((Below.refl _ _).drew)) (R2.out.below ((Below.refl _ _).drew)) hn8 hn9).mono ?_
  rintro _ w4 ⟨A4, c4, rfl, hr4, hb4⟩
  rw [andL_length, HYL.out, R2.out.len, HN.out, Nat.max_self] at hr4 ⊢
  have H4 := Lib.hid ((H2.out.below ((Below.refl _ _).drew)).below hb4)
  have B4 := Lib.hid (below_step B2.out.drew hb4)
  have hl4 := H2.out.lt
  obtain ⟨b4, rfl, hb5, _, hr5⟩ := own_head hr4 hN0.out (andL_lt _ _ HYB.out)
  have hI4 : ¬ I b4 := fun h1 => by have := hl4 b4 h1; have e : w2.drew.heap.size = w2.heap.size := rfl; omega
  have R4 := Lib.hid hr5
  have x4 : ∃ v, w4.cell? ⟨k.a, i, none⟩ = some v := by obtain ⟨_, _, _, h9, _⟩ := H4.out.row HY.out; exact ⟨_, h9⟩
  obtain ⟨v4, x4⟩ := x4
  have X4 := Lib.hid x4
  clear hr4 hb4 hl4 hr5 hb5 x4
  go_wp2_with fail
  refine hK.out _ _ H4.out.blk (fun C2 => ?_)
  clear hK K
  try simp only [Act.put, List.setIfInBounds_toArray, List.set_cons_zero, List.set_cons_succ]
  refine wpAnyH_take (i := 14) (oi := { dst := some 35, op := Op.indexAddr 43 (Operand.tmp 24) (Operand.tmp 25), type := 0, pos := "ref.go:55", after := #[{ on := 3, ground := Ground.data }, { on := 4, ground := Ground.data }, { on := 0, ground := Ground.phase }, { on := 1, ground := Ground.phase }, { on := 2, ground := Ground.phase }, { on := 3, ground := Ground.phase }, { on := 4, ground := Ground.phase }, { on := 5, ground := Ground.phase }, { on := 6, ground := Ground.phase }, { on := 7, ground := Ground.phase }, { on := 8, ground := Ground.phase }, { on := 9, ground := Ground.phase }, { on := 10, ground := Ground.phase }, { on := 11, ground := Ground.phase }, { on := 12, ground := Ground.phase }, { on := 13, ground := Ground.phase }], guard := none }) (v := ?_) rfl (by kernel_rfl) (by kernel_rfl) (by kernel_rfl) (fun _ _ _ h => h) (Or.inl ⟨by rfl, ?_⟩) C2 ?_
  rotate_left
  · intro W' hSw
    clear hSw
    go_simp <;> with_reducible rfl
  try simp only [Act.put, List.setIfInBounds_toArray, List.set_cons_zero, List.set_cons_succ]
  refine wpAnyH_ready (rs := [15]) (by kernel_rfl) (by simp) ?_
  refine AllReadyH.cons (o := { dst := none, op := Op.store 35 (Operand.tmp 35) (Operand.tmp 34), type := 0, pos := "ref.go:55", after := #[{ on := 14, ground := Ground.data }, { on := 13, ground := Ground.data }, { on := 13, ground := Ground.chain }, { on := 0, ground := Ground.phase }, { on := 1, ground := Ground.phase }, { on := 2, ground := Ground.phase }, { on := 3, ground := Ground.phase }, { on := 4, ground := Ground.phase }, { on := 5, ground := Ground.phase }, { on := 6, ground := Ground.phase }, { on := 7, ground := Ground.phase }, { on := 8, ground := Ground.phase }, { on := 9, ground := Ground.phase }, { on := 10, ground := Ground.phase }, { on := 11, ground := Ground.phase }, { on := 12, ground := Ground.phase }, { on := 13, ground := Ground.phase }], guard := none }) rfl (fun K hK => ?_) AllReadyH.nil
  have y9 := X4.out
  have f9 := H4.out.fa i
  go_simp
  refine hK.out _ _ (H4.out.blk.setCell_other (p := ⟨k.a, i, none⟩) (fun e => H4.out.pn (.inl e)) _) (fun C3 => ?_)
  clear y9 f9
  clear hK K
  try simp only [Act.put]
  refine wpAnyH_done (by kernel_rfl) ?_ _
  refine NoPanic.normal ?_
  have HW := Lib.hid (H4.out.raw_ HY.out b4 0 c4 (andL y.raw l) hI4 R4.out)
  have BW := Lib.hid ((Btw.of_below (I := k.J) B4.out).setCell (p := ⟨k.a, i, none⟩) (v := .slice (some ⟨b4, 0, none⟩) g.raw.toNat c4) (.inl rfl))
  obtain ⟨_, _, _, _, x9, xt, _⟩ := HW.out.row (set_at HY.out _)
  have X9 := Lib.hid x9
  have F9 := Lib.hid (HW.out.progs.frozen i)
  clear x9 xt
  generalize w4.setCell ⟨k.a, i, none⟩ (.slice (some ⟨b4, 0, none⟩) g.raw.toNat c4) = w5 at *
  clear H4 B4 R4 X4
  go_wp2
  refine wp_region_noPanic ?_
  refine wp_region_held_drew (S := fun w' => CRow w' k.p 69 (k.cells g)) (by kernel_rfl) (HW.out.blk.drew) (fun C0 => ?_)
  refine wpAnyH_take (i := 0) (oi := { dst := some 36, op := Op.move (Operand.tmp 0), type := 32, pos := "ref.go:56", after := #[], guard := none }) (v := ?_) rfl (by kernel_rfl) (by kernel_rfl) (by kernel_rfl) (fun _ _ _ h => h) (Or.inl ⟨by rfl, ?_⟩) C0 ?_
  rotate_left
  · intro W' hSw
    clear hSw
    go_simp <;> with_reducible rfl
  try simp only [Act.put, List.setIfInBounds_toArray, List.set_cons_zero, List.set_cons_succ]
  refine wpAnyH_take (i := 1) (oi := { dst := some 37, op := Op.nilCheck (Operand.tmp 36), type := 0, pos := "ref.go:56", after := #[{ on := 0, ground := Ground.data }], guard := none }) (v := ?_) rfl (by kernel_rfl) (by kernel_rfl) (by kernel_rfl) (fun _ _ _ h => h) (Or.inl ⟨by rfl, ?_⟩) C0 ?_
  rotate_left
  · intro W' hSw
    clear hSw
    go_simp <;> with_reducible rfl
  try simp only [Act.put, List.setIfInBounds_toArray, List.set_cons_zero, List.set_cons_succ]
  refine wpAnyH_take (i := 2) (oi := { dst := some 38, op := Op.fieldAddr 69 (Operand.tmp 37) 2, type := 0, pos := "ref.go:56", after := #[{ on := 1, ground := Ground.data }], guard := none }) (v := ?_) rfl (by kernel_rfl) (by kernel_rfl) (by kernel_rfl) (fun _ _ _ h => h) (Or.inl ⟨by rfl, ?_⟩) C0 ?_
  rotate_left
  · intro W' hSw
    clear hSw
    go_simp <;> with_reducible rfl
  try simp only [Act.put, List.setIfInBounds_toArray, List.set_cons_zero, List.set_cons_succ]
  refine wpAnyH_take (i := 3) (oi := { dst := some 39, op := Op.load 24 (Operand.tmp 38), type := 24, pos := "ref.go:56", after := #[{ on := 2, ground := Ground.data }], guard := none }) (v := ?_) rfl (by kernel_rfl) (by kernel_rfl) (by kernel_rfl) (fun _ _ _ h => h) (Or.inl ⟨by rfl, ?_⟩) C0 ?_
  rotate_left
  · intro W' hSw
    have y := Rf.c8 hSw
    clear hSw
    go_simp <;> with_reducible rfl
  try simp only [Act.put, List.setIfInBounds_toArray, List.set_cons_zero, List.set_cons_succ]
  refine wpAnyH_take (i := 4) (oi := { dst := some 40, op := Op.move (Operand.tmp 1), type := 3, pos := "ref.go:56", after := #[], guard := none }) (v := ?_) rfl (by kernel_rfl) (by kernel_rfl) (by kernel_rfl) (fun _ _ _ h => h) (Or.inl ⟨by rfl, ?_⟩) C0 ?_
  rotate_left
  · intro W' hSw
    clear hSw
    go_simp <;> with_reducible rfl
  try simp only [Act.put, List.setIfInBounds_toArray, List.set_cons_zero, List.set_cons_succ]
  refine wpAnyH_take (i := 5) (oi := { dst := some 41, op := Op.move (Operand.tmp 0), type := 32, pos := "ref.go:56", after := #[], guard := none }) (v := ?_) rfl (by kernel_rfl) (by kernel_rfl) (by kernel_rfl) (fun _ _ _ h => h) (Or.inl ⟨by rfl, ?_⟩) C0 ?_
  rotate_left
  · intro W' hSw
    clear hSw
    go_simp <;> with_reducible rfl
  try simp only [Act.put, List.setIfInBounds_toArray, List.set_cons_zero, List.set_cons_succ]
  refine wpAnyH_take (i := 6) (oi := { dst := some 42, op := Op.nilCheck (Operand.tmp 41), type := 0, pos := "ref.go:56", after := #[{ on := 5, ground := Ground.data }], guard := none }) (v := ?_) rfl (by kernel_rfl) (by kernel_rfl) (by kernel_rfl) (fun _ _ _ h => h) (Or.inl ⟨by rfl, ?_⟩) C0 ?_
  rotate_left
  · intro W' hSw
    clear hSw
    go_simp <;> with_reducible rfl
  try simp only [Act.put, List.setIfInBounds_toArray, List.set_cons_zero, List.set_cons_succ]
  refine wpAnyH_take (i := 7) (oi := { dst := some 43, op := Op.fieldAddr 69 (Operand.tmp 42) 2, type := 0, pos := "ref.go:56", after := #[{ on := 6, ground := Ground.data }], guard := none }) (v := ?_) rfl (by kernel_rfl) (by kernel_rfl) (by kernel_rfl) (fun _ _ _ h => h) (Or.inl ⟨by rfl, ?_⟩) C0 ?_
  rotate_left
  · intro W' hSw
    clear hSw
    go_simp <;> with_reducible rfl
  try simp only [Act.put, List.setIfInBounds_toArray, List.set_cons_zero, List.set_cons_succ]
  refine wpAnyH_take (i := 8) (oi := { dst := some 44, op := Op.load 24 (Operand.tmp 43), type := 24, pos := "ref.go:56", after := #[{ on := 7, ground := Ground.data }], guard := none }) (v := ?_) rfl (by kernel_rfl) (by kernel_rfl) (by kernel_rfl) (fun _ _ _ h => h) (Or.inl ⟨by rfl, ?_⟩) C0 ?_
  rotate_left
  · intro W' hSw
    have y := Rf.c8 hSw
    clear hSw
    go_simp <;> with_reducible rfl
  try simp only [Act.put, List.setIfInBounds_toArray, List.set_cons_zero, List.set_cons_succ]
  refine wpAnyH_take (i := 9) (oi := { dst := some 45, op := Op.move (Operand.tmp 1), type := 3, pos := "ref.go:56", after := #[], guard := none }) (v := ?_) rfl (by kernel_rfl) (by kernel_rfl) (by kernel_rfl) (fun _ _ _ h => h) (Or.inl ⟨by rfl, ?_⟩) C0 ?_
  rotate_left
  · intro W' hSw
    clear hSw
    go_simp <;> with_reducible rfl
  try simp only [Act.put, List.setIfInBounds_toArray, List.set_cons_zero, List.set_cons_succ]
  refine wpAnyH_take (i := 10) (oi := { dst := some 46, op := Op.indexAddr 24 (Operand.tmp 44) (Operand.tmp 45), type := 0, pos := "ref.go:56", after := #[{ on := 8, ground := Ground.data }, { on := 9, ground := Ground.data }], guard := none }) (v := ?_) rfl (by kernel_rfl) (by kernel_rfl) (by kernel_rfl) (fun _ _ _ h => h) (Or.inl ⟨by rfl, ?_⟩) C0 ?_
  rotate_left
  · intro W' hSw
    clear hSw
    go_simp <;> with_reducible rfl
  try simp only [Act.put, List.setIfInBounds_toArray, List.set_cons_zero, List.set_cons_succ]
  refine wpAnyH_ready (rs := [11]) (by kernel_rfl) (by simp) ?_
  refine AllReadyH.cons (o := { dst := some 47, op := Op.load 3 (Operand.tmp 46), type := 3, pos := "ref.go:56", after := #[{ on := 10, ground := Ground.data }], guard := none }) rfl (fun K hK => ?_) AllReadyH.nil
  have y9 := X9.out
  go_simp
  refine hK.out _ _ HW.out.blk.drew (fun C1 => ?_)
  clear y9
  clear hK K
  try simp only [Act.put, List.setIfInBounds_toArray, List.set_cons_zero, List.set_cons_succ]
  refine wpAnyH_take (i := 12) (oi := { dst := some 48, op := Op.binOp BinOp.add 3 (Operand.tmp 47) (Operand.const (Value.int IntKind.i64 1)) 3, type := 3, pos := "ref.go:56", after := #[{ on := 11, ground := Ground.data }], guard := none }) (v := ?_) rfl (by kernel_rfl) (by kernel_rfl) (by kernel_rfl) (fun _ _ _ h => h) (Or.inl ⟨by rfl, ?_⟩) C1 ?_
  rotate_left
  · intro W' hSw
    have q := wrapq (y.n + 1)
    clear hSw
    go_simp <;> with_reducible rfl
  try simp only [Act.put, List.setIfInBounds_toArray, List.set_cons_zero, List.set_cons_succ]
  refine wpAnyH_take (i := 13) (oi := { dst := some 49, op := Op.indexAddr 24 (Operand.tmp 39) (Operand.tmp 40), type := 0, pos := "ref.go:56", after := #[{ on := 3, ground := Ground.data }, { on := 4, ground := Ground.data }, { on := 0, ground := Ground.phase }, { on := 1, ground := Ground.phase }, { on := 2, ground := Ground.phase }, { on := 3, ground := Ground.phase }, { on := 4, ground := Ground.phase }, { on := 5, ground := Ground.phase }, { on := 6, ground := Ground.phase }, { on := 7, ground := Ground.phase }, { on := 8, ground := Ground.phase }, { on := 9, ground := Ground.phase }, { on := 10, ground := Ground.phase }, { on := 11, ground := Ground.phase }, { on := 12, ground := Ground.phase }], guard := none }) (v := ?_) rfl (by kernel_rfl) (by kernel_rfl) (by kernel_rfl) (fun _ _ _ h => h) (Or.inl ⟨by rfl, ?_⟩) C1 ?_
  rotate_left
  · intro W' hSw
    clear hSw
    go_simp <;> with_reducible rfl
  try simp only [Act.put, List.setIfInBounds_toArray, List.set_cons_zero, List.set_cons_succ]
  refine wpAnyH_ready (rs := [14]) (by kernel_rfl) (by simp) ?_
  refine AllReadyH.cons (o := { dst := none, op := Op.store 3 (Operand.tmp 49) (Operand.tmp 48), type := 0, pos := "ref.go:56", after := #[{ on := 13, ground := Ground.data }, { on := 12, ground := Ground.data }, { on := 0, ground := Ground.phase }, { on := 1, ground := Ground.phase }, { on := 2, ground := Ground.phase }, { on := 3, ground := Ground.phase }, { on := 4, ground := Ground.phase }, { on := 5, ground := Ground.phase }, { on := 6, ground := Ground.phase }, { on := 7, ground := Ground.phase }, { on := 8, ground := Ground.phase }, { on := 9, ground := Ground.phase }, { on := 10, ground := Ground.phase }, { on := 11, ground := Ground.phase }, { on := 12, ground := Ground.phase }], guard := none }) rfl (fun K hK => ?_) AllReadyH.nil
  have y9 := X9.out
  have f9 := F9.out
  go_simp
  refine hK.out _ _ (CRow.setCell_other HW.out.blk.drew (p := ⟨k.b, i, none⟩) (fun e => HW.out.pn (.inr (.inl e))) _) (fun C2 => ?_)
  clear y9 f9
  clear hK K
  try simp only [Act.put]
  refine wpAnyH_done (by kernel_rfl) ?_ _
  refine NoPanic.normal ?_
  have H6 := Lib.hid ((HW.out.n_ (set_at HY.out _) (wrap64 (y.n + 1))).below ((Below.refl _ _).drew))
  have B6 := Lib.hid ((BW.out.setCell (p := ⟨k.b, i, none⟩) (v := .int .i64 (wrap64 (y.n + 1))) (.inr (.inl rfl))).drew)
  have E6 := Lib.hid (show s.prog i l = ⟨(s.rows.set i ⟨andL y.raw l, y.n, y.t⟩).set i ⟨andL y.raw l, wrap64 (y.n + 1), y.t⟩, s.er⟩ by
    unfold St.prog
    rw [sec_one HY.out, List.set_set]
    rfl)
  go_wp2
  go_ret
  exact ⟨rfl, E6.out ▸ H6.out, B6.out⟩

set_option maxHeartbeats 1000000 in
theorem RProgram_no {I : Nat → Prop} {k : Rf} {g : Gm} {s : St} {w : World} (h : WR I w k g s) (x : Int) (B : Option Addr) (n c : Nat) (l : List Nat) (hr : R8 w B n l) (hno : ¬ (0 ≤ x ∧ x < (k.R : Int)) ∨ n ≠ g.raw.toNat) :
    Calls Try.prog 13 #[.pointer (some ⟨k.p, 0, none⟩), .int .i64 x, .slice B n c] w (Gives (.int .i64 2) w) := by
  have hsz := h.size
  have hN : Hid (g.raw = (g.raw.toNat : Int)) := Lib.hid (by omega)
  have H := Lib.hid h
  have R := Lib.hid hr
  by_cases hx : 0 ≤ x ∧ x < (k.R : Int)
  · have DX := Lib.hid (decide_eq_true hx)
    have hne : ((n : Int) == (g.raw.toNat : Int)) = false := by
      rw [beq_eq_false_iff_ne]
      have := hno.resolve_left fun h1 => h1 hx
      omega
    clear h hr hno hx hsz
    go_enter Try.func13, Try.ntmps13
    go_wp2_with fail
    refine (Is_any H.out x).mono ?_
    rintro _ w1 ⟨rfl, h1⟩
    rw [DX.out]
    have B1 := Lib.hid h1
    have H1 := Lib.hid (H.out.below h1)
    clear h1
    obtain ⟨_, g0, g1, g2, g3, g4, g5, g6⟩ := H1.out.box
    go_wp2_with fail
    clear g0 g1 g2 g3 g4 g5 g6
    have HRaw := RefRaw_any g w1 H1.out.ok
    rw [hN.out] at HRaw
    refine HRaw.mono ?_
    rintro _ w2 ⟨rfl, h2⟩
    have B2 := Lib.hid (below_step B1.out h2)
    have H2 := Lib.hid (H1.out.below h2)
    have R2 := Lib.hid (R.out.below B2.out)
    clear h2 HRaw
    go_wp2
    go_ret
    exact ⟨rfl, B2.out⟩
  · have DX := Lib.hid (decide_eq_false hx)
    clear h hr hno hx hsz
    go_enter Try.func13, Try.ntmps13
    go_wp2_with fail
    refine (Is_any H.out x).mono ?_
    rintro _ w1 ⟨rfl, h1⟩
    rw [DX.out]
    have B1 := Lib.hid h1
    have H1 := Lib.hid (H.out.below h1)
    clear h1
    obtain ⟨_, g0, g1, g2, g3, g4, g5, g6⟩ := H1.out.box
    go_wp2
    go_ret
    exact ⟨rfl, B1.out⟩

set_option maxHeartbeats 4000000 in
theorem RTear_yes {I : Nat → Prop} {k : Rf} {g : Gm} {s : St} {w : World} (h : WR I w k g s) {i : Nat} {y : Pg} (hy : s.rows[i]? = some y) (B : Option Addr) (n c : Nat) (l : List Nat) (hr : R8 w B n l) (hn : n = g.raw.toNat) :
    Calls Try.prog 15 #[.pointer (some ⟨k.p, 0, none⟩), .int .i64 (i : Int), .slice B n c] w fun e w' => e = .returned (.int .i64 0) ∧ WR I w' k g (s.tear i l) ∧ Btw k.J w w' := by
  obtain ⟨i0, ti, tz0, tz1, tz2⟩ := info_parts info_u8
  have hsz := h.size
  have hN : Hid (g.raw = (g.raw.toNat : Int)) := Lib.hid (by omega)
  have hlow := h.low
  have H := Lib.hid h
  have hi : i < k.R := by rw [← h.nr]; exact (List.getElem?_eq_some_iff.1 hy).1
  obtain ⟨bB, oB, rfl, _⟩ := hr.1.2 (show 0 < n by omega)
  have R := Lib.hid hr
  have DX := Lib.hid (decide_eq_true (show 0 ≤ (i : Int) ∧ (i : Int) < (k.R : Int) by omega))
  have HN := Lib.hid hn
  have HY := Lib.hid hy
  have hn0 : 0 < n := by omega
  have hN0 : Hid (0 < g.raw.toNat) := Lib.hid (by omega)
  have hn9 : n ≤ 1099511627776 := by omega
  have hn8 : g.raw.toNat ≤ 1099511627776 := by omega
  have i0' : (0 : Int) ≤ (i : Int) := by omega
  have i1' : (i : Int) < (k.R : Int) := by omega
  have hne : ((n : Int) == (g.raw.toNat : Int)) = true := by rw [beq_iff_eq]; omega
  clear h hr hy hsz hlow hn
  go_enter Try.func15, Try.ntmps15
  go_wp2_with fail
  refine (Is_any H.out i).mono ?_
  rintro _ w1 ⟨rfl, h1⟩
  rw [DX.out]
  have B1 := Lib.hid h1
  have H1 := Lib.hid (H.out.below h1)
  clear h1
  obtain ⟨_, g0, g1, g2, g3, g4, g5, g6⟩ := H1.out.box
  go_wp2_with fail
  clear g0 g1 g2 g3 g4 g5 g6
  have HRaw := RefRaw_any g w1 H1.out.ok
  rw [hN.out] at HRaw
  refine HRaw.mono ?_
  rintro _ w2 ⟨rfl, h2⟩
  have B2 := Lib.hid (below_step B1.out h2)
  have H2 := Lib.hid (H1.out.below h2)
  have R2 := Lib.hid (R.out.below B2.out)
  clear h2 HRaw
  go_wp2
  refine wp_region_noPanic ?_
  refine wp_region_held_drew (S := fun w' => CRow w' k.p 69 (k.cells g)) (by kernel_rfl) (H2.out.blk.drew) (fun C0 => ?_)
  refine wpAnyH_take (i := 0) (oi := { dst := some 22, op := Op.move (Operand.tmp 0), type := 32, pos := "ref.go:66", after := #[], guard := none }) (v := ?_) rfl (by kernel_rfl) (by kernel_rfl) (by kernel_rfl) (fun _ _ _ h => h) (Or.inl ⟨by rfl, ?_⟩) C0 ?_
  rotate_left
  · intro W' hSw
    clear hSw
    go_simp <;> with_reducible rfl
  try simp only [Act.put, List.setIfInBounds_toArray, List.set_cons_zero, List.set_cons_succ]
  refine wpAnyH_take (i := 1) (oi := { dst := some 23, op := Op.nilCheck (Operand.tmp 22), type := 0, pos := "ref.go:66", after := #[{ on := 0, ground := Ground.data }], guard := none }) (v := ?_) rfl (by kernel_rfl) (by kernel_rfl) (by kernel_rfl) (fun _ _ _ h => h) (Or.inl ⟨by rfl, ?_⟩) C0 ?_
  rotate_left
  · intro W' hSw
    clear hSw
    go_simp <;> with_reducible rfl
  try simp only [Act.put, List.setIfInBounds_toArray, List.set_cons_zero, List.set_cons_succ]
  refine wpAnyH_take (i := 2) (oi := { dst := some 24, op := Op.fieldAddr 69 (Operand.tmp 23) 1, type := 0, pos := "ref.go:66", after := #[{ on := 1, ground := Ground.data }], guard := none }) (v := ?_) rfl (by kernel_rfl) (by kernel_rfl) (by kernel_rfl) (fun _ _ _ h => h) (Or.inl ⟨by rfl, ?_⟩) C0 ?_
  rotate_left
  · intro W' hSw
    clear hSw
    go_simp <;> with_reducible rfl
  try simp only [Act.put, List.setIfInBounds_toArray, List.set_cons_zero, List.set_cons_succ]
  refine wpAnyH_take (i := 3) (oi := { dst := some 25, op := Op.load 43 (Operand.tmp 24), type := 43, pos := "ref.go:66", after := #[{ on := 2, ground := Ground.data }], guard := none }) (v := ?_) rfl (by kernel_rfl) (by kernel_rfl) (by kernel_rfl) (fun _ _ _ h => h) (Or.inl ⟨by rfl, ?_⟩) C0 ?_
  rotate_left
  · intro W' hSw
    have y := Rf.c7 hSw
    clear hSw
    go_simp <;> with_reducible rfl
  try simp only [Act.put, List.setIfInBounds_toArray, List.set_cons_zero, List.set_cons_succ]
  refine wpAnyH_take (i := 4) (oi := { dst := some 26, op := Op.move (Operand.tmp 1), type := 3, pos := "ref.go:66", after := #[], guard := none }) (v := ?_) rfl (by kernel_rfl) (by kernel_rfl) (by kernel_rfl) (fun _ _ _ h => h) (Or.inl ⟨by rfl, ?_⟩) C0 ?_
  rotate_left
  · intro W' hSw
    clear hSw
    go_simp <;> with_reducible rfl
  try simp only [Act.put, List.setIfInBounds_toArray, List.set_cons_zero, List.set_cons_succ]
  refine wpAnyH_take (i := 5) (oi := { dst := some 27, op := Op.move (Operand.tmp 7), type := 35, pos := "ref.go:66", after := #[], guard := none }) (v := ?_) rfl (by kernel_rfl) (by kernel_rfl) (by kernel_rfl) (fun _ _ _ h => h) (Or.inl ⟨by rfl, ?_⟩) C0 ?_
  rotate_left
  · intro W' hSw
    clear hSw
    go_simp <;> with_reducible rfl
  try simp only [Act.put, List.setIfInBounds_toArray, List.set_cons_zero, List.set_cons_succ]
  refine wpAnyH_take (i := 6) (oi := { dst := some 28, op := Op.move (Operand.tmp 2), type := 35, pos := "ref.go:66", after := #[], guard := none }) (v := ?_) rfl (by kernel_rfl) (by kernel_rfl) (by kernel_rfl) (fun _ _ _ h => h) (Or.inl ⟨by rfl, ?_⟩) C0 ?_
  rotate_left
  · intro W' hSw
    clear hSw
    go_simp <;> with_reducible rfl
  try simp only [Act.put, List.setIfInBounds_toArray, List.set_cons_zero, List.set_cons_succ]
  refine wpAnyH_ready (rs := [7]) (by kernel_rfl) (by simp) ?_
  refine AllReadyH.cons (o := { dst := some 29, op := Op.call { callee := Callee.builtin Builtin.append, args := #[Operand.tmp 27, Operand.tmp 28], argTypes := #[35, 35] }, type := 35, pos := "ref.go:66", after := #[{ on := 5, ground := Ground.data }, { on := 6, ground := Ground.data }], guard := none }) rfl (fun K hK => ?_) AllReadyH.nil
  rw [if_pos (by rfl)]
  refine wp_append8 _ (.tmp 27) (.tmp 28) 35 rfl w2.drew.heap.size 5 i0 Try.underlying35 ti tz0 tz1 tz2 _ 0 [] rfl (World.ownsRow_nil _ _ _ _) (some ⟨bB, oB, none⟩) n c l rfl (R2.out.below ((Below.refl _ _).drew)) hn0 (by omega) (Nat.le_refl _) ?_
  intro v4 w4 hr4 hg4
  rw [Nat.zero_add, List.nil_append] at hr4
  obtain ⟨A4, c4, rfl⟩ := own_form hr4
  have hb4 : Below w2.drew.heap.size w2.drew w4 := (Below.refl _ _).grown hg4 (Nat.le_refl _) (by intro j hj; cases hj)
  clear hg4
  rw [HN.out] at hr4
  have H4 := Lib.hid ((H2.out.below ((Below.refl _ _).drew)).below hb4)
  have B4 := Lib.hid (below_step B2.out.drew hb4)
  have hl4 := H2.out.lt
  obtain ⟨b4, rfl, hb5, _, hr5⟩ := own_head hr4 hN0.out R2.out.2
  have hI4 : ¬ I b4 := fun h1 => by have := hl4 b4 h1; have e : w2.drew.heap.size = w2.heap.size := rfl; omega
  have R4 := Lib.hid hr5
  have x4 : ∃ v, w4.cell? ⟨k.a, i, none⟩ = some v := by obtain ⟨_, _, _, h9, _⟩ := H4.out.row HY.out; exact ⟨_, h9⟩
  obtain ⟨v4, x4⟩ := x4
  have X4 := Lib.hid x4
  clear hr4 hb4 hl4 hr5 hb5 x4
  try rw [HN.out]
  refine hK.out _ _ H4.out.blk (fun C1 => ?_)
  clear hK K
  try simp only [Act.put, List.setIfInBounds_toArray, List.set_cons_zero, List.set_cons_succ]
  refine wpAnyH_take (i := 8) (oi := { dst := some 30, op := Op.indexAddr 43 (Operand.tmp 25) (Operand.tmp 26), type := 0, pos := "ref.go:66", after := #[{ on := 3, ground := Ground.data }, { on := 4, ground := Ground.data }, { on := 0, ground := Ground.phase }, { on := 1, ground := Ground.phase }, { on := 2, ground := Ground.phase }, { on := 3, ground := Ground.phase }, { on := 4, ground := Ground.phase }, { on := 5, ground := Ground.phase }, { on := 6, ground := Ground.phase }, { on := 7, ground := Ground.phase }], guard := none }) (v := ?_) rfl (by kernel_rfl) (by kernel_rfl) (by kernel_rfl) (fun _ _ _ h => h) (Or.inl ⟨by rfl, ?_⟩) C1 ?_
  rotate_left
  · intro W' hSw
    clear hSw
    go_simp <;> with_reducible rfl
  try simp only [Act.put, List.setIfInBounds_toArray, List.set_cons_zero, List.set_cons_succ]
  refine wpAnyH_ready (rs := [9]) (by kernel_rfl) (by simp) ?_
  refine AllReadyH.cons (o := { dst := none, op := Op.store 35 (Operand.tmp 30) (Operand.tmp 29), type := 0, pos := "ref.go:66", after := #[{ on := 8, ground := Ground.data }, { on := 7, ground := Ground.data }, { on := 7, ground := Ground.chain }, { on := 0, ground := Ground.phase }, { on := 1, ground := Ground.phase }, { on := 2, ground := Ground.phase }, { on := 3, ground := Ground.phase }, { on := 4, ground := Ground.phase }, { on := 5, ground := Ground.phase }, { on := 6, ground := Ground.phase }, { on := 7, ground := Ground.phase }], guard := none }) rfl (fun K hK => ?_) AllReadyH.nil
  have y9 := X4.out
  have f9 := H4.out.fa i
  go_simp
  refine hK.out _ _ (H4.out.blk.setCell_other (p := ⟨k.a, i, none⟩) (fun e => H4.out.pn (.inl e)) _) (fun C2 => ?_)
  clear y9 f9
  clear hK K
  try simp only [Act.put]
  refine wpAnyH_done (by kernel_rfl) ?_ _
  refine NoPanic.normal ?_
  have HW := Lib.hid (H4.out.raw_ HY.out b4 0 c4 (l) hI4 R4.out)
  have BW := Lib.hid ((Btw.of_below (I := k.J) B4.out).setCell (p := ⟨k.a, i, none⟩) (v := .slice (some ⟨b4, 0, none⟩) g.raw.toNat c4) (.inl rfl))
  obtain ⟨_, _, _, _, x9, xt, _⟩ := HW.out.row (set_at HY.out _)
  have X9 := Lib.hid x9
  have F9 := Lib.hid (HW.out.progs.frozen i)
  clear x9 xt
  generalize w4.setCell ⟨k.a, i, none⟩ (.slice (some ⟨b4, 0, none⟩) g.raw.toNat c4) = w5 at *
  clear H4 B4 R4 X4
  go_wp2
  refine wp_region_noPanic ?_
  refine wp_region_held_drew (S := fun w' => CRow w' k.p 69 (k.cells g)) (by kernel_rfl) (HW.out.blk.drew) (fun C0 => ?_)
  refine wpAnyH_take (i := 0) (oi := { dst := some 31, op := Op.move (Operand.tmp 0), type := 32, pos := "ref.go:67", after := #[], guard := none }) (v := ?_) rfl (by kernel_rfl) (by kernel_rfl) (by kernel_rfl) (fun _ _ _ h => h) (Or.inl ⟨by rfl, ?_⟩) C0 ?_
  rotate_left
  · intro W' hSw
    clear hSw
    go_simp <;> with_reducible rfl
  try simp only [Act.put, List.setIfInBounds_toArray, List.set_cons_zero, List.set_cons_succ]
  refine wpAnyH_take (i := 1) (oi := { dst := some 32, op := Op.nilCheck (Operand.tmp 31), type := 0, pos := "ref.go:67", after := #[{ on := 0, ground := Ground.data }], guard := none }) (v := ?_) rfl (by kernel_rfl) (by kernel_rfl) (by kernel_rfl) (fun _ _ _ h => h) (Or.inl ⟨by rfl, ?_⟩) C0 ?_
  rotate_left
  · intro W' hSw
    clear hSw
    go_simp <;> with_reducible rfl
  try simp only [Act.put, List.setIfInBounds_toArray, List.set_cons_zero, List.set_cons_succ]
  refine wpAnyH_take (i := 2) (oi := { dst := some 33, op := Op.fieldAddr 69 (Operand.tmp 32) 2, type := 0, pos := "ref.go:67", after := #[{ on := 1, ground := Ground.data }], guard := none }) (v := ?_) rfl (by kernel_rfl) (by kernel_rfl) (by kernel_rfl) (fun _ _ _ h => h) (Or.inl ⟨by rfl, ?_⟩) C0 ?_
  rotate_left
  · intro W' hSw
    clear hSw
    go_simp <;> with_reducible rfl
  try simp only [Act.put, List.setIfInBounds_toArray, List.set_cons_zero, List.set_cons_succ]
  refine wpAnyH_take (i := 3) (oi := { dst := some 34, op := Op.load 24 (Operand.tmp 33), type := 24, pos := "ref.go:67", after := #[{ on := 2, ground := Ground.data }], guard := none }) (v := ?_) rfl (by kernel_rfl) (by kernel_rfl) (by kernel_rfl) (fun _ _ _ h => h) (Or.inl ⟨by rfl, ?_⟩) C0 ?_
  rotate_left
  · intro W' hSw
    have y := Rf.c8 hSw
    clear hSw
    go_simp <;> with_reducible rfl
  try simp only [Act.put, List.setIfInBounds_toArray, List.set_cons_zero, List.set_cons_succ]
  refine wpAnyH_take (i := 4) (oi := { dst := some 35, op := Op.move (Operand.tmp 1), type := 3, pos := "ref.go:67", after := #[], guard := none }) (v := ?_) rfl (by kernel_rfl) (by kernel_rfl) (by kernel_rfl) (fun _ _ _ h => h) (Or.inl ⟨by rfl, ?_⟩) C0 ?_
  rotate_left
  · intro W' hSw
    clear hSw
    go_simp <;> with_reducible rfl
  try simp only [Act.put, List.setIfInBounds_toArray, List.set_cons_zero, List.set_cons_succ]
  refine wpAnyH_take (i := 5) (oi := { dst := some 36, op := Op.move (Operand.tmp 0), type := 32, pos := "ref.go:67", after := #[], guard := none }) (v := ?_) rfl (by kernel_rfl) (by kernel_rfl) (by kernel_rfl) (fun _ _ _ h => h) (Or.inl ⟨by rfl, ?_⟩) C0 ?_
  rotate_left
  · intro W' hSw
    clear hSw
    go_simp <;> with_reducible rfl
  try simp only [Act.put, List.setIfInBounds_toArray, List.set_cons_zero, List.set_cons_succ]
  refine wpAnyH_take (i := 6) (oi := { dst := some 37, op := Op.nilCheck (Operand.tmp 36), type := 0, pos := "ref.go:67", after := #[{ on := 5, ground := Ground.data }], guard := none }) (v := ?_) rfl (by kernel_rfl) (by kernel_rfl) (by kernel_rfl) (fun _ _ _ h => h) (Or.inl ⟨by rfl, ?_⟩) C0 ?_
  rotate_left
  · intro W' hSw
    clear hSw
    go_simp <;> with_reducible rfl
  try simp only [Act.put, List.setIfInBounds_toArray, List.set_cons_zero, List.set_cons_succ]
  refine wpAnyH_take (i := 7) (oi := { dst := some 38, op := Op.fieldAddr 69 (Operand.tmp 37) 2, type := 0, pos := "ref.go:67", after := #[{ on := 6, ground := Ground.data }], guard := none }) (v := ?_) rfl (by kernel_rfl) (by kernel_rfl) (by kernel_rfl) (fun _ _ _ h => h) (Or.inl ⟨by rfl, ?_⟩) C0 ?_
  rotate_left
  · intro W' hSw
    clear hSw
    go_simp <;> with_reducible rfl
  try simp only [Act.put, List.setIfInBounds_toArray, List.set_cons_zero, List.set_cons_succ]
  refine wpAnyH_take (i := 8) (oi := { dst := some 39, op := Op.load 24 (Operand.tmp 38), type := 24, pos := "ref.go:67", after := #[{ on := 7, ground := Ground.data }], guard := none }) (v := ?_) rfl (by kernel_rfl) (by kernel_rfl) (by kernel_rfl) (fun _ _ _ h => h) (Or.inl ⟨by rfl, ?_⟩) C0 ?_
  rotate_left
  · intro W' hSw
    have y := Rf.c8 hSw
    clear hSw
    go_simp <;> with_reducible rfl
  try simp only [Act.put, List.setIfInBounds_toArray, List.set_cons_zero, List.set_cons_succ]
  refine wpAnyH_take (i := 9) (oi := { dst := some 40, op := Op.move (Operand.tmp 1), type := 3, pos := "ref.go:67", after := #[], guard := none }) (v := ?_) rfl (by kernel_rfl) (by kernel_rfl) (by kernel_rfl) (fun _ _ _ h => h) (Or.inl ⟨by rfl, ?_⟩) C0 ?_
  rotate_left
  · intro W' hSw
    clear hSw
    go_simp <;> with_reducible rfl
  try simp only [Act.put, List.setIfInBounds_toArray, List.set_cons_zero, List.set_cons_succ]
  refine wpAnyH_take (i := 10) (oi := { dst := some 41, op := Op.indexAddr 24 (Operand.tmp 39) (Operand.tmp 40), type := 0, pos := "ref.go:67", after := #[{ on := 8, ground := Ground.data }, { on := 9, ground := Ground.data }], guard := none }) (v := ?_) rfl (by kernel_rfl) (by kernel_rfl) (by kernel_rfl) (fun _ _ _ h => h) (Or.inl ⟨by rfl, ?_⟩) C0 ?_
  rotate_left
  · intro W' hSw
    clear hSw
    go_simp <;> with_reducible rfl
  try simp only [Act.put, List.setIfInBounds_toArray, List.set_cons_zero, List.set_cons_succ]
  refine wpAnyH_ready (rs := [11]) (by kernel_rfl) (by simp) ?_
  refine AllReadyH.cons (o := { dst := some 42, op := Op.load 3 (Operand.tmp 41), type := 3, pos := "ref.go:67", after := #[{ on := 10, ground := Ground.data }], guard := none }) rfl (fun K hK => ?_) AllReadyH.nil
  have y9 := X9.out
  go_simp
  refine hK.out _ _ HW.out.blk.drew (fun C1 => ?_)
  clear y9
  clear hK K
  try simp only [Act.put, List.setIfInBounds_toArray, List.set_cons_zero, List.set_cons_succ]
  refine wpAnyH_take (i := 12) (oi := { dst := some 43, op := Op.binOp BinOp.add 3 (Operand.tmp 42) (Operand.const (Value.int IntKind.i64 1)) 3, type := 3, pos := "ref.go:67", after := #[{ on := 11, ground := Ground.data }], guard := none }) (v := ?_) rfl (by kernel_rfl) (by kernel_rfl) (by kernel_rfl) (fun _ _ _ h => h) (Or.inl ⟨by rfl, ?_⟩) C1 ?_
  rotate_left
  · intro W' hSw
    have q := wrapq (y.n + 1)
    clear hSw
    go_simp <;> with_reducible rfl
  try simp only [Act.put, List.setIfInBounds_toArray, List.set_cons_zero, List.set_cons_succ]
  refine wpAnyH_take (i := 13) (oi := { dst := some 44, op := Op.indexAddr 24 (Operand.tmp 34) (Operand.tmp 35), type := 0, pos := "ref.go:67", after := #[{ on := 3, ground := Ground.data }, { on := 4, ground := Ground.data }, { on := 0, ground := Ground.phase }, { on := 1, ground := Ground.phase }, { on := 2, ground := Ground.phase }, { on := 3, ground := Ground.phase }, { on := 4, ground := Ground.phase }, { on := 5, ground := Ground.phase }, { on := 6, ground := Ground.phase }, { on := 7, ground := Ground.phase }, { on := 8, ground := Ground.phase }, { on := 9, ground := Ground.phase }, { on := 10, ground := Ground.phase }, { on := 11, ground := Ground.phase }, { on := 12, ground := Ground.phase }], guard := none }) (v := ?_) rfl (by kernel_rfl) (by kernel_rfl) (by kernel_rfl) (fun _ _ _ h => h) (Or.inl ⟨by rfl, ?_⟩) C1 ?_
  rotate_left
  · intro W' hSw
    clear hSw
    go_simp <;> with_reducible rfl
  try simp only [Act.put, List.setIfInBounds_toArray, List.set_cons_zero, List.set_cons_succ]
  refine wpAnyH_ready (rs := [14]) (by kernel_rfl) (by simp) ?_
  refine AllReadyH.cons (o := { dst := none, op := Op.store 3 (Operand.tmp 44) (Operand.tmp 43), type := 0, pos := "ref.go:67", after := #[{ on := 13, ground := Ground.data }, { on := 12, ground := Ground.data }, { on := 0, ground := Ground.phase }, { on := 1, ground := Ground.phase }, { on := 2, ground := Ground.phase }, { on := 3, ground := Ground.phase }, { on := 4, ground := Ground.phase }, { on := 5, ground := Ground.phase }, { on := 6, ground := Ground.phase }, { on := 7, ground := Ground.phase }, { on := 8, ground := Ground.phase }, { on := 9, ground := Ground.phase }, { on := 10, ground := Ground.phase }, { on := 11, ground := Ground.phase }, { on := 12, ground := Ground.phase }], guard := none }) rfl (fun K hK => ?_) AllReadyH.nil
  have y9 := X9.out
  have f9 := F9.out
  go_simp
  refine hK.out _ _ (CRow.setCell_other HW.out.blk.drew (p := ⟨k.b, i, none⟩) (fun e => HW.out.pn (.inr (.inl e))) _) (fun C2 => ?_)
  clear y9 f9
  clear hK K
  try simp only [Act.put]
  refine wpAnyH_done (by kernel_rfl) ?_ _
  refine NoPanic.normal ?_
  have H6 := Lib.hid ((HW.out.n_ (set_at HY.out _) (wrap64 (y.n + 1))).below ((Below.refl _ _).drew))
  have B6 := Lib.hid ((BW.out.setCell (p := ⟨k.b, i, none⟩) (v := .int .i64 (wrap64 (y.n + 1))) (.inr (.inl rfl))).drew)
  obtain ⟨_, _, _, _, _, yt, _⟩ := H6.out.row (set_at (set_at HY.out _) _)
  have ft := H6.out.torn.frozen i
  have y9 := Rf.c9 H6.out.blk
  have H7 := Lib.hid (H6.out.t_ (set_at (set_at HY.out _) _) true)
  have B7 := Lib.hid (B6.out.setCell (p := ⟨k.c, i, none⟩) (v := .bool true) (.inr (.inr (.inl rfl))))
  have E7 := Lib.hid (show s.tear i l = ⟨((s.rows.set i ⟨l, y.n, y.t⟩).set i ⟨l, wrap64 (y.n + 1), y.t⟩).set i ⟨l, wrap64 (y.n + 1), true⟩, s.er⟩ by
    unfold St.tear
    rw [sec_one HY.out, List.set_set, List.set_set]
    rfl)
  go_wp2
  go_ret
  exact ⟨rfl, E7.out ▸ H7.out, B7.out⟩

set_option maxHeartbeats 1000000 in
theorem RTear_no {I : Nat → Prop} {k : Rf} {g : Gm} {s : St} {w : World} (h : WR I w k g s) (x : Int) (B : Option Addr) (n c : Nat) (l : List Nat) (hr : R8 w B n l) (hno : ¬ (0 ≤ x ∧ x < (k.R : Int)) ∨ n ≠ g.raw.toNat) :
    Calls Try.prog 15 #[.pointer (some ⟨k.p, 0, none⟩), .int .i64 x, .slice B n c] w (Gives (.int .i64 2) w) := by
  have hsz := h.size
  have hN : Hid (g.raw = (g.raw.toNat : Int)) := Lib.hid (by omega)
  have H := Lib.hid h
  have R := Lib.hid hr
  by_cases hx : 0 ≤ x ∧ x < (k.R : Int)
  · have DX := Lib.hid (decide_eq_true hx)
    have hne : ((n : Int) == (g.raw.toNat : Int)) = false := by
      rw [beq_eq_false_iff_ne]
      have := hno.resolve_left fun h1 => h1 hx
      omega
    clear h hr hno hx hsz
    go_enter Try.func15, Try.ntmps15
    go_wp2_with fail
    refine (Is_any H.out x).mono ?_
    rintro _ w1 ⟨rfl, h1⟩
    rw [DX.out]
    have B1 := Lib.hid h1
    have H1 := Lib.hid (H.out.below h1)
    clear h1
    obtain ⟨_, g0, g1, g2, g3, g4, g5, g6⟩ := H1.out.box
    go_wp2_with fail
    clear g0 g1 g2 g3 g4 g5 g6
    have HRaw := RefRaw_any g w1 H1.out.ok
    rw [hN.out] at HRaw
    refine HRaw.mono ?_
    rintro _ w2 ⟨rfl, h2⟩
    have B2 := Lib.hid (below_step B1.out h2)
    have H2 := Lib.hid (H1.out.below h2)
    have R2 := Lib.hid (R.out.below B2.out)
    clear h2 HRaw
    go_wp2
    go_ret
    exact ⟨rfl, B2.out⟩
  · have DX := Lib.hid (decide_eq_false hx)
    clear h hr hno hx hsz
    go_enter Try.func15, Try.ntmps15
    go_wp2_with fail
    refine (Is_any H.out x).mono ?_
    rintro _ w1 ⟨rfl, h1⟩
    rw [DX.out]
    have B1 := Lib.hid h1
    have H1 := Lib.hid (H.out.below h1)
    clear h1
    obtain ⟨_, g0, g1, g2, g3, g4, g5, g6⟩ := H1.out.box
    go_wp2
    go_ret
    exact ⟨rfl, B1.out⟩
end Go.Proofs.Ytlmdhlogmfdokaa

/-
  Contracts of the document's array: Erase, TearBlock.
-/
namespace Go.Proofs.Ytlmdhlogmfdokaa
open Go.RowKit
set_option maxRecDepth 100000

theorem Rf.box {w : World} {k : Rf} {g : Gm} (h : CRow w k.p 69 (k.cells g)) : GBox w k.p g :=
  ⟨h.lt, h.cell_at 0 _ rfl, h.cell_at 1 _ rfl, h.cell_at 2 _ rfl, h.cell_at 3 _ rfl, h.cell_at 4 _ rfl, h.cell_at 5 _ rfl, h.cell_at 6 _ rfl⟩
theorem RErase_no {I : Nat → Prop} {k : Rf} {g : Gm} {s : St} {w : World} (h : WR I w k g s) (x : Int) (hx : ¬ (0 ≤ x ∧ x < g.b)) : Calls Try.prog 17 #[.pointer (some ⟨k.p, 0, none⟩), .int .i64 x] w (Gives (.int .i64 2) w) := by
  obtain ⟨_, g0, g1, g2, g3, g4, g5, g6⟩ := h.box
  by_cases h0 : 0 ≤ x
  · have h1 : g.b ≤ x := by omega
    have h2 : ¬ x < 0 := by omega
    clear h hx
    go_enter Try.func17, Try.ntmps17
    go_wp2
    go_ret
    exact ⟨rfl, Below.refl _ _⟩
  · have h1 : x < 0 := by omega
    clear h hx h0
    go_enter Try.func17, Try.ntmps17
    go_wp2
    go_ret
    exact ⟨rfl, Below.refl _ _⟩
set_option maxHeartbeats 4000000 in
theorem RErase_yes {I : Nat → Prop} {k : Rf} {g : Gm} {s : St} {w : World} (h : WR I w k g s) {kk : Nat} (hk : kk < g.b.toNat) : Calls Try.prog 17 #[.pointer (some ⟨k.p, 0, none⟩), .int .i64 (kk : Int)] w fun e w' => e = .returned (.int .i64 0) ∧ WR I w' k g (s.erase g.raw.toNat g.s.toNat kk) ∧ Btw k.J w w' := by
  have hsz := h.size
  have hN : Hid (g.raw = (g.raw.toNat : Int)) := Lib.hid (by omega)
  have hlow := h.low
  have H := Lib.hid h
  obtain ⟨P, hP⟩ : ∃ P : Nat, P = g.s.toNat := ⟨_, rfl⟩
  obtain ⟨a, ha⟩ : ∃ a : Nat, a = kk * P := ⟨_, rfl⟩
  have hk2 : (kk : Int) < g.b := by have := h.bb; omega
  have hP1 : 4 ≤ P ∧ P ≤ 64 := by omega
  have HS := Lib.hid (show g.s = (P : Int) by omega)
  have HBB := Lib.hid (show g.b = (k.B : Int) by have := h.bb; omega)
  have ha2 : a ≤ 256 * 64 := by rw [ha]; exact Nat.mul_le_mul (by omega) hP1.2
  have hR : a + P ≤ k.R := by
    obtain ⟨B, hB⟩ : ∃ B : Nat, g.b = (B : Int) := ⟨g.b.toNat, by omega⟩
    have e : g.b * g.s = ((B * P : Nat) : Int) := by rw [hB, HS.out]; push_cast; rfl
    rw [h.rr, e, Int.toNat_natCast, ha, ← Nat.succ_mul]
    exact Nat.mul_le_mul_right _ (by omega)
  have hwm : IntKind.i64.wrap ((kk : Int) * (P : Int)) = (a : Int) := by
    have e : (kk : Int) * (P : Int) = (a : Int) := by rw [ha]; push_cast; rfl
    rw [e]
    exact IntWalk.i64_in _ (by omega)
  have i0 : (0 : Int) ≤ (kk : Int) := by omega
  have i1 : (kk : Int) < (k.B : Int) := by have := h.bb; omega
  have hN0 : Hid (0 < g.raw.toNat) := Lib.hid (by omega)
  have hn8 : g.raw.toNat ≤ 1099511627776 := by omega
  have HPS := Lib.hid hP
  have HAA := Lib.hid ha
  obtain ⟨N, hNN⟩ : ∃ N, N = g.raw.toNat := ⟨_, rfl⟩
  have HNN := Lib.hid hNN
  have HN0 := Lib.hid (show g.raw = (N : Int) by omega)
  have hN1 : 0 < N := by omega
  have hn8N : N ≤ 1099511627776 := by omega
  obtain ⟨_, g0, g1, g2, g3, g4, g5, g6⟩ := H.out.box
  rw [HBB.out] at g1
  rw [HS.out] at g2
  rw [← hP]
  clear h hsz hlow hP ha hk hk2 hNN hn8
  go_enter Try.func17, Try.ntmps17
  go_wp2
  clear g0 g1 g2 g3 g4 g5 g6
  go_loopw [5, 6] (fun i _ wr => ∃ f : Nat, f ≤ P ∧ i = .int .i64 (f : Int) ∧ Hid (WR I wr k g ⟨sec (fun _ => ersd g.raw.toNat) a f s.rows, s.er⟩) ∧ Hid (Btw k.J w wr)) (fun i _ _ => P - (intOf i).toNat)
  case atStart => exact ⟨0, Nat.zero_le _, rfl, Lib.hid (by rw [sec_zero]; exact H.out), Lib.hid (Btw.refl w)⟩
  case round =>
    obtain ⟨f, hf, rfl, HA, HB⟩ := hrel
    rename World => wr
    obtain ⟨_, g0, g1, g2, g3, g4, g5, g6⟩ := HA.out.box
    rw [HS.out] at g2
    by_cases hlt : f < P
    · have d1 : decide ((f : Int) < (P : Int)) = true := decide_eq_true (by omega)
      have hwa : IntKind.i64.wrap ((a : Int) + (f : Int)) = (a : Int) + (f : Int) := IntWalk.i64_in _ (by omega)
      have htn : ((a : Int) + (f : Int)).toNat = a + f := by omega
      have j0 : (0 : Int) ≤ (a : Int) + (f : Int) := by omega
      have j1 : (a : Int) + (f : Int) < (k.R : Int) := by omega
      have hrow : a + f < (sec (fun _ => ersd g.raw.toNat) a f s.rows).length := by
        have := HA.out.nr
        simp only at this
        omega
      obtain ⟨y, hy⟩ : ∃ y, (sec (fun _ => ersd g.raw.toNat) a f s.rows)[a + f]? = some y := ⟨_, List.getElem?_eq_getElem hrow⟩
      have HY := Lib.hid hy
      clear hy hrow
      go_wp2
      clear g0 g1 g2 g3 g4 g5 g6
      refine wp_region_noPanic ?_
      refine wp_region_held_drew (S := fun w' => CRow w' k.p 69 (k.cells g)) (by kernel_rfl) (HA.out.blk.drew) (fun C0 => ?_)
      refine wpAnyH_take (i := 0) (oi := { dst := some 36, op := Op.move (Operand.tmp 0), type := 32, pos := "ref.go:79", after := #[], guard := none }) (v := ?_) rfl (by kernel_rfl) (by kernel_rfl) (by kernel_rfl) (fun _ _ _ h => h) (Or.inl ⟨by rfl, ?_⟩) C0 ?_
      rotate_left
      · intro W' hSw
        clear hSw
        go_simp <;> with_reducible rfl
      try simp only [Act.put, List.setIfInBounds_toArray, List.set_cons_zero, List.set_cons_succ]
      refine wpAnyH_take (i := 1) (oi := { dst := some 37, op := Op.nilCheck (Operand.tmp 36), type := 0, pos := "ref.go:79", after := #[{ on := 0, ground := Ground.data }], guard := none }) (v := ?_) rfl (by kernel_rfl) (by kernel_rfl) (by kernel_rfl) (fun _ _ _ h => h) (Or.inl ⟨by rfl, ?_⟩) C0 ?_
      rotate_left
      · intro W' hSw
        clear hSw
        go_simp <;> with_reducible rfl
      try simp only [Act.put, List.setIfInBounds_toArray, List.set_cons_zero, List.set_cons_succ]
      refine wpAnyH_take (i := 2) (oi := { dst := some 38, op := Op.fieldAddr 69 (Operand.tmp 37) 1, type := 0, pos := "ref.go:79", after := #[{ on := 1, ground := Ground.data }], guard := none }) (v := ?_) rfl (by kernel_rfl) (by kernel_rfl) (by kernel_rfl) (fun _ _ _ h => h) (Or.inl ⟨by rfl, ?_⟩) C0 ?_
      rotate_left
      · intro W' hSw
        clear hSw
        go_simp <;> with_reducible rfl
      try simp only [Act.put, List.setIfInBounds_toArray, List.set_cons_zero, List.set_cons_succ]
      refine wpAnyH_take (i := 3) (oi := { dst := some 39, op := Op.load 43 (Operand.tmp 38), type := 43, pos := "ref.go:79", after := #[{ on := 2, ground := Ground.data }], guard := none }) (v := ?_) rfl (by kernel_rfl) (by kernel_rfl) (by kernel_rfl) (fun _ _ _ h => h) (Or.inl ⟨by rfl, ?_⟩) C0 ?_
      rotate_left
      · intro W' hSw
        have y := Rf.c7 hSw
        clear hSw
        go_simp <;> with_reducible rfl
      try simp only [Act.put, List.setIfInBounds_toArray, List.set_cons_zero, List.set_cons_succ]
      refine wpAnyH_take (i := 4) (oi := { dst := some 40, op := Op.move (Operand.tmp 6), type := 3, pos := "ref.go:79", after := #[], guard := none }) (v := ?_) rfl (by kernel_rfl) (by kernel_rfl) (by kernel_rfl) (fun _ _ _ h => h) (Or.inl ⟨by rfl, ?_⟩) C0 ?_
      rotate_left
      · intro W' hSw
        clear hSw
        go_simp <;> with_reducible rfl
      try simp only [Act.put, List.setIfInBounds_toArray, List.set_cons_zero, List.set_cons_succ]
      refine wpAnyH_take (i := 5) (oi := { dst := some 41, op := Op.move (Operand.tmp 0), type := 32, pos := "ref.go:79", after := #[], guard := none }) (v := ?_) rfl (by kernel_rfl) (by kernel_rfl) (by kernel_rfl) (fun _ _ _ h => h) (Or.inl ⟨by rfl, ?_⟩) C0 ?_
      rotate_left
      · intro W' hSw
        clear hSw
        go_simp <;> with_reducible rfl
      try simp only [Act.put, List.setIfInBounds_toArray, List.set_cons_zero, List.set_cons_succ]
      refine wpAnyH_take (i := 6) (oi := { dst := some 42, op := Op.nilCheck (Operand.tmp 41), type := 0, pos := "ref.go:79", after := #[{ on := 5, ground := Ground.data }], guard := none }) (v := ?_) rfl (by kernel_rfl) (by kernel_rfl) (by kernel_rfl) (fun _ _ _ h => h) (Or.inl ⟨by rfl, ?_⟩) C0 ?_
      rotate_left
      · intro W' hSw
        clear hSw
        go_simp <;> with_reducible rfl
      try simp only [Act.put, List.setIfInBounds_toArray, List.set_cons_zero, List.set_cons_succ]
      refine wpAnyH_take (i := 7) (oi := { dst := some 43, op := Op.fieldAddr 69 (Operand.tmp 42) 0, type := 0, pos := "ref.go:79", after := #[{ on := 6, ground := Ground.data }], guard := none }) (v := ?_) rfl (by kernel_rfl) (by kernel_rfl) (by kernel_rfl) (fun _ _ _ h => h) (Or.inl ⟨by rfl, ?_⟩) C0 ?_
      rotate_left
      · intro W' hSw
        clear hSw
        go_simp <;> with_reducible rfl
      try simp only [Act.put, List.setIfInBounds_toArray, List.set_cons_zero, List.set_cons_succ]
      refine wpAnyH_take (i := 8) (oi := { dst := some 44, op := Op.load 23 (Operand.tmp 43), type := 23, pos := "ref.go:79", after := #[{ on := 7, ground := Ground.data }], guard := none }) (v := ?_) rfl (by kernel_rfl) (by kernel_rfl) (by kernel_rfl) (fun _ _ _ h => h) (Or.inl ⟨by rfl, ?_⟩) C0 ?_
      rotate_left
      · intro W' hSw
        obtain ⟨_, y0, y1, y2, y3, y4, y5, y6⟩ := Rf.box hSw
        clear hSw
        go_simp <;> with_reducible rfl
      try simp only [Act.put, List.setIfInBounds_toArray, List.set_cons_zero, List.set_cons_succ]
      refine wpAnyH_ready (rs := [9]) (by kernel_rfl) (by simp) ?_
      refine AllReadyH.cons (o := { dst := some 45, op := Op.call { callee := Callee.value (Operand.func 24), args := #[Operand.tmp 44], argTypes := #[23] }, type := 3, pos := "ref.go:79", after := #[{ on := 8, ground := Ground.data }], guard := none }) rfl (fun K hK => ?_) AllReadyH.nil
      go_simp
      have HRaw := RefRaw_any g wr.drew HA.out.ok
      rw [HN0.out] at HRaw
      refine HRaw.mono ?_
      rintro _ w3 ⟨rfl, h3⟩
      have H3 := Lib.hid ((HA.out.below ((Below.refl _ _).drew)).below h3)
      have B3 := Lib.hid (Btw.trans (J := fun _ => False) HB.out.drew (Btw.of_below h3) (fun _ _ h => h.elim))
      clear h3 HRaw
      go_wp2_with fail
      refine hK.out _ _ H3.out.blk (fun C1 => ?_)
      clear hK K
      try simp only [Act.put, List.setIfInBounds_toArray, List.set_cons_zero, List.set_cons_succ]
      refine wpAnyH_ready (rs := [10]) (by kernel_rfl) (by simp) ?_
      refine AllReadyH.cons (o := { dst := some 46, op := Op.call { callee := Callee.value (Operand.func 35), args := #[Operand.tmp 45], argTypes := #[3] }, type := 35, pos := "ref.go:79", after := #[{ on := 9, ground := Ground.data }, { on := 9, ground := Ground.chain }], guard := none }) rfl (fun K hK => ?_) AllReadyH.nil
      go_simp
      refine (ones_any N w3 hn8N).mono ?_
      rintro _ w4 ⟨A4, c4, rfl, hr4, hb4⟩
      rw [List.length_replicate] at hr4 ⊢
      have hl4 := H3.out.lt
      obtain ⟨b4, rfl, hb5, _, hr5⟩ := own_head hr4 hN1 (by intro x hx; rw [(List.mem_replicate.1 hx).2]; omega)
      have hI4 : ¬ I b4 := fun h1 => by have := hl4 b4 h1; omega
      have H4 := Lib.hid (H3.out.below hb4)
      have B4 := Lib.hid (Btw.trans (J := fun _ => False) B3.out (Btw.of_below hb4) (fun _ _ h => h.elim))
      have R4 := Lib.hid hr5
      obtain ⟨_, _, _, h9, _⟩ := H4.out.row HY.out
      have X4 := Lib.hid h9
      clear hr4 hb4 hl4 hr5 hb5 h9 H3 B3
      go_wp2_with fail
      refine hK.out _ _ H4.out.blk (fun C2 => ?_)
      clear hK K
      try simp only [Act.put, List.setIfInBounds_toArray, List.set_cons_zero, List.set_cons_succ]
      refine wpAnyH_take (i := 11) (oi := { dst := some 47, op := Op.indexAddr 43 (Operand.tmp 39) (Operand.tmp 40), type := 0, pos := "ref.go:79", after := #[{ on := 3, ground := Ground.data }, { on := 4, ground := Ground.data }, { on := 0, ground := Ground.phase }, { on := 1, ground := Ground.phase }, { on := 2, ground := Ground.phase }, { on := 3, ground := Ground.phase }, { on := 4, ground := Ground.phase }, { on := 5, ground := Ground.phase }, { on := 6, ground := Ground.phase }, { on := 7, ground := Ground.phase }, { on := 8, ground := Ground.phase }, { on := 9, ground := Ground.phase }, { on := 10, ground := Ground.phase }], guard := none }) (v := ?_) rfl (by kernel_rfl) (by kernel_rfl) (by kernel_rfl) (fun _ _ _ h => h) (Or.inl ⟨by rfl, ?_⟩) C2 ?_
      rotate_left
      · intro W' hSw
        clear hSw
        go_simp <;> with_reducible rfl
      try simp only [Act.put, List.setIfInBounds_toArray, List.set_cons_zero, List.set_cons_succ]
      refine wpAnyH_ready (rs := [12]) (by kernel_rfl) (by simp) ?_
      refine AllReadyH.cons (o := { dst := none, op := Op.store 35 (Operand.tmp 47) (Operand.tmp 46), type := 0, pos := "ref.go:79", after := #[{ on := 11, ground := Ground.data }, { on := 10, ground := Ground.data }, { on := 10, ground := Ground.chain }, { on := 0, ground := Ground.phase }, { on := 1, ground := Ground.phase }, { on := 2, ground := Ground.phase }, { on := 3, ground := Ground.phase }, { on := 4, ground := Ground.phase }, { on := 5, ground := Ground.phase }, { on := 6, ground := Ground.phase }, { on := 7, ground := Ground.phase }, { on := 8, ground := Ground.phase }, { on := 9, ground := Ground.phase }, { on := 10, ground := Ground.phase }], guard := none }) rfl (fun K hK => ?_) AllReadyH.nil
      have y9 := X4.out
      have f9 := H4.out.fa (a + f)
      go_simp
      refine hK.out _ _ (H4.out.blk.setCell_other (p := ⟨k.a, a + f, none⟩) (fun e => H4.out.pn (.inl e)) _) (fun C3 => ?_)
      clear y9 f9
      clear hK K
      try simp only [Act.put]
      refine wpAnyH_done (by kernel_rfl) ?_ _
      refine NoPanic.normal ?_
      have HW := Lib.hid (show WR I (w4.setCell ⟨k.a, a + f, none⟩ (.slice (some ⟨b4, 0, none⟩) N c4)) k g ⟨(sec (fun _ => ersd g.raw.toNat) a f s.rows).set (a + f) ⟨List.replicate g.raw.toNat 255, y.n, y.t⟩, s.er⟩ by
        rw [HNN.out]
        exact H4.out.raw_ HY.out b4 0 c4 (List.replicate g.raw.toNat 255) hI4 (HNN.out ▸ R4.out))
      have BW := Lib.hid (B4.out.setCell (p := ⟨k.a, a + f, none⟩) (v := .slice (some ⟨b4, 0, none⟩) N c4) (.inl rfl))
      generalize w4.setCell ⟨k.a, a + f, none⟩ (.slice (some ⟨b4, 0, none⟩) N c4) = w5 at *
      clear H4 B4 R4 X4
      obtain ⟨_, _, _, _, x9, _, _⟩ := HW.out.row (set_at HY.out _)
      have f9 := HW.out.progs.frozen (a + f)
      have x8 := Rf.c8 HW.out.blk
      have HV := Lib.hid (HW.out.n_ (set_at HY.out _) 0)
      obtain ⟨_, _, _, _, _, yt, _⟩ := HV.out.row (set_at (set_at HY.out _) _)
      have ft := HV.out.torn.frozen (a + f)
      have y9 := Rf.c9 HV.out.blk
      have HU := Lib.hid (HV.out.t_ (set_at (set_at HY.out _) _) false)
      have BU := Lib.hid ((BW.out.setCell (p := ⟨k.b, a + f, none⟩) (v := .int .i64 0) (.inr (.inl rfl))).setCell (p := ⟨k.c, a + f, none⟩) (v := .bool false) (.inr (.inr (.inl rfl))))
      have EU := Lib.hid (show sec (fun _ => ersd g.raw.toNat) a (f + 1) s.rows = (((sec (fun _ => ersd g.raw.toNat) a f s.rows).set (a + f) ⟨List.replicate g.raw.toNat 255, y.n, y.t⟩).set (a + f) ⟨List.replicate g.raw.toNat 255, 0, y.t⟩).set (a + f) ⟨List.replicate g.raw.toNat 255, 0, false⟩ by
        rw [sec_succ, sec_one HY.out, List.set_set, List.set_set]
        rfl)
      clear HW HV
      go_wp2
      go_roundw
      case rel => first | exact ⟨f + 1, by omega, by go_num, Lib.hid (by rw [EU.out]; exact HU.out)⟩ | exact ⟨f + 1, by omega, by go_num, Lib.hid (by rw [EU.out]; exact HU.out), BU⟩
      case measure => simp [intOf]; omega
    · obtain rfl : f = P := by omega
      have d1 : decide ((f : Int) < (f : Int)) = false := decide_eq_false (by omega)
      have HW := HA
      obtain ⟨z, hz, x9, _⟩ := HW.out.erc (i := kk) (by omega)
      have X9 := Lib.hid x9
      have F9 := Lib.hid (HW.out.er.frozen kk)
      have HZ := Lib.hid hz
      clear x9 hz
      go_wp2
      clear g0 g1 g2 g3 g4 g5 g6
      refine wp_region_noPanic ?_
      refine wp_region_held_drew (S := fun w' => CRow w' k.p 69 (k.cells g)) (by kernel_rfl) (HW.out.blk.drew) (fun C0 => ?_)
      refine wpAnyH_take (i := 0) (oi := { dst := some 60, op := Op.move (Operand.tmp 0), type := 32, pos := "ref.go:83", after := #[], guard := none }) (v := ?_) rfl (by kernel_rfl) (by kernel_rfl) (by kernel_rfl) (fun _ _ _ h => h) (Or.inl ⟨by rfl, ?_⟩) C0 ?_
      rotate_left
      · intro W' hSw
        clear hSw
        go_simp <;> with_reducible rfl
      try simp only [Act.put, List.setIfInBounds_toArray, List.set_cons_zero, List.set_cons_succ]
      refine wpAnyH_take (i := 1) (oi := { dst := some 61, op := Op.nilCheck (Operand.tmp 60), type := 0, pos := "ref.go:83", after := #[{ on := 0, ground := Ground.data }], guard := none }) (v := ?_) rfl (by kernel_rfl) (by kernel_rfl) (by kernel_rfl) (fun _ _ _ h => h) (Or.inl ⟨by rfl, ?_⟩) C0 ?_
      rotate_left
      · intro W' hSw
        clear hSw
        go_simp <;> with_reducible rfl
      try simp only [Act.put, List.setIfInBounds_toArray, List.set_cons_zero, List.set_cons_succ]
      refine wpAnyH_take (i := 2) (oi := { dst := some 62, op := Op.fieldAddr 69 (Operand.tmp 61) 4, type := 0, pos := "ref.go:83", after := #[{ on := 1, ground := Ground.data }], guard := none }) (v := ?_) rfl (by kernel_rfl) (by kernel_rfl) (by kernel_rfl) (fun _ _ _ h => h) (Or.inl ⟨by rfl, ?_⟩) C0 ?_
      rotate_left
      · intro W' hSw
        clear hSw
        go_simp <;> with_reducible rfl
      try simp only [Act.put, List.setIfInBounds_toArray, List.set_cons_zero, List.set_cons_succ]
      refine wpAnyH_take (i := 3) (oi := { dst := some 63, op := Op.load 24 (Operand.tmp 62), type := 24, pos := "ref.go:83", after := #[{ on := 2, ground := Ground.data }], guard := none }) (v := ?_) rfl (by kernel_rfl) (by kernel_rfl) (by kernel_rfl) (fun _ _ _ h => h) (Or.inl ⟨by rfl, ?_⟩) C0 ?_
      rotate_left
      · intro W' hSw
        have y := Rf.c10 hSw
        clear hSw
        go_simp <;> with_reducible rfl
      try simp only [Act.put, List.setIfInBounds_toArray, List.set_cons_zero, List.set_cons_succ]
      refine wpAnyH_take (i := 4) (oi := { dst := some 64, op := Op.move (Operand.tmp 1), type := 3, pos := "ref.go:83", after := #[], guard := none }) (v := ?_) rfl (by kernel_rfl) (by kernel_rfl) (by kernel_rfl) (fun _ _ _ h => h) (Or.inl ⟨by rfl, ?_⟩) C0 ?_
      rotate_left
      · intro W' hSw
        clear hSw
        go_simp <;> with_reducible rfl
      try simp only [Act.put, List.setIfInBounds_toArray, List.set_cons_zero, List.set_cons_succ]
      refine wpAnyH_take (i := 5) (oi := { dst := some 65, op := Op.move (Operand.tmp 0), type := 32, pos := "ref.go:83", after := #[], guard := none }) (v := ?_) rfl (by kernel_rfl) (by kernel_rfl) (by kernel_rfl) (fun _ _ _ h => h) (Or.inl ⟨by rfl, ?_⟩) C0 ?_
      rotate_left
      · intro W' hSw
        clear hSw
        go_simp <;> with_reducible rfl
      try simp only [Act.put, List.setIfInBounds_toArray, List.set_cons_zero, List.set_cons_succ]
      refine wpAnyH_take (i := 6) (oi := { dst := some 66, op := Op.nilCheck (Operand.tmp 65), type := 0, pos := "ref.go:83", after := #[{ on := 5, ground := Ground.data }], guard := none }) (v := ?_) rfl (by kernel_rfl) (by kernel_rfl) (by kernel_rfl) (fun _ _ _ h => h) (Or.inl ⟨by rfl, ?_⟩) C0 ?_
      rotate_left
      · intro W' hSw
        clear hSw
        go_simp <;> with_reducible rfl
      try simp only [Act.put, List.setIfInBounds_toArray, List.set_cons_zero, List.set_cons_succ]
      refine wpAnyH_take (i := 7) (oi := { dst := some 67, op := Op.fieldAddr 69 (Operand.tmp 66) 4, type := 0, pos := "ref.go:83", after := #[{ on := 6, ground := Ground.data }], guard := none }) (v := ?_) rfl (by kernel_rfl) (by kernel_rfl) (by kernel_rfl) (fun _ _ _ h => h) (Or.inl ⟨by rfl, ?_⟩) C0 ?_
      rotate_left
      · intro W' hSw
        clear hSw
        go_simp <;> with_reducible rfl
      try simp only [Act.put, List.setIfInBounds_toArray, List.set_cons_zero, List.set_cons_succ]
      refine wpAnyH_take (i := 8) (oi := { dst := some 68, op := Op.load 24 (Operand.tmp 67), type := 24, pos := "ref.go:83", after := #[{ on := 7, ground := Ground.data }], guard := none }) (v := ?_) rfl (by kernel_rfl) (by kernel_rfl) (by kernel_rfl) (fun _ _ _ h => h) (Or.inl ⟨by rfl, ?_⟩) C0 ?_
      rotate_left
      · intro W' hSw
        have y := Rf.c10 hSw
        clear hSw
        go_simp <;> with_reducible rfl
      try simp only [Act.put, List.setIfInBounds_toArray, List.set_cons_zero, List.set_cons_succ]
      refine wpAnyH_take (i := 9) (oi := { dst := some 69, op := Op.move (Operand.tmp 1), type := 3, pos := "ref.go:83", after := #[], guard := none }) (v := ?_) rfl (by kernel_rfl) (by kernel_rfl) (by kernel_rfl) (fun _ _ _ h => h) (Or.inl ⟨by rfl, ?_⟩) C0 ?_
      rotate_left
      · intro W' hSw
        clear hSw
        go_simp <;> with_reducible rfl
      try simp only [Act.put, List.setIfInBounds_toArray, List.set_cons_zero, List.set_cons_succ]
      refine wpAnyH_take (i := 10) (oi := { dst := some 70, op := Op.indexAddr 24 (Operand.tmp 68) (Operand.tmp 69), type := 0, pos := "ref.go:83", after := #[{ on := 8, ground := Ground.data }, { on := 9, ground := Ground.data }], guard := none }) (v := ?_) rfl (by kernel_rfl) (by kernel_rfl) (by kernel_rfl) (fun _ _ _ h => h) (Or.inl ⟨by rfl, ?_⟩) C0 ?_
      rotate_left
      · intro W' hSw
        clear hSw
        go_simp <;> with_reducible rfl
      try simp only [Act.put, List.setIfInBounds_toArray, List.set_cons_zero, List.set_cons_succ]
      refine wpAnyH_ready (rs := [11]) (by kernel_rfl) (by simp) ?_
      refine AllReadyH.cons (o := { dst := some 71, op := Op.load 3 (Operand.tmp 70), type := 3, pos := "ref.go:83", after := #[{ on := 10, ground := Ground.data }], guard := none }) rfl (fun K hK => ?_) AllReadyH.nil
      have y9 := X9.out
      go_simp
      refine hK.out _ _ HW.out.blk.drew (fun C1 => ?_)
      clear y9
      clear hK K
      try simp only [Act.put, List.setIfInBounds_toArray, List.set_cons_zero, List.set_cons_succ]
      refine wpAnyH_take (i := 12) (oi := { dst := some 72, op := Op.binOp BinOp.add 3 (Operand.tmp 71) (Operand.const (Value.int IntKind.i64 1)) 3, type := 3, pos := "ref.go:83", after := #[{ on := 11, ground := Ground.data }], guard := none }) (v := ?_) rfl (by kernel_rfl) (by kernel_rfl) (by kernel_rfl) (fun _ _ _ h => h) (Or.inl ⟨by rfl, ?_⟩) C1 ?_
      rotate_left
      · intro W' hSw
        have q := wrapq (z + 1)
        clear hSw
        go_simp <;> with_reducible rfl
      try simp only [Act.put, List.setIfInBounds_toArray, List.set_cons_zero, List.set_cons_succ]
      refine wpAnyH_take (i := 13) (oi := { dst := some 73, op := Op.indexAddr 24 (Operand.tmp 63) (Operand.tmp 64), type := 0, pos := "ref.go:83", after := #[{ on := 3, ground := Ground.data }, { on := 4, ground := Ground.data }, { on := 0, ground := Ground.phase }, { on := 1, ground := Ground.phase }, { on := 2, ground := Ground.phase }, { on := 3, ground := Ground.phase }, { on := 4, ground := Ground.phase }, { on := 5, ground := Ground.phase }, { on := 6, ground := Ground.phase }, { on := 7, ground := Ground.phase }, { on := 8, ground := Ground.phase }, { on := 9, ground := Ground.phase }, { on := 10, ground := Ground.phase }, { on := 11, ground := Ground.phase }, { on := 12, ground := Ground.phase }], guard := none }) (v := ?_) rfl (by kernel_rfl) (by kernel_rfl) (by kernel_rfl) (fun _ _ _ h => h) (Or.inl ⟨by rfl, ?_⟩) C1 ?_
      rotate_left
      · intro W' hSw
        clear hSw
        go_simp <;> with_reducible rfl
      try simp only [Act.put, List.setIfInBounds_toArray, List.set_cons_zero, List.set_cons_succ]
      refine wpAnyH_ready (rs := [14]) (by kernel_rfl) (by simp) ?_
      refine AllReadyH.cons (o := { dst := none, op := Op.store 3 (Operand.tmp 73) (Operand.tmp 72), type := 0, pos := "ref.go:83", after := #[{ on := 13, ground := Ground.data }, { on := 12, ground := Ground.data }, { on := 0, ground := Ground.phase }, { on := 1, ground := Ground.phase }, { on := 2, ground := Ground.phase }, { on := 3, ground := Ground.phase }, { on := 4, ground := Ground.phase }, { on := 5, ground := Ground.phase }, { on := 6, ground := Ground.phase }, { on := 7, ground := Ground.phase }, { on := 8, ground := Ground.phase }, { on := 9, ground := Ground.phase }, { on := 10, ground := Ground.phase }, { on := 11, ground := Ground.phase }, { on := 12, ground := Ground.phase }], guard := none }) rfl (fun K hK => ?_) AllReadyH.nil
      have y9 := X9.out
      have f9 := F9.out
      go_simp
      refine hK.out _ _ (CRow.setCell_other HW.out.blk.drew (p := ⟨k.d, kk, none⟩) (fun e => HW.out.pn (.inr (.inr (.inr e)))) _) (fun C2 => ?_)
      clear y9 f9
      clear hK K
      try simp only [Act.put]
      refine wpAnyH_done (by kernel_rfl) ?_ _
      refine NoPanic.normal ?_
      have H6 := Lib.hid ((HW.out.er_ HZ.out (wrap64 (z + 1))).below ((Below.refl _ _).drew))
      have B6 := Lib.hid ((HB.out.setCell (p := ⟨k.d, kk, none⟩) (v := .int .i64 (wrap64 (z + 1))) (.inr (.inr (.inr rfl)))).drew)
      have E6 := Lib.hid (show s.erase g.raw.toNat f kk = ⟨sec (fun _ => ersd g.raw.toNat) a f s.rows, s.er.set kk (wrap64 (z + 1))⟩ by
        unfold St.erase
        rw [sec_one HZ.out, HAA.out]
        rfl)
      go_wp2
      go_ret
      exact ⟨rfl, E6.out ▸ H6.out, B6.out⟩

set_option maxHeartbeats 1000000 in
theorem RTearBlock_no {I : Nat → Prop} {k : Rf} {g : Gm} {s : St} {w : World} (h : WR I w k g s) (x : Int) (B : Option Addr) (n c : Nat) (l : List Nat) (_hr : R8 w B n l) (hno : ¬ (0 ≤ x ∧ x < g.b) ∨ n ≠ g.raw.toNat) :
    Calls Try.prog 19 #[.pointer (some ⟨k.p, 0, none⟩), .int .i64 x, .slice B n c] w (Gives (.int .i64 2) w) := by
  have hsz := h.size
  have hN : Hid (g.raw = (g.raw.toNat : Int)) := Lib.hid (by omega)
  have H := Lib.hid h
  obtain ⟨_, g0, g1, g2, g3, g4, g5, g6⟩ := h.box
  by_cases hx : 0 ≤ x ∧ x < g.b
  · have hne : ((n : Int) == (g.raw.toNat : Int)) = false := by
      rw [beq_eq_false_iff_ne]
      have := hno.resolve_left fun h1 => h1 hx
      omega
    have h1 : ¬ x < 0 := by omega
    have h2 : ¬ g.b ≤ x := by omega
    clear h hno hx hsz
    go_enter Try.func19, Try.ntmps19
    go_wp2_with fail
    clear g0 g1 g2 g3 g4 g5 g6
    have HRaw := RefRaw_any g w H.out.ok
    rw [hN.out] at HRaw
    refine HRaw.mono ?_
    rintro _ w2 ⟨rfl, h2⟩
    have B2 := Lib.hid h2
    clear h2 HRaw
    go_wp2
    go_ret
    exact ⟨rfl, B2.out⟩
  · clear hno
    by_cases h0 : 0 ≤ x
    · have h1 : g.b ≤ x := by omega
      have h2 : ¬ x < 0 := by omega
      clear h hx hsz
      go_enter Try.func19, Try.ntmps19
      go_wp2
      go_ret
      exact ⟨rfl, Below.refl _ _⟩
    · have h1 : x < 0 := by omega
      clear h hx h0 hsz
      go_enter Try.func19, Try.ntmps19
      go_wp2
      go_ret
      exact ⟨rfl, Below.refl _ _⟩
set_option maxHeartbeats 4000000 in
theorem RTearBlock_yes {I : Nat → Prop} {k : Rf} {g : Gm} {s : St} {w : World} (h : WR I w k g s) {kk : Nat} (hk : kk < g.b.toNat) (B : Option Addr) (n c : Nat) (l : List Nat) (hr : R8 w B n l) (hn : n = g.raw.toNat) (hBJ : ∀ b off, B = some ⟨b, off, none⟩ → ¬ k.J b) :
    Calls Try.prog 19 #[.pointer (some ⟨k.p, 0, none⟩), .int .i64 (kk : Int), .slice B n c] w fun e w' => e = .returned (.int .i64 0) ∧ WR I w' k g (s.tearB g.s.toNat kk l) ∧ Btw k.J w w' := by
  have hsz := h.size
  have hN : Hid (g.raw = (g.raw.toNat : Int)) := Lib.hid (by omega)
  have hlow := h.low
  have H := Lib.hid h
  obtain ⟨P, hP⟩ : ∃ P : Nat, P = g.s.toNat := ⟨_, rfl⟩
  obtain ⟨a, ha⟩ : ∃ a : Nat, a = kk * P := ⟨_, rfl⟩
  have hk2 : (kk : Int) < g.b := by have := h.bb; omega
  have hP1 : 4 ≤ P ∧ P ≤ 64 := by omega
  have HS := Lib.hid (show g.s = (P : Int) by omega)
  have HBB := Lib.hid (show g.b = (k.B : Int) by have := h.bb; omega)
  have ha2 : a ≤ 256 * 64 := by rw [ha]; exact Nat.mul_le_mul (by omega) hP1.2
  have hR : a + P ≤ k.R := by
    obtain ⟨B, hB⟩ : ∃ B : Nat, g.b = (B : Int) := ⟨g.b.toNat, by omega⟩
    have e : g.b * g.s = ((B * P : Nat) : Int) := by rw [hB, HS.out]; push_cast; rfl
    rw [h.rr, e, Int.toNat_natCast, ha, ← Nat.succ_mul]
    exact Nat.mul_le_mul_right _ (by omega)
  have hwm : IntKind.i64.wrap ((kk : Int) * (P : Int)) = (a : Int) := by
    have e : (kk : Int) * (P : Int) = (a : Int) := by rw [ha]; push_cast; rfl
    rw [e]
    exact IntWalk.i64_in _ (by omega)
  have i0 : (0 : Int) ≤ (kk : Int) := by omega
  have i1 : (kk : Int) < (k.B : Int) := by have := h.bb; omega
  have hN0 : Hid (0 < g.raw.toNat) := Lib.hid (by omega)
  have hn8 : g.raw.toNat ≤ 1099511627776 := by omega
  have HPS := Lib.hid hP
  have HAA := Lib.hid ha
  obtain ⟨bB, oB, rfl, _⟩ := hr.1.2 (show 0 < n by omega)
  have hBJ := hBJ bB oB rfl
  have R := Lib.hid hr
  have HN := Lib.hid hn
  have HN0 := Lib.hid (show g.raw = (n : Int) by omega)
  have dB : decide (k.B ≤ kk) = false := decide_eq_false (by omega)
  have dB' : decide ((k.B : Int) ≤ (kk : Int)) = false := decide_eq_false (by omega)
  have dB0 : decide ((kk : Int) < 0) = false := decide_eq_false (by omega)
  obtain ⟨_, g0, g1, g2, g3, g4, g5, g6⟩ := H.out.box
  rw [HBB.out] at g1
  rw [HS.out] at g2
  rw [← hP]
  clear h hsz hlow hP ha hk hk2 hr hn hn8
  go_enter Try.func19, Try.ntmps19
  go_wp2_with fail
  clear g0 g1 g2 g3 g4 g5 g6
  have HRaw := RefRaw_any g w H.out.ok
  rw [HN0.out] at HRaw
  unfold Gm.val at HRaw
  rw [HBB.out, HS.out] at HRaw
  refine HRaw.mono ?_
  rintro _ w2 ⟨rfl, h2⟩
  have B2 := Lib.hid (Btw.of_below (I := k.J) h2)
  have H2 := Lib.hid (H.out.below h2)
  clear h2 HRaw
  go_wp2
  go_loopw [7] (fun i wr => ∃ f : Nat, f ≤ P ∧ i = .int .i64 (f : Int) ∧ Hid (WR I wr k g ⟨sec (·.tear l) a f s.rows, s.er⟩) ∧ Hid (Btw k.J w wr)) (fun i _ => P - (intOf i).toNat)
  case atStart => exact ⟨0, Nat.zero_le _, rfl, Lib.hid (by rw [sec_zero]; exact H2.out), B2⟩
  case round =>
    obtain ⟨f, hf, rfl, HA, HB⟩ := hrel
    rename World => wr
    obtain ⟨_, g0, g1, g2, g3, g4, g5, g6⟩ := HA.out.box
    rw [HS.out] at g2
    by_cases hlt : f < P
    · have d1 : decide ((f : Int) < (P : Int)) = true := decide_eq_true (by omega)
      have hwa : IntKind.i64.wrap ((a : Int) + (f : Int)) = (a : Int) + (f : Int) := IntWalk.i64_in _ (by omega)
      have hrow : a + f < (sec (·.tear l) a f s.rows).length := by
        have := HA.out.nr
        simp only at this
        omega
      obtain ⟨y, hy⟩ : ∃ y, (sec (·.tear l) a f s.rows)[a + f]? = some y := ⟨_, List.getElem?_eq_getElem hrow⟩
      have HT := Lib.hid (RTear_yes HA.out hy (some ⟨bB, oB, none⟩) n c l (R.out.btw HB.out hBJ) HN.out)
      rw [Int.natCast_add] at HT
      clear hy hrow
      go_wp2_with fail
      clear g0 g1 g2 g3 g4 g5 g6
      refine HT.out.mono ?_
      rintro _ w4 ⟨rfl, h4, b4⟩
      have HA2 := Lib.hid (show WR I w4 k g ⟨sec (·.tear l) a (f + 1) s.rows, s.er⟩ by rw [sec_succ]; exact h4)
      have HB2 := Lib.hid (HB.out.trans b4 (fun _ _ h => h))
      clear h4 b4 HT
      go_wp2
      go_roundw
      case rel => first | exact ⟨f + 1, by omega, by go_num, HA2, HB2⟩ | exact ⟨f + 1, by omega, by go_num, HA2⟩
      case measure => simp [intOf]; omega
    · obtain rfl : f = P := by omega
      have d1 : decide ((f : Int) < (f : Int)) = false := decide_eq_false (by omega)
      have E6 := Lib.hid (show s.tearB f kk l = ⟨sec (·.tear l) a f s.rows, s.er⟩ by
        unfold St.tearB
        rw [HAA.out])
      go_wp2
      clear g0 g1 g2 g3 g4 g5 g6
      go_ret
      exact ⟨rfl, E6.out ▸ HA.out, HB.out⟩
end Go.Proofs.Ytlmdhlogmfdokaa

/-
  What is done to the landed array and to the document's, side by side.
-/
namespace Go.Proofs.Ytlmdhlogmfdokaa
open Go.RowKit
set_option maxRecDepth 100000

/-- The blocks that the landed array's operations turn. -/
def ArJ (q r : Nat) (j : Nat) : Prop := j = q ∨ j = r
section
variable {I : Nat → Prop} {p q r : Nat} {k : Rf} {g : Gm} {s : St}
/-- Both answer e, and are in the state s' then. -/
def Both (f f' : FuncId) (args : List Value) (pre : World → Prop) (I : Nat → Prop) (p q r : Nat) (k : Rf) (g : Gm) (s : St) : Prop :=
  ∃ (e : Int) (s' : St), (∀ w, AR I w p q r g s → pre w → Calls Try.prog f (Value.pointer (some ⟨p, 0, none⟩) :: args).toArray w fun e' w' => e' = .returned (.int .i64 e) ∧ AR I w' p q r g s' ∧ Btw (ArJ q r) w w') ∧
    (∀ w, WR I w k g s → pre w → Calls Try.prog f' (Value.pointer (some ⟨k.p, 0, none⟩) :: args).toArray w fun e' w' => e' = .returned (.int .i64 e) ∧ WR I w' k g s' ∧ Btw k.J w w')
theorem gives_ar {f : FuncId} {args : Array Value} {w : World} {e : Int} (h : AR I w p q r g s) (hc : Calls Try.prog f args w (Gives (.int .i64 e) w)) : Calls Try.prog f args w fun e' w' => e' = .returned (.int .i64 e) ∧ AR I w' p q r g s ∧ Btw (ArJ q r) w w' :=
  hc.mono fun _ _ h1 => ⟨h1.1, h.below h1.2, Btw.of_below h1.2⟩
theorem gives_wr {f : FuncId} {args : Array Value} {w : World} {e : Int} (h : WR I w k g s) (hc : Calls Try.prog f args w (Gives (.int .i64 e) w)) : Calls Try.prog f args w fun e' w' => e' = .returned (.int .i64 e) ∧ WR I w' k g s ∧ Btw k.J w w' :=
  hc.mono fun _ _ h1 => ⟨h1.1, h.below h1.2, Btw.of_below h1.2⟩
theorem btw_q {w w' : World} (h : Btw (fun j => j = q) w w') : Btw (ArJ q r) w w' := ⟨h.os, h.tape, h.output, h.size, fun j hj hn => h.block j hj fun e => hn (.inl e)⟩
theorem both_program (hR : s.rows.length = (g.b * g.s).toNat) (hk : k.R = (g.b * g.s).toNat) (x : Int) (B : Option Addr) (n c : Nat) (l : List Nat) :
    Both 12 13 [.int .i64 x, .slice B n c] (fun w => R8 w B n l) I p q r k g s := by
  by_cases hx : 0 ≤ x ∧ x < ((g.b * g.s).toNat : Int)
  · by_cases hn : n = g.raw.toNat
    · obtain ⟨i, rfl⟩ : ∃ i : Nat, x = (i : Int) := ⟨x.toNat, by omega⟩
      obtain ⟨y, hy⟩ : ∃ y, s.rows[i]? = some y := ⟨_, List.getElem?_eq_getElem (by omega)⟩
      exact ⟨0, s.prog i l, fun w h hr => (Program_yes h hy B n c l hr hn).mono fun _ _ h1 => ⟨h1.1, h1.2.1, btw_q h1.2.2⟩, fun w h hr => RProgram_yes h hy B n c l hr hn⟩
    · exact ⟨2, s, fun w h hr => gives_ar h (Program_no h x B n c l hr (.inr hn)), fun w h hr => gives_wr h (RProgram_no h x B n c l hr (.inr hn))⟩
  · exact ⟨2, s, fun w h hr => gives_ar h (Program_no h x B n c l hr (.inl hx)), fun w h hr => gives_wr h (RProgram_no h x B n c l hr (.inl (by rw [hk]; exact hx)))⟩
theorem both_tear (hR : s.rows.length = (g.b * g.s).toNat) (hk : k.R = (g.b * g.s).toNat) (x : Int) (B : Option Addr) (n c : Nat) (l : List Nat) :
    Both 14 15 [.int .i64 x, .slice B n c] (fun w => R8 w B n l) I p q r k g s := by
  by_cases hx : 0 ≤ x ∧ x < ((g.b * g.s).toNat : Int)
  · by_cases hn : n = g.raw.toNat
    · obtain ⟨i, rfl⟩ : ∃ i : Nat, x = (i : Int) := ⟨x.toNat, by omega⟩
      obtain ⟨y, hy⟩ : ∃ y, s.rows[i]? = some y := ⟨_, List.getElem?_eq_getElem (by omega)⟩
      exact ⟨0, s.tear i l, fun w h hr => (Tear_yes h hy B n c l hr hn).mono fun _ _ h1 => ⟨h1.1, h1.2.1, btw_q h1.2.2⟩, fun w h hr => RTear_yes h hy B n c l hr hn⟩
    · exact ⟨2, s, fun w h hr => gives_ar h (Tear_no h x B n c l hr (.inr hn)), fun w h hr => gives_wr h (RTear_no h x B n c l hr (.inr hn))⟩
  · exact ⟨2, s, fun w h hr => gives_ar h (Tear_no h x B n c l hr (.inl hx)), fun w h hr => gives_wr h (RTear_no h x B n c l hr (.inl (by rw [hk]; exact hx)))⟩
theorem both_erase (hb : 0 ≤ g.b) (x : Int) : Both 16 17 [.int .i64 x] (fun _ => True) I p q r k g s := by
  by_cases hx : 0 ≤ x ∧ x < g.b
  · obtain ⟨i, rfl⟩ : ∃ i : Nat, x = (i : Int) := ⟨x.toNat, by omega⟩
    exact ⟨0, s.erase g.raw.toNat g.s.toNat i, fun w h _ => Erase_yes h (by omega), fun w h _ => RErase_yes h (by omega)⟩
  · exact ⟨2, s, fun w h _ => gives_ar h (Erase_no h x hx), fun w h _ => gives_wr h (RErase_no h x hx)⟩
theorem both_tearb (hb : 0 ≤ g.b) (x : Int) (B : Option Addr) (n c : Nat) (l : List Nat) (hq : I q) (hJ : ∀ j, k.J j → I j) :
    Both 18 19 [.int .i64 x, .slice B n c] (fun w => R8 w B n l ∧ ∀ b off, B = some ⟨b, off, none⟩ → 0 < n → ¬ I b) I p q r k g s := by
  by_cases hx : 0 ≤ x ∧ x < g.b
  · by_cases hn : n = g.raw.toNat
    · obtain ⟨i, rfl⟩ : ∃ i : Nat, x = (i : Int) := ⟨x.toNat, by omega⟩
      exact ⟨0, s.tearB g.s.toNat i l, fun w h hr => (TearBlock_yes h (by omega) B n c l hr.1 hn (fun b off e h1 => hr.2 b off e (by have := h.size; omega) (h1 ▸ hq))).mono fun _ _ h1 => ⟨h1.1, h1.2.1, btw_q h1.2.2⟩, fun w h hr => RTearBlock_yes h (by omega) B n c l hr.1 hn (fun b off e h1 => hr.2 b off e (by have := h.size; omega) (hJ b h1))⟩
    · exact ⟨2, s, fun w h hr => gives_ar h (TearBlock_no h x B n c l hr.1 (.inr hn)), fun w h hr => gives_wr h (RTearBlock_no h x B n c l hr.1 (.inr hn))⟩
  · exact ⟨2, s, fun w h hr => gives_ar h (TearBlock_no h x B n c l hr.1 (.inl hx)), fun w h hr => gives_wr h (RTearBlock_no h x B n c l hr.1 (.inl hx))⟩
end
end Go.Proofs.Ytlmdhlogmfdokaa

/-
  Contract of the document's array's New.
-/
namespace Go.Proofs.Ytlmdhlogmfdokaa
open Go.RowKit
set_option maxRecDepth 100000

theorem info_sl : ∃ i, Try.prog.info? 35 = some i ∧ i.zero = some (.slice none 0 0) ∧ i.size = 1 ∧ i.bytes = 24 := by
  have h : ((Try.prog.info? 35).map fun i => (i.zero, i.size, i.bytes)) = some (some (.slice none 0 0), 1, 24) := by kernel_rfl
  rcases e : Try.prog.info? 35 with _ | i
  · rw [e] at h; cases h
  · rw [e] at h
    injection h with h
    injection h with h1 h
    injection h with h2 h3
    exact ⟨i, rfl, h1, h2, h3⟩
theorem info_bo : ∃ i, Try.prog.info? 4 = some i ∧ i.zero = some (.bool false) ∧ i.size = 1 ∧ i.bytes = 1 := by
  have h : ((Try.prog.info? 4).map fun i => (i.zero, i.size, i.bytes)) = some (some (.bool false), 1, 1) := by kernel_rfl
  rcases e : Try.prog.info? 4 with _ | i
  · rw [e] at h; cases h
  · rw [e] at h
    injection h with h
    injection h with h1 h
    injection h with h2 h3
    exact ⟨i, rfl, h1, h2, h3⟩
theorem info_in : ∃ i, Try.prog.info? 3 = some i ∧ i.zero = some (.int .i64 0) ∧ i.size = 1 ∧ i.bytes = 8 := by
  have h : ((Try.prog.info? 3).map fun i => (i.zero, i.size, i.bytes)) = some (some (.int .i64 0), 1, 8) := by kernel_rfl
  rcases e : Try.prog.info? 3 with _ | i
  · rw [e] at h; cases h
  · rw [e] at h
    injection h with h
    injection h with h1 h
    injection h with h2 h3
    exact ⟨i, rfl, h1, h2, h3⟩

theorem GBox.btw_ {J : Nat → Prop} {w w' : World} {n : Nat} {g : Gm} (h : GBox w n g) (hb : Btw J w w') (hn : ¬ J n) : GBox w' n g := by
  obtain ⟨h0, h1, h2, h3, h4, h5, h6, h7⟩ := h
  have hc := fun j => World.cell?_of_block (a := ⟨n, j, none⟩) (hb.block n h0 hn)
  exact ⟨Nat.lt_of_lt_of_le h0 hb.size, (hc 0).trans h1, (hc 1).trans h2, (hc 2).trans h3, (hc 3).trans h4, (hc 4).trans h5, (hc 5).trans h6, (hc 6).trans h7⟩
theorem take_succR {α : Type} {l : List α} {f : Nat} {x : α} (h : l[f]? = some x) : l.take (f + 1) = l.take f ++ [x] := by
  rw [List.take_add_one, h]; rfl
/-- The raw page of a row of a new array in which ms are marked. -/
def rawM (N P : Nat) (ms : List Int) (i : Nat) : List Nat := if ms.any (fun m => decide (m * (P : Int) = (i : Int))) then mrk N else List.replicate N 255
theorem rawM_snoc (N P : Nat) (ms : List Int) (m : Nat) : rawM N P (ms ++ [(m : Int)]) = fun k => if k = m * P then (rawM N P ms (m * P)).set (N - 1) 0 else rawM N P ms k := by
  funext k
  unfold rawM
  rw [List.any_append]
  simp only [List.any_cons, List.any_nil, Bool.or_false]
  by_cases e : (m : Int) * (P : Int) = (k : Int)
  · have e' : k = m * P := by exact_mod_cast e.symm
    rw [decide_eq_true e, Bool.or_true, if_pos rfl, if_pos e']
    split
    · rw [mrk_set]
    · rfl
  · have e' : ¬ k = m * P := fun h3 => e (by rw [h3]; push_cast; rfl)
    rw [decide_eq_false e, Bool.or_false, if_neg e']
theorem newR_raw {N R P : Nat} {ms : List Int} {i : Nat} {y : Pg} (h : (newR N R P ms)[i]? = some y) : y.raw = rawM N P ms i ∧ y.n = 0 ∧ y.t = false := by
  have hl := (List.getElem?_eq_some_iff.1 h).1
  rw [newR_len] at hl
  rw [newR_get _ _ _ _ _ hl] at h
  injection h with h
  subst h
  unfold rawM
  split
  · exact ⟨rfl, rfl, rfl⟩
  · exact ⟨rfl, rfl, rfl⟩

set_option maxHeartbeats 8000000 in
theorem RNew_any (g : Gm) (A : Option Addr) (n c : Nat) (ms : List Int) (w : World) (ho : g.ok = true) (hlow : g.raw ≤ 1000) (hms : R64 w A n ms) (hn : n ≤ 1099511627776) (X : Nat → Prop) (hX : ∀ j, X j → j < w.heap.size) :
    Calls Try.prog 10 #[g.val, .slice A n c] w fun e w' =>
      ((∀ x ∈ ms, 0 ≤ x ∧ x < (g.b.toNat : Int)) ∧ ∃ k : Rf, e = .returned (.pointer (some ⟨k.p, 0, none⟩)) ∧ WR (fun j => j = k.p ∨ k.J j ∨ X j) w' k g (St.new g.raw.toNat (g.b * g.s).toNat g.s.toNat g.b.toNat ms) ∧ Below w.heap.size w w' ∧ w.heap.size ≤ k.p ∧ w.heap.size ≤ k.a ∧ w.heap.size ≤ k.b ∧ w.heap.size ≤ k.c ∧ w.heap.size ≤ k.d) ∨
      ((¬ ∀ x ∈ ms, 0 ≤ x ∧ x < (g.b.toNat : Int)) ∧ e = .returned (.pointer none) ∧ Below w.heap.size w w') := by
  have hbd := Gm.bounds_of ho
  have hraw : g.raw = g.c * (g.k + 2) + 31 := by unfold Gm.raw; rw [if_pos ho]
  have hck : 0 ≤ g.c * (g.k + 2) := Int.mul_nonneg (by omega) (by omega)
  obtain ⟨N, hNN⟩ : ∃ N, N = g.raw.toNat := ⟨_, rfl⟩
  obtain ⟨B, hBB⟩ : ∃ B, B = g.b.toNat := ⟨_, rfl⟩
  obtain ⟨P, hPP⟩ : ∃ P, P = g.s.toNat := ⟨_, rfl⟩
  obtain ⟨R, hRR⟩ : ∃ R, R = (g.b * g.s).toNat := ⟨_, rfl⟩
  have HB0 := Lib.hid (show g.b = (B : Int) by omega)
  have HP0 := Lib.hid (show g.s = (P : Int) by omega)
  have HN0 := Lib.hid (show g.raw = (N : Int) by omega)
  have HNN := Lib.hid hNN
  have HRR := Lib.hid hRR
  have HBB := Lib.hid hBB
  have HRB := Lib.hid (show R = B * P by
    have e : g.b * g.s = ((B * P : Nat) : Int) := by rw [HB0.out, HP0.out]; push_cast; rfl
    rw [hRR, e, Int.toNat_natCast])
  have hB1 : 2 ≤ B ∧ B ≤ 256 := by omega
  have hP1 : 4 ≤ P ∧ P ≤ 64 := by omega
  have hN1 : 0 < N := by omega
  have hn8N : N ≤ 1099511627776 := by omega
  have hR6 : R ≤ 1000000 := by
    have h1 : B * P ≤ 256 * 64 := Nat.mul_le_mul hB1.2 hP1.2
    have := HRB.out
    omega
  have hR0 : 0 < R := by
    rw [HRB.out]
    exact Nat.mul_pos (by omega) (by omega)
  have hw5 : IntKind.i64.wrap ((B : Int) * (P : Int)) = (R : Int) := by
    have e : ((B : Int) * (P : Int)) = (R : Int) := by rw [HRB.out]; push_cast; rfl
    rw [e]
    exact IntWalk.i64_in _ (by omega)
  have HOK := Lib.hid ho
  have HLOW := Lib.hid hlow
  obtain ⟨iS, hiiS, hziS, hsiS, hbiS⟩ := info_sl
  obtain ⟨iB, hiiB, hziB, hsiB, hbiB⟩ := info_bo
  obtain ⟨iI, hiiI, hziI, hsiI, hbiI⟩ := info_in
  have AM := Lib.hid hms
  have hXX := Lib.hid hX
  rw [← hNN, ← hBB, ← hPP, ← hRR]
  clear ho hlow hbd hraw hck hNN hBB hPP hRR hms hX
  have Y0 := Lib.hid (GBox.new w g 23)
  have B0 := Lib.hid (below_new w (.cells #[.int .i64 g.p, .int .i64 g.b, .int .i64 g.s, .int .i64 g.c, .int .i64 g.k, .int .i64 g.r, .int .i64 g.q] 23))
  unfold Gm.val
  go_enter Try.func10, Try.ntmps10
  obtain ⟨_, g0, g1, g2, g3, g4, g5, g6⟩ := Y0.out
  go_wp2
  clear g0 g1 g2 g3 g4 g5 g6
  have hsz1 : (w.alloc (.cells #[.int .i64 g.p, .int .i64 g.b, .int .i64 g.s, .int .i64 g.c, .int .i64 g.k, .int .i64 g.r, .int .i64 g.q] 23)).heap.size = w.heap.size + 1 := by simp
  have P1 := Lib.hid (CRow.new (w.alloc (.cells #[.int .i64 g.p, .int .i64 g.b, .int .i64 g.s, .int .i64 g.c, .int .i64 g.k, .int .i64 g.r, .int .i64 g.q] 23)) (refRow g (.slice none 0 0) (.slice none 0 0) (.slice none 0 0) (.slice none 0 0)) 69)
  rw [hsz1] at P1
  have B1 := Lib.hid (below_step B0.out (below_new (w.alloc (.cells #[.int .i64 g.p, .int .i64 g.b, .int .i64 g.s, .int .i64 g.c, .int .i64 g.k, .int .i64 g.r, .int .i64 g.q] 23)) (.cells (refRow g (.slice none 0 0) (.slice none 0 0) (.slice none 0 0) (.slice none 0 0)) 69)))
  have Y1 := Lib.hid (Y0.out.below (below_new (w.alloc (.cells #[.int .i64 g.p, .int .i64 g.b, .int .i64 g.s, .int .i64 g.c, .int .i64 g.k, .int .i64 g.r, .int .i64 g.q] 23)) (.cells (refRow g (.slice none 0 0) (.slice none 0 0) (.slice none 0 0) (.slice none 0 0)) 69)))
  clear Y0 B0 hsz1
  go_loopw [6] (fun i wr => ∃ (f : Nat) (xa : List (Nat × Nat)) (va vb vc : Value), f ≤ R ∧ i = .int .i64 (f : Int) ∧ Hid (xa.length = f) ∧ Hid (RNw wr (w.heap.size + 1) (w.heap.size + 2) 0 N g xa (fun _ => List.replicate N 255) va vb vc (.slice none 0 0) f f 0) ∧ Hid (GBox wr w.heap.size g) ∧ Hid (Below w.heap.size w wr)) (fun i _ => R - (intOf i).toNat)
  case atStart => exact ⟨0, [], .slice none 0 0, .slice none 0 0, .slice none 0 0, Nat.zero_le _, rfl, rfl, Lib.hid ⟨P1.out, World.ownsRow_nil _ _ _ _, World.ownsRow_nil _ _ _ _, World.ownsRow_nil _ _ _ _, World.ownsRow_nil _ _ _ _, (by intro i x hx; cases hx), by simp, (by intro j h; cases h)⟩, Y1, B1⟩
  case round =>
    clear P1 Y1 B1
    obtain ⟨f, xa, va, vb, vc, hf, rfl, HL, HNr, HG, HB⟩ := hrel
    rename World => wr
    obtain ⟨_, g0, g1, g2, g3, g4, g5, g6⟩ := HG.out
    rw [HB0.out] at g1
    rw [HP0.out] at g2
    by_cases hlt : f < R
    · have d1 : decide ((f : Int) < (R : Int)) = true := decide_eq_true (by omega)
      go_wp2
      clear g0 g1 g2 g3 g4 g5 g6
      refine wp_region_noPanic ?_
      refine wp_region_held_drew (S := fun w' => GBox w' w.heap.size g) (by kernel_rfl) (HG.out.below ((Below.refl _ _).drew)) (fun C0 => ?_)
      refine wpAnyH_take (i := 0) (oi := { dst := some 21, op := Op.move (Operand.tmp 5), type := 32, pos := "ref.go:31", after := #[], guard := none }) (v := ?_) rfl (by kernel_rfl) (by kernel_rfl) (by kernel_rfl) (fun _ _ _ h => h) (Or.inl ⟨by rfl, ?_⟩) C0 ?_
      rotate_left
      · intro W' hSw
        clear hSw
        go_simp <;> with_reducible rfl
      try simp only [Act.put, List.setIfInBounds_toArray, List.set_cons_zero, List.set_cons_succ]
      refine wpAnyH_take (i := 1) (oi := { dst := some 22, op := Op.move (Operand.tmp 5), type := 32, pos := "ref.go:31", after := #[], guard := none }) (v := ?_) rfl (by kernel_rfl) (by kernel_rfl) (by kernel_rfl) (fun _ _ _ h => h) (Or.inl ⟨by rfl, ?_⟩) C0 ?_
      rotate_left
      · intro W' hSw
        clear hSw
        go_simp <;> with_reducible rfl
      try simp only [Act.put, List.setIfInBounds_toArray, List.set_cons_zero, List.set_cons_succ]
      refine wpAnyH_take (i := 2) (oi := { dst := some 23, op := Op.nilCheck (Operand.tmp 22), type := 0, pos := "ref.go:31", after := #[{ on := 1, ground := Ground.data }], guard := none }) (v := ?_) rfl (by kernel_rfl) (by kernel_rfl) (by kernel_rfl) (fun _ _ _ h => h) (Or.inl ⟨by rfl, ?_⟩) C0 ?_
      rotate_left
      · intro W' hSw
        clear hSw
        go_simp <;> with_reducible rfl
      try simp only [Act.put, List.setIfInBounds_toArray, List.set_cons_zero, List.set_cons_succ]
      refine wpAnyH_take (i := 3) (oi := { dst := some 24, op := Op.fieldAddr 69 (Operand.tmp 23) 1, type := 0, pos := "ref.go:31", after := #[{ on := 2, ground := Ground.data }], guard := none }) (v := ?_) rfl (by kernel_rfl) (by kernel_rfl) (by kernel_rfl) (fun _ _ _ h => h) (Or.inl ⟨by rfl, ?_⟩) C0 ?_
      rotate_left
      · intro W' hSw
        clear hSw
        go_simp <;> with_reducible rfl
      try simp only [Act.put, List.setIfInBounds_toArray, List.set_cons_zero, List.set_cons_succ]
      refine wpAnyH_take (i := 5) (oi := { dst := some 26, op := Op.load 23 (Operand.tmp 2), type := 23, pos := "ref.go:31", after := #[], guard := none }) (v := ?_) rfl (by kernel_rfl) (by kernel_rfl) (by kernel_rfl) (fun _ _ _ h => h) (Or.inl ⟨by rfl, ?_⟩) C0 ?_
      rotate_left
      · intro W' hSw
        have hS9 := hSw
        obtain ⟨_, y0, y1, y2, y3, y4, y5, y6⟩ := hS9
        clear hSw
        go_simp <;> with_reducible rfl
      try simp only [Act.put, List.setIfInBounds_toArray, List.set_cons_zero, List.set_cons_succ]
      refine wpAnyH_ready (rs := [4, 6]) (by kernel_rfl) (by simp) ?_
      refine (AllReadyH.cons (o := { dst := some 25, op := Op.load 43 (Operand.tmp 24), type := 43, pos := "ref.go:31", after := #[{ on := 3, ground := Ground.data }], guard := none }) rfl (fun K hK => ?_) (AllReadyH.cons (o := { dst := some 27, op := Op.call { callee := Callee.value (Operand.func 24), args := #[Operand.tmp 26], argTypes := #[23] }, type := 3, pos := "ref.go:31", after := #[{ on := 5, ground := Ground.data }], guard := none }) rfl (fun K hK => ?_) AllReadyH.nil))
      · have y9 := (refRow.c7 HNr.out.blk)
        go_simp
        refine hK.out _ _ (HG.out.below ((Below.refl _ _).drew)) (fun C1 => ?_)
        clear y9
        clear hK K
        try simp only [Act.put, List.setIfInBounds_toArray, List.set_cons_zero, List.set_cons_succ]
        refine wpAnyH_ready (rs := [6]) (by kernel_rfl) (by simp) ?_
        refine AllReadyH.cons (o := { dst := some 27, op := Op.call { callee := Callee.value (Operand.func 24), args := #[Operand.tmp 26], argTypes := #[23] }, type := 3, pos := "ref.go:31", after := #[{ on := 5, ground := Ground.data }], guard := none }) rfl (fun K hK => ?_) AllReadyH.nil
        go_simp
        have HRaw := RefRaw_any g wr.drew HOK.out
        rw [HN0.out] at HRaw
        refine HRaw.mono ?_
        rintro _ w3 ⟨rfl, h3⟩
        have N3 := Lib.hid ((HNr.out.below ((Below.refl _ _).drew)).below h3)
        have G3 := Lib.hid ((HG.out.below ((Below.refl _ _).drew)).below h3)
        have B3 := Lib.hid (below_step HB.out.drew h3)
        clear h3 HRaw
        go_wp2_with fail
        refine hK.out _ _ G3.out (fun C2 => ?_)
        clear hK K
        try simp only [Act.put, List.setIfInBounds_toArray, List.set_cons_zero, List.set_cons_succ]
        refine wpAnyH_ready (rs := [7]) (by kernel_rfl) (by simp) ?_
        refine AllReadyH.cons (o := { dst := some 28, op := Op.call { callee := Callee.value (Operand.func 35), args := #[Operand.tmp 27], argTypes := #[3] }, type := 35, pos := "ref.go:31", after := #[{ on := 6, ground := Ground.data }, { on := 6, ground := Ground.chain }], guard := none }) rfl (fun K hK => ?_) AllReadyH.nil
        go_simp
        refine (ones_any N w3 hn8N).mono ?_
        rintro _ w4 ⟨A4, c4, rfl, hr4, hb4⟩
        rw [List.length_replicate] at hr4 ⊢
        obtain ⟨b4, rfl, hb5, _, hr5⟩ := own_head hr4 hN1 (by intro x hx; rw [(List.mem_replicate.1 hx).2]; omega)
        obtain ⟨cur4, hcur4⟩ := own_row hr4 (g := b4) rfl
        have N4 := Lib.hid (N3.out.below hb4)
        have G4 := Lib.hid (G3.out.below hb4)
        have B4 := Lib.hid (below_step B3.out hb4)
        have R4 := Lib.hid hr5
        have K4 : Hid (CRow w4 b4 5 cur4) := hcur4
        have hfr : ∀ x ∈ xa, x.1 ≠ b4 := by
          intro x hx
          obtain ⟨i, hi⟩ := List.mem_iff_getElem?.1 hx
          obtain ⟨_, _, cur, hc⟩ := N3.out.x i x hi
          have := hc.lt
          omega
        have hbb4 : w.heap.size + 2 ≤ b4 := by have := N3.out.blk.lt; omega
        clear hr4 hb4 hr5 hcur4 N3 G3 B3
        go_wp2_with fail
        refine hK.out _ _ G4.out (fun C3 => ?_)
        clear hK K
        try simp only [Act.put, List.setIfInBounds_toArray, List.set_cons_zero, List.set_cons_succ]
        refine wpAnyH_ready (rs := [8]) (by kernel_rfl) (by simp) ?_
        refine AllReadyH.cons (o := { dst := some 29, op := Op.buildSlice 43 1 #[(0, Operand.tmp 28)], type := 43, pos := "ref.go:31", after := #[{ on := 7, ground := Ground.data }], guard := none }) rfl (fun K hK => ?_) AllReadyH.nil
        go_simp
        refine hK.out _ _ (G4.out.below (below_new w4 (.cells #[.slice (some ⟨b4, 0, none⟩) N c4] 35))) (fun C4 => ?_)
        clear hK K
        try simp only [Act.put, List.setIfInBounds_toArray, List.set_cons_zero, List.set_cons_succ]
        refine wpAnyH_ready (rs := [9]) (by kernel_rfl) (by simp) ?_
        refine AllReadyH.cons (o := { dst := some 30, op := Op.call { callee := Callee.builtin Builtin.append, args := #[Operand.tmp 25, Operand.tmp 29], argTypes := #[43, 43] }, type := 43, pos := "ref.go:31", after := #[{ on := 4, ground := Ground.data }, { on := 8, ground := Ground.data }, { on := 7, ground := Ground.chain }], guard := none }) rfl (fun K hK => ?_) AllReadyH.nil
        rw [if_pos (by rfl)]
        have N5 := Lib.hid (N4.out.below (below_new w4 (.cells #[.slice (some ⟨b4, 0, none⟩) N c4] 35)))
        refine wp_append_own (w4.alloc (.cells #[.slice (some ⟨b4, 0, none⟩) N c4] 35)) (.tmp 25) (.tmp 29) 43 rfl (w.heap.size + 2) 35 iS _ 1 24 Try.underlying43 hiiS hziS hsiS hbiS rfl (by decide) va xa.length (rowsA N xa) rfl N5.out.a ⟨w4.heap.size, 0, none⟩ 1 1 [.slice (some ⟨b4, 0, none⟩) N c4] rfl rfl (one_new w4 _ _) (by intro u hu; simp at hu; subst hu; rfl) (by have := HL.out; unfold maxLen; omega) (by have := HL.out; omega) (by have := N5.out.blk.lt; omega) ?_
        intro v7 w6 hown hg _
        obtain ⟨A7, c7, rfl⟩ := own_form hown
        have P6 := Lib.hid (crow_grown N5.out.a N5.out.blk (by decide) hg)
        have NA := Lib.hid (N5.out.growA (v' := (.slice A7 (xa.length + 1) c7)) (b4 := b4) (c4 := c4) (cur := cur4) hg hown (R4.out.below (below_new w4 (.cells #[.slice (some ⟨b4, 0, none⟩) N c4] 35))) (K4.out.below (below_new w4 (.cells #[.slice (some ⟨b4, 0, none⟩) N c4] 35))) hbb4 hfr)
        have G6 := Lib.hid ((G4.out.below (below_new w4 (.cells #[.slice (some ⟨b4, 0, none⟩) N c4] 35))).btw_ (Btw.of_grown (I := fun k => va.ownBlock = some k) hg fun _ h => h) (fun h => by have := (own_low N5.out.a _ h).1; omega))
        have B6 := Lib.hid ((B4.out.alloc B4.out.size (.cells #[.slice (some ⟨b4, 0, none⟩) N c4] 35)).grown hg (by have := B4.out.size; simp; omega) (fun j hj => by have := (own_low N5.out.a j hj).1; omega))
        clear hown hg N5 N4 G4 B4 R4 K4 hfr
        refine hK.out _ _ G6.out (fun C5 => ?_)
        clear hK K
        try simp only [Act.put, List.setIfInBounds_toArray, List.set_cons_zero, List.set_cons_succ]
        refine wpAnyH_take (i := 10) (oi := { dst := some 31, op := Op.nilCheck (Operand.tmp 21), type := 0, pos := "ref.go:31", after := #[{ on := 0, ground := Ground.data }, { on := 0, ground := Ground.phase }, { on := 1, ground := Ground.phase }, { on := 2, ground := Ground.phase }, { on := 3, ground := Ground.phase }, { on := 4, ground := Ground.phase }, { on := 5, ground := Ground.phase }, { on := 6, ground := Ground.phase }, { on := 7, ground := Ground.phase }, { on := 8, ground := Ground.phase }, { on := 9, ground := Ground.phase }], guard := none }) (v := ?_) rfl (by kernel_rfl) (by kernel_rfl) (by kernel_rfl) (fun _ _ _ h => h) (Or.inl ⟨by rfl, ?_⟩) C5 ?_
        rotate_left
        · intro W' hSw
          clear hSw
          go_simp <;> with_reducible rfl
        try simp only [Act.put, List.setIfInBounds_toArray, List.set_cons_zero, List.set_cons_succ]
        refine wpAnyH_take (i := 11) (oi := { dst := some 32, op := Op.fieldAddr 69 (Operand.tmp 31) 1, type := 0, pos := "ref.go:31", after := #[{ on := 10, ground := Ground.data }, { on := 0, ground := Ground.phase }, { on := 1, ground := Ground.phase }, { on := 2, ground := Ground.phase }, { on := 3, ground := Ground.phase }, { on := 4, ground := Ground.phase }, { on := 5, ground := Ground.phase }, { on := 6, ground := Ground.phase }, { on := 7, ground := Ground.phase }, { on := 8, ground := Ground.phase }, { on := 9, ground := Ground.phase }], guard := none }) (v := ?_) rfl (by kernel_rfl) (by kernel_rfl) (by kernel_rfl) (fun _ _ _ h => h) (Or.inl ⟨by rfl, ?_⟩) C5 ?_
        rotate_left
        · intro W' hSw
          clear hSw
          go_simp <;> with_reducible rfl
        try simp only [Act.put, List.setIfInBounds_toArray, List.set_cons_zero, List.set_cons_succ]
        refine wpAnyH_ready (rs := [12]) (by kernel_rfl) (by simp) ?_
        refine AllReadyH.cons (o := { dst := none, op := Op.store 43 (Operand.tmp 32) (Operand.tmp 30), type := 0, pos := "ref.go:31", after := #[{ on := 11, ground := Ground.data }, { on := 9, ground := Ground.data }, { on := 9, ground := Ground.chain }, { on := 0, ground := Ground.phase }, { on := 1, ground := Ground.phase }, { on := 2, ground := Ground.phase }, { on := 3, ground := Ground.phase }, { on := 4, ground := Ground.phase }, { on := 5, ground := Ground.phase }, { on := 6, ground := Ground.phase }, { on := 7, ground := Ground.phase }, { on := 8, ground := Ground.phase }, { on := 9, ground := Ground.phase }], guard := none }) rfl (fun K hK => ?_) AllReadyH.nil
        have y9 := (refRow.c7 P6.out)
        have f9 := P6.out.frozen 7
        go_simp
        refine hK.out _ _ (G6.out.btw_ ((Btw.refl w6).setCell (I := fun k => k = w.heap.size + 1) (p := ⟨w.heap.size + 1, 7, none⟩) rfl) (by omega)) (fun C6 => ?_)
        clear y9 f9
        clear hK K
        try simp only [Act.put]
        refine wpAnyH_done (by kernel_rfl) ?_ _
        refine NoPanic.normal ?_
        have GA := Lib.hid (G6.out.btw_ ((Btw.refl w6).setCell (I := fun k => k = w.heap.size + 1) (p := ⟨w.heap.size + 1, 7, none⟩) (v := (.slice A7 (xa.length + 1) c7)) rfl) (by omega))
        have BA := Lib.hid ((Btw.refl w6).setCell (I := fun k => k = w.heap.size + 1) (p := ⟨w.heap.size + 1, 7, none⟩) (v := (.slice A7 (xa.length + 1) c7)) rfl)
        have BA := Lib.hid (B6.out.trans (BA.out.below (S := w.heap.size) (fun k e => by subst e; omega) B6.out.size))
        generalize w6.setCell ⟨w.heap.size + 1, 7, none⟩ (.slice A7 (xa.length + 1) c7) = wA at *
        clear P6 G6 B6
        have y8 := (refRow.c8 NA.out.blk)
        have NA1 := Lib.hid (NA.out.below (below_new wA (.cells #[.int .i64 0] 3)))
        go_wp2_with (at_builtin; refine wpList_append_own _ rfl (.tmp 37) (.tmp 38) 24 rfl (w.heap.size + 2) 3 iI _ 1 8 Try.underlying24 hiiI hziI hsiI hbiI rfl (by decide) vb f (List.replicate f (.int .i64 0)) rfl NA1.out.b ⟨wA.heap.size, 0, none⟩ 1 1 [.int .i64 0] rfl rfl (one_new _ _ _) ?c5 ?c6 ?c7 ?c8 ?_)
        case c5 => intro u hu; simp at hu; subst hu; rfl
        case c6 => unfold maxLen; omega
        case c7 => omega
        case c8 => have := NA1.out.blk.lt; omega
        · intro v8 wB hown hg _
          obtain ⟨A8, c8, rfl⟩ := own_form hown
          have P8 := Lib.hid (crow_grown NA1.out.b NA1.out.blk (by decide) hg)
          have yb := (refRow.c8 P8.out)
          have fb := P8.out.frozen 8
          have NB := Lib.hid (NA1.out.growB hg hown rfl)
          have GB1 := Lib.hid ((GA.out.below (below_new wA (.cells #[.int .i64 0] 3))).btw_ (Btw.of_grown (I := fun k => vb.ownBlock = some k) hg fun _ h => h) (fun h => by have := (own_low NA1.out.b _ h).1; omega))
          have GB := Lib.hid (GB1.out.btw_ ((Btw.refl wB).setCell (I := fun k => k = w.heap.size + 1) (p := ⟨w.heap.size + 1, 8, none⟩) (v := (.slice A8 (f + 1) c8)) rfl) (by omega))
          have BB1 := Lib.hid ((BA.out.alloc BA.out.size (.cells #[.int .i64 0] 3)).grown hg (by have := BA.out.size; simp; omega) (fun j hj => by have := (own_low NA1.out.b j hj).1; omega))
          have BB := Lib.hid (BB1.out.trans (((Btw.refl wB).setCell (I := fun k => k = w.heap.size + 1) (p := ⟨w.heap.size + 1, 8, none⟩) (v := (.slice A8 (f + 1) c8)) rfl).below (S := w.heap.size) (fun k e => by subst e; omega) BB1.out.size))
          have y9 := (refRow.c9 NB.out.blk)
          have NB1 := Lib.hid (NB.out.below (below_new (wB.setCell ⟨w.heap.size + 1, 8, none⟩ (.slice A8 (f + 1) c8)) (.cells #[.bool false] 4)))
          have HNEW := Lib.hid (one_new (wB.setCell ⟨w.heap.size + 1, 8, none⟩ (.slice A8 (f + 1) c8)) (.bool false) 4)
          rw [show (wB.setCell ⟨w.heap.size + 1, 8, none⟩ (.slice A8 (f + 1) c8)).heap.size = wB.heap.size by simp [World.setCell]] at HNEW
          clear hown hg NA NA1 GA BA GB1 BB1 P8
          go_wp2_with (at_builtin; refine wpList_append_own _ rfl (.tmp 46) (.tmp 47) 67 rfl (w.heap.size + 2) 4 iB _ 1 1 Try.underlying67 hiiB hziB hsiB hbiB rfl (by decide) vc f (List.replicate f (.bool false)) rfl NB1.out.c ⟨wB.heap.size, 0, none⟩ 1 1 [.bool false] rfl rfl HNEW.out ?c5 ?c6 ?c7 ?c8 ?_)
          case c5 => intro u hu; simp at hu; subst hu; rfl
          case c6 => unfold maxLen; omega
          case c7 => omega
          case c8 => have := NB1.out.blk.lt; omega
          · intro v9 wC hown hg _
            obtain ⟨A9, c9, rfl⟩ := own_form hown
            have P9 := Lib.hid (crow_grown NB1.out.c NB1.out.blk (by decide) hg)
            have yc := (refRow.c9 P9.out)
            have fc := P9.out.frozen 9
            have NC := Lib.hid (NB1.out.growC hg hown)
            have GC1 := Lib.hid ((GB.out.below (below_new (wB.setCell ⟨w.heap.size + 1, 8, none⟩ (.slice A8 (f + 1) c8)) (.cells #[.bool false] 4))).btw_ (Btw.of_grown (I := fun k => vc.ownBlock = some k) hg fun _ h => h) (fun h => by have := (own_low NB1.out.c _ h).1; omega))
            have GC := Lib.hid (GC1.out.btw_ ((Btw.refl wC).setCell (I := fun k => k = w.heap.size + 1) (p := ⟨w.heap.size + 1, 9, none⟩) (v := (.slice A9 (f + 1) c9)) rfl) (by omega))
            have BC1 := Lib.hid ((BB.out.alloc BB.out.size (.cells #[.bool false] 4)).grown hg (by have := BB.out.size; simp [World.setCell] at this ⊢; omega) (fun j hj => by have := (own_low NB1.out.c j hj).1; omega))
            have BC := Lib.hid (BC1.out.trans (((Btw.refl wC).setCell (I := fun k => k = w.heap.size + 1) (p := ⟨w.heap.size + 1, 9, none⟩) (v := (.slice A9 (f + 1) c9)) rfl).below (S := w.heap.size) (fun k e => by subst e; omega) BC1.out.size))
            have HL2 := Lib.hid (show (xa ++ [(b4, c4)]).length = f + 1 by rw [List.length_append, HL.out]; rfl)
            clear hown hg NB NB1 GB BB GC1 BC1 P9
            go_wp2
            go_roundw
            case rel => first | exact ⟨f + 1, xa ++ [(b4, c4)], (.slice A7 (xa.length + 1) c7), (.slice A8 (f + 1) c8), (.slice A9 (f + 1) c9), by omega, by go_num, HL2, NC, GC, BC⟩ | exact ⟨f + 1, xa ++ [(b4, c4)], (.slice A7 (xa.length + 1) c7), (.slice A8 (f + 1) c8), (.slice A9 (f + 1) c9), by omega, by go_num, HL2, NC⟩
            case measure => simp [intOf]; omega
      · go_simp
        have HRaw := RefRaw_any g wr.drew HOK.out
        rw [HN0.out] at HRaw
        refine HRaw.mono ?_
        rintro _ w3 ⟨rfl, h3⟩
        have N3 := Lib.hid ((HNr.out.below ((Below.refl _ _).drew)).below h3)
        have G3 := Lib.hid ((HG.out.below ((Below.refl _ _).drew)).below h3)
        have B3 := Lib.hid (below_step HB.out.drew h3)
        clear h3 HRaw
        go_wp2_with fail
        refine hK.out _ _ G3.out (fun C1 => ?_)
        clear hK K
        try simp only [Act.put, List.setIfInBounds_toArray, List.set_cons_zero, List.set_cons_succ]
        refine wpAnyH_ready (rs := [4, 7]) (by kernel_rfl) (by simp) ?_
        refine (AllReadyH.cons (o := { dst := some 25, op := Op.load 43 (Operand.tmp 24), type := 43, pos := "ref.go:31", after := #[{ on := 3, ground := Ground.data }], guard := none }) rfl (fun K hK => ?_) (AllReadyH.cons (o := { dst := some 28, op := Op.call { callee := Callee.value (Operand.func 35), args := #[Operand.tmp 27], argTypes := #[3] }, type := 35, pos := "ref.go:31", after := #[{ on := 6, ground := Ground.data }, { on := 6, ground := Ground.chain }], guard := none }) rfl (fun K hK => ?_) AllReadyH.nil))
        · have y9 := (refRow.c7 N3.out.blk)
          go_simp
          refine hK.out _ _ G3.out (fun C2 => ?_)
          clear y9
          clear hK K
          try simp only [Act.put, List.setIfInBounds_toArray, List.set_cons_zero, List.set_cons_succ]
          refine wpAnyH_ready (rs := [7]) (by kernel_rfl) (by simp) ?_
          refine AllReadyH.cons (o := { dst := some 28, op := Op.call { callee := Callee.value (Operand.func 35), args := #[Operand.tmp 27], argTypes := #[3] }, type := 35, pos := "ref.go:31", after := #[{ on := 6, ground := Ground.data }, { on := 6, ground := Ground.chain }], guard := none }) rfl (fun K hK => ?_) AllReadyH.nil
          go_simp
          refine (ones_any N w3 hn8N).mono ?_
          rintro _ w4 ⟨A4, c4, rfl, hr4, hb4⟩
          rw [List.length_replicate] at hr4 ⊢
          obtain ⟨b4, rfl, hb5, _, hr5⟩ := own_head hr4 hN1 (by intro x hx; rw [(List.mem_replicate.1 hx).2]; omega)
          obtain ⟨cur4, hcur4⟩ := own_row hr4 (g := b4) rfl
          have N4 := Lib.hid (N3.out.below hb4)
          have G4 := Lib.hid (G3.out.below hb4)
          have B4 := Lib.hid (below_step B3.out hb4)
          have R4 := Lib.hid hr5
          have K4 : Hid (CRow w4 b4 5 cur4) := hcur4
          have hfr : ∀ x ∈ xa, x.1 ≠ b4 := by
            intro x hx
            obtain ⟨i, hi⟩ := List.mem_iff_getElem?.1 hx
            obtain ⟨_, _, cur, hc⟩ := N3.out.x i x hi
            have := hc.lt
            omega
          have hbb4 : w.heap.size + 2 ≤ b4 := by have := N3.out.blk.lt; omega
          clear hr4 hb4 hr5 hcur4 N3 G3 B3
          go_wp2_with fail
          refine hK.out _ _ G4.out (fun C3 => ?_)
          clear hK K
          try simp only [Act.put, List.setIfInBounds_toArray, List.set_cons_zero, List.set_cons_succ]
          refine wpAnyH_ready (rs := [8]) (by kernel_rfl) (by simp) ?_
          refine AllReadyH.cons (o := { dst := some 29, op := Op.buildSlice 43 1 #[(0, Operand.tmp 28)], type := 43, pos := "ref.go:31", after := #[{ on := 7, ground := Ground.data }], guard := none }) rfl (fun K hK => ?_) AllReadyH.nil
          go_simp
          refine hK.out _ _ (G4.out.below (below_new w4 (.cells #[.slice (some ⟨b4, 0, none⟩) N c4] 35))) (fun C4 => ?_)
          clear hK K
          try simp only [Act.put, List.setIfInBounds_toArray, List.set_cons_zero, List.set_cons_succ]
          refine wpAnyH_ready (rs := [9]) (by kernel_rfl) (by simp) ?_
          refine AllReadyH.cons (o := { dst := some 30, op := Op.call { callee := Callee.builtin Builtin.append, args := #[Operand.tmp 25, Operand.tmp 29], argTypes := #[43, 43] }, type := 43, pos := "ref.go:31", after := #[{ on := 4, ground := Ground.data }, { on := 8, ground := Ground.data }, { on := 7, ground := Ground.chain }], guard := none }) rfl (fun K hK => ?_) AllReadyH.nil
          rw [if_pos (by rfl)]
          have N5 := Lib.hid (N4.out.below (below_new w4 (.cells #[.slice (some ⟨b4, 0, none⟩) N c4] 35)))
          refine wp_append_own (w4.alloc (.cells #[.slice (some ⟨b4, 0, none⟩) N c4] 35)) (.tmp 25) (.tmp 29) 43 rfl (w.heap.size + 2) 35 iS _ 1 24 Try.underlying43 hiiS hziS hsiS hbiS rfl (by decide) va xa.length (rowsA N xa) rfl N5.out.a ⟨w4.heap.size, 0, none⟩ 1 1 [.slice (some ⟨b4, 0, none⟩) N c4] rfl rfl (one_new w4 _ _) (by intro u hu; simp at hu; subst hu; rfl) (by have := HL.out; unfold maxLen; omega) (by have := HL.out; omega) (by have := N5.out.blk.lt; omega) ?_
          intro v7 w6 hown hg _
          obtain ⟨A7, c7, rfl⟩ := own_form hown
          have P6 := Lib.hid (crow_grown N5.out.a N5.out.blk (by decide) hg)
          have NA := Lib.hid (N5.out.growA (v' := (.slice A7 (xa.length + 1) c7)) (b4 := b4) (c4 := c4) (cur := cur4) hg hown (R4.out.below (below_new w4 (.cells #[.slice (some ⟨b4, 0, none⟩) N c4] 35))) (K4.out.below (below_new w4 (.cells #[.slice (some ⟨b4, 0, none⟩) N c4] 35))) hbb4 hfr)
          have G6 := Lib.hid ((G4.out.below (below_new w4 (.cells #[.slice (some ⟨b4, 0, none⟩) N c4] 35))).btw_ (Btw.of_grown (I := fun k => va.ownBlock = some k) hg fun _ h => h) (fun h => by have := (own_low N5.out.a _ h).1; omega))
          have B6 := Lib.hid ((B4.out.alloc B4.out.size (.cells #[.slice (some ⟨b4, 0, none⟩) N c4] 35)).grown hg (by have := B4.out.size; simp; omega) (fun j hj => by have := (own_low N5.out.a j hj).1; omega))
          clear hown hg N5 N4 G4 B4 R4 K4 hfr
          refine hK.out _ _ G6.out (fun C5 => ?_)
          clear hK K
          try simp only [Act.put, List.setIfInBounds_toArray, List.set_cons_zero, List.set_cons_succ]
          refine wpAnyH_take (i := 10) (oi := { dst := some 31, op := Op.nilCheck (Operand.tmp 21), type := 0, pos := "ref.go:31", after := #[{ on := 0, ground := Ground.data }, { on := 0, ground := Ground.phase }, { on := 1, ground := Ground.phase }, { on := 2, ground := Ground.phase }, { on := 3, ground := Ground.phase }, { on := 4, ground := Ground.phase }, { on := 5, ground := Ground.phase }, { on := 6, ground := Ground.phase }, { on := 7, ground := Ground.phase }, { on := 8, ground := Ground.phase }, { on := 9, ground := Ground.phase }], guard := none }) (v := ?_) rfl (by kernel_rfl) (by kernel_rfl) (by kernel_rfl) (fun _ _ _ h => h) (Or.inl ⟨by rfl, ?_⟩) C5 ?_
          rotate_left
          · intro W' hSw
            clear hSw
            go_simp <;> with_reducible rfl
          try simp only [Act.put, List.setIfInBounds_toArray, List.set_cons_zero, List.set_cons_succ]
          refine wpAnyH_take (i := 11) (oi := { dst := some 32, op := Op.fieldAddr 69 (Operand.tmp 31) 1, type := 0, pos := "ref.go:31", after := #[{ on := 10, ground := Ground.data }, { on := 0, ground := Ground.phase }, { on := 1, ground := Ground.phase }, { on := 2, ground := Ground.phase }, { on := 3, ground := Ground.phase }, { on := 4, ground := Ground.phase }, { on := 5, ground := Ground.phase }, { on := 6, ground := Ground.phase }, { on := 7, ground := Ground.phase }, { on := 8, ground := Ground.phase }, { on := 9, ground := Ground.phase }], guard := none }) (v := ?_) rfl (by kernel_rfl) (by kernel_rfl) (by kernel_rfl) (fun _ _ _ h => h) (Or.inl ⟨by rfl, ?_⟩) C5 ?_
          rotate_left
          · intro W' hSw
            clear hSw
            go_simp <;> with_reducible rfl
          try simp only [Act.put, List.setIfInBounds_toArray, List.set_cons_zero, List.set_cons_succ]
          refine wpAnyH_ready (rs := [12]) (by kernel_rfl) (by simp) ?_
          refine AllReadyH.cons (o := { dst := none, op := Op.store 43 (Operand.tmp 32) (Operand.tmp 30), type := 0, pos := "ref.go:31", after := #[{ on := 11, ground := Ground.data }, { on := 9, ground := Ground.data }, { on := 9, ground := Ground.chain }, { on := 0, ground := Ground.phase }, { on := 1, ground := Ground.phase }, { on := 2, ground := Ground.phase }, { on := 3, ground := Ground.phase }, { on := 4, ground := Ground.phase }, { on := 5, ground := Ground.phase }, { on := 6, ground := Ground.phase }, { on := 7, ground := Ground.phase }, { on := 8, ground := Ground.phase }, { on := 9, ground := Ground.phase }], guard := none }) rfl (fun K hK => ?_) AllReadyH.nil
          have y9 := (refRow.c7 P6.out)
          have f9 := P6.out.frozen 7
          go_simp
          refine hK.out _ _ (G6.out.btw_ ((Btw.refl w6).setCell (I := fun k => k = w.heap.size + 1) (p := ⟨w.heap.size + 1, 7, none⟩) rfl) (by omega)) (fun C6 => ?_)
          clear y9 f9
          clear hK K
          try simp only [Act.put]
          refine wpAnyH_done (by kernel_rfl) ?_ _
          refine NoPanic.normal ?_
          have GA := Lib.hid (G6.out.btw_ ((Btw.refl w6).setCell (I := fun k => k = w.heap.size + 1) (p := ⟨w.heap.size + 1, 7, none⟩) (v := (.slice A7 (xa.length + 1) c7)) rfl) (by omega))
          have BA := Lib.hid ((Btw.refl w6).setCell (I := fun k => k = w.heap.size + 1) (p := ⟨w.heap.size + 1, 7, none⟩) (v := (.slice A7 (xa.length + 1) c7)) rfl)
          have BA := Lib.hid (B6.out.trans (BA.out.below (S := w.heap.size) (fun k e => by subst e; omega) B6.out.size))
          generalize w6.setCell ⟨w.heap.size + 1, 7, none⟩ (.slice A7 (xa.length + 1) c7) = wA at *
          clear P6 G6 B6
          have y8 := (refRow.c8 NA.out.blk)
          have NA1 := Lib.hid (NA.out.below (below_new wA (.cells #[.int .i64 0] 3)))
          go_wp2_with (at_builtin; refine wpList_append_own _ rfl (.tmp 37) (.tmp 38) 24 rfl (w.heap.size + 2) 3 iI _ 1 8 Try.underlying24 hiiI hziI hsiI hbiI rfl (by decide) vb f (List.replicate f (.int .i64 0)) rfl NA1.out.b ⟨wA.heap.size, 0, none⟩ 1 1 [.int .i64 0] rfl rfl (one_new _ _ _) ?c5 ?c6 ?c7 ?c8 ?_)
          case c5 => intro u hu; simp at hu; subst hu; rfl
          case c6 => unfold maxLen; omega
          case c7 => omega
          case c8 => have := NA1.out.blk.lt; omega
          · intro v8 wB hown hg _
            obtain ⟨A8, c8, rfl⟩ := own_form hown
            have P8 := Lib.hid (crow_grown NA1.out.b NA1.out.blk (by decide) hg)
            have yb := (refRow.c8 P8.out)
            have fb := P8.out.frozen 8
            have NB := Lib.hid (NA1.out.growB hg hown rfl)
            have GB1 := Lib.hid ((GA.out.below (below_new wA (.cells #[.int .i64 0] 3))).btw_ (Btw.of_grown (I := fun k => vb.ownBlock = some k) hg fun _ h => h) (fun h => by have := (own_low NA1.out.b _ h).1; omega))
            have GB := Lib.hid (GB1.out.btw_ ((Btw.refl wB).setCell (I := fun k => k = w.heap.size + 1) (p := ⟨w.heap.size + 1, 8, none⟩) (v := (.slice A8 (f + 1) c8)) rfl) (by omega))
            have BB1 := Lib.hid ((BA.out.alloc BA.out.size (.cells #[.int .i64 0] 3)).grown hg (by have := BA.out.size; simp; omega) (fun j hj => by have := (own_low NA1.out.b j hj).1; omega))
            have BB := Lib.hid (BB1.out.trans (((Btw.refl wB).setCell (I := fun k => k = w.heap.size + 1) (p := ⟨w.heap.size + 1, 8, none⟩) (v := (.slice A8 (f + 1) c8)) rfl).below (S := w.heap.size) (fun k e => by subst e; omega) BB1.out.size))
            have y9 := (refRow.c9 NB.out.blk)
            have NB1 := Lib.hid (NB.out.below (below_new (wB.setCell ⟨w.heap.size + 1, 8, none⟩ (.slice A8 (f + 1) c8)) (.cells #[.bool false] 4)))
            have HNEW := Lib.hid (one_new (wB.setCell ⟨w.heap.size + 1, 8, none⟩ (.slice A8 (f + 1) c8)) (.bool false) 4)
            rw [show (wB.setCell ⟨w.heap.size + 1, 8, none⟩ (.slice A8 (f + 1) c8)).heap.size = wB.heap.size by simp [World.setCell]] at HNEW
            clear hown hg NA NA1 GA BA GB1 BB1 P8
            go_wp2_with (at_builtin; refine wpList_append_own _ rfl (.tmp 46) (.tmp 47) 67 rfl (w.heap.size + 2) 4 iB _ 1 1 Try.underlying67 hiiB hziB hsiB hbiB rfl (by decide) vc f (List.replicate f (.bool false)) rfl NB1.out.c ⟨wB.heap.size, 0, none⟩ 1 1 [.bool false] rfl rfl HNEW.out ?c5 ?c6 ?c7 ?c8 ?_)
            case c5 => intro u hu; simp at hu; subst hu; rfl
            case c6 => unfold maxLen; omega
            case c7 => omega
            case c8 => have := NB1.out.blk.lt; omega
            · intro v9 wC hown hg _
              obtain ⟨A9, c9, rfl⟩ := own_form hown
              have P9 := Lib.hid (crow_grown NB1.out.c NB1.out.blk (by decide) hg)
              have yc := (refRow.c9 P9.out)
              have fc := P9.out.frozen 9
              have NC := Lib.hid (NB1.out.growC hg hown)
              have GC1 := Lib.hid ((GB.out.below (below_new (wB.setCell ⟨w.heap.size + 1, 8, none⟩ (.slice A8 (f + 1) c8)) (.cells #[.bool false] 4))).btw_ (Btw.of_grown (I := fun k => vc.ownBlock = some k) hg fun _ h => h) (fun h => by have := (own_low NB1.out.c _ h).1; omega))
              have GC := Lib.hid (GC1.out.btw_ ((Btw.refl wC).setCell (I := fun k => k = w.heap.size + 1) (p := ⟨w.heap.size + 1, 9, none⟩) (v := (.slice A9 (f + 1) c9)) rfl) (by omega))
              have BC1 := Lib.hid ((BB.out.alloc BB.out.size (.cells #[.bool false] 4)).grown hg (by have := BB.out.size; simp [World.setCell] at this ⊢; omega) (fun j hj => by have := (own_low NB1.out.c j hj).1; omega))
              have BC := Lib.hid (BC1.out.trans (((Btw.refl wC).setCell (I := fun k => k = w.heap.size + 1) (p := ⟨w.heap.size + 1, 9, none⟩) (v := (.slice A9 (f + 1) c9)) rfl).below (S := w.heap.size) (fun k e => by subst e; omega) BC1.out.size))
              have HL2 := Lib.hid (show (xa ++ [(b4, c4)]).length = f + 1 by rw [List.length_append, HL.out]; rfl)
              clear hown hg NB NB1 GB BB GC1 BC1 P9
              go_wp2
              go_roundw
              case rel => first | exact ⟨f + 1, xa ++ [(b4, c4)], (.slice A7 (xa.length + 1) c7), (.slice A8 (f + 1) c8), (.slice A9 (f + 1) c9), by omega, by go_num, HL2, NC, GC, BC⟩ | exact ⟨f + 1, xa ++ [(b4, c4)], (.slice A7 (xa.length + 1) c7), (.slice A8 (f + 1) c8), (.slice A9 (f + 1) c9), by omega, by go_num, HL2, NC⟩
              case measure => simp [intOf]; omega
        · go_simp
          refine (ones_any N w3 hn8N).mono ?_
          rintro _ w4 ⟨A4, c4, rfl, hr4, hb4⟩
          rw [List.length_replicate] at hr4 ⊢
          obtain ⟨b4, rfl, hb5, _, hr5⟩ := own_head hr4 hN1 (by intro x hx; rw [(List.mem_replicate.1 hx).2]; omega)
          obtain ⟨cur4, hcur4⟩ := own_row hr4 (g := b4) rfl
          have N4 := Lib.hid (N3.out.below hb4)
          have G4 := Lib.hid (G3.out.below hb4)
          have B4 := Lib.hid (below_step B3.out hb4)
          have R4 := Lib.hid hr5
          have K4 : Hid (CRow w4 b4 5 cur4) := hcur4
          have hfr : ∀ x ∈ xa, x.1 ≠ b4 := by
            intro x hx
            obtain ⟨i, hi⟩ := List.mem_iff_getElem?.1 hx
            obtain ⟨_, _, cur, hc⟩ := N3.out.x i x hi
            have := hc.lt
            omega
          have hbb4 : w.heap.size + 2 ≤ b4 := by have := N3.out.blk.lt; omega
          clear hr4 hb4 hr5 hcur4 N3 G3 B3
          go_wp2_with fail
          refine hK.out _ _ G4.out (fun C2 => ?_)
          clear hK K
          try simp only [Act.put, List.setIfInBounds_toArray, List.set_cons_zero, List.set_cons_succ]
          refine wpAnyH_ready (rs := [4, 8]) (by kernel_rfl) (by simp) ?_
          refine (AllReadyH.cons (o := { dst := some 25, op := Op.load 43 (Operand.tmp 24), type := 43, pos := "ref.go:31", after := #[{ on := 3, ground := Ground.data }], guard := none }) rfl (fun K hK => ?_) (AllReadyH.cons (o := { dst := some 29, op := Op.buildSlice 43 1 #[(0, Operand.tmp 28)], type := 43, pos := "ref.go:31", after := #[{ on := 7, ground := Ground.data }], guard := none }) rfl (fun K hK => ?_) AllReadyH.nil))
          · have y9 := (refRow.c7 N4.out.blk)
            go_simp
            refine hK.out _ _ G4.out (fun C3 => ?_)
            clear y9
            clear hK K
            try simp only [Act.put, List.setIfInBounds_toArray, List.set_cons_zero, List.set_cons_succ]
            refine wpAnyH_ready (rs := [8]) (by kernel_rfl) (by simp) ?_
            refine AllReadyH.cons (o := { dst := some 29, op := Op.buildSlice 43 1 #[(0, Operand.tmp 28)], type := 43, pos := "ref.go:31", after := #[{ on := 7, ground := Ground.data }], guard := none }) rfl (fun K hK => ?_) AllReadyH.nil
            go_simp
            refine hK.out _ _ (G4.out.below (below_new w4 (.cells #[.slice (some ⟨b4, 0, none⟩) N c4] 35))) (fun C4 => ?_)
            clear hK K
            try simp only [Act.put, List.setIfInBounds_toArray, List.set_cons_zero, List.set_cons_succ]
            refine wpAnyH_ready (rs := [9]) (by kernel_rfl) (by simp) ?_
            refine AllReadyH.cons (o := { dst := some 30, op := Op.call { callee := Callee.builtin Builtin.append, args := #[Operand.tmp 25, Operand.tmp 29], argTypes := #[43, 43] }, type := 43, pos := "ref.go:31", after := #[{ on := 4, ground := Ground.data }, { on := 8, ground := Ground.data }, { on := 7, ground := Ground.chain }], guard := none }) rfl (fun K hK => ?_) AllReadyH.nil
            rw [if_pos (by rfl)]
            have N5 := Lib.hid (N4.out.below (below_new w4 (.cells #[.slice (some ⟨b4, 0, none⟩) N c4] 35)))
            refine wp_append_own (w4.alloc (.cells #[.slice (some ⟨b4, 0, none⟩) N c4] 35)) (.tmp 25) (.tmp 29) 43 rfl (w.heap.size + 2) 35 iS _ 1 24 Try.underlying43 hiiS hziS hsiS hbiS rfl (by decide) va xa.length (rowsA N xa) rfl N5.out.a ⟨w4.heap.size, 0, none⟩ 1 1 [.slice (some ⟨b4, 0, none⟩) N c4] rfl rfl (one_new w4 _ _) (by intro u hu; simp at hu; subst hu; rfl) (by have := HL.out; unfold maxLen; omega) (by have := HL.out; omega) (by have := N5.out.blk.lt; omega) ?_
            intro v7 w6 hown hg _
            obtain ⟨A7, c7, rfl⟩ := own_form hown
            have P6 := Lib.hid (crow_grown N5.out.a N5.out.blk (by decide) hg)
            have NA := Lib.hid (N5.out.growA (v' := (.slice A7 (xa.length + 1) c7)) (b4 := b4) (c4 := c4) (cur := cur4) hg hown (R4.out.below (below_new w4 (.cells #[.slice (some ⟨b4, 0, none⟩) N c4] 35))) (K4.out.below (below_new w4 (.cells #[.slice (some ⟨b4, 0, none⟩) N c4] 35))) hbb4 hfr)
            have G6 := Lib.hid ((G4.out.below (below_new w4 (.cells #[.slice (some ⟨b4, 0, none⟩) N c4] 35))).btw_ (Btw.of_grown (I := fun k => va.ownBlock = some k) hg fun _ h => h) (fun h => by have := (own_low N5.out.a _ h).1; omega))
            have B6 := Lib.hid ((B4.out.alloc B4.out.size (.cells #[.slice (some ⟨b4, 0, none⟩) N c4] 35)).grown hg (by have := B4.out.size; simp; omega) (fun j hj => by have := (own_low N5.out.a j hj).1; omega))
            clear hown hg N5 N4 G4 B4 R4 K4 hfr
            refine hK.out _ _ G6.out (fun C5 => ?_)
            clear hK K
            try simp only [Act.put, List.setIfInBounds_toArray, List.set_cons_zero, List.set_cons_succ]
            refine wpAnyH_take (i := 10) (oi := { dst := some 31, op := Op.nilCheck (Operand.tmp 21), type := 0, pos := "ref.go:31", after := #[{ on := 0, ground := Ground.data }, { on := 0, ground := Ground.phase }, { on := 1, ground := Ground.phase }, { on := 2, ground := Ground.phase }, { on := 3, ground := Ground.phase }, { on := 4, ground := Ground.phase }, { on := 5, ground := Ground.phase }, { on := 6, ground := Ground.phase }, { on := 7, ground := Ground.phase }, { on := 8, ground := Ground.phase }, { on := 9, ground := Ground.phase }], guard := none }) (v := ?_) rfl (by kernel_rfl) (by kernel_rfl) (by kernel_rfl) (fun _ _ _ h => h) (Or.inl ⟨by rfl, ?_⟩) C5 ?_
            rotate_left
            · intro W' hSw
              clear hSw
              go_simp <;> with_reducible rfl
            try simp only [Act.put, List.setIfInBounds_toArray, List.set_cons_zero, List.set_cons_succ]
            refine wpAnyH_take (i := 11) (oi := { dst := some 32, op := Op.fieldAddr 69 (Operand.tmp 31) 1, type := 0, pos := "ref.go:31", after := #[{ on := 10, ground := Ground.data }, { on := 0, ground := Ground.phase }, { on := 1, ground := Ground.phase }, { on := 2, ground := Ground.phase }, { on := 3, ground := Ground.phase }, { on := 4, ground := Ground.phase }, { on := 5, ground := Ground.phase }, { on := 6, ground := Ground.phase }, { on := 7, ground := Ground.phase }, { on := 8, ground := Ground.phase }, { on := 9, ground := Ground.phase }], guard := none }) (v := ?_) rfl (by kernel_rfl) (by kernel_rfl) (by kernel_rfl) (fun _ _ _ h => h) (Or.inl ⟨by rfl, ?_⟩) C5 ?_
            rotate_left
            · intro W' hSw
              clear hSw
              go_simp <;> with_reducible rfl
            try simp only [Act.put, List.setIfInBounds_toArray, List.set_cons_zero, List.set_cons_succ]
            refine wpAnyH_ready (rs := [12]) (by kernel_rfl) (by simp) ?_
            refine AllReadyH.cons (o := { dst := none, op := Op.store 43 (Operand.tmp 32) (Operand.tmp 30), type := 0, pos := "ref.go:31", after := #[{ on := 11, ground := Ground.data }, { on := 9, ground := Ground.data }, { on := 9, ground := Ground.chain }, { on := 0, ground := Ground.phase }, { on := 1, ground := Ground.phase }, { on := 2, ground := Ground.phase }, { on := 3, ground := Ground.phase }, { on := 4, ground := Ground.phase }, { on := 5, ground := Ground.phase }, { on := 6, ground := Ground.phase }, { on := 7, ground := Ground.phase }, { on := 8, ground := Ground.phase }, { on := 9, ground := Ground.phase }], guard := none }) rfl (fun K hK => ?_) AllReadyH.nil
            have y9 := (refRow.c7 P6.out)
            have f9 := P6.out.frozen 7
            go_simp
            refine hK.out _ _ (G6.out.btw_ ((Btw.refl w6).setCell (I := fun k => k = w.heap.size + 1) (p := ⟨w.heap.size + 1, 7, none⟩) rfl) (by omega)) (fun C6 => ?_)
            clear y9 f9
            clear hK K
            try simp only [Act.put]
            refine wpAnyH_done (by kernel_rfl) ?_ _
            refine NoPanic.normal ?_
            have GA := Lib.hid (G6.out.btw_ ((Btw.refl w6).setCell (I := fun k => k = w.heap.size + 1) (p := ⟨w.heap.size + 1, 7, none⟩) (v := (.slice A7 (xa.length + 1) c7)) rfl) (by omega))
            have BA := Lib.hid ((Btw.refl w6).setCell (I := fun k => k = w.heap.size + 1) (p := ⟨w.heap.size + 1, 7, none⟩) (v := (.slice A7 (xa.length + 1) c7)) rfl)
            have BA := Lib.hid (B6.out.trans (BA.out.below (S := w.heap.size) (fun k e => by subst e; omega) B6.out.size))
            generalize w6.setCell ⟨w.heap.size + 1, 7, none⟩ (.slice A7 (xa.length + 1) c7) = wA at *
            clear P6 G6 B6
            have y8 := (refRow.c8 NA.out.blk)
            have NA1 := Lib.hid (NA.out.below (below_new wA (.cells #[.int .i64 0] 3)))
            go_wp2_with (at_builtin; refine wpList_append_own _ rfl (.tmp 37) (.tmp 38) 24 rfl (w.heap.size + 2) 3 iI _ 1 8 Try.underlying24 hiiI hziI hsiI hbiI rfl (by decide) vb f (List.replicate f (.int .i64 0)) rfl NA1.out.b ⟨wA.heap.size, 0, none⟩ 1 1 [.int .i64 0] rfl rfl (one_new _ _ _) ?c5 ?c6 ?c7 ?c8 ?_)
            case c5 => intro u hu; simp at hu; subst hu; rfl
            case c6 => unfold maxLen; omega
            case c7 => omega
            case c8 => have := NA1.out.blk.lt; omega
            · intro v8 wB hown hg _
              obtain ⟨A8, c8, rfl⟩ := own_form hown
              have P8 := Lib.hid (crow_grown NA1.out.b NA1.out.blk (by decide) hg)
              have yb := (refRow.c8 P8.out)
              have fb := P8.out.frozen 8
              have NB := Lib.hid (NA1.out.growB hg hown rfl)
              have GB1 := Lib.hid ((GA.out.below (below_new wA (.cells #[.int .i64 0] 3))).btw_ (Btw.of_grown (I := fun k => vb.ownBlock = some k) hg fun _ h => h) (fun h => by have := (own_low NA1.out.b _ h).1; omega))
              have GB := Lib.hid (GB1.out.btw_ ((Btw.refl wB).setCell (I := fun k => k = w.heap.size + 1) (p := ⟨w.heap.size + 1, 8, none⟩) (v := (.slice A8 (f + 1) c8)) rfl) (by omega))
              have BB1 := Lib.hid ((BA.out.alloc BA.out.size (.cells #[.int .i64 0] 3)).grown hg (by have := BA.out.size; simp; omega) (fun j hj => by have := (own_low NA1.out.b j hj).1; omega))
              have BB := Lib.hid (BB1.out.trans (((Btw.refl wB).setCell (I := fun k => k = w.heap.size + 1) (p := ⟨w.heap.size + 1, 8, none⟩) (v := (.slice A8 (f + 1) c8)) rfl).below (S := w.heap.size) (fun k e => by subst e; omega) BB1.out.size))
              have y9 := (refRow.c9 NB.out.blk)
              have NB1 := Lib.hid (NB.out.below (below_new (wB.setCell ⟨w.heap.size + 1, 8, none⟩ (.slice A8 (f + 1) c8)) (.cells #[.bool false] 4)))
              have HNEW := Lib.hid (one_new (wB.setCell ⟨w.heap.size + 1, 8, none⟩ (.slice A8 (f + 1) c8)) (.bool false) 4)
              rw [show (wB.setCell ⟨w.heap.size + 1, 8, none⟩ (.slice A8 (f + 1) c8)).heap.size = wB.heap.size by simp [World.setCell]] at HNEW
              clear hown hg NA NA1 GA BA GB1 BB1 P8
              go_wp2_with (at_builtin; refine wpList_append_own _ rfl (.tmp 46) (.tmp 47) 67 rfl (w.heap.size + 2) 4 iB _ 1 1 Try.underlying67 hiiB hziB hsiB hbiB rfl (by decide) vc f (List.replicate f (.bool false)) rfl NB1.out.c ⟨wB.heap.size, 0, none⟩ 1 1 [.bool false] rfl rfl HNEW.out ?c5 ?c6 ?c7 ?c8 ?_)
              case c5 => intro u hu; simp at hu; subst hu; rfl
              case c6 => unfold maxLen; omega
              case c7 => omega
              case c8 => have := NB1.out.blk.lt; omega
              · intro v9 wC hown hg _
                obtain ⟨A9, c9, rfl⟩ := own_form hown
                have P9 := Lib.hid (crow_grown NB1.out.c NB1.out.blk (by decide) hg)
                have yc := (refRow.c9 P9.out)
                have fc := P9.out.frozen 9
                have NC := Lib.hid (NB1.out.growC hg hown)
                have GC1 := Lib.hid ((GB.out.below (below_new (wB.setCell ⟨w.heap.size + 1, 8, none⟩ (.slice A8 (f + 1) c8)) (.cells #[.bool false] 4))).btw_ (Btw.of_grown (I := fun k => vc.ownBlock = some k) hg fun _ h => h) (fun h => by have := (own_low NB1.out.c _ h).1; omega))
                have GC := Lib.hid (GC1.out.btw_ ((Btw.refl wC).setCell (I := fun k => k = w.heap.size + 1) (p := ⟨w.heap.size + 1, 9, none⟩) (v := (.slice A9 (f + 1) c9)) rfl) (by omega))
                have BC1 := Lib.hid ((BB.out.alloc BB.out.size (.cells #[.bool false] 4)).grown hg (by have := BB.out.size; simp [World.setCell] at this ⊢; omega) (fun j hj => by have := (own_low NB1.out.c j hj).1; omega))
                have BC := Lib.hid (BC1.out.trans (((Btw.refl wC).setCell (I := fun k => k = w.heap.size + 1) (p := ⟨w.heap.size + 1, 9, none⟩) (v := (.slice A9 (f + 1) c9)) rfl).below (S := w.heap.size) (fun k e => by subst e; omega) BC1.out.size))
                have HL2 := Lib.hid (show (xa ++ [(b4, c4)]).length = f + 1 by rw [List.length_append, HL.out]; rfl)
                clear hown hg NB NB1 GB BB GC1 BC1 P9
                go_wp2
                go_roundw
                case rel => first | exact ⟨f + 1, xa ++ [(b4, c4)], (.slice A7 (xa.length + 1) c7), (.slice A8 (f + 1) c8), (.slice A9 (f + 1) c9), by omega, by go_num, HL2, NC, GC, BC⟩ | exact ⟨f + 1, xa ++ [(b4, c4)], (.slice A7 (xa.length + 1) c7), (.slice A8 (f + 1) c8), (.slice A9 (f + 1) c9), by omega, by go_num, HL2, NC⟩
                case measure => simp [intOf]; omega
          · go_simp
            refine hK.out _ _ (G4.out.below (below_new w4 (.cells #[.slice (some ⟨b4, 0, none⟩) N c4] 35))) (fun C3 => ?_)
            clear hK K
            try simp only [Act.put, List.setIfInBounds_toArray, List.set_cons_zero, List.set_cons_succ]
            refine wpAnyH_ready (rs := [4]) (by kernel_rfl) (by simp) ?_
            refine AllReadyH.cons (o := { dst := some 25, op := Op.load 43 (Operand.tmp 24), type := 43, pos := "ref.go:31", after := #[{ on := 3, ground := Ground.data }], guard := none }) rfl (fun K hK => ?_) AllReadyH.nil
            have y9 := (refRow.c7 (N4.out.below (below_new w4 (.cells #[.slice (some ⟨b4, 0, none⟩) N c4] 35))).blk)
            go_simp
            refine hK.out _ _ (G4.out.below (below_new w4 (.cells #[.slice (some ⟨b4, 0, none⟩) N c4] 35))) (fun C4 => ?_)
            clear y9
            clear hK K
            try simp only [Act.put, List.setIfInBounds_toArray, List.set_cons_zero, List.set_cons_succ]
            refine wpAnyH_ready (rs := [9]) (by kernel_rfl) (by simp) ?_
            refine AllReadyH.cons (o := { dst := some 30, op := Op.call { callee := Callee.builtin Builtin.append, args := #[Operand.tmp 25, Operand.tmp 29], argTypes := #[43, 43] }, type := 43, pos := "ref.go:31", after := #[{ on := 4, ground := Ground.data }, { on := 8, ground := Ground.data }, { on := 7, ground := Ground.chain }], guard := none }) rfl (fun K hK => ?_) AllReadyH.nil
            rw [if_pos (by rfl)]
            have N5 := Lib.hid (N4.out.below (below_new w4 (.cells #[.slice (some ⟨b4, 0, none⟩) N c4] 35)))
            refine wp_append_own (w4.alloc (.cells #[.slice (some ⟨b4, 0, none⟩) N c4] 35)) (.tmp 25) (.tmp 29) 43 rfl (w.heap.size + 2) 35 iS _ 1 24 Try.underlying43 hiiS hziS hsiS hbiS rfl (by decide) va xa.length (rowsA N xa) rfl N5.out.a ⟨w4.heap.size, 0, none⟩ 1 1 [.slice (some ⟨b4, 0, none⟩) N c4] rfl rfl (one_new w4 _ _) (by intro u hu; simp at hu; subst hu; rfl) (by have := HL.out; unfold maxLen; omega) (by have := HL.out; omega) (by have := N5.out.blk.lt; omega) ?_
            intro v7 w6 hown hg _
            obtain ⟨A7, c7, rfl⟩ := own_form hown
            have P6 := Lib.hid (crow_grown N5.out.a N5.out.blk (by decide) hg)
            have NA := Lib.hid (N5.out.growA (v' := (.slice A7 (xa.length + 1) c7)) (b4 := b4) (c4 := c4) (cur := cur4) hg hown (R4.out.below (below_new w4 (.cells #[.slice (some ⟨b4, 0, none⟩) N c4] 35))) (K4.out.below (below_new w4 (.cells #[.slice (some ⟨b4, 0, none⟩) N c4] 35))) hbb4 hfr)
            have G6 := Lib.hid ((G4.out.below (below_new w4 (.cells #[.slice (some ⟨b4, 0, none⟩) N c4] 35))).btw_ (Btw.of_grown (I := fun k => va.ownBlock = some k) hg fun _ h => h) (fun h => by have := (own_low N5.out.a _ h).1; omega))
            have B6 := Lib.hid ((B4.out.alloc B4.out.size (.cells #[.slice (some ⟨b4, 0, none⟩) N c4] 35)).grown hg (by have := B4.out.size; simp; omega) (fun j hj => by have := (own_low N5.out.a j hj).1; omega))
            clear hown hg N5 N4 G4 B4 R4 K4 hfr
            refine hK.out _ _ G6.out (fun C5 => ?_)
            clear hK K
            try simp only [Act.put, List.setIfInBounds_toArray, List.set_cons_zero, List.set_cons_succ]
            refine wpAnyH_take (i := 10) (oi := { dst := some 31, op := Op.nilCheck (Operand.tmp 21), type := 0, pos := "ref.go:31", after := #[{ on := 0, ground := Ground.data }, { on := 0, ground := Ground.phase }, { on := 1, ground := Ground.phase }, { on := 2, ground := Ground.phase }, { on := 3, ground := Ground.phase }, { on := 4, ground := Ground.phase }, { on := 5, ground := Ground.phase }, { on := 6, ground := Ground.phase }, { on := 7, ground := Ground.phase }, { on := 8, ground := Ground.phase }, { on := 9, ground := Ground.phase }], guard := none }) (v := ?_) rfl (by kernel_rfl) (by kernel_rfl) (by kernel_rfl) (fun _ _ _ h => h) (Or.inl ⟨by rfl, ?_⟩) C5 ?_
            rotate_left
            · intro W' hSw
              clear hSw
              go_simp <;> with_reducible rfl
            try simp only [Act.put, List.setIfInBounds_toArray, List.set_cons_zero, List.set_cons_succ]
            refine wpAnyH_take (i := 11) (oi := { dst := some 32, op := Op.fieldAddr 69 (Operand.tmp 31) 1, type := 0, pos := "ref.go:31", after := #[{ on := 10, ground := Ground.data }, { on := 0, ground := Ground.phase }, { on := 1, ground := Ground.phase }, { on := 2, ground := Ground.phase }, { on := 3, ground := Ground.phase }, { on := 4, ground := Ground.phase }, { on := 5, ground := Ground.phase }, { on := 6, ground := Ground.phase }, { on := 7, ground := Ground.phase }, { on := 8, ground := Ground.phase }, { on := 9, ground := Ground.phase }], guard := none }) (v := ?_) rfl (by kernel_rfl) (by kernel_rfl) (by kernel_rfl) (fun _ _ _ h => h) (Or.inl ⟨by rfl, ?_⟩) C5 ?_
            rotate_left
            · intro W' hSw
              clear hSw
              go_simp <;> with_reducible rfl
            try simp only [Act.put, List.setIfInBounds_toArray, List.set_cons_zero, List.set_cons_succ]
            refine wpAnyH_ready (rs := [12]) (by kernel_rfl) (by simp) ?_
            refine AllReadyH.cons (o := { dst := none, op := Op.store 43 (Operand.tmp 32) (Operand.tmp 30), type := 0, pos := "ref.go:31", after := #[{ on := 11, ground := Ground.data }, { on := 9, ground := Ground.data }, { on := 9, ground := Ground.chain }, { on := 0, ground := Ground.phase }, { on := 1, ground := Ground.phase }, { on := 2, ground := Ground.phase }, { on := 3, ground := Ground.phase }, { on := 4, ground := Ground.phase }, { on := 5, ground := Ground.phase }, { on := 6, ground := Ground.phase }, { on := 7, ground := Ground.phase }, { on := 8, ground := Ground.phase }, { on := 9, ground := Ground.phase }], guard := none }) rfl (fun K hK => ?_) AllReadyH.nil
            have y9 := (refRow.c7 P6.out)
            have f9 := P6.out.frozen 7
            go_simp
            refine hK.out _ _ (G6.out.btw_ ((Btw.refl w6).setCell (I := fun k => k = w.heap.size + 1) (p := ⟨w.heap.size + 1, 7, none⟩) rfl) (by omega)) (fun C6 => ?_)
            clear y9 f9
            clear hK K
            try simp only [Act.put]
            refine wpAnyH_done (by kernel_rfl) ?_ _
            refine NoPanic.normal ?_
            have GA := Lib.hid (G6.out.btw_ ((Btw.refl w6).setCell (I := fun k => k = w.heap.size + 1) (p := ⟨w.heap.size + 1, 7, none⟩) (v := (.slice A7 (xa.length + 1) c7)) rfl) (by omega))
            have BA := Lib.hid ((Btw.refl w6).setCell (I := fun k => k = w.heap.size + 1) (p := ⟨w.heap.size + 1, 7, none⟩) (v := (.slice A7 (xa.length + 1) c7)) rfl)
            have BA := Lib.hid (B6.out.trans (BA.out.below (S := w.heap.size) (fun k e => by subst e; omega) B6.out.size))
            generalize w6.setCell ⟨w.heap.size + 1, 7, none⟩ (.slice A7 (xa.length + 1) c7) = wA at *
            clear P6 G6 B6
            have y8 := (refRow.c8 NA.out.blk)
            have NA1 := Lib.hid (NA.out.below (below_new wA (.cells #[.int .i64 0] 3)))
            go_wp2_with (at_builtin; refine wpList_append_own _ rfl (.tmp 37) (.tmp 38) 24 rfl (w.heap.size + 2) 3 iI _ 1 8 Try.underlying24 hiiI hziI hsiI hbiI rfl (by decide) vb f (List.replicate f (.int .i64 0)) rfl NA1.out.b ⟨wA.heap.size, 0, none⟩ 1 1 [.int .i64 0] rfl rfl (one_new _ _ _) ?c5 ?c6 ?c7 ?c8 ?_)
            case c5 => intro u hu; simp at hu; subst hu; rfl
            case c6 => unfold maxLen; omega
            case c7 => omega
            case c8 => have := NA1.out.blk.lt; omega
            · intro v8 wB hown hg _
              obtain ⟨A8, c8, rfl⟩ := own_form hown
              have P8 := Lib.hid (crow_grown NA1.out.b NA1.out.blk (by decide) hg)
              have yb := (refRow.c8 P8.out)
              have fb := P8.out.frozen 8
              have NB := Lib.hid (NA1.out.growB hg hown rfl)
              have GB1 := Lib.hid ((GA.out.below (below_new wA (.cells #[.int .i64 0] 3))).btw_ (Btw.of_grown (I := fun k => vb.ownBlock = some k) hg fun _ h => h) (fun h => by have := (own_low NA1.out.b _ h).1; omega))
              have GB := Lib.hid (GB1.out.btw_ ((Btw.refl wB).setCell (I := fun k => k = w.heap.size + 1) (p := ⟨w.heap.size + 1, 8, none⟩) (v := (.slice A8 (f + 1) c8)) rfl) (by omega))
              have BB1 := Lib.hid ((BA.out.alloc BA.out.size (.cells #[.int .i64 0] 3)).grown hg (by have := BA.out.size; simp; omega) (fun j hj => by have := (own_low NA1.out.b j hj).1; omega))
              have BB := Lib.hid (BB1.out.trans (((Btw.refl wB).setCell (I := fun k => k = w.heap.size + 1) (p := ⟨w.heap.size + 1, 8, none⟩) (v := (.slice A8 (f + 1) c8)) rfl).below (S := w.heap.size) (fun k e => by subst e; omega) BB1.out.size))
              have y9 := (refRow.c9 NB.out.blk)
              have NB1 := Lib.hid (NB.out.below (below_new (wB.setCell ⟨w.heap.size + 1, 8, none⟩ (.slice A8 (f + 1) c8)) (.cells #[.bool false] 4)))
              have HNEW := Lib.hid (one_new (wB.setCell ⟨w.heap.size + 1, 8, none⟩ (.slice A8 (f + 1) c8)) (.bool false) 4)
              rw [show (wB.setCell ⟨w.heap.size + 1, 8, none⟩ (.slice A8 (f + 1) c8)).heap.size = wB.heap.size by simp [World.setCell]] at HNEW
              clear hown hg NA NA1 GA BA GB1 BB1 P8
              go_wp2_with (at_builtin; refine wpList_append_own _ rfl (.tmp 46) (.tmp 47) 67 rfl (w.heap.size + 2) 4 iB _ 1 1 Try.underlying67 hiiB hziB hsiB hbiB rfl (by decide) vc f (List.replicate f (.bool false)) rfl NB1.out.c ⟨wB.heap.size, 0, none⟩ 1 1 [.bool false] rfl rfl HNEW.out ?c5 ?c6 ?c7 ?c8 ?_)
              case c5 => intro u hu; simp at hu; subst hu; rfl
              case c6 => unfold maxLen; omega
              case c7 => omega
              case c8 => have := NB1.out.blk.lt; omega
              · intro v9 wC hown hg _
                obtain ⟨A9, c9, rfl⟩ := own_form hown
                have P9 := Lib.hid (crow_grown NB1.out.c NB1.out.blk (by decide) hg)
                have yc := (refRow.c9 P9.out)
                have fc := P9.out.frozen 9
                have NC := Lib.hid (NB1.out.growC hg hown)
                have GC1 := Lib.hid ((GB.out.below (below_new (wB.setCell ⟨w.heap.size + 1, 8, none⟩ (.slice A8 (f + 1) c8)) (.cells #[.bool false] 4))).btw_ (Btw.of_grown (I := fun k => vc.ownBlock = some k) hg fun _ h => h) (fun h => by have := (own_low NB1.out.c _ h).1; omega))
                have GC := Lib.hid (GC1.out.btw_ ((Btw.refl wC).setCell (I := fun k => k = w.heap.size + 1) (p := ⟨w.heap.size + 1, 9, none⟩) (v := (.slice A9 (f + 1) c9)) rfl) (by omega))
                have BC1 := Lib.hid ((BB.out.alloc BB.out.size (.cells #[.bool false] 4)).grown hg (by have := BB.out.size; simp [World.setCell] at this ⊢; omega) (fun j hj => by have := (own_low NB1.out.c j hj).1; omega))
                have BC := Lib.hid (BC1.out.trans (((Btw.refl wC).setCell (I := fun k => k = w.heap.size + 1) (p := ⟨w.heap.size + 1, 9, none⟩) (v := (.slice A9 (f + 1) c9)) rfl).below (S := w.heap.size) (fun k e => by subst e; omega) BC1.out.size))
                have HL2 := Lib.hid (show (xa ++ [(b4, c4)]).length = f + 1 by rw [List.length_append, HL.out]; rfl)
                clear hown hg NB NB1 GB BB GC1 BC1 P9
                go_wp2
                go_roundw
                case rel => first | exact ⟨f + 1, xa ++ [(b4, c4)], (.slice A7 (xa.length + 1) c7), (.slice A8 (f + 1) c8), (.slice A9 (f + 1) c9), by omega, by go_num, HL2, NC, GC, BC⟩ | exact ⟨f + 1, xa ++ [(b4, c4)], (.slice A7 (xa.length + 1) c7), (.slice A8 (f + 1) c8), (.slice A9 (f + 1) c9), by omega, by go_num, HL2, NC⟩
                case measure => simp [intOf]; omega
    · obtain rfl : f = R := by omega
      have d1 : decide ((f : Int) < (f : Int)) = false := decide_eq_false (by omega)
      have HVB := Lib.hid (fun j h => (own_low HNr.out.b j h).2)
      obtain ⟨bd, hbd⟩ : ∃ bd, bd = wr.heap.size := ⟨_, rfl⟩
      have ND0 := Lib.hid (show RNw wr (w.heap.size + 1) (w.heap.size + 2) bd N g xa (fun _ => List.replicate N 255) va vb vc (.slice none 0 0) f f 0 from { HNr.out with d := World.ownsRow_nil _ _ _ _ })
      have HVB2 := Lib.hid (show ∀ j, vb.ownBlock = some j → j < bd from fun j h => hbd ▸ HVB.out j h)
      have hbd2 : w.heap.size + 2 ≤ bd := by have := HNr.out.blk.lt; omega
      have HBD := Lib.hid (show bd ≤ wr.heap.size by omega)
      clear HVB HNr hbd
      go_wp2
      clear g0 g1 g2 g3 g4 g5 g6
      go_loopw [7] (fun i wr => ∃ (e : Nat) (vd : Value), e ≤ B ∧ i = .int .i64 (e : Int) ∧ Hid (RNw wr (w.heap.size + 1) (w.heap.size + 2) bd N g xa (fun _ => List.replicate N 255) va vb vc vd f f e) ∧ Hid (GBox wr w.heap.size g) ∧ Hid (Below w.heap.size w wr) ∧ Hid (bd ≤ wr.heap.size)) (fun i _ => B - (intOf i).toNat)
      case atStart => exact ⟨0, _, Nat.zero_le _, rfl, ND0, HG, HB, HBD⟩
      case round =>
        clear ND0 HG HB HBD
        obtain ⟨e, vd, he, rfl, HNr, HG, HB, HBD⟩ := hrel
        rename World => wq
        obtain ⟨_, g0, g1, g2, g3, g4, g5, g6⟩ := HG.out
        rw [HB0.out] at g1
        by_cases hle : e < B
        · have d2 : decide ((e : Int) < (B : Int)) = true := decide_eq_true (by omega)
          have y10 := (refRow.c10 HNr.out.blk)
          have NA1 := Lib.hid (HNr.out.below (below_new wq (.cells #[.int .i64 0] 3)))
          go_wp2_with (at_builtin; refine wpList_append_own _ rfl (.tmp 61) (.tmp 62) 24 rfl bd 3 iI _ 1 8 Try.underlying24 hiiI hziI hsiI hbiI rfl (by decide) vd e (List.replicate e (.int .i64 0)) rfl NA1.out.d ⟨wq.heap.size, 0, none⟩ 1 1 [.int .i64 0] rfl rfl (one_new _ _ _) ?c5 ?c6 ?c7 ?c8 ?_)
          case c5 => intro u hu; simp at hu; subst hu; rfl
          case c6 => unfold maxLen; omega
          case c7 => omega
          case c8 => have := HBD.out; simp; omega
          · intro v8 wB hown hg _
            obtain ⟨A8, c8, rfl⟩ := own_form hown
            have P8 := Lib.hid (crow_grown NA1.out.d NA1.out.blk (by decide) hg)
            have yb := (refRow.c10 P8.out)
            have fb := P8.out.frozen 10
            have NB := Lib.hid (NA1.out.growD hg hown HVB2.out)
            have GB1 := Lib.hid ((HG.out.below (below_new wq (.cells #[.int .i64 0] 3))).btw_ (Btw.of_grown (I := fun k => vd.ownBlock = some k) hg fun _ h => h) (fun h => by have := (own_low NA1.out.d _ h).1; omega))
            have GB := Lib.hid (GB1.out.btw_ ((Btw.refl wB).setCell (I := fun k => k = w.heap.size + 1) (p := ⟨w.heap.size + 1, 10, none⟩) (v := (.slice A8 (e + 1) c8)) rfl) (by omega))
            have BB1 := Lib.hid ((HB.out.alloc HB.out.size (.cells #[.int .i64 0] 3)).grown hg (by have := HB.out.size; simp; omega) (fun j hj => by have := (own_low NA1.out.d j hj).1; omega))
            have BB := Lib.hid (BB1.out.trans (((Btw.refl wB).setCell (I := fun k => k = w.heap.size + 1) (p := ⟨w.heap.size + 1, 10, none⟩) (v := (.slice A8 (e + 1) c8)) rfl).below (S := w.heap.size) (fun k e => by subst e; omega) BB1.out.size))
            have HBD2 := Lib.hid (show bd ≤ (wB.setCell ⟨w.heap.size + 1, 10, none⟩ (.slice A8 (e + 1) c8)).heap.size by
              have h1 := HBD.out
              have h2 := (Btw.of_grown (I := fun k => vd.ownBlock = some k) hg fun _ h => h).size
              simp [World.setCell] at h2 ⊢
              omega)
            clear hown hg NA1 GB1 BB1 P8
            go_wp2
            go_roundw
            case rel => first | exact ⟨e + 1, (.slice A8 (e + 1) c8), by omega, by go_num, NB, GB, BB, HBD2⟩ | exact ⟨e + 1, (.slice A8 (e + 1) c8), by omega, by go_num, NB⟩
            case measure => simp [intOf]; omega
        · obtain rfl : e = B := by omega
          have d2 : decide ((e : Int) < (e : Int)) = false := decide_eq_false (by omega)
          obtain ⟨Aa, ca, rfl⟩ := own_form HNr.out.a
          obtain ⟨a, rfl, ha, _, hca⟩ := Cells.own HNr.out.a (by have := HL.out; omega)
          have hae := hca.lt
          have NM := Lib.hid (show RNw wq (w.heap.size + 1) (w.heap.size + 2) bd N g xa (rawM N P (ms.take 0)) (.slice (some ⟨a, 0, none⟩) xa.length ca) vb vc vd f f e from by
            have e1 : rawM N P (ms.take 0) = fun _ => List.replicate N 255 := by funext i; rfl
            rw [e1]
            exact HNr.out)
          clear hca
          go_wp2
          clear g0 g1 g2 g3 g4 g5 g6
          go_loopw [8] (fun i wr => ∃ q : Nat, q ≤ n ∧ i = .int .i64 (q : Int) ∧ Hid (∀ x ∈ ms.take q, 0 ≤ x ∧ x < (e : Int)) ∧ Hid (RNw wr (w.heap.size + 1) (w.heap.size + 2) bd N g xa (rawM N P (ms.take q)) (.slice (some ⟨a, 0, none⟩) xa.length ca) vb vc vd f f e) ∧ Hid (GBox wr w.heap.size g) ∧ Hid (Below w.heap.size w wr)) (fun i _ => n - (intOf i).toNat)
          case atStart => exact ⟨0, Nat.zero_le _, rfl, Lib.hid (by simp), NM, HG, HB⟩
          case round =>
            clear NM HNr HG HB HBD
            obtain ⟨q, hq, rfl, HGd, HNr, HG, HB⟩ := hrel
            rename World => wm
            by_cases hlq : q < n
            · obtain ⟨b9, o9, x, rfl, hb9, HX, hx1, hx2, hx3⟩ := AM.out.at_ hlq
              have X3 := Lib.hid (show wm.cell? ⟨b9, o9 + q, none⟩ = some (.int .i64 x) from (HB.out.cell hb9).trans hx3)
              have j0 : (0 : Int) ≤ (q : Int) := by omega
              have j1 : (q : Int) < (n : Int) := by omega
              have HT := Lib.hid (take_succR HX.out)
              clear HX hx3
              by_cases hneg : x < 0
              · have d3 : decide (x < 0) = true := decide_eq_true hneg
                have HBad := Lib.hid (show ¬ ∀ x ∈ ms, 0 ≤ x ∧ x < (e : Int) from fun h => absurd (h x (List.mem_of_mem_take (by rw [HT.out]; simp))).1 (by omega))
                go_wp2
                refine wp_region_noPanic ?_
                refine wp_region_held_drew (S := fun w' => GBox w' w.heap.size g ∧ w'.cell? ⟨b9, o9 + q, none⟩ = some (.int .i64 x)) (by kernel_rfl) ⟨HG.out.below ((Below.refl _ _).drew), X3.out⟩ (fun C0 => ?_)
                refine wpAnyH_take (i := 0) (oi := { dst := some 72, op := Op.move (Operand.tmp 1), type := 24, pos := "ref.go:39", after := #[], guard := none }) (v := ?_) rfl (by kernel_rfl) (by kernel_rfl) (by kernel_rfl) (fun _ _ _ h => h) (Or.inl ⟨by rfl, ?_⟩) C0 ?_
                rotate_left
                · intro W' hSw
                  clear hSw
                  go_simp <;> with_reducible rfl
                try simp only [Act.put, List.setIfInBounds_toArray, List.set_cons_zero, List.set_cons_succ]
                refine wpAnyH_take (i := 1) (oi := { dst := some 73, op := Op.move (Operand.tmp 8), type := 3, pos := "ref.go:39", after := #[], guard := none }) (v := ?_) rfl (by kernel_rfl) (by kernel_rfl) (by kernel_rfl) (fun _ _ _ h => h) (Or.inl ⟨by rfl, ?_⟩) C0 ?_
                rotate_left
                · intro W' hSw
                  clear hSw
                  go_simp <;> with_reducible rfl
                try simp only [Act.put, List.setIfInBounds_toArray, List.set_cons_zero, List.set_cons_succ]
                refine wpAnyH_take (i := 2) (oi := { dst := some 74, op := Op.indexAddr 24 (Operand.tmp 72) (Operand.tmp 73), type := 0, pos := "ref.go:39", after := #[{ on := 0, ground := Ground.data }, { on := 1, ground := Ground.data }], guard := none }) (v := ?_) rfl (by kernel_rfl) (by kernel_rfl) (by kernel_rfl) (fun _ _ _ h => h) (Or.inl ⟨by rfl, ?_⟩) C0 ?_
                rotate_left
                · intro W' hSw
                  clear hSw
                  go_simp <;> with_reducible rfl
                try simp only [Act.put, List.setIfInBounds_toArray, List.set_cons_zero, List.set_cons_succ]
                refine wpAnyH_take (i := 3) (oi := { dst := some 75, op := Op.load 3 (Operand.tmp 74), type := 3, pos := "ref.go:39", after := #[{ on := 2, ground := Ground.data }], guard := none }) (v := ?_) rfl (by kernel_rfl) (by kernel_rfl) (by kernel_rfl) (fun _ _ _ h => h) (Or.inl ⟨by rfl, ?_⟩) C0 ?_
                rotate_left
                · intro W' hSw
                  have y := hSw.2
                  clear hSw
                  go_simp <;> with_reducible rfl
                try simp only [Act.put, List.setIfInBounds_toArray, List.set_cons_zero, List.set_cons_succ]
                refine wpAnyH_take (i := 4) (oi := { dst := some 76, op := Op.binOp BinOp.lss 3 (Operand.tmp 75) (Operand.const (Value.int IntKind.i64 0)) 3, type := 4, pos := "ref.go:39", after := #[{ on := 3, ground := Ground.data }], guard := none }) (v := ?_) rfl (by kernel_rfl) (by kernel_rfl) (by kernel_rfl) (fun _ _ _ h => h) (Or.inl ⟨by rfl, ?_⟩) C0 ?_
                rotate_left
                · intro W' hSw
                  clear hSw
                  go_simp <;> with_reducible rfl
                try simp only [Act.put, List.setIfInBounds_toArray, List.set_cons_zero, List.set_cons_succ]
                refine wpAnyH_take (i := 5) (oi := { dst := some 77, op := Op.move (Operand.tmp 76), type := 4, pos := "ref.go:39", after := #[{ on := 4, ground := Ground.data }], guard := none }) (v := ?_) rfl (by kernel_rfl) (by kernel_rfl) (by kernel_rfl) (fun _ _ _ h => h) (Or.inl ⟨by rfl, ?_⟩) C0 ?_
                rotate_left
                · intro W' hSw
                  clear hSw
                  go_simp <;> with_reducible rfl
                try simp only [Act.put, List.setIfInBounds_toArray, List.set_cons_zero, List.set_cons_succ]
                refine wpAnyH_take (i := 6) (oi := { dst := some 78, op := Op.move (Operand.tmp 1), type := 24, pos := "ref.go:39", after := #[{ on := 5, ground := Ground.guard }], guard := some (5, false) }) (v := undef) rfl (by kernel_rfl) (by kernel_rfl) (by kernel_rfl) (fun _ _ _ h => h) (Or.inr ⟨by rfl, rfl⟩) C0 ?_
                try simp only [Act.put, List.setIfInBounds_toArray, List.set_cons_zero, List.set_cons_succ]
                refine wpAnyH_take (i := 7) (oi := { dst := some 79, op := Op.move (Operand.tmp 8), type := 3, pos := "ref.go:39", after := #[{ on := 5, ground := Ground.guard }], guard := some (5, false) }) (v := undef) rfl (by kernel_rfl) (by kernel_rfl) (by kernel_rfl) (fun _ _ _ h => h) (Or.inr ⟨by rfl, rfl⟩) C0 ?_
                try simp only [Act.put, List.setIfInBounds_toArray, List.set_cons_zero, List.set_cons_succ]
                refine wpAnyH_take (i := 8) (oi := { dst := some 80, op := Op.indexAddr 24 (Operand.tmp 78) (Operand.tmp 79), type := 0, pos := "ref.go:39", after := #[{ on := 6, ground := Ground.data }, { on := 7, ground := Ground.data }, { on := 5, ground := Ground.guard }], guard := some (5, false) }) (v := undef) rfl (by kernel_rfl) (by kernel_rfl) (by kernel_rfl) (fun _ _ _ h => h) (Or.inr ⟨by rfl, rfl⟩) C0 ?_
                try simp only [Act.put, List.setIfInBounds_toArray, List.set_cons_zero, List.set_cons_succ]
                refine wpAnyH_take (i := 9) (oi := { dst := some 81, op := Op.load 3 (Operand.tmp 80), type := 3, pos := "ref.go:39", after := #[{ on := 8, ground := Ground.data }, { on := 5, ground := Ground.guard }], guard := some (5, false) }) (v := undef) rfl (by kernel_rfl) (by kernel_rfl) (by kernel_rfl) (fun _ _ _ h => h) (Or.inr ⟨by rfl, rfl⟩) C0 ?_
                try simp only [Act.put, List.setIfInBounds_toArray, List.set_cons_zero, List.set_cons_succ]
                refine wpAnyH_take (i := 10) (oi := { dst := some 82, op := Op.fieldAddr 23 (Operand.tmp 2) 1, type := 0, pos := "ref.go:39", after := #[{ on := 5, ground := Ground.guard }], guard := some (5, false) }) (v := undef) rfl (by kernel_rfl) (by kernel_rfl) (by kernel_rfl) (fun _ _ _ h => h) (Or.inr ⟨by rfl, rfl⟩) C0 ?_
                try simp only [Act.put, List.setIfInBounds_toArray, List.set_cons_zero, List.set_cons_succ]
                refine wpAnyH_take (i := 11) (oi := { dst := some 83, op := Op.load 3 (Operand.tmp 82), type := 3, pos := "ref.go:39", after := #[{ on := 10, ground := Ground.data }, { on := 5, ground := Ground.guard }], guard := some (5, false) }) (v := undef) rfl (by kernel_rfl) (by kernel_rfl) (by kernel_rfl) (fun _ _ _ h => h) (Or.inr ⟨by rfl, rfl⟩) C0 ?_
                try simp only [Act.put, List.setIfInBounds_toArray, List.set_cons_zero, List.set_cons_succ]
                refine wpAnyH_take (i := 12) (oi := { dst := some 84, op := Op.binOp BinOp.geq 3 (Operand.tmp 81) (Operand.tmp 83) 3, type := 4, pos := "ref.go:39", after := #[{ on := 9, ground := Ground.data }, { on := 11, ground := Ground.data }, { on := 5, ground := Ground.guard }], guard := some (5, false) }) (v := undef) rfl (by kernel_rfl) (by kernel_rfl) (by kernel_rfl) (fun _ _ _ h => h) (Or.inr ⟨by rfl, rfl⟩) C0 ?_
                try simp only [Act.put, List.setIfInBounds_toArray, List.set_cons_zero, List.set_cons_succ]
                refine wpAnyH_take (i := 13) (oi := { dst := some 85, op := Op.pick (Operand.tmp 77) (Operand.const (Value.bool true)) (Operand.tmp 84), type := 4, pos := "ref.go:39", after := #[{ on := 5, ground := Ground.data }, { on := 12, ground := Ground.data }], guard := none }) (v := ?_) rfl (by kernel_rfl) (by kernel_rfl) (by kernel_rfl) (fun _ _ _ h => h) (Or.inl ⟨by rfl, ?_⟩) C0 ?_
                rotate_left
                · intro W' hSw
                  clear hSw
                  go_simp <;> with_reducible rfl
                try simp only [Act.put, List.setIfInBounds_toArray, List.set_cons_zero, List.set_cons_succ]
                refine wpAnyH_done (by kernel_rfl) ?_ _
                refine NoPanic.normal ?_
                go_wp2
                go_ret
                exact .inr ⟨HBad.out, rfl, HB.out.drew⟩
              · have d3 : decide (x < 0) = false := decide_eq_false hneg
                by_cases hbig : (e : Int) ≤ x
                · have d4 : decide ((e : Int) ≤ x) = true := decide_eq_true hbig
                  have HBad := Lib.hid (show ¬ ∀ x ∈ ms, 0 ≤ x ∧ x < (e : Int) from fun h => absurd (h x (List.mem_of_mem_take (by rw [HT.out]; simp))).2 (by omega))
                  go_wp2
                  refine wp_region_noPanic ?_
                  refine wp_region_held_drew (S := fun w' => GBox w' w.heap.size g ∧ w'.cell? ⟨b9, o9 + q, none⟩ = some (.int .i64 x)) (by kernel_rfl) ⟨HG.out.below ((Below.refl _ _).drew), X3.out⟩ (fun C0 => ?_)
                  refine wpAnyH_take (i := 0) (oi := { dst := some 72, op := Op.move (Operand.tmp 1), type := 24, pos := "ref.go:39", after := #[], guard := none }) (v := ?_) rfl (by kernel_rfl) (by kernel_rfl) (by kernel_rfl) (fun _ _ _ h => h) (Or.inl ⟨by rfl, ?_⟩) C0 ?_
                  rotate_left
                  · intro W' hSw
                    clear hSw
                    go_simp <;> with_reducible rfl
                  try simp only [Act.put, List.setIfInBounds_toArray, List.set_cons_zero, List.set_cons_succ]
                  refine wpAnyH_take (i := 1) (oi := { dst := some 73, op := Op.move (Operand.tmp 8), type := 3, pos := "ref.go:39", after := #[], guard := none }) (v := ?_) rfl (by kernel_rfl) (by kernel_rfl) (by kernel_rfl) (fun _ _ _ h => h) (Or.inl ⟨by rfl, ?_⟩) C0 ?_
                  rotate_left
                  · intro W' hSw
                    clear hSw
                    go_simp <;> with_reducible rfl
                  try simp only [Act.put, List.setIfInBounds_toArray, List.set_cons_zero, List.set_cons_succ]
                  refine wpAnyH_take (i := 2) (oi := { dst := some 74, op := Op.indexAddr 24 (Operand.tmp 72) (Operand.tmp 73), type := 0, pos := "ref.go:39", after := #[{ on := 0, ground := Ground.data }, { on := 1, ground := Ground.data }], guard := none }) (v := ?_) rfl (by kernel_rfl) (by kernel_rfl) (by kernel_rfl) (fun _ _ _ h => h) (Or.inl ⟨by rfl, ?_⟩) C0 ?_
                  rotate_left
                  · intro W' hSw
                    clear hSw
                    go_simp <;> with_reducible rfl
                  try simp only [Act.put, List.setIfInBounds_toArray, List.set_cons_zero, List.set_cons_succ]
                  refine wpAnyH_take (i := 3) (oi := { dst := some 75, op := Op.load 3 (Operand.tmp 74), type := 3, pos := "ref.go:39", after := #[{ on := 2, ground := Ground.data }], guard := none }) (v := ?_) rfl (by kernel_rfl) (by kernel_rfl) (by kernel_rfl) (fun _ _ _ h => h) (Or.inl ⟨by rfl, ?_⟩) C0 ?_
                  rotate_left
                  · intro W' hSw
                    have y := hSw.2
                    clear hSw
                    go_simp <;> with_reducible rfl
                  try simp only [Act.put, List.setIfInBounds_toArray, List.set_cons_zero, List.set_cons_succ]
                  refine wpAnyH_take (i := 4) (oi := { dst := some 76, op := Op.binOp BinOp.lss 3 (Operand.tmp 75) (Operand.const (Value.int IntKind.i64 0)) 3, type := 4, pos := "ref.go:39", after := #[{ on := 3, ground := Ground.data }], guard := none }) (v := ?_) rfl (by kernel_rfl) (by kernel_rfl) (by kernel_rfl) (fun _ _ _ h => h) (Or.inl ⟨by rfl, ?_⟩) C0 ?_
                  rotate_left
                  · intro W' hSw
                    clear hSw
                    go_simp <;> with_reducible rfl
                  try simp only [Act.put, List.setIfInBounds_toArray, List.set_cons_zero, List.set_cons_succ]
                  refine wpAnyH_take (i := 5) (oi := { dst := some 77, op := Op.move (Operand.tmp 76), type := 4, pos := "ref.go:39", after := #[{ on := 4, ground := Ground.data }], guard := none }) (v := ?_) rfl (by kernel_rfl) (by kernel_rfl) (by kernel_rfl) (fun _ _ _ h => h) (Or.inl ⟨by rfl, ?_⟩) C0 ?_
                  rotate_left
                  · intro W' hSw
                    clear hSw
                    go_simp <;> with_reducible rfl
                  try simp only [Act.put, List.setIfInBounds_toArray, List.set_cons_zero, List.set_cons_succ]
                  refine wpAnyH_take (i := 6) (oi := { dst := some 78, op := Op.move (Operand.tmp 1), type := 24, pos := "ref.go:39", after := #[{ on := 5, ground := Ground.guard }], guard := some (5, false) }) (v := ?_) rfl (by kernel_rfl) (by kernel_rfl) (by kernel_rfl) (fun _ _ _ h => h) (Or.inl ⟨by rfl, ?_⟩) C0 ?_
                  rotate_left
                  · intro W' hSw
                    clear hSw
                    go_simp <;> with_reducible rfl
                  try simp only [Act.put, List.setIfInBounds_toArray, List.set_cons_zero, List.set_cons_succ]
                  refine wpAnyH_take (i := 7) (oi := { dst := some 79, op := Op.move (Operand.tmp 8), type := 3, pos := "ref.go:39", after := #[{ on := 5, ground := Ground.guard }], guard := some (5, false) }) (v := ?_) rfl (by kernel_rfl) (by kernel_rfl) (by kernel_rfl) (fun _ _ _ h => h) (Or.inl ⟨by rfl, ?_⟩) C0 ?_
                  rotate_left
                  · intro W' hSw
                    clear hSw
                    go_simp <;> with_reducible rfl
                  try simp only [Act.put, List.setIfInBounds_toArray, List.set_cons_zero, List.set_cons_succ]
                  refine wpAnyH_take (i := 8) (oi := { dst := some 80, op := Op.indexAddr 24 (Operand.tmp 78) (Operand.tmp 79), type := 0, pos := "ref.go:39", after := #[{ on := 6, ground := Ground.data }, { on := 7, ground := Ground.data }, { on := 5, ground := Ground.guard }], guard := some (5, false) }) (v := ?_) rfl (by kernel_rfl) (by kernel_rfl) (by kernel_rfl) (fun _ _ _ h => h) (Or.inl ⟨by rfl, ?_⟩) C0 ?_
                  rotate_left
                  · intro W' hSw
                    clear hSw
                    go_simp <;> with_reducible rfl
                  try simp only [Act.put, List.setIfInBounds_toArray, List.set_cons_zero, List.set_cons_succ]
                  refine wpAnyH_take (i := 9) (oi := { dst := some 81, op := Op.load 3 (Operand.tmp 80), type := 3, pos := "ref.go:39", after := #[{ on := 8, ground := Ground.data }, { on := 5, ground := Ground.guard }], guard := some (5, false) }) (v := ?_) rfl (by kernel_rfl) (by kernel_rfl) (by kernel_rfl) (fun _ _ _ h => h) (Or.inl ⟨by rfl, ?_⟩) C0 ?_
                  rotate_left
                  · intro W' hSw
                    have y := hSw.2
                    clear hSw
                    go_simp <;> with_reducible rfl
                  try simp only [Act.put, List.setIfInBounds_toArray, List.set_cons_zero, List.set_cons_succ]
                  refine wpAnyH_take (i := 10) (oi := { dst := some 82, op := Op.fieldAddr 23 (Operand.tmp 2) 1, type := 0, pos := "ref.go:39", after := #[{ on := 5, ground := Ground.guard }], guard := some (5, false) }) (v := ?_) rfl (by kernel_rfl) (by kernel_rfl) (by kernel_rfl) (fun _ _ _ h => h) (Or.inl ⟨by rfl, ?_⟩) C0 ?_
                  rotate_left
                  · intro W' hSw
                    clear hSw
                    go_simp <;> with_reducible rfl
                  try simp only [Act.put, List.setIfInBounds_toArray, List.set_cons_zero, List.set_cons_succ]
                  refine wpAnyH_take (i := 11) (oi := { dst := some 83, op := Op.load 3 (Operand.tmp 82), type := 3, pos := "ref.go:39", after := #[{ on := 10, ground := Ground.data }, { on := 5, ground := Ground.guard }], guard := some (5, false) }) (v := ?_) rfl (by kernel_rfl) (by kernel_rfl) (by kernel_rfl) (fun _ _ _ h => h) (Or.inl ⟨by rfl, ?_⟩) C0 ?_
                  rotate_left
                  · intro W' hSw
                    have hS9 := hSw.1
                    obtain ⟨_, y0, y1, y2, y3, y4, y5, y6⟩ := hS9
                    rw [HB0.out] at y1
                    clear hSw
                    go_simp <;> with_reducible rfl
                  try simp only [Act.put, List.setIfInBounds_toArray, List.set_cons_zero, List.set_cons_succ]
                  refine wpAnyH_take (i := 12) (oi := { dst := some 84, op := Op.binOp BinOp.geq 3 (Operand.tmp 81) (Operand.tmp 83) 3, type := 4, pos := "ref.go:39", after := #[{ on := 9, ground := Ground.data }, { on := 11, ground := Ground.data }, { on := 5, ground := Ground.guard }], guard := some (5, false) }) (v := ?_) rfl (by kernel_rfl) (by kernel_rfl) (by kernel_rfl) (fun _ _ _ h => h) (Or.inl ⟨by rfl, ?_⟩) C0 ?_
                  rotate_left
                  · intro W' hSw
                    clear hSw
                    go_simp <;> with_reducible rfl
                  try simp only [Act.put, List.setIfInBounds_toArray, List.set_cons_zero, List.set_cons_succ]
                  refine wpAnyH_take (i := 13) (oi := { dst := some 85, op := Op.pick (Operand.tmp 77) (Operand.const (Value.bool true)) (Operand.tmp 84), type := 4, pos := "ref.go:39", after := #[{ on := 5, ground := Ground.data }, { on := 12, ground := Ground.data }], guard := none }) (v := ?_) rfl (by kernel_rfl) (by kernel_rfl) (by kernel_rfl) (fun _ _ _ h => h) (Or.inl ⟨by rfl, ?_⟩) C0 ?_
                  rotate_left
                  · intro W' hSw
                    clear hSw
                    go_simp <;> with_reducible rfl
                  try simp only [Act.put, List.setIfInBounds_toArray, List.set_cons_zero, List.set_cons_succ]
                  refine wpAnyH_done (by kernel_rfl) ?_ _
                  refine NoPanic.normal ?_
                  go_wp2
                  go_ret
                  exact .inr ⟨HBad.out, rfl, HB.out.drew⟩
                · have d4 : decide ((e : Int) ≤ x) = false := decide_eq_false hbig
                  obtain ⟨m, rfl⟩ : ∃ m : Nat, x = (m : Int) := ⟨x.toNat, by omega⟩
                  have hm : m < e := by omega
                  have HG2 := Lib.hid (show ∀ x ∈ ms.take (q + 1), 0 ≤ x ∧ x < (e : Int) by
                    rw [HT.out]
                    intro x hx
                    rcases List.mem_append.1 hx with h1 | h1
                    · exact HGd.out x h1
                    · rw [List.mem_singleton.1 h1]; omega)
                  have hfit := Nat.mul_le_mul_right P (show m + 1 ≤ e from hm)
                  rw [Nat.succ_mul, ← HRB.out] at hfit
                  obtain ⟨mP, hmP⟩ : ∃ mP, mP = m * P := ⟨_, rfl⟩
                  have hmPl : mP < xa.length := by have := HL.out; omega
                  obtain ⟨x4, hx4⟩ : ∃ x4, xa[mP]? = some x4 := ⟨_, List.getElem?_eq_getElem hmPl⟩
                  have hwm : IntKind.i64.wrap ((m : Int) * (P : Int)) = (mP : Int) := by
                    have e9 : (m : Int) * (P : Int) = (mP : Int) := by rw [hmP]; push_cast; rfl
                    rw [e9]
                    exact IntWalk.i64_in _ (by omega)
                  have hws : IntKind.i64.wrap ((N : Int) - 1) = ((N - 1 : Nat) : Int) := by rw [IntWalk.i64_in _ (by omega)]; omega
                  have k0 : (0 : Int) ≤ (mP : Int) := by omega
                  have k1 : (mP : Int) < (xa.length : Int) := by omega
                  have k2 : N - 1 < N := by omega
                  have XM := Lib.hid hx4
                  have HMP := Lib.hid hmP
                  have hcl := HNr.out.a.2
                  have C4 : Hid (wm.cell? ⟨a, mP, none⟩ = some (.slice (some ⟨x4.1, 0, none⟩) N x4.2)) := Lib.hid (by
                    obtain ⟨a', ea, _, _, hca⟩ := Cells.own HNr.out.a (by omega)
                    injection ea with ea
                    injection ea with ea
                    subst ea
                    exact hca.cell (by unfold rowsA; rw [List.getElem?_map, hx4]; rfl))
                  obtain ⟨hx5, hx6, cur4, hx7⟩ := HNr.out.x mP x4 hx4
                  have R4 := Lib.hid hx6
                  have K4 := Lib.hid hx7
                  have hne1 : w.heap.size + 1 ≠ x4.1 := by omega
                  have hne2 : w.heap.size ≠ x4.1 := by omega
                  have hne3 : b9 ≠ x4.1 := by omega
                  have hne4 : a ≠ x4.1 := fun e9 => own_ne HNr.out.a hx7 (by decide) a rfl e9
                  clear hx4 hmP hx6 hx7 hcl hfit hbig hneg
                  go_wp2
                  refine wp_region_noPanic ?_
                  refine wp_region_held_drew (S := fun w' => GBox w' w.heap.size g ∧ w'.cell? ⟨b9, o9 + q, none⟩ = some (.int .i64 (m : Int))) (by kernel_rfl) ⟨HG.out.below ((Below.refl _ _).drew), X3.out⟩ (fun C0 => ?_)
                  refine wpAnyH_take (i := 0) (oi := { dst := some 72, op := Op.move (Operand.tmp 1), type := 24, pos := "ref.go:39", after := #[], guard := none }) (v := ?_) rfl (by kernel_rfl) (by kernel_rfl) (by kernel_rfl) (fun _ _ _ h => h) (Or.inl ⟨by rfl, ?_⟩) C0 ?_
                  rotate_left
                  · intro W' hSw
                    clear hSw
                    go_simp <;> with_reducible rfl
                  try simp only [Act.put, List.setIfInBounds_toArray, List.set_cons_zero, List.set_cons_succ]
                  refine wpAnyH_take (i := 1) (oi := { dst := some 73, op := Op.move (Operand.tmp 8), type := 3, pos := "ref.go:39", after := #[], guard := none }) (v := ?_) rfl (by kernel_rfl) (by kernel_rfl) (by kernel_rfl) (fun _ _ _ h => h) (Or.inl ⟨by rfl, ?_⟩) C0 ?_
                  rotate_left
                  · intro W' hSw
                    clear hSw
                    go_simp <;> with_reducible rfl
                  try simp only [Act.put, List.setIfInBounds_toArray, List.set_cons_zero, List.set_cons_succ]
                  refine wpAnyH_take (i := 2) (oi := { dst := some 74, op := Op.indexAddr 24 (Operand.tmp 72) (Operand.tmp 73), type := 0, pos := "ref.go:39", after := #[{ on := 0, ground := Ground.data }, { on := 1, ground := Ground.data }], guard := none }) (v := ?_) rfl (by kernel_rfl) (by kernel_rfl) (by kernel_rfl) (fun _ _ _ h => h) (Or.inl ⟨by rfl, ?_⟩) C0 ?_
                  rotate_left
                  · intro W' hSw
                    clear hSw
                    go_simp <;> with_reducible rfl
                  try simp only [Act.put, List.setIfInBounds_toArray, List.set_cons_zero, List.set_cons_succ]
                  refine wpAnyH_take (i := 3) (oi := { dst := some 75, op := Op.load 3 (Operand.tmp 74), type := 3, pos := "ref.go:39", after := #[{ on := 2, ground := Ground.data }], guard := none }) (v := ?_) rfl (by kernel_rfl) (by kernel_rfl) (by kernel_rfl) (fun _ _ _ h => h) (Or.inl ⟨by rfl, ?_⟩) C0 ?_
                  rotate_left
                  · intro W' hSw
                    have y := hSw.2
                    clear hSw
                    go_simp <;> with_reducible rfl
                  try simp only [Act.put, List.setIfInBounds_toArray, List.set_cons_zero, List.set_cons_succ]
                  refine wpAnyH_take (i := 4) (oi := { dst := some 76, op := Op.binOp BinOp.lss 3 (Operand.tmp 75) (Operand.const (Value.int IntKind.i64 0)) 3, type := 4, pos := "ref.go:39", after := #[{ on := 3, ground := Ground.data }], guard := none }) (v := ?_) rfl (by kernel_rfl) (by kernel_rfl) (by kernel_rfl) (fun _ _ _ h => h) (Or.inl ⟨by rfl, ?_⟩) C0 ?_
                  rotate_left
                  · intro W' hSw
                    clear hSw
                    go_simp <;> with_reducible rfl
                  try simp only [Act.put, List.setIfInBounds_toArray, List.set_cons_zero, List.set_cons_succ]
                  refine wpAnyH_take (i := 5) (oi := { dst := some 77, op := Op.move (Operand.tmp 76), type := 4, pos := "ref.go:39", after := #[{ on := 4, ground := Ground.data }], guard := none }) (v := ?_) rfl (by kernel_rfl) (by kernel_rfl) (by kernel_rfl) (fun _ _ _ h => h) (Or.inl ⟨by rfl, ?_⟩) C0 ?_
                  rotate_left
                  · intro W' hSw
                    clear hSw
                    go_simp <;> with_reducible rfl
                  try simp only [Act.put, List.setIfInBounds_toArray, List.set_cons_zero, List.set_cons_succ]
                  refine wpAnyH_take (i := 6) (oi := { dst := some 78, op := Op.move (Operand.tmp 1), type := 24, pos := "ref.go:39", after := #[{ on := 5, ground := Ground.guard }], guard := some (5, false) }) (v := ?_) rfl (by kernel_rfl) (by kernel_rfl) (by kernel_rfl) (fun _ _ _ h => h) (Or.inl ⟨by rfl, ?_⟩) C0 ?_
                  rotate_left
                  · intro W' hSw
                    clear hSw
                    go_simp <;> with_reducible rfl
                  try simp only [Act.put, List.setIfInBounds_toArray, List.set_cons_zero, List.set_cons_succ]
                  refine wpAnyH_take (i := 7) (oi := { dst := some 79, op := Op.move (Operand.tmp 8), type := 3, pos := "ref.go:39", after := #[{ on := 5, ground := Ground.guard }], guard := some (5, false) }) (v := ?_) rfl (by kernel_rfl) (by kernel_rfl) (by kernel_rfl) (fun _ _ _ h => h) (Or.inl ⟨by rfl, ?_⟩) C0 ?_
                  rotate_left
                  · intro W' hSw
                    clear hSw
                    go_simp <;> with_reducible rfl
                  try simp only [Act.put, List.setIfInBounds_toArray, List.set_cons_zero, List.set_cons_succ]
                  refine wpAnyH_take (i := 8) (oi := { dst := some 80, op := Op.indexAddr 24 (Operand.tmp 78) (Operand.tmp 79), type := 0, pos := "ref.go:39", after := #[{ on := 6, ground := Ground.data }, { on := 7, ground := Ground.data }, { on := 5, ground := Ground.guard }], guard := some (5, false) }) (v := ?_) rfl (by kernel_rfl) (by kernel_rfl) (by kernel_rfl) (fun _ _ _ h => h) (Or.inl ⟨by rfl, ?_⟩) C0 ?_
                  rotate_left
                  · intro W' hSw
                    clear hSw
                    go_simp <;> with_reducible rfl
                  try simp only [Act.put, List.setIfInBounds_toArray, List.set_cons_zero, List.set_cons_succ]
                  refine wpAnyH_take (i := 9) (oi := { dst := some 81, op := Op.load 3 (Operand.tmp 80), type := 3, pos := "ref.go:39", after := #[{ on := 8, ground := Ground.data }, { on := 5, ground := Ground.guard }], guard := some (5, false) }) (v := ?_) rfl (by kernel_rfl) (by kernel_rfl) (by kernel_rfl) (fun _ _ _ h => h) (Or.inl ⟨by rfl, ?_⟩) C0 ?_
                  rotate_left
                  · intro W' hSw
                    have y := hSw.2
                    clear hSw
                    go_simp <;> with_reducible rfl
                  try simp only [Act.put, List.setIfInBounds_toArray, List.set_cons_zero, List.set_cons_succ]
                  refine wpAnyH_take (i := 10) (oi := { dst := some 82, op := Op.fieldAddr 23 (Operand.tmp 2) 1, type := 0, pos := "ref.go:39", after := #[{ on := 5, ground := Ground.guard }], guard := some (5, false) }) (v := ?_) rfl (by kernel_rfl) (by kernel_rfl) (by kernel_rfl) (fun _ _ _ h => h) (Or.inl ⟨by rfl, ?_⟩) C0 ?_
                  rotate_left
                  · intro W' hSw
                    clear hSw
                    go_simp <;> with_reducible rfl
                  try simp only [Act.put, List.setIfInBounds_toArray, List.set_cons_zero, List.set_cons_succ]
                  refine wpAnyH_take (i := 11) (oi := { dst := some 83, op := Op.load 3 (Operand.tmp 82), type := 3, pos := "ref.go:39", after := #[{ on := 10, ground := Ground.data }, { on := 5, ground := Ground.guard }], guard := some (5, false) }) (v := ?_) rfl (by kernel_rfl) (by kernel_rfl) (by kernel_rfl) (fun _ _ _ h => h) (Or.inl ⟨by rfl, ?_⟩) C0 ?_
                  rotate_left
                  · intro W' hSw
                    have hS9 := hSw.1
                    obtain ⟨_, y0, y1, y2, y3, y4, y5, y6⟩ := hS9
                    rw [HB0.out] at y1
                    clear hSw
                    go_simp <;> with_reducible rfl
                  try simp only [Act.put, List.setIfInBounds_toArray, List.set_cons_zero, List.set_cons_succ]
                  refine wpAnyH_take (i := 12) (oi := { dst := some 84, op := Op.binOp BinOp.geq 3 (Operand.tmp 81) (Operand.tmp 83) 3, type := 4, pos := "ref.go:39", after := #[{ on := 9, ground := Ground.data }, { on := 11, ground := Ground.data }, { on := 5, ground := Ground.guard }], guard := some (5, false) }) (v := ?_) rfl (by kernel_rfl) (by kernel_rfl) (by kernel_rfl) (fun _ _ _ h => h) (Or.inl ⟨by rfl, ?_⟩) C0 ?_
                  rotate_left
                  · intro W' hSw
                    clear hSw
                    go_simp <;> with_reducible rfl
                  try simp only [Act.put, List.setIfInBounds_toArray, List.set_cons_zero, List.set_cons_succ]
                  refine wpAnyH_take (i := 13) (oi := { dst := some 85, op := Op.pick (Operand.tmp 77) (Operand.const (Value.bool true)) (Operand.tmp 84), type := 4, pos := "ref.go:39", after := #[{ on := 5, ground := Ground.data }, { on := 12, ground := Ground.data }], guard := none }) (v := ?_) rfl (by kernel_rfl) (by kernel_rfl) (by kernel_rfl) (fun _ _ _ h => h) (Or.inl ⟨by rfl, ?_⟩) C0 ?_
                  rotate_left
                  · intro W' hSw
                    clear hSw
                    go_simp <;> with_reducible rfl
                  try simp only [Act.put, List.setIfInBounds_toArray, List.set_cons_zero, List.set_cons_succ]
                  refine wpAnyH_done (by kernel_rfl) ?_ _
                  refine NoPanic.normal ?_
                  have HNr2 := Lib.hid (HNr.out.below ((Below.refl _ _).drew))
                  have HGd2 := Lib.hid (HG.out.below ((Below.refl _ _).drew))
                  have HB2 := Lib.hid HB.out.drew
                  have X32 : Hid (wm.drew.cell? ⟨b9, o9 + q, none⟩ = some (.int .i64 (m : Int))) := X3.out
                  have C42 : Hid (wm.drew.cell? ⟨a, mP, none⟩ = some (.slice (some ⟨x4.1, 0, none⟩) N x4.2)) := C4.out
                  have K42 : Hid (CRow wm.drew x4.1 5 cur4) := K4.out
                  have R42 := Lib.hid (R4.out.below ((Below.refl _ _).drew))
                  generalize wm.drew = wd at *
                  clear HNr HG HB X3 C4 K4 R4
                  go_wp2
                  refine wp_region_noPanic ?_
                  refine wp_region_held_drew (S := fun w' => GBox w' w.heap.size g ∧ w'.cell? ⟨b9, o9 + q, none⟩ = some (.int .i64 (m : Int)) ∧ CRow w' (w.heap.size + 1) 69 (refRow g (.slice (some ⟨a, 0, none⟩) xa.length ca) vb vc vd) ∧ w'.cell? ⟨a, mP, none⟩ = some (.slice (some ⟨x4.1, 0, none⟩) N x4.2)) (by kernel_rfl) ⟨HGd2.out.below ((Below.refl _ _).drew), X32.out, HNr2.out.blk.drew, C42.out⟩ (fun C0 => ?_)
                  refine wpAnyH_take (i := 0) (oi := { dst := some 86, op := Op.move (Operand.tmp 5), type := 32, pos := "ref.go:42", after := #[], guard := none }) (v := ?_) rfl (by kernel_rfl) (by kernel_rfl) (by kernel_rfl) (fun _ _ _ h => h) (Or.inl ⟨by rfl, ?_⟩) C0 ?_
                  rotate_left
                  · intro W' hSw
                    clear hSw
                    go_simp <;> with_reducible rfl
                  try simp only [Act.put, List.setIfInBounds_toArray, List.set_cons_zero, List.set_cons_succ]
                  refine wpAnyH_take (i := 1) (oi := { dst := some 87, op := Op.nilCheck (Operand.tmp 86), type := 0, pos := "ref.go:42", after := #[{ on := 0, ground := Ground.data }], guard := none }) (v := ?_) rfl (by kernel_rfl) (by kernel_rfl) (by kernel_rfl) (fun _ _ _ h => h) (Or.inl ⟨by rfl, ?_⟩) C0 ?_
                  rotate_left
                  · intro W' hSw
                    clear hSw
                    go_simp <;> with_reducible rfl
                  try simp only [Act.put, List.setIfInBounds_toArray, List.set_cons_zero, List.set_cons_succ]
                  refine wpAnyH_take (i := 2) (oi := { dst := some 88, op := Op.fieldAddr 69 (Operand.tmp 87) 1, type := 0, pos := "ref.go:42", after := #[{ on := 1, ground := Ground.data }], guard := none }) (v := ?_) rfl (by kernel_rfl) (by kernel_rfl) (by kernel_rfl) (fun _ _ _ h => h) (Or.inl ⟨by rfl, ?_⟩) C0 ?_
                  rotate_left
                  · intro W' hSw
                    clear hSw
                    go_simp <;> with_reducible rfl
                  try simp only [Act.put, List.setIfInBounds_toArray, List.set_cons_zero, List.set_cons_succ]
                  refine wpAnyH_take (i := 3) (oi := { dst := some 89, op := Op.load 43 (Operand.tmp 88), type := 43, pos := "ref.go:42", after := #[{ on := 2, ground := Ground.data }], guard := none }) (v := ?_) rfl (by kernel_rfl) (by kernel_rfl) (by kernel_rfl) (fun _ _ _ h => h) (Or.inl ⟨by rfl, ?_⟩) C0 ?_
                  rotate_left
                  · intro W' hSw
                    have y := (refRow.c7 hSw.2.2.1)
                    clear hSw
                    go_simp <;> with_reducible rfl
                  try simp only [Act.put, List.setIfInBounds_toArray, List.set_cons_zero, List.set_cons_succ]
                  refine wpAnyH_take (i := 4) (oi := { dst := some 90, op := Op.move (Operand.tmp 1), type := 24, pos := "ref.go:42", after := #[], guard := none }) (v := ?_) rfl (by kernel_rfl) (by kernel_rfl) (by kernel_rfl) (fun _ _ _ h => h) (Or.inl ⟨by rfl, ?_⟩) C0 ?_
                  rotate_left
                  · intro W' hSw
                    clear hSw
                    go_simp <;> with_reducible rfl
                  try simp only [Act.put, List.setIfInBounds_toArray, List.set_cons_zero, List.set_cons_succ]
                  refine wpAnyH_take (i := 5) (oi := { dst := some 91, op := Op.move (Operand.tmp 8), type := 3, pos := "ref.go:42", after := #[], guard := none }) (v := ?_) rfl (by kernel_rfl) (by kernel_rfl) (by kernel_rfl) (fun _ _ _ h => h) (Or.inl ⟨by rfl, ?_⟩) C0 ?_
                  rotate_left
                  · intro W' hSw
                    clear hSw
                    go_simp <;> with_reducible rfl
                  try simp only [Act.put, List.setIfInBounds_toArray, List.set_cons_zero, List.set_cons_succ]
                  refine wpAnyH_take (i := 6) (oi := { dst := some 92, op := Op.indexAddr 24 (Operand.tmp 90) (Operand.tmp 91), type := 0, pos := "ref.go:42", after := #[{ on := 4, ground := Ground.data }, { on := 5, ground := Ground.data }], guard := none }) (v := ?_) rfl (by kernel_rfl) (by kernel_rfl) (by kernel_rfl) (fun _ _ _ h => h) (Or.inl ⟨by rfl, ?_⟩) C0 ?_
                  rotate_left
                  · intro W' hSw
                    clear hSw
                    go_simp <;> with_reducible rfl
                  try simp only [Act.put, List.setIfInBounds_toArray, List.set_cons_zero, List.set_cons_succ]
                  refine wpAnyH_take (i := 7) (oi := { dst := some 93, op := Op.load 3 (Operand.tmp 92), type := 3, pos := "ref.go:42", after := #[{ on := 6, ground := Ground.data }], guard := none }) (v := ?_) rfl (by kernel_rfl) (by kernel_rfl) (by kernel_rfl) (fun _ _ _ h => h) (Or.inl ⟨by rfl, ?_⟩) C0 ?_
                  rotate_left
                  · intro W' hSw
                    have y := hSw.2.1
                    clear hSw
                    go_simp <;> with_reducible rfl
                  try simp only [Act.put, List.setIfInBounds_toArray, List.set_cons_zero, List.set_cons_succ]
                  refine wpAnyH_take (i := 8) (oi := { dst := some 94, op := Op.fieldAddr 23 (Operand.tmp 2) 2, type := 0, pos := "ref.go:42", after := #[], guard := none }) (v := ?_) rfl (by kernel_rfl) (by kernel_rfl) (by kernel_rfl) (fun _ _ _ h => h) (Or.inl ⟨by rfl, ?_⟩) C0 ?_
                  rotate_left
                  · intro W' hSw
                    clear hSw
                    go_simp <;> with_reducible rfl
                  try simp only [Act.put, List.setIfInBounds_toArray, List.set_cons_zero, List.set_cons_succ]
                  refine wpAnyH_take (i := 9) (oi := { dst := some 95, op := Op.load 3 (Operand.tmp 94), type := 3, pos := "ref.go:42", after := #[{ on := 8, ground := Ground.data }], guard := none }) (v := ?_) rfl (by kernel_rfl) (by kernel_rfl) (by kernel_rfl) (fun _ _ _ h => h) (Or.inl ⟨by rfl, ?_⟩) C0 ?_
                  rotate_left
                  · intro W' hSw
                    have hS9 := hSw.1
                    obtain ⟨_, y0, y1, y2, y3, y4, y5, y6⟩ := hS9
                    rw [HP0.out] at y2
                    clear hSw
                    go_simp <;> with_reducible rfl
                  try simp only [Act.put, List.setIfInBounds_toArray, List.set_cons_zero, List.set_cons_succ]
                  refine wpAnyH_take (i := 10) (oi := { dst := some 96, op := Op.binOp BinOp.mul 3 (Operand.tmp 93) (Operand.tmp 95) 3, type := 3, pos := "ref.go:42", after := #[{ on := 7, ground := Ground.data }, { on := 9, ground := Ground.data }], guard := none }) (v := ?_) rfl (by kernel_rfl) (by kernel_rfl) (by kernel_rfl) (fun _ _ _ h => h) (Or.inl ⟨by rfl, ?_⟩) C0 ?_
                  rotate_left
                  · intro W' hSw
                    clear hSw
                    go_simp <;> with_reducible rfl
                  try simp only [Act.put, List.setIfInBounds_toArray, List.set_cons_zero, List.set_cons_succ]
                  refine wpAnyH_take (i := 11) (oi := { dst := some 97, op := Op.indexAddr 43 (Operand.tmp 89) (Operand.tmp 96), type := 0, pos := "ref.go:42", after := #[{ on := 3, ground := Ground.data }, { on := 10, ground := Ground.data }], guard := none }) (v := ?_) rfl (by kernel_rfl) (by kernel_rfl) (by kernel_rfl) (fun _ _ _ h => h) (Or.inl ⟨by rfl, ?_⟩) C0 ?_
                  rotate_left
                  · intro W' hSw
                    clear hSw
                    go_simp <;> with_reducible rfl
                  try simp only [Act.put, List.setIfInBounds_toArray, List.set_cons_zero, List.set_cons_succ]
                  refine wpAnyH_take (i := 12) (oi := { dst := some 98, op := Op.load 35 (Operand.tmp 97), type := 35, pos := "ref.go:42", after := #[{ on := 11, ground := Ground.data }], guard := none }) (v := ?_) rfl (by kernel_rfl) (by kernel_rfl) (by kernel_rfl) (fun _ _ _ h => h) (Or.inl ⟨by rfl, ?_⟩) C0 ?_
                  rotate_left
                  · intro W' hSw
                    have y := hSw.2.2.2
                    clear hSw
                    go_simp <;> with_reducible rfl
                  try simp only [Act.put, List.setIfInBounds_toArray, List.set_cons_zero, List.set_cons_succ]
                  refine wpAnyH_take (i := 13) (oi := { dst := some 99, op := Op.load 23 (Operand.tmp 2), type := 23, pos := "ref.go:42", after := #[], guard := none }) (v := ?_) rfl (by kernel_rfl) (by kernel_rfl) (by kernel_rfl) (fun _ _ _ h => h) (Or.inl ⟨by rfl, ?_⟩) C0 ?_
                  rotate_left
                  · intro W' hSw
                    have hS9 := hSw.1
                    obtain ⟨_, y0, y1, y2, y3, y4, y5, y6⟩ := hS9
                    clear hSw
                    go_simp <;> with_reducible rfl
                  try simp only [Act.put, List.setIfInBounds_toArray, List.set_cons_zero, List.set_cons_succ]
                  refine wpAnyH_ready (rs := [14]) (by kernel_rfl) (by simp) ?_
                  refine AllReadyH.cons (o := { dst := some 100, op := Op.call { callee := Callee.value (Operand.func 24), args := #[Operand.tmp 99], argTypes := #[23] }, type := 3, pos := "ref.go:42", after := #[{ on := 13, ground := Ground.data }], guard := none }) rfl (fun K hK => ?_) AllReadyH.nil
                  go_simp
                  have HRaw := RefRaw_any g wd.drew HOK.out
                  rw [HN0.out] at HRaw
                  refine HRaw.mono ?_
                  rintro _ w9 ⟨rfl, h9⟩
                  have N9 := Lib.hid ((HNr2.out.below ((Below.refl _ _).drew)).below h9)
                  have G9 := Lib.hid ((HGd2.out.below ((Below.refl _ _).drew)).below h9)
                  have B9 := Lib.hid (below_step HB2.out.drew h9)
                  have X9 : Hid (w9.cell? ⟨b9, o9 + q, none⟩ = some (.int .i64 (m : Int))) := Lib.hid ((h9.cell (World.block_lt_of_cell? _ _ X32.out)).trans X32.out)
                  have C9 : Hid (w9.cell? ⟨a, mP, none⟩ = some (.slice (some ⟨x4.1, 0, none⟩) N x4.2)) := Lib.hid ((h9.cell (World.block_lt_of_cell? _ _ C42.out)).trans C42.out)
                  have K9 := Lib.hid ((K42.out.drew).below h9)
                  have R9 := Lib.hid ((R42.out.below ((Below.refl _ _).drew)).below h9)
                  clear h9 HRaw
                  go_wp2_with fail
                  refine hK.out _ _ ⟨G9.out, X9.out, N9.out.blk, C9.out⟩ (fun C1 => ?_)
                  clear hK K
                  try simp only [Act.put, List.setIfInBounds_toArray, List.set_cons_zero, List.set_cons_succ]
                  refine wpAnyH_take (i := 15) (oi := { dst := some 101, op := Op.binOp BinOp.sub 3 (Operand.tmp 100) (Operand.const (Value.int IntKind.i64 1)) 3, type := 3, pos := "ref.go:42", after := #[{ on := 14, ground := Ground.data }], guard := none }) (v := ?_) rfl (by kernel_rfl) (by kernel_rfl) (by kernel_rfl) (fun _ _ _ h => h) (Or.inl ⟨by rfl, ?_⟩) C1 ?_
                  rotate_left
                  · intro W' hSw
                    clear hSw
                    go_simp <;> with_reducible rfl
                  try simp only [Act.put, List.setIfInBounds_toArray, List.set_cons_zero, List.set_cons_succ]
                  refine wpAnyH_take (i := 16) (oi := { dst := some 102, op := Op.indexAddr 35 (Operand.tmp 98) (Operand.tmp 101), type := 0, pos := "ref.go:42", after := #[{ on := 12, ground := Ground.data }, { on := 15, ground := Ground.data }, { on := 0, ground := Ground.phase }, { on := 1, ground := Ground.phase }, { on := 2, ground := Ground.phase }, { on := 3, ground := Ground.phase }, { on := 4, ground := Ground.phase }, { on := 5, ground := Ground.phase }, { on := 6, ground := Ground.phase }, { on := 7, ground := Ground.phase }, { on := 8, ground := Ground.phase }, { on := 9, ground := Ground.phase }, { on := 10, ground := Ground.phase }, { on := 11, ground := Ground.phase }, { on := 12, ground := Ground.phase }, { on := 13, ground := Ground.phase }, { on := 14, ground := Ground.phase }, { on := 15, ground := Ground.phase }], guard := none }) (v := ?_) rfl (by kernel_rfl) (by kernel_rfl) (by kernel_rfl) (fun _ _ _ h => h) (Or.inl ⟨by rfl, ?_⟩) C1 ?_
                  rotate_left
                  · intro W' hSw
                    clear hSw
                    go_simp <;> with_reducible rfl
                  try simp only [Act.put, List.setIfInBounds_toArray, List.set_cons_zero, List.set_cons_succ]
                  refine wpAnyH_ready (rs := [17]) (by kernel_rfl) (by simp) ?_
                  refine AllReadyH.cons (o := { dst := none, op := Op.store 5 (Operand.tmp 102) (Operand.const (Value.int IntKind.u8 0)), type := 0, pos := "ref.go:42", after := #[{ on := 16, ground := Ground.data }, { on := 14, ground := Ground.chain }, { on := 0, ground := Ground.phase }, { on := 1, ground := Ground.phase }, { on := 2, ground := Ground.phase }, { on := 3, ground := Ground.phase }, { on := 4, ground := Ground.phase }, { on := 5, ground := Ground.phase }, { on := 6, ground := Ground.phase }, { on := 7, ground := Ground.phase }, { on := 8, ground := Ground.phase }, { on := 9, ground := Ground.phase }, { on := 10, ground := Ground.phase }, { on := 11, ground := Ground.phase }, { on := 12, ground := Ground.phase }, { on := 13, ground := Ground.phase }, { on := 14, ground := Ground.phase }, { on := 15, ground := Ground.phase }], guard := none }) rfl (fun K hK => ?_) AllReadyH.nil
                  obtain ⟨v9, hv9⟩ : ∃ v, w9.cell? ⟨x4.1, N - 1, none⟩ = some v := by
                    obtain ⟨b2, off2, z, e2, _, _, _, hcx⟩ := R9.out.at_ (k := N - 1) k2
                    injection e2 with e2
                    injection e2 with e3 e4
                    subst e4
                    rw [e3]
                    rw [Nat.zero_add] at hcx
                    exact ⟨_, hcx⟩
                  have f9 := K9.out.frozen (N - 1)
                  go_simp
                  have hB9 : Btw (fun k => k = x4.1) w9 (w9.setCell ⟨x4.1, N - 1, none⟩ (.int .u8 0)) := (Btw.refl w9).setCell (p := ⟨x4.1, N - 1, none⟩) rfl
                  refine hK.out _ _ ⟨G9.out.btw_ hB9 hne2, (cell_btw hB9 hne3 X9.out), N9.out.blk.btw hB9 hne1, (cell_btw hB9 hne4 C9.out)⟩ (fun C2 => ?_)
                  clear hv9 f9 hB9
                  clear hK K
                  try simp only [Act.put]
                  refine wpAnyH_done (by kernel_rfl) ?_ _
                  refine NoPanic.normal ?_
                  have HN9 := Lib.hid (show RNw (w9.setCell ⟨x4.1, N - 1, none⟩ (.int .u8 0)) (w.heap.size + 1) (w.heap.size + 2) bd N g xa (rawM N P (ms.take (q + 1))) (.slice (some ⟨a, 0, none⟩) xa.length ca) vb vc vd f f e by
                    rw [HT.out, rawM_snoc, ← HMP.out]
                    exact N9.out.put XM.out (N - 1) 0 (by omega))
                  have HG9 := Lib.hid (G9.out.btw_ ((Btw.refl w9).setCell (I := fun k => k = x4.1) (p := ⟨x4.1, N - 1, none⟩) (v := .int .u8 0) rfl) hne2)
                  have HB9 := Lib.hid (B9.out.trans (((Btw.refl w9).setCell (I := fun k => k = x4.1) (p := ⟨x4.1, N - 1, none⟩) (v := .int .u8 0) rfl).below (S := w.heap.size) (fun k e => by subst e; omega) B9.out.size))
                  go_wp2
                  go_roundw
                  case rel => first | exact ⟨q + 1, by omega, by go_num, HG2, HN9, HG9, HB9⟩ | exact ⟨q + 1, by omega, by go_num, HG2, HN9⟩
                  case measure => simp [intOf]; omega
            · obtain rfl : q = n := by omega
              have d5 : decide ((q : Int) < (q : Int)) = false := decide_eq_false (by omega)
              have e9 := AM.out.len
              have HF := HNr.out
              have hgood := HGd.out
              rw [List.take_of_length_le (by omega)] at HF hgood
              obtain ⟨k, hkp, hW, h5, h6, h7, h8⟩ := HF.made (newR N f P ms) (newR_len _ _ _ _) HL.out HOK.out HLOW.out HNN.out.symm HRR.out.symm HBB.out.symm (by omega) (by omega) X (fun j hj => by have := hXX.out j hj; omega) (fun j hj => by have := hXX.out j hj; have := HB.out.size; omega) (fun i y hy => newR_raw hy)
              have HW := Lib.hid hW
              clear HF hW
              go_wp2
              go_ret
              exact .inl ⟨hgood, k, by rw [hkp]; rfl, by rw [hkp]; exact HW.out, HB.out, by omega, by omega, by omega, by omega, by omega⟩
end Go.Proofs.Ytlmdhlogmfdokaa
