/-
  Contract of the teller's Torn, over the landed code.
-/
import Derived.Test.YtodljocbimgeoaaChC
import Derived.Test.YtodljocbimgeoaaSlice
import Derived.Laws.CopyRow
namespace Go.Proofs.Ytodljocbimgeoaa
open Go.RowKit
set_option maxRecDepth 100000

theorem size_u8 : (Try.prog.info? 5).map (·.size) = some 1 := by kernel_rfl
theorem cells_u8 : Try.prog.cellsOf 5 = 1 := by kernel_rfl
/-- copy into a row that is known, at the operation. -/
theorem wp_copyR {P : Program} (w : World) {o : Oper} {a : Act} {K : Act → World → Prop} {Q : Exit → Act → World → Prop} (d s : Operand) (dT sT : TypeId)
    (ho : o.op = .call { callee := .builtin .copy, args := #[d, s], argTypes := #[dT, sT] }) (elem : TypeId) (hu : P.underlying dT = some (.slice elem)) (hsz : (P.info? elem).map (·.size) = some 1)
    (g off dLen dCap : Nat) (ad : Addr) (sLen sCap : Nat) (hd : a.eval d = .slice (some ⟨g, off, none⟩) dLen dCap) (hs : a.eval s = .slice (some ad) sLen sCap)
    (cur : List Value) (t : TypeId) (hg : CRow w g t cur.toArray) (cs : List Value) (hn : cs.length = Nat.min sLen dLen)
    (hsrc : ∀ j v, cs[j]? = some v → w.cell? (ad.add j) = some v) (hfit : off + cs.length ≤ cur.length) (h1 : ∀ v ∈ cs, v.oneCell' = true)
    (h : ∀ w', w' = w.setRow g (cur.take off ++ cs ++ cur.drop (off + cs.length)).toArray → K (a.put o.dst (.int .i64 (cs.length : Int))) w') : o.wp P a w K Q := by
  have hrun := run_copy_row (P := P) w dT sT o.type elem g off dLen dCap ad sLen sCap cur.toArray t cs hu hsz hg hn hsrc (by simpa using hfit) h1
  unfold Oper.wp
  simp [execOp, ho, resolve, invoke, builtin, hd, hs, hrun, Result.andThen]
  exact h _ (by simp)

theorem ret_slice {A : Option Addr} {n m c : Nat} (h : n = m) : Ending.returned (.slice A n c) = .returned (.slice A m c) := by rw [h]
theorem r8_row {w : World} {g : Nat} {u : TypeId} {l : List Nat} {n : Nat} (h : CRow w g u (U8 l).toArray) (hs : ∀ x ∈ l, x < 256) (hl : l.length = n) : R8 w (some ⟨g, 0, none⟩) n l := by
  refine ⟨⟨by rw [U8_length, hl], fun _ => ⟨g, 0, rfl, h.lt, fun j _ => ?_⟩⟩, hs⟩
  rw [h.cell]
  simp

set_option maxHeartbeats 4000000 in
theorem Torn_any (p lo hi : Nat) (s : Sc) (bz wk : Int) (N : Nat) (w : World) (h : Tel w p lo hi s bz wk) (hf : s.short) (ht : ∀ x ∈ s.torn, x < 256) (hN : N ≤ 65536) :
    Calls Try.prog 10 #[.pointer (some ⟨p, 0, none⟩), .int .i64 (N : Int)] w (MakesB (tornL s.torn N N) w) := by
  have HF := Lib.hid hf.torn
  have HT := Lib.hid ht
  obtain ⟨A1, c1, A2, c2, b, A3, c3, base, m, hc, o1, o2, o3, hg⟩ := h.use
  have HC := Lib.hid hc
  have HO := Lib.hid o3
  clear h hf ht hc o1 o2 o3 hg
  obtain ⟨ti, hti, hz0, hz1, hz2⟩ := info_parts info_u8
  go_enter Try.func10, Try.ntmps10
  go_wp2_with fail
  refine (made_any p b _ _ _ _ _ _ HC.out).mono ?_
  rintro _ w1 ⟨rfl, h1⟩
  have B1 := Lib.hid h1
  have C1 := Lib.hid (HC.out.below h1)
  have O1 := Lib.hid (own_below HO.out h1)
  clear h1 HC HO
  go_wp2_with fail
  refine (within_yes (N : Int) 0 65536 _ (by omega) (by omega)).mono ?_
  rintro _ w2 ⟨rfl, hw2⟩
  obtain rfl : w1 = w2 := hw2
  rename World => w2
  have hmk := run_make (P := Try.prog) w2 24 5 ti (.int .u8 0) Try.underlying24 hti hz0 .i64 .i64 (N : Int) (N : Int) (by omega) (Int.le_refl _) (by rw [hz2]; omega) (by omega)
  rw [hz1, Int.toNat_natCast, Nat.mul_one, show (Value.int .u8 0).cells = #[.int .u8 0] from rfl] at hmk
  obtain ⟨X, hX⟩ : ∃ X, X = madeCells #[Value.int .u8 0] N := ⟨_, rfl⟩
  rw [← hX] at hmk
  have hX2 : X = (U8 (tornL s.torn N 0)).toArray := by
    rw [tornL_zero, hX]
    apply Array.ext'
    rw [toList_madeCells_one]
    simp [U8]
  clear hX
  subst hX2
  have G3 := Lib.hid (CRow.new w2 (U8 (tornL s.torn N 0)).toArray 5)
  have E3 := Lib.hid (below_new w2 (.cells (U8 (tornL s.torn N 0)).toArray 5))
  have HGL := Lib.hid (show ∀ g, (Value.slice A3 s.torn.length c3).ownBlock = some g → g < w2.heap.size from fun g hg => (O1.out.lt g hg).2)
  have C3 := Lib.hid (C1.out.below E3.out)
  have O3 := Lib.hid (own_below O1.out E3.out)
  have B3 := Lib.hid (below_step B1.out E3.out)
  have x3 := C3.out.cell_at 3 _ rfl
  have hlt1 : (s.torn.length : Int) ≤ 4096 := by have := HF.out; omega
  have hpl := C1.out.lt
  have HPL := Lib.hid hpl
  have HLO := Lib.hid B1.out.size
  generalize hW : w2.alloc (.cells (U8 (tornL s.torn N 0)).toArray 5) = w3 at *
  clear hW C1 O1 B1 E3 hpl
  by_cases h0 : s.torn.length = 0
  · have hi0 : (s.torn.length : Int) = 0 := by omega
    have hl := tornL_zero s.torn N
    have he : tornL s.torn N 0 = tornL s.torn N N := by
      unfold tornL
      refine List.map_congr_left fun i hi => ?_
      have : s.torn = [] := List.eq_nil_of_length_eq_zero h0
      rw [this]
      simp
    have R3 := Lib.hid (show R8 w3 (some ⟨w2.heap.size, 0, none⟩) N (tornL s.torn N N) from he ▸ r8_row G3.out (tornL_small _ _ _ HT.out) (tornL_len _ _ _))
    clear C3 O3 G3 hl he
    go_wp2
    go_ret
    exact ⟨some ⟨w2.heap.size, 0, none⟩, N, ret_slice (tornL_len _ _ _).symm, by rw [tornL_len]; exact R3.out, B3.out⟩
  · have hi0 : ((s.torn.length : Int) == 0) = false := by rw [beq_eq_false_iff_ne]; omega
    obtain ⟨g3, rfl, hlo3, hg3, _⟩ := own_at O3.out (Nat.pos_of_ne_zero h0)
    go_wp2
    go_loopw [6] (fun i wr => ∃ f : Nat, f ≤ N ∧ i = .int .i64 (f : Int) ∧ Hid (f % s.torn.length = 0 ∨ f = N) ∧ Hid (CRow wr w2.heap.size 5 (U8 (tornL s.torn N f)).toArray) ∧ Hid (Below w2.heap.size w3 wr)) (fun i _ => N - (intOf i).toNat)
    case atStart => exact ⟨0, Nat.zero_le _, rfl, .inl (Nat.zero_mod _), G3.out, Below.refl _ _⟩
    case round =>
      obtain ⟨f, hf, rfl, HD, CG, HB⟩ := hrel
      rename World => wr
      by_cases hlt : f < N
      · obtain ⟨m0, hm0⟩ : ∃ m0, m0 = min s.torn.length (N - f) := ⟨_, rfl⟩
        have hm1 : 1 ≤ m0 := by have := Nat.pos_of_ne_zero h0; omega
        have hm2 : f + m0 ≤ N := by omega
        have hm3 : (f : Int) + (m0 : Int) ≤ 65536 := by omega
        have hwr : IntKind.i64.wrap ((f : Int) + (m0 : Int)) = ((f + m0 : Nat) : Int) := by rw [IntKind.wrap_i64]; omega
        have HM0 := Lib.hid hm0
        have hsf := run_slice_from (P := Try.prog) Try.underlying24 hti cells_u8 (some ⟨w2.heap.size, 0, none⟩) N N f hf
        have hsf2 := run_sliceAt_from (P := Try.prog) Try.underlying24 hti cells_u8 (some ⟨w2.heap.size, 0, none⟩) N N f hf
        have hcut : cutA (some ⟨w2.heap.size, 0, none⟩) N f = some ⟨w2.heap.size, f, none⟩ := by
          rw [cutA_some, if_neg (by omega)]
          simp [Addr.add]
          try omega
        rw [hcut] at hsf hsf2
        clear hcut
        have HL0 := Lib.hid (show (U8 (s.torn.take m0)).length = m0 by rw [U8_length, List.length_take]; omega)
        have HM1 := Lib.hid (show (U8 (s.torn.take m0)).length = Nat.min s.torn.length (N - f) by rw [HL0.out, HM0.out])
        have HM3 := Lib.hid (show f + (U8 (s.torn.take m0)).length ≤ (U8 (tornL s.torn N f)).length by rw [HL0.out, U8_length, tornL_len]; omega)
        have BW := Lib.hid (HB.out.mono (Nat.le_refl w2.heap.size))
        have OR := own_btw1 O3.out (J := fun j => w2.heap.size ≤ j) ⟨HB.out.os, HB.out.tape, HB.out.output, HB.out.size, fun k _ hn => HB.out.block k (by omega)⟩ (fun g hg => by
          have := HGL.out g hg
          omega)
        have HM2 : Hid (∀ j v, (U8 (s.torn.take m0))[j]? = some v → wr.drew.cell? ((⟨g3, 0, none⟩ : Addr).add j) = some v) := Lib.hid fun j v hv => by
          refine OR.cells rfl j v ?_
          unfold U8 at hv ⊢
          rw [List.map_take, List.getElem?_take] at hv
          split at hv
          · exact hv
          · cases hv
        have hpg : p ≠ w2.heap.size := Nat.ne_of_lt HPL.out
        have PR := Lib.hid (show CRow wr p 48 #[.slice A1 s.busy.length c1, .slice A2 s.fails.length c2, .map (some b), .slice (some ⟨g3, 0, none⟩) s.torn.length c3, .int .i64 bz, .int .i64 wk] from (HB.out.block p HPL.out).trans C3.out)
        clear OR BW hm0
        go_wp2
        refine wp_region_noPanic ?_
        refine wp_region_held_drew (S := fun w' => CRow w' p 48 #[.slice A1 s.busy.length c1, .slice A2 s.fails.length c2, .map (some b), .slice (some ⟨g3, 0, none⟩) s.torn.length c3, .int .i64 bz, .int .i64 wk]) (by kernel_rfl) PR.out.drew (fun C0 => ?_)
        refine wpAnyH_take (i := 0) (oi := { dst := some 27, op := Op.move (Operand.tmp 6), type := 3, pos := "choice.go:112", after := #[], guard := none }) (v := ?_) rfl (by kernel_rfl) (by kernel_rfl) (by kernel_rfl) (fun _ _ _ h => h) (Or.inl ⟨by rfl, ?_⟩) C0 ?_
        rotate_left
        · intro W' hSw
          clear hSw
          go_simp <;> with_reducible rfl
        try simp only [Act.put, List.setIfInBounds_toArray, List.set_cons_zero, List.set_cons_succ]
        refine wpAnyH_take (i := 1) (oi := { dst := some 28, op := Op.move (Operand.tmp 5), type := 24, pos := "choice.go:112", after := #[], guard := none }) (v := ?_) rfl (by kernel_rfl) (by kernel_rfl) (by kernel_rfl) (fun _ _ _ h => h) (Or.inl ⟨by rfl, ?_⟩) C0 ?_
        rotate_left
        · intro W' hSw
          clear hSw
          go_simp <;> with_reducible rfl
        try simp only [Act.put, List.setIfInBounds_toArray, List.set_cons_zero, List.set_cons_succ]
        refine wpAnyH_take (i := 2) (oi := { dst := some 29, op := Op.move (Operand.tmp 6), type := 3, pos := "choice.go:112", after := #[], guard := none }) (v := ?_) rfl (by kernel_rfl) (by kernel_rfl) (by kernel_rfl) (fun _ _ _ h => h) (Or.inl ⟨by rfl, ?_⟩) C0 ?_
        rotate_left
        · intro W' hSw
          clear hSw
          go_simp <;> with_reducible rfl
        try simp only [Act.put, List.setIfInBounds_toArray, List.set_cons_zero, List.set_cons_succ]
        refine wpAnyH_take (i := 3) (oi := { dst := some 30, op := Op.slice 24 (Operand.tmp 28) (some (Operand.tmp 29)) none none, type := 24, pos := "choice.go:112", after := #[{ on := 1, ground := Ground.data }, { on := 2, ground := Ground.data }], guard := none }) (v := ?_) rfl (by kernel_rfl) (by kernel_rfl) (by kernel_rfl) (fun _ _ _ h => h) (Or.inl ⟨by rfl, ?_⟩) C0 ?_
        rotate_left
        · intro W' hSw
          clear hSw
          go_simp <;> with_reducible rfl
        try simp only [Act.put, List.setIfInBounds_toArray, List.set_cons_zero, List.set_cons_succ]
        refine wpAnyH_take (i := 4) (oi := { dst := some 31, op := Op.move (Operand.tmp 0), type := 28, pos := "choice.go:112", after := #[], guard := none }) (v := ?_) rfl (by kernel_rfl) (by kernel_rfl) (by kernel_rfl) (fun _ _ _ h => h) (Or.inl ⟨by rfl, ?_⟩) C0 ?_
        rotate_left
        · intro W' hSw
          clear hSw
          go_simp <;> with_reducible rfl
        try simp only [Act.put, List.setIfInBounds_toArray, List.set_cons_zero, List.set_cons_succ]
        refine wpAnyH_take (i := 5) (oi := { dst := some 32, op := Op.nilCheck (Operand.tmp 31), type := 0, pos := "choice.go:112", after := #[{ on := 4, ground := Ground.data }], guard := none }) (v := ?_) rfl (by kernel_rfl) (by kernel_rfl) (by kernel_rfl) (fun _ _ _ h => h) (Or.inl ⟨by rfl, ?_⟩) C0 ?_
        rotate_left
        · intro W' hSw
          clear hSw
          go_simp <;> with_reducible rfl
        try simp only [Act.put, List.setIfInBounds_toArray, List.set_cons_zero, List.set_cons_succ]
        refine wpAnyH_take (i := 6) (oi := { dst := some 33, op := Op.fieldAddr 48 (Operand.tmp 32) 3, type := 0, pos := "choice.go:112", after := #[{ on := 5, ground := Ground.data }], guard := none }) (v := ?_) rfl (by kernel_rfl) (by kernel_rfl) (by kernel_rfl) (fun _ _ _ h => h) (Or.inl ⟨by rfl, ?_⟩) C0 ?_
        rotate_left
        · intro W' hSw
          clear hSw
          go_simp <;> with_reducible rfl
        try simp only [Act.put, List.setIfInBounds_toArray, List.set_cons_zero, List.set_cons_succ]
        refine wpAnyH_take (i := 7) (oi := { dst := some 34, op := Op.load 24 (Operand.tmp 33), type := 24, pos := "choice.go:112", after := #[{ on := 6, ground := Ground.data }], guard := none }) (v := ?_) rfl (by kernel_rfl) (by kernel_rfl) (by kernel_rfl) (fun _ _ _ h => h) (Or.inl ⟨by rfl, ?_⟩) C0 ?_
        rotate_left
        · intro W' hSw
          have y := hSw.cell_at 3 _ rfl
          clear hSw
          go_simp <;> with_reducible rfl
        try simp only [Act.put, List.setIfInBounds_toArray, List.set_cons_zero, List.set_cons_succ]
        refine wpAnyH_ready (rs := [8]) (by kernel_rfl) (by simp) ?_
        refine AllReadyH.cons (o := { dst := some 35, op := Op.call { callee := Callee.builtin Builtin.copy, args := #[Operand.tmp 30, Operand.tmp 34], argTypes := #[24, 24] }, type := 3, pos := "choice.go:112", after := #[{ on := 3, ground := Ground.data }, { on := 7, ground := Ground.data }], guard := none }) rfl (fun K hK => ?_) AllReadyH.nil
        rw [if_pos (by rfl)]
        refine wp_copyR wr.drew (.tmp 30) (.tmp 34) 24 24 rfl 5 Try.underlying24 size_u8 w2.heap.size f (N - f) (N - f) ⟨g3, 0, none⟩ s.torn.length c3 rfl rfl (U8 (tornL s.torn N f)) 5 CG.out (U8 (s.torn.take m0)) HM1.out HM2.out HM3.out (U8_one _) ?_
        intro w4 hw4
        rw [HL0.out] at hw4 ⊢
        have W4 := Lib.hid hw4
        clear hw4
        have P4 := Lib.hid (show CRow w4 p 48 #[.slice A1 s.busy.length c1, .slice A2 s.fails.length c2, .map (some b), .slice (some ⟨g3, 0, none⟩) s.torn.length c3, .int .i64 bz, .int .i64 wk] from W4.out ▸ PR.out.drew.other hpg)
        refine hK.out _ _ P4.out (fun C1 => ?_)
        clear hK K
        try simp only [Act.put, List.setIfInBounds_toArray, List.set_cons_zero, List.set_cons_succ]
        refine wpAnyH_take (i := 9) (oi := { dst := some 36, op := Op.binOp BinOp.add 3 (Operand.tmp 27) (Operand.tmp 35) 3, type := 3, pos := "choice.go:112", after := #[{ on := 0, ground := Ground.data }, { on := 8, ground := Ground.data }], guard := none }) (v := ?_) rfl (by kernel_rfl) (by kernel_rfl) (by kernel_rfl) (fun _ _ _ h => h) (Or.inl ⟨by rfl, ?_⟩) C1 ?_
        rotate_left
        · intro W' hSw
          clear hSw
          go_simp <;> with_reducible rfl
        try simp only [Act.put, List.setIfInBounds_toArray, List.set_cons_zero, List.set_cons_succ]
        refine wpAnyH_take (i := 10) (oi := { dst := some 6, op := Op.assign (Operand.tmp 36), type := 3, pos := "choice.go:112", after := #[{ on := 9, ground := Ground.data }, { on := 8, ground := Ground.chain }, { on := 0, ground := Ground.phase }, { on := 1, ground := Ground.phase }, { on := 2, ground := Ground.phase }, { on := 3, ground := Ground.phase }, { on := 4, ground := Ground.phase }, { on := 5, ground := Ground.phase }, { on := 6, ground := Ground.phase }, { on := 7, ground := Ground.phase }, { on := 8, ground := Ground.phase }, { on := 9, ground := Ground.phase }], guard := none }) (v := ?_) rfl (by kernel_rfl) (by kernel_rfl) (by kernel_rfl) (fun _ _ _ h => h) (Or.inl ⟨by rfl, ?_⟩) C1 ?_
        rotate_left
        · intro W' hSw
          clear hSw
          go_simp <;> with_reducible rfl
        try simp only [Act.put, List.setIfInBounds_toArray, List.set_cons_zero, List.set_cons_succ]
        refine wpAnyH_done (by kernel_rfl) ?_ _
        refine NoPanic.normal ?_
        have CN := Lib.hid (show CRow w4 w2.heap.size 5 (U8 (tornL s.torn N (f + m0))).toArray from by
          have h1 := CG.out.drew.set (((U8 (tornL s.torn N f)).take f ++ U8 (s.torn.take m0) ++ (U8 (tornL s.torn N f)).drop (f + m0)).toArray)
          rw [← W4.out] at h1
          have h2 : (U8 (tornL s.torn N f)).take f ++ U8 (s.torn.take m0) ++ (U8 (tornL s.torn N f)).drop (f + m0) = U8 (tornL s.torn N (f + m0)) := by
            have := congrArg U8 (tornL_step s.torn N f hf (HD.out.resolve_right (by omega)))
            rw [← HM0.out] at this
            rw [← this, U8_append, U8_append]
            simp [U8, List.map_take, List.map_drop]
          rwa [h2] at h1)
        have BN := Lib.hid (show Below w2.heap.size w3 w4 from by
          rw [W4.out]
          exact below_setRow HB.out.drew (Nat.le_refl _) _)
        have DN := Lib.hid (show (f + m0) % s.torn.length = 0 ∨ f + m0 = N from by
          rcases Nat.le_total s.torn.length (N - f) with h | h
          · rw [HM0.out, Nat.min_eq_left h]
            refine .inl ?_
            rw [Nat.add_mod_right]
            exact HD.out.resolve_right (by omega)
          · rw [HM0.out, Nat.min_eq_right h]
            exact .inr (by omega))
        clear HM1 HM2 HM3 HL0 PR CG HB HD W4 P4
        go_wp2
        go_roundw
        case rel => exact ⟨f + m0, by omega, by go_num, DN, CN, BN⟩
        case measure => simp [intOf]; omega
      · obtain rfl : f = N := by omega
        have R9 := Lib.hid (r8_row CG.out (tornL_small _ _ _ HT.out) (tornL_len _ _ _))
        go_wp2
        go_ret
        exact ⟨some ⟨w2.heap.size, 0, none⟩, f, ret_slice (tornL_len _ _ _).symm, by rw [tornL_len]; exact R9.out, B3.out.trans (HB.out.mono HLO.out)⟩
end Go.Proofs.Ytodljocbimgeoaa
