/-
  Contract of the document's All (package incunableref06), over the landed code's translation.
-/
import Derived.Test.YtgiihdeilkiphaaLadderFitsJChunkD
import Derived.Test.YtgiihdeilkiphaaLadderFitsJChunkE
namespace Go.Proofs.Ytgiihdeilkiphaa
open Go.RowKit
set_option maxRecDepth 100000

theorem run_slice_mid {P : Program} {t e : TypeId} {i0 : TypeInfo} (h1 : P.underlying t = some (.slice e)) (h2 : P.info? e = some i0) (h4 : P.cellsOf e = 1) (A : Option Addr) (n c i j : Nat) (hij : i ≤ j) (hj : j ≤ c) (W : World) :
    (Instr.slice t (.slice A n c) (some (.int .i64 (i : Int))) (some (.int .i64 (j : Int))) none).run P W = .ok (.slice (cutA A c i) (j - i) (c - i)) W := by
  have hb : (Instr.sliceBound (.int .i64 (j : Int)) c .sliceAcap).run P W = .ok j W := by
    rw [run_sliceBound W .i64 _ _ _ (by omega) (by omega)]; simp
  have hb2 : (Instr.sliceBound (.int .i64 (i : Int)) j .sliceB).run P W = .ok i W := by
    rw [run_sliceBound W .i64 _ _ _ (by omega) (by omega)]; simp
  simp [Instr.slice, run_underlying h1, Instr.sliceBounds, hb, hb2, run_sizeOf W h2, h4, cutA]
theorem run_sliceAt_mid {P : Program} {t e : TypeId} {i0 : TypeInfo} (h1 : P.underlying t = some (.slice e)) (h2 : P.info? e = some i0) (h4 : P.cellsOf e = 1) (A : Option Addr) (n c i j : Nat) (hij : i ≤ j) (hj : j ≤ c) (W : World) :
    (Instr.sliceAt t (.slice A n c) (some (.int .i64 (i : Int))) (some (.int .i64 (j : Int))) none).run P W = .ok (.slice (cutA A c i) (j - i) (c - i)) W := by
  rw [← run_slice_mid h1 h2 h4 A n c i j hij hj W]
  simp [Instr.sliceAt, run_underlying h1]

theorem RefAll_size (A : Option Addr) (n c : Nat) (x : Int) (w : World) (hx : ¬ (1 ≤ x ∧ x ≤ 512)) :
    Calls Try.prog 28 #[.slice A n c, .int .i64 x] w (Ret3 [] 0 2 w) := by
  by_cases h1 : x < 1
  · have d1 : decide (x < 1) = true := decide_eq_true h1
    clear hx
    go_enter Try.func28, Try.ntmps28
    go_wp2
    go_ret3
    exact ⟨none, 0, rfl, ⟨Rd.nil_, fun x hx => by cases hx⟩, fun _ => rfl, Below.refl _ _⟩
  · have d1 : decide (x < 1) = false := decide_eq_false h1
    have d2 : decide (512 < x) = true := decide_eq_true (by omega)
    clear hx
    go_enter Try.func28, Try.ntmps28
    go_wp2
    go_ret3
    exact ⟨none, 0, rfl, ⟨Rd.nil_, fun x hx => by cases hx⟩, fun _ => rfl, Below.refl _ _⟩
theorem RefAll_no (A : Option Addr) (n c s : Nat) (w : World) (hs0 : 1 ≤ s) (hs1 : s ≤ 512) (hn : n % (s + 2) ≠ 0) (hn2 : n ≤ 1099511627776) :
    Calls Try.prog 28 #[.slice A n c, .int .i64 (s : Int)] w (Ret3 [] 0 2 w) := by
  have d1 : decide ((s : Int) < 1) = false := decide_eq_false (by omega)
  have d2 : decide (512 < (s : Int)) = false := decide_eq_false (by omega)
  have hm : (n : Int) % ((s : Int) + 2) ≠ 0 := by
    have e : (n : Int) % ((s : Int) + 2) = ((n % (s + 2) : Nat) : Int) := by rw [Int.natCast_emod, Int.natCast_add]; rfl
    rw [e]
    omega
  have hne : ((s : Int) + 2) ≠ 0 := by omega
  have he : (((n : Int) % ((s : Int) + 2)) != 0) = true := by simpa using hm
  clear hn hm
  go_enter Try.func28, Try.ntmps28
  go_wp2
  go_ret3
  exact ⟨none, 0, rfl, ⟨Rd.nil_, fun x hx => by cases hx⟩, fun _ => rfl, Below.refl _ _⟩

set_option maxHeartbeats 1000000 in
theorem RefAll_yes (A : Option Addr) (n c s N : Nat) (l : List Nat) (w : World) (hr : R8 w A n l) (hc : n ≤ c) (hs0 : 1 ≤ s) (hs1 : s ≤ 512) (hn : n = N * (s + 2)) (hn2 : n ≤ 1099511627776) :
    Calls Try.prog 28 #[.slice A n c, .int .i64 (s : Int)] w (Ret3 (allL (piecesL (s + 2) l N)).1 (allL (piecesL (s + 2) l N)).2.1 (allL (piecesL (s + 2) l N)).2.2 w) := by
  obtain ⟨i0, ti, tz0, tz1, tz2⟩ := info_parts info_u8
  have HR := Lib.hid hr
  have HL := Lib.hid (show l.length = N * (s + 2) by rw [hr.len, hn])
  have hNn : N ≤ 1099511627776 := by
    have : N * 1 ≤ N * (s + 2) := Nat.mul_le_mul_left _ (by omega)
    omega
  have d1 : decide ((s : Int) < 1) = false := decide_eq_false (by omega)
  have d2 : decide (512 < (s : Int)) = false := decide_eq_false (by omega)
  have hm : (n : Int) % ((s : Int) + 2) = 0 := by
    rw [hn, Int.natCast_mul, Int.natCast_add]
    exact Int.mul_emod_left _ _
  have hne : ((s : Int) + 2) ≠ 0 := by omega
  have he : (((n : Int) % ((s : Int) + 2)) != 0) = false := by rw [hm]; rfl
  have HN := Lib.hid hn
  obtain ⟨V, HV⟩ : ∃ V, Hid (allL (piecesL (s + 2) l N) = V) := ⟨_, rfl⟩
  rw [HV.out]
  obtain ⟨vd, vf, ve⟩ := V
  clear hn hm hr
  go_enter Try.func28, Try.ntmps28
  go_wp2
  clear d1 d2 he
  go_loopw [7, 8, 9] (fun v f at_ wr => ∃ (k a jn S cv : Nat) (Av : Option Addr) (J : List Nat), k ≤ N ∧ a ≤ n ∧ jn ≤ n ∧ S ≤ n ∧ v = .slice Av jn cv ∧ f = .int .i64 (S : Int) ∧ at_ = .int .i64 (a : Int) ∧ Hid (a = k * (s + 2)) ∧ Hid (J = joinD (piecesL (s + 2) l k)) ∧ Hid (J.length = jn) ∧ Hid (S = sumD (piecesL (s + 2) l k)) ∧ Hid (okD (piecesL (s + 2) l k)) ∧ Hid (wr.ownsRow w.heap.size 5 1 (.slice Av jn cv) jn (U8 J)) ∧ Hid (Below w.heap.size w wr))
    (fun _ _ at_ _ => n - (intOf at_).toNat)
  case atStart => exact ⟨0, 0, 0, 0, 0, none, [], Nat.zero_le _, Nat.zero_le _, Nat.zero_le _, Nat.zero_le _, rfl, rfl, rfl, (Nat.zero_mul _).symm, rfl, rfl, rfl, okD_nil, World.ownsRow_nil _ _ _ _, Below.refl _ _⟩
  case round =>
    obtain ⟨k, a, jn, S, cv, Av, J, hk, ha, hjn, hS, rfl, rfl, rfl, HA, HJ, HJl, HS, HOK, HO, HB⟩ := hrel
    by_cases hlt : k < N
    · have hal : a + (s + 2) ≤ n := by
        rw [HA.out, HN.out]
        have : (k + 1) * (s + 2) ≤ N * (s + 2) := Nat.mul_le_mul_right _ hlt
        rw [Nat.add_mul, Nat.one_mul] at this
        omega
      have HRw := Lib.hid (HR.out.below HB.out)
      have HP := Lib.hid (show R8 wr (cutA A c a) (s + 2) (pieceL (s + 2) l k) by
        have := (HRw.out.cutA a c ha hc).take_ (s + 2) (by omega)
        unfold pieceL
        rw [← HA.out]
        exact this)
      have hsl1 := run_slice_mid (P := Try.prog) Try.underlying27 ti (by kernel_rfl) A n c a (a + s + 2) (by omega) (by omega)
      have hsl2 := run_sliceAt_mid (P := Try.prog) Try.underlying27 ti (by kernel_rfl) A n c a (a + s + 2) (by omega) (by omega)
      rw [show ((a + s + 2 : Nat) : Int) = (a : Int) + (s : Int) + 2 by omega, show a + s + 2 - a = s + 2 by omega] at hsl1 hsl2
      have hDec := RefDecode_any (cutA A c a) (s + 2) (c - a) _ wr HP.out (by omega) (by omega)
      have HPl := Lib.hid HP.out.len
      have HDL := Lib.hid (fun h => decL_len (pieceL (s + 2) l k) (by rw [HPl.out]; omega) (by rw [HPl.out]; omega) h)
      have HDn := Lib.hid (fun h => decL_nil (pieceL (s + 2) l k) h)
      have hd3 := (decL_facts _ HP.out.2).2.2.1
      have HJ1 := Lib.hid (joinD_snoc (piecesL (s + 2) l k) (pieceL (s + 2) l k))
      have HS1 := Lib.hid (sumD_snoc (piecesL (s + 2) l k) (pieceL (s + 2) l k))
      have HM1 := Lib.hid (piecesL_succ (s + 2) l k)
      have HJf := Lib.hid (joinD_facts (piecesL (s + 2) l (k + 1)) (s + 2) (piecesL_facts (s + 2) l (k + 1) N HL.out (by omega) HR.out.2))
      obtain ⟨V2, HVp⟩ : ∃ V2, Hid (decL (pieceL (s + 2) l k) = V2) := ⟨_, rfl⟩
      rw [HVp.out] at hDec HJ1 HS1 HDL HDn hd3
      rw [HPl.out] at HDL
      obtain ⟨d, f, e⟩ := V2
      simp only at hDec hd3
      generalize cutA A c a = A1 at *
      clear HRw
      by_cases he0 : e = 0
      · subst he0
        obtain ⟨m, HDm⟩ : ∃ m, Hid (d.length = m) := ⟨_, rfl⟩
        have hm : m = s := by rw [← HDm.out, HDL.out rfl]; omega
        subst hm
        have hjn2 : jn + m ≤ n := by
          have h := HJf.out.1
          rw [HM1.out, HJ1.out, ← HJ.out, List.length_append, HJl.out, HDm.out, ← HM1.out, piecesL_length] at h
          have : (k + 1) * (m + 2) ≤ N * (m + 2) := Nat.mul_le_mul_right _ hlt
          rw [← HN.out] at this
          omega
        have hS2 : S + f ≤ n := by
          have h := HJf.out.2.2
          rw [HM1.out, HS1.out, ← HS.out, ← HM1.out, piecesL_length] at h
          have : (k + 1) * 1 ≤ N * (m + 2) := Nat.le_trans (Nat.mul_le_mul_left _ (by omega)) (Nat.mul_le_mul_right _ hlt)
          rw [← HN.out] at this
          simp only at h
          omega
        go_wp2_with fail
        refine hDec.mono ?_
        rintro en w1 hM
        obtain ⟨A2, c2, rfl, R2, hnil2, B2⟩ := hM.at_ HDm.out
        clear hM hDec HDL HDn hsl1 hsl2
        have HB1 := Lib.hid (below_step HB.out B2.out)
        have HO1 := Lib.hid (own_below HO.out B2.out)
        have hs1 := HB1.out.size
        go_wp2_with (at_builtin; refine wpList_append8 _ rfl (.tmp 50) (.tmp 51) _ rfl w.heap.size 5 i0 Try.underlying27 ti tz0 tz1 tz2 _ _ J rfl HO1.out _ _ _ d rfl hnil2.out R2.out (by omega) hs1 ?_)
        intro v3 w3 hown3 hg3
        obtain ⟨A3, c3, rfl⟩ := own_form hown3
        have HO3 := Lib.hid hown3
        have HB3 := Lib.hid (HB1.out.grown hg3 hs1 (fun j hj => (HO1.out.lt j hj).1))
        clear hown3 hg3
        go_wp2
        go_roundw
        case rel =>
          refine ⟨k + 1, a + (m + 2), jn + m, S + f, c3, A3, J ++ d, by omega, hal, hjn2, hS2, rfl, by go_num, by go_num, ?_, ?_, ?_, ?_, ?_, HO3, HB3⟩
          · show a + (m + 2) = (k + 1) * (m + 2)
            rw [HA.out, Nat.add_mul, Nat.one_mul]
          · show J ++ d = joinD (piecesL (m + 2) l (k + 1))
            rw [HM1.out, HJ1.out, HJ.out]
          · show (J ++ d).length = jn + m
            rw [List.length_append, HJl.out, HDm.out]
          · show S + f = sumD (piecesL (m + 2) l (k + 1))
            rw [HM1.out, HS1.out, HS.out]
          · show okD (piecesL (m + 2) l (k + 1))
            rw [HM1.out]
            exact okD_snoc HOK.out (by rw [HVp.out])
        case measure => simp [intOf]; omega
      · obtain ⟨rfl, rfl⟩ : d = [] ∧ f = 0 := HDn.out he0
        have hne0 : ((e : Int) != 0) = true := by simp; omega
        have HE := Lib.hid (show (vd, vf, ve) = ([], 0, e) by
          rw [← HV.out]
          have h := allL_bad (piecesL (s + 2) l k) (((List.range N).drop (k + 1)).map (pieceL (s + 2) l)) (pieceL (s + 2) l k) HOK.out (by rw [HVp.out]; exact he0)
          rw [HVp.out] at h
          rw [← h]
          congr 1
          unfold piecesL
          have e1 : List.range N = (List.range N).take k ++ (List.range N).drop k := (List.take_append_drop k _).symm
          have e2 : (List.range N).drop k = k :: (List.range N).drop (k + 1) := by
            rw [List.drop_eq_getElem_cons (by simpa using hlt)]
            simp
          have e3 : (List.range N).take k = List.range k := by rw [List.take_range]; congr 1; omega
          rw [e2, e3] at e1
          have e4 := congrArg (List.map (pieceL (s + 2) l)) e1
          rw [List.map_append, List.map_cons] at e4
          exact e4)
        obtain ⟨rfl, rfl, rfl⟩ : vd = [] ∧ vf = 0 ∧ ve = e := by
          have h := HE.out
          simp only [Prod.mk.injEq] at h
          exact h
        clear HE HV
        go_wp2_with fail
        refine hDec.mono ?_
        rintro en w1 hM
        obtain ⟨A2, c2, rfl, _, _, B2⟩ := hM.at_ (n := 0) rfl
        have HB1 := Lib.hid (below_step HB.out B2.out)
        clear hM hDec HDL HDn hsl1 hsl2
        go_wp2
        go_ret3
        exact ⟨none, 0, rfl, ⟨Rd.nil_, fun x hx => by cases hx⟩, fun _ => rfl, HB1.out⟩
    · obtain rfl : k = N := by omega
      have han : a = n := by rw [HA.out, HN.out]
      subst han
      obtain ⟨rfl, rfl, rfl⟩ : vd = J ∧ vf = S ∧ ve = 0 := by
        have h := HV.out
        rw [allL_ok _ HOK.out, ← HJ.out, ← HS.out] at h
        simp only [Prod.mk.injEq] at h
        exact ⟨h.1.symm, h.2.1.symm, h.2.2.symm⟩
      have HJb := Lib.hid (show ∀ x ∈ vd, x < 256 by
        rw [HJ.out]
        exact (joinD_facts _ (s + 2) (piecesL_facts (s + 2) l k k HL.out (Nat.le_refl _) HR.out.2)).2.1)
      clear HV
      go_wp2
      go_ret3
      exact ⟨Av, cv, ret_slice3 HJl.out.symm, by rw [HJl.out]; exact R8.own HO.out HJb.out, own_nil HO.out, HB.out⟩
end Go.Proofs.Ytgiihdeilkiphaa
