/-
  The walk of the law ChunkPieces over the landed code, out of its callees' contracts: for whatever raw bytes and size it returns true, and nothing that was there has turned.
-/
import Derived.Test.YtljjbphmglbhnaaChunkAll
namespace Go.Proofs.Ytljjbphmglbhnaa
open Go.RowKit

set_option maxHeartbeats 1000000 in
theorem ChunkPieces_bad (A : Option Addr) (n c : Nat) (x : Int) (w : World) (hn : n ≤ 200)
    (hA : ∀ w', Calls Try.prog 13 #[.slice A n c, .int .i64 x] w' (Ret3 [] 0 2 w'))
    (hSp : ∀ w', Calls Try.prog 15 #[.slice A n c, .int .i64 x] w' fun e w'' => e = .returned (.tuple #[.slice none 0 0, .int .i64 2]) ∧ w' = w'') :
    Calls Try.prog 6 #[.slice A n c, .int .i64 x] w (Gives (.bool true) w) := by
  go_enter Try.func6, Try.ntmps6
  go_wp2_with fail
  refine (awake6_any _).mono ?_
  rintro e w1 ⟨rfl, hb1⟩
  have HB1 := Lib.hid hb1
  clear hb1
  go_wp2_with (go_at_call 15; refine (hSp _).mono ?_; rintro e w' ⟨rfl, rfl⟩)
  refine (hA _).mono ?_
  rintro e w2 hM
  obtain ⟨A2, c2, rfl, _, _, B2⟩ := hM.at_ (n := 0) rfl
  have HB2 := Lib.hid (below_step HB1.out B2.out)
  clear hM hA
  go_wp2
  go_ret
  exact ⟨rfl, HB2.out⟩

theorem pieces_bad (len : Nat) (l : List Nat) (N k : Nat) (hk : k < N) (hok : okD (piecesL len l k)) (he : (decL (pieceL len l k)).2.2 ≠ 0) : allL (piecesL len l N) = ([], 0, (decL (pieceL len l k)).2.2) := by
  have h := allL_bad (piecesL len l k) (((List.range N).drop (k + 1)).map (pieceL len l)) (pieceL len l k) hok he
  rw [← h]
  congr 1
  unfold piecesL
  have e1 : List.range N = (List.range N).take k ++ (List.range N).drop k := (List.take_append_drop k _).symm
  have e2 : (List.range N).drop k = k :: (List.range N).drop (k + 1) := by
    rw [List.drop_eq_getElem_cons (by simpa using hk)]
    simp
  have e3 : (List.range N).take k = List.range k := by rw [List.take_range]; congr 1; omega
  rw [e2, e3] at e1
  have e4 := congrArg (List.map (pieceL len l)) e1
  rw [List.map_append, List.map_cons] at e4
  exact e4

set_option maxHeartbeats 1000000 in
theorem ChunkPieces_good (A : Option Addr) (n c s N : Nat) (l : List Nat) (w : World) (hr : R8 w A n l) (hc : n ≤ c) (hs0 : 1 ≤ s) (hs1 : s ≤ 512) (hn : n = N * (s + 2)) (hn2 : n ≤ 200) :
    Calls Try.prog 6 #[.slice A n c, .int .i64 (s : Int)] w (Gives (.bool true) w) := by
  obtain ⟨i0, ti, tz0, tz1, tz2⟩ := info_parts info_u8
  have hA := fun w' (h : R8 w' A n l) => All_yes A n c s N l w' h hc hs0 hs1 hn (by omega)
  have hSp := fun w' (h : R8 w' A n l) => Split_yes A n c s N l w' h hc hs0 hs1 hn (by omega)
  have HR := Lib.hid hr
  have HN := Lib.hid hn
  have HL := Lib.hid (show l.length = N * (s + 2) by rw [hr.len, hn])
  have hNn : N ≤ 200 := by
    have : N * 1 ≤ N * (s + 2) := Nat.mul_le_mul_left _ (by omega)
    omega
  have HG := Lib.hid (fun k (h : k < N) => pieces_get (s + 2) l N k h)
  have HPf := Lib.hid (fun k (h : k < N) => (⟨pieceL_length (s + 2) l k N (by rw [hr.len, hn]) h, pieceL_lt (s + 2) l k hr.2⟩ : (pieceL (s + 2) l k).length = s + 2 ∧ ∀ x ∈ pieceL (s + 2) l k, x < 256))
  have HPn := Lib.hid (piecesL_length (s + 2) l N)
  have HBad := Lib.hid (pieces_bad (s + 2) l N)
  have HGood := Lib.hid (allL_ok (piecesL (s + 2) l N))
  obtain ⟨V, HV⟩ : ∃ V, Hid (allL (piecesL (s + 2) l N) = V) := ⟨_, rfl⟩
  rw [HV.out] at hA
  obtain ⟨vd, vf, ve⟩ := V
  simp only at hA
  obtain ⟨vn, HVn⟩ : ∃ vn, Hid (vd.length = vn) := ⟨_, rfl⟩
  obtain ⟨ps, HPs⟩ : ∃ ps, Hid (piecesL (s + 2) l N = ps) := ⟨_, rfl⟩
  rw [HPs.out] at hSp HG HPn
  clear hr hn
  go_enter Try.func6, Try.ntmps6
  go_wp2_with fail
  refine (awake6_any _).mono ?_
  rintro e w1 ⟨rfl, hb1⟩
  have HB1 := Lib.hid hb1
  have HR1 := Lib.hid (HR.out.below hb1)
  clear hb1
  go_wp2_with fail
  refine (hSp _ HR1.out).mono ?_
  rintro e w2 ⟨A2, c2, vs, rfl, hrd, hrows, hb2⟩
  have HB2 := Lib.hid (below_step HB1.out hb2)
  have HR2 := Lib.hid (HR1.out.below hb2)
  rw [HPn.out] at hrd
  have HRD := Lib.hid hrd
  have HRows := Lib.hid hrows
  have e5 := HPn.out
  rw [e5]
  clear e5 hrd hrows hb2 hSp
  go_wp2_with fail
  refine (hA _ HR2.out).mono ?_
  rintro e w3 hM
  obtain ⟨A3, c3, rfl, R3, _, B3⟩ := hM.at_ HVn.out
  have HB3 := Lib.hid (below_step HB2.out B3.out)
  have HRD3 := Lib.hid (HRD.out.below B3.out)
  have HRows3 := Lib.hid (HRows.out.below B3.out)
  clear hM hA B3 HRD HRows
  go_wp2
  go_loopw [10, 11, 51] (fun v f i wr => ∃ (k jn S cv : Nat) (Av : Option Addr) (J : List Nat), k ≤ N ∧ jn ≤ n ∧ S ≤ n ∧ v = .slice Av jn cv ∧ f = .int .i64 (S : Int) ∧ i = .int .i64 (k : Int) ∧ Hid (J = joinD (piecesL (s + 2) l k)) ∧ Hid (J.length = jn) ∧ Hid (S = sumD (piecesL (s + 2) l k)) ∧ Hid (okD (piecesL (s + 2) l k)) ∧ Hid (wr.ownsRow w3.heap.size 5 1 (.slice Av jn cv) jn (U8 J)) ∧ Hid (Below w3.heap.size w3 wr)) (fun _ _ i _ => N - (intOf i).toNat)
  case atStart => exact ⟨0, 0, 0, 0, none, [], Nat.zero_le _, Nat.zero_le _, Nat.zero_le _, rfl, rfl, rfl, rfl, rfl, rfl, okD_nil, World.ownsRow_nil _ _ _ _, Below.refl _ _⟩
  case round =>
    obtain ⟨k, jn, S, cv, Av, J, hk, hjn, hS, rfl, rfl, rfl, HJ, HJl, HS, HOK, HO, HB⟩ := hrel
    by_cases hlt : k < N
    · obtain ⟨hpl, hpb⟩ := HPf.out k hlt
      obtain ⟨b, off, Ak, ck, rfl, hbk, hck, RK, hnk, hckl⟩ := rows_at HRD3.out HRows3.out (HG.out k hlt) hlt hpb
      rw [hpl] at hck RK hckl
      have hc0 : wr.cell? ⟨b, off + k, none⟩ = some (.slice Ak (s + 2) ck) := (HB.out.cell hbk).trans hck
      have RK2 := Lib.hid (RK.out.below HB.out)
      have hDec := Decode_any Ak (s + 2) ck _ wr RK2.out hckl (by omega)
      have HDL := Lib.hid (fun h => decL_len (pieceL (s + 2) l k) (by rw [hpl]; omega) (by rw [hpl]; omega) h)
      have HDn := Lib.hid (fun h => decL_nil (pieceL (s + 2) l k) h)
      have HJ1 := Lib.hid (joinD_snoc (piecesL (s + 2) l k) (pieceL (s + 2) l k))
      have HS1 := Lib.hid (sumD_snoc (piecesL (s + 2) l k) (pieceL (s + 2) l k))
      have HM1 := Lib.hid (piecesL_succ (s + 2) l k)
      have HJf := Lib.hid (joinD_facts (piecesL (s + 2) l (k + 1)) (s + 2) (piecesL_facts (s + 2) l (k + 1) N HL.out (by omega) HR.out.2))
      have HBk := Lib.hid (HBad.out k hlt HOK.out)
      obtain ⟨V2, HVp⟩ : ∃ V2, Hid (decL (pieceL (s + 2) l k) = V2) := ⟨_, rfl⟩
      rw [HVp.out] at hDec HJ1 HS1 HDL HDn HBk
      rw [hpl] at HDL
      obtain ⟨d, f, e⟩ := V2
      simp only at hDec
      have hsz := HB.out.size
      clear hck hpl hpb RK
      by_cases he0 : e = 0
      · subst he0
        obtain ⟨m, HDm⟩ : ∃ m, Hid (d.length = m) := ⟨_, rfl⟩
        have hm : m = s := by rw [← HDm.out, HDL.out rfl]; omega
        subst hm
        have hjn2 : jn + m ≤ n := by
          have h := HJf.out.1
          rw [HM1.out, HJ1.out, ← HJ.out, List.length_append, HJl.out, HDm.out, ← HM1.out, piecesL_length] at h
          have : (k + 1) * (m + 2) ≤ N * (m + 2) := Nat.mul_le_mul_right _ hlt
          rw [← HN.out] at this
          omega
        have hS2 : S + f ≤ n := by
          have h := HJf.out.2.2
          rw [HM1.out, HS1.out, ← HS.out, ← HM1.out, piecesL_length] at h
          have : (k + 1) * 1 ≤ N * (m + 2) := Nat.le_trans (Nat.mul_le_mul_left _ (by omega)) (Nat.mul_le_mul_right _ hlt)
          rw [← HN.out] at this
          simp only at h
          omega
        go_wp2_with fail
        refine hDec.mono ?_
        rintro en w4 hM
        obtain ⟨A4, c4, rfl, R4, hnil4, B4⟩ := hM.at_ HDm.out
        clear hM hDec HDL HDn HBk hc0
        have HB4 := Lib.hid (HB.out.trans (B4.out.mono hsz))
        have HO4 := Lib.hid (own_below HO.out B4.out)
        have hs4 := HB4.out.size
        go_wp2_with (at_builtin; refine wpList_append8 _ rfl (.tmp 75) (.tmp 76) _ rfl w3.heap.size 5 i0 Try.underlying22 ti tz0 tz1 tz2 _ _ J rfl HO4.out _ _ _ d rfl hnil4.out R4.out (by omega) hs4 ?_)
        intro v5 w5 hown5 hg5
        obtain ⟨A5, c5, rfl⟩ := own_form hown5
        have HO5 := Lib.hid hown5
        have HB5 := Lib.hid (HB4.out.grown hg5 hs4 (fun j hj => (HO4.out.lt j hj).1))
        clear hown5 hg5
        go_wp2
        go_roundw
        case rel =>
          refine ⟨k + 1, jn + m, S + f, c5, A5, J ++ d, by omega, hjn2, hS2, rfl, by go_num, by go_num, ?_, ?_, ?_, ?_, HO5, HB5⟩
          · show J ++ d = joinD (piecesL (m + 2) l (k + 1))
            rw [HM1.out, HJ1.out, HJ.out]
          · show (J ++ d).length = jn + m
            rw [List.length_append, HJl.out, HDm.out]
          · show S + f = sumD (piecesL (m + 2) l (k + 1))
            rw [HM1.out, HS1.out, HS.out]
          · show okD (piecesL (m + 2) l (k + 1))
            rw [HM1.out]
            exact okD_snoc HOK.out (by rw [HVp.out])
        case measure => simp [intOf]; omega
      · obtain ⟨rfl, rfl⟩ : d = [] ∧ f = 0 := HDn.out he0
        have hne0 : ((e : Int) != 0) = true := by simp; omega
        obtain ⟨rfl, rfl, rfl⟩ : vd = [] ∧ vf = 0 ∧ ve = e := by
          have h := HBk.out he0
          rw [HV.out] at h
          simp only [Prod.mk.injEq] at h
          exact h
        obtain rfl : vn = 0 := HVn.out.symm
        clear HV HBk HVn HJf HJ1 HS1 HM1
        go_wp2_with fail
        refine hDec.mono ?_
        rintro en w4 hM
        obtain ⟨A4, c4, rfl, _, _, B4⟩ := hM.at_ (n := 0) rfl
        have HB4 := Lib.hid (below_step HB3.out (HB.out.trans (B4.out.mono hsz)))
        clear hM hDec HDL HDn hc0
        go_wp2
        go_ret
        exact ⟨ret_bool (by simp), HB4.out⟩
    · obtain rfl : k = N := by omega
      obtain ⟨rfl, rfl, rfl⟩ : vd = J ∧ vf = S ∧ ve = 0 := by
        have h := HV.out
        rw [HGood.out HOK.out, ← HJ.out, ← HS.out] at h
        simp only [Prod.mk.injEq] at h
        exact ⟨h.1.symm, h.2.1.symm, h.2.2.symm⟩
      obtain rfl : vn = jn := HVn.out.symm.trans HJl.out
      have HRb := Lib.hid (R3.out.below HB.out)
      have HRa := Lib.hid (R8.own HO.out HRb.out.2)
      clear HV HVn HGood HBad
      go_wp2_with fail
      refine (Same_any _ _ _ _ _ _ vd vd _ HRb.out HRa.out (by omega) (by omega)).mono ?_
      rintro e w7 ⟨rfl, q7, rfl⟩
      rw [decide_eq_true rfl]
      go_wp2
      go_ret
      exact ⟨ret_bool (by simp), below_drewN (below_step HB3.out HB.out) q7⟩

set_option maxHeartbeats 400000 in
theorem ChunkPieces_walk (A : Option Addr) (n c : Nat) (l : List Nat) (x : Int) (w : World) (hr : R8 w A n l) (hn : n ≤ 9223372036854775807) (hc : n ≤ c) :
    Calls Try.prog 6 #[.slice A n c, .int .i64 x] w (Gives (.bool true) w) := by
  by_cases h200 : 200 < n
  · clear hr
    go_enter Try.func6, Try.ntmps6
    go_wp2_with fail
    refine (awake6_any _).mono ?_
    rintro e w1 ⟨rfl, hb1⟩
    go_wp2
    go_ret
    exact ⟨rfl, hb1⟩
  · by_cases hx : 1 ≤ x ∧ x ≤ 512
    · obtain ⟨s, rfl⟩ := Int.eq_ofNat_of_zero_le (show 0 ≤ x by omega)
      by_cases hm : n % (s + 2) = 0
      · have hd := Nat.div_add_mod n (s + 2)
        rw [hm, Nat.add_zero, Nat.mul_comm] at hd
        exact ChunkPieces_good A n c s (n / (s + 2)) l w hr hc (by omega) (by omega) hd.symm (by omega)
      · have hDv := fun w' => divides_no A n c s w' (by omega) (by omega) hm (by omega)
        exact ChunkPieces_bad A n c (s : Int) w (by omega) (fun w' => All_no A n c _ w' hDv) (fun w' => Split_no A n c _ w' hDv)
    · have hDv := fun w' => divides_size A n c x w' hx
      exact ChunkPieces_bad A n c x w (by omega) (fun w' => All_no A n c _ w' hDv) (fun w' => Split_no A n c _ w' hDv)
end Go.Proofs.Ytljjbphmglbhnaa
