/-
  Contracts of the document's own Diff and Ints (package incunableref01), over the landed code's translation.
-/
import Derived.Test.YtladbcbgflkpaaaRefC
namespace Go.Proofs.Ytladbcbgflkpaaa
open Go.RowKit

theorem bi_ne {p q : Bool} (h : p ≠ q) : (bi p != bi q) = true := by cases p <;> cases q <;> simp_all [bi]

set_option maxHeartbeats 2000000 in
theorem RefDiff_any (A B : Option Addr) (n c m d : Nat) (a b : List Nat) (w : World) (ha : R8 w A n a) (hb : R8 w B m b) (hn : n ≤ 1099511627776) (hm : m ≤ 1099511627776) :
    Calls Try.prog 21 #[.slice A n c, .slice B m d] w (MakesI (diffL a b) w) := by
  obtain ⟨i0, ti, tz0, tz1, tz2⟩ := info_parts info_int
  have la := Lib.hid ha.len
  have lb := Lib.hid hb.len
  have HA := Lib.hid ha
  have HB := Lib.hid hb
  clear ha hb
  go_enter Try.func21, Try.ntmps21
  go_wp2_with fail
  refine (List_any _ _ _ a _ HA.out hn).mono ?_
  rintro e w1 ⟨A1, c1, rfl, hown1, hb1⟩
  have e1 : (bis (bitsB a)).length = 8 * n := by rw [bis_length, bitsB_length, la.out]
  rw [e1] at hown1
  rw [e1]
  clear e1
  have R1 := Lib.hid (show R64 w1 A1 (8 * n) (bis (bitsB a)) from ⟨Rd.own hown1, bis_range _⟩)
  have B1 := Lib.hid hb1
  have HB1 := Lib.hid (HB.out.below hb1)
  clear hown1 hb1
  go_wp2_with fail
  refine (List_any _ _ _ b _ HB1.out hm).mono ?_
  rintro e w2 ⟨A2, c2, rfl, hown2, hb2⟩
  have e1 : (bis (bitsB b)).length = 8 * m := by rw [bis_length, bitsB_length, lb.out]
  rw [e1] at hown2
  rw [e1]
  clear e1
  have R2 := Lib.hid (show R64 w2 A2 (8 * m) (bis (bitsB b)) from ⟨Rd.own hown2, bis_range _⟩)
  have R12 := Lib.hid (R1.out.below hb2)
  have C2 := Lib.hid (below_step B1.out hb2)
  clear hown2 hb2 R1 B1 HB1 HA HB
  obtain ⟨L, hL⟩ : ∃ L, L = 8 * n := ⟨_, rfl⟩
  obtain ⟨M, hM⟩ : ∃ M, M = 8 * m := ⟨_, rfl⟩
  rw [← hL] at R12 ⊢
  rw [← hM] at R2 ⊢
  have hLn : L ≤ 8796093022208 := by omega
  have hMn : M ≤ 8796093022208 := by omega
  have HL := Lib.hid hL
  have HM := Lib.hid hM
  clear hL hM
  go_wp2
  go_loopw [7, 8] (fun v i wr => ∃ k : Nat, k ≤ min L M ∧ i = .int .i64 k ∧ Hid (wr.ownsRow w2.heap.size 3 1 v (diffB (bitsB a) (bitsB b) k).length (I64 (diffB (bitsB a) (bitsB b) k))) ∧ Hid (Below w2.heap.size w2 wr)) (fun _ i _ => min L M - (intOf i).toNat)
  case atStart => exact ⟨0, Nat.zero_le _, rfl, World.ownsRow_nil _ _ _ _, Below.refl _ _⟩
  case round =>
    obtain ⟨k, hk, rfl, HO, HBr⟩ := hrel
    have RX := Lib.hid (R12.out.below HBr.out)
    have RY := Lib.hid (R2.out.below HBr.out)
    have hdl := diffB_length (bitsB a) (bitsB b) k
    by_cases h1 : k < L
    · have d1 : decide ((k : Int) < (L : Int)) = true := decide_eq_true (by omega)
      by_cases h2 : k < M
      · have d2 : decide ((k : Int) < (M : Int)) = true := decide_eq_true (by omega)
        obtain ⟨b1, o1, x, rfl, g1, HX, hx0, hx1, hc1⟩ := bis_at RX.out h1
        obtain ⟨b2, o2, y, rfl, g2, HY, hy0, hy1, hc2⟩ := bis_at RY.out h2
        by_cases hxy : x = y
        · subst hxy
          have HZ := Lib.hid (diffB_no _ _ k x HX.out HY.out)
          go_wp2
          go_quiet (fail)
          go_wp2
          go_roundw
          case rel => exact ⟨k + 1, by omega, by go_num, by rw [HZ.out]; exact HO, below_drewN HBr.out _⟩
          case measure => simp [intOf]; omega
        · have hne := bi_ne hxy
          have HZ := Lib.hid (diffB_yes _ _ k x y HX.out HY.out hxy)
          clear hxy
          go_wp2
          go_quiet (fail)
          obtain ⟨w9, hw9⟩ : ∃ w9, w9 = wr.drewN nq := ⟨_, rfl⟩
          have HO9 := Lib.hid (show w9.ownsRow w2.heap.size 3 1 _ (diffB (bitsB a) (bitsB b) k).length (I64 (diffB (bitsB a) (bitsB b) k)) by rw [hw9]; exact HO.out)
          have HB9 := Lib.hid (show Below w2.heap.size w2 w9 by rw [hw9]; exact below_drewN HBr.out _)
          rw [← hw9]
          clear hw9
          go_wp2_with (at_builtin; refine wpList_append_own _ rfl (.tmp 34) (.tmp 36) _ rfl w2.heap.size 3 i0 _ 1 8 Try.underlying23 ti tz0 tz1 tz2 rfl (by decide) _ _ _ rfl (HO9.out.alloc _) ⟨w9.heap.size, 0, none⟩ 1 1 [_] rfl rfl (one_new _ _ _) ?c5 ?c6 ?c7 ?c8 ?_)
          case c5 => first | rfl | (intro u hu; simp at hu; subst hu; rfl)
          case c6 => unfold maxLen; omega
          case c7 => omega
          case c8 => have := HB9.out.size; simp; omega
          · intro v' w3 hown' hgrow _
            have HO2 := Lib.hid (show w3.ownsRow w2.heap.size 3 1 v' (diffB (bitsB a) (bitsB b) (k + 1)).length (I64 (diffB (bitsB a) (bitsB b) (k + 1))) by
              rw [HZ.out, I64_append, List.length_append]
              exact hown')
            have HB2 := Lib.hid ((HB9.out.alloc HB9.out.size _).grown hgrow (by have := HB9.out.size; simp; omega) (fun j hj => (HO9.out.lt j hj).1))
            clear hown' hgrow
            go_wp2
            go_roundw
            case rel => exact ⟨k + 1, by omega, by go_num, HO2, HB2⟩
            case measure => simp [intOf]; omega
      · have d2 : decide ((k : Int) < (M : Int)) = false := decide_eq_false (by omega)
        obtain ⟨A5, c5, rfl⟩ := own_form HO.out
        have HE := Lib.hid (show diffB (bitsB a) (bitsB b) k = diffL a b by
          rw [show k = 8 * min a.length b.length by have := la.out; have := lb.out; have := HL.out; have := HM.out; omega, diffB_eq])
        have HQ := Lib.hid (diffB_mem (bitsB a) (bitsB b) k)
        go_wp2
        go_ret
        refine ⟨A5, c5, by rw [← HE.out]; rfl, ?_, below_step C2.out HBr.out⟩
        rw [← HE.out]
        exact ⟨Rd.own HO.out, fun q hq => by have := HQ.out q hq; omega⟩
    · have d1 : decide ((k : Int) < (L : Int)) = false := decide_eq_false (by omega)
      obtain ⟨A5, c5, rfl⟩ := own_form HO.out
      have HE := Lib.hid (show diffB (bitsB a) (bitsB b) k = diffL a b by
        rw [show k = 8 * min a.length b.length by have := la.out; have := lb.out; have := HL.out; have := HM.out; omega, diffB_eq])
      have HQ := Lib.hid (diffB_mem (bitsB a) (bitsB b) k)
      go_wp2
      go_ret
      refine ⟨A5, c5, by rw [← HE.out]; rfl, ?_, below_step C2.out HBr.out⟩
      rw [← HE.out]
      exact ⟨Rd.own HO.out, fun q hq => by have := HQ.out q hq; omega⟩

set_option maxHeartbeats 400000 in
theorem Ints_any (A B : Option Addr) (n c m d : Nat) (a b : List Int) (w : World) (ha : R64 w A n a) (hb : R64 w B m b) (hn : n ≤ 1099511627776) (hm : m ≤ 1099511627776) :
    Calls Try.prog 19 #[.slice A n c, .slice B m d] w (Quiet (.bool (decide (a = b))) w) := by
  have la := Lib.hid ha.len
  have lb := Lib.hid hb.len
  by_cases hnm : n = m
  · subst hnm
    go_enter Try.func19, Try.ntmps19
    go_wp2
    go_loopw [5] (fun i wr => ∃ k : Nat, k ≤ n ∧ i = .int .i64 k ∧ Hid (a.take k = b.take k) ∧ ∃ q, wr = w.drewN q) (fun i _ => n - (intOf i).toNat)
    case atStart => exact ⟨0, Nat.zero_le _, rfl, by simp [Hid], 0, rfl⟩
    case round =>
      obtain ⟨k, hk, rfl, HE, q, rfl⟩ := hrel
      by_cases hlt : k < n
      · obtain ⟨b1, o1, x, rfl, h1, HX, _, _, hc1⟩ := ha.at_ hlt
        obtain ⟨b2, o2, y, rfl, h2, HY, _, _, hc2⟩ := hb.at_ hlt
        by_cases hxy : x = y
        · subst hxy
          have HT := Lib.hid (show a.take (k + 1) = b.take (k + 1) by rw [take_snoc HX.out, take_snoc HY.out, HE.out])
          go_wp2
          go_quiet (fail)
          go_wp2
          go_roundw
          case rel => exact ⟨k + 1, by omega, by go_num, HT, _, rfl⟩
          case measure => simp [intOf]; omega
        · have hne : (x != y) = true := by simpa using hxy
          have HF := Lib.hid (show decide (a = b) = false from decide_eq_false (take_ne HX.out HY.out hxy))
          go_wp2
          go_quiet (fail)
          go_wp2
          go_ret
          exact ⟨ret_bool HF.out.symm, _, World.drewN_drewN _ _ _⟩
      · go_wp2
        go_ret
        refine ⟨ret_bool (decide_eq_true ?_).symm, _, rfl⟩
        have e := HE.out
        rwa [List.take_of_length_le (by have := la.out; omega), List.take_of_length_le (by have := lb.out; omega)] at e
  · have hne : ((n : Int) != (m : Int)) = true := by simp; omega
    have hF : decide (a = b) = false := decide_eq_false (by rintro rfl; have := la.out; have := lb.out; omega)
    rw [hF]; clear hF
    go_enter Try.func19, Try.ntmps19
    go_wp2
    go_ret
    exact ⟨rfl, 0, rfl⟩
end Go.Proofs.Ytladbcbgflkpaaa
