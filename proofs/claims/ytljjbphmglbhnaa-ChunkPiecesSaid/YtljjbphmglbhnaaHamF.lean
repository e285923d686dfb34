/-
  Contracts of the document's Places and gather (package incunableref05), over the landed code's translation.
-/
import Derived.Test.YtljjbphmglbhnaaHamE
import Derived.Test.YtljjbphmglbhnaaList
import Derived.Test.YtljjbphmglbhnaaOwn
namespace Go.Proofs.Ytljjbphmglbhnaa
open Go.RowKit

theorem Power_is (x : Int) (n : Nat) (v : Bool) (w : World) (hx : x = (n : Int)) (hv : powB n = v) (h : n ≤ 4611686018427387904) :
    Calls Try.prog 35 #[.int .i64 x] w fun e w' => e = .returned (.bool v) ∧ w = w' := by
  subst hx hv
  exact Power_any n w h
theorem places_bd (n : Nat) (h : n ≤ 4096) : ∀ x ∈ places n, -9223372036854775808 ≤ x ∧ x ≤ 9223372036854775807 := by
  intro x hx
  simp only [places, List.mem_map, List.mem_range] at hx
  obtain ⟨k, hk, rfl⟩ := hx
  have := place_lt13 k (by omega)
  omega

set_option maxHeartbeats 1000000 in
theorem Places_any (n : Nat) (w : World) (h : n ≤ 4096) :
    Calls Try.prog 36 #[.int .i64 (n : Int)] w (MakesI (places n) w) := by
  obtain ⟨i0, ti, tz0, tz1, tz2⟩ := info_parts info_int
  have hN := place_lt13 n h
  obtain ⟨N, HN⟩ : ∃ N, Hid (place n = N) := ⟨_, rfl⟩
  have hN2 : N < 8192 := by rw [← HN.out]; exact hN
  clear hN
  go_enter Try.func36, Try.ntmps36
  go_wp2
  go_loopw [3, 4] (fun v p wr => ∃ m P c : Nat, ∃ A : Option Addr, m ≤ n ∧ P ≤ N ∧ v = .slice A m c ∧ p = .int .i64 (P : Int) ∧ Hid (Met m P) ∧ Hid (wr.ownsRow w.heap.size 3 1 v m (I64 (places m))) ∧ Hid (Below w.heap.size w wr)) (fun _ p _ => N + 2 - (intOf p).toNat)
  case atStart => exact ⟨0, 3, 0, none, Nat.zero_le _, by rw [← HN.out]; exact place_ge n, rfl, rfl, Met.start, World.ownsRow_nil _ _ _ _, Below.refl _ _⟩
  case round =>
    obtain ⟨m, P, c, A, hm, hP, rfl, rfl, HM, HO, HB⟩ := hrel
    by_cases hlt : m < n
    · have hPN : P < N := by
        have h1 := HM.out.le
        have h2 := place_mono hlt
        have h3 := HN.out
        omega
      cases hb : powB P
      · have HY := Lib.hid (HM.out.yes hb)
        have HPO := fun w' => Lib.hid (Power_is (P : Int) P false w' rfl hb (by omega))
        clear hb
        go_wp2_with (first | (go_at_call 35; refine (HPO _).out.mono ?_; rintro e w' ⟨rfl, rfl⟩) | (at_builtin; refine wpList_append_own _ rfl (.tmp 14) (.tmp 16) _ rfl w.heap.size 3 i0 _ 1 8 Try.underlying54 ti tz0 tz1 tz2 rfl (by decide) _ _ _ rfl (HO.out.alloc _) ⟨wr.heap.size, 0, none⟩ 1 1 [_] rfl rfl (one_new _ _ _) ?c1 ?c2 ?c3 ?c4 ?_))
        case c1 => intro u hu; simp at hu; subst hu; rfl
        case c2 => unfold maxLen; omega
        case c3 => omega
        case c4 => have := HB.out.size; simp; omega
        · intro v' w2 hown' hgrow _
          have HO2 := Lib.hid (show w2.ownsRow w.heap.size 3 1 v' (m + 1) (I64 (places (m + 1))) by
            rw [places_succ, HY.out.1, I64_append]
            exact hown')
          have HB2 := Lib.hid ((HB.out.alloc HB.out.size _).grown hgrow (by have := HB.out.size; simp; omega) (fun j hj => (HO.out.lt j hj).1))
          obtain ⟨A2, c2, rfl⟩ := own_form hown'
          clear hown' hgrow HPO
          go_wp2
          go_roundw
          case rel => exact ⟨m + 1, P + 1, c2, A2, by omega, by omega, rfl, by go_num, HY.out.2, HO2, HB2⟩
          case measure => simp [intOf]; omega
      · have HY := Lib.hid (HM.out.no hb).1
        have HPO := fun w' => Lib.hid (Power_is (P : Int) P true w' rfl hb (by omega))
        clear hb
        go_wp2_with (first | (go_at_call 35; refine (HPO _).out.mono ?_; rintro e w' ⟨rfl, rfl⟩))
        clear HPO
        go_roundw
        case rel => exact ⟨m, P + 1, c, A, hm, by omega, rfl, by go_num, HY, HO, HB⟩
        case measure => simp [intOf]; omega
    · obtain rfl : m = n := by omega
      go_wp2
      go_ret
      refine ⟨A, c, by rw [places_length]; rfl, ?_, HB.out⟩
      rw [places_length]
      exact R64.own HO.out (places_bd m h)

/-- What the bits that are 1 come to: the exclusive or of their positions, and their number. -/
theorem bis_bd (l : List Nat) : ∀ x ∈ bis (bitsB l), -9223372036854775808 ≤ x ∧ x ≤ 9223372036854775807 := by
  intro x hx
  simp only [bis, List.mem_map] at hx
  obtain ⟨b, _, rfl⟩ := hx
  have := bi_01 b
  omega
theorem bis_at (l : List Nat) (i : Nat) (h : i < 8 * l.length) : (bis (bitsB l))[i]? = some (bi (getN l i)) := by
  unfold bis
  rw [List.getElem?_map, bitsB_get l i h]
  rfl

set_option maxHeartbeats 1000000 in
theorem gather_any (A : Option Addr) (n c : Nat) (l : List Nat) (w : World) (hr : R8 w A n l) (hn : n ≤ 512) :
    Calls Try.prog 31 #[.slice A n c] w (Gives (.tuple #[.int .i64 (xL l : Int), .int .i64 (nL l : Int)]) w) := by
  have hl := hr.len
  have hx : xL l = gx (getN l) (8 * n) := by unfold xL; rw [hl]
  have hy : nL l = gn (getN l) (8 * n) := by unfold nL; rw [hl]
  have HXY := Lib.hid (And.intro hx hy)
  have hbl : (bis (bitsB l)).length = 8 * n := by rw [bis_length, bitsB_length, hl]
  have HBL := Lib.hid hbl
  have HL := Lib.hid hl
  clear hx hy hbl hl
  go_enter Try.func31, Try.ntmps31
  go_wp2_with fail
  refine (List_any _ _ _ l _ hr (by omega)).mono ?_
  rintro e w1 ⟨A1, c1, rfl, ho1, hb1⟩
  have h1 : R64 w1 A1 (8 * n) (bis (bitsB l)) := by
    have := R64.own ho1 (bis_bd l)
    rwa [HBL.out] at this
  have e1 := HBL.out
  rw [e1]
  clear e1
  have H1 := Lib.hid h1
  have HB1 := Lib.hid hb1
  clear h1 hb1 ho1
  have hP : ∀ w', Calls Try.prog 36 #[.int .i64 (((8 * n : Nat)) : Int)] w' (MakesI (places (8 * n)) w') := fun w' => Places_any (8 * n) w' (by omega)
  have hm4 : 8 * n ≤ 4096 := by omega
  generalize 8 * n = m at *
  go_wp2_with fail
  refine (hP _).mono ?_
  rintro e w2 hM
  obtain ⟨A2, c2, rfl, H2, HB2⟩ := hM.at_ (places_length m)
  clear hM hP
  have H1b := Lib.hid (H1.out.below HB2.out)
  have HBB := Lib.hid (below_step HB1.out HB2.out)
  go_wp2
  go_loop [6, 7, 8] (fun x y i => ∃ X Y k : Nat, k ≤ m ∧ x = .int .i64 (X : Int) ∧ y = .int .i64 (Y : Int) ∧ i = .int .i64 (k : Int) ∧ X < 8192 ∧ Y ≤ k ∧ Hid (X = gx (getN l) k ∧ Y = gn (getN l) k)) (fun _ _ i => m - (intOf i).toNat)
  case atStart => exact ⟨0, 0, 0, Nat.zero_le _, rfl, rfl, rfl, by omega, by omega, rfl, rfl⟩
  case round =>
    obtain ⟨X, Y, k, hk, rfl, rfl, rfl, hX, hY, HV⟩ := hrel
    by_cases hlt : k < m
    · obtain ⟨b1, o1, v, rfl, g1, HG1, _, _, hc1⟩ := H1b.out.at_ hlt
      obtain ⟨b2, o2, p, rfl, g2, HG2, _, _, hc2⟩ := H2.out.at_ hlt
      have hp : p = ((place k : Nat) : Int) := by
        have := HG2.out
        rw [places_at m k hlt] at this
        injection this with this
        exact this.symm
      have hv : v = bi (getN l k) := by
        have := HG1.out
        rw [bis_at l k (by have := HBL.out; rw [bis_length, bitsB_length] at this; omega)] at this
        injection this with this
        exact this.symm
      have hpl := place_lt13 k (by omega)
      have hgx := gx_succ (getN l) k
      have hgn := gn_succ (getN l) k
      rw [← HV.out.1] at hgx
      rw [← HV.out.2] at hgn
      cases hb : getN l k
      · rw [hb] at hv hgx hgn
        simp only [Bool.false_eq_true, if_false] at hgx hgn
        have HN := Lib.hid (show X = gx (getN l) (k + 1) ∧ Y = gn (getN l) (k + 1) from ⟨hgx.symm, hgn.symm⟩)
        have hv0 : v = 0 := hv
        subst hv0
        clear hgx hgn hb hv hp hpl hc2
        go_wp2
        go_round
        case rel => exact ⟨X, Y, k + 1, by omega, rfl, rfl, by go_num, hX, by omega, HN⟩
        case measure => simp [intOf]; omega
      · rw [hb] at hv hgx hgn
        simp only [if_true] at hgx hgn
        subst hp
        have hv1 : v = 1 := hv
        subst hv1
        have HN := Lib.hid (show X ^^^ place k = gx (getN l) (k + 1) ∧ Y + 1 = gn (getN l) (k + 1) from ⟨hgx.symm, hgn.symm⟩)
        have hXP := fun w' => xor_any X (place k) w' hX hpl
        have hlt2 := xor_lt13 hX hpl
        clear hgx hgn hb hv
        generalize X ^^^ place k = Z at *
        generalize place k = P at *
        go_wp2_with (go_at_call 34; refine (hXP _).mono ?_; rintro e w' ⟨rfl, rfl⟩)
        go_round
        case rel => exact ⟨Z, Y + 1, k + 1, by omega, rfl, by go_num, by go_num, hlt2, by omega, HN⟩
        case measure => simp [intOf]; omega
    · obtain rfl : k = m := by omega
      go_wp2
      go_ret2
      refine ⟨?_, HBB.out⟩
      rw [HXY.out.1, HXY.out.2, ← HV.out.1, ← HV.out.2]
      rfl
end Go.Proofs.Ytljjbphmglbhnaa
