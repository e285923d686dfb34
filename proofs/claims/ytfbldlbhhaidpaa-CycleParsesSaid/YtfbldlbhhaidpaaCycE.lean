/-
  Contract of cycle.Text, over the landed code.
-/
import Derived.Test.YtfbldlbhhaidpaaCycF2
import Derived.Test.YtfbldlbhhaidpaaBuilder
import Derived.Test.YtfbldlbhhaidpaaCRow
namespace Go.Proofs.Ytfbldlbhhaidpaa
open Go.RowKit
set_option maxRecDepth 100000

/-- The byte of a constant text at a place. -/
theorem index_const (s : ByteArray) (L : List Nat) (hL : bl s = L) (k : IntKind) (i : Nat) (j : Int) (hj : (i : Int) = j) (x : Nat) (h : L[i]? = some x) (w : World) :
    (Instr.index 9 (.string s) (.int k j)).run Try.prog w = .ok (.int .u8 (x : Int)) w := by
  subst hj
  have hi : i < s.size := by
    rcases Nat.lt_or_ge i s.size with h1 | h1
    · exact h1
    · rw [← hL, List.getElem?_eq_none (by rw [bl_length]; exact h1)] at h; cases h
  rw [run_index_string w _ s k _ Try.underlying9, dif_pos ⟨by omega, by omega⟩]
  rw [← hL, bl_at hi] at h
  injection h with h
  simp only [Int.toNat_natCast]
  rw [h]
theorem letter_at {k : Int} (h : 1 ≤ k ∧ k ≤ 4) : ([99, 97, 119, 114] : List Nat)[(k - 1).toNat]? = some (letB k) := by
  have h4 : k = 1 ∨ k = 2 ∨ k = 3 ∨ k = 4 := by omega
  rcases h4 with rfl | rfl | rfl | rfl <;> rfl
theorem digit_at : ∀ n, n < 16 → ([48, 49, 50, 51, 52, 53, 54, 55, 56, 57, 97, 98, 99, 100, 101, 102] : List Nat)[n]? = some (hexB n) := by decide
theorem CRow.apart {B b g : Nat} {w w' : World} {cs : Array Value} {T : TypeId} (h : CRow w g T cs) (ha : Apart B b w w') (hb : g ≠ b) (hT : T ≠ 5) : CRow w' g T cs := ha.cells h.row hb hT

/-- The text of the cycles and no error; or no text and ErrArg. -/
def TextsCy (l : List Cy) (w : World) (e : Ending) (w' : World) : Prop :=
  Below w.heap.size w w' ∧
  ((okC l = true ∧ e = .returned (.tuple #[.string (str (textL l)), .int .i64 0])) ∨
   (okC l = false ∧ e = .returned (.tuple #[.string ⟨#[]⟩, .int .i64 2])))

set_option maxHeartbeats 4000000 in
theorem Text_any (A : Option Addr) (n c : Nat) (l : List Cy) (w : World) (hr : RC w A n l) (hn : n ≤ 16777216) :
    Calls Try.prog 8 #[.slice A n c] w (TextsCy l w) := by
  have HR := Lib.hid hr
  have hlen := Lib.hid hr.len
  have h256 := Lib.hid hr.b256
  have HL4 := Lib.hid (fun k => textL_length (l.take k))
  clear hr
  have B0 := Lib.hid (below_new w (.cells #[.pointer none, .slice none 0 0] 44))
  have HG := Lib.hid (fun m h => Grow_is w.heap.size w.heap.size m (w.alloc (.cells #[.pointer none, .slice none 0 0] 44)) (Nat.le_refl _) (heap_alloc_new _ _) B0.out.size h)
  go_enter Try.func8, Try.ntmps8
  go_wp2_with fail
  have HGn := HG.out (n * 4) (by omega)
  rw [show ((n * 4 : Nat) : Int) = (n : Int) * 4 by omega] at HGn
  refine HGn.mono ?_
  rintro _ w1 ⟨rfl, s1, b1⟩
  have S1 := Lib.hid s1
  have B1 := Lib.hid (B0.out.trans b1)
  clear HGn HG B0 s1 b1
  go_wp2
  go_loopw [16] (fun i wr => ∃ k : Nat, k ≤ n ∧ i = .int .i64 (k : Int) ∧ Hid (okC (l.take k) = true) ∧ Hid (SBld w.heap.size w.heap.size (textL (l.take k)) wr) ∧ Hid (Below w.heap.size w wr)) (fun i _ => n - (intOf i).toNat)
  case atStart => exact ⟨0, Nat.zero_le _, rfl, rfl, S1, B1⟩
  case round =>
    obtain ⟨k, hk, rfl, HK, HS, HB⟩ := hrel
    by_cases hlt : k < n
    · obtain ⟨b1, o1, x, rfl, hb1, HX, ⟨xi1, xi2, xi3⟩, c0, c1⟩ := (HR.out.below HB.out).at_ hlt
      have hlk := HL4.out k
      rw [List.length_take, hlen.out, Nat.min_eq_left (by omega)] at hlk
      have HTk := Lib.hid (take_snoc HX.out)
      have hb0 := HS.out.lt
      have hgb : wr.heap.size ≠ w.heap.size := by omega
      obtain ⟨xk, xb⟩ := x
      simp only at c0 c1 xi1 xi2 xi3
      have SR := Lib.hid (HS.out.alloc (.cells #[.int .i64 xk, .int .u8 (xb : Int)] 31))
      have TR := Lib.hid (CRow.new wr #[.int .i64 xk, .int .u8 (xb : Int)] 31)
      have BR := Lib.hid (HB.out.trans ((below_new wr (.cells #[.int .i64 xk, .int .u8 (xb : Int)] 31)).mono HB.out.size))
      have hok : okC (l.take (k + 1)) = okK xk := by
        rw [HTk.out, okC_append, HK.out, Bool.true_and]
        simp [okC]
      cases hk1 : okK xk
      · have HE := Lib.hid (show okC l = false by
          cases hc : okC l with
          | false => rfl
          | true =>
            have h2 := okC_iff.1 hc ⟨xk, xb⟩ (List.mem_of_getElem? HX.out)
            rw [okK_iff.2 h2] at hk1
            cases hk1)
        go_wp2_with fail
        refine (Right_any xk xb _).mono ?_
        rintro _ w2 ⟨rfl, h2⟩
        rw [hk1]
        have B2 := Lib.hid (BR.out.trans (h2.mono BR.out.size))
        clear h2
        go_wp2
        go_ret2
        exact ⟨B2.out, .inr ⟨HE.out, rfl⟩⟩
      · have HK2 := Lib.hid (hok.trans hk1)
        have hk4 := okK_iff.1 hk1
        obtain ⟨a, ha⟩ : ∃ a, letB xk = a := ⟨_, rfl⟩
        obtain ⟨d1, hd1⟩ : ∃ d, hexB (xb / 16) = d := ⟨_, rfl⟩
        obtain ⟨d2, hd2⟩ : ∃ d, hexB (xb % 16) = d := ⟨_, rfl⟩
        have i1 := index_const ⟨#[99, 97, 119, 114]⟩ _ rfl .i64 _ (xk - 1) (Int.toNat_of_nonneg (by omega)) _ (letter_at hk4)
        have i2 := index_const ⟨#[48, 49, 50, 51, 52, 53, 54, 55, 56, 57, 97, 98, 99, 100, 101, 102]⟩ _ rfl .u8 (xb / 16) ((xb : Int) / 16) (by omega) _ (digit_at _ (by omega))
        have i3 := index_const ⟨#[48, 49, 50, 51, 52, 53, 54, 55, 56, 57, 97, 98, 99, 100, 101, 102]⟩ _ rfl .u8 (xb % 16) ((xb : Int) % 16) (by omega) _ (digit_at _ (by omega))
        rw [ha] at i1
        rw [hd1] at i2
        rw [hd2] at i3
        have htx : tx ⟨xk, xb⟩ = [a, d1, d2] := by unfold tx; simp only; rw [ha, hd1, hd2]
        go_wp2_with fail
        refine (Right_any xk xb _).mono ?_
        rintro _ w2 ⟨rfl, h2⟩
        rw [hk1]
        have B2 := Lib.hid (BR.out.trans (h2.mono BR.out.size))
        have T2 := Lib.hid (TR.out.below h2)
        have SR := Lib.hid (show SBld w.heap.size w.heap.size (textL (l.take k)) w2 from SR.out.below h2)
        clear h2 HS TR BR
        by_cases h0 : k = 0
        · subst h0
          have HT := Lib.hid (show textL (l.take (0 + 1)) = textL (l.take 0) ++ [a] ++ [d1] ++ [d2] by
            rw [HTk.out]
            show textL [_] = _
            rw [textL_one, htx]
            rfl)
          have z0 := T2.out.cell_at 0 _ rfl
          have z1 := T2.out.cell_at 1 _ rfl
          go_wp2_with fail
          refine (WriteByte_is w.heap.size w.heap.size (textL (l.take 0)) a _ SR.out (by first | omega | (simp only [List.length_append, List.length_cons, List.length_nil]; omega)) (B2.out.size)).mono ?_
          rintro _ v3 ⟨rfl, s3, a3⟩
          have S3 := Lib.hid s3
          have T3 := Lib.hid (T2.out.apart a3 (by omega) (by decide))
          have B3 := Lib.hid (B2.out.trans a3.1)
          have z0 := T3.out.cell_at 0 _ rfl
          have z1 := T3.out.cell_at 1 _ rfl
          clear s3 a3
          go_wp2_with fail
          refine (WriteByte_is w.heap.size w.heap.size (textL (l.take 0) ++ [a]) d1 _ S3.out (by first | omega | (simp only [List.length_append, List.length_cons, List.length_nil]; omega)) (B3.out.size)).mono ?_
          rintro _ v4 ⟨rfl, s4, a4⟩
          have S4 := Lib.hid s4
          have T4 := Lib.hid (T3.out.apart a4 (by omega) (by decide))
          have B4 := Lib.hid (B3.out.trans a4.1)
          have z0 := T4.out.cell_at 0 _ rfl
          have z1 := T4.out.cell_at 1 _ rfl
          clear s4 a4
          go_wp2_with fail
          refine (WriteByte_is w.heap.size w.heap.size (textL (l.take 0) ++ [a] ++ [d1]) d2 _ S4.out (by first | omega | (simp only [List.length_append, List.length_cons, List.length_nil]; omega)) (B4.out.size)).mono ?_
          rintro _ v5 ⟨rfl, s5, a5⟩
          have S5 := Lib.hid s5
          have T5 := Lib.hid (T4.out.apart a5 (by omega) (by decide))
          have B5 := Lib.hid (B4.out.trans a5.1)
          have z0 := T5.out.cell_at 0 _ rfl
          have z1 := T5.out.cell_at 1 _ rfl
          clear s5 a5
          have HS := Lib.hid (show SBld w.heap.size w.heap.size (textL (l.take (0 + 1))) v5 by rw [HT.out]; exact S5.out)
          clear z0 z1
          go_wp2
          go_roundw
          case rel => exact ⟨0 + 1, by omega, by go_num, HK2, HS, B5⟩
          case measure => simp [intOf]; omega
        · have e0 : 0 < k := by omega
          have HT := Lib.hid (show textL (l.take (k + 1)) = textL (l.take k) ++ [32] ++ [a] ++ [d1] ++ [d2] by
            rw [HTk.out, textL_snoc _ _ (by intro h; have := congrArg List.length h; rw [List.length_take, hlen.out] at this; simp at this; omega), htx]
            simp)
          have z0 := T2.out.cell_at 0 _ rfl
          have z1 := T2.out.cell_at 1 _ rfl
          go_wp2_with fail
          refine (WriteByte_is w.heap.size w.heap.size (textL (l.take k)) 32 _ SR.out (by first | omega | (simp only [List.length_append, List.length_cons, List.length_nil]; omega)) (B2.out.size)).mono ?_
          rintro _ v3 ⟨rfl, s3, a3⟩
          have S3 := Lib.hid s3
          have T3 := Lib.hid (T2.out.apart a3 (by omega) (by decide))
          have B3 := Lib.hid (B2.out.trans a3.1)
          have z0 := T3.out.cell_at 0 _ rfl
          have z1 := T3.out.cell_at 1 _ rfl
          clear s3 a3
          go_wp2_with fail
          refine (WriteByte_is w.heap.size w.heap.size (textL (l.take k) ++ [32]) a _ S3.out (by first | omega | (simp only [List.length_append, List.length_cons, List.length_nil]; omega)) (B3.out.size)).mono ?_
          rintro _ v4 ⟨rfl, s4, a4⟩
          have S4 := Lib.hid s4
          have T4 := Lib.hid (T3.out.apart a4 (by omega) (by decide))
          have B4 := Lib.hid (B3.out.trans a4.1)
          have z0 := T4.out.cell_at 0 _ rfl
          have z1 := T4.out.cell_at 1 _ rfl
          clear s4 a4
          go_wp2_with fail
          refine (WriteByte_is w.heap.size w.heap.size (textL (l.take k) ++ [32] ++ [a]) d1 _ S4.out (by first | omega | (simp only [List.length_append, List.length_cons, List.length_nil]; omega)) (B4.out.size)).mono ?_
          rintro _ v5 ⟨rfl, s5, a5⟩
          have S5 := Lib.hid s5
          have T5 := Lib.hid (T4.out.apart a5 (by omega) (by decide))
          have B5 := Lib.hid (B4.out.trans a5.1)
          have z0 := T5.out.cell_at 0 _ rfl
          have z1 := T5.out.cell_at 1 _ rfl
          clear s5 a5
          go_wp2_with fail
          refine (WriteByte_is w.heap.size w.heap.size (textL (l.take k) ++ [32] ++ [a] ++ [d1]) d2 _ S5.out (by first | omega | (simp only [List.length_append, List.length_cons, List.length_nil]; omega)) (B5.out.size)).mono ?_
          rintro _ v6 ⟨rfl, s6, a6⟩
          have S6 := Lib.hid s6
          have T6 := Lib.hid (T5.out.apart a6 (by omega) (by decide))
          have B6 := Lib.hid (B5.out.trans a6.1)
          have z0 := T6.out.cell_at 0 _ rfl
          have z1 := T6.out.cell_at 1 _ rfl
          clear s6 a6
          have HS := Lib.hid (show SBld w.heap.size w.heap.size (textL (l.take (k + 1))) v6 by rw [HT.out]; exact S6.out)
          clear z0 z1
          go_wp2
          go_roundw
          case rel => exact ⟨k + 1, by omega, by go_num, HK2, HS, B6⟩
          case measure => simp [intOf]; omega
    · obtain rfl : k = n := by omega
      have hz := HB.out.size
      have HS2 := Lib.hid (show SBld w.heap.size w.heap.size (textL l) wr by
        have h := HS.out
        rw [List.take_of_length_le (by rw [hlen.out]; exact Nat.le_refl _)] at h
        exact h)
      have HK2 := Lib.hid (show okC l = true by
        have h := HK.out
        rw [List.take_of_length_le (by rw [hlen.out]; exact Nat.le_refl _)] at h
        exact h)
      go_wp2_with fail
      refine (String_is w.heap.size w.heap.size (textL l) _ HS2.out (fun x hx => by have := textL_lt h256.out x hx; omega) hz).mono ?_
      rintro _ w2 ⟨rfl, h2⟩
      have B2 := Lib.hid (HB.out.trans h2)
      clear h2
      go_wp2
      go_ret2
      exact ⟨B2.out, .inl ⟨HK2.out, rfl⟩⟩
end Go.Proofs.Ytfbldlbhhaidpaa
