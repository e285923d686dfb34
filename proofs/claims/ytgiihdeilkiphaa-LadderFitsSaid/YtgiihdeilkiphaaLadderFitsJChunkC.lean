/-
  Contract of chunk.Decode, over the landed code.
-/
import Derived.Test.YtgiihdeilkiphaaLadderFitsJChunkB
import Derived.Test.YtgiihdeilkiphaaLadderFitsJ11
import Derived.Test.YtgiihdeilkiphaaLadderFitsJ4
namespace Go.Proofs.Ytgiihdeilkiphaa
open Go.RowKit
set_option maxRecDepth 100000

theorem verdict_bit_le (n d : Nat) (o : Bool) : (verdict n d o).2 ≤ n := by
  unfold verdict
  split
  · split
    · simp
    · split
      · simp; omega
      · simp
  · split <;> simp
/-- What raw bytes of a right length hold: the bytes, the word's two, the verdict. -/
theorem raw_parts (l : List Nat) (m : Nat) (hl : l.length = m + 2) (h0 : 1 ≤ m) (h1 : m ≤ 512) (hb : ∀ x ∈ l, x < 256) :
    ∃ x y s b, l.drop m = [x, y] ∧ l[m]? = some x ∧ l[m + 1]? = some y ∧ x < 256 ∧ y < 256 ∧ judgeL (l.take m) (x + 256 * y) = (s, b) ∧ decL l = decV (l.take m) (s, b) ∧ s ≤ 3 ∧ b ≤ 8 * m := by
  have hx : m < l.length := by omega
  have hy : m + 1 < l.length := by omega
  have e1 : endW l = l[m] + 256 * l[m + 1] := by
    unfold endW
    rw [show l.length - 2 = m by omega, List.getD_eq_getElem?_getD, List.getD_eq_getElem?_getD, List.getElem?_eq_getElem hx, List.getElem?_eq_getElem hy]
    rfl
  refine ⟨l[m], l[m + 1], (judgeL (l.take m) (endW l)).1, (judgeL (l.take m) (endW l)).2, ?_, List.getElem?_eq_getElem hx, List.getElem?_eq_getElem hy, hb _ (List.getElem_mem hx), hb _ (List.getElem_mem hy), by rw [← e1], ?_, judge_le _ _, ?_⟩
  · rw [List.drop_eq_getElem_cons hx, List.drop_eq_getElem_cons hy, List.drop_eq_nil_of_le (by omega)]
  · unfold decL
    rw [if_neg (by omega), show l.length - 2 = m by omega]
  · have := verdict_bit_le (8 * (l.take m).length) (xL (l.take m) ^^^ (endW l % 8192)) (decide ((nL (l.take m) + pop (endW l % 16384)) % 2 = 1))
    rw [List.length_take, Nat.min_eq_left (by omega)] at this
    unfold judgeL
    rw [List.length_take, Nat.min_eq_left (by omega)]
    exact this
theorem decL_no (l : List Nat) (h : l.length < 3 ∨ 514 < l.length) : decL l = ([], 0, 2) := by unfold decL; rw [if_pos h]

theorem ret_slice3 {A : Option Addr} {n m c : Nat} {f e : Int} (h : n = m) : Ending.returned (.tuple #[.slice A n c, .int .i64 f, .int .i64 e]) = .returned (.tuple #[.slice A m c, .int .i64 f, .int .i64 e]) := by rw [h]

theorem Decode_no_c (A : Option Addr) (n c : Nat) (w : World) (h : n < 3 ∨ 514 < n) (hn : n ≤ 9223372036854775807) :
    Calls Try.prog 51 #[.slice A n c] w (Ret3c [] 0 2 w) := by
  have hH := fun w' => holds_is ((n : Int) - 2) false w' (decide_eq_false (by omega))
  go_enter Try.func51, Try.ntmps51
  go_wp2_with (go_at_call 71; refine (hH _).mono ?_; rintro e w' ⟨rfl, rfl⟩)
  go_ret3
  exact ⟨none, 0, rfl, ⟨Rd.nil_, by simp⟩, fun _ => rfl, Nat.le_refl _, Below.refl _ _⟩

set_option maxHeartbeats 1000000 in
theorem Decode_yes_c (A : Option Addr) (n c m : Nat) (l : List Nat) (w : World) (hr : R8 w A n l) (hc : n ≤ c) (hn : n = m + 2) (h0 : 1 ≤ m) (h1 : m ≤ 512) :
    Calls Try.prog 51 #[.slice A n c] w (Ret3c (decL l).1 (decL l).2.1 (decL l).2.2 w) := by
  obtain ⟨i0, ti, tz0, tz1, tz2⟩ := info_parts info_u8
  obtain ⟨x, y, s, b, hxy, _, _, hx, hy, hj, hd, hs, hb⟩ := raw_parts l m (by rw [hr.len, hn]) h0 h1 hr.2
  have hsub : (n : Int) - 2 = (m : Int) := by omega
  have hH := fun w' => holds_is (m : Int) true w' (decide_eq_true (by omega))
  have HT := Lib.hid (hr.take_ m (by omega))
  have HU := Lib.hid (show R8 w (cutA A c m) 2 [x, y] by
    have := hr.cutA m c (by omega) hc
    rwa [hxy, show n - m = 2 by omega] at this)
  have HLt := Lib.hid (show (l.take m).length = m by rw [List.length_take, hr.len]; omega)
  have hJ : ∀ w', R8 w' A m (l.take m) → Calls Try.prog 72 #[.slice A m c, .int .u16 ((x + 256 * y : Nat) : Int)] w' (Gives (.tuple #[.int .i64 (s : Int), .int .i64 (b : Int), .int .i64 0]) w') := fun w' h => by
    have := Judge_any A m c (l.take m) (x + 256 * y) w' h h1 (by omega)
    rwa [hj] at this
  have hsl1 := run_slice_to (P := Try.prog) Try.underlying27 ti (by kernel_rfl) A n c m (by omega)
  have hsl2 := run_slice_from (P := Try.prog) Try.underlying27 ti (by kernel_rfl) A n c m (by omega)
  have hsl3 := run_sliceAt_to (P := Try.prog) Try.underlying27 ti (by kernel_rfl) A n c m (by omega)
  have hsl4 := run_sliceAt_from (P := Try.prog) Try.underlying27 ti (by kernel_rfl) A n c m (by omega)
  rw [show n - m = 2 by omega] at hsl2 hsl4
  have hWd : ∀ w', R8 w' (cutA A c m) 2 [x, y] → Calls Try.prog 73 #[.slice (cutA A c m) 2 (c - m)] w' (Quiet (.int .u16 ((x + 256 * y : Nat) : Int)) w') := fun w' h => wordOf_any _ _ x y w' h
  rw [hd]
  clear hd hj hxy hr hn
  generalize l.take m = d at *
  generalize cutA A c m = A2 at *
  generalize x + 256 * y = X at *
  go_enter Try.func51, Try.ntmps51
  go_wp2_with (first | (go_at_call 71; refine (hH _).mono ?_; rintro e w' ⟨rfl, rfl⟩))
  refine (hWd _ HU.out).mono ?_
  rintro e w1 ⟨rfl, q, rfl⟩
  go_wp2_with fail
  refine (hJ _ (HT.out.drewN q)).mono ?_
  rintro e w2 ⟨rfl, hb2⟩
  have HB2 := Lib.hid (show Below w.heap.size w w2 from below_step (below_of_drewN w q) hb2)
  have HT2 := Lib.hid (HT.out.below HB2.out)
  clear hb2 hJ hWd hH hsl1 hsl2 hsl3 hsl4 HU hsub
  have h4 : s = 0 ∨ s = 1 ∨ s = 2 ∨ s = 3 := by omega
  rcases h4 with rfl | rfl | rfl | rfl
  · have HV := Lib.hid (show decV d (0, b) = (d, 0, 0) from rfl)
    rw [HV.out]
    go_wp2_with (go_at_call 74; refine (Clone_any _ _ _ d _ HT2.out (by omega)).mono ?_; rintro e w3 ⟨A3, c3, rfl, hown3, hb3⟩; have HO3 := Lib.hid hown3; have HB3 := Lib.hid (below_step HB2.out hb3); clear hown3 hb3)
    go_ret3
    exact ⟨A3, c3, rfl, R8.own HO3.out HT2.out.2, own_nil HO3.out, own_cap HO3.out, HB3.out⟩
  · have HV := Lib.hid (show decV d (1, b) = (flip1 d (b : Int), 1, 0) from rfl)
    rw [HV.out]
    go_wp2_with fail
    have H1 := Lib.hid (one_int w2 (b : Int) 3 (by omega) (by omega))
    have HBa := Lib.hid (HB2.out.alloc HB2.out.size (.cells #[.int .i64 (b : Int)] 3))
    refine (Flip_any _ _ _ _ _ _ d [(b : Int)] _ (HT2.out.alloc _) H1.out (by omega) (by omega)).mono ?_
    rintro e w3 ⟨A3, c3, rfl, hown3, hb3⟩
    rw [flips_one] at hown3
    have HO3 := Lib.hid hown3
    have HB3 := Lib.hid (below_step HBa.out hb3)
    rw [flips_one]
    clear hown3 hb3
    go_wp2
    go_ret3
    exact ⟨A3, c3, rfl, R8.own HO3.out (flip1_lt d _ HT2.out.2), own_nil HO3.out, own_cap HO3.out, HB3.out⟩
  · have HV := Lib.hid (show decV d (2, b) = (d, 1, 0) from rfl)
    rw [HV.out]
    go_wp2_with (go_at_call 74; refine (Clone_any _ _ _ d _ HT2.out (by omega)).mono ?_; rintro e w3 ⟨A3, c3, rfl, hown3, hb3⟩; have HO3 := Lib.hid hown3; have HB3 := Lib.hid (below_step HB2.out hb3); clear hown3 hb3)
    go_ret3
    exact ⟨A3, c3, rfl, R8.own HO3.out HT2.out.2, own_nil HO3.out, own_cap HO3.out, HB3.out⟩
  · have HV := Lib.hid (show decV d (3, b) = ([], 0, 14) from rfl)
    rw [HV.out]
    go_wp2
    go_ret3
    exact ⟨none, 0, rfl, ⟨Rd.nil_, fun x hx => by cases hx⟩, fun _ => rfl, Nat.le_refl _, HB2.out⟩
theorem Decode_any_c (A : Option Addr) (n c : Nat) (l : List Nat) (w : World) (hr : R8 w A n l) (hc : n ≤ c) (hn : n ≤ 9223372036854775807) :
    Calls Try.prog 51 #[.slice A n c] w (Ret3c (decL l).1 (decL l).2.1 (decL l).2.2 w) := by
  by_cases h : n < 3 ∨ 514 < n
  · rw [decL_no l (by rw [hr.len]; exact h)]
    exact Decode_no_c A n c w h hn
  · exact Decode_yes_c A n c (n - 2) l w hr hc (by omega) (by omega) (by omega)
theorem Decode_any (A : Option Addr) (n c : Nat) (l : List Nat) (w : World) (hr : R8 w A n l) (hc : n ≤ c) (hn : n ≤ 9223372036854775807) :
    Calls Try.prog 51 #[.slice A n c] w (Ret3 (decL l).1 (decL l).2.1 (decL l).2.2 w) := (Decode_any_c A n c l w hr hc hn).mono fun _ _ h => h.ret3
end Go.Proofs.Ytgiihdeilkiphaa
