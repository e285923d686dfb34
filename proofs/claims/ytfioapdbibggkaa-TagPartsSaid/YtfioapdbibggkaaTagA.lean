/-
  Contracts of tag.within, May, precedes, layout, and of the document's from, May, sizes (package incunableref07), over the landed code.
-/
import Derived.Test.YtfioapdbibggkaaInfo
import Derived.Test.YtfioapdbibggkaaTagMath
import Derived.Test.YtfioapdbibggkaaOwn
namespace Go.Proofs.Ytfioapdbibggkaa
open Go.RowKit

theorem below_new (w : World) (o : Obj) : Below w.heap.size w (w.alloc o) := (Below.refl _ _).alloc (Nat.le_refl _) o
/-- The block n holds the tag t. -/
def TBox (w : World) (n : Nat) (t : Tg) : Prop :=
  n < w.heap.size ∧ w.cell? ⟨n, 0, none⟩ = some (.int .i64 t.k) ∧ w.cell? ⟨n, 1, none⟩ = some (.int .i64 t.s) ∧ w.cell? ⟨n, 2, none⟩ = some (.int .i64 t.q) ∧ w.cell? ⟨n, 3, none⟩ = some (.int .i64 t.e)
theorem TBox.below {w w' : World} {n : Nat} {t : Tg} (h : TBox w n t) (hb : Below w.heap.size w w') : TBox w' n t := by
  obtain ⟨h0, h1, h2, h3, h4⟩ := h
  exact ⟨Nat.lt_of_lt_of_le h0 hb.size, (hb.cell h0).trans h1, (hb.cell h0).trans h2, (hb.cell h0).trans h3, (hb.cell h0).trans h4⟩
theorem TBox.new (w : World) (t : Tg) (u : TypeId) : TBox (w.alloc (.cells #[.int .i64 t.k, .int .i64 t.s, .int .i64 t.q, .int .i64 t.e] u)) w.heap.size t := by
  refine ⟨by simp, ?_, ?_, ?_, ?_⟩ <;> simp
/-- Six ints in a row that was made last. -/
theorem R64.six (w : World) (a b c d e f : Int) (t : TypeId) (h : ∀ x ∈ [a, b, c, d, e, f], -9223372036854775808 ≤ x ∧ x ≤ 9223372036854775807) :
    R64 (w.alloc (.cells #[.int .i64 a, .int .i64 b, .int .i64 c, .int .i64 d, .int .i64 e, .int .i64 f] t)) (some ⟨w.heap.size, 0, none⟩) 6 [a, b, c, d, e, f] := by
  refine ⟨⟨rfl, fun _ => ⟨_, 0, rfl, by simp, fun j hj => ?_⟩⟩, h⟩
  match j, hj with
  | 0, _ => simp [I64]
  | 1, _ => simp [I64]
  | 2, _ => simp [I64]
  | 3, _ => simp [I64]
  | 4, _ => simp [I64]
  | 5, _ => simp [I64]

theorem within_yes (n a b : Int) (w : World) (h1 : a ≤ n) (h2 : n ≤ b) :
    Calls Try.prog 19 #[.int .i64 n, .int .i64 a, .int .i64 b] w fun e w' => e = .returned (.bool true) ∧ w = w' := by
  go_enter Try.func19, Try.ntmps19
  go_wp2
  go_ret
  exact ⟨rfl, rfl⟩
theorem within_no (n a b : Int) (w : World) (h : ¬ (a ≤ n ∧ n ≤ b)) :
    Calls Try.prog 19 #[.int .i64 n, .int .i64 a, .int .i64 b] w fun e w' => e = .returned (.bool false) ∧ w = w' := by
  by_cases h1 : a ≤ n
  · have h2 : ¬ n ≤ b := fun h2 => h ⟨h1, h2⟩
    have H2 := Lib.hid h2
    clear h h2
    go_enter Try.func19, Try.ntmps19
    go_wp2
    go_ret
    exact ⟨ret_bool (decide_eq_false (by have := H2.out; omega)), rfl⟩
  · have h2 : n < a := by omega
    clear h h1
    go_enter Try.func19, Try.ntmps19
    go_wp2
    go_ret
    exact ⟨rfl, rfl⟩
theorem May_any (t : Tg) (w : World) : Calls Try.prog 9 #[t.val] w (Gives (.bool t.ok) w) := by
  obtain ⟨k, s, q, e⟩ := t
  simp only [Tg.val]
  by_cases h0 : 1 ≤ k ∧ k ≤ 4
  · by_cases h1 : 0 ≤ s ∧ s ≤ 2147483648
    · by_cases h2 : 0 ≤ q ∧ q ≤ 2305843009213693952
      · by_cases h3 : 0 ≤ e ∧ e ≤ 2147483648
        · have HO := Lib.hid (show Tg.ok ⟨k, s, q, e⟩ = true from Tg.ok_mk h0 h1 h2 h3)
          have H0 := Lib.hid h0
          have H1 := Lib.hid h1
          have H2 := Lib.hid h2
          have H3 := Lib.hid h3
          clear h0 h1 h2 h3
          go_enter Try.func9, Try.ntmps9
          go_wp2_with fail
          refine (within_yes k 1 4 _ (by have := H0.out; omega) (by have := H0.out; omega)).mono ?_
          rintro _ _ ⟨rfl, rfl⟩
          go_wp2_with fail
          refine (within_yes s 0 2147483648 _ (by have := H1.out; omega) (by have := H1.out; omega)).mono ?_
          rintro _ _ ⟨rfl, rfl⟩
          go_wp2_with fail
          refine (within_yes q 0 2305843009213693952 _ (by have := H2.out; omega) (by have := H2.out; omega)).mono ?_
          rintro _ _ ⟨rfl, rfl⟩
          go_wp2_with fail
          refine (within_yes e 0 2147483648 _ (by have := H3.out; omega) (by have := H3.out; omega)).mono ?_
          rintro _ _ ⟨rfl, rfl⟩
          go_wp2
          go_ret
          exact ⟨ret_bool HO.out.symm, below_new w _⟩
        · have HO := Lib.hid (show Tg.ok ⟨k, s, q, e⟩ = false from Tg.ok_not fun h => h3 h.2.2.2)
          have H0 := Lib.hid h0
          have H1 := Lib.hid h1
          have H2 := Lib.hid h2
          have H3 := Lib.hid h3
          clear h0 h1 h2 h3
          go_enter Try.func9, Try.ntmps9
          go_wp2_with fail
          refine (within_yes k 1 4 _ (by have := H0.out; omega) (by have := H0.out; omega)).mono ?_
          rintro _ _ ⟨rfl, rfl⟩
          go_wp2_with fail
          refine (within_yes s 0 2147483648 _ (by have := H1.out; omega) (by have := H1.out; omega)).mono ?_
          rintro _ _ ⟨rfl, rfl⟩
          go_wp2_with fail
          refine (within_yes q 0 2305843009213693952 _ (by have := H2.out; omega) (by have := H2.out; omega)).mono ?_
          rintro _ _ ⟨rfl, rfl⟩
          go_wp2_with fail
          refine (within_no e 0 2147483648 _ H3.out).mono ?_
          rintro _ _ ⟨rfl, rfl⟩
          go_wp2
          go_ret
          exact ⟨ret_bool HO.out.symm, below_new w _⟩
      · have HO := Lib.hid (show Tg.ok ⟨k, s, q, e⟩ = false from Tg.ok_not fun h => h2 h.2.2.1)
        have H0 := Lib.hid h0
        have H1 := Lib.hid h1
        have H2 := Lib.hid h2
        clear h0 h1 h2
        go_enter Try.func9, Try.ntmps9
        go_wp2_with fail
        refine (within_yes k 1 4 _ (by have := H0.out; omega) (by have := H0.out; omega)).mono ?_
        rintro _ _ ⟨rfl, rfl⟩
        go_wp2_with fail
        refine (within_yes s 0 2147483648 _ (by have := H1.out; omega) (by have := H1.out; omega)).mono ?_
        rintro _ _ ⟨rfl, rfl⟩
        go_wp2_with fail
        refine (within_no q 0 2305843009213693952 _ H2.out).mono ?_
        rintro _ _ ⟨rfl, rfl⟩
        go_wp2
        go_ret
        exact ⟨ret_bool HO.out.symm, below_new w _⟩
    · have HO := Lib.hid (show Tg.ok ⟨k, s, q, e⟩ = false from Tg.ok_not fun h => h1 h.2.1)
      have H0 := Lib.hid h0
      have H1 := Lib.hid h1
      clear h0 h1
      go_enter Try.func9, Try.ntmps9
      go_wp2_with fail
      refine (within_yes k 1 4 _ (by have := H0.out; omega) (by have := H0.out; omega)).mono ?_
      rintro _ _ ⟨rfl, rfl⟩
      go_wp2_with fail
      refine (within_no s 0 2147483648 _ H1.out).mono ?_
      rintro _ _ ⟨rfl, rfl⟩
      go_wp2
      go_ret
      exact ⟨ret_bool HO.out.symm, below_new w _⟩
  · have HO := Lib.hid (show Tg.ok ⟨k, s, q, e⟩ = false from Tg.ok_not fun h => h0 h.1)
    have H0 := Lib.hid h0
    clear h0
    go_enter Try.func9, Try.ntmps9
    go_wp2_with fail
    refine (within_no k 1 4 _ H0.out).mono ?_
    rintro _ _ ⟨rfl, rfl⟩
    go_wp2
    go_ret
    exact ⟨ret_bool HO.out.symm, below_new w _⟩
theorem May_is (t : Tg) (b : Bool) (h : t.ok = b) (w : World) : Calls Try.prog 9 #[t.val] w (Gives (.bool b) w) := h ▸ May_any t w
theorem layout_any (w : World) : Calls Try.prog 18 #[] w fun e w' => ∃ A c, e = .returned (.slice A 6 c) ∧ R64 w' A 6 lay ∧ Below w.heap.size w w' := by
  go_enter Try.func18, Try.ntmps18
  go_wp2
  go_ret
  exact ⟨_, _, rfl, R64.six w 2 1 4 8 4 5 _ (by decide), below_new w _⟩

theorem from_yes (n a b : Int) (w : World) (h1 : a ≤ n) (h2 : n ≤ b) :
    Calls Try.prog 20 #[.int .i64 n, .int .i64 a, .int .i64 b] w fun e w' => e = .returned (.bool true) ∧ w = w' := by
  go_enter Try.func20, Try.ntmps20
  go_wp2
  go_ret
  exact ⟨rfl, rfl⟩
theorem from_no (n a b : Int) (w : World) (h : ¬ (a ≤ n ∧ n ≤ b)) :
    Calls Try.prog 20 #[.int .i64 n, .int .i64 a, .int .i64 b] w fun e w' => e = .returned (.bool false) ∧ w = w' := by
  by_cases h1 : a ≤ n
  · have h2 : ¬ n ≤ b := fun h2 => h ⟨h1, h2⟩
    have H2 := Lib.hid h2
    clear h h2
    go_enter Try.func20, Try.ntmps20
    go_wp2
    go_ret
    exact ⟨ret_bool (decide_eq_false (by have := H2.out; omega)), rfl⟩
  · have h2 : n < a := by omega
    clear h h1
    go_enter Try.func20, Try.ntmps20
    go_wp2
    go_ret
    exact ⟨rfl, rfl⟩
theorem RefMay_any (t : Tg) (w : World) : Calls Try.prog 10 #[t.val] w (Gives (.bool t.ok) w) := by
  obtain ⟨k, s, q, e⟩ := t
  simp only [Tg.val]
  by_cases h0 : 1 ≤ k ∧ k ≤ 4
  · by_cases h1 : 0 ≤ s ∧ s ≤ 2147483648
    · by_cases h2 : 0 ≤ q ∧ q ≤ 2305843009213693952
      · by_cases h3 : 0 ≤ e ∧ e ≤ 2147483648
        · have HO := Lib.hid (show Tg.ok ⟨k, s, q, e⟩ = true from Tg.ok_mk h0 h1 h2 h3)
          have H0 := Lib.hid h0
          have H1 := Lib.hid h1
          have H2 := Lib.hid h2
          have H3 := Lib.hid h3
          clear h0 h1 h2 h3
          go_enter Try.func10, Try.ntmps10
          go_wp2_with fail
          refine (from_yes k 1 4 _ (by have := H0.out; omega) (by have := H0.out; omega)).mono ?_
          rintro _ _ ⟨rfl, rfl⟩
          go_wp2_with fail
          refine (from_yes s 0 2147483648 _ (by have := H1.out; omega) (by have := H1.out; omega)).mono ?_
          rintro _ _ ⟨rfl, rfl⟩
          go_wp2_with fail
          refine (from_yes q 0 2305843009213693952 _ (by have := H2.out; omega) (by have := H2.out; omega)).mono ?_
          rintro _ _ ⟨rfl, rfl⟩
          go_wp2_with fail
          refine (from_yes e 0 2147483648 _ (by have := H3.out; omega) (by have := H3.out; omega)).mono ?_
          rintro _ _ ⟨rfl, rfl⟩
          go_wp2
          go_ret
          exact ⟨ret_bool HO.out.symm, below_new w _⟩
        · have HO := Lib.hid (show Tg.ok ⟨k, s, q, e⟩ = false from Tg.ok_not fun h => h3 h.2.2.2)
          have H0 := Lib.hid h0
          have H1 := Lib.hid h1
          have H2 := Lib.hid h2
          have H3 := Lib.hid h3
          clear h0 h1 h2 h3
          go_enter Try.func10, Try.ntmps10
          go_wp2_with fail
          refine (from_yes k 1 4 _ (by have := H0.out; omega) (by have := H0.out; omega)).mono ?_
          rintro _ _ ⟨rfl, rfl⟩
          go_wp2_with fail
          refine (from_yes s 0 2147483648 _ (by have := H1.out; omega) (by have := H1.out; omega)).mono ?_
          rintro _ _ ⟨rfl, rfl⟩
          go_wp2_with fail
          refine (from_yes q 0 2305843009213693952 _ (by have := H2.out; omega) (by have := H2.out; omega)).mono ?_
          rintro _ _ ⟨rfl, rfl⟩
          go_wp2_with fail
          refine (from_no e 0 2147483648 _ H3.out).mono ?_
          rintro _ _ ⟨rfl, rfl⟩
          go_wp2
          go_ret
          exact ⟨ret_bool HO.out.symm, below_new w _⟩
      · have HO := Lib.hid (show Tg.ok ⟨k, s, q, e⟩ = false from Tg.ok_not fun h => h2 h.2.2.1)
        have H0 := Lib.hid h0
        have H1 := Lib.hid h1
        have H2 := Lib.hid h2
        clear h0 h1 h2
        go_enter Try.func10, Try.ntmps10
        go_wp2_with fail
        refine (from_yes k 1 4 _ (by have := H0.out; omega) (by have := H0.out; omega)).mono ?_
        rintro _ _ ⟨rfl, rfl⟩
        go_wp2_with fail
        refine (from_yes s 0 2147483648 _ (by have := H1.out; omega) (by have := H1.out; omega)).mono ?_
        rintro _ _ ⟨rfl, rfl⟩
        go_wp2_with fail
        refine (from_no q 0 2305843009213693952 _ H2.out).mono ?_
        rintro _ _ ⟨rfl, rfl⟩
        go_wp2
        go_ret
        exact ⟨ret_bool HO.out.symm, below_new w _⟩
    · have HO := Lib.hid (show Tg.ok ⟨k, s, q, e⟩ = false from Tg.ok_not fun h => h1 h.2.1)
      have H0 := Lib.hid h0
      have H1 := Lib.hid h1
      clear h0 h1
      go_enter Try.func10, Try.ntmps10
      go_wp2_with fail
      refine (from_yes k 1 4 _ (by have := H0.out; omega) (by have := H0.out; omega)).mono ?_
      rintro _ _ ⟨rfl, rfl⟩
      go_wp2_with fail
      refine (from_no s 0 2147483648 _ H1.out).mono ?_
      rintro _ _ ⟨rfl, rfl⟩
      go_wp2
      go_ret
      exact ⟨ret_bool HO.out.symm, below_new w _⟩
  · have HO := Lib.hid (show Tg.ok ⟨k, s, q, e⟩ = false from Tg.ok_not fun h => h0 h.1)
    have H0 := Lib.hid h0
    clear h0
    go_enter Try.func10, Try.ntmps10
    go_wp2_with fail
    refine (from_no k 1 4 _ H0.out).mono ?_
    rintro _ _ ⟨rfl, rfl⟩
    go_wp2
    go_ret
    exact ⟨ret_bool HO.out.symm, below_new w _⟩
theorem RefMay_is (t : Tg) (b : Bool) (h : t.ok = b) (w : World) : Calls Try.prog 10 #[t.val] w (Gives (.bool b) w) := h ▸ RefMay_any t w
theorem sizes_any (w : World) : Calls Try.prog 22 #[] w fun e w' => ∃ A c, e = .returned (.slice A 6 c) ∧ R64 w' A 6 lay ∧ Below w.heap.size w w' := by
  go_enter Try.func22, Try.ntmps22
  go_wp2
  go_ret
  exact ⟨_, _, rfl, R64.six w 2 1 4 8 4 5 _ (by decide), below_new w _⟩

theorem precedes_any (t u : Tg) (w : World) : Calls Try.prog 25 #[t.val, u.val] w (Gives (.bool (decide (t.q < u.q))) w) := by
  obtain ⟨k, s, q, e⟩ := t
  obtain ⟨k', s', q', e'⟩ := u
  simp only [Tg.val]
  go_enter Try.func25, Try.ntmps25
  go_wp2
  go_ret
  exact ⟨rfl, below_step (below_new w _) (below_new _ _)⟩
end Go.Proofs.Ytfioapdbibggkaa
