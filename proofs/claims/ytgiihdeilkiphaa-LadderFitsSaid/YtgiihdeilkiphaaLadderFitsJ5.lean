/-
  Contracts of tag.within, May, precedes, layout, and of the document's from, May, sizes (package incunableref07), over the landed code.
-/
import Derived.Deep.QuietTactic
import Derived.Laws.AppendOwnNone
import Derived.Test.YtgiihdeilkiphaaLadderFitsJ3
import Derived.Test.YtgiihdeilkiphaaLadderFitsJ2
import Derived.Test.YtgiihdeilkiphaaLadderFitsJ4
import Derived.Test.YtgiihdeilkiphaaIntBits
namespace Go.Proofs.Ytgiihdeilkiphaa
open Go.RowKit
set_option maxRecDepth 100000

theorem below_new (w : World) (o : Obj) : Below w.heap.size w (w.alloc o) := (Below.refl _ _).alloc (Nat.le_refl _) o
/-- The block n holds the tag t. -/
def TBox (w : World) (n : Nat) (t : Tg) : Prop :=
  n < w.heap.size ∧ w.cell? ⟨n, 0, none⟩ = some (.int .i64 t.k) ∧ w.cell? ⟨n, 1, none⟩ = some (.int .i64 t.s) ∧ w.cell? ⟨n, 2, none⟩ = some (.int .i64 t.q) ∧ w.cell? ⟨n, 3, none⟩ = some (.int .i64 t.e)
theorem TBox.below {w w' : World} {n : Nat} {t : Tg} (h : TBox w n t) (hb : Below w.heap.size w w') : TBox w' n t := by
  obtain ⟨h0, h1, h2, h3, h4⟩ := h
  exact ⟨Nat.lt_of_lt_of_le h0 hb.size, (hb.cell h0).trans h1, (hb.cell h0).trans h2, (hb.cell h0).trans h3, (hb.cell h0).trans h4⟩
theorem TBox.new (w : World) (t : Tg) (u : TypeId) : TBox (w.alloc (.cells #[.int .i64 t.k, .int .i64 t.s, .int .i64 t.q, .int .i64 t.e] u)) w.heap.size t := by
  refine ⟨by simp, ?_, ?_, ?_, ?_⟩ <;> simp
/-- Six ints in a row that was made last. -/
theorem R64.six (w : World) (a b c d e f : Int) (t : TypeId) (h : ∀ x ∈ [a, b, c, d, e, f], -9223372036854775808 ≤ x ∧ x ≤ 9223372036854775807) :
    R64 (w.alloc (.cells #[.int .i64 a, .int .i64 b, .int .i64 c, .int .i64 d, .int .i64 e, .int .i64 f] t)) (some ⟨w.heap.size, 0, none⟩) 6 [a, b, c, d, e, f] := by
  refine ⟨⟨rfl, fun _ => ⟨_, 0, rfl, by simp, fun j hj => ?_⟩⟩, h⟩
  match j, hj with
  | 0, _ => simp [I64]
  | 1, _ => simp [I64]
  | 2, _ => simp [I64]
  | 3, _ => simp [I64]
  | 4, _ => simp [I64]
  | 5, _ => simp [I64]
theorem within_yes (n a b : Int) (w : World) (h1 : a ≤ n) (h2 : n ≤ b) :
    Calls Try.prog 79 #[.int .i64 n, .int .i64 a, .int .i64 b] w fun e w' => e = .returned (.bool true) ∧ w = w' := by
  go_enter Try.func79, Try.ntmps79
  go_wp2
  go_ret
  exact ⟨rfl, rfl⟩
theorem within_no (n a b : Int) (w : World) (h : ¬ (a ≤ n ∧ n ≤ b)) :
    Calls Try.prog 79 #[.int .i64 n, .int .i64 a, .int .i64 b] w fun e w' => e = .returned (.bool false) ∧ w = w' := by
  by_cases h1 : a ≤ n
  · have h2 : ¬ n ≤ b := fun h2 => h ⟨h1, h2⟩
    have H2 := Lib.hid h2
    clear h h2
    go_enter Try.func79, Try.ntmps79
    go_wp2
    go_ret
    exact ⟨ret_bool (decide_eq_false (by have := H2.out; omega)), rfl⟩
  · have h2 : n < a := by omega
    clear h h1
    go_enter Try.func79, Try.ntmps79
    go_wp2
    go_ret
    exact ⟨rfl, rfl⟩
theorem May_any (t : Tg) (w : World) : Calls Try.prog 56 #[t.val] w (Gives (.bool t.ok) w) := by
  obtain ⟨k, s, q, e⟩ := t
  simp only [Tg.val]
  by_cases h0 : 1 ≤ k ∧ k ≤ 4
  · by_cases h1 : 0 ≤ s ∧ s ≤ 2147483648
    · by_cases h2 : 0 ≤ q ∧ q ≤ 2305843009213693952
      · by_cases h3 : 0 ≤ e ∧ e ≤ 2147483648
        · have HO := Lib.hid (show Tg.ok ⟨k, s, q, e⟩ = true from Tg.ok_mk h0 h1 h2 h3)
          have H0 := Lib.hid h0
          have H1 := Lib.hid h1
          have H2 := Lib.hid h2
          have H3 := Lib.hid h3
          clear h0 h1 h2 h3
          go_enter Try.func56, Try.ntmps56
          go_wp2_with fail
          refine (within_yes k 1 4 _ (by have := H0.out; omega) (by have := H0.out; omega)).mono ?_
          rintro _ _ ⟨rfl, rfl⟩
          go_wp2_with fail
          refine (within_yes s 0 2147483648 _ (by have := H1.out; omega) (by have := H1.out; omega)).mono ?_
          rintro _ _ ⟨rfl, rfl⟩
          go_wp2_with fail
          refine (within_yes q 0 2305843009213693952 _ (by have := H2.out; omega) (by have := H2.out; omega)).mono ?_
          rintro _ _ ⟨rfl, rfl⟩
          go_wp2_with fail
          refine (within_yes e 0 2147483648 _ (by have := H3.out; omega) (by have := H3.out; omega)).mono ?_
          rintro _ _ ⟨rfl, rfl⟩
          go_wp2
          go_ret
          exact ⟨ret_bool HO.out.symm, below_new w _⟩
        · have HO := Lib.hid (show Tg.ok ⟨k, s, q, e⟩ = false from Tg.ok_not fun h => h3 h.2.2.2)
          have H0 := Lib.hid h0
          have H1 := Lib.hid h1
          have H2 := Lib.hid h2
          have H3 := Lib.hid h3
          clear h0 h1 h2 h3
          go_enter Try.func56, Try.ntmps56
          go_wp2_with fail
          refine (within_yes k 1 4 _ (by have := H0.out; omega) (by have := H0.out; omega)).mono ?_
          rintro _ _ ⟨rfl, rfl⟩
          go_wp2_with fail
          refine (within_yes s 0 2147483648 _ (by have := H1.out; omega) (by have := H1.out; omega)).mono ?_
          rintro _ _ ⟨rfl, rfl⟩
          go_wp2_with fail
          refine (within_yes q 0 2305843009213693952 _ (by have := H2.out; omega) (by have := H2.out; omega)).mono ?_
          rintro _ _ ⟨rfl, rfl⟩
          go_wp2_with fail
          refine (within_no e 0 2147483648 _ H3.out).mono ?_
          rintro _ _ ⟨rfl, rfl⟩
          go_wp2
          go_ret
          exact ⟨ret_bool HO.out.symm, below_new w _⟩
      · have HO := Lib.hid (show Tg.ok ⟨k, s, q, e⟩ = false from Tg.ok_not fun h => h2 h.2.2.1)
        have H0 := Lib.hid h0
        have H1 := Lib.hid h1
        have H2 := Lib.hid h2
        clear h0 h1 h2
        go_enter Try.func56, Try.ntmps56
        go_wp2_with fail
        refine (within_yes k 1 4 _ (by have := H0.out; omega) (by have := H0.out; omega)).mono ?_
        rintro _ _ ⟨rfl, rfl⟩
        go_wp2_with fail
        refine (within_yes s 0 2147483648 _ (by have := H1.out; omega) (by have := H1.out; omega)).mono ?_
        rintro _ _ ⟨rfl, rfl⟩
        go_wp2_with fail
        refine (within_no q 0 2305843009213693952 _ H2.out).mono ?_
        rintro _ _ ⟨rfl, rfl⟩
        go_wp2
        go_ret
        exact ⟨ret_bool HO.out.symm, below_new w _⟩
    · have HO := Lib.hid (show Tg.ok ⟨k, s, q, e⟩ = false from Tg.ok_not fun h => h1 h.2.1)
      have H0 := Lib.hid h0
      have H1 := Lib.hid h1
      clear h0 h1
      go_enter Try.func56, Try.ntmps56
      go_wp2_with fail
      refine (within_yes k 1 4 _ (by have := H0.out; omega) (by have := H0.out; omega)).mono ?_
      rintro _ _ ⟨rfl, rfl⟩
      go_wp2_with fail
      refine (within_no s 0 2147483648 _ H1.out).mono ?_
      rintro _ _ ⟨rfl, rfl⟩
      go_wp2
      go_ret
      exact ⟨ret_bool HO.out.symm, below_new w _⟩
  · have HO := Lib.hid (show Tg.ok ⟨k, s, q, e⟩ = false from Tg.ok_not fun h => h0 h.1)
    have H0 := Lib.hid h0
    clear h0
    go_enter Try.func56, Try.ntmps56
    go_wp2_with fail
    refine (within_no k 1 4 _ H0.out).mono ?_
    rintro _ _ ⟨rfl, rfl⟩
    go_wp2
    go_ret
    exact ⟨ret_bool HO.out.symm, below_new w _⟩
theorem May_is (t : Tg) (b : Bool) (h : t.ok = b) (w : World) : Calls Try.prog 56 #[t.val] w (Gives (.bool b) w) := h ▸ May_any t w
theorem layout_any (w : World) : Calls Try.prog 55 #[] w fun e w' => ∃ A c, e = .returned (.slice A 6 c) ∧ R64 w' A 6 lay ∧ Below w.heap.size w w' := by
  go_enter Try.func55, Try.ntmps55
  go_wp2
  go_ret
  exact ⟨_, _, rfl, R64.six w 2 1 4 8 4 5 _ (by decide), below_new w _⟩
theorem from_yes (n a b : Int) (w : World) (h1 : a ≤ n) (h2 : n ≤ b) :
    Calls Try.prog 67 #[.int .i64 n, .int .i64 a, .int .i64 b] w fun e w' => e = .returned (.bool true) ∧ w = w' := by
  go_enter Try.func67, Try.ntmps67
  go_wp2
  go_ret
  exact ⟨rfl, rfl⟩
theorem from_no (n a b : Int) (w : World) (h : ¬ (a ≤ n ∧ n ≤ b)) :
    Calls Try.prog 67 #[.int .i64 n, .int .i64 a, .int .i64 b] w fun e w' => e = .returned (.bool false) ∧ w = w' := by
  by_cases h1 : a ≤ n
  · have h2 : ¬ n ≤ b := fun h2 => h ⟨h1, h2⟩
    have H2 := Lib.hid h2
    clear h h2
    go_enter Try.func67, Try.ntmps67
    go_wp2
    go_ret
    exact ⟨ret_bool (decide_eq_false (by have := H2.out; omega)), rfl⟩
  · have h2 : n < a := by omega
    clear h h1
    go_enter Try.func67, Try.ntmps67
    go_wp2
    go_ret
    exact ⟨rfl, rfl⟩
theorem RefMay_any (t : Tg) (w : World) : Calls Try.prog 48 #[t.val] w (Gives (.bool t.ok) w) := by
  obtain ⟨k, s, q, e⟩ := t
  simp only [Tg.val]
  by_cases h0 : 1 ≤ k ∧ k ≤ 4
  · by_cases h1 : 0 ≤ s ∧ s ≤ 2147483648
    · by_cases h2 : 0 ≤ q ∧ q ≤ 2305843009213693952
      · by_cases h3 : 0 ≤ e ∧ e ≤ 2147483648
        · have HO := Lib.hid (show Tg.ok ⟨k, s, q, e⟩ = true from Tg.ok_mk h0 h1 h2 h3)
          have H0 := Lib.hid h0
          have H1 := Lib.hid h1
          have H2 := Lib.hid h2
          have H3 := Lib.hid h3
          clear h0 h1 h2 h3
          go_enter Try.func48, Try.ntmps48
          go_wp2_with fail
          refine (from_yes k 1 4 _ (by have := H0.out; omega) (by have := H0.out; omega)).mono ?_
          rintro _ _ ⟨rfl, rfl⟩
          go_wp2_with fail
          refine (from_yes s 0 2147483648 _ (by have := H1.out; omega) (by have := H1.out; omega)).mono ?_
          rintro _ _ ⟨rfl, rfl⟩
          go_wp2_with fail
          refine (from_yes q 0 2305843009213693952 _ (by have := H2.out; omega) (by have := H2.out; omega)).mono ?_
          rintro _ _ ⟨rfl, rfl⟩
          go_wp2_with fail
          refine (from_yes e 0 2147483648 _ (by have := H3.out; omega) (by have := H3.out; omega)).mono ?_
          rintro _ _ ⟨rfl, rfl⟩
          go_wp2
          go_ret
          exact ⟨ret_bool HO.out.symm, below_new w _⟩
        · have HO := Lib.hid (show Tg.ok ⟨k, s, q, e⟩ = false from Tg.ok_not fun h => h3 h.2.2.2)
          have H0 := Lib.hid h0
          have H1 := Lib.hid h1
          have H2 := Lib.hid h2
          have H3 := Lib.hid h3
          clear h0 h1 h2 h3
          go_enter Try.func48, Try.ntmps48
          go_wp2_with fail
          refine (from_yes k 1 4 _ (by have := H0.out; omega) (by have := H0.out; omega)).mono ?_
          rintro _ _ ⟨rfl, rfl⟩
          go_wp2_with fail
          refine (from_yes s 0 2147483648 _ (by have := H1.out; omega) (by have := H1.out; omega)).mono ?_
          rintro _ _ ⟨rfl, rfl⟩
          go_wp2_with fail
          refine (from_yes q 0 2305843009213693952 _ (by have := H2.out; omega) (by have := H2.out; omega)).mono ?_
          rintro _ _ ⟨rfl, rfl⟩
          go_wp2_with fail
          refine (from_no e 0 2147483648 _ H3.out).mono ?_
          rintro _ _ ⟨rfl, rfl⟩
          go_wp2
          go_ret
          exact ⟨ret_bool HO.out.symm, below_new w _⟩
      · have HO := Lib.hid (show Tg.ok ⟨k, s, q, e⟩ = false from Tg.ok_not fun h => h2 h.2.2.1)
        have H0 := Lib.hid h0
        have H1 := Lib.hid h1
        have H2 := Lib.hid h2
        clear h0 h1 h2
        go_enter Try.func48, Try.ntmps48
        go_wp2_with fail
        refine (from_yes k 1 4 _ (by have := H0.out; omega) (by have := H0.out; omega)).mono ?_
        rintro _ _ ⟨rfl, rfl⟩
        go_wp2_with fail
        refine (from_yes s 0 2147483648 _ (by have := H1.out; omega) (by have := H1.out; omega)).mono ?_
        rintro _ _ ⟨rfl, rfl⟩
        go_wp2_with fail
        refine (from_no q 0 2305843009213693952 _ H2.out).mono ?_
        rintro _ _ ⟨rfl, rfl⟩
        go_wp2
        go_ret
        exact ⟨ret_bool HO.out.symm, below_new w _⟩
    · have HO := Lib.hid (show Tg.ok ⟨k, s, q, e⟩ = false from Tg.ok_not fun h => h1 h.2.1)
      have H0 := Lib.hid h0
      have H1 := Lib.hid h1
      clear h0 h1
      go_enter Try.func48, Try.ntmps48
      go_wp2_with fail
      refine (from_yes k 1 4 _ (by have := H0.out; omega) (by have := H0.out; omega)).mono ?_
      rintro _ _ ⟨rfl, rfl⟩
      go_wp2_with fail
      refine (from_no s 0 2147483648 _ H1.out).mono ?_
      rintro _ _ ⟨rfl, rfl⟩
      go_wp2
      go_ret
      exact ⟨ret_bool HO.out.symm, below_new w _⟩
  · have HO := Lib.hid (show Tg.ok ⟨k, s, q, e⟩ = false from Tg.ok_not fun h => h0 h.1)
    have H0 := Lib.hid h0
    clear h0
    go_enter Try.func48, Try.ntmps48
    go_wp2_with fail
    refine (from_no k 1 4 _ H0.out).mono ?_
    rintro _ _ ⟨rfl, rfl⟩
    go_wp2
    go_ret
    exact ⟨ret_bool HO.out.symm, below_new w _⟩
theorem RefMay_is (t : Tg) (b : Bool) (h : t.ok = b) (w : World) : Calls Try.prog 48 #[t.val] w (Gives (.bool b) w) := h ▸ RefMay_any t w
theorem sizes_any (w : World) : Calls Try.prog 47 #[] w fun e w' => ∃ A c, e = .returned (.slice A 6 c) ∧ R64 w' A 6 lay ∧ Below w.heap.size w w' := by
  go_enter Try.func47, Try.ntmps47
  go_wp2
  go_ret
  exact ⟨_, _, rfl, R64.six w 2 1 4 8 4 5 _ (by decide), below_new w _⟩
end Go.Proofs.Ytgiihdeilkiphaa

/-
  Contracts of chunk.holds, divides, wordOf, over the landed code.
-/
namespace Go.Proofs.Ytgiihdeilkiphaa
open Go.RowKit
set_option maxRecDepth 100000

theorem holds_is (x : Int) (b : Bool) (w : World) (hb : decide (1 ≤ x ∧ x ≤ 512) = b) :
    Calls Try.prog 71 #[.int .i64 x] w fun e w' => e = .returned (.bool b) ∧ w = w' := by
  by_cases hx : 1 ≤ x
  · by_cases hy : x ≤ 512
    · obtain rfl : b = true := by rw [← hb]; exact decide_eq_true ⟨hx, hy⟩
      clear hb
      go_enter Try.func71, Try.ntmps71
      go_wp2
      go_ret
      exact ⟨rfl, rfl⟩
    · obtain rfl : b = false := by rw [← hb]; exact decide_eq_false (fun h => hy h.2)
      have hd : decide (x ≤ 512) = false := decide_eq_false hy
      clear hb
      go_enter Try.func71, Try.ntmps71
      go_wp2
      go_ret
      exact ⟨rfl, rfl⟩
  · obtain rfl : b = false := by rw [← hb]; exact decide_eq_false (fun h => hx h.1)
    have hd : decide (1 ≤ x) = false := decide_eq_false hx
    clear hb
    go_enter Try.func71, Try.ntmps71
    go_wp2
    go_ret
    exact ⟨rfl, rfl⟩

theorem divides_yes (A : Option Addr) (n c s N : Nat) (w : World) (hs0 : 1 ≤ s) (hs1 : s ≤ 512) (hn : n = N * (s + 2)) (hn2 : n ≤ 1099511627776) :
    Calls Try.prog 69 #[.slice A n c, .int .i64 (s : Int)] w fun e w' => e = .returned (.bool true) ∧ w = w' := by
  have hH := fun w' => holds_is (s : Int) true w' (decide_eq_true (by omega))
  have hm : (n : Int) % ((s : Int) + 2) = 0 := by
    rw [hn, Int.natCast_mul, Int.natCast_add]
    exact Int.mul_emod_left _ _
  have hne : ((s : Int) + 2) ≠ 0 := by omega
  have he : (((n : Int) % ((s : Int) + 2)) == 0) = true := by rw [hm]; rfl
  clear hn hm
  go_enter Try.func69, Try.ntmps69
  go_wp2_with (go_at_call 71; refine (hH _).mono ?_; rintro e w' ⟨rfl, rfl⟩)
  go_ret
  exact ⟨rfl, rfl⟩
theorem divides_size (A : Option Addr) (n c : Nat) (x : Int) (w : World) (hx : ¬ (1 ≤ x ∧ x ≤ 512)) :
    Calls Try.prog 69 #[.slice A n c, .int .i64 x] w fun e w' => e = .returned (.bool false) ∧ w = w' := by
  have hH := fun w' => holds_is x false w' (decide_eq_false hx)
  clear hx
  go_enter Try.func69, Try.ntmps69
  go_wp2_with (go_at_call 71; refine (hH _).mono ?_; rintro e w' ⟨rfl, rfl⟩)
  go_ret
  exact ⟨rfl, rfl⟩
theorem divides_no (A : Option Addr) (n c s : Nat) (w : World) (hs0 : 1 ≤ s) (hs1 : s ≤ 512) (hn : n % (s + 2) ≠ 0) (hn2 : n ≤ 1099511627776) :
    Calls Try.prog 69 #[.slice A n c, .int .i64 (s : Int)] w fun e w' => e = .returned (.bool false) ∧ w = w' := by
  have hH := fun w' => holds_is (s : Int) true w' (decide_eq_true (by omega))
  have hm : (n : Int) % ((s : Int) + 2) ≠ 0 := by
    have e : (n : Int) % ((s : Int) + 2) = ((n % (s + 2) : Nat) : Int) := by rw [Int.natCast_emod, Int.natCast_add]; rfl
    rw [e]
    omega
  have hne : ((s : Int) + 2) ≠ 0 := by omega
  have he : (((n : Int) % ((s : Int) + 2)) == 0) = false := by simpa using hm
  clear hn hm
  go_enter Try.func69, Try.ntmps69
  go_wp2_with (go_at_call 71; refine (hH _).mono ?_; rintro e w' ⟨rfl, rfl⟩)
  go_ret
  exact ⟨rfl, rfl⟩

theorem or_shift8 (x y : Nat) (hx : x < 256) (hy : y < 256) : Go.bits .or .u16 (x : Int) ((y : Int) * 256) = ((x + 256 * y : Nat) : Int) := by
  have h := u16_or_nat x (y * 256) (by omega) (by omega)
  have e : x ||| y * 256 = x + 256 * y := by
    have := Nat.two_pow_add_eq_or_of_lt (i := 8) (b := x) (by simpa using hx) y
    rw [Nat.or_comm, Nat.mul_comm, ← this]
    omega
  rw [e] at h
  rw [← h]
  rfl

theorem wordOf_any (A : Option Addr) (c x y : Nat) (w : World) (hr : R8 w A 2 [x, y]) :
    Calls Try.prog 73 #[.slice A 2 c] w (Quiet (.int .u16 ((x + 256 * y : Nat) : Int)) w) := by
  have hx : x < 256 := hr.2 x (by simp)
  have hy : y < 256 := hr.2 y (by simp)
  obtain ⟨b, off, rfl, hb, hc⟩ := hr.1.2 (by omega)
  have c0 : w.cell? ⟨b, off, none⟩ = some (.int .u8 (x : Int)) := hc 0 (by omega)
  have c1 : w.cell? ⟨b, off + 1, none⟩ = some (.int .u8 (y : Int)) := hc 1 (by omega)
  have HX := Lib.hid (or_shift8 x y hx hy)
  clear hc hr
  go_enter Try.func73, Try.ntmps73
  go_wp2
  go_quiet (fail)
  go_wp2
  go_ret
  exact ⟨ret_int HX.out, _, rfl⟩
end Go.Proofs.Ytgiihdeilkiphaa

/-
  Contracts of the document's Places and gather (package incunableref05), over the landed code's translation.
-/
namespace Go.Proofs.Ytgiihdeilkiphaa
open Go.RowKit
set_option maxRecDepth 100000

theorem Power_is (x : Int) (n : Nat) (v : Bool) (w : World) (hx : x = (n : Int)) (hv : powB n = v) (h : n ≤ 4611686018427387904) :
    Calls Try.prog 63 #[.int .i64 x] w fun e w' => e = .returned (.bool v) ∧ w = w' := by
  subst hx hv
  exact Power_any n w h
theorem places_bd (n : Nat) (h : n ≤ 4096) : ∀ x ∈ places n, -9223372036854775808 ≤ x ∧ x ≤ 9223372036854775807 := by
  intro x hx
  simp only [places, List.mem_map, List.mem_range] at hx
  obtain ⟨k, hk, rfl⟩ := hx
  have := place_lt13 k (by omega)
  omega

set_option maxHeartbeats 1000000 in
theorem Places_any (n : Nat) (w : World) (h : n ≤ 4096) :
    Calls Try.prog 64 #[.int .i64 (n : Int)] w (MakesI (places n) w) := by
  obtain ⟨i0, ti, tz0, tz1, tz2⟩ := info_parts info_int
  have hN := place_lt13 n h
  obtain ⟨N, HN⟩ : ∃ N, Hid (place n = N) := ⟨_, rfl⟩
  have hN2 : N < 8192 := by rw [← HN.out]; exact hN
  clear hN
  go_enter Try.func64, Try.ntmps64
  go_wp2
  go_loopw [3, 4] (fun v p wr => ∃ m P c : Nat, ∃ A : Option Addr, m ≤ n ∧ P ≤ N ∧ v = .slice A m c ∧ p = .int .i64 (P : Int) ∧ Hid (Met m P) ∧ Hid (wr.ownsRow w.heap.size 3 1 v m (I64 (places m))) ∧ Hid (Below w.heap.size w wr)) (fun _ p _ => N + 2 - (intOf p).toNat)
  case atStart => exact ⟨0, 3, 0, none, Nat.zero_le _, by rw [← HN.out]; exact place_ge n, rfl, rfl, Met.start, World.ownsRow_nil _ _ _ _, Below.refl _ _⟩
  case round =>
    obtain ⟨m, P, c, A, hm, hP, rfl, rfl, HM, HO, HB⟩ := hrel
    by_cases hlt : m < n
    · have hPN : P < N := by
        have h1 := HM.out.le
        have h2 := place_mono hlt
        have h3 := HN.out
        omega
      cases hb : powB P
      · have HY := Lib.hid (HM.out.yes hb)
        have HPO := fun w' => Lib.hid (Power_is (P : Int) P false w' rfl hb (by omega))
        clear hb
        go_wp2_with (first | (go_at_call 63; refine (HPO _).out.mono ?_; rintro e w' ⟨rfl, rfl⟩) | (at_builtin; refine wpList_append_own _ rfl (.tmp 14) (.tmp 16) _ rfl w.heap.size 3 i0 _ 1 8 Try.underlying78 ti tz0 tz1 tz2 rfl (by decide) _ _ _ rfl (HO.out.alloc _) ⟨wr.heap.size, 0, none⟩ 1 1 [_] rfl rfl (one_new _ _ _) ?c1 ?c2 ?c3 ?c4 ?_))
        case c1 => intro u hu; simp at hu; subst hu; rfl
        case c2 => unfold maxLen; omega
        case c3 => omega
        case c4 => have := HB.out.size; simp; omega
        · intro v' w2 hown' hgrow _
          have HO2 := Lib.hid (show w2.ownsRow w.heap.size 3 1 v' (m + 1) (I64 (places (m + 1))) by
            rw [places_succ, HY.out.1, I64_append]
            exact hown')
          have HB2 := Lib.hid ((HB.out.alloc HB.out.size _).grown hgrow (by have := HB.out.size; simp; omega) (fun j hj => (HO.out.lt j hj).1))
          obtain ⟨A2, c2, rfl⟩ := own_form hown'
          clear hown' hgrow HPO
          go_wp2
          go_roundw
          case rel => exact ⟨m + 1, P + 1, c2, A2, by omega, by omega, rfl, by go_num, HY.out.2, HO2, HB2⟩
          case measure => simp [intOf]; omega
      · have HY := Lib.hid (HM.out.no hb).1
        have HPO := fun w' => Lib.hid (Power_is (P : Int) P true w' rfl hb (by omega))
        clear hb
        go_wp2_with (first | (go_at_call 63; refine (HPO _).out.mono ?_; rintro e w' ⟨rfl, rfl⟩))
        clear HPO
        go_roundw
        case rel => exact ⟨m, P + 1, c, A, hm, by omega, rfl, by go_num, HY, HO, HB⟩
        case measure => simp [intOf]; omega
    · obtain rfl : m = n := by omega
      go_wp2
      go_ret
      refine ⟨A, c, by rw [places_length]; rfl, ?_, HB.out⟩
      rw [places_length]
      exact R64.own HO.out (places_bd m h)

/-- What the bits that are 1 come to: the exclusive or of their positions, and their number. -/
theorem bis_bd (l : List Nat) : ∀ x ∈ bis (bitsB l), -9223372036854775808 ≤ x ∧ x ≤ 9223372036854775807 := by
  intro x hx
  simp only [bis, List.mem_map] at hx
  obtain ⟨b, _, rfl⟩ := hx
  have := bi_01 b
  omega
theorem bis_at (l : List Nat) (i : Nat) (h : i < 8 * l.length) : (bis (bitsB l))[i]? = some (bi (getN l i)) := by
  unfold bis
  rw [List.getElem?_map, bitsB_get l i h]
  rfl

set_option maxHeartbeats 1000000 in
theorem gather_any (A : Option Addr) (n c : Nat) (l : List Nat) (w : World) (hr : R8 w A n l) (hn : n ≤ 512) :
    Calls Try.prog 60 #[.slice A n c] w (Gives (.tuple #[.int .i64 (xL l : Int), .int .i64 (nL l : Int)]) w) := by
  have hl := hr.len
  have hx : xL l = gx (getN l) (8 * n) := by unfold xL; rw [hl]
  have hy : nL l = gn (getN l) (8 * n) := by unfold nL; rw [hl]
  have HXY := Lib.hid (And.intro hx hy)
  have hbl : (bis (bitsB l)).length = 8 * n := by rw [bis_length, bitsB_length, hl]
  have HBL := Lib.hid hbl
  have HL := Lib.hid hl
  clear hx hy hbl hl
  go_enter Try.func60, Try.ntmps60
  go_wp2_with fail
  refine (List_any _ _ _ l _ hr (by omega)).mono ?_
  rintro e w1 ⟨A1, c1, rfl, ho1, hb1⟩
  have h1 : R64 w1 A1 (8 * n) (bis (bitsB l)) := by
    have := R64.own ho1 (bis_bd l)
    rwa [HBL.out] at this
  have e1 := HBL.out
  rw [e1]
  clear e1
  have H1 := Lib.hid h1
  have HB1 := Lib.hid hb1
  clear h1 hb1 ho1
  have hP : ∀ w', Calls Try.prog 64 #[.int .i64 (((8 * n : Nat)) : Int)] w' (MakesI (places (8 * n)) w') := fun w' => Places_any (8 * n) w' (by omega)
  have hm4 : 8 * n ≤ 4096 := by omega
  generalize 8 * n = m at *
  go_wp2_with fail
  refine (hP _).mono ?_
  rintro e w2 hM
  obtain ⟨A2, c2, rfl, H2, HB2⟩ := hM.at_ (places_length m)
  clear hM hP
  have H1b := Lib.hid (H1.out.below HB2.out)
  have HBB := Lib.hid (below_step HB1.out HB2.out)
  go_wp2
  go_loop [6, 7, 8] (fun x y i => ∃ X Y k : Nat, k ≤ m ∧ x = .int .i64 (X : Int) ∧ y = .int .i64 (Y : Int) ∧ i = .int .i64 (k : Int) ∧ X < 8192 ∧ Y ≤ k ∧ Hid (X = gx (getN l) k ∧ Y = gn (getN l) k)) (fun _ _ i => m - (intOf i).toNat)
  case atStart => exact ⟨0, 0, 0, Nat.zero_le _, rfl, rfl, rfl, by omega, by omega, rfl, rfl⟩
  case round =>
    obtain ⟨X, Y, k, hk, rfl, rfl, rfl, hX, hY, HV⟩ := hrel
    by_cases hlt : k < m
    · obtain ⟨b1, o1, v, rfl, g1, HG1, _, _, hc1⟩ := H1b.out.at_ hlt
      obtain ⟨b2, o2, p, rfl, g2, HG2, _, _, hc2⟩ := H2.out.at_ hlt
      have hp : p = ((place k : Nat) : Int) := by
        have := HG2.out
        rw [places_at m k hlt] at this
        injection this with this
        exact this.symm
      have hv : v = bi (getN l k) := by
        have := HG1.out
        rw [bis_at l k (by have := HBL.out; rw [bis_length, bitsB_length] at this; omega)] at this
        injection this with this
        exact this.symm
      have hpl := place_lt13 k (by omega)
      have hgx := gx_succ (getN l) k
      have hgn := gn_succ (getN l) k
      rw [← HV.out.1] at hgx
      rw [← HV.out.2] at hgn
      cases hb : getN l k
      · rw [hb] at hv hgx hgn
        simp only [Bool.false_eq_true, if_false] at hgx hgn
        have HN := Lib.hid (show X = gx (getN l) (k + 1) ∧ Y = gn (getN l) (k + 1) from ⟨hgx.symm, hgn.symm⟩)
        have hv0 : v = 0 := hv
        subst hv0
        clear hgx hgn hb hv hp hpl hc2
        go_wp2
        go_round
        case rel => exact ⟨X, Y, k + 1, by omega, rfl, rfl, by go_num, hX, by omega, HN⟩
        case measure => simp [intOf]; omega
      · rw [hb] at hv hgx hgn
        simp only [if_true] at hgx hgn
        subst hp
        have hv1 : v = 1 := hv
        subst hv1
        have HN := Lib.hid (show X ^^^ place k = gx (getN l) (k + 1) ∧ Y + 1 = gn (getN l) (k + 1) from ⟨hgx.symm, hgn.symm⟩)
        have hXP := fun w' => xor_any X (place k) w' hX hpl
        have hlt2 := xor_lt13 hX hpl
        clear hgx hgn hb hv
        generalize X ^^^ place k = Z at *
        generalize place k = P at *
        go_wp2_with (go_at_call 61; refine (hXP _).mono ?_; rintro e w' ⟨rfl, rfl⟩)
        go_round
        case rel => exact ⟨Z, Y + 1, k + 1, by omega, rfl, by go_num, by go_num, hlt2, by omega, HN⟩
        case measure => simp [intOf]; omega
    · obtain rfl : k = m := by omega
      go_wp2
      go_ret2
      refine ⟨?_, HBB.out⟩
      rw [HXY.out.1, HXY.out.2, ← HV.out.1, ← HV.out.2]
      rfl
end Go.Proofs.Ytgiihdeilkiphaa

/-
  Contracts of the document's Word and Judge (package incunableref05), over the landed code's translation.
-/
namespace Go.Proofs.Ytgiihdeilkiphaa
open Go.RowKit
set_option maxRecDepth 100000

theorem nL_le (l : List Nat) : nL l ≤ 8 * l.length := gn_le _ _
set_option maxHeartbeats 1000000 in
theorem RefJudge_any (A : Option Addr) (n c : Nat) (l : List Nat) (m : Nat) (w : World) (hr : R8 w A n l) (hn : n ≤ 512) (hm : m < 65536) :
    Calls Try.prog 44 #[.slice A n c, .int .i64 (m : Int)] w (Gives (.tuple #[.int .i64 ((judgeL l m).1 : Int), .int .i64 ((judgeL l m).2 : Int)]) w) := by
  have hl := hr.len
  have hx := xL_lt l (by omega)
  have hy := nL_le l
  have hp := pop_le (m % 16384) (by omega)
  have hG := gather_any A n c l w hr hn
  have hO : ∀ w', Calls Try.prog 62 #[.int .i64 ((m : Int) % 16384)] w' fun e w'' => e = .returned (.int .i64 (pop (m % 16384) : Int)) ∧ w' = w'' := fun w' => ones_any (m % 16384) w' (by omega)
  have hX : ∀ w', Calls Try.prog 61 #[.int .i64 (xL l : Int), .int .i64 ((m : Int) % 8192)] w' fun e w'' => e = .returned (.int .i64 ((xL l ^^^ m % 8192 : Nat) : Int)) ∧ w' = w'' := fun w' => xor_any (xL l) (m % 8192) w' hx (by omega)
  have hD : xL l ^^^ m % 8192 < 8192 := xor_lt13 hx (by omega)
  have hJ : judgeL l m = verdict (8 * n) (xL l ^^^ m % 8192) (decide ((nL l + pop (m % 16384)) % 2 = 1)) := by unfold judgeL; rw [hl]
  rw [hJ]
  clear hJ
  generalize xL l ^^^ m % 8192 = D at *
  generalize pop (m % 16384) = p at *
  generalize nL l = y at *
  generalize xL l = x at *
  rw [hl] at hy
  clear hl
  have hm4 : 8 * n ≤ 4096 := by omega
  have hPl : ∀ w', Calls Try.prog 64 #[.int .i64 (8 * (n : Int))] w' (MakesI (places (8 * n)) w') := fun w' => Places_any (8 * n) w' hm4
  by_cases ho : (y + p) % 2 = 1
  · have hd : ((((y : Int) + (p : Int)) % 2) == 1) = true := by simp; omega
    rw [decide_eq_true ho]
    by_cases hd0 : D = 0
    · subst hd0
      rw [verdict_zero]
      go_enter Try.func44, Try.ntmps44
      go_wp2_with fail
      refine hG.mono ?_
      rintro e w1 ⟨rfl, hb1⟩
      have HB1 := Lib.hid hb1
      clear hb1 hG hPl
      go_wp2_with (first | (go_at_call 62; refine (hO _).mono ?_; rintro e w' ⟨rfl, rfl⟩) | (go_at_call 61; refine (hX _).mono ?_; rintro e w' ⟨rfl, rfl⟩))
      go_ret2
      exact ⟨rfl, HB1.out⟩
    · have hne : ((D : Int) == 0) = false := by simp; omega
      cases hb : powB D
      · have HV : Hid (∀ k, k < 8 * n → place k = D → verdict (8 * n) D true = (1, k)) := fun k hk hp => verdict_found _ _ k hp hk
        have HV2 : Hid ((∀ k, k < 8 * n → place k ≠ D) → verdict (8 * n) D true = (3, 0)) := fun h => verdict_lost _ _ hd0 hb h
        have hPw := fun w' => Power_is (D : Int) D false w' rfl hb (by omega)
        clear hb
        generalize verdict (8 * n) D true = V at *
        go_enter Try.func44, Try.ntmps44
        go_wp2_with fail
        refine hG.mono ?_
        rintro e w1 ⟨rfl, hb1⟩
        have HB1 := Lib.hid hb1
        clear hb1 hG
        go_wp2_with (first | (go_at_call 62; refine (hO _).mono ?_; rintro e w' ⟨rfl, rfl⟩) | (go_at_call 61; refine (hX _).mono ?_; rintro e w' ⟨rfl, rfl⟩) | (go_at_call 63; refine (hPw _).mono ?_; rintro e w' ⟨rfl, rfl⟩))
        refine (hPl _).mono ?_
        rintro e w2 hM
        obtain ⟨A2, c2, rfl, H2, HB2⟩ := hM.at_ (places_length (8 * n))
        clear hM hPl hO hX hPw
        have HBB := Lib.hid (below_step HB1.out HB2.out)
        generalize 8 * n = N at *
        go_wp2
        go_loop [11] (fun i => ∃ k : Nat, k ≤ N ∧ i = .int .i64 (k : Int) ∧ Hid (∀ j, j < k → place j ≠ D)) (fun i => N - (intOf i).toNat)
        case atStart => exact ⟨0, Nat.zero_le _, rfl, fun j hj => absurd hj (by omega)⟩
        case round =>
          obtain ⟨k, hk, rfl, HK⟩ := hrel
          by_cases hlt : k < N
          · obtain ⟨b2, o2, q, rfl, g2, HG2, _, _, hc2⟩ := H2.out.at_ hlt
            have hq : q = ((place k : Nat) : Int) := by
              have := HG2.out
              rw [places_at N k hlt] at this
              injection this with this
              exact this.symm
            by_cases he : place k = D
            · have hqD : q = (D : Int) := by rw [hq, he]
              subst hqD
              have HE := Lib.hid (HV.out k hlt he)
              clear he hq
              go_wp2
              go_ret2
              refine ⟨?_, HBB.out⟩
              rw [HE.out]
              rfl
            · have hqD : ((q : Int) == (D : Int)) = false := by rw [hq]; simp; omega
              have HN := Lib.hid (show ∀ j, j < k + 1 → place j ≠ D by
                intro j hj
                rcases Nat.lt_or_ge j k with h1 | h1
                · exact HK.out j h1
                · obtain rfl : j = k := by omega
                  exact he)
              clear he hq
              go_wp2
              go_round
              case rel => exact ⟨k + 1, by omega, by go_num, HN⟩
              case measure => simp [intOf]; omega
          · obtain rfl : k = N := by omega
            have HE := Lib.hid (HV2.out HK.out)
            go_wp2
            go_ret2
            refine ⟨?_, HBB.out⟩
            rw [HE.out]
            rfl
      · rw [show verdict (8 * n) D true = (2, 0) by unfold verdict; rw [if_pos rfl, if_pos (Or.inr hb)]]
        have hPw := fun w' => Power_is (D : Int) D true w' rfl hb (by omega)
        clear hb
        go_enter Try.func44, Try.ntmps44
        go_wp2_with fail
        refine hG.mono ?_
        rintro e w1 ⟨rfl, hb1⟩
        have HB1 := Lib.hid hb1
        clear hb1 hG hPl
        go_wp2_with (first | (go_at_call 62; refine (hO _).mono ?_; rintro e w' ⟨rfl, rfl⟩) | (go_at_call 61; refine (hX _).mono ?_; rintro e w' ⟨rfl, rfl⟩) | (go_at_call 63; refine (hPw _).mono ?_; rintro e w' ⟨rfl, rfl⟩))
        go_ret2
        exact ⟨rfl, HB1.out⟩
  · have hd : ((((y : Int) + (p : Int)) % 2) == 1) = false := by simp; omega
    rw [decide_eq_false ho]
    by_cases hd0 : D = 0
    · subst hd0
      rw [verdict_clean]
      go_enter Try.func44, Try.ntmps44
      go_wp2_with fail
      refine hG.mono ?_
      rintro e w1 ⟨rfl, hb1⟩
      have HB1 := Lib.hid hb1
      clear hb1 hG hPl
      go_wp2_with (first | (go_at_call 62; refine (hO _).mono ?_; rintro e w' ⟨rfl, rfl⟩) | (go_at_call 61; refine (hX _).mono ?_; rintro e w' ⟨rfl, rfl⟩))
      go_ret2
      exact ⟨rfl, HB1.out⟩
    · have hne : ((D : Int) == 0) = false := by simp; omega
      rw [verdict_broken _ _ hd0]
      go_enter Try.func44, Try.ntmps44
      go_wp2_with fail
      refine hG.mono ?_
      rintro e w1 ⟨rfl, hb1⟩
      have HB1 := Lib.hid hb1
      clear hb1 hG hPl
      go_wp2_with (first | (go_at_call 62; refine (hO _).mono ?_; rintro e w' ⟨rfl, rfl⟩) | (go_at_call 61; refine (hX _).mono ?_; rintro e w' ⟨rfl, rfl⟩))
      go_ret2
      exact ⟨rfl, HB1.out⟩
end Go.Proofs.Ytgiihdeilkiphaa

/-
  crc.Sum of one, two and three parts, crc.Bytes, over the landed code.
-/
namespace Go.Proofs.Ytgiihdeilkiphaa
open Go.RowKit
set_option maxRecDepth 100000

theorem Sum_one (g : Nat) (A : Option Addr) (n c d : Nat) (l : List Nat) (w : World) (hc : w.cell? ⟨g, 0, none⟩ = some (.slice A n c)) (hr : R8 w A n l) (hn : n ≤ 1099511627776) :
    Calls Try.prog 53 #[.slice (some ⟨g, 0, none⟩) 1 d] w fun e w' => e = .returned (.int .u32 (sumL l : Int)) ∧ w = w' := by
  have h := Sum_any (some ⟨g, 0, none⟩) 1 d [(A, n, c)] [l] w ⟨rfl, fun _ => ⟨g, 0, rfl, World.block_lt_of_cell? w _ hc, fun j hj => ?_⟩⟩ (by omega) rfl ?_
  · simpa using h
  · match j, hj with
    | 0, _ => exact hc
  · intro j v l' hv hl
    match j, hv, hl with
    | 0, hv, hl =>
      simp at hv hl
      subst hv hl
      exact ⟨hr, hn⟩
theorem Bytes_four (n : Nat) (w : World) (h : n < 4294967296) :
    Calls Try.prog 52 #[.int .u32 (n : Int)] w fun e w' => ∃ A c, e = .returned (.slice A 4 c) ∧ Hid (R8 w' A 4 (le4 n)) ∧ Hid (Below w.heap.size w w') :=
  (Bytes_any n w h).mono fun _ _ ⟨A, c, he, ho, hb⟩ => ⟨A, c, he, ⟨Rd.own ho, le4_lt n⟩, hb⟩
theorem Sum_two (g : Nat) (A B : Option Addr) (n c m d k : Nat) (a b : List Nat) (w : World) (hc0 : w.cell? ⟨g, 0, none⟩ = some (.slice A n c)) (hc1 : w.cell? ⟨g, 1, none⟩ = some (.slice B m d))
    (ha : R8 w A n a) (hb : R8 w B m b) (hn : n ≤ 1099511627776) (hm : m ≤ 1099511627776) :
    Calls Try.prog 53 #[.slice (some ⟨g, 0, none⟩) 2 k] w fun e w' => e = .returned (.int .u32 (sumL (a ++ b) : Int)) ∧ w = w' := by
  have h := Sum_any (some ⟨g, 0, none⟩) 2 k [(A, n, c), (B, m, d)] [a, b] w ⟨rfl, fun _ => ⟨g, 0, rfl, World.block_lt_of_cell? w _ hc0, fun j hj => ?_⟩⟩ (by omega) rfl ?_
  · simpa using h
  · match j, hj with
    | 0, _ => exact hc0
    | 1, _ => exact hc1
  · intro j v l' hv hl
    match j, hv, hl with
    | 0, hv, hl => simp at hv hl; subst hv hl; exact ⟨ha, hn⟩
    | 1, hv, hl => simp at hv hl; subst hv hl; exact ⟨hb, hm⟩
theorem Sum_three (g : Nat) (A B C : Option Addr) (n c m d p q k : Nat) (a b x : List Nat) (w : World) (hc0 : w.cell? ⟨g, 0, none⟩ = some (.slice A n c)) (hc1 : w.cell? ⟨g, 1, none⟩ = some (.slice B m d)) (hc2 : w.cell? ⟨g, 2, none⟩ = some (.slice C p q))
    (ha : R8 w A n a) (hb : R8 w B m b) (hx : R8 w C p x) (hn : n ≤ 1099511627776) (hm : m ≤ 1099511627776) (hp : p ≤ 1099511627776) :
    Calls Try.prog 53 #[.slice (some ⟨g, 0, none⟩) 3 k] w fun e w' => e = .returned (.int .u32 (sumL (a ++ (b ++ x)) : Int)) ∧ w = w' := by
  have h := Sum_any (some ⟨g, 0, none⟩) 3 k [(A, n, c), (B, m, d), (C, p, q)] [a, b, x] w ⟨rfl, fun _ => ⟨g, 0, rfl, World.block_lt_of_cell? w _ hc0, fun j hj => ?_⟩⟩ (by omega) rfl ?_
  · simpa using h
  · match j, hj with
    | 0, _ => exact hc0
    | 1, _ => exact hc1
    | 2, _ => exact hc2
  · intro j v l' hv hl
    match j, hv, hl with
    | 0, hv, hl => simp at hv hl; subst hv hl; exact ⟨ha, hn⟩
    | 1, hv, hl => simp at hv hl; subst hv hl; exact ⟨hb, hm⟩
    | 2, hv, hl => simp at hv hl; subst hv hl; exact ⟨hx, hp⟩
end Go.Proofs.Ytgiihdeilkiphaa

/-
  Contracts of pack.appendField and pack.number, over the landed code.
-/
namespace Go.Proofs.Ytgiihdeilkiphaa
open Go.RowKit
set_option maxRecDepth 100000

/-- It returns a slice of the bytes l, owned from base on, and nothing below base has turned. -/
def Appends (base : Nat) (l : List Nat) (k : Nat) (w : World) (e : Ending) (w' : World) : Prop :=
  ∃ A c, e = .returned (.slice A k c) ∧ w'.ownsRow base 5 1 (.slice A k c) k (U8 l) ∧ Below base w w'

theorem or_field (q v k : Nat) (hq : q < 2 ^ (8 * k)) (hv : v < 256) (hk : k < 8) : bits .or .u64 (q : Int) ((v * 2 ^ (8 * k) : Nat) : Int) = ((q + v * 2 ^ (8 * k) : Nat) : Int) := by
  have hp := pow8_le k (by omega)
  have h1 : v * 2 ^ (8 * k) ≤ 255 * 72057594037927936 := Nat.mul_le_mul (by omega) hp
  rw [u64_or_nat _ _ (by omega) (by omega), Nat.or_comm, Nat.mul_comm, ← Nat.two_pow_add_eq_or_of_lt hq]
  congr 1
  omega

theorem wrap_field (x k : Nat) (hx : x < 256) (hk : k < 8) : IntKind.u64.wrap ((x : Int) * 2 ^ (k * 8)) = ((x * 2 ^ (8 * k) : Nat) : Int) := by
  have hp := pow8_le k (by omega)
  have h1 : x * 2 ^ (8 * k) ≤ 255 * 72057594037927936 := Nat.mul_le_mul (by omega) hp
  have e : (x : Int) * 2 ^ (k * 8) = ((x * 2 ^ (8 * k) : Nat) : Int) := by rw [Nat.mul_comm k 8]; simp
  rw [e]
  generalize x * 2 ^ (8 * k) = y at *
  simp [IntKind.wrap, IntKind.bits, IntKind.signed]
  omega

set_option maxHeartbeats 400000 in
theorem number_any (A : Option Addr) (n c : Nat) (l : List Nat) (w : World) (hr : R8 w A n l) (hn : n ≤ 8) :
    Calls Try.prog 78 #[.slice A n c] w fun e w' => e = .returned (.int .u64 (numN l : Int)) ∧ w = w' := by
  have hlen := Lib.hid hr.len
  go_enter Try.func78, Try.ntmps78
  go_wp2
  go_loop [3, 8] (fun t i => ∃ k : Nat, k ≤ n ∧ i = .int .i64 k ∧ t = .int .u64 (numN (l.take k) : Int)) (fun _ i => n - (intOf i).toNat)
  case atStart => exact ⟨0, Nat.zero_le _, rfl, rfl⟩
  case round =>
    obtain ⟨k, hk, rfl, rfl⟩ := hrel
    by_cases hlt : k < n
    · obtain ⟨b, off, x, rfl, hb, HX, hx, hc⟩ := hr.at_ hlt
      have hl : (l.take k).length = k := by have := hlen.out; rw [List.length_take]; omega
      have hq : numN (l.take k) < 2 ^ (8 * k) := by
        have := numN_lt (l.take k) fun y hy => hr.2 y (List.mem_of_mem_take hy)
        rwa [hl] at this
      have HS := Lib.hid (show numN (l.take (k + 1)) = numN (l.take k) + x * 2 ^ (8 * k) by rw [take_snoc HX.out, numN_snoc, hl])
      have HF := Lib.hid (or_field _ x k hq hx (by omega))
      have HW := Lib.hid (wrap_field x k hx (by omega))
      clear hl
      generalize numN (l.take k) = q at *
      go_wp2
      go_round
      case rel =>
        exact ⟨k + 1, by omega, by go_num, by rw [HW.out, HF.out, HS.out]⟩
      case measure => simp [intOf]; omega
    · have HE := Lib.hid (show l.take k = l by rw [List.take_of_length_le (by have := hlen.out; omega)])
      go_wp2
      go_ret
      exact ⟨by rw [HE.out]; rfl, rfl⟩
end Go.Proofs.Ytgiihdeilkiphaa

/-
  Contract of pack.Put, over the landed code.
-/
namespace Go.Proofs.Ytgiihdeilkiphaa
open Go.RowKit
set_option maxRecDepth 100000

/-- It returns a slice of the bytes l, and the error; nothing that was there has turned. -/
def PutsB (l : List Nat) (er : Int) (w : World) (e : Ending) (w' : World) : Prop :=
  ∃ A c, e = .returned (.tuple #[.slice A l.length c, .int .i64 er]) ∧ R8 w' A l.length l ∧ Below w.heap.size w w' ∧ l.length ≤ c ∧ (A = none → c = 0)
theorem PutsB.no {s z : List Int} {w w' : World} (h : canPut s z = false) (hb : Below w.heap.size w w') : PutsB (putA s z) (putE s z) w (.returned (.tuple #[.slice none 0 0, .int .i64 2])) w' := by
  rw [putA_no h, putE_no h]
  exact ⟨none, 0, rfl, ⟨Rd.nil_, by simp⟩, hb, Nat.le_refl _, fun _ => rfl⟩
theorem PutsB.yes {s z : List Int} {w w' : World} {A : Option Addr} {c m : Nat} (h : canPut s z = true) (hm : sumI s = m) (ho : w'.ownsRow w.heap.size 5 1 (.slice A m c) m (U8 (putL s z))) (hb : Below w.heap.size w w') :
    PutsB (putA s z) (putE s z) w (.returned (.tuple #[.slice A m c, .int .i64 0])) w' := by
  obtain ⟨h1, h2, h3⟩ := canPut_yes h
  rw [putA_yes h, putE_yes h]
  have e : (putL s z).length = m := by rw [putL_length s z h2, hm]
  refine ⟨A, c, by rw [e], ?_, hb, ?_, own_nil ho⟩
  · rw [e]
    exact R8.own ho (putL_lt s z)
  · rw [e]
    exact own_cap ho
theorem canPut_bad {s z : List Int} (h : okL s = false) : canPut s z = false := by unfold canPut; rw [h]; rfl
theorem canPut_ne {s z : List Int} (h : s.length ≠ z.length) : canPut s z = false := by unfold canPut; rw [decide_eq_false h]; simp
theorem canPut_unfit {s z : List Int} (h : fitsL s z = false) : canPut s z = false := by unfold canPut; rw [h]; simp

end Go.Proofs.Ytgiihdeilkiphaa

/-
  Contract of the document's Put (package incunableref03), over the landed code's translation.
-/
namespace Go.Proofs.Ytgiihdeilkiphaa
open Go.RowKit
set_option maxRecDepth 100000

/-- It returns a slice of the bytes l in memory of its own, and the error; nothing that was there has turned. -/
def PutsO (l : List Nat) (er : Int) (w : World) (e : Ending) (w' : World) : Prop :=
  ∃ A c, e = .returned (.tuple #[.slice A l.length c, .int .i64 er]) ∧ w'.ownsRow w.heap.size 5 1 (.slice A l.length c) l.length (U8 l) ∧ (∀ x ∈ l, x < 256) ∧ Below w.heap.size w w'
theorem PutsO.no {s z : List Int} {w w' : World} (h : canPut s z = false) (hb : Below w.heap.size w w') : PutsO (putA s z) (putE s z) w (.returned (.tuple #[.slice none 0 0, .int .i64 2])) w' := by
  rw [putA_no h, putE_no h]
  exact ⟨none, 0, rfl, World.ownsRow_nil _ _ _ _, by simp, hb⟩
theorem PutsO.yes {s z : List Int} {w w' : World} {A : Option Addr} {c m : Nat} (h : canPut s z = true) (hm : sumI s = m) (ho : w'.ownsRow w.heap.size 5 1 (.slice A m c) m (U8 (putL s z))) (hb : Below w.heap.size w w') :
    PutsO (putA s z) (putE s z) w (.returned (.tuple #[.slice A m c, .int .i64 0])) w' := by
  obtain ⟨h1, h2, h3⟩ := canPut_yes h
  rw [putA_yes h, putE_yes h]
  have e : (putL s z).length = m := by rw [putL_length s z h2, hm]
  exact ⟨A, c, by rw [e], by rw [e]; exact ho, putL_lt s z, hb⟩
theorem PutsO.puts {l : List Nat} {er : Int} {w w' : World} {e : Ending} (h : PutsO l er w e w') : PutsB l er w e w' := by
  obtain ⟨A, c, he, ho, hl, hb⟩ := h
  exact ⟨A, c, he, R8.own ho hl, hb, own_cap ho, own_nil ho⟩
theorem PutsO.at_ {l : List Nat} {er : Int} {w w' : World} {e : Ending} {n : Nat} (h : PutsO l er w e w') (hl : l.length = n) :
    ∃ A c, e = .returned (.tuple #[.slice A n c, .int .i64 er]) ∧ Hid (R8 w' A n l) ∧ Hid (Below w.heap.size w w') ∧ n ≤ c ∧ Hid (A = none → c = 0) ∧ Hid (w'.ownsRow w.heap.size 5 1 (.slice A n c) n (U8 l)) := by
  subst hl
  obtain ⟨A, c, he, ho, hl, hb⟩ := h
  exact ⟨A, c, he, R8.own ho hl, hb, own_cap ho, own_nil ho, ho⟩

end Go.Proofs.Ytgiihdeilkiphaa

/-
  Contract of pack.Take, over the landed code.
-/
namespace Go.Proofs.Ytgiihdeilkiphaa
open Go.RowKit
set_option maxRecDepth 100000

/-- It returns a slice of the ints l, and the error; nothing that was there has turned. -/
def TakesI (l : List Int) (er : Int) (w : World) (e : Ending) (w' : World) : Prop :=
  ∃ A c, e = .returned (.tuple #[.slice A l.length c, .int .i64 er]) ∧ R64 w' A l.length l ∧ Below w.heap.size w w' ∧ l.length ≤ c ∧ (A = none → c = 0)
theorem TakesI.no {s : List Int} {b : List Nat} {er : Int} {w w' : World} (h : takeE s b = er) (h0 : er ≠ 0) (hb : Below w.heap.size w w') : TakesI (takeA s b) (takeE s b) w (.returned (.tuple #[.slice none 0 0, .int .i64 er])) w' := by
  rw [takeA_no h h0, h]
  exact ⟨none, 0, rfl, ⟨Rd.nil_, by simp⟩, hb, Nat.le_refl _, fun _ => rfl⟩
theorem TakesI.yes {s : List Int} {b : List Nat} {w w' : World} {A : Option Addr} {c m : Nat} (h : takeE s b = 0) (hm : s.length = m) (ho : w'.ownsRow w.heap.size 3 1 (.slice A m c) m (I64 (vals s b))) (hb : Below w.heap.size w w') :
    TakesI (takeA s b) (takeE s b) w (.returned (.tuple #[.slice A m c, .int .i64 0])) w' := by
  have hbd := takeA_bd s b
  rw [h]
  rw [takeA_yes h] at hbd ⊢
  have e : (vals s b).length = m := by rw [vals_length, hm]
  refine ⟨A, c, by rw [e], ?_, hb, ?_, own_nil ho⟩
  · rw [e]
    exact R64.own ho fun x hx => by have := hbd x hx; omega
  · rw [e]
    exact own_cap ho

set_option maxHeartbeats 1000000 in
theorem Take_any (A B : Option Addr) (n c m d : Nat) (s : List Int) (b : List Nat) (w : World) (ha : R64 w A n s) (hb : R8 w B m b) (hn : n ≤ 1099511627776) (_hm : m ≤ 1099511627776) (hd : m ≤ d) :
    Calls Try.prog 54 #[.slice A n c, .slice B m d] w (TakesI (takeA s b) (takeE s b) w) := by
  have HA := Lib.hid ha
  have HB := Lib.hid hb
  have la := Lib.hid ha.len
  have lb := Lib.hid hb.len
  clear ha hb
  cases hok : okL s
  · have HP := Lib.hid (takeE_bad (b := b) hok)
    have HO := Lib.hid hok
    clear hok
    go_enter Try.func54, Try.ntmps54
    go_wp2_with (go_at_call 77; refine (Size_no _ _ _ s _ HA.out HO.out hn).mono ?_; rintro e w' ⟨rfl, rfl⟩)
    go_ret2
    exact TakesI.no HP.out (by decide) (Below.refl _ _)
  · have HO := Lib.hid hok
    have hT := okL_sum hok
    clear hok
    by_cases hlo : m < sumI s
    · have HP := Lib.hid (takeE_short HO.out (show b.length < sumI s by rw [lb.out]; exact hlo))
      go_enter Try.func54, Try.ntmps54
      go_wp2_with (go_at_call 77; refine (Size_yes _ _ _ s _ HA.out HO.out).mono ?_; rintro e w' ⟨rfl, rfl⟩)
      go_ret2
      exact TakesI.no HP.out (by decide) (Below.refl _ _)
    · by_cases hhi : sumI s < m
      · have HP := Lib.hid (takeE_long HO.out (show sumI s < b.length by rw [lb.out]; exact hhi))
        go_enter Try.func54, Try.ntmps54
        go_wp2_with (go_at_call 77; refine (Size_yes _ _ _ s _ HA.out HO.out).mono ?_; rintro e w' ⟨rfl, rfl⟩)
        go_ret2
        exact TakesI.no HP.out (by decide) (Below.refl _ _)
      · have HM := Lib.hid (show sumI s = m by omega)
        obtain ⟨i0, ti, tz0, tz1, tz2⟩ := info_parts info_int
        have hn64 : n ≤ 64 := by have := okL_len HO.out; have := la.out; omega
        go_enter Try.func54, Try.ntmps54
        go_wp2_with (first | (go_at_call 77; refine (Size_yes _ _ _ s _ HA.out HO.out).mono ?_; rintro e w' ⟨rfl, rfl⟩) | (at_make; refine wpList_make_own _ rfl _ _ _ rfl w.heap.size 3 i0 _ 1 Try.underlying78 ti tz0 tz1 .i64 .i64 (n : Int) n rfl rfl rfl ?b1 ?b2 ?b3 ?_))
        case b1 => rw [tz2]; omega
        case b2 => unfold maxLen; omega
        case b3 => exact Nat.le_refl _
        intro w1 hown hg
        have HO1 := Lib.hid hown
        have HB1 := Lib.hid (show Below w.heap.size w w1 from (Below.refl _ _).grown hg (by simp) (by simp))
        clear hown hg
        go_wp2
        go_loopw [1, 8, 35] (fun y v i wr => ∃ k : Nat, k ≤ n ∧ i = .int .i64 k ∧ ∃ D p cc, y = .slice D p cc ∧ Hid (p + sumI (s.take k) = m) ∧ p ≤ cc ∧ p ≤ 512 ∧ Hid (R8 w D p (b.drop (sumI (s.take k)))) ∧ Hid (wr.ownsRow w.heap.size 3 1 v k (I64 (vals (s.take k) b))) ∧ Hid (Below w.heap.size w wr) ∧ Hid (low (vals (s.take k) b) = true)) (fun _ _ i _ => n - (intOf i).toNat)
        case atStart => exact ⟨0, Nat.zero_le _, rfl, B, m, d, rfl, rfl, hd, by omega, HB, HO1, HB1, rfl⟩
        case round =>
          obtain ⟨k, hk, rfl, D, p, cc, rfl, HE, hpc, hp5, HD, HOr, HBr, HL⟩ := hrel
          by_cases hlt : k < n
          · obtain ⟨b1, o1, x, rfl, h1, HX, hx1, hx2, hc1⟩ := (HA.out.below HBr.out).at_ hlt
            have hx := okL_at HO.out HX.out
            obtain ⟨t, rfl⟩ := Int.eq_ofNat_of_zero_le (show 0 ≤ x by omega)
            have HS2 := Lib.hid (show sumI (s.take (k + 1)) = sumI (s.take k) + t by rw [take_snoc HX.out, sumI_snoc]; rfl)
            have HV2 := Lib.hid (show vals (s.take (k + 1)) b = vals (s.take k) b ++ [(numN ((b.drop (sumI (s.take k))).take t) : Int)] by rw [take_snoc HX.out, vals_snoc]; rfl)
            have HV3 := Lib.hid (show (vals s b)[k]? = some (numN ((b.drop (sumI (s.take k))).take t) : Int) from vals_at b HX.out)
            have htp : t ≤ p := by
              have h3 := sumI_take_le s (k + 1)
              have h4 := HS2.out
              have h5 := HE.out
              have h6 := HM.out
              omega
            obtain ⟨ad, rfl⟩ : ∃ ad, D = some ad := by
              obtain ⟨b2, o2, h3, _⟩ := HD.out.1.2 (by omega)
              exact ⟨_, h3⟩
            obtain ⟨D2, hD2, hr2⟩ : ∃ D2 : Option Addr, (if cc = t then some ad else some (ad.add t)) = D2 ∧ R8 w D2 (p - t) ((b.drop (sumI (s.take k))).drop t) := ⟨_, rfl, HD.out.cut t cc htp hpc⟩
            have HR2 := Lib.hid (show R8 w D2 (p - t) (b.drop (sumI (s.take (k + 1)))) by rw [HS2.out, ← List.drop_drop]; exact hr2)
            have HR1 := Lib.hid ((HD.out.below HBr.out).take_ t htp)
            have hnum : numN ((b.drop (sumI (s.take k))).take t) < 18446744073709551616 := by
              have h3 := numN_lt _ HR1.out.2
              rw [HR1.out.len] at h3
              exact Nat.lt_of_lt_of_le h3 (Nat.pow_le_pow_right (n := 2) (by omega) (show 8 * t ≤ 64 by omega))
            clear hr2
            have k1 : (0 : Int) ≤ (t : Int) := by omega
            have k2 : (t : Int) ≤ (p : Int) := by omega
            have k3 : (t : Int) ≤ (cc : Int) := by omega
            generalize (b.drop (sumI (s.take k))).take t = f at *
            by_cases hbig : 4611686018427387904 < numN f
            · have HP := Lib.hid (takeE_high HO.out (show sumI s = b.length by rw [HM.out, lb.out]) (low_bad HV3.out (by omega)))
              go_wp2_with (go_at_call 78; refine (number_any _ _ _ f _ HR1.out (by omega)).mono ?_; rintro e w' ⟨rfl, rfl⟩)
              go_ret2
              exact TakesI.no HP.out (by decide) HBr.out
            · have HL2 := Lib.hid (show low (vals (s.take (k + 1)) b) = true by rw [HV2.out]; exact low_snoc HL.out (by omega))
              have hz : w.heap.size ≤ wr.heap.size := HBr.out.size
              go_wp2_with (first | (go_at_call 78; refine (number_any _ _ _ f _ HR1.out (by omega)).mono ?_; rintro e w' ⟨rfl, rfl⟩) | (at_builtin; refine wpList_append_own _ rfl (.tmp 45) (.tmp 48) _ rfl w.heap.size 3 i0 _ 1 8 Try.underlying78 ti tz0 tz1 tz2 rfl (by decide) _ _ _ rfl (HOr.out.alloc _) ⟨wr.heap.size, 0, none⟩ 1 1 [_] rfl rfl (one_new _ _ _) ?c1 ?c2 ?c3 ?c4 ?_))
              case c1 => intro u hu; simp at hu; subst hu; rfl
              case c2 => unfold maxLen; omega
              case c3 => omega
              case c4 => simp; omega
              · intro v' w2 hown' hgrow _
                have HO2 := Lib.hid (show w2.ownsRow w.heap.size 3 1 v' (k + 1) (I64 (vals (s.take (k + 1)) b)) by
                  rw [HV2.out, I64_append]
                  exact hown')
                have HB2 := Lib.hid ((HBr.out.alloc hz _).grown hgrow (by simp; omega) (fun j hj => (HOr.out.lt j hj).1))
                clear hown' hgrow
                go_wp2
                go_roundw
                case rel => exact ⟨k + 1, by omega, by go_num, D2, p - t, cc - t, rfl, (by have h4 := HS2.out; have h5 := HE.out; show p - t + sumI (s.take (k + 1)) = m; omega), by omega, by omega, HR2, HO2, HB2, HL2⟩
                case measure => simp [intOf]; omega
          · obtain rfl : k = n := by omega
            have HE2 := Lib.hid (show s.take k = s from List.take_of_length_le (by have := la.out; omega))
            have HP := Lib.hid (takeE_yes HO.out (show sumI s = b.length by rw [HM.out, lb.out]) (by have := HL.out; rwa [HE2.out] at this))
            obtain ⟨A1, c1, rfl⟩ := own_form HOr.out
            go_wp2
            go_ret2
            exact TakesI.yes HP.out la.out (by have := HOr.out; rw [HE2.out] at this; exact this) HBr.out
end Go.Proofs.Ytgiihdeilkiphaa

/-
  What the contracts of fields say at a length that is known; a slice of one int.
-/
namespace Go.Proofs.Ytgiihdeilkiphaa
open Go.RowKit

theorem PutsB.at_ {l : List Nat} {er : Int} {w w' : World} {e : Ending} {n : Nat} (h : PutsB l er w e w') (hl : l.length = n) :
    ∃ A c, e = .returned (.tuple #[.slice A n c, .int .i64 er]) ∧ Hid (R8 w' A n l) ∧ Hid (Below w.heap.size w w') ∧ n ≤ c ∧ Hid (A = none → c = 0) := by
  subst hl
  exact h
theorem TakesI.at_ {l : List Int} {er : Int} {w w' : World} {e : Ending} {n : Nat} (h : TakesI l er w e w') (hl : l.length = n) :
    ∃ A c, e = .returned (.tuple #[.slice A n c, .int .i64 er]) ∧ Hid (R64 w' A n l) ∧ Hid (Below w.heap.size w w') ∧ n ≤ c ∧ Hid (A = none → c = 0) := by
  subst hl
  exact h
theorem R64.one {w : World} {g : Nat} {x : Int} (h : w.cell? ⟨g, 0, none⟩ = some (.int .i64 x)) (h1 : -9223372036854775808 ≤ x) (h2 : x ≤ 9223372036854775807) : R64 w (some ⟨g, 0, none⟩) 1 [x] := by
  refine ⟨⟨rfl, fun _ => ⟨g, 0, rfl, World.block_lt_of_cell? w _ h, fun j hj => ?_⟩⟩, by intro y hy; simp at hy; subst hy; exact ⟨h1, h2⟩⟩
  match j, hj with
  | 0, _ => simpa [I64] using h
end Go.Proofs.Ytgiihdeilkiphaa

/-
  Contract of the document's Take (package incunableref03), over the landed code's translation.
-/
namespace Go.Proofs.Ytgiihdeilkiphaa
open Go.RowKit
set_option maxRecDepth 100000

/-- What a byte counts at its place, as far as an int holds it. -/
def scl (j : Nat) : Nat := if j = 8 then 0 else 2 ^ (8 * j)
theorem scl_of (j : Nat) (h : j ≤ 7) : scl j = 2 ^ (8 * j) := by unfold scl; rw [if_neg (by omega)]
theorem scl_le (j : Nat) (h : j ≤ 7) : scl j ≤ 72057594037927936 := by rw [scl_of j h]; exact pow8_le j h
theorem scl_succ (j : Nat) (h : j < 7) : scl (j + 1) = scl j * 256 := by rw [scl_of _ (by omega), scl_of _ (by omega), show 8 * (j + 1) = 8 * j + 8 by omega, Nat.pow_add]
theorem scl_7 : scl 7 = 72057594037927936 := rfl
theorem scl_8 : scl 8 = 0 := rfl

theorem wrap_two (q y sc : Nat) (h1 : y * sc ≤ 9223372036854775807) (h2 : q + y * sc ≤ 9223372036854775807) : Value.int .i64 (wrap64 ((q : Int) + wrap64 ((y : Int) * (sc : Int)))) = Value.int .i64 ((q + y * sc : Nat) : Int) := by
  have e : (y : Int) * (sc : Int) = ((y * sc : Nat) : Int) := by simp
  rw [e]
  generalize y * sc = p at *
  have h : wrap64 ((q : Int) + wrap64 (p : Int)) = ((q + p : Nat) : Int) := by unfold wrap64; omega
  rw [h]
theorem wrap_out (sc j : Nat) (h : sc = 72057594037927936) (hj : j = 7) : Value.int .i64 (wrap64 ((sc : Int) * 256)) = Value.int .i64 (scl (j + 1) : Int) := by
  have e : wrap64 ((sc : Int) * 256) = (scl (j + 1) : Int) := by
    subst h hj
    rw [show 7 + 1 = 8 from rfl, scl_8]
    unfold wrap64
    omega
  rw [e]

set_option maxHeartbeats 1000000 in
theorem RefTake_any (A B : Option Addr) (n c m d : Nat) (s : List Int) (b : List Nat) (w : World) (ha : R64 w A n s) (hb : R8 w B m b) (hn : n ≤ 1099511627776) (_hm : m ≤ 1099511627776) :
    Calls Try.prog 46 #[.slice A n c, .slice B m d] w (TakesI (takeA s b) (takeE s b) w) := by
  have HA := Lib.hid ha
  have HB := Lib.hid hb
  have la := Lib.hid ha.len
  have lb := Lib.hid hb.len
  clear ha hb
  cases hok : okL s
  · have HP := Lib.hid (takeE_bad (b := b) hok)
    have HO := Lib.hid hok
    clear hok
    go_enter Try.func46, Try.ntmps46
    go_wp2_with (go_at_call 66; refine (RefSize_no _ _ _ s _ HA.out HO.out hn).mono ?_; rintro e w' ⟨rfl, rfl⟩)
    go_ret2
    exact TakesI.no HP.out (by decide) (Below.refl _ _)
  · have HO := Lib.hid hok
    have hT := okL_sum hok
    clear hok
    by_cases hlo : m < sumI s
    · have HP := Lib.hid (takeE_short HO.out (show b.length < sumI s by rw [lb.out]; exact hlo))
      go_enter Try.func46, Try.ntmps46
      go_wp2_with (go_at_call 66; refine (RefSize_yes _ _ _ s _ HA.out HO.out).mono ?_; rintro e w' ⟨rfl, rfl⟩)
      go_ret2
      exact TakesI.no HP.out (by decide) (Below.refl _ _)
    · by_cases hhi : sumI s < m
      · have HP := Lib.hid (takeE_long HO.out (show sumI s < b.length by rw [lb.out]; exact hhi))
        go_enter Try.func46, Try.ntmps46
        go_wp2_with (go_at_call 66; refine (RefSize_yes _ _ _ s _ HA.out HO.out).mono ?_; rintro e w' ⟨rfl, rfl⟩)
        go_ret2
        exact TakesI.no HP.out (by decide) (Below.refl _ _)
      · have HM := Lib.hid (show sumI s = m by omega)
        obtain ⟨i0, ti, tz0, tz1, tz2⟩ := info_parts info_int
        have hn64 : n ≤ 64 := by have := okL_len HO.out; have := la.out; omega
        go_enter Try.func46, Try.ntmps46
        go_wp2_with (go_at_call 66; refine (RefSize_yes _ _ _ s _ HA.out HO.out).mono ?_; rintro e w' ⟨rfl, rfl⟩)
        go_loopw [8, 9, 10] (fun v a i wr => ∃ k : Nat, k ≤ n ∧ i = .int .i64 k ∧ a = .int .i64 (sumI (s.take k) : Int) ∧ Hid (wr.ownsRow w.heap.size 3 1 v k (I64 (vals (s.take k) b))) ∧ Hid (Below w.heap.size w wr) ∧ Hid (low (vals (s.take k) b) = true)) (fun _ _ i _ => n - (intOf i).toNat)
        case atStart => exact ⟨0, Nat.zero_le _, rfl, rfl, World.ownsRow_nil _ _ _ _, Below.refl _ _, rfl⟩
        case round =>
          obtain ⟨k, hk, rfl, rfl, HOr, HBr, HL⟩ := hrel
          by_cases hlt : k < n
          · obtain ⟨b1, o1, x, rfl, h1, HX, hx1, hx2, hc1⟩ := (HA.out.below HBr.out).at_ hlt
            have hx := okL_at HO.out HX.out
            obtain ⟨t, rfl⟩ := Int.eq_ofNat_of_zero_le (show 0 ≤ x by omega)
            have HS2 := Lib.hid (show sumI (s.take (k + 1)) = sumI (s.take k) + t by rw [take_snoc HX.out, sumI_snoc]; rfl)
            have HV2 := Lib.hid (show vals (s.take (k + 1)) b = vals (s.take k) b ++ [(numN ((b.drop (sumI (s.take k))).take t) : Int)] by rw [take_snoc HX.out, vals_snoc]; rfl)
            have HV3 := Lib.hid (show (vals s b)[k]? = some (numN ((b.drop (sumI (s.take k))).take t) : Int) from vals_at b HX.out)
            have htp : sumI (s.take k) + t ≤ m := by
              have h3 := sumI_take_le s (k + 1)
              have h4 := HS2.out
              have h6 := HM.out
              omega
            have hz : w.heap.size ≤ wr.heap.size := HBr.out.size
            have HFl := Lib.hid (show ((b.drop (sumI (s.take k))).take t).length = t by rw [List.length_take, List.length_drop, lb.out]; omega)
            have HFb := Lib.hid (show ∀ j, j < t → ((b.drop (sumI (s.take k))).take t)[j]? = b[sumI (s.take k) + j]? by
              intro j hj
              rw [List.getElem?_take, if_pos hj, List.getElem?_drop])
            have HFx := Lib.hid (show ∀ y ∈ (b.drop (sumI (s.take k))).take t, y < 256 from fun y hy => HB.out.2 y (List.mem_of_mem_drop (List.mem_of_mem_take hy)))
            generalize (b.drop (sumI (s.take k))).take t = f at *
            have hat : sumI (s.take k) ≤ 512 := by omega
            generalize hatq : sumI (s.take k) = at0 at *
            have HAT := Lib.hid hatq
            clear hatq
            go_wp2
            go_loop [11, 12, 13] (fun v sc i => ∃ j : Nat, j ≤ t ∧ i = .int .i64 j ∧ v = .int .i64 (numN (f.take j) : Int) ∧ sc = .int .i64 (scl j : Int) ∧ numN (f.take j) ≤ 4611686018427387904) (fun _ _ i => t - (intOf i).toNat)
            case atStart => exact ⟨0, Nat.zero_le _, rfl, rfl, rfl, by simp [numN]⟩
            case round =>
              obtain ⟨j, hj, rfl, rfl, rfl, hle⟩ := hrel
              by_cases hjt : j < t
              · obtain ⟨b2, o2, y, rfl, h2, HY, hy, hc2⟩ := (HB.out.below HBr.out).at_ (show at0 + j < m by omega)
                have hcl : (f.take j).length = j := by rw [List.length_take, HFl.out]; omega
                have HY2 := Lib.hid (show f[j]? = some y by rw [HFb.out j hjt]; exact HY.out)
                have HN := Lib.hid (show numN (f.take (j + 1)) = numN (f.take j) + y * 2 ^ (8 * j) by rw [take_snoc HY2.out, numN_snoc, hcl])
                have hlt2 : numN (f.take j) < 2 ^ (8 * j) := by
                  have h3 := numN_lt (f.take j) fun z hz => HFx.out z (List.mem_of_mem_take hz)
                  rwa [hcl] at h3
                clear hcl
                have hc3 : wr.cell? ⟨b2, o2 + (at0 + j), none⟩ = some (.int .u8 (y : Int)) := hc2
                by_cases h7 : j = 7
                · have h7t : ((j : Int) == 7) = true := by subst h7; rfl
                  have HJ := Lib.hid h7
                  have hq7 : numN (f.take j) < 72057594037927936 := by rw [h7] at hlt2 ⊢; exact hlt2
                  have HSe := Lib.hid (show scl j = 72057594037927936 by rw [h7]; rfl)
                  have HFe := Lib.hid (show numN f = numN (f.take j) + y * 72057594037927936 by
                    have h3 := HN.out
                    rw [h7] at h3 ⊢
                    rw [List.take_of_length_le (show f.length ≤ 7 + 1 by rw [HFl.out]; omega)] at h3
                    exact h3)
                  have HN7 := Lib.hid (show numN (f.take (j + 1)) = numN (f.take j) + y * 72057594037927936 by
                    have h3 := HN.out
                    rw [h7] at h3 ⊢
                    exact h3)
                  have hsl : scl j ≤ 72057594037927936 := by rw [HSe.out]; exact Nat.le_refl _
                  have hj8 : j < 8 := by omega
                  clear h7 hlt2
                  generalize numN (f.take j) = q at *
                  generalize scl j = sc at *
                  by_cases hy64 : 64 < y
                  · have HP := Lib.hid (takeE_high HO.out (show sumI s = b.length by rw [HM.out, lb.out]) (low_bad HV3.out (by have := HFe.out; omega)))
                    go_wp2
                    go_ret2
                    exact TakesI.no HP.out (by decide) HBr.out
                  · by_cases hye : y = 64
                    · subst hye
                      by_cases hq0 : 0 < q
                      · have HP := Lib.hid (takeE_high HO.out (show sumI s = b.length by rw [HM.out, lb.out]) (low_bad HV3.out (by have := HFe.out; omega)))
                        go_wp2
                        go_ret2
                        exact TakesI.no HP.out (by decide) HBr.out
                      · go_wp2
                        go_round
                        case rel =>
                          refine ⟨j + 1, by omega, by go_num, ?_, wrap_out _ _ HSe.out HJ.out, by rw [HN7.out]; omega⟩
                          have e : (q : Int) + 64 * (sc : Int) = (numN (f.take (j + 1)) : Int) := by have h3 := HN7.out; have h4 := HSe.out; omega
                          rw [e]
                        case measure => simp [intOf]; omega
                    · have hye2 : ((y : Int) == 64) = false := beq_eq_false_iff_ne.2 (by omega)
                      go_wp2
                      go_round
                      case rel =>
                        have h4 := HSe.out
                        have h5 : y * sc ≤ 4539628424389459968 := by rw [h4]; omega
                        refine ⟨j + 1, by omega, by go_num, ?_, wrap_out _ _ h4 HJ.out, by rw [HN7.out]; omega⟩
                        rw [wrap_two q y sc (by omega) (by omega), HN7.out, h4]
                      case measure => simp [intOf]; omega
                · have hj7 : j < 7 := by omega
                  have hne : ((j : Int) == 7) = false := beq_eq_false_iff_ne.2 (by omega)
                  have HSc := Lib.hid (scl_succ j hj7)
                  have hsl : scl j ≤ 281474976710656 := by rw [scl_of j (by omega)]; exact Nat.pow_le_pow_right (n := 2) (by omega) (show 8 * j ≤ 48 by omega)
                  have HSe := Lib.hid (scl_of j (by omega))
                  clear h7
                  generalize numN (f.take j) = q at *
                  generalize scl j = sc at *
                  go_wp2
                  go_round
                  case rel =>
                    have hy2 : y * 2 ^ (8 * j) ≤ 255 * 281474976710656 := Nat.mul_le_mul (by omega) (by rw [← HSe.out]; exact hsl)
                    rw [← HSe.out] at hy2 hlt2
                    have hN := HN.out
                    rw [← HSe.out] at hN
                    refine ⟨j + 1, by omega, by go_num, ?_, by rw [HSc.out]; go_num, by omega⟩
                    rw [hN]
                    rw [wrap_two q y sc (by omega) (by omega)]
                  case measure => simp [intOf]; omega
              · obtain rfl : j = t := by omega
                have HFe := Lib.hid (show f.take j = f from List.take_of_length_le (by rw [HFl.out]; exact Nat.le_refl _))
                have HL2 := Lib.hid (show low (vals (s.take (k + 1)) b) = true by rw [HV2.out]; exact low_snoc HL.out (by have := HFe.out; rw [this] at hle; omega))
                go_wp2_with (at_builtin; refine wpList_append_own _ rfl (.tmp 72) (.tmp 74) _ rfl w.heap.size 3 i0 _ 1 8 Try.underlying78 ti tz0 tz1 tz2 rfl (by decide) _ _ _ rfl (HOr.out.alloc _) ⟨wr.heap.size, 0, none⟩ 1 1 [_] rfl rfl (one_new _ _ _) ?c1 ?c2 ?c3 ?c4 ?_)
                case c1 => first | rfl | (intro u hu; simp at hu; subst hu; rfl)
                case c2 => unfold maxLen; omega
                case c3 => omega
                case c4 => first | omega | (simp; omega)
                · intro v' w2 hown' hgrow _
                  have HO2 := Lib.hid (show w2.ownsRow w.heap.size 3 1 v' (k + 1) (I64 (vals (s.take (k + 1)) b)) by
                    rw [HV2.out, I64_append, ← HFe.out]
                    exact hown')
                  have HB2 := Lib.hid ((HBr.out.alloc hz _).grown hgrow (by simp; omega) (fun j hj => (HOr.out.lt j hj).1))
                  have hb1w : b1 < w.heap.size := by
                    obtain ⟨b9, o9, h3, h4, h5⟩ := HA.out.1.2 (by omega)
                    injection h3 with h3
                    injection h3 with h31 h32
                    subst h31
                    exact h4
                  have hc4 : w2.cell? ⟨b1, o1 + k, none⟩ = some (.int .i64 (j : Int)) := by
                    rw [HB2.out.cell (p := ⟨b1, o1 + k, none⟩) hb1w, ← HBr.out.cell (p := ⟨b1, o1 + k, none⟩) hb1w]
                    exact hc1
                  clear hown' hgrow hc1
                  go_wp2
                  go_roundw
                  case rel => exact ⟨k + 1, by omega, by go_num, by rw [HS2.out]; go_num, HO2, HB2, HL2⟩
                  case measure => simp [intOf]; omega
          · obtain rfl : k = n := by omega
            have HE2 := Lib.hid (show s.take k = s from List.take_of_length_le (by have := la.out; omega))
            have HP := Lib.hid (takeE_yes HO.out (show sumI s = b.length by rw [HM.out, lb.out]) (by have := HL.out; rwa [HE2.out] at this))
            obtain ⟨A1, c1, rfl⟩ := own_form HOr.out
            go_wp2
            go_ret2
            exact TakesI.yes HP.out la.out (by have := HOr.out; rw [HE2.out] at this; exact this) HBr.out
end Go.Proofs.Ytgiihdeilkiphaa
