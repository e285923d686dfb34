/-
  The walk of the law HammingTwo over the landed code, out of its callees' contracts: for whatever bytes and numbers it returns true, and nothing that was there has turned.
-/
import Derived.Test.YtppkddnifjgllaaHamOne
namespace Go.Proofs.Ytppkddnifjgllaa
open Go.RowKit

/-- One bit turned: of the bytes, or of the word. -/
def turn1 (m : Nat) (s : List Nat × Nat) (x : Nat) : List Nat × Nat := if x < m then (flip1 s.1 (x : Int), s.2) else (s.1, s.2 ^^^ 2 ^ (x - m))
theorem turn_both (l : List Nat) (i k : Nat) (h : l.length ≤ 512) (hi : i < 8 * l.length + 14) (hk : k < 8 * l.length + 14) (hne : i ≠ k) :
    judgeL (turn1 (8 * l.length) (turn1 (8 * l.length) (l, wordL l) i) k).1 (turn1 (8 * l.length) (turn1 (8 * l.length) (l, wordL l) i) k).2 = (3, 0) := by
  unfold turn1
  by_cases h1 : i < 8 * l.length <;> by_cases h2 : k < 8 * l.length
  · simp only [h1, h2, if_true]
    exact judge_two l i k h h1 h2 hne
  · simp only [h1, h2, if_true, if_false]
    exact judge_mixed l i (k - 8 * l.length) h h1 (by omega)
  · simp only [h1, h2, if_true, if_false]
    exact judge_mixed l k (i - 8 * l.length) h h2 (by omega)
  · simp only [h1, h2, if_false]
    exact judge_words l (i - 8 * l.length) (k - 8 * l.length) h (by omega) (by omega) (by omega)

/-- Behind none, one, two of them. -/
def turnT (m : Nat) (l : List Nat) (W i k : Nat) : Nat → List Nat × Nat
  | 0 => (l, W)
  | 1 => turn1 m (l, W) i
  | _ => turn1 m (turn1 m (l, W) i) k
theorem two_ints (w : World) (x y : Int) (t : TypeId) : (w.alloc (.cells #[.int .i64 x, .int .i64 y] t)).cell? ⟨w.heap.size, 0, none⟩ = some (.int .i64 x) ∧ (w.alloc (.cells #[.int .i64 x, .int .i64 y] t)).cell? ⟨w.heap.size, 1, none⟩ = some (.int .i64 y) := by
  constructor <;> simp

set_option maxHeartbeats 400000 in
theorem HammingTwo_walk (A : Option Addr) (n c : Nat) (l : List Nat) (p q : Nat) (w : World) (hr : R8 w A n l) (hn : n ≤ 9223372036854775807) (hp : p < 65536) (hq : q < 65536) :
    Calls Try.prog 6 #[.slice A n c, .agg #[.int .u16 (p : Int), .int .u16 (q : Int)]] w (Gives (.bool true) w) := by
  have HR := Lib.hid hr
  have hl := hr.len
  clear hr
  by_cases h60 : 60 < n
  · clear hl
    go_enter Try.func6, Try.ntmps6
    go_wp2_with (first | (go_at_call 8; refine (awake5_any _).mono ?_; rintro e w' ⟨rfl, rfl⟩))
    go_ret
    exact ⟨rfl, (Below.refl _ _).alloc (Nat.le_refl _) _⟩
  · have hW := fun w' (h : R8 w' A n l) => Word_any A n c l w' h (by omega)
    have hw16 := (wordL_parts l (by omega)).2.2.1
    obtain ⟨W, HWl⟩ : ∃ W, Hid (wordL l = W) := ⟨_, rfl⟩
    rw [HWl.out] at hW hw16
    obtain ⟨i, hi⟩ : ∃ i, p % (8 * n + 14) = i := ⟨_, rfl⟩
    obtain ⟨k, hk⟩ : ∃ k, q % (8 * n + 14) = k := ⟨_, rfl⟩
    have hi14 : i < 8 * n + 14 := by rw [← hi]; exact Nat.mod_lt _ (by omega)
    have hk14 : k < 8 * n + 14 := by rw [← hk]; exact Nat.mod_lt _ (by omega)
    have him : ((p : Int) % (8 * (n : Int) + 14)) = (i : Int) := by
      rw [← hi, Int.natCast_emod, Int.natCast_add, Int.natCast_mul]
      rfl
    have hkm : ((q : Int) % (8 * (n : Int) + 14)) = (k : Int) := by
      rw [← hk, Int.natCast_emod, Int.natCast_add, Int.natCast_mul]
      rfl
    have HL := Lib.hid hl
    clear hl hi hk
    go_enter Try.func6, Try.ntmps6
    go_wp2_with (first | (go_at_call 8; refine (awake5_any _).mono ?_; rintro e w' ⟨rfl, rfl⟩))
    refine (hW _ (HR.out.alloc _)).mono ?_
    rintro e w1 ⟨rfl, hb1⟩
    have hs1 : w.heap.size < (w.alloc (.cells #[.int .u16 (p : Int), .int .u16 (q : Int)] 43)).heap.size := by simp
    have hc0 : w1.cell? ⟨w.heap.size, 0, none⟩ = some (.int .u16 (p : Int)) := (hb1.cell hs1).trans (by simp)
    have hc1 : w1.cell? ⟨w.heap.size, 1, none⟩ = some (.int .u16 (q : Int)) := (hb1.cell hs1).trans (by simp)
    have HB1 := Lib.hid (((Below.refl w.heap.size w).alloc (Nat.le_refl _) (.cells #[.int .u16 (p : Int), .int .u16 (q : Int)] 43)).trans (hb1.mono (Nat.le_of_lt hs1)))
    have HR1 := Lib.hid (HR.out.below HB1.out)
    clear hb1 hs1
    have hdiv : (8 * (n : Int) + 14) ≠ 0 := by omega
    go_wp2
    go_quiet (fail)
    rw [him, hkm]
    clear him hkm hc0 hc1 hdiv hW
    have HB2 := Lib.hid (below_drewN HB1.out nq)
    have HR2 := Lib.hid (HR1.out.drewN nq)
    generalize w1.drewN nq = w2 at *
    by_cases hik : i = k
    · subst hik
      go_wp2
      go_ret
      exact ⟨rfl, HB2.out⟩
    · have hne : ((i : Int) == (k : Int)) = false := by simp; omega
      have HE := Lib.hid (show judgeL (turnT (8 * n) l W i k 2).1 (turnT (8 * n) l W i k 2).2 = (3, 0) by
        have := turn_both l i k (by have := HL.out; omega) (by have := HL.out; omega) (by have := HL.out; omega) hik
        rw [HL.out, HWl.out] at this
        exact this)
      clear hik HWl
      go_wp2
      obtain ⟨t0, t1⟩ := two_ints w2 (i : Int) (k : Int) 3
      have T0 := Lib.hid t0
      have T1 := Lib.hid t1
      clear t0 t1
      have HB3 := Lib.hid (HB2.out.alloc HB2.out.size (.cells #[.int .i64 (i : Int), .int .i64 (k : Int)] 3))
      have HR3 := Lib.hid (HR2.out.alloc (.cells #[.int .i64 (i : Int), .int .i64 (k : Int)] 3))
      have hs3 : w2.heap.size < (w2.alloc (.cells #[.int .i64 (i : Int), .int .i64 (k : Int)] 3)).heap.size := by simp
      generalize w2.heap.size = g at *
      generalize w2.alloc (.cells #[.int .i64 (i : Int), .int .i64 (k : Int)] 3) = w3 at *
      go_loopw [5, 10, 51] (fun wd cc tt wr => ∃ T Wd c' : Nat, ∃ A' L, T ≤ 2 ∧ wd = .int .u16 (Wd : Int) ∧ cc = .slice A' n c' ∧ tt = .int .i64 (T : Int) ∧ Wd < 65536 ∧ Hid ((L, Wd) = turnT (8 * n) l W i k T) ∧ Hid (R8 wr A' n L) ∧ Hid (Below w3.heap.size w3 wr)) (fun _ _ tt _ => 2 - (intOf tt).toNat)
      case atStart => exact ⟨0, W, c, A, l, by omega, rfl, rfl, rfl, hw16, rfl, HR3, Below.refl _ _⟩
      case round =>
        obtain ⟨T, Wd, c', A', L, hT, rfl, rfl, rfl, hWd, HT, HRr, HBr⟩ := hrel
        have HBw := Lib.hid (below_step HB3.out HBr.out)
        by_cases hlt : T < 2
        · obtain ⟨x, hx14, hcx, HX⟩ : ∃ x : Nat, x < 8 * n + 14 ∧ wr.cell? ⟨g, T, none⟩ = some (.int .i64 (x : Int)) ∧ Hid (turnT (8 * n) l W i k (T + 1) = turn1 (8 * n) (L, Wd) x) := by
            have h01 : T = 0 ∨ T = 1 := by omega
            rcases h01 with rfl | rfl
            · exact ⟨i, hi14, (HBr.out.cell hs3).trans T0.out, by rw [HT.out]; rfl⟩
            · exact ⟨k, hk14, (HBr.out.cell hs3).trans T1.out, by rw [HT.out]; rfl⟩
          by_cases hxn : x < 8 * n
          · have HN := Lib.hid (show (flip1 L (x : Int), Wd) = turnT (8 * n) l W i k (T + 1) by rw [HX.out]; unfold turn1; rw [if_pos hxn])
            clear HE HX HT T0 T1
            go_wp2_with fail
            have H1 := Lib.hid (one_int wr (x : Int) 3 (by omega) (by omega))
            have HBa := Lib.hid (HBr.out.alloc HBr.out.size (.cells #[.int .i64 (x : Int)] 3))
            refine (Flip_makes _ _ _ _ _ _ L [(x : Int)] _ (HRr.out.alloc _) H1.out (by omega) (by omega)).mono ?_
            rintro e w4 hM
            rw [flips_one] at hM
            obtain ⟨A4, c4, rfl, H4, B4⟩ := hM.at_ (n := n) (by rw [flip1_length, HRr.out.len])
            have C4 := Lib.hid (below_step HBa.out B4.out)
            clear hM hcx
            go_wp2
            go_roundw
            case rel => exact ⟨T + 1, Wd, c4, A4, _, by omega, rfl, rfl, by go_num, hWd, HN, H4, C4⟩
            case measure => simp [intOf]; omega
          · obtain ⟨z, hz⟩ : ∃ z, x - 8 * n = z := ⟨_, rfl⟩
            have hz16 : z < 16 := by omega
            have hsub : (x : Int) - 8 * (n : Int) = (z : Int) := by omega
            have HN := Lib.hid (show (L, Wd ^^^ 2 ^ z) = turnT (8 * n) l W i k (T + 1) by rw [HX.out]; unfold turn1; rw [if_neg hxn, hz])
            have HT2 := Lib.hid (turn_word Wd z hWd hz16)
            have HT3 := Lib.hid (turn_lt Wd z hWd hz16)
            clear hz HE HX HT T0 T1
            go_wp2
            go_roundw
            case rel => exact ⟨T + 1, Wd ^^^ 2 ^ z, c', A', L, by omega, by rw [HT2.out], rfl, by go_num, HT3.out, HN, HRr, HBr⟩
            case measure => simp [intOf]; omega
        · obtain rfl : T = 2 := by omega
          have hJ := Judge_any A' n c' L Wd wr HRr.out (by omega) hWd
          rw [show judgeL L Wd = (3, 0) by have h1 := HE.out; rw [← HT.out] at h1; exact h1] at hJ
          clear HE HT T0 T1
          go_wp2_with fail
          refine hJ.mono ?_
          rintro e w4 ⟨rfl, hb4⟩
          have C4 := Lib.hid (below_step HBw.out hb4)
          clear hb4 hJ
          go_wp2
          go_ret
          exact ⟨ret_bool (by simp), C4.out⟩
end Go.Proofs.Ytppkddnifjgllaa
