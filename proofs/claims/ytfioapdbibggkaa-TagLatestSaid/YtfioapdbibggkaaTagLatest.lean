/-
  The walk of the law TagLatest over the landed code, out of its callees' contracts.
-/
import Derived.Test.YtfioapdbibggkaaTagAw
import Derived.Test.YtfioapdbibggkaaTagL
namespace Go.Proofs.Ytfioapdbibggkaa
open Go.RowKit

set_option maxRecDepth 100000 in
set_option maxHeartbeats 4000000 in
theorem TagLatest_walk (A : Option Addr) (n c : Nat) (l : List Tg) (w : World) (hr : RT w A n l) (hn : n ≤ 9223372036854775807) :
    Calls Try.prog 4 #[.slice A n c] w (Gives (.bool true) w) := by
  have HR := Lib.hid hr
  clear hr
  go_enter Try.func4, Try.ntmps4
  go_wp2_with fail
  refine (awake7_any _).mono ?_
  rintro _ w1 ⟨rfl, h1⟩
  have B1 := Lib.hid h1
  clear h1
  by_cases hn1 : 200 < n
  · go_wp2
    go_ret
    exact ⟨rfl, B1.out⟩
  · have hd : decide ((200 : Int) < (n : Int)) = false := decide_eq_false (by omega)
    by_cases h0 : n = 0
    · subst h0
      go_wp2_with fail
      refine (Latest_none _ _ _).mono ?_
      rintro _ _ ⟨rfl, rfl⟩
      go_wp2
      go_ret
      exact ⟨rfl, B1.out⟩
    · have hz : ((n : Int) == 0) = false := beq_eq_false_iff_ne.2 (by omega)
      go_wp2_with fail
      refine (Latest_some _ n _ l _ (HR.out.below B1.out) (by omega) (by omega)).mono ?_
      rintro _ w2 ⟨p, hp, hL, rfl, h2⟩
      have B2 := Lib.hid (below_step B1.out h2)
      have HL := Lib.hid hL
      clear h2 hL
      have hge : decide (n ≤ p) = false := decide_eq_false (by omega)
      have hng : decide ((p : Int) < 0) = false := decide_eq_false (by omega)
      go_wp2
      go_loopw [40] (fun i wr => ∃ k : Nat, k ≤ n ∧ i = .int .i64 (k : Int) ∧ Hid (Below w.heap.size w wr)) (fun i _ => n - (intOf i).toNat)
      case atStart => exact ⟨0, Nat.zero_le _, rfl, B2⟩
      case round =>
        obtain ⟨k, hk, rfl, HB⟩ := hrel
        by_cases hlt : k < n
        · obtain ⟨b, off, t, rfl, hb1, HX, c0, c1, c2, c3⟩ := (HR.out.below HB.out).at_ hlt
          obtain ⟨b1, o1, u, e1, _, HY, d0, d1, d2, d3⟩ := (HR.out.below HB.out).at_ hp
          injection e1 with e1
          injection e1 with e11 e12
          subst e11 e12
          obtain ⟨tk, ts, tq, te⟩ := t
          obtain ⟨uk, us, uq, ue⟩ := u
          simp only at c0 c1 c2 c3 d0 d1 d2 d3
          have hle : tq ≤ uq ∧ (k < p → tq < uq) := by
            obtain ⟨x, hx, h1, h2⟩ := HL.out
            rw [HY.out] at hx
            injection hx with hx
            subst hx
            exact ⟨h1 k _ hlt HX.out, fun h => h2 k _ h HX.out⟩
          have q1 : decide (uq < tq) = false := decide_eq_false (by omega)
          have B3 := Lib.hid (below_step HB.out (below_new wr (.cells #[.int .i64 tk, .int .i64 ts, .int .i64 tq, .int .i64 te] 23)))
          by_cases hkp : k < p
          · have q2 : decide ((k : Int) < (p : Int)) = true := decide_eq_true (by omega)
            have q3 : (tq == uq) = false := beq_eq_false_iff_ne.2 (by have := hle.2 hkp; omega)
            clear hle
            go_wp2
            go_quiet (fail)
            go_wp2
            go_roundw
            case rel => exact ⟨k + 1, by omega, by go_num, below_drewN B3.out _⟩
            case measure => simp [intOf]; omega
          · have q2 : decide ((k : Int) < (p : Int)) = false := decide_eq_false (by omega)
            clear hle
            go_wp2
            go_quiet (fail)
            go_wp2
            go_roundw
            case rel => exact ⟨k + 1, by omega, by go_num, below_drewN B3.out _⟩
            case measure => simp [intOf]; omega
        · go_wp2
          go_ret
          exact ⟨rfl, HB.out⟩
end Go.Proofs.Ytfioapdbibggkaa
