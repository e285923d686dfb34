/-
  The walk of the law HammingWords over the landed code, out of its callees' contracts: for whatever bytes and word it returns true, and nothing that was there has turned.
-/
import Derived.Test.YtppkddnifjgllaaHamD
import Derived.Test.YtppkddnifjgllaaHamG
namespace Go.Proofs.Ytppkddnifjgllaa
open Go.RowKit

set_option maxHeartbeats 1000000 in
theorem HammingWords_walk (A : Option Addr) (n c : Nat) (l : List Nat) (m : Nat) (w : World) (hr : R8 w A n l) (hn : n ≤ 9223372036854775807) (hm : m < 65536) :
    Calls Try.prog 4 #[.slice A n c, .int .u16 (m : Int)] w (Gives (.bool true) w) := by
  have HR := Lib.hid hr
  have hl := hr.len
  clear hr
  by_cases h60 : 60 < n
  · by_cases h512 : 512 < n
    · clear hl
      go_enter Try.func4, Try.ntmps4
      go_wp2_with (first | (go_at_call 8; refine (awake5_any _).mono ?_; rintro e w' ⟨rfl, rfl⟩) | (go_at_call 13; refine (Word_long _ _ _ _ h512).mono ?_; rintro e w' ⟨rfl, rfl⟩))
      go_ret
      exact ⟨ret_bool (by simp; omega), Below.refl _ _⟩
    · have hW := Word_any A n c l w HR.out (by omega)
      have h512d : decide ((512 : Int) < (n : Int)) = false := decide_eq_false (by omega)
      generalize wordL l = W at *
      clear hl
      go_enter Try.func4, Try.ntmps4
      go_wp2_with (first | (go_at_call 8; refine (awake5_any _).mono ?_; rintro e w' ⟨rfl, rfl⟩))
      refine hW.mono ?_
      rintro e w1 ⟨rfl, hb1⟩
      have HB1 := Lib.hid hb1
      clear hb1 hW
      go_wp2
      go_ret
      exact ⟨rfl, HB1.out⟩
  · have hW := fun w' (h : R8 w' A n l) => Word_any A n c l w' h (by omega)
    have hJ := fun w' (h : R8 w' A n l) => Judge_any A n c l m w' h (by omega) hm
    have hRW := fun w' (h : R8 w' A n l) => RefWord_any A n c l w' h (by omega)
    have hRJ := fun w' (h : R8 w' A n l) => RefJudge_any A n c l m w' h (by omega) hm
    have hw16 := (wordL_parts l (by omega)).2.2.1
    generalize wordL l = W at *
    generalize judgeL l m = J at *
    obtain ⟨s, b⟩ := J
    simp only at hJ hRJ
    clear hl
    go_enter Try.func4, Try.ntmps4
    go_wp2_with (first | (go_at_call 8; refine (awake5_any _).mono ?_; rintro e w' ⟨rfl, rfl⟩))
    refine (hW _ HR.out).mono ?_
    rintro e w1 ⟨rfl, hb1⟩
    have HB1 := Lib.hid hb1
    have HR1 := Lib.hid (HR.out.below hb1)
    clear hb1
    go_wp2_with fail
    refine (hJ _ HR1.out).mono ?_
    rintro e w2 ⟨rfl, hb2⟩
    have HB2 := Lib.hid (below_step HB1.out hb2)
    have HR2 := Lib.hid (HR1.out.below hb2)
    clear hb2
    go_wp2_with fail
    refine (hRJ _ HR2.out).mono ?_
    rintro e w3 ⟨rfl, hb3⟩
    have HB3 := Lib.hid (below_step HB2.out hb3)
    have HR3 := Lib.hid (HR2.out.below hb3)
    clear hb3
    go_wp2_with fail
    refine (hRW _ HR3.out).mono ?_
    rintro e w4 ⟨rfl, hb4⟩
    have HB4 := Lib.hid (below_step HB3.out hb4)
    clear hb4
    go_wp2
    go_ret
    exact ⟨ret_bool (by simp), HB4.out⟩
end Go.Proofs.Ytppkddnifjgllaa
