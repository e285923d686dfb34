/-
  The walk of the law ChunkCodes over the landed code, out of its callees' contracts: for whatever bytes and raw bytes it returns true, and nothing that was there has turned.
-/
import Derived.Test.YtljjbphmglbhnaaChunkD
namespace Go.Proofs.Ytljjbphmglbhnaa
open Go.RowKit

set_option maxHeartbeats 1000000 in
theorem ChunkCodes_walk (A B : Option Addr) (n c m d : Nat) (l k : List Nat) (w : World) (hr : R8 w A n l) (hk : R8 w B m k) (hn : n ≤ 9223372036854775807) (hm : m ≤ 9223372036854775807) (hmd : m ≤ d) :
    Calls Try.prog 3 #[.slice A n c, .slice B m d] w (Gives (.bool true) w) := by
  have HR := Lib.hid hr
  have HK := Lib.hid hk
  clear hr hk
  by_cases h60 : 60 < n ∨ 60 < m
  · have hdec : (decide (60 < (n : Int)) || decide (60 < (m : Int))) = true := by
      rcases h60 with h | h
      · rw [decide_eq_true (show (60 : Int) < (n : Int) by omega)]; rfl
      · rw [decide_eq_true (show (60 : Int) < (m : Int) by omega)]; simp
    by_cases hn60 : 60 < n
    · clear hdec h60
      go_enter Try.func3, Try.ntmps3
      go_wp2_with fail
      refine (awake6_any _).mono ?_
      rintro e w1 ⟨rfl, hb1⟩
      go_wp2
      go_ret
      exact ⟨rfl, hb1⟩
    · have hm60 : 60 < m := by omega
      have hd1 : decide (60 < (n : Int)) = false := decide_eq_false (by omega)
      clear hdec h60
      go_enter Try.func3, Try.ntmps3
      go_wp2_with fail
      refine (awake6_any _).mono ?_
      rintro e w1 ⟨rfl, hb1⟩
      go_wp2
      go_ret
      exact ⟨rfl, hb1⟩
  · have hn60 : n ≤ 60 := by omega
    have hm60 : m ≤ 60 := by omega
    have hd1 : decide (60 < (n : Int)) = false := decide_eq_false (by omega)
    have hd2 : decide (60 < (m : Int)) = false := decide_eq_false (by omega)
    have hD := fun w' (h : R8 w' B m k) => Decode_any B m d k w' h hmd hm
    have hRD := fun w' (h : R8 w' B m k) => RefDecode_any B m d k w' h hmd hm
    have hL : (decL k).1.length ≤ 60 := by
      have := (decL_facts k HK.out.2).1
      rw [HK.out.len] at this
      omega
    generalize decL k = v at *
    obtain ⟨dd, f, g⟩ := v
    simp only at hD hRD hL
    obtain ⟨N, hN⟩ : ∃ N, dd.length = N := ⟨_, rfl⟩
    rw [hN] at hL
    have HN := Lib.hid hN
    clear hN h60
    by_cases h0 : n = 0
    · subst h0
      go_enter Try.func3, Try.ntmps3
      go_wp2_with fail
      refine (awake6_any _).mono ?_
      rintro e w1 ⟨rfl, hb1⟩
      have HB1 := Lib.hid hb1
      have HK1 := Lib.hid (HK.out.below hb1)
      clear hb1
      go_wp2_with (go_at_call 8; refine (Encode_none _ _ _).mono ?_; rintro e w' ⟨rfl, rfl⟩)
      refine (hD _ HK1.out).mono ?_
      rintro e w2 hM
      obtain ⟨A2, c2, rfl, R2, _, B2⟩ := hM.at_ HN.out
      have HB2 := Lib.hid (below_step HB1.out B2.out)
      have HK2 := Lib.hid (HK1.out.below B2.out)
      clear hM hD
      go_wp2_with fail
      refine (hRD _ HK2.out).mono ?_
      rintro e w3 hM
      obtain ⟨A3, c3, rfl, R3, _, B3⟩ := hM.at_ HN.out
      have HB3 := Lib.hid (below_step HB2.out B3.out)
      have R23 := Lib.hid (R2.out.below B3.out)
      clear hM hRD
      go_wp2_with fail
      refine (Same_any _ _ _ _ _ _ dd dd _ R23.out R3.out (by omega) (by omega)).mono ?_
      rintro e w4 ⟨rfl, q, rfl⟩
      rw [decide_eq_true rfl]
      go_wp2
      go_ret
      exact ⟨ret_bool (by simp), below_drewN HB3.out q⟩
    · have h1 : 1 ≤ n := by omega
      have hne : ((n : Int) == 0) = false := by simp; omega
      have hE := fun w' (h : R8 w' A n l) => Encode_any A n c l w' h h1 (by omega)
      have hRE := fun w' (h : R8 w' A n l) => RefEncode_any A n c l w' h h1 (by omega)
      have HEl := Lib.hid (show (encL l).length = n + 2 by rw [encL_length, HR.out.len])
      generalize encL l = x at *
      clear h0
      go_enter Try.func3, Try.ntmps3
      go_wp2_with fail
      refine (awake6_any _).mono ?_
      rintro e w1 ⟨rfl, hb1⟩
      have HB1 := Lib.hid hb1
      have HK1 := Lib.hid (HK.out.below hb1)
      have HR1 := Lib.hid (HR.out.below hb1)
      clear hb1
      go_wp2_with fail
      refine (hE _ HR1.out).mono ?_
      rintro e w2 hM
      obtain ⟨A2, c2, rfl, R2, _, _, B2⟩ := hM.at_ HEl.out
      have HB2 := Lib.hid (below_step HB1.out B2.out)
      have HK2 := Lib.hid (HK1.out.below B2.out)
      have HR2 := Lib.hid (HR1.out.below B2.out)
      clear hM hE
      go_wp2_with fail
      refine (hRE _ HR2.out).mono ?_
      rintro e w3 hM
      obtain ⟨A3, c3, rfl, R3, B3⟩ := hM.at_ HEl.out
      have HB3 := Lib.hid (below_step HB2.out B3.out)
      have HK3 := Lib.hid (HK2.out.below B3.out)
      have R23 := Lib.hid (R2.out.below B3.out)
      clear hM hRE
      go_wp2_with fail
      refine (Same_any _ _ _ _ _ _ x x _ R23.out R3.out (by omega) (by omega)).mono ?_
      rintro e w4 ⟨rfl, q, rfl⟩
      rw [decide_eq_true rfl]
      have HB4 := Lib.hid (below_drewN HB3.out q)
      have HK4 := Lib.hid (HK3.out.drewN q)
      generalize w3.drewN q = w4 at *
      go_wp2_with fail
      refine (hD _ HK4.out).mono ?_
      rintro e w5 hM
      obtain ⟨A5, c5, rfl, R5, _, B5⟩ := hM.at_ HN.out
      have HB5 := Lib.hid (below_step HB4.out B5.out)
      have HK5 := Lib.hid (HK4.out.below B5.out)
      clear hM hD
      go_wp2_with fail
      refine (hRD _ HK5.out).mono ?_
      rintro e w6 hM
      obtain ⟨A6, c6, rfl, R6, _, B6⟩ := hM.at_ HN.out
      have HB6 := Lib.hid (below_step HB5.out B6.out)
      have R56 := Lib.hid (R5.out.below B6.out)
      clear hM hRD
      go_wp2_with fail
      refine (Same_any _ _ _ _ _ _ dd dd _ R56.out R6.out (by omega) (by omega)).mono ?_
      rintro e w7 ⟨rfl, q2, rfl⟩
      rw [decide_eq_true rfl]
      go_wp2
      go_ret
      exact ⟨ret_bool (by simp), below_drewN HB6.out q2⟩
end Go.Proofs.Ytljjbphmglbhnaa
