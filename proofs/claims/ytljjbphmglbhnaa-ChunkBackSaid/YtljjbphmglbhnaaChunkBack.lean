/-
  The walk of the law ChunkBack over the landed code, out of its callees' contracts: for whatever bytes and numbers it returns true, and nothing that was there has turned.
-/
import Derived.Test.YtljjbphmglbhnaaChunkC
namespace Go.Proofs.Ytljjbphmglbhnaa
open Go.RowKit

theorem two_int (w : World) (x y : Int) (t : TypeId) (h0 : -9223372036854775808 ≤ x) (h1 : x ≤ 9223372036854775807) (h2 : -9223372036854775808 ≤ y) (h3 : y ≤ 9223372036854775807) : R64 (w.alloc (.cells #[.int .i64 x, .int .i64 y] t)) (some ⟨w.heap.size, 0, none⟩) 2 [x, y] := by
  refine ⟨⟨rfl, fun _ => ⟨_, 0, rfl, by simp, fun j hj => ?_⟩⟩, by simp; omega⟩
  match j, hj with
  | 0, _ => simp [I64]
  | 1, _ => simp [I64]
theorem flips_two (l : List Nat) (x y : Int) : flips l [x, y] = flip1 (flip1 l x) y := rfl
theorem OwnsB.at_ {e0 : TypeId} {l : List Nat} {w w' : World} {e : Ending} {n : Nat} (h : OwnsB e0 l w e w') (hl : l.length = n) (hb : ∀ x ∈ l, x < 256) : ∃ A c, e = .returned (.slice A n c) ∧ Hid (R8 w' A n l) ∧ n ≤ c ∧ Hid (Below w.heap.size w w') := by
  subst hl
  obtain ⟨A, c, he, ho, hB⟩ := h
  exact ⟨A, c, he, R8.own ho hb, own_cap ho, hB⟩

set_option maxHeartbeats 1000000 in
theorem ChunkBack_walk (A : Option Addr) (n c : Nat) (l : List Nat) (p q : Nat) (w : World) (hr : R8 w A n l) (hn : n ≤ 9223372036854775807) (hp : p < 65536) (hq : q < 65536) :
    Calls Try.prog 5 #[.slice A n c, .agg #[.int .u16 (p : Int), .int .u16 (q : Int)]] w (Gives (.bool true) w) := by
  have HR := Lib.hid hr
  have hl := hr.len
  clear hr
  have HB0 := Lib.hid ((Below.refl w.heap.size w).alloc (Nat.le_refl _) (.cells #[.int .u16 (p : Int), .int .u16 (q : Int)] 40))
  by_cases h60 : 60 < n ∨ n = 0
  · clear hl
    by_cases h0 : n = 0
    · subst h0
      clear h60
      go_enter Try.func5, Try.ntmps5
      go_wp2_with fail
      refine (awake6_any _).mono ?_
      rintro e w1 ⟨rfl, hb1⟩
      have HB1 := Lib.hid (below_step HB0.out hb1)
      clear hb1
      go_wp2
      go_ret
      exact ⟨rfl, HB1.out⟩
    · have hn60 : 60 < n := by omega
      have hne : ((n : Int) == 0) = false := by simp; omega
      clear h60 h0
      go_enter Try.func5, Try.ntmps5
      go_wp2_with fail
      refine (awake6_any _).mono ?_
      rintro e w1 ⟨rfl, hb1⟩
      have HB1 := Lib.hid (below_step HB0.out hb1)
      clear hb1
      go_wp2
      go_ret
      exact ⟨rfl, HB1.out⟩
  · have hn60 : n ≤ 60 := by omega
    have h1 : 1 ≤ n := by omega
    have hne : ((n : Int) == 0) = false := by simp; omega
    clear h60
    obtain ⟨i, hi⟩ : ∃ i, p % (8 * n + 14) = i := ⟨_, rfl⟩
    obtain ⟨k, hk⟩ : ∃ k, q % (8 * n + 14) = k := ⟨_, rfl⟩
    have hi14 : i < 8 * n + 14 := by rw [← hi]; exact Nat.mod_lt _ (by omega)
    have hk14 : k < 8 * n + 14 := by rw [← hk]; exact Nat.mod_lt _ (by omega)
    have him : ((p : Int) % (8 * (n : Int) + 14)) = (i : Int) := by
      rw [← hi, Int.natCast_emod, Int.natCast_add, Int.natCast_mul]
      rfl
    have hkm : ((q : Int) % (8 * (n : Int) + 14)) = (k : Int) := by
      rw [← hk, Int.natCast_emod, Int.natCast_add, Int.natCast_mul]
      rfl
    have hE := fun w' (h : R8 w' A n l) => Encode_any A n c l w' h h1 (by omega)
    have HEl := Lib.hid (show (encL l).length = n + 2 by rw [encL_length, hl])
    have hD0 : ∀ w' A' c', R8 w' A' (n + 2) (encL l) → n + 2 ≤ c' → Calls Try.prog 11 #[.slice A' (n + 2) c'] w' (Ret3 l 0 0 w') := fun w' A' c' h hc => by
      have := Decode_any A' (n + 2) c' (encL l) w' h hc (by omega)
      rwa [enc_none l (by omega) (by omega)] at this
    have hD1 : ∀ w' A' c', R8 w' A' (n + 2) (flip1 (encL l) (i : Int)) → n + 2 ≤ c' → Calls Try.prog 11 #[.slice A' (n + 2) c'] w' (Ret3 l 1 0 w') := fun w' A' c' h hc => by
      have := Decode_any A' (n + 2) c' _ w' h hc (by omega)
      rwa [enc_one l i (by omega) (by omega) HR.out.2 (by omega)] at this
    have hD2 : i ≠ k → ∀ w' A' c', R8 w' A' (n + 2) (flip1 (flip1 (encL l) (i : Int)) (k : Int)) → n + 2 ≤ c' → Calls Try.prog 11 #[.slice A' (n + 2) c'] w' (Ret3 [] 0 14 w') := fun hik w' A' c' h hc => by
      have := Decode_any A' (n + 2) c' _ w' h hc (by omega)
      rwa [enc_two l i k (by omega) (by omega) (by omega) (by omega) hik] at this
    have HL := Lib.hid hl
    generalize encL l = x at *
    clear hl hi hk
    go_enter Try.func5, Try.ntmps5
    go_wp2_with fail
    refine (awake6_any _).mono ?_
    rintro e w1 ⟨rfl, hb1⟩
    have hs1 : w.heap.size < (w.alloc (.cells #[.int .u16 (p : Int), .int .u16 (q : Int)] 40)).heap.size := by simp
    have K0 := Lib.hid (show w1.cell? ⟨w.heap.size, 0, none⟩ = some (.int .u16 (p : Int)) from (hb1.cell hs1).trans (by simp))
    have K1 := Lib.hid (show w1.cell? ⟨w.heap.size, 1, none⟩ = some (.int .u16 (q : Int)) from (hb1.cell hs1).trans (by simp))
    have hs2 : w.heap.size < w1.heap.size := Nat.lt_of_lt_of_le hs1 hb1.size
    have HB1 := Lib.hid (below_step HB0.out hb1)
    have HR1 := Lib.hid (HR.out.below HB1.out)
    clear hb1 hs1 HB0
    go_wp2_with fail
    refine (hE _ HR1.out).mono ?_
    rintro e w2 hM
    obtain ⟨A2, c2, rfl, R2, _, hc2, B2⟩ := hM.at_ HEl.out
    have hc0 : w2.cell? ⟨w.heap.size, 0, none⟩ = some (.int .u16 (p : Int)) := (B2.out.cell hs2).trans K0.out
    have hc1 : w2.cell? ⟨w.heap.size, 1, none⟩ = some (.int .u16 (q : Int)) := (B2.out.cell hs2).trans K1.out
    have HB2 := Lib.hid (below_step HB1.out B2.out)
    have HR2 := Lib.hid (HR1.out.below B2.out)
    clear hM hE
    have hdiv : (8 * (n : Int) + 14) ≠ 0 := by omega
    go_wp2
    go_quiet (fail)
    rw [him, hkm]
    clear him hkm hc0 hc1 hdiv K0 K1 B2
    have HB3 := Lib.hid (below_drewN HB2.out nq)
    have HR3 := Lib.hid (HR2.out.drewN nq)
    have R3 := Lib.hid (R2.out.drewN nq)
    generalize w2.drewN nq = w3 at *
    go_wp2_with fail
    refine (hD0 _ _ _ R3.out hc2).mono ?_
    rintro e w4 hM
    obtain ⟨A4, c4, rfl, S4, _, B4⟩ := hM.at_ HL.out
    have HB4 := Lib.hid (below_step HB3.out B4.out)
    have HR4 := Lib.hid (HR3.out.below B4.out)
    have R4 := Lib.hid (R3.out.below B4.out)
    clear hM hD0 B4
    go_wp2_with fail
    have H1 := Lib.hid (one_int w4 (i : Int) 3 (by omega) (by omega))
    have HB5 := Lib.hid (HB4.out.alloc HB4.out.size (.cells #[.int .i64 (i : Int)] 3))
    have HR5 := Lib.hid (HR4.out.alloc (.cells #[.int .i64 (i : Int)] 3))
    have R5 := Lib.hid (R4.out.alloc (.cells #[.int .i64 (i : Int)] 3))
    have S5 := Lib.hid (S4.out.alloc (.cells #[.int .i64 (i : Int)] 3))
    refine (Flip_any _ _ _ _ _ _ x [(i : Int)] _ R5.out H1.out (by omega) (by omega)).mono ?_
    rintro e w6 hM
    rw [flips_one] at hM
    obtain ⟨A6, c6, rfl, T6, hc6, B6⟩ := hM.at_ (n := n + 2) (by rw [flip1_length, HEl.out]) (flip1_lt _ _ R2.out.2)
    have HB6 := Lib.hid (below_step HB5.out B6.out)
    have HR6 := Lib.hid (HR5.out.below B6.out)
    have R6 := Lib.hid (R5.out.below B6.out)
    have S6 := Lib.hid (S5.out.below B6.out)
    clear hM H1 B6
    go_wp2_with fail
    refine (hD1 _ _ _ T6.out hc6).mono ?_
    rintro e w7 hM
    obtain ⟨A7, c7, rfl, U7, _, B7⟩ := hM.at_ HL.out
    have HB7 := Lib.hid (below_step HB6.out B7.out)
    have HR7 := Lib.hid (HR6.out.below B7.out)
    have R7 := Lib.hid (R6.out.below B7.out)
    have S7 := Lib.hid (S6.out.below B7.out)
    clear hM hD1 B7 T6
    go_wp2_with fail
    refine (Same_any _ _ _ _ _ _ l l _ S7.out HR7.out (by omega) (by omega)).mono ?_
    rintro e w8 ⟨rfl, q8, rfl⟩
    rw [decide_eq_true rfl]
    have HB8 := Lib.hid (below_drewN HB7.out q8)
    have HR8 := Lib.hid (HR7.out.drewN q8)
    have U8_ := Lib.hid (U7.out.drewN q8)
    have R8_ := Lib.hid (R7.out.drewN q8)
    generalize w7.drewN q8 = w8 at *
    go_wp2_with fail
    refine (Same_any _ _ _ _ _ _ l l _ U8_.out HR8.out (by omega) (by omega)).mono ?_
    rintro e w9 ⟨rfl, q9, rfl⟩
    rw [decide_eq_true rfl]
    have HB9 := Lib.hid (below_drewN HB8.out q9)
    have R9 := Lib.hid (R8_.out.drewN q9)
    generalize w8.drewN q9 = w9 at *
    by_cases hik : i = k
    · subst hik
      go_wp2
      go_ret
      exact ⟨rfl, HB9.out⟩
    · have hike : ((i : Int) == (k : Int)) = false := by simp; omega
      have hD3 := hD2 hik
      clear hD2 hik
      go_wp2_with fail
      have H1 := Lib.hid (two_int w9 (i : Int) (k : Int) 3 (by omega) (by omega) (by omega) (by omega))
      have HB10 := Lib.hid (HB9.out.alloc HB9.out.size (.cells #[.int .i64 (i : Int), .int .i64 (k : Int)] 3))
      refine (Flip_any _ _ _ _ _ _ x [(i : Int), (k : Int)] _ (R9.out.alloc _) H1.out (by omega) (by omega)).mono ?_
      rintro e w11 hM
      rw [flips_two] at hM
      obtain ⟨A11, c11, rfl, T11, hc11, B11⟩ := hM.at_ (n := n + 2) (by rw [flip1_length, flip1_length, HEl.out]) (flip1_lt _ _ (flip1_lt _ _ R2.out.2))
      have HB11 := Lib.hid (below_step HB10.out B11.out)
      clear hM
      go_wp2_with fail
      refine (hD3 _ _ _ T11.out hc11).mono ?_
      rintro e w12 hM
      obtain ⟨A12, c12, rfl, _, _, B12⟩ := hM.at_ (n := 0) rfl
      have HB12 := Lib.hid (below_step HB11.out B12.out)
      clear hM hD3
      go_wp2
      go_ret
      exact ⟨ret_bool (by simp), HB12.out⟩
end Go.Proofs.Ytljjbphmglbhnaa
