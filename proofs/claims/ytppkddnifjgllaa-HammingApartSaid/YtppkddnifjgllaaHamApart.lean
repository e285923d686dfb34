/-
  The walk of the law HammingApart over the landed code, out of its callees' contracts: for whatever bytes it returns true, and nothing that was there has turned.
-/
import Derived.Test.YtppkddnifjgllaaHamD
import Derived.Test.YtppkddnifjgllaaBitsDiff
import Derived.Test.YtppkddnifjgllaaBitsCount
import Derived.Test.YtppkddnifjgllaaSlice
import Derived.Deep.RegionHeld3
namespace Go.Proofs.Ytppkddnifjgllaa
open Go.RowKit

theorem gn_zero (f : Nat → Bool) (k : Nat) (h : gn f k = 0) : ∀ i, i < k → f i = false := by
  induction k with
  | zero => intro i hi; omega
  | succ k ih =>
    intro i hi
    rw [gn_succ] at h
    cases hf : f k
    · rw [hf] at h
      simp only [Bool.false_eq_true, if_false] at h
      rcases Nat.lt_or_ge i k with h1 | h1
      · exact ih h i h1
      · obtain rfl : i = k := by omega
        exact hf
    · rw [hf] at h
      simp at h
theorem word_same (a b : List Nat) (hl : b.length = a.length) (h : gn (fun i => getN a i ^^ getN b i) (8 * a.length) = 0) : wordL a = wordL b := by
  have h1 : ∀ i, i < 8 * a.length → getN a i = getN b i := by
    intro i hi
    have := gn_zero _ _ h i hi
    cases ha : getN a i <;> cases hb : getN b i <;> simp [ha, hb] at this <;> rfl
  have e1 : xL a = xL b := by unfold xL; rw [hl]; exact gx_congr h1
  have e2 : nL a = nL b := by unfold nL; rw [hl]; exact gn_congr h1
  unfold wordL
  rw [e1, e2]
theorem below_drew_ {B : Nat} {a w : World} (h : Below B a.drew w) : Below B a w := ⟨h.os, h.tape, h.output, h.size, h.block⟩

set_option maxRecDepth 100000 in
set_option maxHeartbeats 1000000 in
theorem HammingApart_walk (A B : Option Addr) (n c m d : Nat) (a b : List Nat) (w : World) (ha : R8 w A n a) (hb : R8 w B m b) (_hn : n ≤ 9223372036854775807) (_hm : m ≤ 9223372036854775807) (hc : n ≤ c) (hd : m ≤ d) :
    Calls Try.prog 7 #[.slice A n c, .slice B m d] w (Gives (.bool true) w) := by
  have HA := Lib.hid ha
  have HB := Lib.hid hb
  clear ha hb
  obtain ⟨p, hp⟩ : ∃ p, min n m = p := ⟨_, rfl⟩
  have hpn : p ≤ n := by omega
  have hpm : p ≤ m := by omega
  have hmin : min (n : Int) (m : Int) = (p : Int) := by omega
  clear hp
  by_cases h60 : 60 < p
  · go_enter Try.func7, Try.ntmps7
    go_wp2_with (first | (go_at_call 8; refine (awake5_any _).mono ?_; rintro e w' ⟨rfl, rfl⟩))
    go_ret
    exact ⟨rfl, Below.refl _ _⟩
  · have HRa := Lib.hid (HA.out.take_ p hpn)
    have HRb := Lib.hid (HB.out.take_ p hpm)
    generalize a.take p = a at *
    generalize b.take p = b at *
    clear HA HB
    have hla := HRa.out.len
    have hlb := HRb.out.len
    have hwa := wordL_parts a (by omega)
    have hwb := wordL_parts b (by omega)
    have HAp := Lib.hid (apart a b (by omega) (by omega) _ (diffL_gn a b (by omega)))
    have HSm := Lib.hid (fun h => word_same a b (by omega) ((diffL_gn a b (by omega)).symm.trans h))
    have hDle : (diffL a b).length ≤ 8 * p := by
      have := diffTo_length a b (min a.length b.length)
      unfold diffL
      omega
    have hDiff := fun w' (h1 : R8 w' A p a) (h2 : R8 w' B p b) => Diff_any A B p c p d a b w' h1 h2 (by omega) (by omega)
    have hWa := fun w' (h1 : R8 w' A p a) => Word_any A p c a w' h1 (by omega)
    have hWb := fun w' (h1 : R8 w' B p b) => Word_any B p d b w' h1 (by omega)
    obtain ⟨_, _, ha16, ha3⟩ := hwa
    obtain ⟨_, _, hb16, hb3⟩ := hwb
    generalize wordL a = X at *
    generalize wordL b = Y at *
    obtain ⟨D, hD⟩ : ∃ D, (diffL a b).length = D := ⟨_, rfl⟩
    rw [hD] at HAp HSm hDle
    have HD := Lib.hid hD
    clear hla hlb hD
    obtain ⟨i0, ti, tz0, tz1, tz2⟩ := info_parts info_u8
    have hcel : Try.prog.cellsOf 5 = 1 := by kernel_rfl
    have s1 := fun W => run_sliceAt_to Try.underlying30 ti hcel A n c p (by omega) W
    have s2 := fun W => run_sliceAt_to Try.underlying30 ti hcel B m d p (by omega) W
    have s3 := fun W => run_slice_to Try.underlying30 ti hcel A n c p (by omega) W
    have s4 := fun W => run_slice_to Try.underlying30 ti hcel B m d p (by omega) W
    clear hcel tz0 tz1 tz2
    go_enter Try.func7, Try.ntmps7
    go_wp2_with (first | (go_at_call 8; refine (awake5_any _).mono ?_; rintro e w' ⟨rfl, rfl⟩))
    go_region_held3 (fun _ => True) (trivial) (first
        | (go_at_call 18; (with_reducible refine (hDiff _ ?_ ?_).mono ?_); (exact HRa.out); (exact HRb.out); intro e w1 hM; obtain ⟨A1, c1, rfl, H1, D1⟩ := hM.at_ HD.out; clear hM))
    have B1 := Lib.hid (show Below w.heap.size w w1 from below_drew_ D1.out)
    have HRa1 := Lib.hid (HRa.out.below B1.out)
    have HRb1 := Lib.hid (HRb.out.below B1.out)
    clear D1 hDiff H1
    have hx3 : ((X : Int) / 16384) = 3 := by omega
    have hy3 : ((Y : Int) / 16384) = 3 := by omega
    go_wp2_with fail
    refine (hWa _ HRa1.out).mono ?_
    rintro e w2 ⟨rfl, hb2⟩
    have B2 := Lib.hid (below_step B1.out hb2)
    have HRb2 := Lib.hid (HRb1.out.below hb2)
    clear hb2
    go_wp2_with fail
    refine (hWb _ HRb2.out).mono ?_
    rintro e w3 ⟨rfl, hb3⟩
    have B3 := Lib.hid (below_step B2.out hb3)
    clear hb3 hWa hWb s1 s2 s3 s4
    by_cases hD0 : D = 0
    · subst hD0
      obtain rfl := HSm.out rfl
      go_wp2
      go_ret
      exact ⟨ret_bool (by simp), B3.out⟩
    · have hDne : ((D : Int) == 0) = false := by simp; omega
      have hXY : Go.bits .xor .u16 (X : Int) (Y : Int) = ((X ^^^ Y : Nat) : Int) := u16_xor_nat X Y ha16 hb16
      have hz16 : X ^^^ Y < 65536 := Nat.xor_lt_two_pow (n := 16) ha16 hb16
      have HAq := Lib.hid (HAp.out hD0)
      generalize X ^^^ Y = Z at *
      clear HAp HSm
      go_wp2_with fail
      have hR : R8 (w3.alloc (.cells #[.int .u8 ((Z : Int) % 256), .int .u8 ((Z : Int) / 256)] 5)) (some ⟨w3.heap.size, 0, none⟩) 2 [Z % 256, Z / 256] := by
        refine ⟨⟨rfl, fun _ => ⟨_, 0, rfl, by simp, fun j hj => ?_⟩⟩, by simp; omega⟩
        match j, hj with
        | 0, _ => simp [U8]
        | 1, _ => simp [U8]
      have hC := Count_any _ 2 2 [Z % 256, Z / 256] _ hR (by omega)
      have hO : ones [Z % 256, Z / 256] = pop Z := by
        have := pop_bytes Z hz16
        rw [Nat.mod_eq_of_lt (show Z / 256 < 256 by omega)] at this
        rw [← this]
        simp [ones]
      rw [hO] at hC
      have hpz : pop Z ≤ 64 := by
        have := popc_le (Z % 256) (by omega)
        have h2 := popc_le (Z / 256) (by omega)
        rw [← hO]
        simp [ones]
        omega
      clear hO hR
      generalize pop Z = O at *
      refine hC.mono ?_
      rintro e w4 ⟨rfl, rfl⟩
      have h4 := HAq.out
      clear hC
      go_wp2
      go_ret
      exact ⟨ret_bool (by simp; omega), B3.out.alloc B3.out.size _⟩
end Go.Proofs.Ytppkddnifjgllaa
