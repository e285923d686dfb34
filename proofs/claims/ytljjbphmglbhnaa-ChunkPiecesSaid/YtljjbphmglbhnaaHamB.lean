/-
  Contracts of hamming.placesOfByte and placesOfOnes, over the landed code.
-/
import Derived.Test.YtljjbphmglbhnaaHamA
import Derived.Test.YtljjbphmglbhnaaBox
namespace Go.Proofs.Ytljjbphmglbhnaa
open Go.RowKit

/-- The positions of a byte's bits, the first k of them. -/
def plC (i k j : Nat) : Value := .int .i64 (if j < k then ((place (8 * i + j) : Nat) : Int) else 0)
def plA (i k : Nat) : Array Value := #[plC i k 0, plC i k 1, plC i k 2, plC i k 3, plC i k 4, plC i k 5, plC i k 6, plC i k 7]
theorem plA_zero (i : Nat) : plA i 0 = #[.int .i64 0, .int .i64 0, .int .i64 0, .int .i64 0, .int .i64 0, .int .i64 0, .int .i64 0, .int .i64 0] := rfl
theorem plA_set (i k : Nat) (h : k < 8) : (plA i k).setIfInBounds k (.int .i64 ((place (8 * i + k) : Nat) : Int)) = plA i (k + 1) := by
  have h8 : k = 0 ∨ k = 1 ∨ k = 2 ∨ k = 3 ∨ k = 4 ∨ k = 5 ∨ k = 6 ∨ k = 7 := by omega
  rcases h8 with rfl | rfl | rfl | rfl | rfl | rfl | rfl | rfl <;> rfl
theorem plA_one (i k : Nat) : (plA i k).all (·.oneCell') = true := by simp [plA, plC, Value.oneCell']
theorem plA_size (i k : Nat) : (plA i k).size = 8 := rfl

theorem size_eight : (Try.prog.info? 68).map (·.size) = some 8 := by kernel_rfl
set_option maxHeartbeats 1000000 in
theorem placesOfByte_any (i : Nat) (w : World) (h : i ≤ 511) :
    Calls Try.prog 40 #[.int .i64 (i : Int)] w (Gives (.agg (plA i 8)) w) := by
  have hP := fun w' => Place_any (8 * i) w' (by omega)
  go_enter Try.func40, Try.ntmps40
  go_wp2_with (go_at_call 46; rw [show ((i : Int) * 8) = ((8 * i : Nat) : Int) by omega]; refine (hP _).mono ?_; rintro e w' ⟨rfl, rfl⟩)
  clear hP
  go_loopw [4, 9] (fun p j wr => ∃ k q : Nat, k ≤ 8 ∧ j = .int .i64 k ∧ p = .int .i64 (q : Int) ∧ Hid (q = place (8 * i + k)) ∧ q < 8192 ∧ 3 ≤ q ∧ ∃ C : Array Value, Hid (C = plA i k) ∧ C.size = 8 ∧ wr = (w.alloc (.cells (plA i 0) 68)).alloc (.cells C 68)) (fun _ j _ => 8 - (intOf j).toNat)
  case atStart => exact ⟨0, _, Nat.zero_le _, rfl, rfl, rfl, place_lt13 _ (by omega), place_ge _, plA i 0, rfl, rfl, rfl⟩
  case round =>
    obtain ⟨k, q, hk, rfl, rfl, HQ, hq, hq3, C, HC, hC, rfl⟩ := hrel
    by_cases hlt : k < 8
    · have HS := Lib.hid (show C.setIfInBounds k (.int .i64 (q : Int)) = plA i (k + 1) by rw [HC.out, HQ.out]; exact plA_set i k hlt)
      have hq2 := place_lt13 (8 * i + (k + 1)) (by omega)
      have hs : place (8 * i + (k + 1)) = if powB (q + 1) then q + 2 else q + 1 := by rw [HQ.out]; exact place_succ _
      cases hb : powB (q + 1)
      · rw [hb] at hs
        simp only [Bool.false_eq_true, if_false] at hs
        have HN := Lib.hid hs
        have hq3' : q + 1 < 8192 := by omega
        clear hs hq2
        go_wp2_with (go_at_call 43; refine (powerOfTwo_is _ (q + 1) _ _ (by omega) hb (by omega) (by omega)).mono ?_; rintro e w' ⟨rfl, rfl⟩)
        go_roundw
        case rel => exact ⟨k + 1, q + 1, by omega, by go_num, by go_num, HN.out.symm, by omega, by omega, _, HS, by simp [hC], rfl⟩
        case measure => simp [intOf]; omega
      · rw [hb] at hs
        simp only [if_true] at hs
        have HN := Lib.hid hs
        have hq3' : q + 2 < 8192 := by omega
        clear hs hq2
        go_wp2_with (go_at_call 43; refine (powerOfTwo_is _ (q + 1) _ _ (by omega) hb (by omega) (by omega)).mono ?_; rintro e w' ⟨rfl, rfl⟩)
        go_roundw
        case rel => exact ⟨k + 1, q + 2, by omega, by go_num, by go_num, HN.out.symm, by omega, by omega, _, HS, by simp [hC], rfl⟩
        case measure => simp [intOf]; omega
    · obtain rfl : k = 8 := by omega
      go_wp2_with (first | (with_reducible refine (?_ : wpList _ _ _ ({ dst := _, op := Op.load 68 _, type := _, pos := _, after := _, guard := _ } :: _) _ _); apply wpList_load_new (n := 8) (m := 8) (e := 3) (t := 68) (x := .tmp 3) (hu := Try.underlying68) (hi := size_eight); (case hg => rfl); (case ho => rfl); (case hx => simp [Act.eval]); (case hn => exact hC)) | (with_reducible refine (?_ : wpList _ _ _ ({ dst := _, op := Op.store 68 _ _, type := _, pos := _, after := _, guard := _ } :: _) _ _); apply wpList_store_two (n := 8) (t := 68) (x := .tmp 2) (y := .tmp 22) (cells := C) (hi := size_eight); (case hg => rfl); (case ho => rfl); (case hx => simp [Act.eval, Act.put]); (case hy => simp [Act.eval, Act.put]); (case hn => exact hC); (case hold => exact plA_size _ _); (case h1 => rw [HC.out]; exact plA_one _ _)))
      try simp only [Exit.inBlock, Exit.then]
      refine bodyPost_ret (results_cell_row rfl _ _ w.heap.size 68 C (0, 0) _ rfl (heap_alloc_two w _ _) Try.underlying68 rfl (by rw [hC]; exact size_eight)) rfl ?_
      refine ⟨by rw [HC.out], ?_⟩
      exact ((Below.refl _ w).alloc (Nat.le_refl _) _).alloc (by simp) _
/-- One position out of the array. -/
theorem plA_at (i t : Nat) (h : t < 8) : ∀ w : World, (Instr.index 68 (.agg (plA i 8)) (.int .i64 t)).run Try.prog w = .ok (.int .i64 ((place (8 * i + t) : Nat) : Int)) w := by
  have h8 : t = 0 ∨ t = 1 ∨ t = 2 ∨ t = 3 ∨ t = 4 ∨ t = 5 ∨ t = 6 ∨ t = 7 := by omega
  intro w
  rcases h8 with rfl | rfl | rfl | rfl | rfl | rfl | rfl | rfl <;> kernel_rfl

theorem bit_u8 (x u : Nat) (hx : x < 256) : (Go.bits .and .u8 ((x : Int) / 2 ^ u) 1 == 1) = x.testBit u := by
  have e : ((x : Int) / 2 ^ u) = ((x / 2 ^ u : Nat) : Int) := by
    rw [Int.natCast_ediv, Int.natCast_pow]
    rfl
  have h1 : x / 2 ^ u < 256 := Nat.lt_of_le_of_lt (Nat.div_le_self _ _) hx
  rw [e]
  have h2 := u8_and_nat (x / 2 ^ u) 1 h1 (by omega)
  rw [bit_shift] at h2
  rw [show (1 : Int) = ((1 : Nat) : Int) from rfl, h2]
  cases x.testBit u <;> rfl

set_option maxHeartbeats 1000000 in
theorem placesOfOnes_any (A : Option Addr) (n c : Nat) (l : List Nat) (w : World) (hr : R8 w A n l) (hn : n ≤ 512) :
    Calls Try.prog 29 #[.slice A n c] w (Gives (.int .u16 (xL l : Int)) w) := by
  have hl := Lib.hid hr.len
  go_enter Try.func29, Try.ntmps29
  go_wp2
  go_loopw [3, 10] (fun s i wr => ∃ k q : Nat, k ≤ n ∧ i = .int .i64 k ∧ s = .int .i64 (q : Int) ∧ Hid (q = gx (getN l) (8 * k)) ∧ q < 8192 ∧ Hid (Below w.heap.size w wr)) (fun _ i _ => n - (intOf i).toNat)
  case atStart => exact ⟨0, 0, Nat.zero_le _, rfl, rfl, rfl, by omega, Below.refl _ _⟩
  case round =>
    obtain ⟨k, q, hk, rfl, rfl, HQ, hq, HB⟩ := hrel
    by_cases hlt : k < n
    · obtain ⟨b, off, x, rfl, hb, HX, hx, hc0⟩ := hr.at_ hlt
      have hc : wr.cell? ⟨b, off + k, none⟩ = some (.int .u8 (x : Int)) := (HB.out.cell hb).trans hc0
      clear hc0
      by_cases hx0 : x = 0
      · subst hx0
        have HZ := Lib.hid (gx_zero8 l k HX.out)
        go_wp2
        go_roundw
        case rel => exact ⟨k + 1, q, by omega, by go_num, rfl, by rw [HZ.out]; exact HQ, hq, HB⟩
        case measure => simp [intOf]; omega
      · have hne : ((x : Int) == 0) = false := by simp; omega
        obtain ⟨V, hV⟩ : ∃ V, Value.agg (plA k 8) = V := ⟨_, rfl⟩
        have HI := Lib.hid (plA_at k)
        rw [hV] at HI
        go_wp2_with (go_at_call 40; refine (placesOfByte_any k _ (by omega)).mono ?_; rw [hV]; rintro e w' ⟨rfl, hb2⟩)
        have HB2 := Lib.hid (below_step HB.out hb2)
        clear hb2 hc
        go_loop [3, 19] (fun s t => ∃ u z : Nat, u ≤ 8 ∧ t = .int .i64 u ∧ s = .int .i64 (z : Int) ∧ Hid (z = gx (getN l) (8 * k + u)) ∧ z < 8192) (fun _ t => 8 - (intOf t).toNat)
        case atStart => exact ⟨0, q, Nat.zero_le _, rfl, rfl, HQ, hq⟩
        case round =>
          obtain ⟨u, z, hu, rfl, rfl, HZ, hz⟩ := hrel
          by_cases hut : u < 8
          · have hrun := HI.out u hut
            have HG := Lib.hid (gx_bit l k x u HX.out hut)
            have hp := place_lt13 (8 * k + u) (by omega)
            have ht := bit_u8 x u hx
            have HX2 := Lib.hid (i64_xor_nat z (place (8 * k + u)) (by omega) (by omega))
            have HL := Lib.hid (xor_lt13 hz hp)
            have hrun2 := hrun
            generalize hP : place (8 * k + u) = P at *
            clear hrun
            cases hb8 : x.testBit u
            · rw [hb8] at ht HG
              go_wp2
              go_round
              case rel => exact ⟨u + 1, z, by omega, by go_num, rfl, by rw [HG.out]; simp only [Hid, Bool.false_eq_true, if_false]; exact HZ.out, hz⟩
              case measure => simp [intOf]; omega
            · rw [hb8] at ht HG
              go_wp2
              go_round
              case rel => exact ⟨u + 1, z ^^^ P, by omega, by go_num, by rw [HX2.out], by rw [HG.out]; simp only [Hid, if_true]; rw [HZ.out], HL.out⟩
              case measure => simp [intOf]; omega
          · obtain rfl : u = 8 := by omega
            go_wp2
            go_roundw
            case rel => exact ⟨k + 1, z, by omega, by go_num, rfl, by rw [Nat.mul_add, Nat.mul_one]; exact HZ, hz, HB2⟩
            case measure => simp [intOf]; omega
    · have HE := Lib.hid (show xL l = q by
        unfold xL
        rw [HQ.out, show k = l.length by have := hl.out; omega])
      go_wp2
      go_ret
      exact ⟨ret_int (by rw [HE.out]), HB.out⟩
end Go.Proofs.Ytljjbphmglbhnaa
