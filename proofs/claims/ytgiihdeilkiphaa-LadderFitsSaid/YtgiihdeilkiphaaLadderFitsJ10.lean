/-
  Contracts of hamming.placesOfByte and placesOfOnes, over the landed code.
-/
import Derived.Test.YtgiihdeilkiphaaLadderFitsJ9
import Derived.Test.YtgiihdeilkiphaaLadderFitsJBox
import Derived.Test.YtgiihdeilkiphaaLadderFitsJ8
import Derived.Test.YtgiihdeilkiphaaOnes16
namespace Go.Proofs.Ytgiihdeilkiphaa
open Go.RowKit
set_option maxRecDepth 100000

/-- The positions of a byte's bits, the first k of them. -/
def plC (i k j : Nat) : Value := .int .i64 (if j < k then ((place (8 * i + j) : Nat) : Int) else 0)
def plA (i k : Nat) : Array Value := #[plC i k 0, plC i k 1, plC i k 2, plC i k 3, plC i k 4, plC i k 5, plC i k 6, plC i k 7]
theorem plA_zero (i : Nat) : plA i 0 = #[.int .i64 0, .int .i64 0, .int .i64 0, .int .i64 0, .int .i64 0, .int .i64 0, .int .i64 0, .int .i64 0] := rfl
theorem plA_set (i k : Nat) (h : k < 8) : (plA i k).setIfInBounds k (.int .i64 ((place (8 * i + k) : Nat) : Int)) = plA i (k + 1) := by
  have h8 : k = 0 ∨ k = 1 ∨ k = 2 ∨ k = 3 ∨ k = 4 ∨ k = 5 ∨ k = 6 ∨ k = 7 := by omega
  rcases h8 with rfl | rfl | rfl | rfl | rfl | rfl | rfl | rfl <;> rfl
theorem plA_one (i k : Nat) : (plA i k).all (·.oneCell') = true := by simp [plA, plC, Value.oneCell']
theorem plA_size (i k : Nat) : (plA i k).size = 8 := rfl

theorem size_eight : (Try.prog.info? 132).map (·.size) = some 8 := by kernel_rfl
set_option maxHeartbeats 1000000 in
theorem placesOfByte_any (i : Nat) (w : World) (h : i ≤ 511) :
    Calls Try.prog 91 #[.int .i64 (i : Int)] w (Gives (.agg (plA i 8)) w) := by
  have hP := fun w' => Place_any (8 * i) w' (by omega)
  go_enter Try.func91, Try.ntmps91
  go_wp2_with (go_at_call 95; rw [show ((i : Int) * 8) = ((8 * i : Nat) : Int) by omega]; refine (hP _).mono ?_; rintro e w' ⟨rfl, rfl⟩)
  clear hP
  go_loopw [4, 9] (fun p j wr => ∃ k q : Nat, k ≤ 8 ∧ j = .int .i64 k ∧ p = .int .i64 (q : Int) ∧ Hid (q = place (8 * i + k)) ∧ q < 8192 ∧ 3 ≤ q ∧ ∃ C : Array Value, Hid (C = plA i k) ∧ C.size = 8 ∧ wr = (w.alloc (.cells (plA i 0) 132)).alloc (.cells C 132)) (fun _ j _ => 8 - (intOf j).toNat)
  case atStart => exact ⟨0, _, Nat.zero_le _, rfl, rfl, rfl, place_lt13 _ (by omega), place_ge _, plA i 0, rfl, rfl, rfl⟩
  case round =>
    obtain ⟨k, q, hk, rfl, rfl, HQ, hq, hq3, C, HC, hC, rfl⟩ := hrel
    by_cases hlt : k < 8
    · have HS := Lib.hid (show C.setIfInBounds k (.int .i64 (q : Int)) = plA i (k + 1) by rw [HC.out, HQ.out]; exact plA_set i k hlt)
      have hq2 := place_lt13 (8 * i + (k + 1)) (by omega)
      have hs : place (8 * i + (k + 1)) = if powB (q + 1) then q + 2 else q + 1 := by rw [HQ.out]; exact place_succ _
      cases hb : powB (q + 1)
      · rw [hb] at hs
        simp only [Bool.false_eq_true, if_false] at hs
        have HN := Lib.hid hs
        have hq3' : q + 1 < 8192 := by omega
        clear hs hq2
        go_wp2_with (go_at_call 93; refine (powerOfTwo_is _ (q + 1) _ _ (by omega) hb (by omega) (by omega)).mono ?_; rintro e w' ⟨rfl, rfl⟩)
        go_roundw
        case rel => exact ⟨k + 1, q + 1, by omega, by go_num, by go_num, HN.out.symm, by omega, by omega, _, HS, by simp [hC], rfl⟩
        case measure => simp [intOf]; omega
      · rw [hb] at hs
        simp only [if_true] at hs
        have HN := Lib.hid hs
        have hq3' : q + 2 < 8192 := by omega
        clear hs hq2
        go_wp2_with (go_at_call 93; refine (powerOfTwo_is _ (q + 1) _ _ (by omega) hb (by omega) (by omega)).mono ?_; rintro e w' ⟨rfl, rfl⟩)
        go_roundw
        case rel => exact ⟨k + 1, q + 2, by omega, by go_num, by go_num, HN.out.symm, by omega, by omega, _, HS, by simp [hC], rfl⟩
        case measure => simp [intOf]; omega
    · obtain rfl : k = 8 := by omega
      go_wp2_with (first | (with_reducible refine (?_ : wpList _ _ _ ({ dst := _, op := Op.load 132 _, type := _, pos := _, after := _, guard := _ } :: _) _ _); apply wpList_load_new (n := 8) (m := 8) (e := 3) (t := 132) (x := .tmp 3) (hu := Try.underlying132) (hi := size_eight); (case hg => rfl); (case ho => rfl); (case hx => simp [Act.eval]); (case hn => exact hC)) | (with_reducible refine (?_ : wpList _ _ _ ({ dst := _, op := Op.store 132 _ _, type := _, pos := _, after := _, guard := _ } :: _) _ _); apply wpList_store_two (n := 8) (t := 132) (x := .tmp 2) (y := .tmp 22) (cells := C) (hi := size_eight); (case hg => rfl); (case ho => rfl); (case hx => simp [Act.eval, Act.put]); (case hy => simp [Act.eval, Act.put]); (case hn => exact hC); (case hold => exact plA_size _ _); (case h1 => rw [HC.out]; exact plA_one _ _)))
      try simp only [Exit.inBlock, Exit.then]
      refine bodyPost_ret (results_cell_row rfl _ _ w.heap.size 132 C (0, 0) _ rfl (heap_alloc_two w _ _) Try.underlying132 rfl (by rw [hC]; exact size_eight)) rfl ?_
      refine ⟨by rw [HC.out], ?_⟩
      exact ((Below.refl _ w).alloc (Nat.le_refl _) _).alloc (by simp) _
/-- One position out of the array. -/
theorem plA_at (i t : Nat) (h : t < 8) : ∀ w : World, (Instr.index 132 (.agg (plA i 8)) (.int .i64 t)).run Try.prog w = .ok (.int .i64 ((place (8 * i + t) : Nat) : Int)) w := by
  have h8 : t = 0 ∨ t = 1 ∨ t = 2 ∨ t = 3 ∨ t = 4 ∨ t = 5 ∨ t = 6 ∨ t = 7 := by omega
  intro w
  rcases h8 with rfl | rfl | rfl | rfl | rfl | rfl | rfl | rfl <;> kernel_rfl

theorem bit_u8 (x u : Nat) (hx : x < 256) : (Go.bits .and .u8 ((x : Int) / 2 ^ u) 1 == 1) = x.testBit u := by
  have e : ((x : Int) / 2 ^ u) = ((x / 2 ^ u : Nat) : Int) := by
    rw [Int.natCast_ediv, Int.natCast_pow]
    rfl
  have h1 : x / 2 ^ u < 256 := Nat.lt_of_le_of_lt (Nat.div_le_self _ _) hx
  rw [e]
  have h2 := u8_and_nat (x / 2 ^ u) 1 h1 (by omega)
  rw [bit_shift] at h2
  rw [show (1 : Int) = ((1 : Nat) : Int) from rfl, h2]
  cases x.testBit u <;> rfl

set_option maxHeartbeats 1000000 in
theorem placesOfOnes_any (A : Option Addr) (n c : Nat) (l : List Nat) (w : World) (hr : R8 w A n l) (hn : n ≤ 512) :
    Calls Try.prog 84 #[.slice A n c] w (Gives (.int .u16 (xL l : Int)) w) := by
  have hl := Lib.hid hr.len
  go_enter Try.func84, Try.ntmps84
  go_wp2
  go_loopw [3, 10] (fun s i wr => ∃ k q : Nat, k ≤ n ∧ i = .int .i64 k ∧ s = .int .i64 (q : Int) ∧ Hid (q = gx (getN l) (8 * k)) ∧ q < 8192 ∧ Hid (Below w.heap.size w wr)) (fun _ i _ => n - (intOf i).toNat)
  case atStart => exact ⟨0, 0, Nat.zero_le _, rfl, rfl, rfl, by omega, Below.refl _ _⟩
  case round =>
    obtain ⟨k, q, hk, rfl, rfl, HQ, hq, HB⟩ := hrel
    by_cases hlt : k < n
    · obtain ⟨b, off, x, rfl, hb, HX, hx, hc0⟩ := hr.at_ hlt
      have hc : wr.cell? ⟨b, off + k, none⟩ = some (.int .u8 (x : Int)) := (HB.out.cell hb).trans hc0
      clear hc0
      by_cases hx0 : x = 0
      · subst hx0
        have HZ := Lib.hid (gx_zero8 l k HX.out)
        go_wp2
        go_roundw
        case rel => exact ⟨k + 1, q, by omega, by go_num, rfl, by rw [HZ.out]; exact HQ, hq, HB⟩
        case measure => simp [intOf]; omega
      · have hne : ((x : Int) == 0) = false := by simp; omega
        obtain ⟨V, hV⟩ : ∃ V, Value.agg (plA k 8) = V := ⟨_, rfl⟩
        have HI := Lib.hid (plA_at k)
        rw [hV] at HI
        go_wp2_with (go_at_call 91; refine (placesOfByte_any k _ (by omega)).mono ?_; rw [hV]; rintro e w' ⟨rfl, hb2⟩)
        have HB2 := Lib.hid (below_step HB.out hb2)
        clear hb2 hc
        go_loop [3, 19] (fun s t => ∃ u z : Nat, u ≤ 8 ∧ t = .int .i64 u ∧ s = .int .i64 (z : Int) ∧ Hid (z = gx (getN l) (8 * k + u)) ∧ z < 8192) (fun _ t => 8 - (intOf t).toNat)
        case atStart => exact ⟨0, q, Nat.zero_le _, rfl, rfl, HQ, hq⟩
        case round =>
          obtain ⟨u, z, hu, rfl, rfl, HZ, hz⟩ := hrel
          by_cases hut : u < 8
          · have hrun := HI.out u hut
            have HG := Lib.hid (gx_bit l k x u HX.out hut)
            have hp := place_lt13 (8 * k + u) (by omega)
            have ht := bit_u8 x u hx
            have HX2 := Lib.hid (i64_xor_nat z (place (8 * k + u)) (by omega) (by omega))
            have HL := Lib.hid (xor_lt13 hz hp)
            have hrun2 := hrun
            generalize hP : place (8 * k + u) = P at *
            clear hrun
            cases hb8 : x.testBit u
            · rw [hb8] at ht HG
              go_wp2
              go_round
              case rel => exact ⟨u + 1, z, by omega, by go_num, rfl, by rw [HG.out]; simp only [Hid, Bool.false_eq_true, if_false]; exact HZ.out, hz⟩
              case measure => simp [intOf]; omega
            · rw [hb8] at ht HG
              go_wp2
              go_round
              case rel => exact ⟨u + 1, z ^^^ P, by omega, by go_num, by rw [HX2.out], by rw [HG.out]; simp only [Hid, if_true]; rw [HZ.out], HL.out⟩
              case measure => simp [intOf]; omega
          · obtain rfl : u = 8 := by omega
            go_wp2
            go_roundw
            case rel => exact ⟨k + 1, z, by omega, by go_num, rfl, by rw [Nat.mul_add, Nat.mul_one]; exact HZ, hz, HB2⟩
            case measure => simp [intOf]; omega
    · have HE := Lib.hid (show xL l = q by
        unfold xL
        rw [HQ.out, show k = l.length by have := hl.out; omega])
      go_wp2
      go_ret
      exact ⟨ret_int (by rw [HE.out]), HB.out⟩
end Go.Proofs.Ytgiihdeilkiphaa

/-
  Contracts of hamming.odd, locate, Word, Judge, over the landed code.
-/
namespace Go.Proofs.Ytgiihdeilkiphaa
open Go.RowKit
set_option maxRecDepth 100000

/-- Is the number of ones in bytes and in a word's bits 0 to 13 odd? -/
def oddL (l : List Nat) (m : Nat) : Bool := decide ((nL l + pop (m % 16384)) % 2 = 1)

set_option maxHeartbeats 1000000 in
theorem odd_any (A : Option Addr) (n c : Nat) (l : List Nat) (m : Nat) (w : World) (hr : R8 w A n l) (hn : n ≤ 512) (hm : m < 65536) :
    Calls Try.prog 85 #[.slice A n c, .int .u16 (m : Int)] w (Quiet (.bool (oddL l m)) w) := by
  have hl := Lib.hid hr.len
  have hO := fun w' => ones16_any (m % 16384) w' (by omega)
  rw [pop_bytes _ (by omega)] at hO
  have hple := pop_le (m % 16384) (by omega)
  have HO := Lib.hid (show oddL l m = decide ((ones l + pop (m % 16384)) % 2 = 1) by unfold oddL; rw [nL_ones l hr.2])
  have hA : Go.bits .and .u16 (m : Int) 16383 = ((m % 16384 : Nat) : Int) := by
    have := u16_and_nat m 16383 hm (by omega)
    rw [and_16383] at this
    exact this
  generalize pop (m % 16384) = p at *
  generalize m % 16384 = M at *
  go_enter Try.func85, Try.ntmps85
  go_wp2_with (go_at_call 92; refine (hO _).mono ?_; rintro e w' ⟨rfl, q0, rfl⟩)
  clear hO hA
  go_loopw [5, 13] (fun s i wr => ∃ k t : Nat, k ≤ n ∧ i = .int .i64 k ∧ s = .int .i64 (t : Int) ∧ Hid (t = p + ones (l.take k)) ∧ t ≤ 14 + 8 * k ∧ ∃ q, wr = w.drewN q) (fun _ i _ => n - (intOf i).toNat)
  case atStart => exact ⟨0, p, Nat.zero_le _, rfl, rfl, rfl, by omega, _, rfl⟩
  case round =>
    obtain ⟨k, t, hk, rfl, rfl, HT, ht, q, rfl⟩ := hrel
    by_cases hlt : k < n
    · obtain ⟨b, off, x, rfl, hb, HX, hx, hc⟩ := hr.at_ hlt
      have ho2 := popc_le x hx
      have HS := Lib.hid (show ones (l.take (k + 1)) = ones (l.take k) + Lib.onesCount x by rw [take_snoc HX.out, ones_snoc])
      go_wp2_with (go_at_call 82; refine (ones8_any _ _ (by omega) (by omega)).mono ?_; rintro e w' ⟨rfl, rfl⟩)
      go_roundw
      case rel => exact ⟨k + 1, t + Lib.onesCount x, by omega, by go_num, by go_num, by rw [HS.out, HT.out]; simp only [Hid]; omega, by omega, q, rfl⟩
      case measure => simp [intOf]; omega
    · have HE := Lib.hid (show oddL l m = decide (t % 2 = 1) by
        rw [HO.out, HT.out, List.take_of_length_le (by have := hl.out; omega), Nat.add_comm])
      go_wp2
      go_ret
      refine ⟨ret_bool ?_, q, rfl⟩
      rw [HE.out]
      rw [Bool.eq_iff_iff, beq_iff_eq, decide_eq_true_eq]
      omega

/-- Where an error is, out of a difference and the number of bits. -/
theorem locate_any (d n : Nat) (w : World) (hd : d < 8192) :
    Calls Try.prog 86 #[.int .i64 (d : Int), .int .i64 (n : Int)] w fun e w' => e = .returned (.tuple #[.int .i64 ((verdict n d true).1 : Int), .int .i64 ((verdict n d true).2 : Int)]) ∧ w = w' := by
  by_cases h0 : d = 0
  · subst h0
    rw [verdict_zero]
    have hdd : decide ((0 : Int) = 0) = true := rfl
    go_enter Try.func86, Try.ntmps86
    go_wp2
    go_ret2
    exact ⟨rfl, rfl⟩
  · have hne : ((d : Int) == 0) = false := by simp; omega
    cases hp : powB d
    · have h3 : 3 ≤ d := by
        rcases Nat.lt_or_ge d 3 with h1 | h1
        · have h2 : d = 1 ∨ d = 2 := by omega
          rcases h2 with rfl | rfl
          · simp [powB_odd] at hp
          · have : powB 2 = true := powB_pow 1
            rw [this] at hp; cases hp
        · exact h1
      have hB := fun w' => Bit_is d w' h3 (by omega) hp
      have hle : d - 2 - d.log2 ≤ d := by omega
      by_cases hk : d - 2 - d.log2 < n
      · have HV := Lib.hid (show verdict n d true = (1, d - 2 - d.log2) by
          unfold verdict
          rw [if_pos rfl, if_neg (by rw [hp]; simp; omega), if_pos hk])
        rw [HV.out]
        generalize d - 2 - d.log2 = g at *
        go_enter Try.func86, Try.ntmps86
        go_wp2_with (first | (go_at_call 93; refine (powerOfTwo_is _ d _ _ rfl hp (by omega) (by omega)).mono ?_; rintro e w' ⟨rfl, rfl⟩) | (go_at_call 94; refine (hB _).mono ?_; rintro e w' ⟨rfl, rfl⟩))
        go_ret2
        exact ⟨rfl, rfl⟩
      · have HV := Lib.hid (show verdict n d true = (3, 0) by
          unfold verdict
          rw [if_pos rfl, if_neg (by rw [hp]; simp; omega), if_neg hk])
        rw [HV.out]
        generalize d - 2 - d.log2 = g at *
        have hkd : n ≤ g := by omega
        go_enter Try.func86, Try.ntmps86
        go_wp2_with (first | (go_at_call 93; refine (powerOfTwo_is _ d _ _ rfl hp (by omega) (by omega)).mono ?_; rintro e w' ⟨rfl, rfl⟩) | (go_at_call 94; refine (hB _).mono ?_; rintro e w' ⟨rfl, rfl⟩))
        go_ret2
        exact ⟨rfl, rfl⟩
    · have HV := Lib.hid (show verdict n d true = (2, 0) by
        unfold verdict
        rw [if_pos rfl, if_pos (Or.inr hp)])
      rw [HV.out]
      go_enter Try.func86, Try.ntmps86
      go_wp2_with (first | (go_at_call 93; refine (powerOfTwo_is _ d _ _ rfl hp (by omega) (by omega)).mono ?_; rintro e w' ⟨rfl, rfl⟩))
      go_ret2
      exact ⟨rfl, rfl⟩
end Go.Proofs.Ytgiihdeilkiphaa

/-
  Contracts of hamming.Word and Judge, over the landed code.
-/
namespace Go.Proofs.Ytgiihdeilkiphaa
open Go.RowKit
set_option maxRecDepth 100000

theorem word_form (l : List Nat) (h : l.length ≤ 512) : wordL l = if oddL l (xL l) then (xL l ||| 8192) ||| 49152 else xL l ||| 49152 := by
  have hx := xL_lt l h
  unfold oddL
  rw [Nat.mod_eq_of_lt (show xL l < 16384 by omega), or_8192 _ hx, or_49152 _ (by omega), or_49152 _ (by omega)]
  unfold wordL
  have h2 := Nat.mod_two_eq_zero_or_one (nL l + pop (xL l))
  rcases h2 with h2 | h2 <;> rw [h2] <;> simp
set_option maxHeartbeats 1000000 in
theorem Judge_any (A : Option Addr) (n c : Nat) (l : List Nat) (m : Nat) (w : World) (hr : R8 w A n l) (hn : n ≤ 512) (hm : m < 65536) :
    Calls Try.prog 72 #[.slice A n c, .int .u16 (m : Int)] w (Gives (.tuple #[.int .i64 ((judgeL l m).1 : Int), .int .i64 ((judgeL l m).2 : Int), .int .i64 0]) w) := by
  have hl := hr.len
  have hx := xL_lt l (by omega)
  have hJ : judgeL l m = verdict (8 * n) (xL l ^^^ m % 8192) (oddL l m) := by unfold judgeL oddL; rw [hl]
  have hA : Go.bits .and .u16 (m : Int) 8191 = ((m % 8192 : Nat) : Int) := by
    have := u16_and_nat m 8191 hm (by omega)
    rw [and_8191] at this
    exact this
  have hX : Go.bits .xor .u16 (xL l : Int) ((m % 8192 : Nat) : Int) = ((xL l ^^^ m % 8192 : Nat) : Int) := u16_xor_nat (xL l) (m % 8192) (by omega) (by omega)
  have hD : xL l ^^^ m % 8192 < 8192 := xor_lt13 hx (by omega)
  have hP := fun w' (h : R8 w' A n l) => placesOfOnes_any A n c l w' h hn
  have hO := fun w' (h : R8 w' A n l) => odd_any A n c l m w' h hn hm
  have hL := fun w' => locate_any (xL l ^^^ m % 8192) (8 * n) w' hD
  rw [hJ]
  clear hJ
  generalize oddL l m = o at *
  generalize xL l ^^^ m % 8192 = D at *
  generalize m % 8192 = M at *
  generalize xL l = X at *
  cases o
  · clear hL
    by_cases hd0 : D = 0
    · subst hd0
      rw [verdict_clean]
      go_enter Try.func72, Try.ntmps72
      go_wp2_with fail
      refine (hP _ hr).mono ?_
      rintro e w1 ⟨rfl, hb1⟩
      have HB1 := Lib.hid hb1
      have HR1 := Lib.hid (hr.below hb1)
      clear hb1
      go_wp2_with fail
      refine (hO _ HR1.out).mono ?_
      rintro e w2 ⟨rfl, q, rfl⟩
      go_wp2
      go_ret3
      exact ⟨rfl, below_drewN HB1.out q⟩
    · have hne : ((D : Int) != 0) = true := by simp; omega
      rw [verdict_broken _ _ hd0]
      go_enter Try.func72, Try.ntmps72
      go_wp2_with fail
      refine (hP _ hr).mono ?_
      rintro e w1 ⟨rfl, hb1⟩
      have HB1 := Lib.hid hb1
      have HR1 := Lib.hid (hr.below hb1)
      clear hb1
      go_wp2_with fail
      refine (hO _ HR1.out).mono ?_
      rintro e w2 ⟨rfl, q, rfl⟩
      go_wp2
      go_ret3
      exact ⟨rfl, below_drewN HB1.out q⟩
  · generalize verdict (8 * n) D true = V at *
    obtain ⟨s, b⟩ := V
    simp only at hL ⊢
    have hL2 : ∀ w', Calls Try.prog 86 #[.int .i64 (D : Int), .int .i64 ((n : Int) * 8)] w' fun e w'' => e = .returned (.tuple #[.int .i64 (s : Int), .int .i64 (b : Int)]) ∧ w' = w'' := fun w' => by
      rw [show ((n : Int) * 8) = ((8 * n : Nat) : Int) by omega]
      exact hL w'
    clear hL
    go_enter Try.func72, Try.ntmps72
    go_wp2_with fail
    refine (hP _ hr).mono ?_
    rintro e w1 ⟨rfl, hb1⟩
    have HB1 := Lib.hid hb1
    have HR1 := Lib.hid (hr.below hb1)
    clear hb1
    go_wp2_with fail
    refine (hO _ HR1.out).mono ?_
    rintro e w2 ⟨rfl, q, rfl⟩
    go_wp2_with fail
    refine (hL2 _).mono ?_
    rintro e w3 ⟨rfl, rfl⟩
    go_wp2
    go_ret3
    exact ⟨rfl, below_drewN HB1.out q⟩
end Go.Proofs.Ytgiihdeilkiphaa
