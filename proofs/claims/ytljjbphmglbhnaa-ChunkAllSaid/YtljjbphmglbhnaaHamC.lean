/-
  Contracts of hamming.odd, locate, Word, Judge, over the landed code.
-/
import Derived.Test.YtljjbphmglbhnaaHamB
import Derived.Test.YtljjbphmglbhnaaOnes8
import Derived.Test.YtljjbphmglbhnaaOnes16
namespace Go.Proofs.Ytljjbphmglbhnaa
open Go.RowKit

/-- Is the number of ones in bytes and in a word's bits 0 to 13 odd? -/
def oddL (l : List Nat) (m : Nat) : Bool := decide ((nL l + pop (m % 16384)) % 2 = 1)

set_option maxHeartbeats 1000000 in
theorem odd_any (A : Option Addr) (n c : Nat) (l : List Nat) (m : Nat) (w : World) (hr : R8 w A n l) (hn : n ≤ 512) (hm : m < 65536) :
    Calls Try.prog 30 #[.slice A n c, .int .u16 (m : Int)] w (Quiet (.bool (oddL l m)) w) := by
  have hl := Lib.hid hr.len
  have hO := fun w' => ones16_any (m % 16384) w' (by omega)
  rw [pop_bytes _ (by omega)] at hO
  have hple := pop_le (m % 16384) (by omega)
  have HO := Lib.hid (show oddL l m = decide ((ones l + pop (m % 16384)) % 2 = 1) by unfold oddL; rw [nL_ones l hr.2])
  have hA : Go.bits .and .u16 (m : Int) 16383 = ((m % 16384 : Nat) : Int) := by
    have := u16_and_nat m 16383 hm (by omega)
    rw [and_16383] at this
    exact this
  generalize pop (m % 16384) = p at *
  generalize m % 16384 = M at *
  go_enter Try.func30, Try.ntmps30
  go_wp2_with (go_at_call 41; refine (hO _).mono ?_; rintro e w' ⟨rfl, q0, rfl⟩)
  clear hO hA
  go_loopw [5, 13] (fun s i wr => ∃ k t : Nat, k ≤ n ∧ i = .int .i64 k ∧ s = .int .i64 (t : Int) ∧ Hid (t = p + ones (l.take k)) ∧ t ≤ 14 + 8 * k ∧ ∃ q, wr = w.drewN q) (fun _ i _ => n - (intOf i).toNat)
  case atStart => exact ⟨0, p, Nat.zero_le _, rfl, rfl, rfl, by omega, _, rfl⟩
  case round =>
    obtain ⟨k, t, hk, rfl, rfl, HT, ht, q, rfl⟩ := hrel
    by_cases hlt : k < n
    · obtain ⟨b, off, x, rfl, hb, HX, hx, hc⟩ := hr.at_ hlt
      have ho2 := popc_le x hx
      have HS := Lib.hid (show ones (l.take (k + 1)) = ones (l.take k) + Lib.onesCount x by rw [take_snoc HX.out, ones_snoc])
      go_wp2_with (go_at_call 42; refine (ones8_any _ _ (by omega) (by omega)).mono ?_; rintro e w' ⟨rfl, rfl⟩)
      go_roundw
      case rel => exact ⟨k + 1, t + Lib.onesCount x, by omega, by go_num, by go_num, by rw [HS.out, HT.out]; simp only [Hid]; omega, by omega, q, rfl⟩
      case measure => simp [intOf]; omega
    · have HE := Lib.hid (show oddL l m = decide (t % 2 = 1) by
        rw [HO.out, HT.out, List.take_of_length_le (by have := hl.out; omega), Nat.add_comm])
      go_wp2
      go_ret
      refine ⟨ret_bool ?_, q, rfl⟩
      rw [HE.out]
      rw [Bool.eq_iff_iff, beq_iff_eq, decide_eq_true_eq]
      omega

/-- Where an error is, out of a difference and the number of bits. -/
theorem locate_any (d n : Nat) (w : World) (hd : d < 8192) :
    Calls Try.prog 33 #[.int .i64 (d : Int), .int .i64 (n : Int)] w fun e w' => e = .returned (.tuple #[.int .i64 ((verdict n d true).1 : Int), .int .i64 ((verdict n d true).2 : Int)]) ∧ w = w' := by
  by_cases h0 : d = 0
  · subst h0
    rw [verdict_zero]
    have hdd : decide ((0 : Int) = 0) = true := rfl
    go_enter Try.func33, Try.ntmps33
    go_wp2
    go_ret2
    exact ⟨rfl, rfl⟩
  · have hne : ((d : Int) == 0) = false := by simp; omega
    cases hp : powB d
    · have h3 : 3 ≤ d := by
        rcases Nat.lt_or_ge d 3 with h1 | h1
        · have h2 : d = 1 ∨ d = 2 := by omega
          rcases h2 with rfl | rfl
          · simp [powB_odd] at hp
          · have : powB 2 = true := powB_pow 1
            rw [this] at hp; cases hp
        · exact h1
      have hB := fun w' => Bit_is d w' h3 (by omega) hp
      have hle : d - 2 - d.log2 ≤ d := by omega
      by_cases hk : d - 2 - d.log2 < n
      · have HV := Lib.hid (show verdict n d true = (1, d - 2 - d.log2) by
          unfold verdict
          rw [if_pos rfl, if_neg (by rw [hp]; simp; omega), if_pos hk])
        rw [HV.out]
        generalize d - 2 - d.log2 = g at *
        go_enter Try.func33, Try.ntmps33
        go_wp2_with (first | (go_at_call 43; refine (powerOfTwo_is _ d _ _ rfl hp (by omega) (by omega)).mono ?_; rintro e w' ⟨rfl, rfl⟩) | (go_at_call 44; refine (hB _).mono ?_; rintro e w' ⟨rfl, rfl⟩))
        go_ret2
        exact ⟨rfl, rfl⟩
      · have HV := Lib.hid (show verdict n d true = (3, 0) by
          unfold verdict
          rw [if_pos rfl, if_neg (by rw [hp]; simp; omega), if_neg hk])
        rw [HV.out]
        generalize d - 2 - d.log2 = g at *
        have hkd : n ≤ g := by omega
        go_enter Try.func33, Try.ntmps33
        go_wp2_with (first | (go_at_call 43; refine (powerOfTwo_is _ d _ _ rfl hp (by omega) (by omega)).mono ?_; rintro e w' ⟨rfl, rfl⟩) | (go_at_call 44; refine (hB _).mono ?_; rintro e w' ⟨rfl, rfl⟩))
        go_ret2
        exact ⟨rfl, rfl⟩
    · have HV := Lib.hid (show verdict n d true = (2, 0) by
        unfold verdict
        rw [if_pos rfl, if_pos (Or.inr hp)])
      rw [HV.out]
      go_enter Try.func33, Try.ntmps33
      go_wp2_with (first | (go_at_call 43; refine (powerOfTwo_is _ d _ _ rfl hp (by omega) (by omega)).mono ?_; rintro e w' ⟨rfl, rfl⟩))
      go_ret2
      exact ⟨rfl, rfl⟩
end Go.Proofs.Ytljjbphmglbhnaa
