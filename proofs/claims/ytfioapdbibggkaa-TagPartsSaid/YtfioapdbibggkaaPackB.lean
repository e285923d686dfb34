/-
  Contracts of the document's Size and Fits (package incunableref03), over the landed code's translation.
-/
import Derived.Test.YtfioapdbibggkaaPackA
namespace Go.Proofs.Ytfioapdbibggkaa
open Go.RowKit

set_option maxHeartbeats 400000 in
theorem RefSize_yes (A : Option Addr) (n c : Nat) (l : List Int) (w : World) (hr : R64 w A n l) (h : okL l = true) :
    Calls Try.prog 30 #[.slice A n c] w fun e w' => e = .returned (.tuple #[.int .i64 (sumI l : Int), .bool true]) ∧ w = w' := by
  have hlen := Lib.hid hr.len
  have hn : n ≤ 64 := by have := okL_len h; have := hr.len; omega
  have HO := Lib.hid h
  clear h
  go_enter Try.func30, Try.ntmps30
  go_wp2
  go_loop [4, 5] (fun t i => ∃ k : Nat, k ≤ n ∧ i = .int .i64 k ∧ t = .int .i64 (sumI (l.take k) : Int)) (fun _ i => n - (intOf i).toNat)
  case atStart => exact ⟨0, Nat.zero_le _, rfl, rfl⟩
  case round =>
    obtain ⟨k, hk, rfl, rfl⟩ := hrel
    by_cases hlt : k < n
    · obtain ⟨b, off, x, rfl, hb, HX, hx1, hx2, hc⟩ := hr.at_ hlt
      have hx := okL_at HO.out HX.out
      obtain ⟨y, rfl⟩ := Int.eq_ofNat_of_zero_le (show 0 ≤ x by omega)
      have HS := Lib.hid (show sumI (l.take (k + 1)) = sumI (l.take k) + y by rw [take_snoc HX.out, sumI_snoc]; rfl)
      have hb1 : sumI (l.take k) ≤ 512 := okL_sum (okL_take HO.out k)
      generalize sumI (l.take k) = q at *
      have hk64 : k < 64 := by omega
      go_wp2
      go_round
      case rel => exact ⟨k + 1, by omega, by go_num, by rw [HS.out]; go_num⟩
      case measure => simp [intOf]; omega
    · have HE := Lib.hid (show l.take k = l by rw [List.take_of_length_le (by have := hlen.out; omega)])
      go_wp2
      go_ret2
      exact ⟨by rw [HE.out]; rfl, rfl⟩

set_option maxHeartbeats 400000 in
theorem RefSize_no (A : Option Addr) (n c : Nat) (l : List Int) (w : World) (hr : R64 w A n l) (h : okL l = false) (hn : n ≤ 1099511627776) :
    Calls Try.prog 30 #[.slice A n c] w fun e w' => e = .returned (.tuple #[.int .i64 0, .bool false]) ∧ w = w' := by
  have hlen := Lib.hid hr.len
  have HO := Lib.hid h
  clear h
  go_enter Try.func30, Try.ntmps30
  go_wp2
  go_loop [4, 5] (fun t i => ∃ k : Nat, k ≤ n ∧ k ≤ 64 ∧ i = .int .i64 k ∧ t = .int .i64 (sumI (l.take k) : Int) ∧ Hid (∀ x ∈ l.take k, okSz x = true)) (fun _ i => n - (intOf i).toNat)
  case atStart => exact ⟨0, Nat.zero_le _, Nat.zero_le _, rfl, rfl, by simp [Hid]⟩
  case round =>
    obtain ⟨k, hk, hk64, rfl, rfl, HA⟩ := hrel
    by_cases hlt : k < n
    · by_cases hk2 : k = 64
      · subst hk2
        have e64 : ((64 : Nat) : Int) = 64 := rfl
        rw [e64]
        go_wp2
        go_ret2
        exact ⟨rfl, rfl⟩
      · have hk3 : k < 64 := by omega
        obtain ⟨b, off, x, rfl, hb, HX, hx1, hx2, hc⟩ := hr.at_ hlt
        have hb1 : sumI (l.take k) ≤ 8 * k := by have := sumI_le _ HA.out; have h2 : (l.take k).length ≤ k := List.length_take_le _ _; omega
        clear hk2
        cases hz : okSz x
        · have hz2 := okSz_no hz
          clear hz
          by_cases hx3 : x < 1
          · go_wp2
            go_ret2
            exact ⟨rfl, rfl⟩
          · have hx4 : 8 < x := by omega
            go_wp2
            go_ret2
            exact ⟨rfl, rfl⟩
        · have HZ := Lib.hid hz
          have hx := okSz_yes hz
          clear hz
          obtain ⟨y, rfl⟩ := Int.eq_ofNat_of_zero_le (show 0 ≤ x by omega)
          have HS := Lib.hid (show sumI (l.take (k + 1)) = sumI (l.take k) + y by rw [take_snoc HX.out, sumI_snoc]; rfl)
          have HA2 := Lib.hid (show ∀ x ∈ l.take (k + 1), okSz x = true by
            rw [take_snoc HX.out]
            intro x hx
            rcases List.mem_append.1 hx with h | h
            · exact HA.out x h
            · simp at h; subst h; exact HZ.out)
          generalize sumI (l.take k) = q at *
          go_wp2
          go_round
          case rel => exact ⟨k + 1, by omega, by omega, by go_num, by rw [HS.out]; go_num, HA2⟩
          case measure => simp [intOf]; omega
    · exfalso
      have hl := hlen.out
      have h2 := okL_mk (l := l) (by omega) (by have := HA.out; rwa [List.take_of_length_le (by omega)] at this)
      rw [HO.out] at h2
      cases h2

/-- A number without its last bytes. -/
def cutN (m k : Nat) : Nat := m / 2 ^ (8 * k)
theorem cutN_zero (m : Nat) : cutN m 0 = m := by simp [cutN]
theorem cutN_succ (m k : Nat) : cutN m (k + 1) = cutN m k / 256 := by unfold cutN; rw [Nat.div_div_eq_div_mul, show 8 * (k + 1) = 8 * k + 8 by omega, Nat.pow_add]
theorem cutN_le (m k : Nat) : cutN m k ≤ m := Nat.div_le_self _ _

set_option maxHeartbeats 400000 in
theorem RefFits_is (n s : Int) (b : Bool) (w : World) (h : fitsB n s = b) (h1 : -9223372036854775808 ≤ n) (h2 : n ≤ 9223372036854775807) (h3 : -9223372036854775808 ≤ s) (h4 : s ≤ 9223372036854775807) :
    Calls Try.prog 31 #[.int .i64 n, .int .i64 s] w fun e w' => e = .returned (.bool b) ∧ w = w' := by
  subst h
  by_cases hs1 : s < 1
  · have HS := Lib.hid (fitsB_bad (n := n) (show okSz s = false by simp [okSz]; omega))
    go_enter Try.func31, Try.ntmps31
    go_wp2
    go_ret
    exact ⟨ret_bool HS.out.symm, rfl⟩
  · by_cases hs8 : 8 < s
    · have HS := Lib.hid (fitsB_bad (n := n) (show okSz s = false by simp [okSz]; omega))
      go_enter Try.func31, Try.ntmps31
      go_wp2
      go_ret
      exact ⟨ret_bool HS.out.symm, rfl⟩
    · by_cases hn : n < 0
      · have HS := Lib.hid (fitsB_neg (s := s) hn)
        go_enter Try.func31, Try.ntmps31
        go_wp2
        go_ret
        exact ⟨ret_bool HS.out.symm, rfl⟩
      · obtain ⟨m, rfl⟩ := Int.eq_ofNat_of_zero_le (show 0 ≤ n by omega)
        obtain ⟨t, rfl⟩ := Int.eq_ofNat_of_zero_le (show 0 ≤ s by omega)
        by_cases hbig : 4611686018427387904 < m
        · have HS := Lib.hid (show fitsB (m : Int) (t : Int) = false by
            rw [fitsB_nat _ _ (by omega) (by omega), decide_eq_false_iff_not, fits_pow _ _ (by omega)]; omega)
          go_enter Try.func31, Try.ntmps31
          go_wp2
          go_ret
          exact ⟨ret_bool HS.out.symm, rfl⟩
        · have HS := Lib.hid (show fitsB (m : Int) (t : Int) = decide (cutN m t = 0) by
            rw [fitsB_nat _ _ (by omega) (by omega), decide_eq_decide, fits_pow _ _ (by omega)]
            unfold cutN
            omega)
          have d1 : decide ((t : Int) < 1) = false := decide_eq_false (by omega)
          have d2 : decide ((8 : Int) < t) = false := decide_eq_false (by omega)
          have d3 : decide ((m : Int) < 0) = false := decide_eq_false (by omega)
          have d4 : decide ((4611686018427387904 : Int) < m) = false := decide_eq_false (by omega)
          have hm : m ≤ 4611686018427387904 := by omega
          clear hs1 hs8 hn hbig h1 h2 h3
          go_enter Try.func31, Try.ntmps31
          go_wp2
          go_loop [0, 5] (fun v i => ∃ k : Nat, k ≤ t ∧ i = .int .i64 k ∧ v = .int .i64 (cutN m k : Int)) (fun _ i => t - (intOf i).toNat)
          case atStart => exact ⟨0, Nat.zero_le _, rfl, by rw [cutN_zero]⟩
          case round =>
            obtain ⟨k, hk, rfl, rfl⟩ := hrel
            have hle := cutN_le m k
            by_cases hlt : k < t
            · have HC := Lib.hid (cutN_succ m k)
              generalize cutN m k = q at *
              go_wp2
              go_round
              case rel => exact ⟨k + 1, by omega, by go_num, by rw [HC.out]; go_num⟩
              case measure => simp [intOf]; omega
            · obtain rfl : k = t := by omega
              generalize cutN m k = q at *
              go_wp2
              go_ret
              refine ⟨ret_bool ?_, rfl⟩
              rw [HS.out]
              by_cases hq : q = 0
              · subst hq; rfl
              · rw [decide_eq_false hq]
                exact beq_eq_false_iff_ne.2 (by omega)
end Go.Proofs.Ytfioapdbibggkaa
