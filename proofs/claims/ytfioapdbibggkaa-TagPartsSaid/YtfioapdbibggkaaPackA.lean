/-
  Contracts of pack.allowed, greatest, Fits and Size, and of the document's Size and Fits (package incunableref03), over the landed code.
-/
import Derived.Test.YtfioapdbibggkaaSame
import Derived.Test.YtfioapdbibggkaaPackMath
namespace Go.Proofs.Ytfioapdbibggkaa
open Go.RowKit

theorem allowed_is (x : Int) (b : Bool) (w : World) (h : okSz x = b) (h1 : -9223372036854775808 ≤ x) (h2 : x ≤ 9223372036854775807) :
    Calls Try.prog 34 #[.int .i64 x] w fun e w' => e = .returned (.bool b) ∧ w = w' := by
  subst h
  by_cases ha : 1 ≤ x
  · by_cases hb : x ≤ 8
    · have HS := Lib.hid (show okSz x = true by simp [okSz, ha, hb])
      go_enter Try.func34, Try.ntmps34
      go_wp2
      go_ret
      exact ⟨ret_bool HS.out.symm, rfl⟩
    · have HS := Lib.hid (show okSz x = false by simp [okSz]; omega)
      have hb' : 8 < x := by omega
      go_enter Try.func34, Try.ntmps34
      go_wp2
      go_ret
      exact ⟨ret_bool HS.out.symm, rfl⟩
  · have HS := Lib.hid (show okSz x = false by simp [okSz]; omega)
    have ha' : x < 1 := by omega
    go_enter Try.func34, Try.ntmps34
    go_wp2
    go_ret
    exact ⟨ret_bool HS.out.symm, rfl⟩

theorem greatest_any (s : Nat) (w : World) (h1 : 1 ≤ s) (h2 : s ≤ 8) :
    Calls Try.prog 35 #[.int .i64 (s : Int)] w fun e w' => e = .returned (.int .i64 (great s : Int)) ∧ w = w' := by
  have hs : s = 1 ∨ s = 2 ∨ s = 3 ∨ s = 4 ∨ s = 5 ∨ s = 6 ∨ s = 7 ∨ s = 8 := by omega
  clear h1 h2
  rcases hs with rfl | rfl | rfl | rfl | rfl | rfl | rfl | rfl
  all_goals
    go_enter Try.func35, Try.ntmps35
    go_wp2
    go_ret
    exact ⟨rfl, rfl⟩

theorem Fits_is (n s : Int) (b : Bool) (w : World) (h : fitsB n s = b) (h1 : -9223372036854775808 ≤ n) (h2 : n ≤ 9223372036854775807) (h3 : -9223372036854775808 ≤ s) (h4 : s ≤ 9223372036854775807) :
    Calls Try.prog 28 #[.int .i64 n, .int .i64 s] w fun e w' => e = .returned (.bool b) ∧ w = w' := by
  subst h
  cases hs : okSz s
  · have HS := Lib.hid (fitsB_bad (n := n) hs)
    have HO := Lib.hid hs
    clear hs
    go_enter Try.func28, Try.ntmps28
    go_wp2_with (go_at_call 34; refine (allowed_is s false _ HO.out h3 h4).mono ?_; rintro e w' ⟨rfl, rfl⟩)
    go_ret
    exact ⟨ret_bool HS.out.symm, rfl⟩
  · have h5 := okSz_yes hs
    have HO := Lib.hid hs
    clear hs
    by_cases hn : 0 ≤ n
    · obtain ⟨m, rfl⟩ := Int.eq_ofNat_of_zero_le hn
      obtain ⟨t, rfl⟩ := Int.eq_ofNat_of_zero_le (show 0 ≤ s by omega)
      have hg := great_le t (by omega)
      by_cases hle : m ≤ great t
      · have HS := Lib.hid (show fitsB (m : Int) (t : Int) = true by rw [fitsB_nat _ _ (by omega) (by omega)]; simpa using hle)
        go_enter Try.func28, Try.ntmps28
        go_wp2_with (first | (go_at_call 34; refine (allowed_is _ true _ HO.out h3 h4).mono ?_; rintro e w' ⟨rfl, rfl⟩) | (go_at_call 35; refine (greatest_any t _ (by omega) (by omega)).mono ?_; rintro e w' ⟨rfl, rfl⟩))
        go_ret
        exact ⟨ret_bool HS.out.symm, rfl⟩
      · have HS := Lib.hid (show fitsB (m : Int) (t : Int) = false by rw [fitsB_nat _ _ (by omega) (by omega)]; simpa using hle)
        have hle' : great t < m := by omega
        go_enter Try.func28, Try.ntmps28
        go_wp2_with (first | (go_at_call 34; refine (allowed_is _ true _ HO.out h3 h4).mono ?_; rintro e w' ⟨rfl, rfl⟩) | (go_at_call 35; refine (greatest_any t _ (by omega) (by omega)).mono ?_; rintro e w' ⟨rfl, rfl⟩))
        go_ret
        exact ⟨ret_bool HS.out.symm, rfl⟩
    · have HS := Lib.hid (fitsB_neg (s := s) (show n < 0 by omega))
      have hn' : n < 0 := by omega
      go_enter Try.func28, Try.ntmps28
      go_wp2_with (go_at_call 34; refine (allowed_is s true _ HO.out h3 h4).mono ?_; rintro e w' ⟨rfl, rfl⟩)
      go_ret
      exact ⟨ret_bool HS.out.symm, rfl⟩

set_option maxHeartbeats 400000 in
theorem Size_yes (A : Option Addr) (n c : Nat) (l : List Int) (w : World) (hr : R64 w A n l) (h : okL l = true) :
    Calls Try.prog 27 #[.slice A n c] w fun e w' => e = .returned (.tuple #[.int .i64 (sumI l : Int), .bool true]) ∧ w = w' := by
  have hlen := Lib.hid hr.len
  have hn : n ≤ 64 := by have := okL_len h; have := hr.len; omega
  have HO := Lib.hid h
  clear h
  have hd : decide ((64 : Int) < (n : Int)) = false := decide_eq_false (by omega)
  go_enter Try.func27, Try.ntmps27
  go_wp2
  go_loop [4, 12] (fun t i => ∃ k : Nat, k ≤ n ∧ i = .int .i64 k ∧ t = .int .i64 (sumI (l.take k) : Int)) (fun _ i => n - (intOf i).toNat)
  case atStart => exact ⟨0, Nat.zero_le _, rfl, rfl⟩
  case round =>
    obtain ⟨k, hk, rfl, rfl⟩ := hrel
    by_cases hlt : k < n
    · obtain ⟨b, off, x, rfl, hb, HX, hx1, hx2, hc⟩ := hr.at_ hlt
      have hx := okL_at HO.out HX.out
      obtain ⟨y, rfl⟩ := Int.eq_ofNat_of_zero_le (show 0 ≤ x by omega)
      have HS := Lib.hid (show sumI (l.take (k + 1)) = sumI (l.take k) + y by rw [take_snoc HX.out, sumI_snoc]; rfl)
      have hb1 : sumI (l.take k) ≤ 512 := okL_sum (okL_take HO.out k)
      have HZ := Lib.hid (okL_all HO.out _ (List.mem_of_getElem? HX.out))
      generalize sumI (l.take k) = q at *
      go_wp2_with (go_at_call 34; refine (allowed_is _ true _ HZ.out (by omega) (by omega)).mono ?_; rintro e w' ⟨rfl, rfl⟩)
      go_round
      case rel => exact ⟨k + 1, by omega, by go_num, by rw [HS.out]; go_num⟩
      case measure => simp [intOf]; omega
    · have HE := Lib.hid (show l.take k = l by rw [List.take_of_length_le (by have := hlen.out; omega)])
      go_wp2
      go_ret2
      exact ⟨by rw [HE.out]; rfl, rfl⟩

set_option maxHeartbeats 400000 in
theorem Size_no (A : Option Addr) (n c : Nat) (l : List Int) (w : World) (hr : R64 w A n l) (h : okL l = false) (hn : n ≤ 1099511627776) :
    Calls Try.prog 27 #[.slice A n c] w fun e w' => e = .returned (.tuple #[.int .i64 0, .bool false]) ∧ w = w' := by
  have hlen := Lib.hid hr.len
  have HO := Lib.hid h
  clear h
  by_cases hbig : 64 < n
  · go_enter Try.func27, Try.ntmps27
    go_wp2
    go_ret2
    exact ⟨rfl, rfl⟩
  · have hd : decide ((64 : Int) < (n : Int)) = false := decide_eq_false (by omega)
    go_enter Try.func27, Try.ntmps27
    go_wp2
    go_loop [4, 12] (fun t i => ∃ k : Nat, k ≤ n ∧ i = .int .i64 k ∧ t = .int .i64 (sumI (l.take k) : Int) ∧ Hid (∀ x ∈ l.take k, okSz x = true)) (fun _ i => n - (intOf i).toNat)
    case atStart => exact ⟨0, Nat.zero_le _, rfl, rfl, by simp [Hid]⟩
    case round =>
      obtain ⟨k, hk, rfl, rfl, HA⟩ := hrel
      by_cases hlt : k < n
      · obtain ⟨b, off, x, rfl, hb, HX, hx1, hx2, hc⟩ := hr.at_ hlt
        have hb1 : sumI (l.take k) ≤ 8 * n := by have := sumI_le _ HA.out; have h2 : (l.take k).length ≤ k := List.length_take_le _ _; omega
        cases hz : okSz x
        · have HZ := Lib.hid hz
          clear hz
          go_wp2_with (go_at_call 34; refine (allowed_is _ false _ HZ.out (by omega) (by omega)).mono ?_; rintro e w' ⟨rfl, rfl⟩)
          go_ret2
          exact ⟨rfl, rfl⟩
        · have HZ := Lib.hid hz
          have hx := okSz_yes hz
          clear hz
          obtain ⟨y, rfl⟩ := Int.eq_ofNat_of_zero_le (show 0 ≤ x by omega)
          have HS := Lib.hid (show sumI (l.take (k + 1)) = sumI (l.take k) + y by rw [take_snoc HX.out, sumI_snoc]; rfl)
          have HA2 := Lib.hid (show ∀ x ∈ l.take (k + 1), okSz x = true by
            rw [take_snoc HX.out]
            intro x hx
            rcases List.mem_append.1 hx with h | h
            · exact HA.out x h
            · simp at h; subst h; exact HZ.out)
          generalize sumI (l.take k) = q at *
          go_wp2_with (go_at_call 34; refine (allowed_is _ true _ HZ.out (by omega) (by omega)).mono ?_; rintro e w' ⟨rfl, rfl⟩)
          go_round
          case rel => exact ⟨k + 1, by omega, by go_num, by rw [HS.out]; go_num, HA2⟩
          case measure => simp [intOf]; omega
      · exfalso
        have hl := hlen.out
        have h2 := okL_mk (l := l) (by omega) (by have := HA.out; rwa [List.take_of_length_le (by omega)] at this)
        rw [HO.out] at h2
        cases h2
end Go.Proofs.Ytfioapdbibggkaa
