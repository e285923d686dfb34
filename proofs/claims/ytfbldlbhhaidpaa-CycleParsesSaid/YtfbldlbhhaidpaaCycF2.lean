/-
  Contract of cycle.faultAt, over the landed code.
-/
import Derived.Test.YtfbldlbhhaidpaaCycF
namespace Go.Proofs.Ytfbldlbhhaidpaa
open Go.RowKit
set_option maxRecDepth 100000

theorem bl_at {s : ByteArray} {k : Nat} (h : k < s.size) : (bl s)[k]? = some (s[k]'h).toNat := by
  obtain ⟨⟨l⟩⟩ := s
  have h2 : k < l.length := h
  show (l.map (·.toNat))[k]? = _
  rw [List.getElem?_map, List.getElem?_eq_getElem h2]
  rfl

set_option maxHeartbeats 1000000 in
theorem faultAt_any (s : ByteArray) (w : World) (hs : s.size ≤ 1099511627776) :
    Calls Try.prog 21 #[.string s] w fun e w' => e = .returned (.int .i64 (faultL (bl s) : Int)) ∧ w = w' := by
  have hlen := Lib.hid (bl_length s)
  go_enter Try.func21, Try.ntmps21
  go_wp2
  go_loop [6] (fun i => ∃ k : Nat, k ≤ s.size ∧ i = .int .i64 (k : Int) ∧ Hid (badAt k ((bl s).drop k) = faultL (bl s))) (fun i => s.size - (intOf i).toNat)
  case atStart => exact ⟨0, Nat.zero_le _, rfl, rfl⟩
  case round =>
    obtain ⟨k, hk, rfl, HL⟩ := hrel
    by_cases hlt : k < s.size
    · have HX := Lib.hid (bl_at hlt)
      obtain ⟨x, hx⟩ : ∃ x, (s[k]'hlt).toNat = x := ⟨_, rfl⟩
      rw [hx] at HX
      have hx2 : x < 256 := by rw [← hx]; exact (s[k]'hlt).toNat_lt
      have HD := badAt_drop HX.out
      have hm : k % 4 < 4 := by omega
      have em := Lib.hid (show (k : Int) % 4 = ((k % 4 : Nat) : Int) by omega)
      cases hf : fitB x (k % 4)
      · have HE := Lib.hid (show (k : Int) + 1 = (faultL (bl s) : Int) by
          rw [← HL.out, HD, if_neg (by rw [hf]; simp)]
          omega)
        go_wp2_with (go_at_call 27; rw [em.out]; refine (fits_any x (k % 4) _ hx2 hm).mono ?_; rintro e w' ⟨rfl, rfl⟩; rw [hf])
        go_ret
        exact ⟨ret_int HE.out, rfl⟩
      · have HL2 := Lib.hid (show badAt (k + 1) ((bl s).drop (k + 1)) = faultL (bl s) by rw [← HL.out, HD, if_pos hf])
        go_wp2_with (go_at_call 27; rw [em.out]; refine (fits_any x (k % 4) _ hx2 hm).mono ?_; rintro e w' ⟨rfl, rfl⟩; rw [hf])
        go_round
        case rel => exact ⟨k + 1, by omega, by go_num, HL2⟩
        case measure => simp [intOf]; omega
    · obtain rfl : k = s.size := by omega
      have HD := badAt_end hlen.out.symm
      by_cases h0 : s.size = 0
      · have HE := Lib.hid (show (0 : Int) = (faultL (bl s) : Int) by rw [← HL.out, HD, if_pos (.inl h0)]; rfl)
        have e0 : decide ((0 : Int) < (s.size : Int)) = false := decide_eq_false (by omega)
        go_wp2
        go_ret
        exact ⟨ret_int HE.out, rfl⟩
      · have e0 : decide ((0 : Int) < (s.size : Int)) = true := decide_eq_true (by omega)
        by_cases h3 : s.size % 4 = 3
        · have HE := Lib.hid (show (0 : Int) = (faultL (bl s) : Int) by rw [← HL.out, HD, if_pos (.inr h3)]; rfl)
          have e3 : ((s.size : Int) % 4 != 3) = false := by simp; omega
          go_wp2
          go_ret
          exact ⟨ret_int HE.out, rfl⟩
        · have HE := Lib.hid (show (s.size : Int) + 1 = (faultL (bl s) : Int) by rw [← HL.out, HD, if_neg (by omega)]; omega)
          have e3 : ((s.size : Int) % 4 != 3) = true := bne_iff_ne.2 (by omega)
          go_wp2
          go_ret
          exact ⟨ret_int HE.out, rfl⟩
end Go.Proofs.Ytfbldlbhhaidpaa
