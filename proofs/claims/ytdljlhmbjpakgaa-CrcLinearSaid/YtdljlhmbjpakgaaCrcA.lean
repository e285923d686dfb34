/-
  Contracts of crc.shift, crc.feed and crc.Sum, over the landed code: what each returns, and that it leaves memory as it was.
-/
import Derived.Test.YtdljlhmbjpakgaaSame
import Derived.Test.YtdljlhmbjpakgaaCrcMath
namespace Go.Proofs.Ytdljlhmbjpakgaa
open Go.RowKit

theorem shift_any (r : Nat) (w : World) (h : r < 4294967296) :
    Calls Try.prog 16 #[.int .u32 (r : Int)] w fun e w' => e = .returned (.int .u32 (sh r : Int)) ∧ w = w' := by
  have e1 : bits .and .u32 (r : Int) 1 = ((r % 2 : Nat) : Int) := by
    rw [show (1 : Int) = ((1 : Nat) : Int) from rfl, u32_and_nat r 1 h (by omega), Nat.and_one_is_mod]
  by_cases h2 : r % 2 = 0
  · have e2 : sh r = r / 2 := by unfold sh; rw [if_pos h2]
    rw [e2]; clear e2
    have e3 : (bits .and .u32 (r : Int) 1 == 0) = true := by rw [e1, h2]; rfl
    clear e1 h2
    go_enter Try.func16, Try.ntmps16
    go_wp2
    go_ret
    exact ⟨ret_int (by omega), rfl⟩
  · have e2 : sh r = r / 2 ^^^ pol := by unfold sh; rw [if_neg h2]
    rw [e2]; clear e2
    have e3 : (bits .and .u32 (r : Int) 1 == 0) = false := by rw [e1, show r % 2 = 1 by omega]; rfl
    clear e1 h2
    go_enter Try.func16, Try.ntmps16
    go_wp2
    go_ret
    exact ⟨ret_int (by rw [← u32_xor_nat (r / 2) pol (by omega) (by decide)]; rfl), rfl⟩

set_option maxHeartbeats 400000 in
theorem feed_any (r : Nat) (A : Option Addr) (n c : Nat) (l : List Nat) (w : World) (h : r < 4294967296) (hr : R8 w A n l) (hn : n ≤ 1099511627776) :
    Calls Try.prog 13 #[.int .u32 (r : Int), .slice A n c] w fun e w' => e = .returned (.int .u32 (feedL r l : Int)) ∧ w = w' := by
  have hl := Lib.hid hr.len
  go_enter Try.func13, Try.ntmps13
  go_wp2
  go_loop [0, 9] (fun t i => ∃ k : Nat, k ≤ n ∧ i = .int .i64 k ∧ t = .int .u32 (feedL r (l.take k) : Int)) (fun _ i => n - (intOf i).toNat)
  case atStart => exact ⟨0, Nat.zero_le _, rfl, rfl⟩
  case round =>
    obtain ⟨k, hk, rfl, rfl⟩ := hrel
    have hf := feedL_lt (l.take k) (fun x hx => hr.2 x (List.mem_of_mem_take hx)) r h
    by_cases hlt : k < n
    · obtain ⟨b, off, x, rfl, hb, HX, hx, hc⟩ := hr.at_ hlt
      have HS := Lib.hid (show feedL r (l.take (k + 1)) = shs 8 (feedL r (l.take k) ^^^ x) by rw [take_snoc HX.out, feedL_snoc]; rfl)
      have HXor := Lib.hid (u32_xor_nat (feedL r (l.take k)) x hf (by omega))
      have hq := xor32 hf (show x < 4294967296 by omega)
      generalize feedL r (l.take k) = q at *
      go_wp2
      go_loop [0, 17] (fun t i => ∃ j : Nat, j ≤ 8 ∧ i = .int .i64 j ∧ t = .int .u32 (shs j (q ^^^ x) : Int)) (fun _ i => 8 - (intOf i).toNat)
      case atStart => exact ⟨0, Nat.zero_le _, rfl, by rw [HXor.out]; rfl⟩
      case round =>
        obtain ⟨j, hj, rfl, rfl⟩ := hrel
        have hs := shs_lt j _ hq
        by_cases hj8 : j < 8
        · go_wp2_with (go_at_call 16; refine (shift_any _ _ hs).mono ?_; rintro e w' ⟨rfl, rfl⟩)
          go_round
          case rel => exact ⟨j + 1, by omega, by go_num, rfl⟩
          case measure => simp [intOf]; omega
        · obtain rfl : j = 8 := by omega
          go_wp2
          go_round
          case rel => exact ⟨k + 1, by omega, by go_num, by rw [HS.out]⟩
          case measure => simp [intOf]; omega
    · go_wp2
      go_ret
      exact ⟨ret_int (by rw [List.take_of_length_le (by have := hl.out; omega)]), rfl⟩

/-- The values of slices. -/
def SL (vs : List (Option Addr × Nat × Nat)) : List Value := vs.map fun v => .slice v.1 v.2.1 v.2.2

set_option maxHeartbeats 400000 in
theorem Sum_any (P : Option Addr) (m c : Nat) (vs : List (Option Addr × Nat × Nat)) (ls : List (List Nat)) (w : World) (hp : Rd w P m (SL vs)) (hm : m ≤ 1000) (hl : ls.length = vs.length)
    (hs : ∀ (j : Nat) (v : Option Addr × Nat × Nat) (l : List Nat), vs[j]? = some v → ls[j]? = some l → R8 w v.1 v.2.1 l ∧ v.2.1 ≤ 1099511627776) :
    Calls Try.prog 7 #[.slice P m c] w fun e w' => e = .returned (.int .u32 (sumL ls.flatten : Int)) ∧ w = w' := by
  have HP := Lib.hid hp
  have HS := Lib.hid hs
  have HVL := Lib.hid (show vs.length = m by have := hp.1; simpa [SL] using this)
  have HLL := Lib.hid hl
  clear hp hs hl
  go_enter Try.func7, Try.ntmps7
  go_wp2
  go_loop [3, 8] (fun t i => ∃ k : Nat, k ≤ m ∧ i = .int .i64 k ∧ t = .int .u32 (feedL full (ls.take k).flatten : Int)) (fun _ i => m - (intOf i).toNat)
  case atStart => exact ⟨0, Nat.zero_le _, rfl, rfl⟩
  case round =>
    obtain ⟨k, hk, rfl, rfl⟩ := hrel
    have hby : ∀ x ∈ (ls.take k).flatten, x < 256 := by
      intro x hx
      obtain ⟨l, hl1, hl2⟩ := List.mem_flatten.1 hx
      obtain ⟨j, hj⟩ := List.getElem?_of_mem (List.mem_of_mem_take hl1)
      have hjl : j < vs.length := by
        have := (List.getElem?_eq_some_iff.1 hj).1
        have := HLL.out
        omega
      exact (HS.out j _ l (List.getElem?_eq_getElem hjl) hj).1.2 x hl2
    have hf := feedL_lt _ hby full (by decide)
    clear hby
    by_cases hlt : k < m
    · obtain ⟨b, off, rfl, hb, hcs⟩ := HP.out.2 (by omega)
      have hkv : k < vs.length := by have := HVL.out; omega
      have hkl : k < ls.length := by have := HLL.out; omega
      obtain ⟨⟨A, n, d⟩, hv⟩ : ∃ v, vs[k]? = some v := ⟨_, List.getElem?_eq_getElem hkv⟩
      obtain ⟨l, hl⟩ : ∃ l, ls[k]? = some l := ⟨_, List.getElem?_eq_getElem hkl⟩
      obtain ⟨hr, hn⟩ := HS.out k _ l hv hl
      have hc : w.cell? ⟨b, off + k, none⟩ = some (.slice A n d) := by rw [hcs k hlt, SL, List.getElem?_map, hv]; rfl
      have HR := Lib.hid hr
      have HT := Lib.hid (show feedL full (ls.take (k + 1)).flatten = feedL (feedL full (ls.take k).flatten) l by
        rw [take_snoc hl, List.flatten_append, feedL_append]; simp)
      simp only at hn
      clear hcs hv hl hr hkv hkl
      generalize feedL full (ls.take k).flatten = q at *
      go_wp2_with (go_at_call 13; refine (feed_any _ _ _ _ l _ hf HR.out hn).mono ?_; rintro e w' ⟨rfl, rfl⟩)
      go_round
      case rel => exact ⟨k + 1, by omega, by go_num, by rw [HT.out]⟩
      case measure => simp [intOf]; omega
    · have HT := Lib.hid (show feedL full (ls.take k).flatten = feedL full ls.flatten by rw [List.take_of_length_le (by have := HVL.out; have := HLL.out; omega)])
      go_wp2
      go_ret
      refine ⟨ret_int ?_, rfl⟩
      rw [show IntKind.u32.max = ((full : Nat) : Int) from rfl, u32_xor_nat full _ (by decide) hf, Nat.xor_comm, ← inv_eq _ hf, HT.out]
      rfl
end Go.Proofs.Ytdljlhmbjpakgaa
