/-
  Contracts of crc.Bytes, and of the document's Bytes and Sum (package incunableref02), over the landed code.
-/
import Derived.Test.YtdljlhmbjpakgaaCrcA
import Derived.Test.YtdljlhmbjpakgaaList
namespace Go.Proofs.Ytdljlhmbjpakgaa
open Go.RowKit

/-- The first k bytes of a number, and zeros. -/
def leTo (n k : Nat) : List Nat := (List.range 4).map fun i => if i < k then n / 2 ^ (8 * i) % 256 else 0
theorem leTo_four (n : Nat) : leTo n 4 = le4 n := by simp [leTo, le4, List.range_succ]
theorem leTo_succ (n k : Nat) (h : k < 4) : leTo n (k + 1) = (leTo n k).set k (n / 2 ^ (8 * k) % 256) := by
  match k, h with
  | 0, _ => simp [leTo, List.range_succ]
  | 1, _ => simp [leTo, List.range_succ]
  | 2, _ => simp [leTo, List.range_succ]
  | 3, _ => simp [leTo, List.range_succ]

/-- A row of zero bytes, as it is made. -/
theorem made8 {w : World} {base : Nat} {e : TypeId} {v : Value} {n : Nat} (h : w.ownsRow base e 1 v n (madeCells (Value.int .u8 0).cells (n * 1)).toList) : w.ownsRow base e 1 v n (U8 (List.replicate n 0)) := by
  rw [show (Value.int .u8 0).cells = #[.int .u8 0] from rfl, toList_madeCells_one, Nat.mul_one] at h
  rw [U8, List.map_replicate]
  exact h

set_option maxHeartbeats 400000 in
theorem Bytes_any (n : Nat) (w : World) (_h : n < 4294967296) :
    Calls Try.prog 10 #[.int .u32 (n : Int)] w (OwnsB 5 (le4 n) w) := by
  obtain ⟨i0, ti, tz0, tz1, tz2⟩ := info_parts info_u8
  go_enter Try.func10, Try.ntmps10
  go_wp2_with (refine wpList_make_full _ rfl _ _ _ rfl w.heap.size 5 i0 _ 1 Try.underlying22 ti tz0 tz1 .i64 .i64 4 4 4 rfl rfl rfl rfl ?c1 ?c2 ?c3 ?_)
  case c1 => rw [tz2]; omega
  case c2 => unfold maxLen; omega
  case c3 => omega
  intro w1 hown hg
  have HO := Lib.hid (show w1.ownsRow w.heap.size 5 1 (.slice (some ⟨w.heap.size, 0, none⟩) 4 4) 4 (U8 (leTo n 0)) from made8 hown)
  have HB := Lib.hid (show Below w.heap.size w w1 from (Below.refl _ _).grown hg (by simp) (by simp))
  clear hown hg
  go_wp2
  go_loopw [8] (fun i wr => ∃ k : Nat, k ≤ 4 ∧ i = .int .i64 k ∧ Hid (wr.ownsRow w.heap.size 5 1 (.slice (some ⟨w.heap.size, 0, none⟩) 4 4) 4 (U8 (leTo n k))) ∧ Hid (Below w.heap.size w wr)) (fun i _ => 4 - (intOf i).toNat)
  case atStart => exact ⟨0, Nat.zero_le _, rfl, HO, HB⟩
  case round =>
    obtain ⟨k, hk, rfl, HOr, HBr⟩ := hrel
    by_cases hlt : k < 4
    · obtain ⟨g, hg0, hg1, hg2, hcell, hfz, hst⟩ := own_at HOr.out hlt
      injection hg0 with hg0
      injection hg0 with hg0
      subst hg0
      have HST := Lib.hid hst
      clear hst
      obtain ⟨y, hy, hcell2⟩ : ∃ y, (U8 (leTo n k))[k]? = some y ∧ wr.cell? ⟨w.heap.size, k, none⟩ = some y := by
        have hl : k < (U8 (leTo n k)).length := by rw [U8_length]; simp [leTo]; omega
        exact ⟨_, List.getElem?_eq_getElem hl, by rw [hcell, List.getElem?_eq_getElem hl]⟩
      clear hcell hy
      go_wp2
      go_roundw
      case rel =>
        refine ⟨k + 1, by omega, by go_num, ?_, HBr.out.setCell (Nat.le_refl _) _⟩
        have e : ((n / 2 ^ (8 * k) % 256 : Nat) : Int) = (n : Int) / 2 ^ (k * 8) % 256 := by rw [Nat.mul_comm 8 k]; simp
        have h2 := HST.out 0 (.int .u8 ((n : Int) / 2 ^ (k * 8) % 256))
        rw [leTo_succ n k hlt, U8_set, e]
        exact h2
      case measure => simp [intOf]; omega
    · obtain rfl : k = 4 := by omega
      go_wp2
      go_ret
      refine ⟨_, _, rfl, ?_, HBr.out⟩
      rw [← leTo_four]
      exact HOr.out

theorem RefBytes_any (n : Nat) (w : World) (h : n < 4294967296) :
    Calls Try.prog 11 #[.int .u32 (n : Int)] w (MakesB (le4 n) w) := by
  go_enter Try.func11, Try.ntmps11
  go_wp2
  go_ret
  refine ⟨_, _, rfl, ⟨⟨rfl, fun _ => ⟨_, 0, rfl, by simp, fun j hj => ?_⟩⟩, le4_lt n⟩, (Below.refl _ _).alloc (Nat.le_refl _) _⟩
  have e3 : n / 16777216 % 256 = n / 16777216 := Nat.mod_eq_of_lt (by omega)
  match j, hj with
  | 0, _ => simp [U8, le4]
  | 1, _ => simp [U8, le4]
  | 2, _ => simp [U8, le4]
  | 3, _ => simp [U8, le4, e3]

set_option maxHeartbeats 400000 in
theorem RefSum_any (A : Option Addr) (n c : Nat) (l : List Nat) (w : World) (hr : R8 w A n l) (hn : n ≤ 1099511627776) :
    Calls Try.prog 8 #[.slice A n c] w (Gives (.int .u32 (sumL l : Int)) w) := by
  have hlen := Lib.hid hr.len
  have HR := Lib.hid hr
  clear hr
  go_enter Try.func8, Try.ntmps8
  go_wp2_with fail
  refine (List_any _ _ _ l _ HR.out hn).mono ?_
  rintro e w1 ⟨A1, c1, rfl, ho, hb⟩
  have HL := Lib.hid (show (bis (bitsB l)).length = 8 * n by rw [bis_length, bitsB_length, hlen.out])
  rw [HL.out] at ho ⊢
  have HRd := Lib.hid (Rd.own ho)
  have HB := Lib.hid hb
  clear ho hb
  go_wp2
  go_loop [3, 5] (fun t i => ∃ k : Nat, k ≤ 8 * n ∧ i = .int .i64 k ∧ t = .int .u32 ((((bitsB l).take k).foldl rs full : Nat) : Int)) (fun _ i => 8 * n - (intOf i).toNat)
  case atStart => exact ⟨0, Nat.zero_le _, rfl, rfl⟩
  case round =>
    obtain ⟨k, hk, rfl, rfl⟩ := hrel
    have hf := foldl_rs_lt ((bitsB l).take k) full (by decide)
    by_cases hlt : k < 8 * n
    · obtain ⟨b, off, rfl, hb, hcs⟩ := HRd.out.2 (by omega)
      have hbit := bitsB_get l k (by rw [hlen.out]; exact hlt)
      have hc : w1.cell? ⟨b, off + k, none⟩ = some (.int .i64 (bi (getN l k))) := by
        rw [hcs k hlt, I64, List.getElem?_map, bis, List.getElem?_map, hbit]; rfl
      have HT := Lib.hid (show ((bitsB l).take (k + 1)).foldl rs full = rs (((bitsB l).take k).foldl rs full) (getN l k) by
        rw [take_snoc hbit, List.foldl_append]; rfl)
      clear hcs hbit
      generalize ((bitsB l).take k).foldl rs full = q at *
      generalize getN l k = v at *
      have hv := bi_01 v
      by_cases hq : decide (q % 2 = 1) = v
      · have HE := Lib.hid (show rs q v = q / 2 by unfold rs; rw [if_pos hq])
        have e1 : ((q : Int) % 2 != bi v) = false := by
          rw [← hq]
          rcases Nat.mod_two_eq_zero_or_one q with h | h
          · rw [show ((q : Int) % 2) = 0 by omega]; simp [h, bi]
          · rw [show ((q : Int) % 2) = 1 by omega]; simp [h, bi]
        clear hq
        go_wp2
        go_round
        case rel => exact ⟨k + 1, by omega, by go_num, by rw [HT.out, HE.out]; go_num⟩
        case measure => simp [intOf]; omega
      · have HE := Lib.hid (show rs q v = q / 2 ^^^ pol by unfold rs; rw [if_neg hq])
        have e1 : ((q : Int) % 2 != bi v) = true := by
          rcases Nat.mod_two_eq_zero_or_one q with h | h
          · rw [show ((q : Int) % 2) = 0 by omega]; cases v <;> simp_all [bi]
          · rw [show ((q : Int) % 2) = 1 by omega]; cases v <;> simp_all [bi]
        have HX := Lib.hid (u32_xor_nat (q / 2) pol (by omega) (by decide))
        clear hq
        go_wp2
        go_round
        case rel => exact ⟨k + 1, by omega, by go_num, by rw [HT.out, HE.out, ← HX.out]; rfl⟩
        case measure => simp [intOf]; omega
    · have HT := Lib.hid (show ((bitsB l).take k).foldl rs full = feedL full l by
        rw [List.take_of_length_le (by rw [bitsB_length, hlen.out]; omega), feedL_bits l HR.out.2])
      go_wp2
      go_ret
      refine ⟨ret_int ?_, HB.out⟩
      rw [HT.out] at hf ⊢
      unfold sumL full at *
      omega
end Go.Proofs.Ytdljlhmbjpakgaa
