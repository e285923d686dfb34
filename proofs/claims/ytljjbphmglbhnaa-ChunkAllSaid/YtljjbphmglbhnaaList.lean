/-
  Contracts of the document's own Bit and List (package incunableref01), over the landed code's translation.
-/
import Derived.Test.YtljjbphmglbhnaaInfo
import Derived.Test.YtljjbphmglbhnaaMath3
namespace Go.Proofs.Ytljjbphmglbhnaa
open Go.RowKit

set_option maxHeartbeats 400000 in
theorem Bit_yes (A : Option Addr) (n c : Nat) (l : List Nat) (j : Nat) (w : World) (hr : R8 w A n l) (hj : j / 8 < n) (h1 : j ≤ 9223372036854775807) :
    Calls Try.prog 45 #[.slice A n c, .int .i64 (j : Int)] w fun e w' => e = .returned (.int .i64 (bi (getN l j))) ∧ w = w' := by
  obtain ⟨b, off, x, rfl, hb, HX, hx, hc⟩ := hr.at_ hj
  have HG := Lib.hid (getN_of l j x HX.out)
  clear hr
  go_enter Try.func45, Try.ntmps45
  go_wp2
  go_loop [5, 6] (fun v i => ∃ t : Nat, t ≤ j % 8 ∧ i = .int .i64 t ∧ v = .int .i64 (hv x t : Int)) (fun _ i => 8 - (intOf i).toNat)
  case atStart => exact ⟨0, Nat.zero_le _, rfl, by rw [hv_zero]⟩
  case round =>
    obtain ⟨t, ht, rfl, rfl⟩ := hrel
    have hl := hv_le x t
    by_cases hlt : t < j % 8
    · have HS := Lib.hid (hv_succ x t)
      go_wp2
      go_round
      case rel => exact ⟨t + 1, by omega, by go_num, by rw [HS.out]; go_num⟩
      case measure => simp [intOf]; omega
    · have HB := Lib.hid (hv_bit x t)
      go_wp2
      go_ret
      exact ⟨ret_int (by rw [HG.out, show j % 8 = t by omega, ← HB.out]; omega), rfl⟩

theorem Bit_no (A : Option Addr) (n c : Nat) (i : Int) (w : World) (h0 : -9223372036854775808 ≤ i) (h1 : i ≤ 9223372036854775807) (h : ¬ (0 ≤ i ∧ i / 8 < n)) :
    Calls Try.prog 45 #[.slice A n c, .int .i64 i] w fun e w' => e = .returned (.int .i64 (-1)) ∧ w = w' := by
  by_cases hi : i < 0
  · have hd : decide (i < 0) = true := decide_eq_true hi
    clear h
    go_enter Try.func45, Try.ntmps45
    go_wp2
    go_ret
    exact ⟨rfl, rfl⟩
  · have hd : decide (i < 0) = false := decide_eq_false hi
    have hn : (n : Int) ≤ i / 8 := by omega
    clear h
    go_enter Try.func45, Try.ntmps45
    go_wp2
    go_ret
    exact ⟨rfl, rfl⟩

/-- It returns a slice of the ints l in memory of its own, and nothing that was there has turned. -/
def OwnsI (e0 : TypeId) (l : List Int) (w : World) (e : Ending) (w' : World) : Prop :=
  ∃ A c, e = .returned (.slice A l.length c) ∧ w'.ownsRow w.heap.size e0 1 (.slice A l.length c) l.length (I64 l) ∧ Below w.heap.size w w'

set_option maxHeartbeats 400000 in
theorem List_any (A : Option Addr) (n c : Nat) (l : List Nat) (w : World) (hr : R8 w A n l) (hn : n ≤ 1099511627776) :
    Calls Try.prog 37 #[.slice A n c] w (OwnsI 3 (bis (bitsB l)) w) := by
  obtain ⟨i0, ti, tz0, tz1, tz2⟩ := info_parts info_int
  have hlen := Lib.hid hr.len
  have HR := Lib.hid hr
  clear hr
  go_enter Try.func37, Try.ntmps37
  go_wp2
  go_loopw [3, 4] (fun v i wr => ∃ k : Nat, k ≤ 8 * n ∧ i = .int .i64 k ∧ Hid (wr.ownsRow w.heap.size 3 1 v k (I64 (bis (bitsTo l k)))) ∧ Hid (Below w.heap.size w wr)) (fun _ i _ => 8 * n - (intOf i).toNat)
  case atStart => exact ⟨0, Nat.zero_le _, rfl, World.ownsRow_nil _ _ _ _, Below.refl _ _⟩
  case round =>
    obtain ⟨k, hk, rfl, HO, HB⟩ := hrel
    by_cases hlt : k < 8 * n
    · have HR2 := Lib.hid (HR.out.below HB.out)
      go_wp2_with (first | (go_at_call 45; refine (Bit_yes _ _ _ l k _ HR2.out (by omega) (by omega)).mono ?_; rintro e w' ⟨rfl, rfl⟩) | (at_builtin; refine wpList_append_own _ rfl (.tmp 12) (.tmp 16) _ rfl w.heap.size 3 i0 _ 1 8 Try.underlying54 ti tz0 tz1 tz2 rfl (by decide) _ _ _ rfl (HO.out.alloc _) ⟨wr.heap.size, 0, none⟩ 1 1 [_] rfl rfl (one_new _ _ _) ?c1 ?c2 ?c3 ?c4 ?_))
      case c1 => intro u hu; simp at hu; subst hu; rfl
      case c2 => unfold maxLen; omega
      case c3 => omega
      case c4 => have := HB.out.size; simp; omega
      · intro v' w2 hown' hgrow _
        have HO2 := Lib.hid (show w2.ownsRow w.heap.size 3 1 v' (k + 1) (I64 (bis (bitsTo l (k + 1)))) by
          rw [bitsTo_succ, bis_append, I64_append]
          exact hown')
        have HB2 := Lib.hid ((HB.out.alloc HB.out.size _).grown hgrow (by have := HB.out.size; simp; omega) (fun j hj => (HO.out.lt j hj).1))
        clear hown' hgrow
        go_wp2
        go_roundw
        case rel => exact ⟨k + 1, by omega, by go_num, HO2, HB2⟩
        case measure => simp [intOf]; omega
    · obtain ⟨A1, c1, rfl⟩ := own_form HO.out
      go_wp2
      go_ret
      have e : bitsTo l k = bitsB l := by unfold bitsTo bitsB; rw [show k = 8 * l.length by have := hlen.out; omega]
      have e2 : (bis (bitsB l)).length = k := by rw [bis_length, bitsB_length]; have := hlen.out; omega
      refine ⟨A1, c1, by rw [e2]; rfl, ?_, HB.out⟩
      rw [e2, ← e]
      exact HO.out
end Go.Proofs.Ytljjbphmglbhnaa
