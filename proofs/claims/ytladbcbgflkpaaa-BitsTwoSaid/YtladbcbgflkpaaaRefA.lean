/-
  Contracts of the document's own Bit, List and Of (package incunableref01), over the landed code's translation.
-/
import Derived.Test.YtladbcbgflkpaaaBitsB
import Derived.Test.YtladbcbgflkpaaaMath3
namespace Go.Proofs.Ytladbcbgflkpaaa
open Go.RowKit

set_option maxHeartbeats 400000 in
theorem Bit_yes (A : Option Addr) (n c : Nat) (l : List Nat) (j : Nat) (w : World) (hr : R8 w A n l) (hj : j / 8 < n) (h1 : j ≤ 9223372036854775807) :
    Calls Try.prog 10 #[.slice A n c, .int .i64 (j : Int)] w fun e w' => e = .returned (.int .i64 (bi (getN l j))) ∧ w = w' := by
  obtain ⟨b, off, x, rfl, hb, HX, hx, hc⟩ := hr.at_ hj
  have HG := Lib.hid (getN_of l j x HX.out)
  clear hr
  go_enter Try.func10, Try.ntmps10
  go_wp2
  go_loop [5, 6] (fun v i => ∃ t : Nat, t ≤ j % 8 ∧ i = .int .i64 t ∧ v = .int .i64 (hv x t : Int)) (fun _ i => 8 - (intOf i).toNat)
  case atStart => exact ⟨0, Nat.zero_le _, rfl, by rw [hv_zero]⟩
  case round =>
    obtain ⟨t, ht, rfl, rfl⟩ := hrel
    have hl := hv_le x t
    by_cases hlt : t < j % 8
    · have HS := Lib.hid (hv_succ x t)
      go_wp2
      go_round
      case rel => exact ⟨t + 1, by omega, by go_num, by rw [HS.out]; go_num⟩
      case measure => simp [intOf]; omega
    · have HB := Lib.hid (hv_bit x t)
      go_wp2
      go_ret
      exact ⟨ret_int (by rw [HG.out, show j % 8 = t by omega, ← HB.out]; omega), rfl⟩

theorem Bit_no (A : Option Addr) (n c : Nat) (i : Int) (w : World) (h0 : -9223372036854775808 ≤ i) (h1 : i ≤ 9223372036854775807) (h : ¬ (0 ≤ i ∧ i / 8 < n)) :
    Calls Try.prog 10 #[.slice A n c, .int .i64 i] w fun e w' => e = .returned (.int .i64 (-1)) ∧ w = w' := by
  by_cases hi : i < 0
  · have hd : decide (i < 0) = true := decide_eq_true hi
    clear h
    go_enter Try.func10, Try.ntmps10
    go_wp2
    go_ret
    exact ⟨rfl, rfl⟩
  · have hd : decide (i < 0) = false := decide_eq_false hi
    have hn : (n : Int) ≤ i / 8 := by omega
    clear h
    go_enter Try.func10, Try.ntmps10
    go_wp2
    go_ret
    exact ⟨rfl, rfl⟩

/-- It returns a slice of the ints l in memory of its own, and nothing that was there has turned. -/
def OwnsI (e0 : TypeId) (l : List Int) (w : World) (e : Ending) (w' : World) : Prop :=
  ∃ A c, e = .returned (.slice A l.length c) ∧ w'.ownsRow w.heap.size e0 1 (.slice A l.length c) l.length (I64 l) ∧ Below w.heap.size w w'

set_option maxHeartbeats 400000 in
theorem List_any (A : Option Addr) (n c : Nat) (l : List Nat) (w : World) (hr : R8 w A n l) (hn : n ≤ 1099511627776) :
    Calls Try.prog 25 #[.slice A n c] w (OwnsI 3 (bis (bitsB l)) w) := by
  obtain ⟨i0, ti, tz0, tz1, tz2⟩ := info_parts info_int
  have hlen := Lib.hid hr.len
  have HR := Lib.hid hr
  clear hr
  go_enter Try.func25, Try.ntmps25
  go_wp2
  go_loopw [3, 4] (fun v i wr => ∃ k : Nat, k ≤ 8 * n ∧ i = .int .i64 k ∧ Hid (wr.ownsRow w.heap.size 3 1 v k (I64 (bis (bitsTo l k)))) ∧ Hid (Below w.heap.size w wr)) (fun _ i _ => 8 * n - (intOf i).toNat)
  case atStart => exact ⟨0, Nat.zero_le _, rfl, World.ownsRow_nil _ _ _ _, Below.refl _ _⟩
  case round =>
    obtain ⟨k, hk, rfl, HO, HB⟩ := hrel
    by_cases hlt : k < 8 * n
    · have HR2 := Lib.hid (HR.out.below HB.out)
      go_wp2_with (first | (go_at_call 10; refine (Bit_yes _ _ _ l k _ HR2.out (by omega) (by omega)).mono ?_; rintro e w' ⟨rfl, rfl⟩) | (at_builtin; refine wpList_append_own _ rfl (.tmp 12) (.tmp 16) _ rfl w.heap.size 3 i0 _ 1 8 Try.underlying23 ti tz0 tz1 tz2 rfl (by decide) _ _ _ rfl (HO.out.alloc _) ⟨wr.heap.size, 0, none⟩ 1 1 [_] rfl rfl (one_new _ _ _) ?c1 ?c2 ?c3 ?c4 ?_))
      case c1 => intro u hu; simp at hu; subst hu; rfl
      case c2 => unfold maxLen; omega
      case c3 => omega
      case c4 => have := HB.out.size; simp; omega
      · intro v' w2 hown' hgrow _
        have HO2 := Lib.hid (show w2.ownsRow w.heap.size 3 1 v' (k + 1) (I64 (bis (bitsTo l (k + 1)))) by
          rw [bitsTo_succ, bis_append, I64_append]
          exact hown')
        have HB2 := Lib.hid ((HB.out.alloc HB.out.size _).grown hgrow (by have := HB.out.size; simp; omega) (fun j hj => (HO.out.lt j hj).1))
        clear hown' hgrow
        go_wp2
        go_roundw
        case rel => exact ⟨k + 1, by omega, by go_num, HO2, HB2⟩
        case measure => simp [intOf]; omega
    · obtain ⟨A1, c1, rfl⟩ := own_form HO.out
      go_wp2
      go_ret
      have e : bitsTo l k = bitsB l := by unfold bitsTo bitsB; rw [show k = 8 * l.length by have := hlen.out; omega]
      have e2 : (bis (bitsB l)).length = k := by rw [bis_length, bitsB_length]; have := hlen.out; omega
      refine ⟨A1, c1, by rw [e2]; rfl, ?_, HB.out⟩
      rw [e2, ← e]
      exact HO.out

theorem hor_step (bs : List Bool) (n t : Nat) (b : Bool) (h : bs[n + (7 - t)]? = some b) : (hor bs n (t + 1) : Int) = 2 * (hor bs n t : Int) + bi b := by
  have e : bs.getD (n + (7 - t)) false = b := by rw [List.getD_eq_getElem?_getD, h]; rfl
  rw [hor, e]
  cases b <;> simp [bi]

set_option maxHeartbeats 1000000 in
theorem Of_any (A : Option Addr) (n c : Nat) (bs : List Bool) (w : World) (hr : R64 w A n (bis bs)) (hn : n ≤ 8796093022208) :
    Calls Try.prog 26 #[.slice A n c] w (MakesB (ofTo bs (n / 8)) w) := by
  obtain ⟨i0, ti, tz0, tz1, tz2⟩ := info_parts info_u8
  have hlen := Lib.hid (show bs.length = n by have := hr.len; rwa [bis_length] at this)
  go_enter Try.func26, Try.ntmps26
  go_wp2
  go_loopw [3, 4] (fun v i wr => ∃ k : Nat, k ≤ n / 8 ∧ i = .int .i64 (8 * (k : Int)) ∧ Hid (wr.ownsRow w.heap.size 5 1 v k (U8 (ofTo bs k))) ∧ Hid (Below w.heap.size w wr)) (fun _ i _ => n - (intOf i).toNat)
  case atStart => exact ⟨0, Nat.zero_le _, rfl, World.ownsRow_nil _ _ _ _, Below.refl _ _⟩
  case round =>
    obtain ⟨k, hk, rfl, HO, HB⟩ := hrel
    by_cases hlt : k < n / 8
    · have HR2 := Lib.hid (hr.below HB.out)
      have hdec : decide (8 * (k : Int) + 8 ≤ (n : Int)) = true := decide_eq_true (by omega)
      go_wp2
      go_loop [5, 6] (fun v i => ∃ s t : Nat, Hid (t + s = 8) ∧ s ≤ 8 ∧ i = .int .i64 ((s : Int) - 1) ∧ v = .int .i64 (hor bs (8 * k) t : Int)) (fun _ i => (1 + intOf i).toNat)
      case atStart => exact ⟨8, 0, rfl, by omega, rfl, rfl⟩
      case round =>
        obtain ⟨s, t, HT, hs, rfl, rfl⟩ := hrel
        have hh := hor_lt8 bs (8 * k) t (by have := HT.out; omega)
        by_cases hs0 : 0 < s
        · obtain ⟨r, rfl⟩ : ∃ r, s = r + 1 := ⟨s - 1, by omega⟩
          rw [show (((r + 1 : Nat) : Int) - 1) = (r : Int) by omega]
          obtain ⟨b, off, x, rfl, hb, HX, _, _, hc⟩ := HR2.out.at_ (show 8 * k + r < n by omega)
          obtain ⟨v, hv, rfl⟩ : ∃ v, bs[8 * k + r]? = some v ∧ bi v = x := by
            have h := HX.out
            unfold bis at h
            rw [List.getElem?_map] at h
            rcases e : bs[8 * k + r]? with _ | v
            · rw [e] at h; cases h
            · rw [e] at h; injection h with h; exact ⟨v, rfl, h⟩
          have HS := Lib.hid (hor_step bs (8 * k) t v (by rw [show 7 - t = r by have := HT.out; omega]; exact hv))
          have hbi := bi_01 v
          clear hv HX
          have q3 : (8 * (k : Int) + (r : Int)).toNat = 8 * k + r := by omega
          go_wp2
          clear q3
          go_round
          case rel => exact ⟨r, t + 1, by have := HT.out; show t + 1 + r = 8; omega, by omega, by go_num, by rw [HS.out]⟩
          case measure => simp [intOf]; omega
        · obtain rfl : s = 0 := by omega
          have ht8 : t = 8 := by have := HT.out; omega
          subst ht8
          have q1 : IntKind.u8.wrap (hor bs (8 * k) 8 : Int) = (hor bs (8 * k) 8 : Int) := IntWalk.u8_in _ (by omega)
          go_wp2_with (at_builtin; refine wpList_append_own _ rfl (.tmp 27) (.tmp 30) _ rfl w.heap.size 5 i0 _ 1 1 Try.underlying22 ti tz0 tz1 tz2 rfl (by decide) _ _ _ rfl (HO.out.alloc _) ⟨wr.heap.size, 0, none⟩ 1 1 [_] rfl rfl (one_new _ _ _) ?c1 ?c2 ?c3 ?c4 ?_)
          case c1 => first | rfl | (intro u hu; simp at hu; subst hu; rfl)
          case c2 => unfold maxLen; omega
          case c3 => omega
          case c4 => have := HB.out.size; simp; omega
          · intro v' w2 hown' hgrow _
            have HO2 := Lib.hid (show w2.ownsRow w.heap.size 5 1 v' (k + 1) (U8 (ofTo bs (k + 1))) by
              rw [ofTo_succ, U8_append]
              exact hown')
            have HB2 := Lib.hid ((HB.out.alloc HB.out.size _).grown hgrow (by have := HB.out.size; simp; omega) (fun j hj => (HO.out.lt j hj).1))
            clear hown' hgrow q1
            go_wp2
            go_roundw
            case rel => exact ⟨k + 1, by omega, by go_num, HO2, HB2⟩
            case measure => simp [intOf]; omega
    · obtain ⟨A1, c1, rfl⟩ := own_form HO.out
      have hk8 : k = n / 8 := by omega
      go_wp2
      go_ret
      subst hk8
      refine ⟨A1, c1, by rw [ofTo_length]; rfl, ?_, HB.out⟩
      rw [ofTo_length]
      exact ⟨Rd.own HO.out, ofTo_lt bs _⟩
end Go.Proofs.Ytladbcbgflkpaaa
