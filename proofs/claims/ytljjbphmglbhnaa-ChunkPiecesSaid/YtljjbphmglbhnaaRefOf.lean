/-
  Contract of the document's own Of (package incunableref01), over the landed code's translation.
-/
import Derived.Test.YtljjbphmglbhnaaList
namespace Go.Proofs.Ytljjbphmglbhnaa
open Go.RowKit

theorem hor_step (bs : List Bool) (n t : Nat) (b : Bool) (h : bs[n + (7 - t)]? = some b) : (hor bs n (t + 1) : Int) = 2 * (hor bs n t : Int) + bi b := by
  have e : bs.getD (n + (7 - t)) false = b := by rw [List.getD_eq_getElem?_getD, h]; rfl
  rw [hor, e]
  cases b <;> simp [bi]

set_option maxHeartbeats 1000000 in
theorem Of_any (A : Option Addr) (n c : Nat) (bs : List Bool) (w : World) (hr : R64 w A n (bis bs)) (hn : n ≤ 8796093022208) :
    Calls Try.prog 38 #[.slice A n c] w (MakesB (ofTo bs (n / 8)) w) := by
  obtain ⟨i0, ti, tz0, tz1, tz2⟩ := info_parts info_u8
  have hlen := Lib.hid (show bs.length = n by have := hr.len; rwa [bis_length] at this)
  go_enter Try.func38, Try.ntmps38
  go_wp2
  go_loopw [3, 4] (fun v i wr => ∃ k : Nat, k ≤ n / 8 ∧ i = .int .i64 (8 * (k : Int)) ∧ Hid (wr.ownsRow w.heap.size 5 1 v k (U8 (ofTo bs k))) ∧ Hid (Below w.heap.size w wr)) (fun _ i _ => n - (intOf i).toNat)
  case atStart => exact ⟨0, Nat.zero_le _, rfl, World.ownsRow_nil _ _ _ _, Below.refl _ _⟩
  case round =>
    obtain ⟨k, hk, rfl, HO, HB⟩ := hrel
    by_cases hlt : k < n / 8
    · have HR2 := Lib.hid (hr.below HB.out)
      have hdec : decide (8 * (k : Int) + 8 ≤ (n : Int)) = true := decide_eq_true (by omega)
      go_wp2
      go_loop [5, 6] (fun v i => ∃ s t : Nat, Hid (t + s = 8) ∧ s ≤ 8 ∧ i = .int .i64 ((s : Int) - 1) ∧ v = .int .i64 (hor bs (8 * k) t : Int)) (fun _ i => (1 + intOf i).toNat)
      case atStart => exact ⟨8, 0, rfl, by omega, rfl, rfl⟩
      case round =>
        obtain ⟨s, t, HT, hs, rfl, rfl⟩ := hrel
        have hh := hor_lt8 bs (8 * k) t (by have := HT.out; omega)
        by_cases hs0 : 0 < s
        · obtain ⟨r, rfl⟩ : ∃ r, s = r + 1 := ⟨s - 1, by omega⟩
          rw [show (((r + 1 : Nat) : Int) - 1) = (r : Int) by omega]
          obtain ⟨b, off, x, rfl, hb, HX, _, _, hc⟩ := HR2.out.at_ (show 8 * k + r < n by omega)
          obtain ⟨v, hv, rfl⟩ : ∃ v, bs[8 * k + r]? = some v ∧ bi v = x := by
            have h := HX.out
            unfold bis at h
            rw [List.getElem?_map] at h
            rcases e : bs[8 * k + r]? with _ | v
            · rw [e] at h; cases h
            · rw [e] at h; injection h with h; exact ⟨v, rfl, h⟩
          have HS := Lib.hid (hor_step bs (8 * k) t v (by rw [show 7 - t = r by have := HT.out; omega]; exact hv))
          have hbi := bi_01 v
          clear hv HX
          have q3 : (8 * (k : Int) + (r : Int)).toNat = 8 * k + r := by omega
          go_wp2
          clear q3
          go_round
          case rel => exact ⟨r, t + 1, by have := HT.out; show t + 1 + r = 8; omega, by omega, by go_num, by rw [HS.out]⟩
          case measure => simp [intOf]; omega
        · obtain rfl : s = 0 := by omega
          have ht8 : t = 8 := by have := HT.out; omega
          subst ht8
          have q1 : IntKind.u8.wrap (hor bs (8 * k) 8 : Int) = (hor bs (8 * k) 8 : Int) := IntWalk.u8_in _ (by omega)
          go_wp2_with (at_builtin; refine wpList_append_own _ rfl (.tmp 27) (.tmp 30) _ rfl w.heap.size 5 i0 _ 1 1 Try.underlying22 ti tz0 tz1 tz2 rfl (by decide) _ _ _ rfl (HO.out.alloc _) ⟨wr.heap.size, 0, none⟩ 1 1 [_] rfl rfl (one_new _ _ _) ?c1 ?c2 ?c3 ?c4 ?_)
          case c1 => first | rfl | (intro u hu; simp at hu; subst hu; rfl)
          case c2 => unfold maxLen; omega
          case c3 => omega
          case c4 => have := HB.out.size; simp; omega
          · intro v' w2 hown' hgrow _
            have HO2 := Lib.hid (show w2.ownsRow w.heap.size 5 1 v' (k + 1) (U8 (ofTo bs (k + 1))) by
              rw [ofTo_succ, U8_append]
              exact hown')
            have HB2 := Lib.hid ((HB.out.alloc HB.out.size _).grown hgrow (by have := HB.out.size; simp; omega) (fun j hj => (HO.out.lt j hj).1))
            clear hown' hgrow q1
            go_wp2
            go_roundw
            case rel => exact ⟨k + 1, by omega, by go_num, HO2, HB2⟩
            case measure => simp [intOf]; omega
    · obtain ⟨A1, c1, rfl⟩ := own_form HO.out
      have hk8 : k = n / 8 := by omega
      go_wp2
      go_ret
      subst hk8
      refine ⟨A1, c1, by rw [ofTo_length]; rfl, ?_, HB.out⟩
      rw [ofTo_length]
      exact ⟨Rd.own HO.out, ofTo_lt bs _⟩
end Go.Proofs.Ytljjbphmglbhnaa
