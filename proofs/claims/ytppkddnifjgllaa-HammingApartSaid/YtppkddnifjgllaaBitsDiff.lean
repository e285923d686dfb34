/-
  Contract of bits.Diff over the landed code: it returns the places at which two lists of bytes differ, rising, in memory of its own.
-/
import Derived.Test.YtppkddnifjgllaaInfo
import Derived.Test.YtppkddnifjgllaaBits8
namespace Go.Proofs.Ytppkddnifjgllaa
open Go.RowKit

set_option maxHeartbeats 1000000 in
theorem Diff_any (A B : Option Addr) (n c m d : Nat) (a b : List Nat) (w : World) (ha : R8 w A n a) (hb : R8 w B m b) (hn : n ≤ 1099511627776) (_hm : m ≤ 1099511627776) :
    Calls Try.prog 18 #[.slice A n c, .slice B m d] w (MakesI (diffL a b) w) := by
  obtain ⟨i0, ti, tz0, tz1, tz2⟩ := info_parts info_int
  have la := Lib.hid ha.len
  have lb := Lib.hid hb.len
  go_enter Try.func18, Try.ntmps18
  go_wp2
  rw [show min (n : Int) (m : Int) = ((min n m : Nat) : Int) by omega]
  have hpn : min n m ≤ n := by omega
  have hpm : min n m ≤ m := by omega
  generalize hp : min n m = p at *
  have HP := Lib.hid hp
  clear hp
  go_loopw [5, 13] (fun v i wr => ∃ k : Nat, k ≤ p ∧ i = .int .i64 k ∧ Hid (wr.ownsRow w.heap.size 3 1 v (diffTo a b k).length (I64 (diffTo a b k))) ∧ Hid (Below w.heap.size w wr)) (fun _ i _ => p - (intOf i).toNat)
  case atStart => exact ⟨0, Nat.zero_le _, rfl, World.ownsRow_nil _ _ _ _, Below.refl _ _⟩
  case round =>
    obtain ⟨k, hk, rfl, HO, HB⟩ := hrel
    by_cases hlt : k < p
    · obtain ⟨b1, o1, x, rfl, g1, HX, hx, hc1⟩ := ha.at_ (show k < n by omega)
      obtain ⟨b2, o2, y, rfl, g2, HY, hy, hc2⟩ := hb.at_ (show k < m by omega)
      have hd1 : wr.cell? ⟨b1, o1 + k, none⟩ = some (.int .u8 (x : Int)) := (HB.out.cell g1).trans hc1
      have hd2 : wr.cell? ⟨b2, o2 + k, none⟩ = some (.int .u8 (y : Int)) := (HB.out.cell g2).trans hc2
      have HC1 := Lib.hid hc1
      have HC2 := Lib.hid hc2
      clear hc1 hc2
      have HDl := diffTo_length a b k
      go_wp2
      go_quiet (fail)
      clear hd1 hd2
      go_wp2
      go_loopw [5, 7] (fun v t wr2 => ∃ z : Nat, z < 256 ∧ t = .int .u8 (z : Int) ∧ ∃ done : List Int, done.length ≤ 8 ∧ Hid (done ++ offs k z = offs k (x ^^^ y)) ∧
          Hid (wr2.ownsRow w.heap.size 3 1 v ((diffTo a b k).length + done.length) (I64 (diffTo a b k ++ done))) ∧ Hid (Below w.heap.size w wr2)) (fun _ t _ => (intOf t).toNat)
      case atStart => exact ⟨x ^^^ y, xor_lt8 x y hx hy, by rw [u8_xor_nat x y hx hy], [], by simp, by simp [Hid], by rw [List.append_nil]; exact HO, below_drewN HB.out _⟩
      case round =>
        obtain ⟨z, hz, rfl, done, hdl, HE, HOr, HBr⟩ := hrel
        by_cases hz0 : z = 0
        · subst hz0
          go_wp2
          have HF := Lib.hid (show diffTo a b (k + 1) = diffTo a b k ++ done by
            have := HE.out
            rw [offs_zero, List.append_nil] at this
            rw [diffTo_succ a b k x y HX.out HY.out, this])
          go_roundw
          case rel => exact ⟨k + 1, by omega, by go_num, by rw [HF.out, List.length_append]; exact HOr, HBr⟩
          case measure => simp [intOf]; omega
        · have hne : ((z : Int) != 0) = true := by simp; omega
          have hz1 : 1 ≤ z := by omega
          have htz := tz_le z hz
          have HZ := Lib.hid hz0
          clear hz0
          go_wp2_with (first | (go_at_call 31; refine (tz8_any _ _ (by omega) (by omega)).mono ?_; rintro e w' ⟨rfl, rfl⟩) | (at_builtin; refine wpList_append_own _ rfl (.tmp 31) (.tmp 37) _ rfl w.heap.size 3 i0 _ 1 8 Try.underlying27 ti tz0 tz1 tz2 rfl (by decide) _ _ _ rfl (HOr.out.alloc _) ⟨wr.heap.size, 0, none⟩ 1 1 [_] rfl rfl (one_new _ _ _) ?c1 ?c2 ?c3 ?c4 ?_))
          case c1 => intro u hu; simp at hu; subst hu; rfl
          case c2 => unfold maxLen; omega
          case c3 => omega
          case c4 => have := HBr.out.size; simp; omega
          · intro v' w2 hown' hgrow _
            have HZE := Lib.hid (u8_and_pred z hz HZ.out)
            have HN := Lib.hid (show (done ++ [((8 * k + Lib.trailingZeros8 z : Nat) : Int)]) ++ offs k (z &&& (z - 1)) = offs k (x ^^^ y) by
              rw [← HE.out, offs_step k z hz HZ.out]; simp)
            have hlen : (done ++ [((8 * k + Lib.trailingZeros8 z : Nat) : Int)]).length ≤ 8 := by
              have h1 := congrArg List.length HN.out
              have h2 := offs_length k (x ^^^ y)
              rw [List.length_append] at h1
              omega
            have HO2 := Lib.hid (show w2.ownsRow w.heap.size 3 1 v' ((diffTo a b k).length + (done ++ [((8 * k + Lib.trailingZeros8 z : Nat) : Int)]).length) (I64 (diffTo a b k ++ (done ++ [((8 * k + Lib.trailingZeros8 z : Nat) : Int)]))) by
              have e : ((8 * k + Lib.trailingZeros8 z : Nat) : Int) = (k : Int) * 8 + (Lib.trailingZeros8 z : Int) := by omega
              rw [e, ← List.append_assoc, I64_append, List.length_append, ← Nat.add_assoc]
              exact hown')
            have HB2 := Lib.hid ((HBr.out.alloc HBr.out.size _).grown hgrow (by have := HBr.out.size; simp; omega) (fun j hj => (HOr.out.lt j hj).1))
            clear hown' hgrow
            go_wp2
            go_roundw
            case rel => exact ⟨z &&& (z - 1), and_lt8 _ _ hz, by rw [HZE.out], _, hlen, HN, HO2, HB2⟩
            case measure =>
              simp only [intOf]
              have h1 := HZE.out
              have h2 := and_pred_lt z HZ.out
              first | (rw [h1]; omega) | (simp [intOf]; omega)
    · have HF := Lib.hid (show diffTo a b k = diffL a b by
        unfold diffL
        rw [la.out, lb.out, HP.out, show k = p by omega])
      obtain ⟨A1, c1, rfl⟩ := own_form HO.out
      go_wp2
      go_ret
      refine ⟨A1, c1, by rw [← HF.out]; rfl, ?_, HB.out⟩
      rw [← HF.out]
      exact ⟨Rd.own HO.out, fun q hq => by
        obtain ⟨i, hi, rfl, _⟩ := (mem_diffTo a b k q).1 hq
        omega⟩
end Go.Proofs.Ytppkddnifjgllaa
