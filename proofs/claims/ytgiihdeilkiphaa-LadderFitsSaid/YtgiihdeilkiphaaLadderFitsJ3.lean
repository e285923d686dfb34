/-
  The sizes of bytes and ints, over the landed code's translation.
-/
import Derived.Test.YtgiihdeilkiphaaChecked
import Derived.WalkKit
import Derived.WalkSpells
import Derived.WalkLawsBesides
import Derived.Deep.QuietTactic
import Derived.BigQuiet
import Derived.Laws.BitsAllLaws
import Derived.Laws.BitsLemmas
import Derived.Lib.LazyBuf
import Derived.OwnWalk
import Derived.RegionTactic
import Derived.ChangeAlike
import Derived.Laws.BytesArg
import Derived.Laws.Bits64b
import Derived.Test.YtgiihdeilkiphaaLadderFitsJ1
import Derived.Test.YtgiihdeilkiphaaLadderFitsJ2
namespace Go.Proofs.Ytgiihdeilkiphaa
open Go.RowKit

theorem info_u8 : (Try.prog.info? 5).map (fun i => (i.zero, i.size, i.bytes)) = some (some (.int .u8 0), 1, 1) := by kernel_rfl

theorem info_int : (Try.prog.info? 3).map (fun i => (i.zero, i.size, i.bytes)) = some (some (.int .i64 0), 1, 8) := by kernel_rfl
end Go.Proofs.Ytgiihdeilkiphaa

/-
  Contract of the document's Same (package incunableref01), over the landed code's translation.
-/
namespace Go.Proofs.Ytgiihdeilkiphaa
open Go.RowKit
set_option maxRecDepth 100000

theorem take_ne {α : Type} {a b : List α} {k : Nat} {x y : α} (hx : a[k]? = some x) (hy : b[k]? = some y) (h : x ≠ y) : a ≠ b := by
  rintro rfl
  rw [hx] at hy
  injection hy with e
  exact h e

set_option maxHeartbeats 400000 in
theorem Same_any (A B : Option Addr) (n c m d : Nat) (a b : List Nat) (w : World) (ha : R8 w A n a) (hb : R8 w B m b) (hn : n ≤ 1099511627776) (hm : m ≤ 1099511627776) :
    Calls Try.prog 24 #[.slice A n c, .slice B m d] w (Quiet (.bool (decide (a = b))) w) := by
  have la := Lib.hid ha.len
  have lb := Lib.hid hb.len
  by_cases hnm : n = m
  · subst hnm
    go_enter Try.func24, Try.ntmps24
    go_wp2
    go_loopw [5] (fun i wr => ∃ k : Nat, k ≤ n ∧ i = .int .i64 k ∧ Hid (a.take k = b.take k) ∧ ∃ q, wr = w.drewN q) (fun i _ => n - (intOf i).toNat)
    case atStart => exact ⟨0, Nat.zero_le _, rfl, by simp [Hid], 0, rfl⟩
    case round =>
      obtain ⟨k, hk, rfl, HE, q, rfl⟩ := hrel
      by_cases hlt : k < n
      · obtain ⟨b1, o1, x, rfl, h1, HX, hx, hc1⟩ := ha.at_ hlt
        obtain ⟨b2, o2, y, rfl, h2, HY, hy, hc2⟩ := hb.at_ hlt
        by_cases hxy : x = y
        · subst hxy
          have HT := Lib.hid (show a.take (k + 1) = b.take (k + 1) by rw [take_snoc HX.out, take_snoc HY.out, HE.out])
          go_wp2
          go_quiet (fail)
          go_wp2
          go_roundw
          case rel => exact ⟨k + 1, by omega, by go_num, HT, _, rfl⟩
          case measure => simp [intOf]; omega
        · have hne : ((x : Int) != (y : Int)) = true := by simp; omega
          have HF := Lib.hid (show decide (a = b) = false from decide_eq_false (take_ne HX.out HY.out hxy))
          go_wp2
          go_quiet (fail)
          go_wp2
          go_ret
          exact ⟨ret_bool HF.out.symm, _, World.drewN_drewN _ _ _⟩
      · go_wp2
        go_ret
        refine ⟨ret_bool (decide_eq_true ?_).symm, _, rfl⟩
        have e := HE.out
        rwa [List.take_of_length_le (by have := la.out; omega), List.take_of_length_le (by have := lb.out; omega)] at e
  · have hne : ((n : Int) != (m : Int)) = true := by simp; omega
    have hF : decide (a = b) = false := decide_eq_false (by rintro rfl; have := la.out; have := lb.out; omega)
    rw [hF]; clear hF
    go_enter Try.func24, Try.ntmps24
    go_wp2
    go_ret
    exact ⟨rfl, 0, rfl⟩
end Go.Proofs.Ytgiihdeilkiphaa

/-
  Contracts of the document's Power, xor, ones (package incunableref05), over the landed code's translation.
-/
namespace Go.Proofs.Ytgiihdeilkiphaa
open Go.RowKit
set_option maxRecDepth 100000

theorem Power_any (n : Nat) (w : World) (h : n ≤ 4611686018427387904) :
    Calls Try.prog 63 #[.int .i64 (n : Int)] w fun e w' => e = .returned (.bool (powB n)) ∧ w = w' := by
  obtain ⟨o, ho⟩ : ∃ o, powB n = o := ⟨_, rfl⟩
  have HN := Lib.hid ho
  rw [ho]
  clear ho
  go_enter Try.func63, Try.ntmps63
  go_wp2
  go_loop [0] (fun v => ∃ m : Nat, v = .int .i64 (m : Int) ∧ m ≤ 4611686018427387904 ∧ Hid (powB m = o)) (fun v => (intOf v).toNat)
  case atStart => exact ⟨n, rfl, h, HN⟩
  case round =>
    obtain ⟨m, rfl, hm, HM⟩ := hrel
    by_cases h1 : 1 < m
    · have hd : decide ((1 : Int) < (m : Int)) = true := decide_eq_true (by omega)
      by_cases h2 : m % 2 = 0
      · have h2' : (((m : Int) % 2) == 0) = true := by simp; omega
        have HE := Lib.hid ((powB_even m h1 h2).symm.trans HM.out)
        go_wp2
        go_round
        case rel => exact ⟨m / 2, by go_num, by omega, HE⟩
        case measure => simp [intOf]; omega
      · have h2' : (((m : Int) % 2) == 0) = false := by simp; omega
        have HE := Lib.hid (show o = false by
          rw [← HM.out, powB_odd m (by omega)]
          exact decide_eq_false (by omega))
        go_wp2
        go_ret
        refine ⟨ret_bool ?_, rfl⟩
        rw [HE.out]
        simp
        omega
    · have hd : decide ((1 : Int) < (m : Int)) = false := decide_eq_false (by omega)
      have HE := Lib.hid (show o = decide (m = 1) by
        rw [← HM.out]
        have h01 : m = 0 ∨ m = 1 := by omega
        rcases h01 with rfl | rfl
        · exact powB_zero
        · exact powB_odd 1 rfl)
      go_wp2
      go_ret
      refine ⟨ret_bool ?_, rfl⟩
      rw [HE.out, Bool.eq_iff_iff, beq_iff_eq, decide_eq_true_eq]
      omega

set_option maxHeartbeats 1000000 in
theorem xor_any (a b : Nat) (w : World) (ha : a < 8192) (hb : b < 8192) :
    Calls Try.prog 61 #[.int .i64 (a : Int), .int .i64 (b : Int)] w fun e w' => e = .returned (.int .i64 ((a ^^^ b : Nat) : Int)) ∧ w = w' := by
  have HX := Lib.hid (xTo_all a b 13 ha hb)
  go_enter Try.func61, Try.ntmps61
  go_wp2
  go_loop [0, 1, 5, 6, 7] (fun x y s p i => ∃ X Y S Q I : Nat, x = .int .i64 (X : Int) ∧ y = .int .i64 (Y : Int) ∧ s = .int .i64 (S : Int) ∧ p = .int .i64 (Q : Int) ∧ i = .int .i64 (I : Int) ∧ I ≤ 13 ∧ X < 8192 ∧ Y < 8192 ∧ Q ≤ 8192 ∧ S < Q ∧ Hid (X = a / 2 ^ I ∧ Y = b / 2 ^ I ∧ S = xTo a b I ∧ Q = 2 ^ I)) (fun _ _ _ _ i => 13 - (intOf i).toNat)
  case atStart => exact ⟨a, b, 0, 1, 0, rfl, rfl, rfl, rfl, rfl, by omega, ha, hb, by omega, by omega, by simp [Hid, xTo_zero]⟩
  case round =>
    obtain ⟨X, Y, S, Q, I, rfl, rfl, rfl, rfl, rfl, hI, hX, hY, hQ, hS, HV⟩ := hrel
    by_cases hlt : I < 13
    · have hq2 : Q * 2 ≤ 8192 := by
        have := HV.out.2.2.2
        rw [this, ← Nat.pow_succ]
        exact Nat.pow_le_pow_right (n := 2) (by omega) (show I + 1 ≤ 13 by omega)
      have hs : xTo a b (I + 1) = if X % 2 = Y % 2 then S else S + Q := by
        obtain ⟨e1, e2, e3, e4⟩ := HV.out
        rw [e1, e2, e3, e4]
        exact xTo_succ a b I
      have hxx : a / 2 ^ (I + 1) = X / 2 ∧ b / 2 ^ (I + 1) = Y / 2 := by
        obtain ⟨e1, e2, _, _⟩ := HV.out
        rw [e1, e2, Nat.pow_succ, Nat.div_div_eq_div_mul, Nat.div_div_eq_div_mul]
        exact ⟨rfl, rfl⟩
      have hqq : 2 ^ (I + 1) = Q * 2 := by
        rw [HV.out.2.2.2, Nat.pow_succ]
      by_cases he : X % 2 = Y % 2
      · have he' : (((X : Int) % 2) != ((Y : Int) % 2)) = false := by simp; omega
        rw [if_pos he] at hs
        have HN := Lib.hid (show X / 2 = a / 2 ^ (I + 1) ∧ Y / 2 = b / 2 ^ (I + 1) ∧ S = xTo a b (I + 1) ∧ Q * 2 = 2 ^ (I + 1) from ⟨hxx.1.symm, hxx.2.symm, hs.symm, hqq.symm⟩)
        clear hs hxx hqq he
        go_wp2
        go_round
        case rel => exact ⟨X / 2, Y / 2, S, Q * 2, I + 1, by go_num, by go_num, rfl, by go_num, by go_num, by omega, by omega, by omega, by omega, by omega, HN⟩
        case measure => simp [intOf]; omega
      · have he' : (((X : Int) % 2) != ((Y : Int) % 2)) = true := by simp; omega
        rw [if_neg he] at hs
        have HN := Lib.hid (show X / 2 = a / 2 ^ (I + 1) ∧ Y / 2 = b / 2 ^ (I + 1) ∧ S + Q = xTo a b (I + 1) ∧ Q * 2 = 2 ^ (I + 1) from ⟨hxx.1.symm, hxx.2.symm, hs.symm, hqq.symm⟩)
        clear hs hxx hqq he
        go_wp2
        go_round
        case rel => exact ⟨X / 2, Y / 2, S + Q, Q * 2, I + 1, by go_num, by go_num, by go_num, by go_num, by go_num, by omega, by omega, by omega, by omega, by omega, HN⟩
        case measure => simp [intOf]; omega
    · obtain rfl : I = 13 := by omega
      go_wp2
      go_ret
      exact ⟨ret_int (by rw [← HX.out, ← HV.out.2.2.1]), rfl⟩

theorem ones_any (n : Nat) (w : World) (h : n < 16384) :
    Calls Try.prog 62 #[.int .i64 (n : Int)] w fun e w' => e = .returned (.int .i64 (pop n : Int)) ∧ w = w' := by
  obtain ⟨p, hp⟩ : ∃ p, pop n = p := ⟨_, rfl⟩
  have HN := Lib.hid hp
  have hp14 : p ≤ 14 := hp ▸ pop_le n h
  rw [hp]
  clear hp
  go_enter Try.func62, Try.ntmps62
  go_wp2
  go_loop [0, 3] (fun v s => ∃ m c : Nat, v = .int .i64 (m : Int) ∧ s = .int .i64 (c : Int) ∧ m < 16384 ∧ c ≤ p ∧ Hid (c + pop m = p)) (fun v _ => (intOf v).toNat)
  case atStart => exact ⟨n, 0, rfl, rfl, h, by omega, by rw [Nat.zero_add]; exact HN⟩
  case round =>
    obtain ⟨m, c, rfl, rfl, hm, hc, HM⟩ := hrel
    by_cases h0 : 0 < m
    · have hs := pop_step m (by omega)
      have HE := Lib.hid (show (c + m % 2) + pop (m / 2) = p by have := HM.out; omega)
      have hc2 : c + m % 2 ≤ p := by have := HE.out; omega
      clear hs
      go_wp2
      go_round
      case rel => exact ⟨m / 2, c + m % 2, by go_num, by go_num, by omega, hc2, HE⟩
      case measure => simp [intOf]; omega
    · obtain rfl : m = 0 := by omega
      have HE := Lib.hid (show c = p by have := HM.out; rw [pop_zero] at this; omega)
      go_wp2
      go_ret
      exact ⟨ret_int (by rw [HE.out]), rfl⟩
end Go.Proofs.Ytgiihdeilkiphaa

/-
  Contracts of the document's own Bit and List (package incunableref01), over the landed code's translation.
-/
namespace Go.Proofs.Ytgiihdeilkiphaa
open Go.RowKit
set_option maxRecDepth 100000

set_option maxHeartbeats 400000 in
theorem Bit_yes (A : Option Addr) (n c : Nat) (l : List Nat) (j : Nat) (w : World) (hr : R8 w A n l) (hj : j / 8 < n) (h1 : j ≤ 9223372036854775807) :
    Calls Try.prog 59 #[.slice A n c, .int .i64 (j : Int)] w fun e w' => e = .returned (.int .i64 (bi (getN l j))) ∧ w = w' := by
  obtain ⟨b, off, x, rfl, hb, HX, hx, hc⟩ := hr.at_ hj
  have HG := Lib.hid (getN_of l j x HX.out)
  clear hr
  go_enter Try.func59, Try.ntmps59
  go_wp2
  go_loop [5, 6] (fun v i => ∃ t : Nat, t ≤ j % 8 ∧ i = .int .i64 t ∧ v = .int .i64 (hv x t : Int)) (fun _ i => 8 - (intOf i).toNat)
  case atStart => exact ⟨0, Nat.zero_le _, rfl, by rw [hv_zero]⟩
  case round =>
    obtain ⟨t, ht, rfl, rfl⟩ := hrel
    have hl := hv_le x t
    by_cases hlt : t < j % 8
    · have HS := Lib.hid (hv_succ x t)
      go_wp2
      go_round
      case rel => exact ⟨t + 1, by omega, by go_num, by rw [HS.out]; go_num⟩
      case measure => simp [intOf]; omega
    · have HB := Lib.hid (hv_bit x t)
      go_wp2
      go_ret
      exact ⟨ret_int (by rw [HG.out, show j % 8 = t by omega, ← HB.out]; omega), rfl⟩

theorem Bit_no (A : Option Addr) (n c : Nat) (i : Int) (w : World) (h0 : -9223372036854775808 ≤ i) (h1 : i ≤ 9223372036854775807) (h : ¬ (0 ≤ i ∧ i / 8 < n)) :
    Calls Try.prog 59 #[.slice A n c, .int .i64 i] w fun e w' => e = .returned (.int .i64 (-1)) ∧ w = w' := by
  by_cases hi : i < 0
  · have hd : decide (i < 0) = true := decide_eq_true hi
    clear h
    go_enter Try.func59, Try.ntmps59
    go_wp2
    go_ret
    exact ⟨rfl, rfl⟩
  · have hd : decide (i < 0) = false := decide_eq_false hi
    have hn : (n : Int) ≤ i / 8 := by omega
    clear h
    go_enter Try.func59, Try.ntmps59
    go_wp2
    go_ret
    exact ⟨rfl, rfl⟩

/-- It returns a slice of the ints l in memory of its own, and nothing that was there has turned. -/
def OwnsI (e0 : TypeId) (l : List Int) (w : World) (e : Ending) (w' : World) : Prop :=
  ∃ A c, e = .returned (.slice A l.length c) ∧ w'.ownsRow w.heap.size e0 1 (.slice A l.length c) l.length (I64 l) ∧ Below w.heap.size w w'

set_option maxHeartbeats 400000 in
theorem List_any (A : Option Addr) (n c : Nat) (l : List Nat) (w : World) (hr : R8 w A n l) (hn : n ≤ 1099511627776) :
    Calls Try.prog 43 #[.slice A n c] w (OwnsI 3 (bis (bitsB l)) w) := by
  obtain ⟨i0, ti, tz0, tz1, tz2⟩ := info_parts info_int
  have hlen := Lib.hid hr.len
  have HR := Lib.hid hr
  clear hr
  go_enter Try.func43, Try.ntmps43
  go_wp2
  go_loopw [3, 4] (fun v i wr => ∃ k : Nat, k ≤ 8 * n ∧ i = .int .i64 k ∧ Hid (wr.ownsRow w.heap.size 3 1 v k (I64 (bis (bitsTo l k)))) ∧ Hid (Below w.heap.size w wr)) (fun _ i _ => 8 * n - (intOf i).toNat)
  case atStart => exact ⟨0, Nat.zero_le _, rfl, World.ownsRow_nil _ _ _ _, Below.refl _ _⟩
  case round =>
    obtain ⟨k, hk, rfl, HO, HB⟩ := hrel
    by_cases hlt : k < 8 * n
    · have HR2 := Lib.hid (HR.out.below HB.out)
      go_wp2_with (first | (go_at_call 59; refine (Bit_yes _ _ _ l k _ HR2.out (by omega) (by omega)).mono ?_; rintro e w' ⟨rfl, rfl⟩) | (at_builtin; refine wpList_append_own _ rfl (.tmp 12) (.tmp 16) _ rfl w.heap.size 3 i0 _ 1 8 Try.underlying78 ti tz0 tz1 tz2 rfl (by decide) _ _ _ rfl (HO.out.alloc _) ⟨wr.heap.size, 0, none⟩ 1 1 [_] rfl rfl (one_new _ _ _) ?c1 ?c2 ?c3 ?c4 ?_))
      case c1 => intro u hu; simp at hu; subst hu; rfl
      case c2 => unfold maxLen; omega
      case c3 => omega
      case c4 => have := HB.out.size; simp; omega
      · intro v' w2 hown' hgrow _
        have HO2 := Lib.hid (show w2.ownsRow w.heap.size 3 1 v' (k + 1) (I64 (bis (bitsTo l (k + 1)))) by
          rw [bitsTo_succ, bis_append, I64_append]
          exact hown')
        have HB2 := Lib.hid ((HB.out.alloc HB.out.size _).grown hgrow (by have := HB.out.size; simp; omega) (fun j hj => (HO.out.lt j hj).1))
        clear hown' hgrow
        go_wp2
        go_roundw
        case rel => exact ⟨k + 1, by omega, by go_num, HO2, HB2⟩
        case measure => simp [intOf]; omega
    · obtain ⟨A1, c1, rfl⟩ := own_form HO.out
      go_wp2
      go_ret
      have e : bitsTo l k = bitsB l := by unfold bitsTo bitsB; rw [show k = 8 * l.length by have := hlen.out; omega]
      have e2 : (bis (bitsB l)).length = k := by rw [bis_length, bitsB_length]; have := hlen.out; omega
      refine ⟨A1, c1, by rw [e2]; rfl, ?_, HB.out⟩
      rw [e2, ← e]
      exact HO.out
end Go.Proofs.Ytgiihdeilkiphaa

/-
  Contracts of bits.has and bits.mask, over the landed code.
-/
namespace Go.Proofs.Ytgiihdeilkiphaa
open Go.RowKit
set_option maxRecDepth 100000

/-- Has a slice of n bytes a bit i? -/
def hasB (n : Nat) (i : Int) : Bool := decide (0 ≤ i ∧ i / 8 < n)

theorem has_any (A : Option Addr) (n c : Nat) (i : Int) (w : World) (h0 : -9223372036854775808 ≤ i) (h1 : i ≤ 9223372036854775807) :
    Calls Try.prog 87 #[.slice A n c, .int .i64 i] w fun e w' => e = .returned (.bool (hasB n i)) ∧ w = w' := by
  by_cases hi : 0 ≤ i
  · by_cases hn : i / 8 < n
    · have e : hasB n i = true := by unfold hasB; exact decide_eq_true ⟨hi, hn⟩
      rw [e]; clear e
      go_enter Try.func87, Try.ntmps87
      go_wp2
      go_ret
      exact ⟨rfl, rfl⟩
    · have e : hasB n i = false := by unfold hasB; exact decide_eq_false (fun h => hn h.2)
      rw [e]; clear e
      go_enter Try.func87, Try.ntmps87
      go_wp2
      go_ret
      exact ⟨rfl, rfl⟩
  · have e : hasB n i = false := by unfold hasB; exact decide_eq_false (fun h => hi h.1)
    rw [e]; clear e
    have hd : decide (0 ≤ i) = false := decide_eq_false hi
    go_enter Try.func87, Try.ntmps87
    go_wp2
    go_ret
    exact ⟨rfl, rfl⟩

theorem mask_any (i : Int) (w : World) (h0 : 0 ≤ i) (h1 : i ≤ 9223372036854775807) :
    Calls Try.prog 88 #[.int .i64 i] w fun e w' => e = .returned (.int .u8 (mk8 i.toNat : Int)) ∧ w = w' := by
  go_enter Try.func88, Try.ntmps88
  go_wp2
  go_ret
  refine ⟨ret_int ?_, rfl⟩
  have e : (i % 8).toNat = i.toNat % 8 := by omega
  have h8 := mk8_lt i.toNat
  have c : ((2 : Int) ^ (i.toNat % 8)) = (mk8 i.toNat : Int) := by simp [mk8]
  rw [e, c, Int.emod_eq_of_lt (by omega) (by omega)]

theorem has_yes (A : Option Addr) (n c : Nat) (i : Int) (w : World) (h1 : i ≤ 9223372036854775807) (h : 0 ≤ i) (hn : i / 8 < n) :
    Calls Try.prog 87 #[.slice A n c, .int .i64 i] w fun e w' => e = .returned (.bool true) ∧ w = w' := by
  have e : hasB n i = true := by unfold hasB; exact decide_eq_true ⟨h, hn⟩
  have := has_any A n c i w (by omega) h1
  rwa [e] at this

theorem has_no (A : Option Addr) (n c : Nat) (i : Int) (w : World) (h0 : -9223372036854775808 ≤ i) (h1 : i ≤ 9223372036854775807) (h : ¬ (0 ≤ i ∧ i / 8 < n)) :
    Calls Try.prog 87 #[.slice A n c, .int .i64 i] w fun e w' => e = .returned (.bool false) ∧ w = w' := by
  have e : hasB n i = false := by unfold hasB; exact decide_eq_false h
  have := has_any A n c i w h0 h1
  rwa [e] at this

theorem qleft {P : Program} {f : FuncId} {args : Array Value} {w : World} {n : Nat} {v : Value}
    (h : Calls P f args (w.drewN n) fun e w' => e = .returned v ∧ w.drewN n = w') : Calls P f args (w.drewN n) fun e w'' => e = .returned v ∧ ∃ m, w'' = w.drewN m :=
  h.mono fun _ _ ⟨he, hm⟩ => ⟨he, n, hm.symm⟩
end Go.Proofs.Ytgiihdeilkiphaa

/-
  Contract of slices.Clone of bytes, over the landed code's translation.
-/
namespace Go.Proofs.Ytgiihdeilkiphaa
open Go.RowKit
set_option maxRecDepth 100000

set_option maxHeartbeats 400000 in
theorem Clone_any (A : Option Addr) (n c : Nat) (l : List Nat) (w : World) (hr : R8 w A n l) (hn : n ≤ 1099511627776) :
    Calls Try.prog 74 #[.slice A n c] w (OwnsB 5 l w) := by
  obtain ⟨i0, hi, hz0, hz1, hz2⟩ := info_parts info_u8
  have hnil := fun w => Lib.run_eql_slice_nil (P := Try.prog) w 27 5 A n c 0 0 Try.underlying27
  have hlen := Lib.hid hr.len
  rcases A with _ | ad
  · have h0 : n = 0 := by
      rcases Nat.eq_zero_or_pos n with h | h
      · exact h
      · obtain ⟨b, off, e, _⟩ := hr.1.2 h; cases e
    have hl : l = [] := List.eq_nil_of_length_eq_zero (by have := hr.len; omega)
    subst hl
    clear hr h0
    go_enter Try.func74, Try.ntmps74
    go_wp2
    go_ret
    exact ⟨none, 0, rfl, World.ownsRow_nil _ _ _ _, Below.refl _ _⟩
  · have hnew : ∀ j u, (U8 l)[j]? = some u → (w.alloc (.cells #[] 5)).cell? (ad.add j) = some u := by
      intro j u hu
      rcases Nat.eq_zero_or_pos n with h | h
      · have hl : l = [] := List.eq_nil_of_length_eq_zero (by have := hr.len; omega)
        subst hl
        simp [U8] at hu
      · obtain ⟨b, off, e, hb, hc⟩ := (hr.1.alloc (.cells #[] 5)).2 h
        injection e with e
        subst e
        exact Rd.news hc hr.1.1 j u hu
    have HN := Lib.hid hnew
    clear hnew hr
    go_enter Try.func74, Try.ntmps74
    go_wp2_with (at_builtin; refine wpList_append_own _ rfl (.tmp 5) (.tmp 6) _ rfl w.heap.size 5 i0 _ 1 1 Try.underlying27 hi hz0 hz1 hz2 rfl (by decide) (.slice (some ⟨w.heap.size, 0, none⟩) 0 0) 0 [] rfl (World.ownsRow_made w #[] 0 (Nat.le_refl _) (by simp only [maxLen]; omega) rfl) ad n c (U8 l) rfl ?c1 HN.out (U8_one l) ?c2 ?c3 ?c4 ?_)
    case c1 => rw [U8_length]; have := hlen.out; omega
    case c2 => unfold maxLen; omega
    case c3 => omega
    case c4 => simp
    · intro v' w1 hown hg _
      obtain ⟨A', c', rfl⟩ := own_form hown
      have HO := Lib.hid hown
      have HG := Lib.hid hg
      clear hown hg
      go_wp2
      go_ret
      have e := hlen.out
      refine ⟨A', c', by rw [e]; simp, ?_, ?_⟩
      · have := HO.out
        rw [e]
        simpa using this
      · exact ((Below.refl _ _).alloc (Nat.le_refl _) _).grown HG.out (by simp) (by simp [Value.ownBlock])
end Go.Proofs.Ytgiihdeilkiphaa

/-
  Contract of the document's own Of (package incunableref01), over the landed code's translation.
-/
namespace Go.Proofs.Ytgiihdeilkiphaa
open Go.RowKit
set_option maxRecDepth 100000

theorem hor_step (bs : List Bool) (n t : Nat) (b : Bool) (h : bs[n + (7 - t)]? = some b) : (hor bs n (t + 1) : Int) = 2 * (hor bs n t : Int) + bi b := by
  have e : bs.getD (n + (7 - t)) false = b := by rw [List.getD_eq_getElem?_getD, h]; rfl
  rw [hor, e]
  cases b <;> simp [bi]

set_option maxHeartbeats 1000000 in
theorem Of_owns (A : Option Addr) (n c : Nat) (bs : List Bool) (w : World) (hr : R64 w A n (bis bs)) (hn : n ≤ 8796093022208) :
    Calls Try.prog 65 #[.slice A n c] w (OwnsB 5 (ofTo bs (n / 8)) w) := by
  obtain ⟨i0, ti, tz0, tz1, tz2⟩ := info_parts info_u8
  have hlen := Lib.hid (show bs.length = n by have := hr.len; rwa [bis_length] at this)
  go_enter Try.func65, Try.ntmps65
  go_wp2
  go_loopw [3, 4] (fun v i wr => ∃ k : Nat, k ≤ n / 8 ∧ i = .int .i64 (8 * (k : Int)) ∧ Hid (wr.ownsRow w.heap.size 5 1 v k (U8 (ofTo bs k))) ∧ Hid (Below w.heap.size w wr)) (fun _ i _ => n - (intOf i).toNat)
  case atStart => exact ⟨0, Nat.zero_le _, rfl, World.ownsRow_nil _ _ _ _, Below.refl _ _⟩
  case round =>
    obtain ⟨k, hk, rfl, HO, HB⟩ := hrel
    by_cases hlt : k < n / 8
    · have HR2 := Lib.hid (hr.below HB.out)
      have hdec : decide (8 * (k : Int) + 8 ≤ (n : Int)) = true := decide_eq_true (by omega)
      go_wp2
      go_loop [5, 6] (fun v i => ∃ s t : Nat, Hid (t + s = 8) ∧ s ≤ 8 ∧ i = .int .i64 ((s : Int) - 1) ∧ v = .int .i64 (hor bs (8 * k) t : Int)) (fun _ i => (1 + intOf i).toNat)
      case atStart => exact ⟨8, 0, rfl, by omega, rfl, rfl⟩
      case round =>
        obtain ⟨s, t, HT, hs, rfl, rfl⟩ := hrel
        have hh := hor_lt8 bs (8 * k) t (by have := HT.out; omega)
        by_cases hs0 : 0 < s
        · obtain ⟨r, rfl⟩ : ∃ r, s = r + 1 := ⟨s - 1, by omega⟩
          rw [show (((r + 1 : Nat) : Int) - 1) = (r : Int) by omega]
          obtain ⟨b, off, x, rfl, hb, HX, _, _, hc⟩ := HR2.out.at_ (show 8 * k + r < n by omega)
          obtain ⟨v, hv, rfl⟩ : ∃ v, bs[8 * k + r]? = some v ∧ bi v = x := by
            have h := HX.out
            unfold bis at h
            rw [List.getElem?_map] at h
            rcases e : bs[8 * k + r]? with _ | v
            · rw [e] at h; cases h
            · rw [e] at h; injection h with h; exact ⟨v, rfl, h⟩
          have HS := Lib.hid (hor_step bs (8 * k) t v (by rw [show 7 - t = r by have := HT.out; omega]; exact hv))
          have hbi := bi_01 v
          clear hv HX
          have q3 : (8 * (k : Int) + (r : Int)).toNat = 8 * k + r := by omega
          go_wp2
          clear q3
          go_round
          case rel => exact ⟨r, t + 1, by have := HT.out; show t + 1 + r = 8; omega, by omega, by go_num, by rw [HS.out]⟩
          case measure => simp [intOf]; omega
        · obtain rfl : s = 0 := by omega
          have ht8 : t = 8 := by have := HT.out; omega
          subst ht8
          have q1 : IntKind.u8.wrap (hor bs (8 * k) 8 : Int) = (hor bs (8 * k) 8 : Int) := IntWalk.u8_in _ (by omega)
          go_wp2_with (at_builtin; refine wpList_append_own _ rfl (.tmp 27) (.tmp 30) _ rfl w.heap.size 5 i0 _ 1 1 Try.underlying27 ti tz0 tz1 tz2 rfl (by decide) _ _ _ rfl (HO.out.alloc _) ⟨wr.heap.size, 0, none⟩ 1 1 [_] rfl rfl (one_new _ _ _) ?c1 ?c2 ?c3 ?c4 ?_)
          case c1 => first | rfl | (intro u hu; simp at hu; subst hu; rfl)
          case c2 => unfold maxLen; omega
          case c3 => omega
          case c4 => have := HB.out.size; simp; omega
          · intro v' w2 hown' hgrow _
            have HO2 := Lib.hid (show w2.ownsRow w.heap.size 5 1 v' (k + 1) (U8 (ofTo bs (k + 1))) by
              rw [ofTo_succ, U8_append]
              exact hown')
            have HB2 := Lib.hid ((HB.out.alloc HB.out.size _).grown hgrow (by have := HB.out.size; simp; omega) (fun j hj => (HO.out.lt j hj).1))
            clear hown' hgrow q1
            go_wp2
            go_roundw
            case rel => exact ⟨k + 1, by omega, by go_num, HO2, HB2⟩
            case measure => simp [intOf]; omega
    · obtain ⟨A1, c1, rfl⟩ := own_form HO.out
      have hk8 : k = n / 8 := by omega
      go_wp2
      go_ret
      subst hk8
      refine ⟨A1, c1, by rw [ofTo_length]; rfl, ?_, HB.out⟩
      rw [ofTo_length]
      exact HO.out
theorem Of_any (A : Option Addr) (n c : Nat) (bs : List Bool) (w : World) (hr : R64 w A n (bis bs)) (hn : n ≤ 8796093022208) :
    Calls Try.prog 65 #[.slice A n c] w (MakesB (ofTo bs (n / 8)) w) := (Of_owns A n c bs w hr hn).mono fun _ _ ⟨A, c, he, ho, hb⟩ => ⟨A, c, he, ⟨Rd.own ho, ofTo_lt bs _⟩, hb⟩
theorem own_down {w : World} {base base' : Nat} {e : TypeId} {k : Nat} {v : Value} {n : Nat} {xs : List Value} (h : w.ownsRow base e k v n xs) (hb : base' ≤ base) : w.ownsRow base' e k v n xs := by
  refine ⟨h.1, ?_⟩
  rcases h.2 with h0 | ⟨g, cap, cur, hv, hbase, hr⟩
  · exact .inl h0
  · exact .inr ⟨g, cap, cur, hv, Nat.le_trans hb hbase, hr⟩
end Go.Proofs.Ytgiihdeilkiphaa

/-
  Contracts of crc.shift, crc.feed and crc.Sum, over the landed code: what each returns, and that it leaves memory as it was.
-/
namespace Go.Proofs.Ytgiihdeilkiphaa
open Go.RowKit
set_option maxRecDepth 100000

theorem shift_any (r : Nat) (w : World) (h : r < 4294967296) :
    Calls Try.prog 89 #[.int .u32 (r : Int)] w fun e w' => e = .returned (.int .u32 (sh r : Int)) ∧ w = w' := by
  have e1 : bits .and .u32 (r : Int) 1 = ((r % 2 : Nat) : Int) := by
    rw [show (1 : Int) = ((1 : Nat) : Int) from rfl, u32_and_nat r 1 h (by omega), Nat.and_one_is_mod]
  by_cases h2 : r % 2 = 0
  · have e2 : sh r = r / 2 := by unfold sh; rw [if_pos h2]
    rw [e2]; clear e2
    have e3 : (bits .and .u32 (r : Int) 1 == 0) = true := by rw [e1, h2]; rfl
    clear e1 h2
    go_enter Try.func89, Try.ntmps89
    go_wp2
    go_ret
    exact ⟨ret_int (by omega), rfl⟩
  · have e2 : sh r = r / 2 ^^^ pol := by unfold sh; rw [if_neg h2]
    rw [e2]; clear e2
    have e3 : (bits .and .u32 (r : Int) 1 == 0) = false := by rw [e1, show r % 2 = 1 by omega]; rfl
    clear e1 h2
    go_enter Try.func89, Try.ntmps89
    go_wp2
    go_ret
    exact ⟨ret_int (by rw [← u32_xor_nat (r / 2) pol (by omega) (by decide)]; rfl), rfl⟩

set_option maxHeartbeats 400000 in
theorem feed_any (r : Nat) (A : Option Addr) (n c : Nat) (l : List Nat) (w : World) (h : r < 4294967296) (hr : R8 w A n l) (hn : n ≤ 1099511627776) :
    Calls Try.prog 76 #[.int .u32 (r : Int), .slice A n c] w fun e w' => e = .returned (.int .u32 (feedL r l : Int)) ∧ w = w' := by
  have hl := Lib.hid hr.len
  go_enter Try.func76, Try.ntmps76
  go_wp2
  go_loop [0, 9] (fun t i => ∃ k : Nat, k ≤ n ∧ i = .int .i64 k ∧ t = .int .u32 (feedL r (l.take k) : Int)) (fun _ i => n - (intOf i).toNat)
  case atStart => exact ⟨0, Nat.zero_le _, rfl, rfl⟩
  case round =>
    obtain ⟨k, hk, rfl, rfl⟩ := hrel
    have hf := feedL_lt (l.take k) (fun x hx => hr.2 x (List.mem_of_mem_take hx)) r h
    by_cases hlt : k < n
    · obtain ⟨b, off, x, rfl, hb, HX, hx, hc⟩ := hr.at_ hlt
      have HS := Lib.hid (show feedL r (l.take (k + 1)) = shs 8 (feedL r (l.take k) ^^^ x) by rw [take_snoc HX.out, feedL_snoc]; rfl)
      have HXor := Lib.hid (u32_xor_nat (feedL r (l.take k)) x hf (by omega))
      have hq := xor32 hf (show x < 4294967296 by omega)
      generalize feedL r (l.take k) = q at *
      go_wp2
      go_loop [0, 17] (fun t i => ∃ j : Nat, j ≤ 8 ∧ i = .int .i64 j ∧ t = .int .u32 (shs j (q ^^^ x) : Int)) (fun _ i => 8 - (intOf i).toNat)
      case atStart => exact ⟨0, Nat.zero_le _, rfl, by rw [HXor.out]; rfl⟩
      case round =>
        obtain ⟨j, hj, rfl, rfl⟩ := hrel
        have hs := shs_lt j _ hq
        by_cases hj8 : j < 8
        · go_wp2_with (go_at_call 89; refine (shift_any _ _ hs).mono ?_; rintro e w' ⟨rfl, rfl⟩)
          go_round
          case rel => exact ⟨j + 1, by omega, by go_num, rfl⟩
          case measure => simp [intOf]; omega
        · obtain rfl : j = 8 := by omega
          go_wp2
          go_round
          case rel => exact ⟨k + 1, by omega, by go_num, by rw [HS.out]⟩
          case measure => simp [intOf]; omega
    · go_wp2
      go_ret
      exact ⟨ret_int (by rw [List.take_of_length_le (by have := hl.out; omega)]), rfl⟩

/-- The values of slices. -/
def SL (vs : List (Option Addr × Nat × Nat)) : List Value := vs.map fun v => .slice v.1 v.2.1 v.2.2

set_option maxHeartbeats 400000 in
theorem Sum_any (P : Option Addr) (m c : Nat) (vs : List (Option Addr × Nat × Nat)) (ls : List (List Nat)) (w : World) (hp : Rd w P m (SL vs)) (hm : m ≤ 1000) (hl : ls.length = vs.length)
    (hs : ∀ (j : Nat) (v : Option Addr × Nat × Nat) (l : List Nat), vs[j]? = some v → ls[j]? = some l → R8 w v.1 v.2.1 l ∧ v.2.1 ≤ 1099511627776) :
    Calls Try.prog 53 #[.slice P m c] w fun e w' => e = .returned (.int .u32 (sumL ls.flatten : Int)) ∧ w = w' := by
  have HP := Lib.hid hp
  have HS := Lib.hid hs
  have HVL := Lib.hid (show vs.length = m by have := hp.1; simpa [SL] using this)
  have HLL := Lib.hid hl
  clear hp hs hl
  go_enter Try.func53, Try.ntmps53
  go_wp2
  go_loop [3, 8] (fun t i => ∃ k : Nat, k ≤ m ∧ i = .int .i64 k ∧ t = .int .u32 (feedL full (ls.take k).flatten : Int)) (fun _ i => m - (intOf i).toNat)
  case atStart => exact ⟨0, Nat.zero_le _, rfl, rfl⟩
  case round =>
    obtain ⟨k, hk, rfl, rfl⟩ := hrel
    have hby : ∀ x ∈ (ls.take k).flatten, x < 256 := by
      intro x hx
      obtain ⟨l, hl1, hl2⟩ := List.mem_flatten.1 hx
      obtain ⟨j, hj⟩ := List.getElem?_of_mem (List.mem_of_mem_take hl1)
      have hjl : j < vs.length := by
        have := (List.getElem?_eq_some_iff.1 hj).1
        have := HLL.out
        omega
      exact (HS.out j _ l (List.getElem?_eq_getElem hjl) hj).1.2 x hl2
    have hf := feedL_lt _ hby full (by decide)
    clear hby
    by_cases hlt : k < m
    · obtain ⟨b, off, rfl, hb, hcs⟩ := HP.out.2 (by omega)
      have hkv : k < vs.length := by have := HVL.out; omega
      have hkl : k < ls.length := by have := HLL.out; omega
      obtain ⟨⟨A, n, d⟩, hv⟩ : ∃ v, vs[k]? = some v := ⟨_, List.getElem?_eq_getElem hkv⟩
      obtain ⟨l, hl⟩ : ∃ l, ls[k]? = some l := ⟨_, List.getElem?_eq_getElem hkl⟩
      obtain ⟨hr, hn⟩ := HS.out k _ l hv hl
      have hc : w.cell? ⟨b, off + k, none⟩ = some (.slice A n d) := by rw [hcs k hlt, SL, List.getElem?_map, hv]; rfl
      have HR := Lib.hid hr
      have HT := Lib.hid (show feedL full (ls.take (k + 1)).flatten = feedL (feedL full (ls.take k).flatten) l by
        rw [take_snoc hl, List.flatten_append, feedL_append]; simp)
      simp only at hn
      clear hcs hv hl hr hkv hkl
      generalize feedL full (ls.take k).flatten = q at *
      go_wp2_with (go_at_call 76; refine (feed_any _ _ _ _ l _ hf HR.out hn).mono ?_; rintro e w' ⟨rfl, rfl⟩)
      go_round
      case rel => exact ⟨k + 1, by omega, by go_num, by rw [HT.out]⟩
      case measure => simp [intOf]; omega
    · have HT := Lib.hid (show feedL full (ls.take k).flatten = feedL full ls.flatten by rw [List.take_of_length_le (by have := HVL.out; have := HLL.out; omega)])
      go_wp2
      go_ret
      refine ⟨ret_int ?_, rfl⟩
      rw [show IntKind.u32.max = ((full : Nat) : Int) from rfl, u32_xor_nat full _ (by decide) hf, Nat.xor_comm, ← inv_eq _ hf, HT.out]
      rfl
end Go.Proofs.Ytgiihdeilkiphaa

/-
  Contracts of crc.Bytes, and of the document's Bytes and Sum (package incunableref02), over the landed code.
-/
namespace Go.Proofs.Ytgiihdeilkiphaa
open Go.RowKit
set_option maxRecDepth 100000

/-- The first k bytes of a number, and zeros. -/
def leTo (n k : Nat) : List Nat := (List.range 4).map fun i => if i < k then n / 2 ^ (8 * i) % 256 else 0
theorem leTo_four (n : Nat) : leTo n 4 = le4 n := by simp [leTo, le4, List.range_succ]
theorem leTo_succ (n k : Nat) (h : k < 4) : leTo n (k + 1) = (leTo n k).set k (n / 2 ^ (8 * k) % 256) := by
  match k, h with
  | 0, _ => simp [leTo, List.range_succ]
  | 1, _ => simp [leTo, List.range_succ]
  | 2, _ => simp [leTo, List.range_succ]
  | 3, _ => simp [leTo, List.range_succ]

/-- A row of zero bytes, as it is made. -/
theorem made8 {w : World} {base : Nat} {e : TypeId} {v : Value} {n : Nat} (h : w.ownsRow base e 1 v n (madeCells (Value.int .u8 0).cells (n * 1)).toList) : w.ownsRow base e 1 v n (U8 (List.replicate n 0)) := by
  rw [show (Value.int .u8 0).cells = #[.int .u8 0] from rfl, toList_madeCells_one, Nat.mul_one] at h
  rw [U8, List.map_replicate]
  exact h

set_option maxHeartbeats 400000 in
theorem Bytes_any (n : Nat) (w : World) (_h : n < 4294967296) :
    Calls Try.prog 52 #[.int .u32 (n : Int)] w (OwnsB 5 (le4 n) w) := by
  obtain ⟨i0, ti, tz0, tz1, tz2⟩ := info_parts info_u8
  go_enter Try.func52, Try.ntmps52
  go_wp2_with (refine wpList_make_full _ rfl _ _ _ rfl w.heap.size 5 i0 _ 1 Try.underlying27 ti tz0 tz1 .i64 .i64 4 4 4 rfl rfl rfl rfl ?c1 ?c2 ?c3 ?_)
  case c1 => rw [tz2]; omega
  case c2 => unfold maxLen; omega
  case c3 => omega
  intro w1 hown hg
  have HO := Lib.hid (show w1.ownsRow w.heap.size 5 1 (.slice (some ⟨w.heap.size, 0, none⟩) 4 4) 4 (U8 (leTo n 0)) from made8 hown)
  have HB := Lib.hid (show Below w.heap.size w w1 from (Below.refl _ _).grown hg (by simp) (by simp))
  clear hown hg
  go_wp2
  go_loopw [8] (fun i wr => ∃ k : Nat, k ≤ 4 ∧ i = .int .i64 k ∧ Hid (wr.ownsRow w.heap.size 5 1 (.slice (some ⟨w.heap.size, 0, none⟩) 4 4) 4 (U8 (leTo n k))) ∧ Hid (Below w.heap.size w wr)) (fun i _ => 4 - (intOf i).toNat)
  case atStart => exact ⟨0, Nat.zero_le _, rfl, HO, HB⟩
  case round =>
    obtain ⟨k, hk, rfl, HOr, HBr⟩ := hrel
    by_cases hlt : k < 4
    · obtain ⟨g, hg0, hg1, hg2, hcell, hfz, hst⟩ := own_at HOr.out hlt
      injection hg0 with hg0
      injection hg0 with hg0
      subst hg0
      have HST := Lib.hid hst
      clear hst
      obtain ⟨y, hy, hcell2⟩ : ∃ y, (U8 (leTo n k))[k]? = some y ∧ wr.cell? ⟨w.heap.size, k, none⟩ = some y := by
        have hl : k < (U8 (leTo n k)).length := by rw [U8_length]; simp [leTo]; omega
        exact ⟨_, List.getElem?_eq_getElem hl, by rw [hcell, List.getElem?_eq_getElem hl]⟩
      clear hcell hy
      go_wp2
      go_roundw
      case rel =>
        refine ⟨k + 1, by omega, by go_num, ?_, HBr.out.setCell (Nat.le_refl _) _⟩
        have e : ((n / 2 ^ (8 * k) % 256 : Nat) : Int) = (n : Int) / 2 ^ (k * 8) % 256 := by rw [Nat.mul_comm 8 k]; simp
        have h2 := HST.out 0 (.int .u8 ((n : Int) / 2 ^ (k * 8) % 256))
        rw [leTo_succ n k hlt, U8_set, e]
        exact h2
      case measure => simp [intOf]; omega
    · obtain rfl : k = 4 := by omega
      go_wp2
      go_ret
      refine ⟨_, _, rfl, ?_, HBr.out⟩
      rw [← leTo_four]
      exact HOr.out

theorem RefBytes_any (n : Nat) (w : World) (h : n < 4294967296) :
    Calls Try.prog 30 #[.int .u32 (n : Int)] w (MakesB (le4 n) w) := by
  go_enter Try.func30, Try.ntmps30
  go_wp2
  go_ret
  refine ⟨_, _, rfl, ⟨⟨rfl, fun _ => ⟨_, 0, rfl, by simp, fun j hj => ?_⟩⟩, le4_lt n⟩, (Below.refl _ _).alloc (Nat.le_refl _) _⟩
  have e3 : n / 16777216 % 256 = n / 16777216 := Nat.mod_eq_of_lt (by omega)
  match j, hj with
  | 0, _ => simp [U8, le4]
  | 1, _ => simp [U8, le4]
  | 2, _ => simp [U8, le4]
  | 3, _ => simp [U8, le4, e3]

set_option maxHeartbeats 400000 in
theorem RefSum_any (A : Option Addr) (n c : Nat) (l : List Nat) (w : World) (hr : R8 w A n l) (hn : n ≤ 1099511627776) :
    Calls Try.prog 31 #[.slice A n c] w (Gives (.int .u32 (sumL l : Int)) w) := by
  have hlen := Lib.hid hr.len
  have HR := Lib.hid hr
  clear hr
  go_enter Try.func31, Try.ntmps31
  go_wp2_with fail
  refine (List_any _ _ _ l _ HR.out hn).mono ?_
  rintro e w1 ⟨A1, c1, rfl, ho, hb⟩
  have HL := Lib.hid (show (bis (bitsB l)).length = 8 * n by rw [bis_length, bitsB_length, hlen.out])
  rw [HL.out] at ho ⊢
  have HRd := Lib.hid (Rd.own ho)
  have HB := Lib.hid hb
  clear ho hb
  go_wp2
  go_loop [3, 5] (fun t i => ∃ k : Nat, k ≤ 8 * n ∧ i = .int .i64 k ∧ t = .int .u32 ((((bitsB l).take k).foldl rs full : Nat) : Int)) (fun _ i => 8 * n - (intOf i).toNat)
  case atStart => exact ⟨0, Nat.zero_le _, rfl, rfl⟩
  case round =>
    obtain ⟨k, hk, rfl, rfl⟩ := hrel
    have hf := foldl_rs_lt ((bitsB l).take k) full (by decide)
    by_cases hlt : k < 8 * n
    · obtain ⟨b, off, rfl, hb, hcs⟩ := HRd.out.2 (by omega)
      have hbit := bitsB_get l k (by rw [hlen.out]; exact hlt)
      have hc : w1.cell? ⟨b, off + k, none⟩ = some (.int .i64 (bi (getN l k))) := by
        rw [hcs k hlt, I64, List.getElem?_map, bis, List.getElem?_map, hbit]; rfl
      have HT := Lib.hid (show ((bitsB l).take (k + 1)).foldl rs full = rs (((bitsB l).take k).foldl rs full) (getN l k) by
        rw [take_snoc hbit, List.foldl_append]; rfl)
      clear hcs hbit
      generalize ((bitsB l).take k).foldl rs full = q at *
      generalize getN l k = v at *
      have hv := bi_01 v
      by_cases hq : decide (q % 2 = 1) = v
      · have HE := Lib.hid (show rs q v = q / 2 by unfold rs; rw [if_pos hq])
        have e1 : ((q : Int) % 2 != bi v) = false := by
          rw [← hq]
          rcases Nat.mod_two_eq_zero_or_one q with h | h
          · rw [show ((q : Int) % 2) = 0 by omega]; simp [h, bi]
          · rw [show ((q : Int) % 2) = 1 by omega]; simp [h, bi]
        clear hq
        go_wp2
        go_round
        case rel => exact ⟨k + 1, by omega, by go_num, by rw [HT.out, HE.out]; go_num⟩
        case measure => simp [intOf]; omega
      · have HE := Lib.hid (show rs q v = q / 2 ^^^ pol by unfold rs; rw [if_neg hq])
        have e1 : ((q : Int) % 2 != bi v) = true := by
          rcases Nat.mod_two_eq_zero_or_one q with h | h
          · rw [show ((q : Int) % 2) = 0 by omega]; cases v <;> simp_all [bi]
          · rw [show ((q : Int) % 2) = 1 by omega]; cases v <;> simp_all [bi]
        have HX := Lib.hid (u32_xor_nat (q / 2) pol (by omega) (by decide))
        clear hq
        go_wp2
        go_round
        case rel => exact ⟨k + 1, by omega, by go_num, by rw [HT.out, HE.out, ← HX.out]; rfl⟩
        case measure => simp [intOf]; omega
    · have HT := Lib.hid (show ((bitsB l).take k).foldl rs full = feedL full l by
        rw [List.take_of_length_le (by rw [bitsB_length, hlen.out]; omega), feedL_bits l HR.out.2])
      go_wp2
      go_ret
      refine ⟨ret_int ?_, HB.out⟩
      rw [HT.out] at hf ⊢
      unfold sumL full at *
      omega
end Go.Proofs.Ytgiihdeilkiphaa

/-
  Contracts of pack.allowed, greatest, Fits and Size, and of the document's Size and Fits (package incunableref03), over the landed code.
-/
namespace Go.Proofs.Ytgiihdeilkiphaa
open Go.RowKit
set_option maxRecDepth 100000

theorem allowed_is (x : Int) (b : Bool) (w : World) (h : okSz x = b) (h1 : -9223372036854775808 ≤ x) (h2 : x ≤ 9223372036854775807) :
    Calls Try.prog 90 #[.int .i64 x] w fun e w' => e = .returned (.bool b) ∧ w = w' := by
  subst h
  by_cases ha : 1 ≤ x
  · by_cases hb : x ≤ 8
    · have HS := Lib.hid (show okSz x = true by simp [okSz, ha, hb])
      go_enter Try.func90, Try.ntmps90
      go_wp2
      go_ret
      exact ⟨ret_bool HS.out.symm, rfl⟩
    · have HS := Lib.hid (show okSz x = false by simp [okSz]; omega)
      have hb' : 8 < x := by omega
      go_enter Try.func90, Try.ntmps90
      go_wp2
      go_ret
      exact ⟨ret_bool HS.out.symm, rfl⟩
  · have HS := Lib.hid (show okSz x = false by simp [okSz]; omega)
    have ha' : x < 1 := by omega
    go_enter Try.func90, Try.ntmps90
    go_wp2
    go_ret
    exact ⟨ret_bool HS.out.symm, rfl⟩

set_option maxHeartbeats 400000 in
theorem Size_yes (A : Option Addr) (n c : Nat) (l : List Int) (w : World) (hr : R64 w A n l) (h : okL l = true) :
    Calls Try.prog 77 #[.slice A n c] w fun e w' => e = .returned (.tuple #[.int .i64 (sumI l : Int), .bool true]) ∧ w = w' := by
  have hlen := Lib.hid hr.len
  have hn : n ≤ 64 := by have := okL_len h; have := hr.len; omega
  have HO := Lib.hid h
  clear h
  have hd : decide ((64 : Int) < (n : Int)) = false := decide_eq_false (by omega)
  go_enter Try.func77, Try.ntmps77
  go_wp2
  go_loop [4, 12] (fun t i => ∃ k : Nat, k ≤ n ∧ i = .int .i64 k ∧ t = .int .i64 (sumI (l.take k) : Int)) (fun _ i => n - (intOf i).toNat)
  case atStart => exact ⟨0, Nat.zero_le _, rfl, rfl⟩
  case round =>
    obtain ⟨k, hk, rfl, rfl⟩ := hrel
    by_cases hlt : k < n
    · obtain ⟨b, off, x, rfl, hb, HX, hx1, hx2, hc⟩ := hr.at_ hlt
      have hx := okL_at HO.out HX.out
      obtain ⟨y, rfl⟩ := Int.eq_ofNat_of_zero_le (show 0 ≤ x by omega)
      have HS := Lib.hid (show sumI (l.take (k + 1)) = sumI (l.take k) + y by rw [take_snoc HX.out, sumI_snoc]; rfl)
      have hb1 : sumI (l.take k) ≤ 512 := okL_sum (okL_take HO.out k)
      have HZ := Lib.hid (okL_all HO.out _ (List.mem_of_getElem? HX.out))
      generalize sumI (l.take k) = q at *
      go_wp2_with (go_at_call 90; refine (allowed_is _ true _ HZ.out (by omega) (by omega)).mono ?_; rintro e w' ⟨rfl, rfl⟩)
      go_round
      case rel => exact ⟨k + 1, by omega, by go_num, by rw [HS.out]; go_num⟩
      case measure => simp [intOf]; omega
    · have HE := Lib.hid (show l.take k = l by rw [List.take_of_length_le (by have := hlen.out; omega)])
      go_wp2
      go_ret2
      exact ⟨by rw [HE.out]; rfl, rfl⟩

set_option maxHeartbeats 400000 in
theorem Size_no (A : Option Addr) (n c : Nat) (l : List Int) (w : World) (hr : R64 w A n l) (h : okL l = false) (hn : n ≤ 1099511627776) :
    Calls Try.prog 77 #[.slice A n c] w fun e w' => e = .returned (.tuple #[.int .i64 0, .bool false]) ∧ w = w' := by
  have hlen := Lib.hid hr.len
  have HO := Lib.hid h
  clear h
  by_cases hbig : 64 < n
  · go_enter Try.func77, Try.ntmps77
    go_wp2
    go_ret2
    exact ⟨rfl, rfl⟩
  · have hd : decide ((64 : Int) < (n : Int)) = false := decide_eq_false (by omega)
    go_enter Try.func77, Try.ntmps77
    go_wp2
    go_loop [4, 12] (fun t i => ∃ k : Nat, k ≤ n ∧ i = .int .i64 k ∧ t = .int .i64 (sumI (l.take k) : Int) ∧ Hid (∀ x ∈ l.take k, okSz x = true)) (fun _ i => n - (intOf i).toNat)
    case atStart => exact ⟨0, Nat.zero_le _, rfl, rfl, by simp [Hid]⟩
    case round =>
      obtain ⟨k, hk, rfl, rfl, HA⟩ := hrel
      by_cases hlt : k < n
      · obtain ⟨b, off, x, rfl, hb, HX, hx1, hx2, hc⟩ := hr.at_ hlt
        have hb1 : sumI (l.take k) ≤ 8 * n := by have := sumI_le _ HA.out; have h2 : (l.take k).length ≤ k := List.length_take_le _ _; omega
        cases hz : okSz x
        · have HZ := Lib.hid hz
          clear hz
          go_wp2_with (go_at_call 90; refine (allowed_is _ false _ HZ.out (by omega) (by omega)).mono ?_; rintro e w' ⟨rfl, rfl⟩)
          go_ret2
          exact ⟨rfl, rfl⟩
        · have HZ := Lib.hid hz
          have hx := okSz_yes hz
          clear hz
          obtain ⟨y, rfl⟩ := Int.eq_ofNat_of_zero_le (show 0 ≤ x by omega)
          have HS := Lib.hid (show sumI (l.take (k + 1)) = sumI (l.take k) + y by rw [take_snoc HX.out, sumI_snoc]; rfl)
          have HA2 := Lib.hid (show ∀ x ∈ l.take (k + 1), okSz x = true by
            rw [take_snoc HX.out]
            intro x hx
            rcases List.mem_append.1 hx with h | h
            · exact HA.out x h
            · simp at h; subst h; exact HZ.out)
          generalize sumI (l.take k) = q at *
          go_wp2_with (go_at_call 90; refine (allowed_is _ true _ HZ.out (by omega) (by omega)).mono ?_; rintro e w' ⟨rfl, rfl⟩)
          go_round
          case rel => exact ⟨k + 1, by omega, by go_num, by rw [HS.out]; go_num, HA2⟩
          case measure => simp [intOf]; omega
      · exfalso
        have hl := hlen.out
        have h2 := okL_mk (l := l) (by omega) (by have := HA.out; rwa [List.take_of_length_le (by omega)] at this)
        rw [HO.out] at h2
        cases h2
end Go.Proofs.Ytgiihdeilkiphaa

/-
  Contracts of the document's Size and Fits (package incunableref03), over the landed code's translation.
-/
namespace Go.Proofs.Ytgiihdeilkiphaa
open Go.RowKit
set_option maxRecDepth 100000

set_option maxHeartbeats 400000 in
theorem RefSize_yes (A : Option Addr) (n c : Nat) (l : List Int) (w : World) (hr : R64 w A n l) (h : okL l = true) :
    Calls Try.prog 66 #[.slice A n c] w fun e w' => e = .returned (.tuple #[.int .i64 (sumI l : Int), .bool true]) ∧ w = w' := by
  have hlen := Lib.hid hr.len
  have hn : n ≤ 64 := by have := okL_len h; have := hr.len; omega
  have HO := Lib.hid h
  clear h
  go_enter Try.func66, Try.ntmps66
  go_wp2
  go_loop [4, 5] (fun t i => ∃ k : Nat, k ≤ n ∧ i = .int .i64 k ∧ t = .int .i64 (sumI (l.take k) : Int)) (fun _ i => n - (intOf i).toNat)
  case atStart => exact ⟨0, Nat.zero_le _, rfl, rfl⟩
  case round =>
    obtain ⟨k, hk, rfl, rfl⟩ := hrel
    by_cases hlt : k < n
    · obtain ⟨b, off, x, rfl, hb, HX, hx1, hx2, hc⟩ := hr.at_ hlt
      have hx := okL_at HO.out HX.out
      obtain ⟨y, rfl⟩ := Int.eq_ofNat_of_zero_le (show 0 ≤ x by omega)
      have HS := Lib.hid (show sumI (l.take (k + 1)) = sumI (l.take k) + y by rw [take_snoc HX.out, sumI_snoc]; rfl)
      have hb1 : sumI (l.take k) ≤ 512 := okL_sum (okL_take HO.out k)
      generalize sumI (l.take k) = q at *
      have hk64 : k < 64 := by omega
      go_wp2
      go_round
      case rel => exact ⟨k + 1, by omega, by go_num, by rw [HS.out]; go_num⟩
      case measure => simp [intOf]; omega
    · have HE := Lib.hid (show l.take k = l by rw [List.take_of_length_le (by have := hlen.out; omega)])
      go_wp2
      go_ret2
      exact ⟨by rw [HE.out]; rfl, rfl⟩

set_option maxHeartbeats 400000 in
theorem RefSize_no (A : Option Addr) (n c : Nat) (l : List Int) (w : World) (hr : R64 w A n l) (h : okL l = false) (hn : n ≤ 1099511627776) :
    Calls Try.prog 66 #[.slice A n c] w fun e w' => e = .returned (.tuple #[.int .i64 0, .bool false]) ∧ w = w' := by
  have hlen := Lib.hid hr.len
  have HO := Lib.hid h
  clear h
  go_enter Try.func66, Try.ntmps66
  go_wp2
  go_loop [4, 5] (fun t i => ∃ k : Nat, k ≤ n ∧ k ≤ 64 ∧ i = .int .i64 k ∧ t = .int .i64 (sumI (l.take k) : Int) ∧ Hid (∀ x ∈ l.take k, okSz x = true)) (fun _ i => n - (intOf i).toNat)
  case atStart => exact ⟨0, Nat.zero_le _, Nat.zero_le _, rfl, rfl, by simp [Hid]⟩
  case round =>
    obtain ⟨k, hk, hk64, rfl, rfl, HA⟩ := hrel
    by_cases hlt : k < n
    · by_cases hk2 : k = 64
      · subst hk2
        have e64 : ((64 : Nat) : Int) = 64 := rfl
        rw [e64]
        go_wp2
        go_ret2
        exact ⟨rfl, rfl⟩
      · have hk3 : k < 64 := by omega
        obtain ⟨b, off, x, rfl, hb, HX, hx1, hx2, hc⟩ := hr.at_ hlt
        have hb1 : sumI (l.take k) ≤ 8 * k := by have := sumI_le _ HA.out; have h2 : (l.take k).length ≤ k := List.length_take_le _ _; omega
        clear hk2
        cases hz : okSz x
        · have hz2 := okSz_no hz
          clear hz
          by_cases hx3 : x < 1
          · go_wp2
            go_ret2
            exact ⟨rfl, rfl⟩
          · have hx4 : 8 < x := by omega
            go_wp2
            go_ret2
            exact ⟨rfl, rfl⟩
        · have HZ := Lib.hid hz
          have hx := okSz_yes hz
          clear hz
          obtain ⟨y, rfl⟩ := Int.eq_ofNat_of_zero_le (show 0 ≤ x by omega)
          have HS := Lib.hid (show sumI (l.take (k + 1)) = sumI (l.take k) + y by rw [take_snoc HX.out, sumI_snoc]; rfl)
          have HA2 := Lib.hid (show ∀ x ∈ l.take (k + 1), okSz x = true by
            rw [take_snoc HX.out]
            intro x hx
            rcases List.mem_append.1 hx with h | h
            · exact HA.out x h
            · simp at h; subst h; exact HZ.out)
          generalize sumI (l.take k) = q at *
          go_wp2
          go_round
          case rel => exact ⟨k + 1, by omega, by omega, by go_num, by rw [HS.out]; go_num, HA2⟩
          case measure => simp [intOf]; omega
    · exfalso
      have hl := hlen.out
      have h2 := okL_mk (l := l) (by omega) (by have := HA.out; rwa [List.take_of_length_le (by omega)] at this)
      rw [HO.out] at h2
      cases h2

/-- A number without its last bytes. -/
def cutN (m k : Nat) : Nat := m / 2 ^ (8 * k)
theorem cutN_zero (m : Nat) : cutN m 0 = m := by simp [cutN]
theorem cutN_succ (m k : Nat) : cutN m (k + 1) = cutN m k / 256 := by unfold cutN; rw [Nat.div_div_eq_div_mul, show 8 * (k + 1) = 8 * k + 8 by omega, Nat.pow_add]
theorem cutN_le (m k : Nat) : cutN m k ≤ m := Nat.div_le_self _ _

end Go.Proofs.Ytgiihdeilkiphaa

/-
  Contract of bytes.Clone, over the landed code's translation.
-/
namespace Go.Proofs.Ytgiihdeilkiphaa
open Go.RowKit
set_option maxRecDepth 100000

end Go.Proofs.Ytgiihdeilkiphaa

/-
  The conversion of a slice of bytes to a string, and bytes.Equal, over the landed code's translation.
-/
namespace Go.Proofs.Ytgiihdeilkiphaa
open Go.RowKit
set_option maxRecDepth 100000

theorem str_of_nums (l : List Nat) : strOfNums (l.map fun x => ((x : Nat) : Int)) = str l := by
  unfold strOfNums str
  rw [List.map_map]
  rfl
theorem conv_str (A : Option Addr) (n c : Nat) (l : List Nat) (w : World) (h : R8 w A n l) :
    (convert 27 9 (.slice A n c)).run Try.prog w = .ok (.string (str l)) w := by
  have hd : Try.prog.underlying 9 = some .string := by kernel_rfl
  rcases Nat.eq_zero_or_pos n with h0 | h0
  · subst h0
    have hl : l = [] := List.eq_nil_of_length_eq_zero h.len
    subst hl
    rcases A with _ | ad
    · exact run_convert_bytes_nil w 27 5 Try.underlying27 Try.underlying5 0 c 9 hd
    · rw [run_convert_bytes_string w 27 9 5 (some ad) 0 c Try.underlying27 Try.underlying5 hd]
      rw [run_bytesToString w ad 0 c [] (by simpa using run_loadCells_list (P := Try.prog) w ad [] (by simp))]
      rfl
  · obtain ⟨b, off, rfl, hb, hc⟩ := h.1.2 h0
    rw [← str_of_nums]
    refine run_convert_bytes_arg w 27 5 Try.underlying27 Try.underlying5 b off n c _ (by rw [List.length_map]; exact h.len) (fun i hi => ?_) 9 hd
    have hl : i < l.length := by have := h.len; omega
    rw [hc i hi, U8, List.getElem?_map, List.getElem?_eq_getElem hl]
    simp [hl]
theorem conv_in (A : Option Addr) (n c : Nat) (l : List Nat) (w : World) (h : R8 w A n l) :
    ∀ W, Below w.heap.size w W → (convert 27 9 (.slice A n c)).run Try.prog W = .ok (.string (str l)) W :=
  fun W hb => conv_str A n c l W (h.below hb)

theorem str_inj {a b : List Nat} (ha : ∀ x ∈ a, x < 256) (hb : ∀ x ∈ b, x < 256) (h : str a = str b) : a = b := by
  have h1 : (a.map fun x => UInt8.ofNat x).map UInt8.toNat = (b.map fun x => UInt8.ofNat x).map UInt8.toNat := by
    have h2 := congrArg (fun s : ByteArray => s.data.toList.map UInt8.toNat) h
    simpa [str] using h2
  have key : ∀ l : List Nat, (∀ x ∈ l, x < 256) → (l.map fun x => UInt8.ofNat x).map UInt8.toNat = l := by
    intro l hl
    rw [List.map_map]
    conv => rhs; rw [← List.map_id l]
    refine List.map_congr_left fun x hx => ?_
    simp [Nat.mod_eq_of_lt (hl x hx)]
  rwa [key a ha, key b hb] at h1

theorem Equal_any (A B : Option Addr) (n c m d : Nat) (a b : List Nat) (w : World) (ha : R8 w A n a) (hb : R8 w B m b) :
    Calls Try.prog 36 #[.slice A n c, .slice B m d] w fun e w' => e = .returned (.bool (decide (a = b))) ∧ w = w' := by
  have h1 := conv_str A n c a w ha
  have h2 := conv_str B m d b w hb
  have HI := Lib.hid (fun h => str_inj ha.2 hb.2 h)
  clear ha hb
  go_enter Try.func36, Try.ntmps36
  go_wp2
  go_ret
  refine ⟨ret_bool ?_, rfl⟩
  rw [ByteArray.toList_eq, ByteArray.toList_eq]
  by_cases hab : a = b
  · subst hab; simp
  · rw [decide_eq_false hab]
    refine beq_eq_false_iff_ne.2 fun h => hab (HI.out ?_)
    unfold str at h ⊢
    simpa using h
end Go.Proofs.Ytgiihdeilkiphaa

/-
  Contract of math/bits.Mul of one and a number, over the landed code's translation.
-/
namespace Go.Proofs.Ytgiihdeilkiphaa
open Go.RowKit
set_option maxRecDepth 100000

theorem low32 (n : Nat) (hn : n < 4294967296) : Go.bits .and .u64 (n : Int) 4294967295 = (n : Int) := by
  have h := bits_and_u64_nat n 4294967295 (by omega) (by omega)
  rw [show n &&& 4294967295 = n % 4294967296 from Nat.and_two_pow_sub_one_eq_mod n 32, Nat.mod_eq_of_lt hn] at h
  exact h
set_option maxHeartbeats 400000 in
theorem Mul64_one (n : Nat) (w : World) (hn : n < 4294967296) :
    Calls Try.prog 81 #[.int .u64 1, .int .u64 (n : Int)] w fun e w' => e = .returned (.tuple #[.int .u64 0, .int .u64 (n : Int)]) ∧ w = w' := by
  have h1 : Go.bits .and .u64 1 4294967295 = 1 := by decide +kernel
  have h2 := low32 n hn
  have h3 : (n : Int) / 4294967296 = 0 := by omega
  have h4 : Go.bits .and .u64 0 4294967295 = 0 := by decide +kernel
  go_enter Try.func81, Try.ntmps81
  go_wp2
  go_ret2
  exact ⟨rfl, rfl⟩
set_option maxHeartbeats 400000 in
theorem Mul_one (n : Nat) (w : World) (hn : n < 4294967296) :
    Calls Try.prog 57 #[.int .u64 1, .int .u64 (n : Int)] w fun e w' => e = .returned (.tuple #[.int .u64 0, .int .u64 (n : Int)]) ∧ w = w' := by
  have hM := Mul64_one n w hn
  go_enter Try.func57, Try.ntmps57
  go_wp2_with fail
  refine hM.mono ?_
  rintro _ w1 ⟨rfl, rfl⟩
  go_wp2
  go_ret2
  exact ⟨rfl, rfl⟩
end Go.Proofs.Ytgiihdeilkiphaa
