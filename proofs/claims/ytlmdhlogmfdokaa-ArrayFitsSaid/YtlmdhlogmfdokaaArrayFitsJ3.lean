/-
  The sizes of bytes and ints, over the landed code's translation.
-/
import Derived.Test.YtlmdhlogmfdokaaChecked
import Derived.WalkKit
import Derived.WalkSpells
import Derived.WalkLawsBesides
import Derived.Deep.QuietTactic
import Derived.BigQuiet
import Derived.Laws.BitsAllLaws
import Derived.Laws.BitsLemmas
import Derived.Lib.LazyBuf
import Derived.OwnWalk
import Derived.RegionTactic
import Derived.ChangeAlike
import Derived.Laws.Bits64b
import Derived.Test.YtlmdhlogmfdokaaArrayFitsJ1
import Derived.Test.YtlmdhlogmfdokaaArrayFitsJ2
namespace Go.Proofs.Ytlmdhlogmfdokaa
open Go.RowKit

theorem info_u8 : (Try.prog.info? 5).map (fun i => (i.zero, i.size, i.bytes)) = some (some (.int .u8 0), 1, 1) := by kernel_rfl

theorem info_int : (Try.prog.info? 3).map (fun i => (i.zero, i.size, i.bytes)) = some (some (.int .i64 0), 1, 8) := by kernel_rfl
end Go.Proofs.Ytlmdhlogmfdokaa

/-
  Contract of the document's Same (package incunableref01), over the landed code's translation.
-/
namespace Go.Proofs.Ytlmdhlogmfdokaa
open Go.RowKit
set_option maxRecDepth 100000

theorem take_ne {α : Type} {a b : List α} {k : Nat} {x y : α} (hx : a[k]? = some x) (hy : b[k]? = some y) (h : x ≠ y) : a ≠ b := by
  rintro rfl
  rw [hx] at hy
  injection hy with e
  exact h e

set_option maxHeartbeats 400000 in
theorem Same_any (A B : Option Addr) (n c m d : Nat) (a b : List Nat) (w : World) (ha : R8 w A n a) (hb : R8 w B m b) (hn : n ≤ 1099511627776) (hm : m ≤ 1099511627776) :
    Calls Try.prog 25 #[.slice A n c, .slice B m d] w (Quiet (.bool (decide (a = b))) w) := by
  have la := Lib.hid ha.len
  have lb := Lib.hid hb.len
  by_cases hnm : n = m
  · subst hnm
    go_enter Try.func25, Try.ntmps25
    go_wp2
    go_loopw [5] (fun i wr => ∃ k : Nat, k ≤ n ∧ i = .int .i64 k ∧ Hid (a.take k = b.take k) ∧ ∃ q, wr = w.drewN q) (fun i _ => n - (intOf i).toNat)
    case atStart => exact ⟨0, Nat.zero_le _, rfl, by simp [Hid], 0, rfl⟩
    case round =>
      obtain ⟨k, hk, rfl, HE, q, rfl⟩ := hrel
      by_cases hlt : k < n
      · obtain ⟨b1, o1, x, rfl, h1, HX, hx, hc1⟩ := ha.at_ hlt
        obtain ⟨b2, o2, y, rfl, h2, HY, hy, hc2⟩ := hb.at_ hlt
        by_cases hxy : x = y
        · subst hxy
          have HT := Lib.hid (show a.take (k + 1) = b.take (k + 1) by rw [take_snoc HX.out, take_snoc HY.out, HE.out])
          go_wp2
          go_quiet (fail)
          go_wp2
          go_roundw
          case rel => exact ⟨k + 1, by omega, by go_num, HT, _, rfl⟩
          case measure => simp [intOf]; omega
        · have hne : ((x : Int) != (y : Int)) = true := by simp; omega
          have HF := Lib.hid (show decide (a = b) = false from decide_eq_false (take_ne HX.out HY.out hxy))
          go_wp2
          go_quiet (fail)
          go_wp2
          go_ret
          exact ⟨ret_bool HF.out.symm, _, World.drewN_drewN _ _ _⟩
      · go_wp2
        go_ret
        refine ⟨ret_bool (decide_eq_true ?_).symm, _, rfl⟩
        have e := HE.out
        rwa [List.take_of_length_le (by have := la.out; omega), List.take_of_length_le (by have := lb.out; omega)] at e
  · have hne : ((n : Int) != (m : Int)) = true := by simp; omega
    have hF : decide (a = b) = false := decide_eq_false (by rintro rfl; have := la.out; have := lb.out; omega)
    rw [hF]; clear hF
    go_enter Try.func25, Try.ntmps25
    go_wp2
    go_ret
    exact ⟨rfl, 0, rfl⟩
end Go.Proofs.Ytlmdhlogmfdokaa

/-
  Contract of geom.below, over the landed code.
-/
namespace Go.Proofs.Ytlmdhlogmfdokaa
open Go.RowKit
set_option maxRecDepth 100000

theorem below_any (n m : Int) (w : World) :
    Calls Try.prog 57 #[.int .i64 n, .int .i64 m] w fun e w' => e = .returned (.bool (decide (0 ≤ n ∧ n < m))) ∧ w = w' := by
  by_cases h1 : 0 ≤ n
  · by_cases h2 : n < m
    · go_enter Try.func57, Try.ntmps57
      go_wp2
      go_ret
      exact ⟨ret_bool (by simp [h1, h2]), rfl⟩
    · have hF : decide (0 ≤ n ∧ n < m) = false := decide_eq_false (by omega)
      have h2' : m ≤ n := by omega
      rw [hF]
      clear hF
      go_enter Try.func57, Try.ntmps57
      go_wp2
      go_ret
      exact ⟨rfl, rfl⟩
  · have hF : decide (0 ≤ n ∧ n < m) = false := decide_eq_false (by omega)
    have h1' : n < 0 := by omega
    rw [hF]
    clear hF
    go_enter Try.func57, Try.ntmps57
    go_wp2
    go_ret
    exact ⟨rfl, rfl⟩
end Go.Proofs.Ytlmdhlogmfdokaa

/-
  Contracts of bits.has and bits.mask, over the landed code.
-/
namespace Go.Proofs.Ytlmdhlogmfdokaa
open Go.RowKit
set_option maxRecDepth 100000

/-- Has a slice of n bytes a bit i? -/
def hasB (n : Nat) (i : Int) : Bool := decide (0 ≤ i ∧ i / 8 < n)

theorem qleft {P : Program} {f : FuncId} {args : Array Value} {w : World} {n : Nat} {v : Value}
    (h : Calls P f args (w.drewN n) fun e w' => e = .returned v ∧ w.drewN n = w') : Calls P f args (w.drewN n) fun e w'' => e = .returned v ∧ ∃ m, w'' = w.drewN m :=
  h.mono fun _ _ ⟨he, hm⟩ => ⟨he, n, hm.symm⟩
end Go.Proofs.Ytlmdhlogmfdokaa

/-
  Contract of slices.Clone of bytes, over the landed code's translation.
-/
namespace Go.Proofs.Ytlmdhlogmfdokaa
open Go.RowKit
set_option maxRecDepth 100000

set_option maxHeartbeats 400000 in
theorem Clone_any (A : Option Addr) (n c : Nat) (l : List Nat) (w : World) (hr : R8 w A n l) (hn : n ≤ 1099511627776) :
    Calls Try.prog 44 #[.slice A n c] w (OwnsB 5 l w) := by
  obtain ⟨i0, hi, hz0, hz1, hz2⟩ := info_parts info_u8
  have hnil := fun w => Lib.run_eql_slice_nil (P := Try.prog) w 35 5 A n c 0 0 Try.underlying35
  have hlen := Lib.hid hr.len
  rcases A with _ | ad
  · have h0 : n = 0 := by
      rcases Nat.eq_zero_or_pos n with h | h
      · exact h
      · obtain ⟨b, off, e, _⟩ := hr.1.2 h; cases e
    have hl : l = [] := List.eq_nil_of_length_eq_zero (by have := hr.len; omega)
    subst hl
    clear hr h0
    go_enter Try.func44, Try.ntmps44
    go_wp2
    go_ret
    exact ⟨none, 0, rfl, World.ownsRow_nil _ _ _ _, Below.refl _ _⟩
  · have hnew : ∀ j u, (U8 l)[j]? = some u → (w.alloc (.cells #[] 5)).cell? (ad.add j) = some u := by
      intro j u hu
      rcases Nat.eq_zero_or_pos n with h | h
      · have hl : l = [] := List.eq_nil_of_length_eq_zero (by have := hr.len; omega)
        subst hl
        simp [U8] at hu
      · obtain ⟨b, off, e, hb, hc⟩ := (hr.1.alloc (.cells #[] 5)).2 h
        injection e with e
        subst e
        exact Rd.news hc hr.1.1 j u hu
    have HN := Lib.hid hnew
    clear hnew hr
    go_enter Try.func44, Try.ntmps44
    go_wp2_with (at_builtin; refine wpList_append_own _ rfl (.tmp 5) (.tmp 6) _ rfl w.heap.size 5 i0 _ 1 1 Try.underlying35 hi hz0 hz1 hz2 rfl (by decide) (.slice (some ⟨w.heap.size, 0, none⟩) 0 0) 0 [] rfl (World.ownsRow_made w #[] 0 (Nat.le_refl _) (by simp only [maxLen]; omega) rfl) ad n c (U8 l) rfl ?c1 HN.out (U8_one l) ?c2 ?c3 ?c4 ?_)
    case c1 => rw [U8_length]; have := hlen.out; omega
    case c2 => unfold maxLen; omega
    case c3 => omega
    case c4 => simp
    · intro v' w1 hown hg _
      obtain ⟨A', c', rfl⟩ := own_form hown
      have HO := Lib.hid hown
      have HG := Lib.hid hg
      clear hown hg
      go_wp2
      go_ret
      have e := hlen.out
      refine ⟨A', c', by rw [e]; simp, ?_, ?_⟩
      · have := HO.out
        rw [e]
        simpa using this
      · exact ((Below.refl _ _).alloc (Nat.le_refl _) _).grown HG.out (by simp) (by simp [Value.ownBlock])
end Go.Proofs.Ytlmdhlogmfdokaa

/-
  Contract of bytes.Clone, over the landed code's translation.
-/
namespace Go.Proofs.Ytlmdhlogmfdokaa
open Go.RowKit
set_option maxRecDepth 100000

set_option maxHeartbeats 400000 in
theorem BClone_any (A : Option Addr) (n c : Nat) (l : List Nat) (w : World) (hr : R8 w A n l) (hn : n ≤ 1099511627776) :
    Calls Try.prog 53 #[.slice A n c] w (OwnsB 5 l w) := by
  obtain ⟨i0, hi, hz0, hz1, hz2⟩ := info_parts info_u8
  have hnil := fun w => Lib.run_eql_slice_nil (P := Try.prog) w 35 5 A n c 0 0 Try.underlying35
  have hlen := Lib.hid hr.len
  rcases A with _ | ad
  · have h0 : n = 0 := by
      rcases Nat.eq_zero_or_pos n with h | h
      · exact h
      · obtain ⟨b, off, e, _⟩ := hr.1.2 h; cases e
    have hl : l = [] := List.eq_nil_of_length_eq_zero (by have := hr.len; omega)
    subst hl
    clear hr h0
    go_enter Try.func53, Try.ntmps53
    go_wp2
    go_ret
    exact ⟨none, 0, rfl, World.ownsRow_nil _ _ _ _, Below.refl _ _⟩
  · have hnew : ∀ j u, (U8 l)[j]? = some u → (w.alloc (.cells #[] 5)).cell? (ad.add j) = some u := by
      intro j u hu
      rcases Nat.eq_zero_or_pos n with h | h
      · have hl : l = [] := List.eq_nil_of_length_eq_zero (by have := hr.len; omega)
        subst hl
        simp [U8] at hu
      · obtain ⟨b, off, e, hb, hc⟩ := (hr.1.alloc (.cells #[] 5)).2 h
        injection e with e
        subst e
        exact Rd.news hc hr.1.1 j u hu
    have HN := Lib.hid hnew
    clear hnew hr
    go_enter Try.func53, Try.ntmps53
    go_wp2_with (at_builtin; refine wpList_append_own _ rfl (.tmp 5) (.tmp 6) _ rfl w.heap.size 5 i0 _ 1 1 Try.underlying35 hi hz0 hz1 hz2 rfl (by decide) (.slice (some ⟨w.heap.size, 0, none⟩) 0 0) 0 [] rfl (World.ownsRow_made w #[] 0 (Nat.le_refl _) (by simp only [maxLen]; omega) rfl) ad n c (U8 l) rfl ?c1 HN.out (U8_one l) ?c2 ?c3 ?c4 ?_)
    case c1 => rw [U8_length]; have := hlen.out; omega
    case c2 => unfold maxLen; omega
    case c3 => omega
    case c4 => simp
    · intro v' w1 hown hg _
      obtain ⟨A', c', rfl⟩ := own_form hown
      have HO := Lib.hid hown
      have HG := Lib.hid hg
      clear hown hg
      go_wp2
      go_ret
      have e := hlen.out
      refine ⟨A', c', by rw [e]; simp, ?_, ?_⟩
      · have := HO.out
        rw [e]
        simpa using this
      · exact ((Below.refl _ _).alloc (Nat.le_refl _) _).grown HG.out (by simp) (by simp [Value.ownBlock])
end Go.Proofs.Ytlmdhlogmfdokaa

/-
  Contract of math/bits.Mul of one and a number, over the landed code's translation.
-/
namespace Go.Proofs.Ytlmdhlogmfdokaa
open Go.RowKit
set_option maxRecDepth 100000

theorem low32 (n : Nat) (hn : n < 4294967296) : Go.bits .and .u64 (n : Int) 4294967295 = (n : Int) := by
  have h := bits_and_u64_nat n 4294967295 (by omega) (by omega)
  rw [show n &&& 4294967295 = n % 4294967296 from Nat.and_two_pow_sub_one_eq_mod n 32, Nat.mod_eq_of_lt hn] at h
  exact h
set_option maxHeartbeats 400000 in
theorem Mul64_one (n : Nat) (w : World) (hn : n < 4294967296) :
    Calls Try.prog 60 #[.int .u64 1, .int .u64 (n : Int)] w fun e w' => e = .returned (.tuple #[.int .u64 0, .int .u64 (n : Int)]) ∧ w = w' := by
  have h1 : Go.bits .and .u64 1 4294967295 = 1 := by decide +kernel
  have h2 := low32 n hn
  have h3 : (n : Int) / 4294967296 = 0 := by omega
  have h4 : Go.bits .and .u64 0 4294967295 = 0 := by decide +kernel
  go_enter Try.func60, Try.ntmps60
  go_wp2
  go_ret2
  exact ⟨rfl, rfl⟩
set_option maxHeartbeats 400000 in
theorem Mul_one (n : Nat) (w : World) (hn : n < 4294967296) :
    Calls Try.prog 55 #[.int .u64 1, .int .u64 (n : Int)] w fun e w' => e = .returned (.tuple #[.int .u64 0, .int .u64 (n : Int)]) ∧ w = w' := by
  have hM := Mul64_one n w hn
  go_enter Try.func55, Try.ntmps55
  go_wp2_with fail
  refine hM.mono ?_
  rintro _ w1 ⟨rfl, rfl⟩
  go_wp2
  go_ret2
  exact ⟨rfl, rfl⟩
end Go.Proofs.Ytlmdhlogmfdokaa

/-
  Contracts of the document's own Bit and List (package incunableref01), over the landed code's translation.
-/
namespace Go.Proofs.Ytlmdhlogmfdokaa
open Go.RowKit
set_option maxRecDepth 100000

set_option maxHeartbeats 400000 in
theorem Bit_yes (A : Option Addr) (n c : Nat) (l : List Nat) (j : Nat) (w : World) (hr : R8 w A n l) (hj : j / 8 < n) (h1 : j ≤ 9223372036854775807) :
    Calls Try.prog 58 #[.slice A n c, .int .i64 (j : Int)] w fun e w' => e = .returned (.int .i64 (bi (getN l j))) ∧ w = w' := by
  obtain ⟨b, off, x, rfl, hb, HX, hx, hc⟩ := hr.at_ hj
  have HG := Lib.hid (getN_of l j x HX.out)
  clear hr
  go_enter Try.func58, Try.ntmps58
  go_wp2
  go_loop [5, 6] (fun v i => ∃ t : Nat, t ≤ j % 8 ∧ i = .int .i64 t ∧ v = .int .i64 (hv x t : Int)) (fun _ i => 8 - (intOf i).toNat)
  case atStart => exact ⟨0, Nat.zero_le _, rfl, by rw [hv_zero]⟩
  case round =>
    obtain ⟨t, ht, rfl, rfl⟩ := hrel
    have hl := hv_le x t
    by_cases hlt : t < j % 8
    · have HS := Lib.hid (hv_succ x t)
      go_wp2
      go_round
      case rel => exact ⟨t + 1, by omega, by go_num, by rw [HS.out]; go_num⟩
      case measure => simp [intOf]; omega
    · have HB := Lib.hid (hv_bit x t)
      go_wp2
      go_ret
      exact ⟨ret_int (by rw [HG.out, show j % 8 = t by omega, ← HB.out]; omega), rfl⟩

theorem Bit_no (A : Option Addr) (n c : Nat) (i : Int) (w : World) (h0 : -9223372036854775808 ≤ i) (h1 : i ≤ 9223372036854775807) (h : ¬ (0 ≤ i ∧ i / 8 < n)) :
    Calls Try.prog 58 #[.slice A n c, .int .i64 i] w fun e w' => e = .returned (.int .i64 (-1)) ∧ w = w' := by
  by_cases hi : i < 0
  · have hd : decide (i < 0) = true := decide_eq_true hi
    clear h
    go_enter Try.func58, Try.ntmps58
    go_wp2
    go_ret
    exact ⟨rfl, rfl⟩
  · have hd : decide (i < 0) = false := decide_eq_false hi
    have hn : (n : Int) ≤ i / 8 := by omega
    clear h
    go_enter Try.func58, Try.ntmps58
    go_wp2
    go_ret
    exact ⟨rfl, rfl⟩

/-- It returns a slice of the ints l in memory of its own, and nothing that was there has turned. -/
def OwnsI (e0 : TypeId) (l : List Int) (w : World) (e : Ending) (w' : World) : Prop :=
  ∃ A c, e = .returned (.slice A l.length c) ∧ w'.ownsRow w.heap.size e0 1 (.slice A l.length c) l.length (I64 l) ∧ Below w.heap.size w w'

set_option maxHeartbeats 400000 in
theorem List_any (A : Option Addr) (n c : Nat) (l : List Nat) (w : World) (hr : R8 w A n l) (hn : n ≤ 1099511627776) :
    Calls Try.prog 50 #[.slice A n c] w (OwnsI 3 (bis (bitsB l)) w) := by
  obtain ⟨i0, ti, tz0, tz1, tz2⟩ := info_parts info_int
  have hlen := Lib.hid hr.len
  have HR := Lib.hid hr
  clear hr
  go_enter Try.func50, Try.ntmps50
  go_wp2
  go_loopw [3, 4] (fun v i wr => ∃ k : Nat, k ≤ 8 * n ∧ i = .int .i64 k ∧ Hid (wr.ownsRow w.heap.size 3 1 v k (I64 (bis (bitsTo l k)))) ∧ Hid (Below w.heap.size w wr)) (fun _ i _ => 8 * n - (intOf i).toNat)
  case atStart => exact ⟨0, Nat.zero_le _, rfl, World.ownsRow_nil _ _ _ _, Below.refl _ _⟩
  case round =>
    obtain ⟨k, hk, rfl, HO, HB⟩ := hrel
    by_cases hlt : k < 8 * n
    · have HR2 := Lib.hid (HR.out.below HB.out)
      go_wp2_with (first | (go_at_call 58; refine (Bit_yes _ _ _ l k _ HR2.out (by omega) (by omega)).mono ?_; rintro e w' ⟨rfl, rfl⟩) | (at_builtin; refine wpList_append_own _ rfl (.tmp 12) (.tmp 16) _ rfl w.heap.size 3 i0 _ 1 8 Try.underlying24 ti tz0 tz1 tz2 rfl (by decide) _ _ _ rfl (HO.out.alloc _) ⟨wr.heap.size, 0, none⟩ 1 1 [_] rfl rfl (one_new _ _ _) ?c1 ?c2 ?c3 ?c4 ?_))
      case c1 => intro u hu; simp at hu; subst hu; rfl
      case c2 => unfold maxLen; omega
      case c3 => omega
      case c4 => have := HB.out.size; simp; omega
      · intro v' w2 hown' hgrow _
        have HO2 := Lib.hid (show w2.ownsRow w.heap.size 3 1 v' (k + 1) (I64 (bis (bitsTo l (k + 1)))) by
          rw [bitsTo_succ, bis_append, I64_append]
          exact hown')
        have HB2 := Lib.hid ((HB.out.alloc HB.out.size _).grown hgrow (by have := HB.out.size; simp; omega) (fun j hj => (HO.out.lt j hj).1))
        clear hown' hgrow
        go_wp2
        go_roundw
        case rel => exact ⟨k + 1, by omega, by go_num, HO2, HB2⟩
        case measure => simp [intOf]; omega
    · obtain ⟨A1, c1, rfl⟩ := own_form HO.out
      go_wp2
      go_ret
      have e : bitsTo l k = bitsB l := by unfold bitsTo bitsB; rw [show k = 8 * l.length by have := hlen.out; omega]
      have e2 : (bis (bitsB l)).length = k := by rw [bis_length, bitsB_length]; have := hlen.out; omega
      refine ⟨A1, c1, by rw [e2]; rfl, ?_, HB.out⟩
      rw [e2, ← e]
      exact HO.out
end Go.Proofs.Ytlmdhlogmfdokaa

/-
  Contract of the document's own Of (package incunableref01), over the landed code's translation.
-/
namespace Go.Proofs.Ytlmdhlogmfdokaa
open Go.RowKit
set_option maxRecDepth 100000

theorem hor_step (bs : List Bool) (n t : Nat) (b : Bool) (h : bs[n + (7 - t)]? = some b) : (hor bs n (t + 1) : Int) = 2 * (hor bs n t : Int) + bi b := by
  have e : bs.getD (n + (7 - t)) false = b := by rw [List.getD_eq_getElem?_getD, h]; rfl
  rw [hor, e]
  cases b <;> simp [bi]

set_option maxHeartbeats 1000000 in
theorem Of_owns (A : Option Addr) (n c : Nat) (bs : List Bool) (w : World) (hr : R64 w A n (bis bs)) (hn : n ≤ 8796093022208) :
    Calls Try.prog 51 #[.slice A n c] w (OwnsB 5 (ofTo bs (n / 8)) w) := by
  obtain ⟨i0, ti, tz0, tz1, tz2⟩ := info_parts info_u8
  have hlen := Lib.hid (show bs.length = n by have := hr.len; rwa [bis_length] at this)
  go_enter Try.func51, Try.ntmps51
  go_wp2
  go_loopw [3, 4] (fun v i wr => ∃ k : Nat, k ≤ n / 8 ∧ i = .int .i64 (8 * (k : Int)) ∧ Hid (wr.ownsRow w.heap.size 5 1 v k (U8 (ofTo bs k))) ∧ Hid (Below w.heap.size w wr)) (fun _ i _ => n - (intOf i).toNat)
  case atStart => exact ⟨0, Nat.zero_le _, rfl, World.ownsRow_nil _ _ _ _, Below.refl _ _⟩
  case round =>
    obtain ⟨k, hk, rfl, HO, HB⟩ := hrel
    by_cases hlt : k < n / 8
    · have HR2 := Lib.hid (hr.below HB.out)
      have hdec : decide (8 * (k : Int) + 8 ≤ (n : Int)) = true := decide_eq_true (by omega)
      go_wp2
      go_loop [5, 6] (fun v i => ∃ s t : Nat, Hid (t + s = 8) ∧ s ≤ 8 ∧ i = .int .i64 ((s : Int) - 1) ∧ v = .int .i64 (hor bs (8 * k) t : Int)) (fun _ i => (1 + intOf i).toNat)
      case atStart => exact ⟨8, 0, rfl, by omega, rfl, rfl⟩
      case round =>
        obtain ⟨s, t, HT, hs, rfl, rfl⟩ := hrel
        have hh := hor_lt8 bs (8 * k) t (by have := HT.out; omega)
        by_cases hs0 : 0 < s
        · obtain ⟨r, rfl⟩ : ∃ r, s = r + 1 := ⟨s - 1, by omega⟩
          rw [show (((r + 1 : Nat) : Int) - 1) = (r : Int) by omega]
          obtain ⟨b, off, x, rfl, hb, HX, _, _, hc⟩ := HR2.out.at_ (show 8 * k + r < n by omega)
          obtain ⟨v, hv, rfl⟩ : ∃ v, bs[8 * k + r]? = some v ∧ bi v = x := by
            have h := HX.out
            unfold bis at h
            rw [List.getElem?_map] at h
            rcases e : bs[8 * k + r]? with _ | v
            · rw [e] at h; cases h
            · rw [e] at h; injection h with h; exact ⟨v, rfl, h⟩
          have HS := Lib.hid (hor_step bs (8 * k) t v (by rw [show 7 - t = r by have := HT.out; omega]; exact hv))
          have hbi := bi_01 v
          clear hv HX
          have q3 : (8 * (k : Int) + (r : Int)).toNat = 8 * k + r := by omega
          go_wp2
          clear q3
          go_round
          case rel => exact ⟨r, t + 1, by have := HT.out; show t + 1 + r = 8; omega, by omega, by go_num, by rw [HS.out]⟩
          case measure => simp [intOf]; omega
        · obtain rfl : s = 0 := by omega
          have ht8 : t = 8 := by have := HT.out; omega
          subst ht8
          have q1 : IntKind.u8.wrap (hor bs (8 * k) 8 : Int) = (hor bs (8 * k) 8 : Int) := IntWalk.u8_in _ (by omega)
          go_wp2_with (at_builtin; refine wpList_append_own _ rfl (.tmp 27) (.tmp 30) _ rfl w.heap.size 5 i0 _ 1 1 Try.underlying35 ti tz0 tz1 tz2 rfl (by decide) _ _ _ rfl (HO.out.alloc _) ⟨wr.heap.size, 0, none⟩ 1 1 [_] rfl rfl (one_new _ _ _) ?c1 ?c2 ?c3 ?c4 ?_)
          case c1 => first | rfl | (intro u hu; simp at hu; subst hu; rfl)
          case c2 => unfold maxLen; omega
          case c3 => omega
          case c4 => have := HB.out.size; simp; omega
          · intro v' w2 hown' hgrow _
            have HO2 := Lib.hid (show w2.ownsRow w.heap.size 5 1 v' (k + 1) (U8 (ofTo bs (k + 1))) by
              rw [ofTo_succ, U8_append]
              exact hown')
            have HB2 := Lib.hid ((HB.out.alloc HB.out.size _).grown hgrow (by have := HB.out.size; simp; omega) (fun j hj => (HO.out.lt j hj).1))
            clear hown' hgrow q1
            go_wp2
            go_roundw
            case rel => exact ⟨k + 1, by omega, by go_num, HO2, HB2⟩
            case measure => simp [intOf]; omega
    · obtain ⟨A1, c1, rfl⟩ := own_form HO.out
      have hk8 : k = n / 8 := by omega
      go_wp2
      go_ret
      subst hk8
      refine ⟨A1, c1, by rw [ofTo_length]; rfl, ?_, HB.out⟩
      rw [ofTo_length]
      exact HO.out
theorem Of_any (A : Option Addr) (n c : Nat) (bs : List Bool) (w : World) (hr : R64 w A n (bis bs)) (hn : n ≤ 8796093022208) :
    Calls Try.prog 51 #[.slice A n c] w (MakesB (ofTo bs (n / 8)) w) := (Of_owns A n c bs w hr hn).mono fun _ _ ⟨A, c, he, ho, hb⟩ => ⟨A, c, he, ⟨Rd.own ho, ofTo_lt bs _⟩, hb⟩
theorem own_down {w : World} {base base' : Nat} {e : TypeId} {k : Nat} {v : Value} {n : Nat} {xs : List Value} (h : w.ownsRow base e k v n xs) (hb : base' ≤ base) : w.ownsRow base' e k v n xs := by
  refine ⟨h.1, ?_⟩
  rcases h.2 with h0 | ⟨g, cap, cur, hv, hbase, hr⟩
  · exact .inl h0
  · exact .inr ⟨g, cap, cur, hv, Nat.le_trans hb hbase, hr⟩
end Go.Proofs.Ytlmdhlogmfdokaa

/-
  The document's Same of bytes that are the same.
-/
namespace Go.Proofs.Ytlmdhlogmfdokaa
open Go.RowKit
set_option maxRecDepth 100000

theorem Same_gives (A B : Option Addr) (n c m d : Nat) (a : List Nat) (w : World) (ha : R8 w A n a) (hb : R8 w B m a) (hn : n ≤ 1099511627776) (hm : m ≤ 1099511627776) :
    Calls Try.prog 25 #[.slice A n c, .slice B m d] w (Gives (.bool true) w) := by
  refine (Same_any A B n c m d a a w ha hb hn hm).mono ?_
  rintro _ w' ⟨rfl, k, rfl⟩
  rw [decide_eq_true rfl]
  exact ⟨rfl, rfl, rfl, rfl, Nat.le_refl _, fun _ _ => rfl⟩
end Go.Proofs.Ytlmdhlogmfdokaa
