/-
  The sizes of bytes and ints, over the landed code's translation.
-/
import Derived.Test.YtlnmehcanphmiaaGreatChecked
import Derived.WalkKit
import Derived.WalkSpells
import Derived.WalkLawsBesides
import Derived.Deep.QuietTactic
import Derived.BigQuiet
import Derived.Laws.BitsAllLaws
import Derived.Laws.BitsLemmas
import Derived.Lib.LazyBuf
import Derived.OwnWalk
import Derived.RegionTactic
import Derived.ChangeAlike
import Derived.Laws.Bits64b
import Derived.Test.YtlnmehcanphmiaaGreatPollPartsJ1
import Derived.Test.YtlnmehcanphmiaaGreatPollPartsJ2
namespace Go.Proofs.YtlnmehcanphmiaaGreat
open Go.RowKit

theorem info_u8 : (Tryz.prog.info? 5).map (fun i => (i.zero, i.size, i.bytes)) = some (some (.int .u8 0), 1, 1) := by kernel_rfl

theorem info_int : (Tryz.prog.info? 3).map (fun i => (i.zero, i.size, i.bytes)) = some (some (.int .i64 0), 1, 8) := by kernel_rfl
end Go.Proofs.YtlnmehcanphmiaaGreat

/-
  Contract of the document's Same (package incunableref01), over the landed code's translation.
-/
namespace Go.Proofs.YtlnmehcanphmiaaGreat
open Go.RowKit
set_option maxRecDepth 100000

end Go.Proofs.YtlnmehcanphmiaaGreat

/-
  Contract of geom.below, over the landed code.
-/
namespace Go.Proofs.YtlnmehcanphmiaaGreat
open Go.RowKit
set_option maxRecDepth 100000

theorem below_any (n m : Int) (w : World) :
    Calls Tryz.prog 59 #[.int .i64 n, .int .i64 m] w fun e w' => e = .returned (.bool (decide (0 ≤ n ∧ n < m))) ∧ w = w' := by
  by_cases h1 : 0 ≤ n
  · by_cases h2 : n < m
    · go_enter Tryz.func59, Tryz.ntmps59
      go_wp2
      go_ret
      exact ⟨ret_bool (by simp [h1, h2]), rfl⟩
    · have hF : decide (0 ≤ n ∧ n < m) = false := decide_eq_false (by omega)
      have h2' : m ≤ n := by omega
      rw [hF]
      clear hF
      go_enter Tryz.func59, Tryz.ntmps59
      go_wp2
      go_ret
      exact ⟨rfl, rfl⟩
  · have hF : decide (0 ≤ n ∧ n < m) = false := decide_eq_false (by omega)
    have h1' : n < 0 := by omega
    rw [hF]
    clear hF
    go_enter Tryz.func59, Tryz.ntmps59
    go_wp2
    go_ret
    exact ⟨rfl, rfl⟩
end Go.Proofs.YtlnmehcanphmiaaGreat

/-
  Contract of slices.Clone of integers, over the landed code's translation.
-/
namespace Go.Proofs.YtlnmehcanphmiaaGreat
open Go.RowKit
set_option maxRecDepth 100000

/-- A slice of the numbers l, in a row of its own; nothing that was there has turned. -/
def OwnsJ (l : List Int) (w : World) (e : Ending) (w' : World) : Prop :=
  ∃ A c, e = .returned (.slice A l.length c) ∧ w'.ownsRow w.heap.size 3 1 (.slice A l.length c) l.length (I64 l) ∧ Below w.heap.size w w'

set_option maxHeartbeats 400000 in
theorem CloneI_any (A : Option Addr) (n c : Nat) (l : List Int) (w : World) (hr : R64 w A n l) (hn : n ≤ 1099511627776) :
    Calls Tryz.prog 34 #[.slice A n c] w (OwnsJ l w) := by
  obtain ⟨i0, hi, hz0, hz1, hz2⟩ := info_parts info_int
  have hnil := fun w => Lib.run_eql_slice_nil (P := Tryz.prog) w 22 3 A n c 0 0 Tryz.underlying22
  have hlen := Lib.hid hr.len
  rcases A with _ | ad
  · have h0 : n = 0 := by
      rcases Nat.eq_zero_or_pos n with h | h
      · exact h
      · obtain ⟨b, off, e, _⟩ := hr.1.2 h; cases e
    have hl : l = [] := List.eq_nil_of_length_eq_zero (by have := hr.len; omega)
    subst hl
    clear hr h0
    go_enter Tryz.func34, Tryz.ntmps34
    go_wp2
    go_ret
    exact ⟨none, 0, rfl, World.ownsRow_nil _ _ _ _, Below.refl _ _⟩
  · have hnew : ∀ j u, (I64 l)[j]? = some u → (w.alloc (.cells #[] 3)).cell? (ad.add j) = some u := by
      intro j u hu
      rcases Nat.eq_zero_or_pos n with h | h
      · have hl : l = [] := List.eq_nil_of_length_eq_zero (by have := hr.len; omega)
        subst hl
        simp [I64] at hu
      · obtain ⟨b, off, e, hb, hc⟩ := (hr.1.alloc (.cells #[] 3)).2 h
        injection e with e
        subst e
        exact Rd.news hc hr.1.1 j u hu
    have HN := Lib.hid hnew
    clear hnew hr
    go_enter Tryz.func34, Tryz.ntmps34
    go_wp2_with (at_builtin; refine wpList_append_own _ rfl (.tmp 5) (.tmp 6) _ rfl w.heap.size 3 i0 _ 1 8 Tryz.underlying22 hi hz0 hz1 hz2 rfl (by decide) (.slice (some ⟨w.heap.size, 0, none⟩) 0 0) 0 [] rfl (World.ownsRow_made w #[] 0 (Nat.le_refl _) (by simp only [maxLen]; omega) rfl) ad n c (I64 l) rfl ?c1 HN.out (I64_one l) ?c2 ?c3 ?c4 ?_)
    case c1 => rw [I64_length]; have := hlen.out; omega
    case c2 => unfold maxLen; omega
    case c3 => omega
    case c4 => simp
    · intro v' w1 hown hg _
      obtain ⟨A', c', rfl⟩ := own_form hown
      have HO := Lib.hid hown
      have HG := Lib.hid hg
      clear hown hg
      go_wp2
      go_ret
      have e := hlen.out
      refine ⟨A', c', by rw [e]; simp, ?_, ?_⟩
      · have := HO.out
        rw [e]
        simpa using this
      · exact ((Below.refl _ _).alloc (Nat.le_refl _) _).grown HG.out (by simp) (by simp [Value.ownBlock])
end Go.Proofs.YtlnmehcanphmiaaGreat

/-
  Contract of slices.Clone of bytes, over the landed code's translation.
-/
namespace Go.Proofs.YtlnmehcanphmiaaGreat
open Go.RowKit
set_option maxRecDepth 100000

set_option maxHeartbeats 400000 in
theorem Clone_any (A : Option Addr) (n c : Nat) (l : List Nat) (w : World) (hr : R8 w A n l) (hn : n ≤ 1099511627776) :
    Calls Tryz.prog 35 #[.slice A n c] w (OwnsB 5 l w) := by
  obtain ⟨i0, hi, hz0, hz1, hz2⟩ := info_parts info_u8
  have hnil := fun w => Lib.run_eql_slice_nil (P := Tryz.prog) w 24 5 A n c 0 0 Tryz.underlying24
  have hlen := Lib.hid hr.len
  rcases A with _ | ad
  · have h0 : n = 0 := by
      rcases Nat.eq_zero_or_pos n with h | h
      · exact h
      · obtain ⟨b, off, e, _⟩ := hr.1.2 h; cases e
    have hl : l = [] := List.eq_nil_of_length_eq_zero (by have := hr.len; omega)
    subst hl
    clear hr h0
    go_enter Tryz.func35, Tryz.ntmps35
    go_wp2
    go_ret
    exact ⟨none, 0, rfl, World.ownsRow_nil _ _ _ _, Below.refl _ _⟩
  · have hnew : ∀ j u, (U8 l)[j]? = some u → (w.alloc (.cells #[] 5)).cell? (ad.add j) = some u := by
      intro j u hu
      rcases Nat.eq_zero_or_pos n with h | h
      · have hl : l = [] := List.eq_nil_of_length_eq_zero (by have := hr.len; omega)
        subst hl
        simp [U8] at hu
      · obtain ⟨b, off, e, hb, hc⟩ := (hr.1.alloc (.cells #[] 5)).2 h
        injection e with e
        subst e
        exact Rd.news hc hr.1.1 j u hu
    have HN := Lib.hid hnew
    clear hnew hr
    go_enter Tryz.func35, Tryz.ntmps35
    go_wp2_with (at_builtin; refine wpList_append_own _ rfl (.tmp 5) (.tmp 6) _ rfl w.heap.size 5 i0 _ 1 1 Tryz.underlying24 hi hz0 hz1 hz2 rfl (by decide) (.slice (some ⟨w.heap.size, 0, none⟩) 0 0) 0 [] rfl (World.ownsRow_made w #[] 0 (Nat.le_refl _) (by simp only [maxLen]; omega) rfl) ad n c (U8 l) rfl ?c1 HN.out (U8_one l) ?c2 ?c3 ?c4 ?_)
    case c1 => rw [U8_length]; have := hlen.out; omega
    case c2 => unfold maxLen; omega
    case c3 => omega
    case c4 => simp
    · intro v' w1 hown hg _
      obtain ⟨A', c', rfl⟩ := own_form hown
      have HO := Lib.hid hown
      have HG := Lib.hid hg
      clear hown hg
      go_wp2
      go_ret
      have e := hlen.out
      refine ⟨A', c', by rw [e]; simp, ?_, ?_⟩
      · have := HO.out
        rw [e]
        simpa using this
      · exact ((Below.refl _ _).alloc (Nat.le_refl _) _).grown HG.out (by simp) (by simp [Value.ownBlock])
end Go.Proofs.YtlnmehcanphmiaaGreat

/-
  Contract of math/bits.Mul of one and a number, over the landed code's translation.
-/
namespace Go.Proofs.YtlnmehcanphmiaaGreat
open Go.RowKit
set_option maxRecDepth 100000

theorem low32 (n : Nat) (hn : n < 4294967296) : Go.bits .and .u64 (n : Int) 4294967295 = (n : Int) := by
  have h := bits_and_u64_nat n 4294967295 (by omega) (by omega)
  rw [show n &&& 4294967295 = n % 4294967296 from Nat.and_two_pow_sub_one_eq_mod n 32, Nat.mod_eq_of_lt hn] at h
  exact h
set_option maxHeartbeats 400000 in
theorem Mul64_one (n : Nat) (w : World) (hn : n < 4294967296) :
    Calls Tryz.prog 70 #[.int .u64 1, .int .u64 (n : Int)] w fun e w' => e = .returned (.tuple #[.int .u64 0, .int .u64 (n : Int)]) ∧ w = w' := by
  have h1 : Go.bits .and .u64 1 4294967295 = 1 := by decide +kernel
  have h2 := low32 n hn
  have h3 : (n : Int) / 4294967296 = 0 := by omega
  have h4 : Go.bits .and .u64 0 4294967295 = 0 := by decide +kernel
  go_enter Tryz.func70, Tryz.ntmps70
  go_wp2
  go_ret2
  exact ⟨rfl, rfl⟩
set_option maxHeartbeats 400000 in
theorem Mul_one (n : Nat) (w : World) (hn : n < 4294967296) :
    Calls Tryz.prog 60 #[.int .u64 1, .int .u64 (n : Int)] w fun e w' => e = .returned (.tuple #[.int .u64 0, .int .u64 (n : Int)]) ∧ w = w' := by
  have hM := Mul64_one n w hn
  go_enter Tryz.func60, Tryz.ntmps60
  go_wp2_with fail
  refine hM.mono ?_
  rintro _ w1 ⟨rfl, rfl⟩
  go_wp2
  go_ret2
  exact ⟨rfl, rfl⟩
end Go.Proofs.YtlnmehcanphmiaaGreat

/-
  Contracts of bits.has and bits.mask, over the landed code.
-/
namespace Go.Proofs.YtlnmehcanphmiaaGreat
open Go.RowKit
set_option maxRecDepth 100000

/-- Has a slice of n bytes a bit i? -/
def hasB (n : Nat) (i : Int) : Bool := decide (0 ≤ i ∧ i / 8 < n)

theorem has_any (A : Option Addr) (n c : Nat) (i : Int) (w : World) (h0 : -9223372036854775808 ≤ i) (h1 : i ≤ 9223372036854775807) :
    Calls Tryz.prog 118 #[.slice A n c, .int .i64 i] w fun e w' => e = .returned (.bool (hasB n i)) ∧ w = w' := by
  by_cases hi : 0 ≤ i
  · by_cases hn : i / 8 < n
    · have e : hasB n i = true := by unfold hasB; exact decide_eq_true ⟨hi, hn⟩
      rw [e]; clear e
      go_enter Tryz.func118, Tryz.ntmps118
      go_wp2
      go_ret
      exact ⟨rfl, rfl⟩
    · have e : hasB n i = false := by unfold hasB; exact decide_eq_false (fun h => hn h.2)
      rw [e]; clear e
      go_enter Tryz.func118, Tryz.ntmps118
      go_wp2
      go_ret
      exact ⟨rfl, rfl⟩
  · have e : hasB n i = false := by unfold hasB; exact decide_eq_false (fun h => hi h.1)
    rw [e]; clear e
    have hd : decide (0 ≤ i) = false := decide_eq_false hi
    go_enter Tryz.func118, Tryz.ntmps118
    go_wp2
    go_ret
    exact ⟨rfl, rfl⟩

theorem mask_any (i : Int) (w : World) (h0 : 0 ≤ i) (h1 : i ≤ 9223372036854775807) :
    Calls Tryz.prog 119 #[.int .i64 i] w fun e w' => e = .returned (.int .u8 (mk8 i.toNat : Int)) ∧ w = w' := by
  go_enter Tryz.func119, Tryz.ntmps119
  go_wp2
  go_ret
  refine ⟨ret_int ?_, rfl⟩
  have e : (i % 8).toNat = i.toNat % 8 := by omega
  have h8 := mk8_lt i.toNat
  have c : ((2 : Int) ^ (i.toNat % 8)) = (mk8 i.toNat : Int) := by simp [mk8]
  rw [e, c, Int.emod_eq_of_lt (by omega) (by omega)]

theorem has_yes (A : Option Addr) (n c : Nat) (i : Int) (w : World) (h1 : i ≤ 9223372036854775807) (h : 0 ≤ i) (hn : i / 8 < n) :
    Calls Tryz.prog 118 #[.slice A n c, .int .i64 i] w fun e w' => e = .returned (.bool true) ∧ w = w' := by
  have e : hasB n i = true := by unfold hasB; exact decide_eq_true ⟨h, hn⟩
  have := has_any A n c i w (by omega) h1
  rwa [e] at this

theorem has_no (A : Option Addr) (n c : Nat) (i : Int) (w : World) (h0 : -9223372036854775808 ≤ i) (h1 : i ≤ 9223372036854775807) (h : ¬ (0 ≤ i ∧ i / 8 < n)) :
    Calls Tryz.prog 118 #[.slice A n c, .int .i64 i] w fun e w' => e = .returned (.bool false) ∧ w = w' := by
  have e : hasB n i = false := by unfold hasB; exact decide_eq_false h
  have := has_any A n c i w h0 h1
  rwa [e] at this

end Go.Proofs.YtlnmehcanphmiaaGreat

/-
  Contract of bytes.Clone, over the landed code's translation.
-/
namespace Go.Proofs.YtlnmehcanphmiaaGreat
open Go.RowKit
set_option maxRecDepth 100000

set_option maxHeartbeats 400000 in
theorem BClone_any (A : Option Addr) (n c : Nat) (l : List Nat) (w : World) (hr : R8 w A n l) (hn : n ≤ 1099511627776) :
    Calls Tryz.prog 113 #[.slice A n c] w (OwnsB 5 l w) := by
  obtain ⟨i0, hi, hz0, hz1, hz2⟩ := info_parts info_u8
  have hnil := fun w => Lib.run_eql_slice_nil (P := Tryz.prog) w 24 5 A n c 0 0 Tryz.underlying24
  have hlen := Lib.hid hr.len
  rcases A with _ | ad
  · have h0 : n = 0 := by
      rcases Nat.eq_zero_or_pos n with h | h
      · exact h
      · obtain ⟨b, off, e, _⟩ := hr.1.2 h; cases e
    have hl : l = [] := List.eq_nil_of_length_eq_zero (by have := hr.len; omega)
    subst hl
    clear hr h0
    go_enter Tryz.func113, Tryz.ntmps113
    go_wp2
    go_ret
    exact ⟨none, 0, rfl, World.ownsRow_nil _ _ _ _, Below.refl _ _⟩
  · have hnew : ∀ j u, (U8 l)[j]? = some u → (w.alloc (.cells #[] 5)).cell? (ad.add j) = some u := by
      intro j u hu
      rcases Nat.eq_zero_or_pos n with h | h
      · have hl : l = [] := List.eq_nil_of_length_eq_zero (by have := hr.len; omega)
        subst hl
        simp [U8] at hu
      · obtain ⟨b, off, e, hb, hc⟩ := (hr.1.alloc (.cells #[] 5)).2 h
        injection e with e
        subst e
        exact Rd.news hc hr.1.1 j u hu
    have HN := Lib.hid hnew
    clear hnew hr
    go_enter Tryz.func113, Tryz.ntmps113
    go_wp2_with (at_builtin; refine wpList_append_own _ rfl (.tmp 5) (.tmp 6) _ rfl w.heap.size 5 i0 _ 1 1 Tryz.underlying24 hi hz0 hz1 hz2 rfl (by decide) (.slice (some ⟨w.heap.size, 0, none⟩) 0 0) 0 [] rfl (World.ownsRow_made w #[] 0 (Nat.le_refl _) (by simp only [maxLen]; omega) rfl) ad n c (U8 l) rfl ?c1 HN.out (U8_one l) ?c2 ?c3 ?c4 ?_)
    case c1 => rw [U8_length]; have := hlen.out; omega
    case c2 => unfold maxLen; omega
    case c3 => omega
    case c4 => simp
    · intro v' w1 hown hg _
      obtain ⟨A', c', rfl⟩ := own_form hown
      have HO := Lib.hid hown
      have HG := Lib.hid hg
      clear hown hg
      go_wp2
      go_ret
      have e := hlen.out
      refine ⟨A', c', by rw [e]; simp, ?_, ?_⟩
      · have := HO.out
        rw [e]
        simpa using this
      · exact ((Below.refl _ _).alloc (Nat.le_refl _) _).grown HG.out (by simp) (by simp [Value.ownBlock])
end Go.Proofs.YtlnmehcanphmiaaGreat
