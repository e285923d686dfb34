/-
  The sizes of bytes and ints, over the landed code's translation.
-/
import Derived.Test.YtmbgoopkpfhamaaGreatChecked
import Derived.WalkKit
import Derived.WalkSpells
import Derived.WalkLawsBesides
import Derived.Deep.QuietTactic
import Derived.BigQuiet
import Derived.Laws.BitsAllLaws
import Derived.Laws.BitsLemmas
import Derived.Lib.LazyBuf
import Derived.OwnWalk
import Derived.RegionTactic
import Derived.ChangeAlike
import Derived.Laws.Bits64b
import Derived.Laws.BytesArg
import Derived.Test.YtmbgoopkpfhamaaGreatIdentChecksJ1
import Derived.Test.YtmbgoopkpfhamaaGreatIdentChecksJ2
namespace Go.Proofs.YtmbgoopkpfhamaaGreat
open Go.RowKit
theorem info_u8 : (Tryz.prog.info? 5).map (fun i => (i.zero, i.size, i.bytes)) = some (some (.int .u8 0), 1, 1) := by kernel_rfl
theorem info_int : (Tryz.prog.info? 3).map (fun i => (i.zero, i.size, i.bytes)) = some (some (.int .i64 0), 1, 8) := by kernel_rfl
set_option maxRecDepth 100000
theorem below_any (n m : Int) (w : World) :
  Calls Tryz.prog 79 #[.int .i64 n, .int .i64 m] w fun e w' => e = .returned (.bool (decide (0 ≤ n ∧ n < m))) ∧ w = w' := by
 by_cases h1 : 0 ≤ n
 ·
  by_cases h2 : n < m
  ·
   go_enter Tryz.func79, Tryz.ntmps79
   go_wp2
   go_ret
   exact ⟨ret_bool (by simp [h1, h2]), rfl⟩
  ·
   have hF : decide (0 ≤ n ∧ n < m) = false := decide_eq_false (by omega)
   have h2' : m ≤ n := by omega
   rw [hF]
   clear hF
   go_enter Tryz.func79, Tryz.ntmps79
   go_wp2
   go_ret
   exact ⟨rfl, rfl⟩
 ·
  have hF : decide (0 ≤ n ∧ n < m) = false := decide_eq_false (by omega)
  have h1' : n < 0 := by omega
  rw [hF]
  clear hF
  go_enter Tryz.func79, Tryz.ntmps79
  go_wp2
  go_ret
  exact ⟨rfl, rfl⟩
def OwnsJ (l : List Int) (w : World) (e : Ending) (w' : World) : Prop :=
 ∃ A c, e = .returned (.slice A l.length c) ∧ w'.ownsRow w.heap.size 3 1 (.slice A l.length c) l.length (I64 l) ∧ Below w.heap.size w w'
set_option maxHeartbeats 400000 in
theorem CloneI_any (A : Option Addr) (n c : Nat) (l : List Int) (w : World) (hr : R64 w A n l) (hn : n ≤ 1099511627776) :
  Calls Tryz.prog 41 #[.slice A n c] w (OwnsJ l w) := by
 obtain ⟨i0, hi, hz0, hz1, hz2⟩ := info_parts info_int
 have hnil := fun w => Lib.run_eql_slice_nil (P := Tryz.prog) w 24 3 A n c 0 0 Tryz.underlying24
 have hlen := Lib.hid hr.len
 rcases A with _ | ad
 ·
  have h0 : n = 0 := by
   rcases Nat.eq_zero_or_pos n with h | h
   ·
    exact h
   ·
    obtain ⟨b, off, e, _⟩ := hr.1.2 h; cases e
  have hl : l = [] := List.eq_nil_of_length_eq_zero (by have := hr.len; omega)
  subst hl
  clear hr h0
  go_enter Tryz.func41, Tryz.ntmps41
  go_wp2
  go_ret
  exact ⟨none, 0, rfl, World.ownsRow_nil _ _ _ _, Below.refl _ _⟩
 ·
  have hnew : ∀ j u, (I64 l)[j]? = some u → (w.alloc (.cells #[] 3)).cell? (ad.add j) = some u := by
   intro j u hu
   rcases Nat.eq_zero_or_pos n with h | h
   ·
    have hl : l = [] := List.eq_nil_of_length_eq_zero (by have := hr.len; omega)
    subst hl
    simp [I64] at hu
   ·
    obtain ⟨b, off, e, hb, hc⟩ := (hr.1.alloc (.cells #[] 3)).2 h
    injection e with e
    subst e
    exact Rd.news hc hr.1.1 j u hu
  have HN := Lib.hid hnew
  clear hnew hr
  go_enter Tryz.func41, Tryz.ntmps41
  go_wp2_with (at_builtin; refine wpList_append_own _ rfl (.tmp 5) (.tmp 6) _ rfl w.heap.size 3 i0 _ 1 8 Tryz.underlying24 hi hz0 hz1 hz2 rfl (by decide) (.slice (some ⟨w.heap.size, 0, none⟩) 0 0) 0 [] rfl (World.ownsRow_made w #[] 0 (Nat.le_refl _) (by simp only [maxLen]; omega) rfl) ad n c (I64 l) rfl ?c1 HN.out (I64_one l) ?c2 ?c3 ?c4 ?_)
  case c1 => rw [I64_length]; have := hlen.out; omega
  case c2 => unfold maxLen; omega
  case c3 => omega
  case c4 => simp
  ·
   intro v' w1 hown hg _
   obtain ⟨A', c', rfl⟩ := own_form hown
   have HO := Lib.hid hown
   have HG := Lib.hid hg
   clear hown hg
   go_wp2
   go_ret
   have e := hlen.out
   refine ⟨A', c', by rw [e]; simp, ?_, ?_⟩
   ·
    have := HO.out
    rw [e]
    simpa using this
   ·
    exact ((Below.refl _ _).alloc (Nat.le_refl _) _).grown HG.out (by simp) (by simp [Value.ownBlock])
set_option maxHeartbeats 400000 in
theorem Clone_any (A : Option Addr) (n c : Nat) (l : List Nat) (w : World) (hr : R8 w A n l) (hn : n ≤ 1099511627776) :
  Calls Tryz.prog 42 #[.slice A n c] w (OwnsB 5 l w) := by
 obtain ⟨i0, hi, hz0, hz1, hz2⟩ := info_parts info_u8
 have hnil := fun w => Lib.run_eql_slice_nil (P := Tryz.prog) w 26 5 A n c 0 0 Tryz.underlying26
 have hlen := Lib.hid hr.len
 rcases A with _ | ad
 ·
  have h0 : n = 0 := by
   rcases Nat.eq_zero_or_pos n with h | h
   ·
    exact h
   ·
    obtain ⟨b, off, e, _⟩ := hr.1.2 h; cases e
  have hl : l = [] := List.eq_nil_of_length_eq_zero (by have := hr.len; omega)
  subst hl
  clear hr h0
  go_enter Tryz.func42, Tryz.ntmps42
  go_wp2
  go_ret
  exact ⟨none, 0, rfl, World.ownsRow_nil _ _ _ _, Below.refl _ _⟩
 ·
  have hnew : ∀ j u, (U8 l)[j]? = some u → (w.alloc (.cells #[] 5)).cell? (ad.add j) = some u := by
   intro j u hu
   rcases Nat.eq_zero_or_pos n with h | h
   ·
    have hl : l = [] := List.eq_nil_of_length_eq_zero (by have := hr.len; omega)
    subst hl
    simp [U8] at hu
   ·
    obtain ⟨b, off, e, hb, hc⟩ := (hr.1.alloc (.cells #[] 5)).2 h
    injection e with e
    subst e
    exact Rd.news hc hr.1.1 j u hu
  have HN := Lib.hid hnew
  clear hnew hr
  go_enter Tryz.func42, Tryz.ntmps42
  go_wp2_with (at_builtin; refine wpList_append_own _ rfl (.tmp 5) (.tmp 6) _ rfl w.heap.size 5 i0 _ 1 1 Tryz.underlying26 hi hz0 hz1 hz2 rfl (by decide) (.slice (some ⟨w.heap.size, 0, none⟩) 0 0) 0 [] rfl (World.ownsRow_made w #[] 0 (Nat.le_refl _) (by simp only [maxLen]; omega) rfl) ad n c (U8 l) rfl ?c1 HN.out (U8_one l) ?c2 ?c3 ?c4 ?_)
  case c1 => rw [U8_length]; have := hlen.out; omega
  case c2 => unfold maxLen; omega
  case c3 => omega
  case c4 => simp
  ·
   intro v' w1 hown hg _
   obtain ⟨A', c', rfl⟩ := own_form hown
   have HO := Lib.hid hown
   have HG := Lib.hid hg
   clear hown hg
   go_wp2
   go_ret
   have e := hlen.out
   refine ⟨A', c', by rw [e]; simp, ?_, ?_⟩
   ·
    have := HO.out
    rw [e]
    simpa using this
   ·
    exact ((Below.refl _ _).alloc (Nat.le_refl _) _).grown HG.out (by simp) (by simp [Value.ownBlock])
theorem low32 (n : Nat) (hn : n < 4294967296) : Go.bits .and .u64 (n : Int) 4294967295 = (n : Int) := by
 have h := bits_and_u64_nat n 4294967295 (by omega) (by omega)
 rw [show n &&& 4294967295 = n % 4294967296 from Nat.and_two_pow_sub_one_eq_mod n 32, Nat.mod_eq_of_lt hn] at h
 exact h
set_option maxHeartbeats 400000 in
theorem Mul64_one (n : Nat) (w : World) (hn : n < 4294967296) :
  Calls Tryz.prog 91 #[.int .u64 1, .int .u64 (n : Int)] w fun e w' => e = .returned (.tuple #[.int .u64 0, .int .u64 (n : Int)]) ∧ w = w' := by
 have h1 : Go.bits .and .u64 1 4294967295 = 1 := by decide +kernel
 have h2 := low32 n hn
 have h3 : (n : Int) / 4294967296 = 0 := by omega
 have h4 : Go.bits .and .u64 0 4294967295 = 0 := by decide +kernel
 go_enter Tryz.func91, Tryz.ntmps91
 go_wp2
 go_ret2
 exact ⟨rfl, rfl⟩
set_option maxHeartbeats 400000 in
theorem Mul_one (n : Nat) (w : World) (hn : n < 4294967296) :
  Calls Tryz.prog 80 #[.int .u64 1, .int .u64 (n : Int)] w fun e w' => e = .returned (.tuple #[.int .u64 0, .int .u64 (n : Int)]) ∧ w = w' := by
 have hM := Mul64_one n w hn
 go_enter Tryz.func80, Tryz.ntmps80
 go_wp2_with fail
 refine hM.mono ?_
 rintro _ w1 ⟨rfl, rfl⟩
 go_wp2
 go_ret2
 exact ⟨rfl, rfl⟩
def hasB (n : Nat) (i : Int) : Bool := decide (0 ≤ i ∧ i / 8 < n)
theorem has_any (A : Option Addr) (n c : Nat) (i : Int) (w : World) (h0 : -9223372036854775808 ≤ i) (h1 : i ≤ 9223372036854775807) :
  Calls Tryz.prog 162 #[.slice A n c, .int .i64 i] w fun e w' => e = .returned (.bool (hasB n i)) ∧ w = w' := by
 by_cases hi : 0 ≤ i
 ·
  by_cases hn : i / 8 < n
  ·
   have e : hasB n i = true := by unfold hasB; exact decide_eq_true ⟨hi, hn⟩
   rw [e]; clear e
   go_enter Tryz.func162, Tryz.ntmps162
   go_wp2
   go_ret
   exact ⟨rfl, rfl⟩
  ·
   have e : hasB n i = false := by unfold hasB; exact decide_eq_false (fun h => hn h.2)
   rw [e]; clear e
   go_enter Tryz.func162, Tryz.ntmps162
   go_wp2
   go_ret
   exact ⟨rfl, rfl⟩
 ·
  have e : hasB n i = false := by unfold hasB; exact decide_eq_false (fun h => hi h.1)
  rw [e]; clear e
  have hd : decide (0 ≤ i) = false := decide_eq_false hi
  go_enter Tryz.func162, Tryz.ntmps162
  go_wp2
  go_ret
  exact ⟨rfl, rfl⟩
theorem mask_any (i : Int) (w : World) (h0 : 0 ≤ i) (h1 : i ≤ 9223372036854775807) :
  Calls Tryz.prog 163 #[.int .i64 i] w fun e w' => e = .returned (.int .u8 (mk8 i.toNat : Int)) ∧ w = w' := by
 go_enter Tryz.func163, Tryz.ntmps163
 go_wp2
 go_ret
 refine ⟨ret_int ?_, rfl⟩
 have e : (i % 8).toNat = i.toNat % 8 := by omega
 have h8 := mk8_lt i.toNat
 have c : ((2 : Int) ^ (i.toNat % 8)) = (mk8 i.toNat : Int) := by simp [mk8]
 rw [e, c, Int.emod_eq_of_lt (by omega) (by omega)]
theorem has_yes (A : Option Addr) (n c : Nat) (i : Int) (w : World) (h1 : i ≤ 9223372036854775807) (h : 0 ≤ i) (hn : i / 8 < n) :
  Calls Tryz.prog 162 #[.slice A n c, .int .i64 i] w fun e w' => e = .returned (.bool true) ∧ w = w' := by
 have e : hasB n i = true := by unfold hasB; exact decide_eq_true ⟨h, hn⟩
 have := has_any A n c i w (by omega) h1
 rwa [e] at this
theorem has_no (A : Option Addr) (n c : Nat) (i : Int) (w : World) (h0 : -9223372036854775808 ≤ i) (h1 : i ≤ 9223372036854775807) (h : ¬ (0 ≤ i ∧ i / 8 < n)) :
  Calls Tryz.prog 162 #[.slice A n c, .int .i64 i] w fun e w' => e = .returned (.bool false) ∧ w = w' := by
 have e : hasB n i = false := by unfold hasB; exact decide_eq_false h
 have := has_any A n c i w h0 h1
 rwa [e] at this
set_option maxHeartbeats 400000 in
theorem BClone_any (A : Option Addr) (n c : Nat) (l : List Nat) (w : World) (hr : R8 w A n l) (hn : n ≤ 1099511627776) :
  Calls Tryz.prog 159 #[.slice A n c] w (OwnsB 5 l w) := by
 obtain ⟨i0, hi, hz0, hz1, hz2⟩ := info_parts info_u8
 have hnil := fun w => Lib.run_eql_slice_nil (P := Tryz.prog) w 26 5 A n c 0 0 Tryz.underlying26
 have hlen := Lib.hid hr.len
 rcases A with _ | ad
 ·
  have h0 : n = 0 := by
   rcases Nat.eq_zero_or_pos n with h | h
   ·
    exact h
   ·
    obtain ⟨b, off, e, _⟩ := hr.1.2 h; cases e
  have hl : l = [] := List.eq_nil_of_length_eq_zero (by have := hr.len; omega)
  subst hl
  clear hr h0
  go_enter Tryz.func159, Tryz.ntmps159
  go_wp2
  go_ret
  exact ⟨none, 0, rfl, World.ownsRow_nil _ _ _ _, Below.refl _ _⟩
 ·
  have hnew : ∀ j u, (U8 l)[j]? = some u → (w.alloc (.cells #[] 5)).cell? (ad.add j) = some u := by
   intro j u hu
   rcases Nat.eq_zero_or_pos n with h | h
   ·
    have hl : l = [] := List.eq_nil_of_length_eq_zero (by have := hr.len; omega)
    subst hl
    simp [U8] at hu
   ·
    obtain ⟨b, off, e, hb, hc⟩ := (hr.1.alloc (.cells #[] 5)).2 h
    injection e with e
    subst e
    exact Rd.news hc hr.1.1 j u hu
  have HN := Lib.hid hnew
  clear hnew hr
  go_enter Tryz.func159, Tryz.ntmps159
  go_wp2_with (at_builtin; refine wpList_append_own _ rfl (.tmp 5) (.tmp 6) _ rfl w.heap.size 5 i0 _ 1 1 Tryz.underlying26 hi hz0 hz1 hz2 rfl (by decide) (.slice (some ⟨w.heap.size, 0, none⟩) 0 0) 0 [] rfl (World.ownsRow_made w #[] 0 (Nat.le_refl _) (by simp only [maxLen]; omega) rfl) ad n c (U8 l) rfl ?c1 HN.out (U8_one l) ?c2 ?c3 ?c4 ?_)
  case c1 => rw [U8_length]; have := hlen.out; omega
  case c2 => unfold maxLen; omega
  case c3 => omega
  case c4 => simp
  ·
   intro v' w1 hown hg _
   obtain ⟨A', c', rfl⟩ := own_form hown
   have HO := Lib.hid hown
   have HG := Lib.hid hg
   clear hown hg
   go_wp2
   go_ret
   have e := hlen.out
   refine ⟨A', c', by rw [e]; simp, ?_, ?_⟩
   ·
    have := HO.out
    rw [e]
    simpa using this
   ·
    exact ((Below.refl _ _).alloc (Nat.le_refl _) _).grown HG.out (by simp) (by simp [Value.ownBlock])
theorem str_of_nums (l : List Nat) : strOfNums (l.map fun x => ((x : Nat) : Int)) = str l := by
 unfold strOfNums str
 rw [List.map_map]
 rfl
theorem conv_str (A : Option Addr) (n c : Nat) (l : List Nat) (w : World) (h : R8 w A n l) :
  (convert 26 9 (.slice A n c)).run Tryz.prog w = .ok (.string (str l)) w := by
 have hd : Tryz.prog.underlying 9 = some .string := by kernel_rfl
 rcases Nat.eq_zero_or_pos n with h0 | h0
 ·
  subst h0
  have hl : l = [] := List.eq_nil_of_length_eq_zero h.len
  subst hl
  rcases A with _ | ad
  ·
   exact run_convert_bytes_nil w 26 5 Tryz.underlying26 Tryz.underlying5 0 c 9 hd
  ·
   rw [run_convert_bytes_string w 26 9 5 (some ad) 0 c Tryz.underlying26 Tryz.underlying5 hd]
   rw [run_bytesToString w ad 0 c [] (by simpa using run_loadCells_list (P := Tryz.prog) w ad [] (by simp))]
   rfl
 ·
  obtain ⟨b, off, rfl, hb, hc⟩ := h.1.2 h0
  rw [← str_of_nums]
  refine run_convert_bytes_arg w 26 5 Tryz.underlying26 Tryz.underlying5 b off n c _ (by rw [List.length_map]; exact h.len) (fun i hi => ?_) 9 hd
  have hl : i < l.length := by have := h.len; omega
  rw [hc i hi, U8, List.getElem?_map, List.getElem?_eq_getElem hl]
  simp [hl]
theorem str_inj {a b : List Nat} (ha : ∀ x ∈ a, x < 256) (hb : ∀ x ∈ b, x < 256) (h : str a = str b) : a = b := by
 have h1 : (a.map fun x => UInt8.ofNat x).map UInt8.toNat = (b.map fun x => UInt8.ofNat x).map UInt8.toNat := by
  have h2 := congrArg (fun s : ByteArray => s.data.toList.map UInt8.toNat) h
  simpa [str] using h2
 have key : ∀ l : List Nat, (∀ x ∈ l, x < 256) → (l.map fun x => UInt8.ofNat x).map UInt8.toNat = l := by
  intro l hl
  rw [List.map_map]
  conv => rhs; rw [← List.map_id l]
  refine List.map_congr_left fun x hx => ?_
  simp [Nat.mod_eq_of_lt (hl x hx)]
 rwa [key a ha, key b hb] at h1
theorem Equal_any (A B : Option Addr) (n c m d : Nat) (a b : List Nat) (w : World) (ha : R8 w A n a) (hb : R8 w B m b) :
  Calls Tryz.prog 28 #[.slice A n c, .slice B m d] w fun e w' => e = .returned (.bool (decide (a = b))) ∧ w = w' := by
 have h1 := conv_str A n c a w ha
 have h2 := conv_str B m d b w hb
 have HI := Lib.hid (fun h => str_inj ha.2 hb.2 h)
 clear ha hb
 go_enter Tryz.func28, Tryz.ntmps28
 go_wp2
 go_ret
 refine ⟨ret_bool ?_, rfl⟩
 rw [ByteArray.toList_eq, ByteArray.toList_eq]
 by_cases hab : a = b
 ·
  subst hab; simp
 ·
  rw [decide_eq_false hab]
  refine beq_eq_false_iff_ne.2 fun h => hab (HI.out ?_)
  unfold str at h ⊢
  simpa using h
end Go.Proofs.YtmbgoopkpfhamaaGreat
