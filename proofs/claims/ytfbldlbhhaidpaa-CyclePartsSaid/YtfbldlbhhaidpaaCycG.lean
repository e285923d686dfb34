/-
  Contract of the document's Text of cycles, over the landed code's translation.
-/
import Derived.Test.YtfbldlbhhaidpaaCycE
import Derived.Test.YtfbldlbhhaidpaaCycP
import Derived.Deep.RegionHeld3
import Derived.Laws.Concat
namespace Go.Proofs.Ytfbldlbhhaidpaa
open Go.RowKit
set_option maxRecDepth 100000

/-- A part of one byte of a constant text. -/
theorem slice_const (s : ByteArray) (L : List Nat) (hL : bl s = L) (i : Nat) (j j' : Int) (hj : (i : Int) = j) (hj' : (i : Int) + 1 = j') (x : Nat) (h : L[i]? = some x) (w : World) :
    (Instr.slice 9 (.string s) (some (.int .i64 j)) (some (.int .i64 j')) none).run Try.prog w = .ok (.string (str [x])) w := by
  subst hj
  subst hj'
  have hi : i < s.size := by
    rcases Nat.lt_or_ge i s.size with h1 | h1
    · exact h1
    · rw [← hL, List.getElem?_eq_none (by rw [bl_length]; exact h1)] at h; cases h
  rw [run_slice_string w _ s .i64 .i64 _ _ Try.underlying9 (by omega) (by omega) (by omega)]
  have e : s.extract i (i + 1) = str [x] := by
    rw [← str_bl (s.extract i (i + 1))]
    congr 1
    apply List.ext_getElem?
    intro k
    by_cases hk : k = 0
    · subst hk
      rw [bl_extract (by omega) (by omega), Nat.add_zero, hL, h]
      rfl
    · rw [List.getElem?_eq_none (by rw [bl_length, extract_size (by omega)]; omega), List.getElem?_eq_none (by simp; omega)]
  simp only [Int.toNat_natCast, show ((i : Int) + 1).toNat = i + 1 by omega, e]
theorem wrap_in (x : Int) (h1 : -9223372036854775808 ≤ x) (h2 : x ≤ 9223372036854775807) : IntKind.i64.wrap x = x := by
  simp [IntKind.wrap, IntKind.signed, IntKind.bits]
  omega
/-- Two texts, one behind the other. -/
theorem str_cat (a b : List Nat) (h : a.length + b.length ≤ 4611686018427387904) (w : World) : (Op.stringOp .add (str a) (str b)).run Try.prog w = .ok (.string (str (a ++ b))) w := by
  rw [run_string_add_sum w (str a) (str b) (by rw [str_size, str_size]; omega), str_append]
theorem letter_at1 {k : Int} (h : 1 ≤ k ∧ k ≤ 4) : ([32, 99, 97, 119, 114] : List Nat)[k.toNat]? = some (letB k) := by
  have h4 : k = 1 ∨ k = 2 ∨ k = 3 ∨ k = 4 := by omega
  rcases h4 with rfl | rfl | rfl | rfl <;> rfl

set_option maxHeartbeats 4000000 in
theorem RefTextC_any (A : Option Addr) (n c : Nat) (l : List Cy) (w : World) (hr : RC w A n l) (hn : n ≤ 16777216) (hok : okC l = true) :
    Calls Try.prog 10 #[.slice A n c] w (Gives (.string (str (textL l))) w) := by
  have HR := Lib.hid hr
  have hlen := Lib.hid hr.len
  have h256 := Lib.hid hr.b256
  have HOK := Lib.hid (okC_iff.1 hok)
  have HL4 := Lib.hid (fun k => textL_length (l.take k))
  clear hr hok
  go_enter Try.func10, Try.ntmps10
  go_wp2
  go_loopw [4, 5] (fun s i wr => ∃ k : Nat, k ≤ n ∧ i = .int .i64 (k : Int) ∧ s = .string (str (textL (l.take k))) ∧ Hid (Below w.heap.size w wr)) (fun _ i _ => n - (intOf i).toNat)
  case atStart => exact ⟨0, Nat.zero_le _, rfl, rfl, Below.refl _ _⟩
  case round =>
    obtain ⟨k, hk, rfl, rfl, HB⟩ := hrel
    by_cases hlt : k < n
    · obtain ⟨b1, o1, x, rfl, hb1, HX, ⟨xi1, xi2, xi3⟩, c0, c1⟩ := (HR.out.below HB.out).at_ hlt
      have HTk := Lib.hid (take_snoc HX.out)
      have hk4 := HOK.out _ (List.mem_of_getElem? HX.out)
      obtain ⟨xk, xb⟩ := x
      simp only at c0 c1 xi1 xi2 xi3 hk4
      obtain ⟨a, ha⟩ : ∃ a, letB xk = a := ⟨_, rfl⟩
      obtain ⟨d1, hd1⟩ : ∃ d, hexB (xb / 16) = d := ⟨_, rfl⟩
      obtain ⟨d2, hd2⟩ : ∃ d, hexB (xb % 16) = d := ⟨_, rfl⟩
      have i1 := slice_const ⟨#[32, 99, 97, 119, 114]⟩ _ rfl _ xk (xk + 1) (Int.toNat_of_nonneg (by omega)) (by omega) _ (letter_at1 hk4)
      have i2 := slice_const ⟨#[48, 49, 50, 51, 52, 53, 54, 55, 56, 57, 97, 98, 99, 100, 101, 102]⟩ _ rfl (xb / 16) ((xb : Int) / 16) ((xb : Int) / 16 + 1) (by omega) (by omega) _ (digit_at _ (by omega))
      have i3 := slice_const ⟨#[48, 49, 50, 51, 52, 53, 54, 55, 56, 57, 97, 98, 99, 100, 101, 102]⟩ _ rfl (xb % 16) ((xb : Int) % 16) ((xb : Int) % 16 + 1) (by omega) (by omega) _ (digit_at _ (by omega))
      rw [ha] at i1
      rw [hd1] at i2
      rw [hd2] at i3
      have hw1 : IntKind.i64.wrap (xk + 1) = xk + 1 := wrap_in _ (by omega) (by omega)
      have hw2 : IntKind.i64.wrap ((xb : Int) / 16) = (xb : Int) / 16 := wrap_in _ (by omega) (by omega)
      have hw3 : IntKind.i64.wrap ((xb : Int) / 16 + 1) = (xb : Int) / 16 + 1 := wrap_in _ (by omega) (by omega)
      have hw4 : (xb : Int).tmod 16 = (xb : Int) % 16 := Int.tmod_eq_emod_of_nonneg (by omega)
      have hw5 : IntKind.i64.wrap ((xb : Int) % 16 + 1) = (xb : Int) % 16 + 1 := wrap_in _ (by omega) (by omega)
      have htx : tx ⟨xk, xb⟩ = [a, d1, d2] := by unfold tx; simp only; rw [ha, hd1, hd2]
      by_cases h0 : k = 0
      · subst h0
        have HT := Lib.hid (show textL (l.take (0 + 1)) = textL (l.take 0) ++ [a] ++ [d1] ++ [d2] by
          rw [HTk.out]
          show textL [_] = _
          rw [textL_one, htx]
          rfl)
        clear ha hd1 hd2 htx
        simp only [Nat.zero_mul, Nat.add_zero] at c0 c1
        have hlk := HL4.out 0
        rw [List.length_take, hlen.out, Nat.min_eq_left (by omega)] at hlk
        have q1 := str_cat (textL (l.take 0)) [a] (by simp only [List.length_cons, List.length_nil]; omega)
        have q2 := str_cat (textL (l.take 0) ++ [a]) [d1] (by simp only [List.length_append, List.length_cons, List.length_nil]; omega)
        have q3 := str_cat (textL (l.take 0) ++ [a] ++ [d1]) [d2] (by simp only [List.length_append, List.length_cons, List.length_nil]; omega)
        obtain ⟨V0, hV0⟩ : ∃ V, Hid (str (textL (l.take 0)) = V) := ⟨_, Lib.hid rfl⟩
        obtain ⟨V1, hV1⟩ : ∃ V, Hid (str (textL (l.take 0) ++ [a]) = V) := ⟨_, Lib.hid rfl⟩
        obtain ⟨V2, hV2⟩ : ∃ V, Hid (str (textL (l.take 0) ++ [a] ++ [d1]) = V) := ⟨_, Lib.hid rfl⟩
        obtain ⟨V3, hV3⟩ : ∃ V, Hid (str (textL (l.take 0) ++ [a] ++ [d1] ++ [d2]) = V) := ⟨_, Lib.hid rfl⟩
        rw [hV0.out, hV1.out] at q1
        rw [hV1.out, hV2.out] at q2
        rw [hV2.out, hV3.out] at q3
        rw [hV0.out]
        clear hlk
        go_wp2
        refine wp_region_noPanic ?_
        refine wp_region_held_drew (S := fun w' => Below wr.heap.size wr w') (by kernel_rfl) ((Below.refl _ _).drew) (fun C0 => ?_)
        refine wpAnyH_take (i := 0) (oi := { dst := some 29, op := Op.move (Operand.tmp 4), type := 9, pos := "ref.go:29", after := #[], guard := none }) (v := ?_) rfl (by kernel_rfl) (by kernel_rfl) (by kernel_rfl) (fun _ _ _ h => h) (Or.inl ⟨by rfl, ?_⟩) C0 ?_
        rotate_left
        · intro W' hSw
          clear hSw
          go_simp <;> with_reducible rfl
        try simp only [Act.put, List.setIfInBounds_toArray, List.set_cons_zero, List.set_cons_succ]
        refine wpAnyH_take (i := 1) (oi := { dst := some 30, op := Op.move (Operand.tmp 6), type := 3, pos := "ref.go:29", after := #[], guard := none }) (v := ?_) rfl (by kernel_rfl) (by kernel_rfl) (by kernel_rfl) (fun _ _ _ h => h) (Or.inl ⟨by rfl, ?_⟩) C0 ?_
        rotate_left
        · intro W' hSw
          clear hSw
          go_simp <;> with_reducible rfl
        try simp only [Act.put, List.setIfInBounds_toArray, List.set_cons_zero, List.set_cons_succ]
        refine wpAnyH_take (i := 2) (oi := { dst := some 31, op := Op.move (Operand.tmp 6), type := 3, pos := "ref.go:29", after := #[], guard := none }) (v := ?_) rfl (by kernel_rfl) (by kernel_rfl) (by kernel_rfl) (fun _ _ _ h => h) (Or.inl ⟨by rfl, ?_⟩) C0 ?_
        rotate_left
        · intro W' hSw
          clear hSw
          go_simp <;> with_reducible rfl
        try simp only [Act.put, List.setIfInBounds_toArray, List.set_cons_zero, List.set_cons_succ]
        refine wpAnyH_take (i := 3) (oi := { dst := some 32, op := Op.binOp BinOp.add 3 (Operand.tmp 31) (Operand.const (Value.int IntKind.i64 1)) 3, type := 3, pos := "ref.go:29", after := #[{ on := 2, ground := Ground.data }], guard := none }) (v := ?_) rfl (by kernel_rfl) (by kernel_rfl) (by kernel_rfl) (fun _ _ _ h => h) (Or.inl ⟨by rfl, ?_⟩) C0 ?_
        rotate_left
        · intro W' hSw
          clear hSw
          go_simp <;> with_reducible rfl
        try simp only [Act.put, List.setIfInBounds_toArray, List.set_cons_zero, List.set_cons_succ]
        refine wpAnyH_take (i := 4) (oi := { dst := some 33, op := Op.slice 9 (Operand.const (Value.string { data := #[32, 99, 97, 119, 114] })) (some (Operand.tmp 30)) (some (Operand.tmp 32)) none, type := 9, pos := "ref.go:29", after := #[{ on := 1, ground := Ground.data }, { on := 3, ground := Ground.data }], guard := none }) (v := ?_) rfl (by kernel_rfl) (by kernel_rfl) (by kernel_rfl) (fun _ _ _ h => h) (Or.inl ⟨by rfl, ?_⟩) C0 ?_
        rotate_left
        · intro W' hSw
          clear hSw
          go_simp <;> with_reducible rfl
        try simp only [Act.put, List.setIfInBounds_toArray, List.set_cons_zero, List.set_cons_succ]
        refine wpAnyH_take (i := 5) (oi := { dst := some 34, op := Op.binOp BinOp.add 9 (Operand.tmp 29) (Operand.tmp 33) 9, type := 9, pos := "ref.go:29", after := #[{ on := 0, ground := Ground.data }, { on := 4, ground := Ground.data }], guard := none }) (v := ?_) rfl (by kernel_rfl) (by kernel_rfl) (by kernel_rfl) (fun _ _ _ h => h) (Or.inl ⟨by rfl, ?_⟩) C0 ?_
        rotate_left
        · intro W' hSw
          clear hSw
          go_simp <;> with_reducible rfl
        try simp only [Act.put, List.setIfInBounds_toArray, List.set_cons_zero, List.set_cons_succ]
        refine wpAnyH_take (i := 6) (oi := { dst := some 35, op := Op.move (Operand.tmp 3), type := 9, pos := "ref.go:29", after := #[], guard := none }) (v := ?_) rfl (by kernel_rfl) (by kernel_rfl) (by kernel_rfl) (fun _ _ _ h => h) (Or.inl ⟨by rfl, ?_⟩) C0 ?_
        rotate_left
        · intro W' hSw
          clear hSw
          go_simp <;> with_reducible rfl
        try simp only [Act.put, List.setIfInBounds_toArray, List.set_cons_zero, List.set_cons_succ]
        refine wpAnyH_take (i := 7) (oi := { dst := some 36, op := Op.move (Operand.tmp 7), type := 3, pos := "ref.go:29", after := #[], guard := none }) (v := ?_) rfl (by kernel_rfl) (by kernel_rfl) (by kernel_rfl) (fun _ _ _ h => h) (Or.inl ⟨by rfl, ?_⟩) C0 ?_
        rotate_left
        · intro W' hSw
          clear hSw
          go_simp <;> with_reducible rfl
        try simp only [Act.put, List.setIfInBounds_toArray, List.set_cons_zero, List.set_cons_succ]
        refine wpAnyH_take (i := 8) (oi := { dst := some 37, op := Op.binOp BinOp.quo 3 (Operand.tmp 36) (Operand.const (Value.int IntKind.i64 16)) 3, type := 3, pos := "ref.go:29", after := #[{ on := 7, ground := Ground.data }], guard := none }) (v := ?_) rfl (by kernel_rfl) (by kernel_rfl) (by kernel_rfl) (fun _ _ _ h => h) (Or.inl ⟨by rfl, ?_⟩) C0 ?_
        rotate_left
        · intro W' hSw
          clear hSw
          go_simp <;> with_reducible rfl
        try simp only [Act.put, List.setIfInBounds_toArray, List.set_cons_zero, List.set_cons_succ]
        refine wpAnyH_take (i := 9) (oi := { dst := some 38, op := Op.move (Operand.tmp 7), type := 3, pos := "ref.go:29", after := #[], guard := none }) (v := ?_) rfl (by kernel_rfl) (by kernel_rfl) (by kernel_rfl) (fun _ _ _ h => h) (Or.inl ⟨by rfl, ?_⟩) C0 ?_
        rotate_left
        · intro W' hSw
          clear hSw
          go_simp <;> with_reducible rfl
        try simp only [Act.put, List.setIfInBounds_toArray, List.set_cons_zero, List.set_cons_succ]
        refine wpAnyH_take (i := 10) (oi := { dst := some 39, op := Op.binOp BinOp.quo 3 (Operand.tmp 38) (Operand.const (Value.int IntKind.i64 16)) 3, type := 3, pos := "ref.go:29", after := #[{ on := 9, ground := Ground.data }], guard := none }) (v := ?_) rfl (by kernel_rfl) (by kernel_rfl) (by kernel_rfl) (fun _ _ _ h => h) (Or.inl ⟨by rfl, ?_⟩) C0 ?_
        rotate_left
        · intro W' hSw
          clear hSw
          go_simp <;> with_reducible rfl
        try simp only [Act.put, List.setIfInBounds_toArray, List.set_cons_zero, List.set_cons_succ]
        refine wpAnyH_take (i := 11) (oi := { dst := some 40, op := Op.binOp BinOp.add 3 (Operand.tmp 39) (Operand.const (Value.int IntKind.i64 1)) 3, type := 3, pos := "ref.go:29", after := #[{ on := 10, ground := Ground.data }], guard := none }) (v := ?_) rfl (by kernel_rfl) (by kernel_rfl) (by kernel_rfl) (fun _ _ _ h => h) (Or.inl ⟨by rfl, ?_⟩) C0 ?_
        rotate_left
        · intro W' hSw
          clear hSw
          go_simp <;> with_reducible rfl
        try simp only [Act.put, List.setIfInBounds_toArray, List.set_cons_zero, List.set_cons_succ]
        refine wpAnyH_take (i := 12) (oi := { dst := some 41, op := Op.slice 9 (Operand.tmp 35) (some (Operand.tmp 37)) (some (Operand.tmp 40)) none, type := 9, pos := "ref.go:29", after := #[{ on := 6, ground := Ground.data }, { on := 8, ground := Ground.data }, { on := 11, ground := Ground.data }], guard := none }) (v := ?_) rfl (by kernel_rfl) (by kernel_rfl) (by kernel_rfl) (fun _ _ _ h => h) (Or.inl ⟨by rfl, ?_⟩) C0 ?_
        rotate_left
        · intro W' hSw
          clear hSw
          go_simp <;> with_reducible rfl
        try simp only [Act.put, List.setIfInBounds_toArray, List.set_cons_zero, List.set_cons_succ]
        refine wpAnyH_take (i := 13) (oi := { dst := some 42, op := Op.binOp BinOp.add 9 (Operand.tmp 34) (Operand.tmp 41) 9, type := 9, pos := "ref.go:29", after := #[{ on := 5, ground := Ground.data }, { on := 12, ground := Ground.data }], guard := none }) (v := ?_) rfl (by kernel_rfl) (by kernel_rfl) (by kernel_rfl) (fun _ _ _ h => h) (Or.inl ⟨by rfl, ?_⟩) C0 ?_
        rotate_left
        · intro W' hSw
          clear hSw
          go_simp <;> with_reducible rfl
        try simp only [Act.put, List.setIfInBounds_toArray, List.set_cons_zero, List.set_cons_succ]
        refine wpAnyH_take (i := 14) (oi := { dst := some 43, op := Op.move (Operand.tmp 3), type := 9, pos := "ref.go:29", after := #[], guard := none }) (v := ?_) rfl (by kernel_rfl) (by kernel_rfl) (by kernel_rfl) (fun _ _ _ h => h) (Or.inl ⟨by rfl, ?_⟩) C0 ?_
        rotate_left
        · intro W' hSw
          clear hSw
          go_simp <;> with_reducible rfl
        try simp only [Act.put, List.setIfInBounds_toArray, List.set_cons_zero, List.set_cons_succ]
        refine wpAnyH_take (i := 15) (oi := { dst := some 44, op := Op.move (Operand.tmp 7), type := 3, pos := "ref.go:29", after := #[], guard := none }) (v := ?_) rfl (by kernel_rfl) (by kernel_rfl) (by kernel_rfl) (fun _ _ _ h => h) (Or.inl ⟨by rfl, ?_⟩) C0 ?_
        rotate_left
        · intro W' hSw
          clear hSw
          go_simp <;> with_reducible rfl
        try simp only [Act.put, List.setIfInBounds_toArray, List.set_cons_zero, List.set_cons_succ]
        refine wpAnyH_take (i := 16) (oi := { dst := some 45, op := Op.binOp BinOp.rem 3 (Operand.tmp 44) (Operand.const (Value.int IntKind.i64 16)) 3, type := 3, pos := "ref.go:29", after := #[{ on := 15, ground := Ground.data }], guard := none }) (v := ?_) rfl (by kernel_rfl) (by kernel_rfl) (by kernel_rfl) (fun _ _ _ h => h) (Or.inl ⟨by rfl, ?_⟩) C0 ?_
        rotate_left
        · intro W' hSw
          clear hSw
          go_simp <;> with_reducible rfl
        try simp only [Act.put, List.setIfInBounds_toArray, List.set_cons_zero, List.set_cons_succ]
        refine wpAnyH_take (i := 17) (oi := { dst := some 46, op := Op.move (Operand.tmp 7), type := 3, pos := "ref.go:29", after := #[], guard := none }) (v := ?_) rfl (by kernel_rfl) (by kernel_rfl) (by kernel_rfl) (fun _ _ _ h => h) (Or.inl ⟨by rfl, ?_⟩) C0 ?_
        rotate_left
        · intro W' hSw
          clear hSw
          go_simp <;> with_reducible rfl
        try simp only [Act.put, List.setIfInBounds_toArray, List.set_cons_zero, List.set_cons_succ]
        refine wpAnyH_take (i := 18) (oi := { dst := some 47, op := Op.binOp BinOp.rem 3 (Operand.tmp 46) (Operand.const (Value.int IntKind.i64 16)) 3, type := 3, pos := "ref.go:29", after := #[{ on := 17, ground := Ground.data }], guard := none }) (v := ?_) rfl (by kernel_rfl) (by kernel_rfl) (by kernel_rfl) (fun _ _ _ h => h) (Or.inl ⟨by rfl, ?_⟩) C0 ?_
        rotate_left
        · intro W' hSw
          clear hSw
          go_simp <;> with_reducible rfl
        try simp only [Act.put, List.setIfInBounds_toArray, List.set_cons_zero, List.set_cons_succ]
        refine wpAnyH_take (i := 19) (oi := { dst := some 48, op := Op.binOp BinOp.add 3 (Operand.tmp 47) (Operand.const (Value.int IntKind.i64 1)) 3, type := 3, pos := "ref.go:29", after := #[{ on := 18, ground := Ground.data }], guard := none }) (v := ?_) rfl (by kernel_rfl) (by kernel_rfl) (by kernel_rfl) (fun _ _ _ h => h) (Or.inl ⟨by rfl, ?_⟩) C0 ?_
        rotate_left
        · intro W' hSw
          clear hSw
          go_simp <;> with_reducible rfl
        try simp only [Act.put, List.setIfInBounds_toArray, List.set_cons_zero, List.set_cons_succ]
        refine wpAnyH_take (i := 20) (oi := { dst := some 49, op := Op.slice 9 (Operand.tmp 43) (some (Operand.tmp 45)) (some (Operand.tmp 48)) none, type := 9, pos := "ref.go:29", after := #[{ on := 14, ground := Ground.data }, { on := 16, ground := Ground.data }, { on := 19, ground := Ground.data }], guard := none }) (v := ?_) rfl (by kernel_rfl) (by kernel_rfl) (by kernel_rfl) (fun _ _ _ h => h) (Or.inl ⟨by rfl, ?_⟩) C0 ?_
        rotate_left
        · intro W' hSw
          clear hSw
          go_simp <;> with_reducible rfl
        try simp only [Act.put, List.setIfInBounds_toArray, List.set_cons_zero, List.set_cons_succ]
        refine wpAnyH_take (i := 21) (oi := { dst := some 50, op := Op.binOp BinOp.add 9 (Operand.tmp 42) (Operand.tmp 49) 9, type := 9, pos := "ref.go:29", after := #[{ on := 13, ground := Ground.data }, { on := 20, ground := Ground.data }], guard := none }) (v := ?_) rfl (by kernel_rfl) (by kernel_rfl) (by kernel_rfl) (fun _ _ _ h => h) (Or.inl ⟨by rfl, ?_⟩) C0 ?_
        rotate_left
        · intro W' hSw
          clear hSw
          go_simp <;> with_reducible rfl
        try simp only [Act.put, List.setIfInBounds_toArray, List.set_cons_zero, List.set_cons_succ]
        refine wpAnyH_take (i := 22) (oi := { dst := some 4, op := Op.assign (Operand.tmp 50), type := 9, pos := "ref.go:29", after := #[{ on := 21, ground := Ground.data }, { on := 0, ground := Ground.phase }, { on := 1, ground := Ground.phase }, { on := 2, ground := Ground.phase }, { on := 3, ground := Ground.phase }, { on := 4, ground := Ground.phase }, { on := 5, ground := Ground.phase }, { on := 6, ground := Ground.phase }, { on := 7, ground := Ground.phase }, { on := 8, ground := Ground.phase }, { on := 9, ground := Ground.phase }, { on := 10, ground := Ground.phase }, { on := 11, ground := Ground.phase }, { on := 12, ground := Ground.phase }, { on := 13, ground := Ground.phase }, { on := 14, ground := Ground.phase }, { on := 15, ground := Ground.phase }, { on := 16, ground := Ground.phase }, { on := 17, ground := Ground.phase }, { on := 18, ground := Ground.phase }, { on := 19, ground := Ground.phase }, { on := 20, ground := Ground.phase }, { on := 21, ground := Ground.phase }], guard := none }) (v := ?_) rfl (by kernel_rfl) (by kernel_rfl) (by kernel_rfl) (fun _ _ _ h => h) (Or.inl ⟨by rfl, ?_⟩) C0 ?_
        rotate_left
        · intro W' hSw
          clear hSw
          go_simp <;> with_reducible rfl
        try simp only [Act.put, List.setIfInBounds_toArray, List.set_cons_zero, List.set_cons_succ]
        refine wpAnyH_done (by kernel_rfl) ?_ _
        refine NoPanic.normal ?_
        have B2 := Lib.hid (below_step HB.out C0)
        go_wp2
        go_roundw
        case rel => exact ⟨0 + 1, by omega, by go_num, by rw [HT.out, hV3.out], B2⟩
        case measure => simp [intOf]; omega
      · have e0 : 0 < k := by omega
        have HT := Lib.hid (show textL (l.take (k + 1)) = textL (l.take k) ++ [32] ++ [a] ++ [d1] ++ [d2] by
          rw [HTk.out, textL_snoc _ _ (by intro h; have := congrArg List.length h; rw [List.length_take, hlen.out] at this; simp at this; omega), htx]
          simp)
        have q0 : ∀ w, (Op.stringOp .add (str (textL (l.take k))) ⟨#[32]⟩).run Try.prog w = .ok (.string (str (textL (l.take k) ++ [32]))) w := str_cat (textL (l.take k)) [32] (by
          have hlk := HL4.out k
          rw [List.length_take, hlen.out, Nat.min_eq_left (by omega)] at hlk
          rw [hlk]
          simp only [List.length_cons, List.length_nil]
          omega)
        obtain ⟨Vk, hVk⟩ : ∃ V, Hid (str (textL (l.take k)) = V) := ⟨_, Lib.hid rfl⟩
        rw [hVk.out] at q0 ⊢
        clear ha hd1 hd2 htx
        have hlk := HL4.out k
        rw [List.length_take, hlen.out, Nat.min_eq_left (by omega)] at hlk
        have q1 := str_cat (textL (l.take k) ++ [32]) [a] (by simp only [List.length_append, List.length_cons, List.length_nil]; omega)
        have q2 := str_cat (textL (l.take k) ++ [32] ++ [a]) [d1] (by simp only [List.length_append, List.length_cons, List.length_nil]; omega)
        have q3 := str_cat (textL (l.take k) ++ [32] ++ [a] ++ [d1]) [d2] (by simp only [List.length_append, List.length_cons, List.length_nil]; omega)
        obtain ⟨V0, hV0⟩ : ∃ V, Hid (str (textL (l.take k) ++ [32]) = V) := ⟨_, Lib.hid rfl⟩
        obtain ⟨V1, hV1⟩ : ∃ V, Hid (str (textL (l.take k) ++ [32] ++ [a]) = V) := ⟨_, Lib.hid rfl⟩
        obtain ⟨V2, hV2⟩ : ∃ V, Hid (str (textL (l.take k) ++ [32] ++ [a] ++ [d1]) = V) := ⟨_, Lib.hid rfl⟩
        obtain ⟨V3, hV3⟩ : ∃ V, Hid (str (textL (l.take k) ++ [32] ++ [a] ++ [d1] ++ [d2]) = V) := ⟨_, Lib.hid rfl⟩
        rw [hV0.out, hV1.out] at q1
        rw [hV1.out, hV2.out] at q2
        rw [hV2.out, hV3.out] at q3
        rw [hV0.out] at q0
        clear hlk
        go_wp2
        refine wp_region_noPanic ?_
        refine wp_region_held_drew (S := fun w' => Below wr.heap.size wr w') (by kernel_rfl) ((Below.refl _ _).drew) (fun C0 => ?_)
        refine wpAnyH_take (i := 0) (oi := { dst := some 29, op := Op.move (Operand.tmp 4), type := 9, pos := "ref.go:29", after := #[], guard := none }) (v := ?_) rfl (by kernel_rfl) (by kernel_rfl) (by kernel_rfl) (fun _ _ _ h => h) (Or.inl ⟨by rfl, ?_⟩) C0 ?_
        rotate_left
        · intro W' hSw
          clear hSw
          go_simp <;> with_reducible rfl
        try simp only [Act.put, List.setIfInBounds_toArray, List.set_cons_zero, List.set_cons_succ]
        refine wpAnyH_take (i := 1) (oi := { dst := some 30, op := Op.move (Operand.tmp 6), type := 3, pos := "ref.go:29", after := #[], guard := none }) (v := ?_) rfl (by kernel_rfl) (by kernel_rfl) (by kernel_rfl) (fun _ _ _ h => h) (Or.inl ⟨by rfl, ?_⟩) C0 ?_
        rotate_left
        · intro W' hSw
          clear hSw
          go_simp <;> with_reducible rfl
        try simp only [Act.put, List.setIfInBounds_toArray, List.set_cons_zero, List.set_cons_succ]
        refine wpAnyH_take (i := 2) (oi := { dst := some 31, op := Op.move (Operand.tmp 6), type := 3, pos := "ref.go:29", after := #[], guard := none }) (v := ?_) rfl (by kernel_rfl) (by kernel_rfl) (by kernel_rfl) (fun _ _ _ h => h) (Or.inl ⟨by rfl, ?_⟩) C0 ?_
        rotate_left
        · intro W' hSw
          clear hSw
          go_simp <;> with_reducible rfl
        try simp only [Act.put, List.setIfInBounds_toArray, List.set_cons_zero, List.set_cons_succ]
        refine wpAnyH_take (i := 3) (oi := { dst := some 32, op := Op.binOp BinOp.add 3 (Operand.tmp 31) (Operand.const (Value.int IntKind.i64 1)) 3, type := 3, pos := "ref.go:29", after := #[{ on := 2, ground := Ground.data }], guard := none }) (v := ?_) rfl (by kernel_rfl) (by kernel_rfl) (by kernel_rfl) (fun _ _ _ h => h) (Or.inl ⟨by rfl, ?_⟩) C0 ?_
        rotate_left
        · intro W' hSw
          clear hSw
          go_simp <;> with_reducible rfl
        try simp only [Act.put, List.setIfInBounds_toArray, List.set_cons_zero, List.set_cons_succ]
        refine wpAnyH_take (i := 4) (oi := { dst := some 33, op := Op.slice 9 (Operand.const (Value.string { data := #[32, 99, 97, 119, 114] })) (some (Operand.tmp 30)) (some (Operand.tmp 32)) none, type := 9, pos := "ref.go:29", after := #[{ on := 1, ground := Ground.data }, { on := 3, ground := Ground.data }], guard := none }) (v := ?_) rfl (by kernel_rfl) (by kernel_rfl) (by kernel_rfl) (fun _ _ _ h => h) (Or.inl ⟨by rfl, ?_⟩) C0 ?_
        rotate_left
        · intro W' hSw
          clear hSw
          go_simp <;> with_reducible rfl
        try simp only [Act.put, List.setIfInBounds_toArray, List.set_cons_zero, List.set_cons_succ]
        refine wpAnyH_take (i := 5) (oi := { dst := some 34, op := Op.binOp BinOp.add 9 (Operand.tmp 29) (Operand.tmp 33) 9, type := 9, pos := "ref.go:29", after := #[{ on := 0, ground := Ground.data }, { on := 4, ground := Ground.data }], guard := none }) (v := ?_) rfl (by kernel_rfl) (by kernel_rfl) (by kernel_rfl) (fun _ _ _ h => h) (Or.inl ⟨by rfl, ?_⟩) C0 ?_
        rotate_left
        · intro W' hSw
          clear hSw
          go_simp <;> with_reducible rfl
        try simp only [Act.put, List.setIfInBounds_toArray, List.set_cons_zero, List.set_cons_succ]
        refine wpAnyH_take (i := 6) (oi := { dst := some 35, op := Op.move (Operand.tmp 3), type := 9, pos := "ref.go:29", after := #[], guard := none }) (v := ?_) rfl (by kernel_rfl) (by kernel_rfl) (by kernel_rfl) (fun _ _ _ h => h) (Or.inl ⟨by rfl, ?_⟩) C0 ?_
        rotate_left
        · intro W' hSw
          clear hSw
          go_simp <;> with_reducible rfl
        try simp only [Act.put, List.setIfInBounds_toArray, List.set_cons_zero, List.set_cons_succ]
        refine wpAnyH_take (i := 7) (oi := { dst := some 36, op := Op.move (Operand.tmp 7), type := 3, pos := "ref.go:29", after := #[], guard := none }) (v := ?_) rfl (by kernel_rfl) (by kernel_rfl) (by kernel_rfl) (fun _ _ _ h => h) (Or.inl ⟨by rfl, ?_⟩) C0 ?_
        rotate_left
        · intro W' hSw
          clear hSw
          go_simp <;> with_reducible rfl
        try simp only [Act.put, List.setIfInBounds_toArray, List.set_cons_zero, List.set_cons_succ]
        refine wpAnyH_take (i := 8) (oi := { dst := some 37, op := Op.binOp BinOp.quo 3 (Operand.tmp 36) (Operand.const (Value.int IntKind.i64 16)) 3, type := 3, pos := "ref.go:29", after := #[{ on := 7, ground := Ground.data }], guard := none }) (v := ?_) rfl (by kernel_rfl) (by kernel_rfl) (by kernel_rfl) (fun _ _ _ h => h) (Or.inl ⟨by rfl, ?_⟩) C0 ?_
        rotate_left
        · intro W' hSw
          clear hSw
          go_simp <;> with_reducible rfl
        try simp only [Act.put, List.setIfInBounds_toArray, List.set_cons_zero, List.set_cons_succ]
        refine wpAnyH_take (i := 9) (oi := { dst := some 38, op := Op.move (Operand.tmp 7), type := 3, pos := "ref.go:29", after := #[], guard := none }) (v := ?_) rfl (by kernel_rfl) (by kernel_rfl) (by kernel_rfl) (fun _ _ _ h => h) (Or.inl ⟨by rfl, ?_⟩) C0 ?_
        rotate_left
        · intro W' hSw
          clear hSw
          go_simp <;> with_reducible rfl
        try simp only [Act.put, List.setIfInBounds_toArray, List.set_cons_zero, List.set_cons_succ]
        refine wpAnyH_take (i := 10) (oi := { dst := some 39, op := Op.binOp BinOp.quo 3 (Operand.tmp 38) (Operand.const (Value.int IntKind.i64 16)) 3, type := 3, pos := "ref.go:29", after := #[{ on := 9, ground := Ground.data }], guard := none }) (v := ?_) rfl (by kernel_rfl) (by kernel_rfl) (by kernel_rfl) (fun _ _ _ h => h) (Or.inl ⟨by rfl, ?_⟩) C0 ?_
        rotate_left
        · intro W' hSw
          clear hSw
          go_simp <;> with_reducible rfl
        try simp only [Act.put, List.setIfInBounds_toArray, List.set_cons_zero, List.set_cons_succ]
        refine wpAnyH_take (i := 11) (oi := { dst := some 40, op := Op.binOp BinOp.add 3 (Operand.tmp 39) (Operand.const (Value.int IntKind.i64 1)) 3, type := 3, pos := "ref.go:29", after := #[{ on := 10, ground := Ground.data }], guard := none }) (v := ?_) rfl (by kernel_rfl) (by kernel_rfl) (by kernel_rfl) (fun _ _ _ h => h) (Or.inl ⟨by rfl, ?_⟩) C0 ?_
        rotate_left
        · intro W' hSw
          clear hSw
          go_simp <;> with_reducible rfl
        try simp only [Act.put, List.setIfInBounds_toArray, List.set_cons_zero, List.set_cons_succ]
        refine wpAnyH_take (i := 12) (oi := { dst := some 41, op := Op.slice 9 (Operand.tmp 35) (some (Operand.tmp 37)) (some (Operand.tmp 40)) none, type := 9, pos := "ref.go:29", after := #[{ on := 6, ground := Ground.data }, { on := 8, ground := Ground.data }, { on := 11, ground := Ground.data }], guard := none }) (v := ?_) rfl (by kernel_rfl) (by kernel_rfl) (by kernel_rfl) (fun _ _ _ h => h) (Or.inl ⟨by rfl, ?_⟩) C0 ?_
        rotate_left
        · intro W' hSw
          clear hSw
          go_simp <;> with_reducible rfl
        try simp only [Act.put, List.setIfInBounds_toArray, List.set_cons_zero, List.set_cons_succ]
        refine wpAnyH_take (i := 13) (oi := { dst := some 42, op := Op.binOp BinOp.add 9 (Operand.tmp 34) (Operand.tmp 41) 9, type := 9, pos := "ref.go:29", after := #[{ on := 5, ground := Ground.data }, { on := 12, ground := Ground.data }], guard := none }) (v := ?_) rfl (by kernel_rfl) (by kernel_rfl) (by kernel_rfl) (fun _ _ _ h => h) (Or.inl ⟨by rfl, ?_⟩) C0 ?_
        rotate_left
        · intro W' hSw
          clear hSw
          go_simp <;> with_reducible rfl
        try simp only [Act.put, List.setIfInBounds_toArray, List.set_cons_zero, List.set_cons_succ]
        refine wpAnyH_take (i := 14) (oi := { dst := some 43, op := Op.move (Operand.tmp 3), type := 9, pos := "ref.go:29", after := #[], guard := none }) (v := ?_) rfl (by kernel_rfl) (by kernel_rfl) (by kernel_rfl) (fun _ _ _ h => h) (Or.inl ⟨by rfl, ?_⟩) C0 ?_
        rotate_left
        · intro W' hSw
          clear hSw
          go_simp <;> with_reducible rfl
        try simp only [Act.put, List.setIfInBounds_toArray, List.set_cons_zero, List.set_cons_succ]
        refine wpAnyH_take (i := 15) (oi := { dst := some 44, op := Op.move (Operand.tmp 7), type := 3, pos := "ref.go:29", after := #[], guard := none }) (v := ?_) rfl (by kernel_rfl) (by kernel_rfl) (by kernel_rfl) (fun _ _ _ h => h) (Or.inl ⟨by rfl, ?_⟩) C0 ?_
        rotate_left
        · intro W' hSw
          clear hSw
          go_simp <;> with_reducible rfl
        try simp only [Act.put, List.setIfInBounds_toArray, List.set_cons_zero, List.set_cons_succ]
        refine wpAnyH_take (i := 16) (oi := { dst := some 45, op := Op.binOp BinOp.rem 3 (Operand.tmp 44) (Operand.const (Value.int IntKind.i64 16)) 3, type := 3, pos := "ref.go:29", after := #[{ on := 15, ground := Ground.data }], guard := none }) (v := ?_) rfl (by kernel_rfl) (by kernel_rfl) (by kernel_rfl) (fun _ _ _ h => h) (Or.inl ⟨by rfl, ?_⟩) C0 ?_
        rotate_left
        · intro W' hSw
          clear hSw
          go_simp <;> with_reducible rfl
        try simp only [Act.put, List.setIfInBounds_toArray, List.set_cons_zero, List.set_cons_succ]
        refine wpAnyH_take (i := 17) (oi := { dst := some 46, op := Op.move (Operand.tmp 7), type := 3, pos := "ref.go:29", after := #[], guard := none }) (v := ?_) rfl (by kernel_rfl) (by kernel_rfl) (by kernel_rfl) (fun _ _ _ h => h) (Or.inl ⟨by rfl, ?_⟩) C0 ?_
        rotate_left
        · intro W' hSw
          clear hSw
          go_simp <;> with_reducible rfl
        try simp only [Act.put, List.setIfInBounds_toArray, List.set_cons_zero, List.set_cons_succ]
        refine wpAnyH_take (i := 18) (oi := { dst := some 47, op := Op.binOp BinOp.rem 3 (Operand.tmp 46) (Operand.const (Value.int IntKind.i64 16)) 3, type := 3, pos := "ref.go:29", after := #[{ on := 17, ground := Ground.data }], guard := none }) (v := ?_) rfl (by kernel_rfl) (by kernel_rfl) (by kernel_rfl) (fun _ _ _ h => h) (Or.inl ⟨by rfl, ?_⟩) C0 ?_
        rotate_left
        · intro W' hSw
          clear hSw
          go_simp <;> with_reducible rfl
        try simp only [Act.put, List.setIfInBounds_toArray, List.set_cons_zero, List.set_cons_succ]
        refine wpAnyH_take (i := 19) (oi := { dst := some 48, op := Op.binOp BinOp.add 3 (Operand.tmp 47) (Operand.const (Value.int IntKind.i64 1)) 3, type := 3, pos := "ref.go:29", after := #[{ on := 18, ground := Ground.data }], guard := none }) (v := ?_) rfl (by kernel_rfl) (by kernel_rfl) (by kernel_rfl) (fun _ _ _ h => h) (Or.inl ⟨by rfl, ?_⟩) C0 ?_
        rotate_left
        · intro W' hSw
          clear hSw
          go_simp <;> with_reducible rfl
        try simp only [Act.put, List.setIfInBounds_toArray, List.set_cons_zero, List.set_cons_succ]
        refine wpAnyH_take (i := 20) (oi := { dst := some 49, op := Op.slice 9 (Operand.tmp 43) (some (Operand.tmp 45)) (some (Operand.tmp 48)) none, type := 9, pos := "ref.go:29", after := #[{ on := 14, ground := Ground.data }, { on := 16, ground := Ground.data }, { on := 19, ground := Ground.data }], guard := none }) (v := ?_) rfl (by kernel_rfl) (by kernel_rfl) (by kernel_rfl) (fun _ _ _ h => h) (Or.inl ⟨by rfl, ?_⟩) C0 ?_
        rotate_left
        · intro W' hSw
          clear hSw
          go_simp <;> with_reducible rfl
        try simp only [Act.put, List.setIfInBounds_toArray, List.set_cons_zero, List.set_cons_succ]
        refine wpAnyH_take (i := 21) (oi := { dst := some 50, op := Op.binOp BinOp.add 9 (Operand.tmp 42) (Operand.tmp 49) 9, type := 9, pos := "ref.go:29", after := #[{ on := 13, ground := Ground.data }, { on := 20, ground := Ground.data }], guard := none }) (v := ?_) rfl (by kernel_rfl) (by kernel_rfl) (by kernel_rfl) (fun _ _ _ h => h) (Or.inl ⟨by rfl, ?_⟩) C0 ?_
        rotate_left
        · intro W' hSw
          clear hSw
          go_simp <;> with_reducible rfl
        try simp only [Act.put, List.setIfInBounds_toArray, List.set_cons_zero, List.set_cons_succ]
        refine wpAnyH_take (i := 22) (oi := { dst := some 4, op := Op.assign (Operand.tmp 50), type := 9, pos := "ref.go:29", after := #[{ on := 21, ground := Ground.data }, { on := 0, ground := Ground.phase }, { on := 1, ground := Ground.phase }, { on := 2, ground := Ground.phase }, { on := 3, ground := Ground.phase }, { on := 4, ground := Ground.phase }, { on := 5, ground := Ground.phase }, { on := 6, ground := Ground.phase }, { on := 7, ground := Ground.phase }, { on := 8, ground := Ground.phase }, { on := 9, ground := Ground.phase }, { on := 10, ground := Ground.phase }, { on := 11, ground := Ground.phase }, { on := 12, ground := Ground.phase }, { on := 13, ground := Ground.phase }, { on := 14, ground := Ground.phase }, { on := 15, ground := Ground.phase }, { on := 16, ground := Ground.phase }, { on := 17, ground := Ground.phase }, { on := 18, ground := Ground.phase }, { on := 19, ground := Ground.phase }, { on := 20, ground := Ground.phase }, { on := 21, ground := Ground.phase }], guard := none }) (v := ?_) rfl (by kernel_rfl) (by kernel_rfl) (by kernel_rfl) (fun _ _ _ h => h) (Or.inl ⟨by rfl, ?_⟩) C0 ?_
        rotate_left
        · intro W' hSw
          clear hSw
          go_simp <;> with_reducible rfl
        try simp only [Act.put, List.setIfInBounds_toArray, List.set_cons_zero, List.set_cons_succ]
        refine wpAnyH_done (by kernel_rfl) ?_ _
        refine NoPanic.normal ?_
        have B2 := Lib.hid (below_step HB.out C0)
        go_wp2
        go_roundw
        case rel => exact ⟨k + 1, by omega, by go_num, by rw [HT.out, hV3.out], B2⟩
        case measure => simp [intOf]; omega
    · obtain rfl : k = n := by omega
      have hE : l.take k = l := List.take_of_length_le (by rw [hlen.out]; exact Nat.le_refl _)
      rw [hE]
      go_wp2
      go_ret
      exact ⟨rfl, HB.out⟩
end Go.Proofs.Ytfbldlbhhaidpaa
