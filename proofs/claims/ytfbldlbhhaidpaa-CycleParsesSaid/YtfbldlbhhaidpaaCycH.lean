/-
  Contract of the document's Parse of cycles, over the landed code's translation.
-/
import Derived.Test.YtfbldlbhhaidpaaCycP
import Derived.Deep.RegionHeld3
namespace Go.Proofs.Ytfbldlbhhaidpaa
open Go.RowKit
set_option maxRecDepth 100000

/-- Do the bytes of the text below i, as far as it has them, fit? -/
def FitTo (s : List Nat) (i : Nat) : Prop := ∀ j, j < i → j < s.length → fitB (s.getD j 0) (j % 4) = true
theorem getD_of_get {s : List Nat} {i v : Nat} (h : s[i]? = some v) : s.getD i 0 = v := by rw [List.getD_eq_getElem?_getD, h]; rfl
theorem fit_next {s : ByteArray} {i v : Nat} (h : FitTo (bl s) i) (_hi : i < s.size) (hv : (bl s)[i]? = some v) (hf : fitB v (i % 4) = true) : FitTo (bl s) (i + 1) := by
  intro j h1 h2
  by_cases hj : j = i
  · subst hj
    rw [getD_of_get hv]
    exact hf
  · exact h j (by omega) h2
theorem faultL_at {s : List Nat} {i v : Nat} (h : FitTo s i) (hv : s[i]? = some v) (hf : fitB v (i % 4) = false) : faultL s = i + 1 := by
  obtain ⟨hi, rfl⟩ := List.getElem?_eq_some_iff.1 hv
  unfold faultL
  conv => lhs; rw [← List.take_append_drop i s]
  rw [badAt_append, List.drop_eq_getElem_cons hi, badAt_cons, List.length_take, Nat.min_eq_left (by omega), Nat.zero_add, if_neg (by rw [hf]; simp)]
  intro j hj
  rw [List.length_take] at hj
  have h2 := h j (by omega) (by omega)
  rw [Nat.zero_add, List.getD_eq_getElem?_getD, List.getElem?_take, if_pos (by omega), ← List.getD_eq_getElem?_getD]
  exact h2
theorem faultL_end {s : List Nat} {i : Nat} (hl : s.length = i) (h : FitTo s i) (h0 : i ≠ 0) (h3 : i % 4 ≠ 3) : faultL s = i + 1 := by
  unfold faultL
  conv => lhs; rw [← List.append_nil s]
  rw [badAt_append, badAt_nil, hl, Nat.zero_add, if_neg (by omega)]
  intro j hj
  rw [Nat.zero_add]
  exact h j (by omega) hj
theorem faultL_no {s : List Nat} {i : Nat} (hi : s.length ≤ i) (h : FitTo s i) (h3 : s.length = 0 ∨ s.length % 4 = 3) : faultL s = 0 := faultL_zero.2 ⟨fun j hj => h j (by omega) hj, h3⟩

/-- The cycles of the text and 0; or no cycle, and where it is wrong. -/
def RefParsesCy (s : List Nat) (w : World) (e : Ending) (w' : World) : Prop :=
  Below w.heap.size w w' ∧
  ((0 < faultL s ∧ e = .returned (.tuple #[.slice none 0 0, .int .i64 (faultL s : Int)])) ∨
   (faultL s = 0 ∧ ∃ A c, e = .returned (.tuple #[.slice A (parseL s).length c, .int .i64 0]) ∧ RC w' A (parseL s).length (parseL s)))
theorem RefParsesCy.no {s : List Nat} {w w' : World} {f : Nat} {j : Int} (h : faultL s = f) (hb : Below w.heap.size w w') (hj : j = (f : Int) ∧ 0 < f) : RefParsesCy s w (.returned (.tuple #[.slice none 0 0, .int .i64 j])) w' := by
  obtain ⟨rfl, h0⟩ := hj
  exact ⟨hb, .inl ⟨by omega, by rw [h]⟩⟩

set_option maxHeartbeats 8000000 in
theorem RefParseC_any (s : ByteArray) (w : World) (hs : s.size ≤ 67108864) :
    Calls Try.prog 16 #[.string s] w (RefParsesCy (bl s) w) := by
  have hlen := Lib.hid (bl_length s)
  obtain ⟨i0, ti, tz0, tz1, tz2⟩ := info_parts info_cycle
  go_enter Try.func16, Try.ntmps16
  go_wp2
  go_loopw [4, 5] (fun v i wr => ∃ k p : Nat, p ≤ s.size + 1 ∧ Hid (p = k * 4) ∧ i = .int .i64 (p : Int) ∧ (p < s.size ∨ p = s.size + 1 ∨ s.size = 0) ∧ Hid (wr.ownsRow w.heap.size 31 2 v k (CyC (cysTo (bl s) k))) ∧ Hid (Below w.heap.size w wr) ∧ Hid (FitTo (bl s) p)) (fun _ i _ => s.size + 1 - (intOf i).toNat)
  case atStart => exact ⟨0, 0, Nat.zero_le _, rfl, rfl, by omega, World.ownsRow_nil _ _ _ _, Below.refl _ _, fun j h1 _ => absurd h1 (by omega)⟩
  case round =>
    obtain ⟨k, p, hp, HP4, rfl, hpc, HOr, HBr, HF⟩ := hrel
    by_cases hlt : p < s.size
    · have HX := Lib.hid (bl_at hlt)
      obtain ⟨x, hx⟩ : ∃ x, (s[p]'hlt).toNat = x := ⟨_, rfl⟩
      rw [hx] at HX
      have hx2 : x < 256 := by rw [← hx]; exact (s[p]'hlt).toNat_lt
      by_cases hk0 : letK x = 0
      · have HE := Lib.hid (show faultL (bl s) = p + 1 by rw [faultL_at HF.out HX.out (show fitB x (p % 4) = false by rw [HP4.out, show k * 4 % 4 = 0 by omega]; simp [fitB, hk0])])
        go_wp2_with fail
        refine (letter_any x _).mono ?_
        rintro _ w2 ⟨rfl, rfl⟩
        rw [hk0]
        go_wp2
        go_ret2
        exact RefParsesCy.no HE.out HBr.out (by omega)
      · have hz : w.heap.size ≤ wr.heap.size := HBr.out.size
        have ek : (letK x == 0) = false := beq_eq_false_iff_ne.2 hk0
        have HF1 := Lib.hid (fit_next HF.out hlt HX.out (show fitB x (p % 4) = true by rw [HP4.out, show k * 4 % 4 = 0 by omega]; simp [fitB, hk0]))
        go_wp2_with fail
        refine (letter_any x _).mono ?_
        rintro _ w2 ⟨rfl, rfl⟩
        go_wp2
        go_loop [7] (fun i2 => ∃ i : Nat, 1 ≤ i ∧ i ≤ 3 ∧ i2 = .int .i64 (i : Int) ∧ p + i ≤ s.size ∧ Hid (FitTo (bl s) (p + i))) (fun i2 => 3 - (intOf i2).toNat)
        case atStart => exact ⟨1, by omega, by omega, rfl, by omega, HF1⟩
        case round =>
          obtain ⟨i, hi1, hi3, rfl, hpi, HFi⟩ := hrel
          by_cases hi : i ≤ 2
          · by_cases he : p + i = s.size
            · have e1 : ((p : Int) + (i : Int) == (s.size : Int)) = true := beq_iff_eq.2 (by omega)
              have HE := Lib.hid (show faultL (bl s) = p + i + 1 by rw [faultL_end (show (bl s).length = p + i by rw [hlen.out]; omega) HFi.out (by omega) (by have := HP4.out; omega)])
              go_wp2
              go_ret2
              exact RefParsesCy.no HE.out HBr.out (by omega)
            · have e1 : ((p : Int) + (i : Int) == (s.size : Int)) = false := beq_eq_false_iff_ne.2 (by omega)
              have hl2 : p + i < s.size := by omega
              have ht : ((p : Int) + (i : Int)).toNat = p + i := by omega
              have HY := Lib.hid (bl_at hl2)
              obtain ⟨y, hy⟩ : ∃ x, (s[p + i]'hl2).toNat = x := ⟨_, rfl⟩
              rw [hy] at HY
              have hy2 : y < 256 := by rw [← hy]; exact (s[p + i]'hl2).toNat_lt
              by_cases hd : digI y < 0
              · have ed : decide (digI y < 0) = true := decide_eq_true hd
                have HE := Lib.hid (show faultL (bl s) = p + i + 1 by
                  rw [faultL_at HFi.out HY.out (show fitB y ((p + i) % 4) = false by
                    rw [HP4.out, mod4 k i (by omega)]
                    unfold fitB
                    rw [if_neg (by omega), if_neg (by omega)]
                    exact decide_eq_false (by omega))])
                go_wp2_with fail
                refine (digit_any y _ hy2).mono ?_
                rintro _ w3 ⟨rfl, rfl⟩
                go_wp2
                go_ret2
                exact RefParsesCy.no HE.out HBr.out (by omega)
              · have ed : decide (digI y < 0) = false := decide_eq_false hd
                have HF2 := Lib.hid (fit_next HFi.out hl2 HY.out (show fitB y ((p + i) % 4) = true by
                  rw [HP4.out, mod4 k i (by omega)]
                  unfold fitB
                  rw [if_neg (by omega), if_neg (by omega)]
                  exact decide_eq_true (by omega)))
                go_wp2_with fail
                refine (digit_any y _ hy2).mono ?_
                rintro _ w3 ⟨rfl, rfl⟩
                go_wp2
                go_round
                case rel => exact ⟨i + 1, by omega, by omega, by go_num, by omega, HF2⟩
                case measure => simp [intOf]; omega
          · obtain rfl : i = 3 := by omega
            have HF3 := HFi
            clear HFi
            have hl1 : p + 1 < s.size := by omega
            have hl2 : p + 2 < s.size := by omega
            have HY1 := Lib.hid (bl_at hl1)
            have HZ1 := Lib.hid (bl_at hl2)
            obtain ⟨y, hy⟩ : ∃ x, (s[p + 1]'hl1).toNat = x := ⟨_, rfl⟩
            obtain ⟨z, hz0⟩ : ∃ x, (s[p + 2]'hl2).toNat = x := ⟨_, rfl⟩
            rw [hy] at HY1
            rw [hz0] at HZ1
            have hy2 : y < 256 := by rw [← hy]; exact (s[p + 1]'hl1).toNat_lt
            have hz2 : z < 256 := by rw [← hz0]; exact (s[p + 2]'hl2).toNat_lt
            have fy := HF3.out (p + 1) (by omega) (by rw [hlen.out]; omega)
            have fz := HF3.out (p + 2) (by omega) (by rw [hlen.out]; omega)
            rw [HP4.out, mod4 k 1 (by omega), ← HP4.out, getD_of_get HY1.out] at fy
            rw [HP4.out, mod4 k 2 (by omega), ← HP4.out, getD_of_get HZ1.out] at fz
            simp only [fitB, show ¬((1 : Nat) = 0) by omega, show ¬((1 : Nat) = 3) by omega, if_false, decide_eq_true_eq] at fy
            simp only [fitB, show ¬((2 : Nat) = 0) by omega, show ¬((2 : Nat) = 3) by omega, if_false, decide_eq_true_eq] at fz
            have by_ := digI_bd y
            have bz_ := digI_bd z
            obtain ⟨dy, hdy⟩ := Int.eq_ofNat_of_zero_le fy
            obtain ⟨dz, hdz⟩ := Int.eq_ofNat_of_zero_le fz
            have HY := Lib.hid hdy
            have HZ := Lib.hid hdz
            obtain ⟨kx, hkx⟩ : ∃ kx, Hid (letK x = kx) := ⟨_, Lib.hid rfl⟩
            have HT := Lib.hid (show cysTo (bl s) (k + 1) = cysTo (bl s) k ++ [⟨kx, 16 * dy + dz⟩] by
              rw [cysTo_succ]
              unfold cyAt
              rw [← HP4.out, getD_of_get HX.out, getD_of_get HY1.out, getD_of_get HZ1.out, hkx.out, hdy, hdz]
              congr 3)
            rw [hkx.out]
            have hw1 : IntKind.i64.wrap ((p : Int) + 1) = (p : Int) + 1 := IntWalk.i64_in _ (by omega)
            have hw2 : IntKind.i64.wrap ((p : Int) + 2) = (p : Int) + 2 := IntWalk.i64_in _ (by omega)
            have hw3 : IntKind.i64.wrap (16 * (dy : Int)) = 16 * (dy : Int) := IntWalk.i64_in _ (by omega)
            have hw4 : IntKind.i64.wrap (16 * (dy : Int) + (dz : Int)) = 16 * (dy : Int) + (dz : Int) := IntWalk.i64_in _ (by omega)
            have hw5 : IntKind.u8.wrap (16 * (dy : Int) + (dz : Int)) = 16 * (dy : Int) + (dz : Int) := IntWalk.u8_in _ (by omega)
            have ht1 : ((p : Int) + 1).toNat = p + 1 := by omega
            have ht2 : ((p : Int) + 2).toNat = p + 2 := by omega
            have hc1 : 0 ≤ (p : Int) + 1 ∧ (p : Int) + 1 < (s.size : Int) := by omega
            have hc2 : 0 ≤ (p : Int) + 2 ∧ (p : Int) + 2 < (s.size : Int) := by omega
            have hk5 : k ≤ 67108864 := by have := HP4.out; omega
            clear fy fz hdy hdz by_ bz_ HY1 HZ1 HF1 HF
            go_wp2
            refine wp_region_noPanic ?_
            refine wp_region_held_drew (S := fun w' => Below w.heap.size w w') (by kernel_rfl) (HBr.out.drew) (fun C0 => ?_)
            refine wpAnyH_take (i := 0) (oi := { dst := some 45, op := Op.move (Operand.tmp 4), type := 22, pos := "ref.go:73", after := #[], guard := none }) (v := ?_) rfl (by kernel_rfl) (by kernel_rfl) (by kernel_rfl) (fun _ _ _ h => h) (Or.inl ⟨by rfl, ?_⟩) C0 ?_
            rotate_left
            · intro W' hSw
              clear hSw
              go_simp <;> with_reducible rfl
            try simp only [Act.put, List.setIfInBounds_toArray, List.set_cons_zero, List.set_cons_succ]
            refine wpAnyH_take (i := 1) (oi := { dst := some 46, op := Op.move (Operand.tmp 6), type := 3, pos := "ref.go:73", after := #[], guard := none }) (v := ?_) rfl (by kernel_rfl) (by kernel_rfl) (by kernel_rfl) (fun _ _ _ h => h) (Or.inl ⟨by rfl, ?_⟩) C0 ?_
            rotate_left
            · intro W' hSw
              clear hSw
              go_simp <;> with_reducible rfl
            try simp only [Act.put, List.setIfInBounds_toArray, List.set_cons_zero, List.set_cons_succ]
            refine wpAnyH_take (i := 2) (oi := { dst := some 47, op := Op.move (Operand.tmp 0), type := 9, pos := "ref.go:73", after := #[], guard := none }) (v := ?_) rfl (by kernel_rfl) (by kernel_rfl) (by kernel_rfl) (fun _ _ _ h => h) (Or.inl ⟨by rfl, ?_⟩) C0 ?_
            rotate_left
            · intro W' hSw
              clear hSw
              go_simp <;> with_reducible rfl
            try simp only [Act.put, List.setIfInBounds_toArray, List.set_cons_zero, List.set_cons_succ]
            refine wpAnyH_take (i := 3) (oi := { dst := some 48, op := Op.move (Operand.tmp 5), type := 3, pos := "ref.go:73", after := #[], guard := none }) (v := ?_) rfl (by kernel_rfl) (by kernel_rfl) (by kernel_rfl) (fun _ _ _ h => h) (Or.inl ⟨by rfl, ?_⟩) C0 ?_
            rotate_left
            · intro W' hSw
              clear hSw
              go_simp <;> with_reducible rfl
            try simp only [Act.put, List.setIfInBounds_toArray, List.set_cons_zero, List.set_cons_succ]
            refine wpAnyH_take (i := 4) (oi := { dst := some 49, op := Op.binOp BinOp.add 3 (Operand.tmp 48) (Operand.const (Value.int IntKind.i64 1)) 3, type := 3, pos := "ref.go:73", after := #[{ on := 3, ground := Ground.data }], guard := none }) (v := ?_) rfl (by kernel_rfl) (by kernel_rfl) (by kernel_rfl) (fun _ _ _ h => h) (Or.inl ⟨by rfl, ?_⟩) C0 ?_
            rotate_left
            · intro W' hSw
              clear hSw
              go_simp <;> with_reducible rfl
            try simp only [Act.put, List.setIfInBounds_toArray, List.set_cons_zero, List.set_cons_succ]
            refine wpAnyH_take (i := 5) (oi := { dst := some 50, op := Op.index 9 (Operand.tmp 47) (Operand.tmp 49), type := 5, pos := "ref.go:73", after := #[{ on := 2, ground := Ground.data }, { on := 4, ground := Ground.data }], guard := none }) (v := ?_) rfl (by kernel_rfl) (by kernel_rfl) (by kernel_rfl) (fun _ _ _ h => h) (Or.inl ⟨by rfl, ?_⟩) C0 ?_
            rotate_left
            · intro W' hSw
              clear hSw
              go_simp <;> with_reducible rfl
            try simp only [Act.put, List.setIfInBounds_toArray, List.set_cons_zero, List.set_cons_succ]
            refine wpAnyH_take (i := 8) (oi := { dst := some 53, op := Op.move (Operand.tmp 0), type := 9, pos := "ref.go:73", after := #[], guard := none }) (v := ?_) rfl (by kernel_rfl) (by kernel_rfl) (by kernel_rfl) (fun _ _ _ h => h) (Or.inl ⟨by rfl, ?_⟩) C0 ?_
            rotate_left
            · intro W' hSw
              clear hSw
              go_simp <;> with_reducible rfl
            try simp only [Act.put, List.setIfInBounds_toArray, List.set_cons_zero, List.set_cons_succ]
            refine wpAnyH_take (i := 9) (oi := { dst := some 54, op := Op.move (Operand.tmp 5), type := 3, pos := "ref.go:73", after := #[], guard := none }) (v := ?_) rfl (by kernel_rfl) (by kernel_rfl) (by kernel_rfl) (fun _ _ _ h => h) (Or.inl ⟨by rfl, ?_⟩) C0 ?_
            rotate_left
            · intro W' hSw
              clear hSw
              go_simp <;> with_reducible rfl
            try simp only [Act.put, List.setIfInBounds_toArray, List.set_cons_zero, List.set_cons_succ]
            refine wpAnyH_take (i := 10) (oi := { dst := some 55, op := Op.binOp BinOp.add 3 (Operand.tmp 54) (Operand.const (Value.int IntKind.i64 2)) 3, type := 3, pos := "ref.go:73", after := #[{ on := 9, ground := Ground.data }], guard := none }) (v := ?_) rfl (by kernel_rfl) (by kernel_rfl) (by kernel_rfl) (fun _ _ _ h => h) (Or.inl ⟨by rfl, ?_⟩) C0 ?_
            rotate_left
            · intro W' hSw
              clear hSw
              go_simp <;> with_reducible rfl
            try simp only [Act.put, List.setIfInBounds_toArray, List.set_cons_zero, List.set_cons_succ]
            refine wpAnyH_take (i := 11) (oi := { dst := some 56, op := Op.index 9 (Operand.tmp 53) (Operand.tmp 55), type := 5, pos := "ref.go:73", after := #[{ on := 8, ground := Ground.data }, { on := 10, ground := Ground.data }], guard := none }) (v := ?_) rfl (by kernel_rfl) (by kernel_rfl) (by kernel_rfl) (fun _ _ _ h => h) (Or.inl ⟨by rfl, ?_⟩) C0 ?_
            rotate_left
            · intro W' hSw
              clear hSw
              go_simp <;> with_reducible rfl
            try simp only [Act.put, List.setIfInBounds_toArray, List.set_cons_zero, List.set_cons_succ]
            refine wpAnyH_ready (rs := [6]) (by kernel_rfl) (by simp) ?_
            refine AllReadyH.cons (o := { dst := some 51, op := Op.call { callee := Callee.value (Operand.func 24), args := #[Operand.tmp 50], argTypes := #[5] }, type := 3, pos := "ref.go:73", after := #[{ on := 5, ground := Ground.data }], guard := none }) rfl (fun K hK => ?_) AllReadyH.nil
            go_simp
            refine (digit_any y _ hy2).mono ?_
            rintro _ w3 ⟨rfl, rfl⟩
            rw [HY.out]
            go_wp2_with fail
            refine hK.out _ _ C0 (fun C1 => ?_)
            clear hK K
            try simp only [Act.put, List.setIfInBounds_toArray, List.set_cons_zero, List.set_cons_succ]
            refine wpAnyH_take (i := 7) (oi := { dst := some 52, op := Op.binOp BinOp.mul 3 (Operand.const (Value.int IntKind.i64 16)) (Operand.tmp 51) 3, type := 3, pos := "ref.go:73", after := #[{ on := 6, ground := Ground.data }], guard := none }) (v := ?_) rfl (by kernel_rfl) (by kernel_rfl) (by kernel_rfl) (fun _ _ _ h => h) (Or.inl ⟨by rfl, ?_⟩) C1 ?_
            rotate_left
            · intro W' hSw
              clear hSw
              go_simp <;> with_reducible rfl
            try simp only [Act.put, List.setIfInBounds_toArray, List.set_cons_zero, List.set_cons_succ]
            refine wpAnyH_ready (rs := [12]) (by kernel_rfl) (by simp) ?_
            refine AllReadyH.cons (o := { dst := some 57, op := Op.call { callee := Callee.value (Operand.func 24), args := #[Operand.tmp 56], argTypes := #[5] }, type := 3, pos := "ref.go:73", after := #[{ on := 11, ground := Ground.data }, { on := 6, ground := Ground.chain }], guard := none }) rfl (fun K hK => ?_) AllReadyH.nil
            go_simp
            refine (digit_any z _ hz2).mono ?_
            rintro _ w3 ⟨rfl, rfl⟩
            rw [HZ.out]
            go_wp2_with fail
            refine hK.out _ _ C1 (fun C2 => ?_)
            clear hK K
            try simp only [Act.put, List.setIfInBounds_toArray, List.set_cons_zero, List.set_cons_succ]
            refine wpAnyH_take (i := 13) (oi := { dst := some 58, op := Op.binOp BinOp.add 3 (Operand.tmp 52) (Operand.tmp 57) 3, type := 3, pos := "ref.go:73", after := #[{ on := 7, ground := Ground.data }, { on := 12, ground := Ground.data }], guard := none }) (v := ?_) rfl (by kernel_rfl) (by kernel_rfl) (by kernel_rfl) (fun _ _ _ h => h) (Or.inl ⟨by rfl, ?_⟩) C2 ?_
            rotate_left
            · intro W' hSw
              clear hSw
              go_simp <;> with_reducible rfl
            try simp only [Act.put, List.setIfInBounds_toArray, List.set_cons_zero, List.set_cons_succ]
            refine wpAnyH_take (i := 14) (oi := { dst := some 59, op := Op.convert 3 5 (Operand.tmp 58), type := 5, pos := "ref.go:73", after := #[{ on := 13, ground := Ground.data }], guard := none }) (v := ?_) rfl (by kernel_rfl) (by kernel_rfl) (by kernel_rfl) (fun _ _ _ h => h) (Or.inl ⟨by rfl, ?_⟩) C2 ?_
            rotate_left
            · intro W' hSw
              clear hSw
              go_simp <;> with_reducible rfl
            try simp only [Act.put, List.setIfInBounds_toArray, List.set_cons_zero, List.set_cons_succ]
            refine wpAnyH_take (i := 15) (oi := { dst := some 60, op := Op.build 31 #[(0, Operand.tmp 46), (1, Operand.tmp 59)], type := 31, pos := "ref.go:73", after := #[{ on := 1, ground := Ground.data }, { on := 14, ground := Ground.data }], guard := none }) (v := ?_) rfl (by kernel_rfl) (by kernel_rfl) (by kernel_rfl) (fun _ _ _ h => h) (Or.inl ⟨by rfl, ?_⟩) C2 ?_
            rotate_left
            · intro W' hSw
              clear hSw
              go_simp <;> with_reducible rfl
            try simp only [Act.put, List.setIfInBounds_toArray, List.set_cons_zero, List.set_cons_succ]
            refine wpAnyH_ready (rs := [16]) (by kernel_rfl) (by simp) ?_
            refine AllReadyH.cons (o := { dst := some 61, op := Op.buildSlice 22 1 #[(0, Operand.tmp 60)], type := 22, pos := "ref.go:73", after := #[{ on := 15, ground := Ground.data }], guard := none }) rfl (fun K hK => ?_) AllReadyH.nil
            go_simp
            refine hK.out _ _ (C2.alloc C2.size _) (fun C3 => ?_)
            clear hK K
            try simp only [Act.put, List.setIfInBounds_toArray, List.set_cons_zero, List.set_cons_succ]
            refine wpAnyH_ready (rs := [17]) (by kernel_rfl) (by simp) ?_
            refine AllReadyH.cons (o := { dst := some 62, op := Op.call { callee := Callee.builtin Builtin.append, args := #[Operand.tmp 45, Operand.tmp 61], argTypes := #[22, 22] }, type := 22, pos := "ref.go:73", after := #[{ on := 0, ground := Ground.data }, { on := 16, ground := Ground.data }, { on := 12, ground := Ground.chain }], guard := none }) rfl (fun K hK => ?_) AllReadyH.nil
            rw [if_pos (by rfl)]
            refine wp_append_own (wr.drew.alloc (.cells #[.int .i64 kx, .int .u8 (16 * (dy : Int) + (dz : Int))] 31)) (.tmp 45) (.tmp 61) _ rfl w.heap.size 31 i0 _ 2 16 Try.underlying22 ti tz0 tz1 tz2 rfl (by decide) _ k (CyC (cysTo (bl s) k)) rfl (World.ownsRow.alloc (w := wr.drew) HOr.out _) ⟨wr.heap.size, 0, none⟩ 1 1 [.int .i64 kx, .int .u8 (16 * (dy : Int) + (dz : Int))] rfl rfl (pair_new wr.drew _ _ _) (by intro u hu; simp at hu; rcases hu with rfl | rfl <;> rfl) (by unfold maxLen; omega) (by omega) C3.size ?_
            intro v4 w8 hown4 hg4 _
            have HO8 := Lib.hid (show w8.ownsRow w.heap.size 31 2 v4 (k + 1) (CyC (cysTo (bl s) (k + 1))) by rw [HT.out, CyC_append]; exact hown4)
            refine hK.out _ _ (C3.grown hg4 C3.size (fun j hj => (HOr.out.lt j hj).1)) (fun C4 => ?_)
            clear hK K
            try simp only [Act.put, List.setIfInBounds_toArray, List.set_cons_zero, List.set_cons_succ]
            refine wpAnyH_take (i := 18) (oi := { dst := some 4, op := Op.assign (Operand.tmp 62), type := 22, pos := "ref.go:73", after := #[{ on := 17, ground := Ground.data }, { on := 17, ground := Ground.chain }, { on := 0, ground := Ground.phase }, { on := 1, ground := Ground.phase }, { on := 2, ground := Ground.phase }, { on := 3, ground := Ground.phase }, { on := 4, ground := Ground.phase }, { on := 5, ground := Ground.phase }, { on := 6, ground := Ground.phase }, { on := 7, ground := Ground.phase }, { on := 8, ground := Ground.phase }, { on := 9, ground := Ground.phase }, { on := 10, ground := Ground.phase }, { on := 11, ground := Ground.phase }, { on := 12, ground := Ground.phase }, { on := 13, ground := Ground.phase }, { on := 14, ground := Ground.phase }, { on := 15, ground := Ground.phase }, { on := 16, ground := Ground.phase }, { on := 17, ground := Ground.phase }], guard := none }) (v := ?_) rfl (by kernel_rfl) (by kernel_rfl) (by kernel_rfl) (fun _ _ _ h => h) (Or.inl ⟨by rfl, ?_⟩) C4 ?_
            rotate_left
            · intro W' hSw
              clear hSw
              go_simp <;> with_reducible rfl
            try simp only [Act.put, List.setIfInBounds_toArray, List.set_cons_zero, List.set_cons_succ]
            refine wpAnyH_done (by kernel_rfl) ?_ _
            refine NoPanic.normal ?_
            have B8 := Lib.hid C4
            clear HT HOr
            by_cases h3 : p + 3 < s.size
            · obtain ⟨x3, hx3⟩ : ∃ x, (s[p + 3]'h3).toNat = x := ⟨_, rfl⟩
              have HX3 := Lib.hid (bl_at h3)
              rw [hx3] at HX3
              have hx3b : x3 < 256 := by rw [← hx3]; exact (s[p + 3]'h3).toNat_lt
              by_cases h32 : x3 = 32
              · subst h32
                have hfit3 := Lib.hid (fit_next HF3.out h3 (by rw [HX3.out]) (show fitB 32 ((p + 3) % 4) = true by rw [HP4.out, mod4 k 3 (by omega)]; rfl))
                by_cases h4 : p + 4 = s.size
                · have HE := Lib.hid (show faultL (bl s) = p + 5 by rw [faultL_end (show (bl s).length = p + 4 by rw [hlen.out]; omega) (fun j hj => by have := hfit3.out j (by omega); exact this) (by omega) (by have := HP4.out; omega)])
                  have e4 : ((p : Int) + 4 == (s.size : Int)) = true := beq_iff_eq.2 (by omega)
                  go_wp2
                  go_ret2
                  exact RefParsesCy.no HE.out B8.out (by omega)
                · have e4 : ((p : Int) + 4 == (s.size : Int)) = false := beq_eq_false_iff_ne.2 (by omega)
                  go_wp2
                  go_roundw
                  case rel => exact ⟨k + 1, p + 4, by omega, by have := HP4.out; exact Lib.hid (by omega), by go_num, .inl (by omega), HO8, B8, hfit3⟩
                  case measure => simp [intOf]; omega
              · have e32 : ((x3 : Int) != 32) = true := bne_iff_ne.2 (by omega)
                have HE := Lib.hid (show faultL (bl s) = p + 4 by rw [faultL_at HF3.out HX3.out (show fitB x3 ((p + 3) % 4) = false by rw [HP4.out, mod4 k 3 (by omega)]; simp [fitB, h32])])
                go_wp2
                go_ret2
                exact RefParsesCy.no HE.out B8.out (by omega)
            · have h3' : s.size = p + 3 := by omega
              have e4 : ((p : Int) + 4 == (s.size : Int)) = false := beq_eq_false_iff_ne.2 (by omega)
              have e3 : ¬((p : Int) + 3 < (s.size : Int)) := by omega
              go_wp2
              go_roundw
              case rel => exact ⟨k + 1, p + 4, by omega, by have := HP4.out; exact Lib.hid (by omega), by go_num, .inr (by omega), HO8, B8, Lib.hid fun j h1 h2 => HF3.out j (by rw [hlen.out] at h2; omega) h2⟩
              case measure => simp [intOf]; omega
    · obtain ⟨A', c', rfl⟩ := own_form2 HOr.out
      have HE := Lib.hid (show RefParsesCy (bl s) w (.returned (.tuple #[.slice A' k c', .int .i64 0])) wr by
        have h := HOr.out
        have hk2 : (s.size + 1) / 4 = k := by have := HP4.out; omega
        have h2 : parseL (bl s) = cysTo (bl s) k := by unfold parseL; rw [hlen.out, hk2]
        have h3 : (parseL (bl s)).length = k := by rw [h2, cysTo_length]
        refine ⟨HBr.out, .inr ⟨faultL_no (show (bl s).length ≤ p by rw [hlen.out]; omega) HF.out (by rw [hlen.out]; have := HP4.out; omega), ?_⟩⟩
        rw [h3, h2]
        exact ⟨A', c', rfl, RC.own h fun t ht => by have h4 := cysTo_b t ht; unfold inC; omega⟩)
      go_wp2
      go_ret2
      exact HE.out
end Go.Proofs.Ytfbldlbhhaidpaa
