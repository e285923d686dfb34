/-
  The walk of the law CrcSums over the landed code, out of its callees' contracts: for whatever bytes and number it returns true, and nothing that was there has turned.
-/
import Derived.Test.YtdljlhmbjpakgaaCrcC
namespace Go.Proofs.Ytdljlhmbjpakgaa
open Go.RowKit

theorem Same_yes (A B : Option Addr) (n c m d : Nat) (a : List Nat) (w : World) (ha : R8 w A n a) (hb : R8 w B m a) (hn : n ≤ 1099511627776) (hm : m ≤ 1099511627776) :
    Calls Try.prog 9 #[.slice A n c, .slice B m d] w (Gives (.bool true) w) :=
  (Same_any A B n c m d a a w ha hb hn hm).mono fun e w' h => by
    obtain ⟨he, hb⟩ := h.at_
    exact ⟨by rw [he, decide_eq_true rfl], hb.out⟩
theorem Same_is (A B : Option Addr) (n c m d : Nat) (a b : List Nat) (q : Bool) (w : World) (hq : decide (b = a) = q) (ha : R8 w A n a) (hb : R8 w B m b) (hn : n ≤ 1099511627776) (hm : m ≤ 1099511627776) :
    Calls Try.prog 9 #[.slice A n c, .slice B m d] w (Gives (.bool q) w) :=
  (Same_any A B n c m d a b w ha hb hn hm).mono fun e w' h => by
    obtain ⟨he, hb⟩ := h.at_
    exact ⟨by rw [he, ← hq]; exact ret_bool (by simp [eq_comm]), hb.out⟩
theorem Check_is (A : Option Addr) (n c : Nat) (l : List Nat) (q : Bool) (w : World) (hq : chk l = q) (hr : R8 w A n l) (hn : n ≤ 1099511627776) (hcap : n ≤ c) :
    Calls Try.prog 12 #[.slice A n c] w (Gives (.bool q) w) := hq ▸ Check_any A n c l w hr hn hcap
theorem RefBytes_four (n : Nat) (w : World) (h : n < 4294967296) :
    Calls Try.prog 11 #[.int .u32 (n : Int)] w fun e w' => ∃ A c, e = .returned (.slice A 4 c) ∧ Hid (R8 w' A 4 (le4 n)) ∧ Hid (Below w.heap.size w w') :=
  (RefBytes_any n w h).mono fun _ _ ⟨A, c, he, ho, hb⟩ => ⟨A, c, he, ho, hb⟩

set_option maxRecDepth 100000 in
set_option maxHeartbeats 4000000 in
theorem CrcSums_short (A : Option Addr) (n c N : Nat) (l : List Nat) (w : World) (ha : R8 w A n l) (h4 : ¬ 4 ≤ n) (hcap : n ≤ c) (hN : N < 4294967296) :
    Calls Try.prog 3 #[.slice A n c, .int .u32 (N : Int)] w (Gives (.bool true) w) := by
  have HQ2 := Lib.hid (show chk l = false by
    unfold chk
    rw [ha.len, decide_eq_false h4, Bool.false_and])
  have HA := Lib.hid ha
  clear ha
  have k1 : decide ((0 : Int) ≤ (n : Int) - 4) = false := decide_eq_false (by omega)
  have k2 : decide ((4 : Int) ≤ (n : Int)) = false := decide_eq_false (by omega)
  go_enter Try.func3, Try.ntmps3
  go_wp2_with fail
  refine (awake2_any _).mono ?_
  rintro e w1 ⟨rfl, h1⟩
  have B1 := Lib.hid h1
  clear h1
  have HA1 := Lib.hid (HA.out.below B1.out)
  go_wp2_with fail
  refine wp_region_noPanic ?_
  refine wp_region_held_drew (S := fun _ => True) (by kernel_rfl) trivial (fun _ => ?_)
  refine wpAnyH_take (i := 0) (oi := { dst := some 14, op := Op.move (Operand.tmp 0), type := 22, pos := "law.go:24", after := #[], guard := none }) (v := ?_) rfl (by kernel_rfl) (by kernel_rfl) (by kernel_rfl) (fun _ _ _ h => h) (Or.inl ⟨by rfl, ?_⟩) trivial ?_
  rotate_left
  · intro W hSw; clear hSw; go_simp <;> with_reducible rfl
  try simp only [Act.put, List.setIfInBounds_toArray, List.set_cons_zero, List.set_cons_succ]
  refine wpAnyH_take (i := 3) (oi := { dst := some 17, op := Op.move (Operand.tmp 0), type := 22, pos := "law.go:24", after := #[], guard := none }) (v := ?_) rfl (by kernel_rfl) (by kernel_rfl) (by kernel_rfl) (fun _ _ _ h => h) (Or.inl ⟨by rfl, ?_⟩) trivial ?_
  rotate_left
  · intro W hSw; clear hSw; go_simp <;> with_reducible rfl
  try simp only [Act.put, List.setIfInBounds_toArray, List.set_cons_zero, List.set_cons_succ]
  refine wpAnyH_ready (rs := [1]) (by kernel_rfl) (by simp) ?_
  refine AllReadyH.cons (o := { dst := some 15, op := Op.buildSlice 35 1 #[(0, Operand.tmp 14)], type := 35, pos := "law.go:24", after := #[{ on := 0, ground := Ground.data }], guard := none }) rfl (fun K hK => ?_) AllReadyH.nil
  go_simp
  refine hK.out _ _ trivial (fun _ => ?_)
  clear hK K
  try simp only [Act.put, List.setIfInBounds_toArray, List.set_cons_zero, List.set_cons_succ]
  refine wpAnyH_ready (rs := [2]) (by kernel_rfl) (by simp) ?_
  refine AllReadyH.cons (o := { dst := some 16, op := Op.call { callee := Callee.value (Operand.func 7), args := #[Operand.tmp 15], argTypes := #[35] }, type := 23, pos := "law.go:24", after := #[{ on := 1, ground := Ground.data }], guard := none }) rfl (fun K hK => ?_) AllReadyH.nil
  go_simp
  refine (Sum_one _ A n c _ l _ ?_ ?_ ?_).mono ?_; (simp); (exact HA1.out.below (((Below.refl _ _).alloc (Nat.le_refl _) _).drew)); (omega); rintro e w' ⟨rfl, rfl⟩
  have C1 := Lib.hid (((Below.refl w1.heap.size w1).alloc (Nat.le_refl _) (.cells #[.slice A n c] 22)).drew)
  go_wp2_with fail
  refine hK.out _ _ trivial (fun _ => ?_)
  clear hK K
  try simp only [Act.put, List.setIfInBounds_toArray, List.set_cons_zero, List.set_cons_succ]
  refine wpAnyH_ready (rs := [4]) (by kernel_rfl) (by simp) ?_
  refine AllReadyH.cons (o := { dst := some 18, op := Op.call { callee := Callee.value (Operand.func 8), args := #[Operand.tmp 17], argTypes := #[22] }, type := 23, pos := "law.go:24", after := #[{ on := 3, ground := Ground.data }, { on := 2, ground := Ground.chain }], guard := none }) rfl (fun K hK => ?_) AllReadyH.nil
  go_simp
  refine (RefSum_any _ _ _ l _ ?_ ?_).mono ?_; (exact HA1.out.below C1.out); (omega)
  rintro e w2 ⟨rfl, h2⟩
  have C2 := Lib.hid (below_step C1.out h2)
  clear h2
  go_wp2_with fail
  refine hK.out _ _ trivial (fun _ => ?_)
  clear hK K
  try simp only [Act.put, List.setIfInBounds_toArray, List.set_cons_zero, List.set_cons_succ]
  refine wpAnyH_take (i := 5) (oi := { dst := some 19, op := Op.binOp BinOp.eql 23 (Operand.tmp 16) (Operand.tmp 18) 23, type := 4, pos := "law.go:24", after := #[{ on := 2, ground := Ground.data }, { on := 4, ground := Ground.data }], guard := none }) (v := ?_) rfl (by kernel_rfl) (by kernel_rfl) (by kernel_rfl) (fun _ _ _ h => h) (Or.inl ⟨by rfl, ?_⟩) trivial ?_
  rotate_left
  · intro W hSw; clear hSw; go_simp <;> with_reducible rfl
  try simp only [Act.put, List.setIfInBounds_toArray, List.set_cons_zero, List.set_cons_succ]
  refine wpAnyH_take (i := 6) (oi := { dst := some 20, op := Op.move (Operand.tmp 19), type := 4, pos := "law.go:24", after := #[{ on := 5, ground := Ground.data }, { on := 4, ground := Ground.chain }], guard := none }) (v := ?_) rfl (by kernel_rfl) (by kernel_rfl) (by kernel_rfl) (fun _ _ _ h => h) (Or.inl ⟨by rfl, ?_⟩) trivial ?_
  rotate_left
  · intro W hSw; clear hSw; go_simp <;> with_reducible rfl
  try simp only [Act.put, List.setIfInBounds_toArray, List.set_cons_zero, List.set_cons_succ]
  refine wpAnyH_take (i := 7) (oi := { dst := some 21, op := Op.move (Operand.tmp 1), type := 23, pos := "law.go:24", after := #[{ on := 6, ground := Ground.guard }], guard := some (6, true) }) (v := ?_) rfl (by kernel_rfl) (by kernel_rfl) (by kernel_rfl) (fun _ _ _ h => h) (Or.inl ⟨by rfl, ?_⟩) trivial ?_
  rotate_left
  · intro W hSw; clear hSw; go_simp <;> with_reducible rfl
  try simp only [Act.put, List.setIfInBounds_toArray, List.set_cons_zero, List.set_cons_succ]
  refine wpAnyH_take (i := 9) (oi := { dst := some 23, op := Op.move (Operand.tmp 1), type := 23, pos := "law.go:24", after := #[{ on := 6, ground := Ground.guard }], guard := some (6, true) }) (v := ?_) rfl (by kernel_rfl) (by kernel_rfl) (by kernel_rfl) (fun _ _ _ h => h) (Or.inl ⟨by rfl, ?_⟩) trivial ?_
  rotate_left
  · intro W hSw; clear hSw; go_simp <;> with_reducible rfl
  try simp only [Act.put, List.setIfInBounds_toArray, List.set_cons_zero, List.set_cons_succ]
  refine wpAnyH_ready (rs := [8]) (by kernel_rfl) (by simp) ?_
  refine AllReadyH.cons (o := { dst := some 22, op := Op.call { callee := Callee.value (Operand.func 10), args := #[Operand.tmp 21], argTypes := #[23] }, type := 22, pos := "law.go:24", after := #[{ on := 7, ground := Ground.data }, { on := 6, ground := Ground.chain }, { on := 6, ground := Ground.guard }], guard := some (6, true) }) rfl (fun K hK => ?_) AllReadyH.nil
  go_simp
  refine (Bytes_four _ _ hN).mono ?_
  rintro e w3 ⟨A3, c3, rfl, H3, B3⟩
  have C3 := Lib.hid (below_step C2.out B3.out)
  go_wp2_with fail
  refine hK.out _ _ trivial (fun _ => ?_)
  clear hK K
  try simp only [Act.put, List.setIfInBounds_toArray, List.set_cons_zero, List.set_cons_succ]
  refine wpAnyH_ready (rs := [10]) (by kernel_rfl) (by simp) ?_
  refine AllReadyH.cons (o := { dst := some 24, op := Op.call { callee := Callee.value (Operand.func 11), args := #[Operand.tmp 23], argTypes := #[23] }, type := 22, pos := "law.go:24", after := #[{ on := 9, ground := Ground.data }, { on := 8, ground := Ground.chain }, { on := 6, ground := Ground.guard }], guard := some (6, true) }) rfl (fun K hK => ?_) AllReadyH.nil
  go_simp
  refine (RefBytes_four N _ hN).mono ?_
  rintro e w4 ⟨A4, c4, rfl, H4, B4⟩
  have C4 := Lib.hid (below_step C3.out B4.out)
  go_wp2_with fail
  refine hK.out _ _ trivial (fun _ => ?_)
  clear hK K
  try simp only [Act.put, List.setIfInBounds_toArray, List.set_cons_zero, List.set_cons_succ]
  refine wpAnyH_ready (rs := [11]) (by kernel_rfl) (by simp) ?_
  refine AllReadyH.cons (o := { dst := some 25, op := Op.call { callee := Callee.value (Operand.func 9), args := #[Operand.tmp 22, Operand.tmp 24], argTypes := #[22, 22] }, type := 4, pos := "law.go:24", after := #[{ on := 8, ground := Ground.data }, { on := 10, ground := Ground.data }, { on := 10, ground := Ground.chain }, { on := 6, ground := Ground.guard }], guard := some (6, true) }) rfl (fun K hK => ?_) AllReadyH.nil
  go_simp
  refine (Same_yes A3 _ _ _ _ _ (le4 N) _ (H3.out.below B4.out) H4.out (by omega) (by omega)).mono ?_
  rintro e w5 ⟨rfl, h5⟩
  have C5 := Lib.hid (below_step C4.out h5)
  clear h5
  go_wp2_with fail
  refine hK.out _ _ trivial (fun _ => ?_)
  clear hK K
  try simp only [Act.put, List.setIfInBounds_toArray, List.set_cons_zero, List.set_cons_succ]
  refine wpAnyH_take (i := 12) (oi := { dst := some 26, op := Op.pick (Operand.tmp 20) (Operand.tmp 25) (Operand.const (Value.bool false)), type := 4, pos := "law.go:24", after := #[{ on := 6, ground := Ground.data }, { on := 11, ground := Ground.data }], guard := none }) (v := ?_) rfl (by kernel_rfl) (by kernel_rfl) (by kernel_rfl) (fun _ _ _ h => h) (Or.inl ⟨by rfl, ?_⟩) trivial ?_
  rotate_left
  · intro W hSw; clear hSw; go_simp <;> with_reducible rfl
  try simp only [Act.put, List.setIfInBounds_toArray, List.set_cons_zero, List.set_cons_succ]
  refine wpAnyH_take (i := 13) (oi := { dst := some 27, op := Op.move (Operand.tmp 26), type := 4, pos := "law.go:24", after := #[{ on := 12, ground := Ground.data }, { on := 11, ground := Ground.chain }], guard := none }) (v := ?_) rfl (by kernel_rfl) (by kernel_rfl) (by kernel_rfl) (fun _ _ _ h => h) (Or.inl ⟨by rfl, ?_⟩) trivial ?_
  rotate_left
  · intro W hSw; clear hSw; go_simp <;> with_reducible rfl
  try simp only [Act.put, List.setIfInBounds_toArray, List.set_cons_zero, List.set_cons_succ]
  refine wpAnyH_take (i := 14) (oi := { dst := some 28, op := Op.move (Operand.tmp 0), type := 22, pos := "law.go:24", after := #[{ on := 13, ground := Ground.guard }], guard := some (13, true) }) (v := ?_) rfl (by kernel_rfl) (by kernel_rfl) (by kernel_rfl) (fun _ _ _ h => h) (Or.inl ⟨by rfl, ?_⟩) trivial ?_
  rotate_left
  · intro W hSw; clear hSw; go_simp <;> with_reducible rfl
  try simp only [Act.put, List.setIfInBounds_toArray, List.set_cons_zero, List.set_cons_succ]
  refine wpAnyH_take (i := 16) (oi := { dst := some 30, op := Op.move (Operand.tmp 5), type := 3, pos := "law.go:24", after := #[{ on := 13, ground := Ground.guard }], guard := some (13, true) }) (v := ?_) rfl (by kernel_rfl) (by kernel_rfl) (by kernel_rfl) (fun _ _ _ h => h) (Or.inl ⟨by rfl, ?_⟩) trivial ?_
  rotate_left
  · intro W hSw; clear hSw; go_simp <;> with_reducible rfl
  try simp only [Act.put, List.setIfInBounds_toArray, List.set_cons_zero, List.set_cons_succ]
  refine wpAnyH_take (i := 17) (oi := { dst := some 31, op := Op.binOp BinOp.geq 3 (Operand.tmp 30) (Operand.const (Value.int IntKind.i64 0)) 3, type := 4, pos := "law.go:24", after := #[{ on := 16, ground := Ground.data }, { on := 13, ground := Ground.guard }], guard := some (13, true) }) (v := ?_) rfl (by kernel_rfl) (by kernel_rfl) (by kernel_rfl) (fun _ _ _ h => h) (Or.inl ⟨by rfl, ?_⟩) trivial ?_
  rotate_left
  · intro W hSw; clear hSw; go_simp <;> with_reducible rfl
  try simp only [Act.put, List.setIfInBounds_toArray, List.set_cons_zero, List.set_cons_succ]
  refine wpAnyH_ready (rs := [15]) (by kernel_rfl) (by simp) ?_
  refine AllReadyH.cons (o := { dst := some 29, op := Op.call { callee := Callee.value (Operand.func 12), args := #[Operand.tmp 28], argTypes := #[22] }, type := 4, pos := "law.go:24", after := #[{ on := 14, ground := Ground.data }, { on := 13, ground := Ground.chain }, { on := 13, ground := Ground.guard }], guard := some (13, true) }) rfl (fun K hK => ?_) AllReadyH.nil
  go_simp
  refine (Check_is _ _ _ l false _ HQ2.out (HA1.out.below C5.out) (by omega) (by omega)).mono ?_
  rintro e w6 ⟨rfl, h6⟩
  have C6 := Lib.hid (below_step C5.out h6)
  clear h6
  go_wp2_with fail
  refine hK.out _ _ trivial (fun _ => ?_)
  clear hK K
  try simp only [Act.put, List.setIfInBounds_toArray, List.set_cons_zero, List.set_cons_succ]
  refine wpAnyH_take (i := 18) (oi := { dst := some 32, op := Op.move (Operand.tmp 31), type := 4, pos := "law.go:24", after := #[{ on := 17, ground := Ground.data }, { on := 15, ground := Ground.chain }, { on := 13, ground := Ground.guard }], guard := some (13, true) }) (v := ?_) rfl (by kernel_rfl) (by kernel_rfl) (by kernel_rfl) (fun _ _ _ h => h) (Or.inl ⟨by rfl, ?_⟩) trivial ?_
  rotate_left
  · intro W hSw; clear hSw; go_simp <;> with_reducible rfl
  try simp only [Act.put, List.setIfInBounds_toArray, List.set_cons_zero, List.set_cons_succ]
  refine wpAnyH_take (i := 19) (oi := { dst := some 33, op := Op.move (Operand.tmp 0), type := 22, pos := "law.go:24", after := #[{ on := 18, ground := Ground.guard }], guard := some (18, true) }) (v := undef) rfl (by kernel_rfl) (by kernel_rfl) (by kernel_rfl) (fun _ _ _ h => h) (Or.inr ⟨by rfl, rfl⟩) trivial ?_
  try simp only [Act.put, List.setIfInBounds_toArray, List.set_cons_zero, List.set_cons_succ]
  refine wpAnyH_take (i := 20) (oi := { dst := some 34, op := Op.move (Operand.tmp 5), type := 3, pos := "law.go:24", after := #[{ on := 18, ground := Ground.guard }], guard := some (18, true) }) (v := undef) rfl (by kernel_rfl) (by kernel_rfl) (by kernel_rfl) (fun _ _ _ h => h) (Or.inr ⟨by rfl, rfl⟩) trivial ?_
  try simp only [Act.put, List.setIfInBounds_toArray, List.set_cons_zero, List.set_cons_succ]
  refine wpAnyH_take (i := 21) (oi := { dst := some 35, op := Op.call { callee := Callee.builtin Builtin.max, args := #[Operand.tmp 34, Operand.const (Value.int IntKind.i64 0)], argTypes := #[3, 3] }, type := 3, pos := "law.go:24", after := #[{ on := 20, ground := Ground.data }, { on := 18, ground := Ground.guard }], guard := some (18, true) }) (v := undef) rfl (by kernel_rfl) (by kernel_rfl) (by kernel_rfl) (fun _ _ _ h => h) (Or.inr ⟨by rfl, rfl⟩) trivial ?_
  try simp only [Act.put, List.setIfInBounds_toArray, List.set_cons_zero, List.set_cons_succ]
  refine wpAnyH_take (i := 22) (oi := { dst := some 36, op := Op.slice 22 (Operand.tmp 33) none (some (Operand.tmp 35)) none, type := 22, pos := "law.go:24", after := #[{ on := 19, ground := Ground.data }, { on := 21, ground := Ground.data }, { on := 18, ground := Ground.guard }], guard := some (18, true) }) (v := undef) rfl (by kernel_rfl) (by kernel_rfl) (by kernel_rfl) (fun _ _ _ h => h) (Or.inr ⟨by rfl, rfl⟩) trivial ?_
  try simp only [Act.put, List.setIfInBounds_toArray, List.set_cons_zero, List.set_cons_succ]
  refine wpAnyH_take (i := 23) (oi := { dst := some 37, op := Op.call { callee := Callee.value (Operand.func 8), args := #[Operand.tmp 36], argTypes := #[22] }, type := 23, pos := "law.go:24", after := #[{ on := 22, ground := Ground.data }, { on := 18, ground := Ground.chain }, { on := 18, ground := Ground.guard }], guard := some (18, true) }) (v := undef) rfl (by kernel_rfl) (by kernel_rfl) (by kernel_rfl) (fun _ _ _ h => h) (Or.inr ⟨by rfl, rfl⟩) trivial ?_
  try simp only [Act.put, List.setIfInBounds_toArray, List.set_cons_zero, List.set_cons_succ]
  refine wpAnyH_take (i := 24) (oi := { dst := some 38, op := Op.call { callee := Callee.value (Operand.func 11), args := #[Operand.tmp 37], argTypes := #[23] }, type := 22, pos := "law.go:24", after := #[{ on := 23, ground := Ground.data }, { on := 23, ground := Ground.chain }, { on := 18, ground := Ground.guard }], guard := some (18, true) }) (v := undef) rfl (by kernel_rfl) (by kernel_rfl) (by kernel_rfl) (fun _ _ _ h => h) (Or.inr ⟨by rfl, rfl⟩) trivial ?_
  try simp only [Act.put, List.setIfInBounds_toArray, List.set_cons_zero, List.set_cons_succ]
  refine wpAnyH_take (i := 25) (oi := { dst := some 39, op := Op.move (Operand.tmp 0), type := 22, pos := "law.go:24", after := #[{ on := 18, ground := Ground.guard }], guard := some (18, true) }) (v := undef) rfl (by kernel_rfl) (by kernel_rfl) (by kernel_rfl) (fun _ _ _ h => h) (Or.inr ⟨by rfl, rfl⟩) trivial ?_
  try simp only [Act.put, List.setIfInBounds_toArray, List.set_cons_zero, List.set_cons_succ]
  refine wpAnyH_take (i := 26) (oi := { dst := some 40, op := Op.move (Operand.tmp 5), type := 3, pos := "law.go:24", after := #[{ on := 18, ground := Ground.guard }], guard := some (18, true) }) (v := undef) rfl (by kernel_rfl) (by kernel_rfl) (by kernel_rfl) (fun _ _ _ h => h) (Or.inr ⟨by rfl, rfl⟩) trivial ?_
  try simp only [Act.put, List.setIfInBounds_toArray, List.set_cons_zero, List.set_cons_succ]
  refine wpAnyH_take (i := 27) (oi := { dst := some 41, op := Op.call { callee := Callee.builtin Builtin.max, args := #[Operand.tmp 40, Operand.const (Value.int IntKind.i64 0)], argTypes := #[3, 3] }, type := 3, pos := "law.go:24", after := #[{ on := 26, ground := Ground.data }, { on := 18, ground := Ground.guard }], guard := some (18, true) }) (v := undef) rfl (by kernel_rfl) (by kernel_rfl) (by kernel_rfl) (fun _ _ _ h => h) (Or.inr ⟨by rfl, rfl⟩) trivial ?_
  try simp only [Act.put, List.setIfInBounds_toArray, List.set_cons_zero, List.set_cons_succ]
  refine wpAnyH_take (i := 28) (oi := { dst := some 42, op := Op.slice 22 (Operand.tmp 39) (some (Operand.tmp 41)) none none, type := 22, pos := "law.go:24", after := #[{ on := 25, ground := Ground.data }, { on := 27, ground := Ground.data }, { on := 18, ground := Ground.guard }], guard := some (18, true) }) (v := undef) rfl (by kernel_rfl) (by kernel_rfl) (by kernel_rfl) (fun _ _ _ h => h) (Or.inr ⟨by rfl, rfl⟩) trivial ?_
  try simp only [Act.put, List.setIfInBounds_toArray, List.set_cons_zero, List.set_cons_succ]
  refine wpAnyH_take (i := 29) (oi := { dst := some 43, op := Op.call { callee := Callee.value (Operand.func 9), args := #[Operand.tmp 38, Operand.tmp 42], argTypes := #[22, 22] }, type := 4, pos := "law.go:24", after := #[{ on := 24, ground := Ground.data }, { on := 28, ground := Ground.data }, { on := 24, ground := Ground.chain }, { on := 18, ground := Ground.guard }], guard := some (18, true) }) (v := undef) rfl (by kernel_rfl) (by kernel_rfl) (by kernel_rfl) (fun _ _ _ h => h) (Or.inr ⟨by rfl, rfl⟩) trivial ?_
  try simp only [Act.put, List.setIfInBounds_toArray, List.set_cons_zero, List.set_cons_succ]
  refine wpAnyH_take (i := 30) (oi := { dst := some 44, op := Op.pick (Operand.tmp 32) (Operand.tmp 43) (Operand.const (Value.bool false)), type := 4, pos := "law.go:24", after := #[{ on := 18, ground := Ground.data }, { on := 29, ground := Ground.data }, { on := 13, ground := Ground.guard }], guard := some (13, true) }) (v := ?_) rfl (by kernel_rfl) (by kernel_rfl) (by kernel_rfl) (fun _ _ _ h => h) (Or.inl ⟨by rfl, ?_⟩) trivial ?_
  rotate_left
  · intro W hSw; clear hSw; go_simp <;> with_reducible rfl
  try simp only [Act.put, List.setIfInBounds_toArray, List.set_cons_zero, List.set_cons_succ]
  refine wpAnyH_take (i := 31) (oi := { dst := some 45, op := Op.binOp BinOp.eql 4 (Operand.tmp 29) (Operand.tmp 44) 4, type := 4, pos := "law.go:24", after := #[{ on := 15, ground := Ground.data }, { on := 30, ground := Ground.data }, { on := 13, ground := Ground.guard }], guard := some (13, true) }) (v := ?_) rfl (by kernel_rfl) (by kernel_rfl) (by kernel_rfl) (fun _ _ _ h => h) (Or.inl ⟨by rfl, ?_⟩) trivial ?_
  rotate_left
  · intro W hSw; clear hSw; go_simp <;> with_reducible rfl
  try simp only [Act.put, List.setIfInBounds_toArray, List.set_cons_zero, List.set_cons_succ]
  refine wpAnyH_take (i := 32) (oi := { dst := some 46, op := Op.pick (Operand.tmp 27) (Operand.tmp 45) (Operand.const (Value.bool false)), type := 4, pos := "law.go:24", after := #[{ on := 13, ground := Ground.data }, { on := 31, ground := Ground.data }], guard := none }) (v := ?_) rfl (by kernel_rfl) (by kernel_rfl) (by kernel_rfl) (fun _ _ _ h => h) (Or.inl ⟨by rfl, ?_⟩) trivial ?_
  rotate_left
  · intro W hSw; clear hSw; go_simp <;> with_reducible rfl
  try simp only [Act.put, List.setIfInBounds_toArray, List.set_cons_zero, List.set_cons_succ]
  refine wpAnyH_take (i := 33) (oi := { dst := some 4, op := Op.assign (Operand.tmp 46), type := 4, pos := "law.go:24", after := #[{ on := 32, ground := Ground.data }, { on := 29, ground := Ground.chain }, { on := 0, ground := Ground.phase }, { on := 1, ground := Ground.phase }, { on := 2, ground := Ground.phase }, { on := 3, ground := Ground.phase }, { on := 4, ground := Ground.phase }, { on := 5, ground := Ground.phase }, { on := 6, ground := Ground.phase }, { on := 7, ground := Ground.phase }, { on := 8, ground := Ground.phase }, { on := 9, ground := Ground.phase }, { on := 10, ground := Ground.phase }, { on := 11, ground := Ground.phase }, { on := 12, ground := Ground.phase }, { on := 13, ground := Ground.phase }, { on := 14, ground := Ground.phase }, { on := 15, ground := Ground.phase }, { on := 16, ground := Ground.phase }, { on := 17, ground := Ground.phase }, { on := 18, ground := Ground.phase }, { on := 19, ground := Ground.phase }, { on := 20, ground := Ground.phase }, { on := 21, ground := Ground.phase }, { on := 22, ground := Ground.phase }, { on := 23, ground := Ground.phase }, { on := 24, ground := Ground.phase }, { on := 25, ground := Ground.phase }, { on := 26, ground := Ground.phase }, { on := 27, ground := Ground.phase }, { on := 28, ground := Ground.phase }, { on := 29, ground := Ground.phase }, { on := 30, ground := Ground.phase }, { on := 31, ground := Ground.phase }, { on := 32, ground := Ground.phase }], guard := none }) (v := ?_) rfl (by kernel_rfl) (by kernel_rfl) (by kernel_rfl) (fun _ _ _ h => h) (Or.inl ⟨by rfl, ?_⟩) trivial ?_
  rotate_left
  · intro W hSw; clear hSw; go_simp <;> with_reducible rfl
  try simp only [Act.put, List.setIfInBounds_toArray, List.set_cons_zero, List.set_cons_succ]
  refine wpAnyH_done (by kernel_rfl) ?_ _
  refine NoPanic.normal ?_
  go_wp2
  go_ret
  exact ⟨rfl, below_step B1.out C6.out⟩

set_option maxRecDepth 100000 in
set_option maxHeartbeats 4000000 in
theorem CrcSums_walk (A : Option Addr) (n c N : Nat) (l : List Nat) (w : World) (ha : R8 w A n l) (hn : n ≤ 9223372036854775807) (hcap : n ≤ c) (hN : N < 4294967296) :
    Calls Try.prog 3 #[.slice A n c, .int .u32 (N : Int)] w (Gives (.bool true) w) := by
  by_cases h4 : 4 ≤ n
  case neg => exact CrcSums_short A n c N l w ha h4 hcap hN
  have HA := Lib.hid ha
  have HL := Lib.hid ha.len
  clear ha
  go_enter Try.func3, Try.ntmps3
  go_wp2_with fail
  refine (awake2_any _).mono ?_
  rintro e w1 ⟨rfl, h1⟩
  have B1 := Lib.hid h1
  clear h1
  by_cases hbig : 1000 < n
  · go_wp2
    go_ret
    exact ⟨rfl, B1.out⟩
  · have HA1 := Lib.hid (HA.out.below B1.out)
    · obtain ⟨b, off, rfl, hb, _⟩ := HA1.out.1.2 (by omega)
      obtain ⟨m, rfl⟩ : ∃ m, n = m + 4 := ⟨n - 4, by omega⟩
      have HR1 := Lib.hid (show R8 w1 (some ⟨b, off + m, none⟩) 4 (l.drop m) by
        have := HA1.out.sub m 4 (by omega)
        rwa [List.take_of_length_le (by have := HL.out; simp; omega)] at this)
      have HR2 := Lib.hid (show R8 w1 (some ⟨b, off, none⟩) m (l.take m) by
        have := HA1.out.sub 0 m (by omega)
        rwa [List.drop_zero, Nat.add_zero] at this)
      obtain ⟨q, hq, hq2⟩ : ∃ q, decide (l.drop m = le4 (sumL (l.take m))) = q ∧ chk l = q := ⟨_, rfl, by
        unfold chk
        rw [HL.out, show m + 4 - 4 = m by omega, decide_eq_true h4, Bool.true_and]⟩
      have HQ := Lib.hid hq
      have HQ2 := Lib.hid hq2
      clear hq hq2
      have e1 : ((m + 4 : Nat) : Int) - 4 = (m : Int) := by omega
      have e2 : (if (m : Int) < 0 then (0 : Int) else (m : Int)) = (m : Int) := if_neg (by omega)
      have k1 : (0 : Int) ≤ (m : Int) := by omega
      have k2 : (m : Int) ≤ (m : Int) + 4 := by omega
      have k3 : (m : Int) ≤ (c : Int) := by omega
      have k4 : ¬ (c = m) := by omega
      go_wp2_with fail
      go_region_held3 (fun _ => True) (trivial) (first
        | (go_at_call 7; (with_reducible refine (Sum_one _ (some ⟨b, off, none⟩) (m + 4) c _ l _ ?_ ?_ ?_).mono ?_); (simp); (exact HA1.out.below (((Below.refl _ _).alloc (Nat.le_refl _) _).drew)); (omega); rintro e w' ⟨rfl, rfl⟩; have C1 := Lib.hid (((Below.refl w1.heap.size w1).alloc (Nat.le_refl _) (.cells #[.slice (some ⟨b, off, none⟩) (m + 4) c] 22)).drew))
        | (go_at_call 8; (with_reducible refine (RefSum_any _ _ _ l _ ?_ ?_).mono ?_); (exact HA1.out.below C1.out); (omega); rintro e w2 ⟨rfl, h2⟩; have C2 := Lib.hid (below_step C1.out h2); clear h2)
        | (go_at_call 10; (with_reducible refine (Bytes_four _ _ hN).mono ?_); rintro e w3 ⟨A3, c3, rfl, H3, B3⟩; have C3 := Lib.hid (below_step C2.out B3.out))
        | (go_at_call 11; (with_reducible refine (RefBytes_four N _ hN).mono ?_); rintro e w4 ⟨A4, c4, rfl, H4, B4⟩; have C4 := Lib.hid (below_step C3.out B4.out))
        | (go_at_call 9; (with_reducible refine (Same_yes A3 _ _ _ _ _ (le4 N) _ (H3.out.below B4.out) H4.out (by omega) (by omega)).mono ?_); rintro e w5 ⟨rfl, h5⟩; have C5 := Lib.hid (below_step C4.out h5); clear h5)
        | (go_at_call 12; (with_reducible refine (Check_is _ _ _ l q _ HQ2.out ?_ ?_ ?_).mono ?_); (exact HA1.out.below C5.out); (omega); (omega); rintro e w6 ⟨rfl, h6⟩; have C6 := Lib.hid (below_step C5.out h6); clear h6)
        | (go_at_call 8; (with_reducible refine (RefSum_any _ _ _ (l.take m) _ ?_ ?_).mono ?_); (exact HR2.out.below C6.out); (omega); rintro e w7 ⟨rfl, h7⟩; have C7 := Lib.hid (below_step C6.out h7); clear h7)
        | (go_at_call 11; (with_reducible refine (RefBytes_four _ _ (sumL_lt (l.take m))).mono ?_); rintro e w8 ⟨A8, c8, rfl, H8, B8⟩; have C8 := Lib.hid (below_step C7.out B8.out))
        | (go_at_call 9; (with_reducible refine (Same_is A8 _ _ _ _ _ (le4 (sumL (l.take m))) (l.drop m) q _ HQ.out H8.out (HR1.out.below C8.out) (by omega) (by omega)).mono ?_); rintro e w9 ⟨rfl, h9⟩; have C9 := Lib.hid (below_step C8.out h9); clear h9))
      all_goals
        go_wp2
        go_ret
        exact ⟨rfl, below_step B1.out C9.out⟩
end Go.Proofs.Ytdljlhmbjpakgaa
