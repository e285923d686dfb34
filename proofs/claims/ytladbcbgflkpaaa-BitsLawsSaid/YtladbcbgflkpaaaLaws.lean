/-
  The walk of the law BitsLaws over the landed code, out of its callees' contracts: for whatever three slices of bytes it returns true, and nothing that was there has turned.
-/
import Derived.Test.YtladbcbgflkpaaaConv
import Derived.Deep.RegionHeld
import Derived.Deep.DeepCutAuto
namespace Go.Proofs.Ytladbcbgflkpaaa
open Go.RowKit

theorem qQuiet {P : Program} {f : FuncId} {args : Array Value} {w : World} {n : Nat} {v : Value}
    (h : Calls P f args (w.drewN n) (Quiet v (w.drewN n))) : Calls P f args (w.drewN n) fun e w'' => e = .returned v ∧ ∃ m, w'' = w.drewN m :=
  h.mono fun _ _ ⟨he, m, hm⟩ => ⟨he, n + m, by rw [hm, World.drewN_drewN]⟩

/-- What is held of the world may be said more strongly from here on. -/
theorem wpAnyH_more {P : Program} {md : Region.Mode} {ops : Array Oper} {Q : Exit → Act → World → Prop} {S S' : World → Prop} (hS : ∀ w, S' w → S w) :
    ∀ {fuel : Nat} {listed : Array Bool} {a : Act} {w : World}, wpAnyH P md ops Q S' fuel listed a w → wpAnyH P md ops Q S fuel listed a w := by
  intro fuel
  induction fuel with
  | zero => intro listed a w h; exact h
  | succ fuel ih => intro listed a w h; exact ⟨h.1, fun i hi => wpOp_mono (fun a' w' h' => ⟨hS _ h'.1, ih h'.2⟩) (h.2 i hi)⟩

set_option maxRecDepth 100000 in
set_option maxHeartbeats 4000000 in
theorem Laws_walk (A B C : Option Addr) (n x m y p z : Nat) (a b c : List Nat) (w : World) (ha : R8 w A n a) (hb : R8 w B m b) (hc : R8 w C p c)
    (hn : n ≤ 9223372036854775807) (hm : m ≤ 9223372036854775807) (hp : p ≤ 9223372036854775807) :
    Calls Try.prog 6 #[.slice A n x, .slice B m y, .slice C p z] w (Gives (.bool true) w) := by
  have HA := Lib.hid ha
  have HB := Lib.hid hb
  have HC := Lib.hid hc
  have HAL := Lib.hid ha.len
  have HBL := Lib.hid hb.len
  have HCL := Lib.hid hc.len
  clear ha hb hc
  go_enter Try.func6, Try.ntmps6
  go_wp2_with fail
  refine (awake_any _).mono ?_
  rintro e w1 ⟨rfl, h1⟩
  have B1 := Lib.hid h1
  clear h1
  go_wp2_with fail
  refine (many3 _ n x m y p z _ A B C _ hn hm hp (by simp) (by simp) (by simp)).mono ?_
  rintro e w' ⟨rfl, rfl⟩
  have B2 := Lib.hid (B1.out.alloc B1.out.size (.cells #[.slice A n x, .slice B m y, .slice C p z] 22))
  by_cases ht : tooLong [n, m, p] = true
  · go_wp2
    go_ret
    exact ⟨rfl, B2.out⟩
  · have ht0 : tooLong [n, m, p] = false := by simpa using ht
    clear ht
    have hn5 : n ≤ 500 ∧ m ≤ 500 ∧ p ≤ 500 := by simpa [tooLong] using ht0
    obtain ⟨hn5, hm5, hp5⟩ := hn5
    generalize hw2 : w1.alloc (.cells #[.slice A n x, .slice B m y, .slice C p z] 22) = w2 at *
    clear hw2
    have HA2 := Lib.hid (HA.out.below B2.out)
    have HB2 := Lib.hid (HB.out.below B2.out)
    have HC2 := Lib.hid (HC.out.below B2.out)
    have l1 := Lib.hid (show (andL a b).length = max n m by rw [andL_length, HAL.out, HBL.out])
    have l2 := Lib.hid (show (andL b c).length = max m p by rw [andL_length, HBL.out, HCL.out])
    have l3 := Lib.hid (show (andL (andL a b) c).length = max (max n m) p by rw [andL_length, l1.out, HCL.out])
    have l4 := Lib.hid (show (andL a (andL b c)).length = max (max n m) p by rw [← andL_assoc, l3.out])
    obtain ⟨q1, hq1⟩ : ∃ q, q = max n m := ⟨_, rfl⟩
    obtain ⟨q2, hq2⟩ : ∃ q, q = max m p := ⟨_, rfl⟩
    obtain ⟨q3, hq3⟩ : ∃ q, q = max q1 p := ⟨_, rfl⟩
    rw [← hq1] at l1 l3 l4
    rw [← hq2] at l2
    rw [← hq3] at l3 l4
    have b1 : q1 ≤ 500 := by omega
    have b2 : q2 ≤ 500 := by omega
    have b3 : q3 ≤ 500 := by omega
    clear hq1 hq2 hq3
    go_wp2_with fail
    refine (And_makes _ _ _ _ _ _ a b _ HA2.out HB2.out (by omega) (by omega)).mono ?_
    intro e w3 hM
    obtain ⟨A3, c3, rfl, H3, B3⟩ := hM.at_ l1.out
    have HA3 := Lib.hid (HA2.out.below B3.out)
    have HB3 := Lib.hid (HB2.out.below B3.out)
    have HC3 := Lib.hid (HC2.out.below B3.out)
    have C3 := Lib.hid (below_step B2.out B3.out)
    go_wp2_with fail
    refine (And_makes _ _ _ _ _ _ _ c _ H3.out HC3.out (by omega) (by omega)).mono ?_
    intro e w4 hM
    obtain ⟨A4, c4, rfl, H4, B4⟩ := hM.at_ l3.out
    have HA4 := Lib.hid (HA3.out.below B4.out)
    have HB4 := Lib.hid (HB3.out.below B4.out)
    have HC4 := Lib.hid (HC3.out.below B4.out)
    have C4 := Lib.hid (below_step C3.out B4.out)
    go_wp2_with fail
    refine (And_makes _ _ _ _ _ _ b c _ HB4.out HC4.out (by omega) (by omega)).mono ?_
    intro e w5 hM
    obtain ⟨A5, c5, rfl, H5, B5⟩ := hM.at_ l2.out
    have HA5 := Lib.hid (HA4.out.below B5.out)
    have HB5 := Lib.hid (HB4.out.below B5.out)
    have H45 := Lib.hid (H4.out.below B5.out)
    have C5 := Lib.hid (below_step C4.out B5.out)
    go_wp2_with fail
    refine (And_makes _ _ _ _ _ _ a _ _ HA5.out H5.out (by omega) (by omega)).mono ?_
    intro e w6 hM
    obtain ⟨A6, c6, rfl, H6, B6⟩ := hM.at_ l4.out
    have HA6 := Lib.hid (HA5.out.below B6.out)
    have HB6 := Lib.hid (HB5.out.below B6.out)
    have H46 := Lib.hid (H45.out.below B6.out)
    have C6 := Lib.hid (below_step C5.out B6.out)
    have cv4 := conv_in A4 q3 c4 _ w6 H46.out
    have cv6 := conv_in A6 q3 c6 _ w6 H6.out
    have cva := conv_in A n x _ w6 HA6.out
    rw [← andL_assoc] at cv6
    have HAB := Lib.hid (And_text A B n x m y q1 a b w6 HA6.out HB6.out (by omega) (by omega) l1.out)
    have HBA := Lib.hid (And_text B A m y n x q1 b a w6 HB6.out HA6.out (by omega) (by omega) (by rw [andL_comm]; exact l1.out))
    have HAA := Lib.hid (And_text A A n x n x n a a w6 HA6.out HA6.out (by omega) (by omega) (by rw [andL_idem]; exact HAL.out))
    rw [andL_comm b a] at HBA
    rw [andL_idem a] at HAA
    have KS := Lib.hid (show ∀ W, Below w6.heap.size w6 W → ((convert 22 9 (.slice A4 q3 c4)).run Try.prog W = .ok (.string (str (andL (andL a b) c))) W ∧ (convert 22 9 (.slice A6 q3 c6)).run Try.prog W = .ok (.string (str (andL (andL a b) c))) W ∧ (convert 22 9 (.slice A n x)).run Try.prog W = .ok (.string (str a)) W) from fun W h => ⟨cv4 W h, cv6 W h, cva W h⟩)
    clear cv4 cv6 cva
    clear B1 B2 HA2 HB2 HC2 H3 B3 HA3 HB3 HC3 C3 H4 B4 HA4 HB4 HC4 C4 H5 B5 HA5 HB5 H45 C5 H6 B6 H46
    go_upto_region 6 with fail
    go_cut [53] (fun s wx => s = .bool false ∧ Hid (Below w6.heap.size w6 wx))
    case first =>
      have hdr : Below w6.heap.size w6 w6.drew := (Below.refl _ _).drew
      refine wp_region_held_drew (S := fun W => (convert 22 9 (.slice A4 q3 c4)).run Try.prog W = .ok (.string (str (andL (andL a b) c))) W ∧ (convert 22 9 (.slice A6 q3 c6)).run Try.prog W = .ok (.string (str (andL (andL a b) c))) W ∧ (convert 22 9 (.slice A n x)).run Try.prog W = .ok (.string (str a)) W) (by kernel_rfl) (KS.out _ hdr) (fun hHeld => ?_)
      refine wpAnyH_take (i := 0) (oi := { dst := some 29, op := Op.move (Operand.tmp 0), type := 22, pos := "outright.go:16", after := #[], guard := none }) (v := ?_) rfl (by kernel_rfl) (by kernel_rfl) (by kernel_rfl) (fun _ _ _ h => h) (Or.inl ⟨by rfl, ?_⟩) (by assumption) ?_
      rotate_left
      · intro W hSw; (try dsimp only at hSw); go_simp <;> with_reducible rfl
      try simp only [Act.put, List.setIfInBounds_toArray, List.set_cons_zero, List.set_cons_succ]
      refine wpAnyH_take (i := 1) (oi := { dst := some 30, op := Op.move (Operand.tmp 1), type := 22, pos := "outright.go:16", after := #[], guard := none }) (v := ?_) rfl (by kernel_rfl) (by kernel_rfl) (by kernel_rfl) (fun _ _ _ h => h) (Or.inl ⟨by rfl, ?_⟩) (by assumption) ?_
      rotate_left
      · intro W hSw; (try dsimp only at hSw); go_simp <;> with_reducible rfl
      try simp only [Act.put, List.setIfInBounds_toArray, List.set_cons_zero, List.set_cons_succ]
      refine wpAnyH_take (i := 4) (oi := { dst := some 33, op := Op.move (Operand.tmp 1), type := 22, pos := "outright.go:16", after := #[], guard := none }) (v := ?_) rfl (by kernel_rfl) (by kernel_rfl) (by kernel_rfl) (fun _ _ _ h => h) (Or.inl ⟨by rfl, ?_⟩) (by assumption) ?_
      rotate_left
      · intro W hSw; (try dsimp only at hSw); go_simp <;> with_reducible rfl
      try simp only [Act.put, List.setIfInBounds_toArray, List.set_cons_zero, List.set_cons_succ]
      refine wpAnyH_take (i := 5) (oi := { dst := some 34, op := Op.move (Operand.tmp 0), type := 22, pos := "outright.go:16", after := #[], guard := none }) (v := ?_) rfl (by kernel_rfl) (by kernel_rfl) (by kernel_rfl) (fun _ _ _ h => h) (Or.inl ⟨by rfl, ?_⟩) (by assumption) ?_
      rotate_left
      · intro W hSw; (try dsimp only at hSw); go_simp <;> with_reducible rfl
      try simp only [Act.put, List.setIfInBounds_toArray, List.set_cons_zero, List.set_cons_succ]
      refine wpAnyH_ready (rs := [2]) (by kernel_rfl) (by simp) ?_
      refine AllReadyH.cons (o := { dst := some 31, op := Op.call { callee := Callee.value (Operand.func 17), args := #[Operand.tmp 29, Operand.tmp 30], argTypes := #[22, 22] }, type := 22, pos := "outright.go:16", after := #[{ on := 0, ground := Ground.data }, { on := 1, ground := Ground.data }], guard := none }) rfl (fun K hK => ?_) AllReadyH.nil
      go_simp
      refine (HAB.out _ hdr).mono ?_
      rintro e w7 ⟨A7, c7, rfl, cv7, b7, b67⟩
      have HV7 := Lib.hid cv7
      have e7 := Lib.hid (cv7 _ (Below.refl _ _))
      clear cv7 b67
      go_wp2_with fail
      refine hK.out _ _ ?_ (fun hHeld => ?_)
      · exact KS.out _ b7
      clear hK K
      try simp only [Act.put, List.setIfInBounds_toArray, List.set_cons_zero, List.set_cons_succ]
      refine wpAnyH_more (S' := fun W => (convert 22 9 (.slice A4 q3 c4)).run Try.prog W = .ok (.string (str (andL (andL a b) c))) W ∧ (convert 22 9 (.slice A6 q3 c6)).run Try.prog W = .ok (.string (str (andL (andL a b) c))) W ∧ (convert 22 9 (.slice A n x)).run Try.prog W = .ok (.string (str a)) W ∧ (convert 22 9 (.slice A7 q1 c7)).run Try.prog W = .ok (.string (str (andL a b))) W) (fun W h => ⟨h.1, h.2.1, h.2.2.1⟩) ?_
      have hHeld1 : (fun W : World => (convert 22 9 (.slice A4 q3 c4)).run Try.prog W = .ok (.string (str (andL (andL a b) c))) W ∧ (convert 22 9 (.slice A6 q3 c6)).run Try.prog W = .ok (.string (str (andL (andL a b) c))) W ∧ (convert 22 9 (.slice A n x)).run Try.prog W = .ok (.string (str a)) W ∧ (convert 22 9 (.slice A7 q1 c7)).run Try.prog W = .ok (.string (str (andL a b))) W) w7 := ⟨hHeld.1, hHeld.2.1, hHeld.2.2, e7.out⟩
      clear hHeld
      refine wpAnyH_take (i := 3) (oi := { dst := some 32, op := Op.convert 22 9 (Operand.tmp 31), type := 9, pos := "outright.go:16", after := #[{ on := 2, ground := Ground.data }], guard := none }) (v := ?_) rfl (by kernel_rfl) (by kernel_rfl) (by kernel_rfl) (fun _ _ _ h => h) (Or.inl ⟨by rfl, ?_⟩) (by assumption) ?_
      rotate_left
      · intro W hSw; (try dsimp only at hSw); go_simp <;> with_reducible rfl
      try simp only [Act.put, List.setIfInBounds_toArray, List.set_cons_zero, List.set_cons_succ]
      refine wpAnyH_ready (rs := [6]) (by kernel_rfl) (by simp) ?_
      refine AllReadyH.cons (o := { dst := some 35, op := Op.call { callee := Callee.value (Operand.func 17), args := #[Operand.tmp 33, Operand.tmp 34], argTypes := #[22, 22] }, type := 22, pos := "outright.go:16", after := #[{ on := 4, ground := Ground.data }, { on := 5, ground := Ground.data }, { on := 2, ground := Ground.chain }], guard := none }) rfl (fun K hK => ?_) AllReadyH.nil
      go_simp
      refine (HBA.out _ b7).mono ?_
      rintro e w8 ⟨A8, c8, rfl, cv8, b8, b78⟩
      have e8 := Lib.hid (cv8 _ (Below.refl _ _))
      have HV8 := Lib.hid cv8
      have e78 := Lib.hid (HV7.out _ b78)
      have B78 := Lib.hid b78
      clear cv8 b78
      go_wp2_with fail
      refine hK.out _ _ ?_ (fun hHeld => ?_)
      · exact ⟨(KS.out _ b8).1, (KS.out _ b8).2.1, (KS.out _ b8).2.2, e78.out⟩
      clear hK K
      try simp only [Act.put, List.setIfInBounds_toArray, List.set_cons_zero, List.set_cons_succ]
      refine wpAnyH_more (S' := fun W => (convert 22 9 (.slice A4 q3 c4)).run Try.prog W = .ok (.string (str (andL (andL a b) c))) W ∧ (convert 22 9 (.slice A6 q3 c6)).run Try.prog W = .ok (.string (str (andL (andL a b) c))) W ∧ (convert 22 9 (.slice A n x)).run Try.prog W = .ok (.string (str a)) W ∧ (convert 22 9 (.slice A7 q1 c7)).run Try.prog W = .ok (.string (str (andL a b))) W ∧ (convert 22 9 (.slice A8 q1 c8)).run Try.prog W = .ok (.string (str (andL a b))) W) (fun W h => ⟨h.1, h.2.1, h.2.2.1, h.2.2.2.1⟩) ?_
      have hHeld2 : (fun W : World => (convert 22 9 (.slice A4 q3 c4)).run Try.prog W = .ok (.string (str (andL (andL a b) c))) W ∧ (convert 22 9 (.slice A6 q3 c6)).run Try.prog W = .ok (.string (str (andL (andL a b) c))) W ∧ (convert 22 9 (.slice A n x)).run Try.prog W = .ok (.string (str a)) W ∧ (convert 22 9 (.slice A7 q1 c7)).run Try.prog W = .ok (.string (str (andL a b))) W ∧ (convert 22 9 (.slice A8 q1 c8)).run Try.prog W = .ok (.string (str (andL a b))) W) w8 := ⟨hHeld.1, hHeld.2.1, hHeld.2.2.1, hHeld.2.2.2, e8.out⟩
      clear hHeld hHeld1
      refine wpAnyH_take (i := 7) (oi := { dst := some 36, op := Op.convert 22 9 (Operand.tmp 35), type := 9, pos := "outright.go:16", after := #[{ on := 6, ground := Ground.data }], guard := none }) (v := ?_) rfl (by kernel_rfl) (by kernel_rfl) (by kernel_rfl) (fun _ _ _ h => h) (Or.inl ⟨by rfl, ?_⟩) (by assumption) ?_
      rotate_left
      · intro W hSw; (try dsimp only at hSw); go_simp <;> with_reducible rfl
      try simp only [Act.put, List.setIfInBounds_toArray, List.set_cons_zero, List.set_cons_succ]
      refine wpAnyH_take (i := 8) (oi := { dst := some 37, op := Op.binOp BinOp.neq 9 (Operand.tmp 32) (Operand.tmp 36) 9, type := 4, pos := "outright.go:16", after := #[{ on := 3, ground := Ground.data }, { on := 7, ground := Ground.data }], guard := none }) (v := ?_) rfl (by kernel_rfl) (by kernel_rfl) (by kernel_rfl) (fun _ _ _ h => h) (Or.inl ⟨by rfl, ?_⟩) (by assumption) ?_
      rotate_left
      · intro W hSw; (try dsimp only at hSw); go_simp <;> with_reducible rfl
      try simp only [Act.put, List.setIfInBounds_toArray, List.set_cons_zero, List.set_cons_succ]
      refine wpAnyH_take (i := 9) (oi := { dst := some 38, op := Op.move (Operand.tmp 37), type := 4, pos := "outright.go:16", after := #[{ on := 8, ground := Ground.data }, { on := 6, ground := Ground.chain }], guard := none }) (v := ?_) rfl (by kernel_rfl) (by kernel_rfl) (by kernel_rfl) (fun _ _ _ h => h) (Or.inl ⟨by rfl, ?_⟩) (by assumption) ?_
      rotate_left
      · intro W hSw; (try dsimp only at hSw); go_simp <;> with_reducible rfl
      try simp only [Act.put, List.setIfInBounds_toArray, List.set_cons_zero, List.set_cons_succ]
      refine wpAnyH_take (i := 10) (oi := { dst := some 39, op := Op.move (Operand.tmp 7), type := 22, pos := "outright.go:16", after := #[{ on := 9, ground := Ground.guard }], guard := some (9, false) }) (v := ?_) rfl (by kernel_rfl) (by kernel_rfl) (by kernel_rfl) (fun _ _ _ h => h) (Or.inl ⟨by rfl, ?_⟩) (by assumption) ?_
      rotate_left
      · intro W hSw; (try dsimp only at hSw); go_simp <;> with_reducible rfl
      try simp only [Act.put, List.setIfInBounds_toArray, List.set_cons_zero, List.set_cons_succ]
      refine wpAnyH_take (i := 12) (oi := { dst := some 41, op := Op.move (Operand.tmp 8), type := 22, pos := "outright.go:16", after := #[{ on := 9, ground := Ground.guard }], guard := some (9, false) }) (v := ?_) rfl (by kernel_rfl) (by kernel_rfl) (by kernel_rfl) (fun _ _ _ h => h) (Or.inl ⟨by rfl, ?_⟩) (by assumption) ?_
      rotate_left
      · intro W hSw; (try dsimp only at hSw); go_simp <;> with_reducible rfl
      try simp only [Act.put, List.setIfInBounds_toArray, List.set_cons_zero, List.set_cons_succ]
      refine wpAnyH_take (i := 11) (oi := { dst := some 40, op := Op.convert 22 9 (Operand.tmp 39), type := 9, pos := "outright.go:16", after := #[{ on := 10, ground := Ground.data }, { on := 9, ground := Ground.guard }], guard := some (9, false) }) (v := ?_) rfl (by kernel_rfl) (by kernel_rfl) (by kernel_rfl) (fun _ _ _ h => h) (Or.inl ⟨by rfl, ?_⟩) (by assumption) ?_
      rotate_left
      · intro W hSw; (try dsimp only at hSw); go_simp <;> with_reducible rfl
      try simp only [Act.put, List.setIfInBounds_toArray, List.set_cons_zero, List.set_cons_succ]
      refine wpAnyH_take (i := 13) (oi := { dst := some 42, op := Op.convert 22 9 (Operand.tmp 41), type := 9, pos := "outright.go:16", after := #[{ on := 12, ground := Ground.data }, { on := 9, ground := Ground.guard }], guard := some (9, false) }) (v := ?_) rfl (by kernel_rfl) (by kernel_rfl) (by kernel_rfl) (fun _ _ _ h => h) (Or.inl ⟨by rfl, ?_⟩) (by assumption) ?_
      rotate_left
      · intro W hSw; (try dsimp only at hSw); go_simp <;> with_reducible rfl
      try simp only [Act.put, List.setIfInBounds_toArray, List.set_cons_zero, List.set_cons_succ]
      refine wpAnyH_take (i := 14) (oi := { dst := some 43, op := Op.binOp BinOp.neq 9 (Operand.tmp 40) (Operand.tmp 42) 9, type := 4, pos := "outright.go:16", after := #[{ on := 11, ground := Ground.data }, { on := 13, ground := Ground.data }, { on := 9, ground := Ground.guard }], guard := some (9, false) }) (v := ?_) rfl (by kernel_rfl) (by kernel_rfl) (by kernel_rfl) (fun _ _ _ h => h) (Or.inl ⟨by rfl, ?_⟩) (by assumption) ?_
      rotate_left
      · intro W hSw; (try dsimp only at hSw); go_simp <;> with_reducible rfl
      try simp only [Act.put, List.setIfInBounds_toArray, List.set_cons_zero, List.set_cons_succ]
      refine wpAnyH_take (i := 15) (oi := { dst := some 44, op := Op.pick (Operand.tmp 38) (Operand.const (Value.bool true)) (Operand.tmp 43), type := 4, pos := "outright.go:16", after := #[{ on := 9, ground := Ground.data }, { on := 14, ground := Ground.data }], guard := none }) (v := ?_) rfl (by kernel_rfl) (by kernel_rfl) (by kernel_rfl) (fun _ _ _ h => h) (Or.inl ⟨by rfl, ?_⟩) (by assumption) ?_
      rotate_left
      · intro W hSw; (try dsimp only at hSw); go_simp <;> with_reducible rfl
      try simp only [Act.put, List.setIfInBounds_toArray, List.set_cons_zero, List.set_cons_succ]
      refine wpAnyH_take (i := 16) (oi := { dst := some 45, op := Op.move (Operand.tmp 44), type := 4, pos := "outright.go:16", after := #[{ on := 15, ground := Ground.data }, { on := 9, ground := Ground.chain }], guard := none }) (v := ?_) rfl (by kernel_rfl) (by kernel_rfl) (by kernel_rfl) (fun _ _ _ h => h) (Or.inl ⟨by rfl, ?_⟩) (by assumption) ?_
      rotate_left
      · intro W hSw; (try dsimp only at hSw); go_simp <;> with_reducible rfl
      try simp only [Act.put, List.setIfInBounds_toArray, List.set_cons_zero, List.set_cons_succ]
      refine wpAnyH_take (i := 17) (oi := { dst := some 46, op := Op.move (Operand.tmp 0), type := 22, pos := "outright.go:16", after := #[{ on := 16, ground := Ground.guard }], guard := some (16, false) }) (v := ?_) rfl (by kernel_rfl) (by kernel_rfl) (by kernel_rfl) (fun _ _ _ h => h) (Or.inl ⟨by rfl, ?_⟩) (by assumption) ?_
      rotate_left
      · intro W hSw; (try dsimp only at hSw); go_simp <;> with_reducible rfl
      try simp only [Act.put, List.setIfInBounds_toArray, List.set_cons_zero, List.set_cons_succ]
      refine wpAnyH_take (i := 18) (oi := { dst := some 47, op := Op.move (Operand.tmp 0), type := 22, pos := "outright.go:16", after := #[{ on := 16, ground := Ground.guard }], guard := some (16, false) }) (v := ?_) rfl (by kernel_rfl) (by kernel_rfl) (by kernel_rfl) (fun _ _ _ h => h) (Or.inl ⟨by rfl, ?_⟩) (by assumption) ?_
      rotate_left
      · intro W hSw; (try dsimp only at hSw); go_simp <;> with_reducible rfl
      try simp only [Act.put, List.setIfInBounds_toArray, List.set_cons_zero, List.set_cons_succ]
      refine wpAnyH_take (i := 21) (oi := { dst := some 50, op := Op.move (Operand.tmp 0), type := 22, pos := "outright.go:16", after := #[{ on := 16, ground := Ground.guard }], guard := some (16, false) }) (v := ?_) rfl (by kernel_rfl) (by kernel_rfl) (by kernel_rfl) (fun _ _ _ h => h) (Or.inl ⟨by rfl, ?_⟩) (by assumption) ?_
      rotate_left
      · intro W hSw; (try dsimp only at hSw); go_simp <;> with_reducible rfl
      try simp only [Act.put, List.setIfInBounds_toArray, List.set_cons_zero, List.set_cons_succ]
      refine wpAnyH_take (i := 22) (oi := { dst := some 51, op := Op.convert 22 9 (Operand.tmp 50), type := 9, pos := "outright.go:16", after := #[{ on := 21, ground := Ground.data }, { on := 16, ground := Ground.guard }], guard := some (16, false) }) (v := ?_) rfl (by kernel_rfl) (by kernel_rfl) (by kernel_rfl) (fun _ _ _ h => h) (Or.inl ⟨by rfl, ?_⟩) (by assumption) ?_
      rotate_left
      · intro W hSw; (try dsimp only at hSw); go_simp <;> with_reducible rfl
      try simp only [Act.put, List.setIfInBounds_toArray, List.set_cons_zero, List.set_cons_succ]
      refine wpAnyH_ready (rs := [19]) (by kernel_rfl) (by simp) ?_
      refine AllReadyH.cons (o := { dst := some 48, op := Op.call { callee := Callee.value (Operand.func 17), args := #[Operand.tmp 46, Operand.tmp 47], argTypes := #[22, 22] }, type := 22, pos := "outright.go:16", after := #[{ on := 17, ground := Ground.data }, { on := 18, ground := Ground.data }, { on := 16, ground := Ground.chain }, { on := 16, ground := Ground.guard }], guard := some (16, false) }) rfl (fun K hK => ?_) AllReadyH.nil
      go_simp
      refine (HAA.out _ b8).mono ?_
      rintro e w9 ⟨A9, c9, rfl, cv9, b9, b89⟩
      have e9 := Lib.hid (cv9 _ (Below.refl _ _))
      have e89 := Lib.hid (HV8.out _ b89)
      have e79 := Lib.hid (HV7.out _ (below_step B78.out b89))
      clear cv9 b89
      go_wp2_with fail
      refine hK.out _ _ ?_ (fun hHeld => ?_)
      · exact ⟨(KS.out _ b9).1, (KS.out _ b9).2.1, (KS.out _ b9).2.2, e79.out, e89.out⟩
      clear hK K
      try simp only [Act.put, List.setIfInBounds_toArray, List.set_cons_zero, List.set_cons_succ]
      refine wpAnyH_more (S' := fun W => (convert 22 9 (.slice A4 q3 c4)).run Try.prog W = .ok (.string (str (andL (andL a b) c))) W ∧ (convert 22 9 (.slice A6 q3 c6)).run Try.prog W = .ok (.string (str (andL (andL a b) c))) W ∧ (convert 22 9 (.slice A n x)).run Try.prog W = .ok (.string (str a)) W ∧ (convert 22 9 (.slice A7 q1 c7)).run Try.prog W = .ok (.string (str (andL a b))) W ∧ (convert 22 9 (.slice A8 q1 c8)).run Try.prog W = .ok (.string (str (andL a b))) W ∧ (convert 22 9 (.slice A9 n c9)).run Try.prog W = .ok (.string (str a)) W) (fun W h => ⟨h.1, h.2.1, h.2.2.1, h.2.2.2.1, h.2.2.2.2.1⟩) ?_
      have hHeld3 : (fun W : World => (convert 22 9 (.slice A4 q3 c4)).run Try.prog W = .ok (.string (str (andL (andL a b) c))) W ∧ (convert 22 9 (.slice A6 q3 c6)).run Try.prog W = .ok (.string (str (andL (andL a b) c))) W ∧ (convert 22 9 (.slice A n x)).run Try.prog W = .ok (.string (str a)) W ∧ (convert 22 9 (.slice A7 q1 c7)).run Try.prog W = .ok (.string (str (andL a b))) W ∧ (convert 22 9 (.slice A8 q1 c8)).run Try.prog W = .ok (.string (str (andL a b))) W ∧ (convert 22 9 (.slice A9 n c9)).run Try.prog W = .ok (.string (str a)) W) w9 := ⟨hHeld.1, hHeld.2.1, hHeld.2.2.1, hHeld.2.2.2.1, hHeld.2.2.2.2, e9.out⟩
      clear hHeld hHeld2
      refine wpAnyH_take (i := 20) (oi := { dst := some 49, op := Op.convert 22 9 (Operand.tmp 48), type := 9, pos := "outright.go:16", after := #[{ on := 19, ground := Ground.data }, { on := 16, ground := Ground.guard }], guard := some (16, false) }) (v := ?_) rfl (by kernel_rfl) (by kernel_rfl) (by kernel_rfl) (fun _ _ _ h => h) (Or.inl ⟨by rfl, ?_⟩) (by assumption) ?_
      rotate_left
      · intro W hSw; (try dsimp only at hSw); go_simp <;> with_reducible rfl
      try simp only [Act.put, List.setIfInBounds_toArray, List.set_cons_zero, List.set_cons_succ]
      refine wpAnyH_take (i := 23) (oi := { dst := some 52, op := Op.binOp BinOp.neq 9 (Operand.tmp 49) (Operand.tmp 51) 9, type := 4, pos := "outright.go:16", after := #[{ on := 20, ground := Ground.data }, { on := 22, ground := Ground.data }, { on := 16, ground := Ground.guard }], guard := some (16, false) }) (v := ?_) rfl (by kernel_rfl) (by kernel_rfl) (by kernel_rfl) (fun _ _ _ h => h) (Or.inl ⟨by rfl, ?_⟩) (by assumption) ?_
      rotate_left
      · intro W hSw; (try dsimp only at hSw); go_simp <;> with_reducible rfl
      try simp only [Act.put, List.setIfInBounds_toArray, List.set_cons_zero, List.set_cons_succ]
      refine wpAnyH_take (i := 24) (oi := { dst := some 53, op := Op.pick (Operand.tmp 45) (Operand.const (Value.bool true)) (Operand.tmp 52), type := 4, pos := "outright.go:16", after := #[{ on := 16, ground := Ground.data }, { on := 23, ground := Ground.data }], guard := none }) (v := ?_) rfl (by kernel_rfl) (by kernel_rfl) (by kernel_rfl) (fun _ _ _ h => h) (Or.inl ⟨by rfl, ?_⟩) (by assumption) ?_
      rotate_left
      · intro W hSw; (try dsimp only at hSw); go_simp <;> with_reducible rfl
      try simp only [Act.put, List.setIfInBounds_toArray, List.set_cons_zero, List.set_cons_succ]
      refine wpAnyH_done (by kernel_rfl) ?_ _
      go_wp2_with fail
      go_meet
      exact ⟨rfl, b9⟩
    case rest =>
      obtain ⟨rfl, BC⟩ := hcut
      clear HAB HBA HAA KS hM
      have HA7 := Lib.hid (HA6.out.below BC.out)
      have HB7 := Lib.hid (HB6.out.below BC.out)
      have C7 := Lib.hid (below_step C6.out BC.out)
      clear HA6 HB6 C6 BC
      obtain ⟨q, hq⟩ : ∃ q, (diffL a b).length = q := ⟨_, rfl⟩
      have hq5 : q ≤ 4000 := by
        have h1 := diffTo_length a b (min a.length b.length)
        have h2 := HAL.out
        rw [← hq]
        unfold diffL
        omega
      have HQL := Lib.hid hq
      clear hq
      have ho : ones a ≤ 8 * n := by have := ones_le a HA7.out.2; rw [HAL.out] at this; exact this
      go_wp2_with fail
      refine (Diff_any _ _ _ _ _ _ a b _ HA7.out HB7.out (by omega) (by omega)).mono ?_
      intro e w8 hM
      obtain ⟨A8, c8, rfl, H8, B8⟩ := hM.at_ HQL.out
      clear hM
      have HA8 := Lib.hid (HA7.out.below B8.out)
      have HB8 := Lib.hid (HB7.out.below B8.out)
      have C8 := Lib.hid (below_step C7.out B8.out)
      go_wp2_with fail
      refine (Diff_any _ _ _ _ _ _ b a _ HB8.out HA8.out (by omega) (by omega)).mono ?_
      intro e w9 hM
      rw [diffL_comm b a] at hM
      obtain ⟨A9, c9, rfl, H9, B9⟩ := hM.at_ HQL.out
      clear hM
      have HA9 := Lib.hid (HA8.out.below B9.out)
      have HB9 := Lib.hid (HB8.out.below B9.out)
      have H89 := Lib.hid (H8.out.below B9.out)
      have C9 := Lib.hid (below_step C8.out B9.out)
      clear HA7 HB7 C7 H8 B8 HA8 HB8 C8 B9
      go_wp2_with fail
      refine (Diff_any _ _ _ _ _ _ a a _ HA9.out HA9.out (by omega) (by omega)).mono ?_
      intro e w10 hM
      rw [diffL_self a] at hM
      obtain ⟨A10, c10, rfl, H10, B10⟩ := hM.at_ (n := 0) rfl
      clear hM
      have HA10 := Lib.hid (HA9.out.below B10.out)
      have HB10 := Lib.hid (HB9.out.below B10.out)
      have HD := Lib.hid (H89.out.below B10.out)
      have HE := Lib.hid (H9.out.below B10.out)
      have C10 := Lib.hid (below_step C9.out B10.out)
      clear HA9 HB9 H89 H9 C9 B10
      go_wp2_with fail
      refine (Zeros_any _ _ _ a _ HA10.out (by omega)).mono ?_
      rintro e w' ⟨rfl, rfl⟩
      go_wp2_with fail
      refine (Count_any _ _ _ a _ HA10.out (by omega)).mono ?_
      rintro e w' ⟨rfl, rfl⟩
      have hz : ((8 * (n : Int) - (ones a : Int) + (ones a : Int)) != 8 * (n : Int)) = false := by simp
      go_wp2
      go_loopw [85] (fun i wr => ∃ k : Nat, k ≤ q ∧ i = .int .i64 k ∧ Hid (Below w10.heap.size w10 wr)) (fun i _ => q - (intOf i).toNat)
      case atStart => exact ⟨0, Nat.zero_le _, rfl, Below.refl _ _⟩
      case round =>
        obtain ⟨k, hk, rfl, BR⟩ := hrel
        by_cases hlt : k < q
        · obtain ⟨d1, o1, P, rfl, g1, HX, hP0, hP1, hc1⟩ := (HD.out.below BR.out).at_ hlt
          obtain ⟨d2, o2, P2, rfl, g2, HY, _, _, hc2⟩ := (HE.out.below BR.out).at_ hlt
          obtain rfl : P = P2 := by
            have h1 := HX.out
            have h2 := HY.out
            rw [h1] at h2
            injection h2
          have hat := diffL_at a b k P HX.out
          have hg : (getI a P == getI b P) = false := hat.2.2
          have HAr := Lib.hid (HA10.out.below BR.out)
          have HBr := Lib.hid (HB10.out.below BR.out)
          clear hat HX HY
          go_wp2
          go_quiet ((first | (go_at_call 9; (with_reducible refine qQuiet (Get_any A n x a P _ ?_ ?_ ?_)); exact HAr.out.drewN _; omega; omega) | (go_at_call 9; (with_reducible refine qQuiet (Get_any B m y b P _ ?_ ?_ ?_)); exact HBr.out.drewN _; omega; omega)))
          go_wp2
          go_roundw
          case rel => exact ⟨k + 1, by omega, by go_num, below_drewN BR.out _⟩
          case measure => simp [intOf]; omega
        · go_wp2
          go_ret
          exact ⟨rfl, below_step C10.out BR.out⟩
end Go.Proofs.Ytladbcbgflkpaaa
