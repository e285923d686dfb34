/-
  Contract of tag.Latest, over the landed code.
-/
import Derived.Test.YtfioapdbibggkaaTagMem
import Derived.Deep.RegionHeld3
namespace Go.Proofs.Ytfioapdbibggkaa
open Go.RowKit

theorem Latest_none (A : Option Addr) (c : Nat) (w : World) : Calls Try.prog 15 #[.slice A 0 c] w fun e w' => e = .returned (.tuple #[.int .i64 0, .bool false]) ∧ w = w' := by
  go_enter Try.func15, Try.ntmps15
  go_wp2
  go_ret2
  exact ⟨rfl, rfl⟩

/-- It returns the latest one's place, and true; nothing that was there has turned. -/
def Tells (l : List Tg) (n : Nat) (w : World) (e : Ending) (w' : World) : Prop :=
  ∃ p : Nat, p < n ∧ LateTo l n p ∧ e = .returned (.tuple #[.int .i64 (p : Int), .bool true]) ∧ Below w.heap.size w w'

set_option maxRecDepth 100000 in
set_option maxHeartbeats 2000000 in
theorem Latest_some (A : Option Addr) (n c : Nat) (l : List Tg) (w : World) (hr : RT w A n l) (h0 : 0 < n) (hn : n ≤ 1099511627776) :
    Calls Try.prog 15 #[.slice A n c] w (Tells l n w) := by
  have HR := Lib.hid hr
  have hlen := Lib.hid hr.len
  obtain ⟨b, off, t0, rfl, hb, HT0, _⟩ := hr.at_ (k := 0) h0
  clear hr
  have hz : ((n : Int) == 0) = false := beq_eq_false_iff_ne.2 (by omega)
  go_enter Try.func15, Try.ntmps15
  go_wp2
  go_loopw [4, 12] (fun v i wr => ∃ k p : Nat, k ≤ n ∧ p < n ∧ i = .int .i64 (k : Int) ∧ v = .int .i64 (p : Int) ∧ Hid (LateTo l k p) ∧ Hid (Below w.heap.size w wr)) (fun _ i _ => n - (intOf i).toNat)
  case atStart => exact ⟨0, 0, Nat.zero_le _, h0, rfl, rfl, LateTo.start HT0.out, Below.refl _ _⟩
  case round =>
    obtain ⟨k, p, hk, hp, rfl, rfl, HL, HB⟩ := hrel
    by_cases hlt : k < n
    · obtain ⟨b1, o1, t, e1, hb1, HX, c0, c1, c2, c3⟩ := (HR.out.below HB.out).at_ hlt
      injection e1 with e1
      injection e1 with e11 e12
      subst e11 e12
      obtain ⟨b1, o1, u, e1, _, HY, d0, d1, d2, d3⟩ := (HR.out.below HB.out).at_ hp
      injection e1 with e1
      injection e1 with e11 e12
      subst e11 e12
      obtain ⟨tk, ts, tq, te⟩ := t
      obtain ⟨uk, us, uq, ue⟩ := u
      simp only at c0 c1 c2 c3 d0 d1 d2 d3
      go_wp2
      have D0 : Below wr.heap.size wr (wr.alloc (.cells #[.int .i64 tk, .int .i64 ts, .int .i64 tq, .int .i64 te] 23)) := below_new wr _
      have B0 := Lib.hid (below_step HB.out D0)
      obtain ⟨hg, f0, f1, f2, f3⟩ := TBox.new wr ⟨tk, ts, tq, te⟩ 23
      simp only at f0 f1 f2 f3
      have hbW : b < (wr.alloc (.cells #[.int .i64 tk, .int .i64 ts, .int .i64 tq, .int .i64 te] 23)).heap.size := by simp; omega
      have g0 := (D0.cell (p := ⟨b, off + p * 4, none⟩) hb1).trans d0
      have g1 := (D0.cell (p := ⟨b, off + p * 4 + 1, none⟩) hb1).trans d1
      have g2 := (D0.cell (p := ⟨b, off + p * 4 + 2, none⟩) hb1).trans d2
      have g3 := (D0.cell (p := ⟨b, off + p * 4 + 3, none⟩) hb1).trans d3
      clear c0 c1 c2 c3 d0 d1 d2 d3 D0
      generalize wr.alloc (.cells #[.int .i64 tk, .int .i64 ts, .int .i64 tq, .int .i64 te] 23) = W at *
      refine wp_region_noPanic ?_
      refine wp_region_held_drew (S := fun w' => Below W.heap.size W w') (by kernel_rfl) ((Below.refl _ _).drew) (fun C0 => ?_)
      refine wpAnyH_take (i := 0) (oi := { dst := some 17, op := Op.move (Operand.tmp 0), type := 37, pos := "tag.go:48", after := #[], guard := none }) (v := ?_) rfl (by kernel_rfl) (by kernel_rfl) (by kernel_rfl) (fun _ _ _ h => h) (Or.inl ⟨by rfl, ?_⟩) C0 ?_
      rotate_left
      · intro W' hSw
        clear hSw
        go_simp <;> with_reducible rfl
      try simp only [Act.put, List.setIfInBounds_toArray, List.set_cons_zero, List.set_cons_succ]
      refine wpAnyH_take (i := 1) (oi := { dst := some 18, op := Op.move (Operand.tmp 4), type := 3, pos := "tag.go:48", after := #[], guard := none }) (v := ?_) rfl (by kernel_rfl) (by kernel_rfl) (by kernel_rfl) (fun _ _ _ h => h) (Or.inl ⟨by rfl, ?_⟩) C0 ?_
      rotate_left
      · intro W' hSw
        clear hSw
        go_simp <;> with_reducible rfl
      try simp only [Act.put, List.setIfInBounds_toArray, List.set_cons_zero, List.set_cons_succ]
      refine wpAnyH_take (i := 2) (oi := { dst := some 19, op := Op.indexAddr 37 (Operand.tmp 17) (Operand.tmp 18), type := 0, pos := "tag.go:48", after := #[{ on := 0, ground := Ground.data }, { on := 1, ground := Ground.data }], guard := none }) (v := ?_) rfl (by kernel_rfl) (by kernel_rfl) (by kernel_rfl) (fun _ _ _ h => h) (Or.inl ⟨by rfl, ?_⟩) C0 ?_
      rotate_left
      · intro W' hSw
        clear hSw
        go_simp <;> with_reducible rfl
      try simp only [Act.put, List.setIfInBounds_toArray, List.set_cons_zero, List.set_cons_succ]
      refine wpAnyH_take (i := 3) (oi := { dst := some 20, op := Op.load 23 (Operand.tmp 19), type := 23, pos := "tag.go:48", after := #[{ on := 2, ground := Ground.data }], guard := none }) (v := ?_) rfl (by kernel_rfl) (by kernel_rfl) (by kernel_rfl) (fun _ _ _ h => h) (Or.inl ⟨by rfl, ?_⟩) C0 ?_
      rotate_left
      · intro W' hSw
        have z0 := (hSw.cell (p := ⟨b, off + p * 4, none⟩) hbW).trans g0
        have z1 := (hSw.cell (p := ⟨b, off + p * 4 + 1, none⟩) hbW).trans g1
        have z2 := (hSw.cell (p := ⟨b, off + p * 4 + 2, none⟩) hbW).trans g2
        have z3 := (hSw.cell (p := ⟨b, off + p * 4 + 3, none⟩) hbW).trans g3
        clear hSw
        go_simp <;> with_reducible rfl
      try simp only [Act.put, List.setIfInBounds_toArray, List.set_cons_zero, List.set_cons_succ]
      refine wpAnyH_take (i := 4) (oi := { dst := some 21, op := Op.load 23 (Operand.tmp 6), type := 23, pos := "tag.go:48", after := #[], guard := none }) (v := ?_) rfl (by kernel_rfl) (by kernel_rfl) (by kernel_rfl) (fun _ _ _ h => h) (Or.inl ⟨by rfl, ?_⟩) C0 ?_
      rotate_left
      · intro W' hSw
        have z0 := (hSw.cell (p := ⟨wr.heap.size, 0, none⟩) hg).trans f0
        have z1 := (hSw.cell (p := ⟨wr.heap.size, 1, none⟩) hg).trans f1
        have z2 := (hSw.cell (p := ⟨wr.heap.size, 2, none⟩) hg).trans f2
        have z3 := (hSw.cell (p := ⟨wr.heap.size, 3, none⟩) hg).trans f3
        clear hSw
        go_simp <;> with_reducible rfl
      try simp only [Act.put, List.setIfInBounds_toArray, List.set_cons_zero, List.set_cons_succ]
      refine wpAnyH_ready (rs := [5]) (by kernel_rfl) (by simp) ?_
      refine AllReadyH.cons (o := { dst := some 22, op := Op.call { callee := Callee.value (Operand.func 25), args := #[Operand.tmp 20, Operand.tmp 21], argTypes := #[23, 23] }, type := 4, pos := "tag.go:48", after := #[{ on := 3, ground := Ground.data }, { on := 4, ground := Ground.data }], guard := none }) rfl (fun K hK => ?_) AllReadyH.nil
      go_simp
      refine (precedes_any ⟨uk, us, uq, ue⟩ ⟨tk, ts, tq, te⟩ _).mono ?_
      rintro _ w3 ⟨rfl, hB⟩
      simp only
      go_wp2_with fail
      refine hK.out _ _ (C0.trans (hB.mono C0.size)) (fun C1 => ?_)
      clear hK K hB
      try simp only [Act.put, List.setIfInBounds_toArray, List.set_cons_zero, List.set_cons_succ]
      refine wpAnyH_done (by kernel_rfl) ?_ _
      refine NoPanic.normal ?_
      have B3 := Lib.hid (below_step B0.out C1)
      clear C0 C1 g0 g1 g2 g3 f0 f1 f2 f3 B0
      by_cases hq : uq < tq
      · have HL2 := Lib.hid (HL.out.later HY.out HX.out hq)
        go_wp2
        go_roundw
        case rel => exact ⟨k + 1, k, by omega, hlt, by go_num, rfl, HL2, B3⟩
        case measure => simp [intOf]; omega
      · have HL2 := Lib.hid (HL.out.stays HY.out HX.out hq)
        go_wp2
        go_roundw
        case rel => exact ⟨k + 1, p, by omega, hp, by go_num, rfl, HL2, B3⟩
        case measure => simp [intOf]; omega
    · obtain rfl : k = n := by omega
      go_wp2
      go_ret2
      exact ⟨p, hp, HL.out, rfl, HB.out⟩
end Go.Proofs.Ytfioapdbibggkaa
