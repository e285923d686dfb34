/-
  Contracts of chunk.Encode and the document's Encode, over the landed code.
-/
import Derived.Laws.MakeOwn
import Derived.Test.YtjahbpmkkfdimaaPageDecodesJ6
import Derived.Test.YtjahbpmkkfdimaaPageDecodesJ8
import Derived.Test.YtjahbpmkkfdimaaPageDecodesJ11
import Derived.Test.YtjahbpmkkfdimaaPageDecodesJ3
namespace Go.Proofs.Ytjahbpmkkfdimaa
open Go.RowKit
set_option maxRecDepth 100000

/-- It returns a slice of the bytes d (and numbers), and nothing that was there has turned. -/
def Ret2 (d : List Nat) (e : Nat) (w : World) (en : Ending) (w' : World) : Prop :=
  ∃ A c, en = .returned (.tuple #[.slice A d.length c, .int .i64 (e : Int)]) ∧ R8 w' A d.length d ∧ (A = none → c = 0) ∧ d.length ≤ c ∧ Below w.heap.size w w'
def Ret3 (d : List Nat) (f e : Nat) (w : World) (en : Ending) (w' : World) : Prop :=
  ∃ A c, en = .returned (.tuple #[.slice A d.length c, .int .i64 (f : Int), .int .i64 (e : Int)]) ∧ R8 w' A d.length d ∧ (A = none → c = 0) ∧ Below w.heap.size w w'
/-- The same, and that the slice has room for its bytes. -/
def Ret3c (d : List Nat) (f e : Nat) (w : World) (en : Ending) (w' : World) : Prop :=
  ∃ A c, en = .returned (.tuple #[.slice A d.length c, .int .i64 (f : Int), .int .i64 (e : Int)]) ∧ R8 w' A d.length d ∧ (A = none → c = 0) ∧ d.length ≤ c ∧ Below w.heap.size w w'
theorem Ret3c.ret3 {d : List Nat} {f e : Nat} {w w' : World} {en : Ending} (h : Ret3c d f e w en w') : Ret3 d f e w en w' := by
  obtain ⟨A, c, h1, h2, h3, _, h5⟩ := h
  exact ⟨A, c, h1, h2, h3, h5⟩
theorem Ret3c.at_ {d : List Nat} {f e n : Nat} {w w' : World} {en : Ending} (h : Ret3c d f e w en w') (hl : d.length = n) : ∃ A c, en = .returned (.tuple #[.slice A n c, .int .i64 (f : Int), .int .i64 (e : Int)]) ∧ Hid (R8 w' A n d) ∧ Hid (A = none → c = 0) ∧ n ≤ c ∧ Hid (Below w.heap.size w w') := by
  subst hl
  exact h
theorem Ret2.at_ {d : List Nat} {e n : Nat} {w w' : World} {en : Ending} (h : Ret2 d e w en w') (hl : d.length = n) : ∃ A c, en = .returned (.tuple #[.slice A n c, .int .i64 (e : Int)]) ∧ Hid (R8 w' A n d) ∧ Hid (A = none → c = 0) ∧ n ≤ c ∧ Hid (Below w.heap.size w w') := by
  subst hl
  exact h
theorem Ret3.at_ {d : List Nat} {f e n : Nat} {w w' : World} {en : Ending} (h : Ret3 d f e w en w') (hl : d.length = n) : ∃ A c, en = .returned (.tuple #[.slice A n c, .int .i64 (f : Int), .int .i64 (e : Int)]) ∧ Hid (R8 w' A n d) ∧ Hid (A = none → c = 0) ∧ Hid (Below w.heap.size w w') := by
  subst hl
  exact h
theorem two_bytes (w : World) (x y : Nat) (t : TypeId) (hx : x < 256) (hy : y < 256) : R8 (w.alloc (.cells #[.int .u8 (x : Int), .int .u8 (y : Int)] t)) (some ⟨w.heap.size, 0, none⟩) 2 [x, y] := by
  refine ⟨⟨rfl, fun _ => ⟨_, 0, rfl, by simp, fun j hj => ?_⟩⟩, by simp; omega⟩
  match j, hj with
  | 0, _ => simp [U8]
  | 1, _ => simp [U8]
theorem u8_low (W : Nat) : IntKind.u8.wrap (W : Int) = ((W % 256 : Nat) : Int) := by
  simp only [IntKind.wrap, IntKind.bits, IntKind.signed]
  simp only [Bool.false_eq_true, Bool.false_and, if_false]
  omega
set_option maxHeartbeats 400000 in
theorem Encode_any (A : Option Addr) (n c : Nat) (l : List Nat) (w : World) (hr : R8 w A n l) (h0 : 1 ≤ n) (hn : n ≤ 512) :
    Calls Try.prog 57 #[.slice A n c] w (Ret2 (encL l) 0 w) := by
  obtain ⟨i0, ti, tz0, tz1, tz2⟩ := info_parts info_u8
  have HL := Lib.hid hr.len
  have HE := Lib.hid (show encL l = l ++ le2 (wordL l) from rfl)
  have hH := fun w' => holds_is (n : Int) true w' (decide_eq_true (by omega))
  have hw16 := (wordL_parts l (by have := HL.out; omega)).2.2.1
  have hW := Word_any A n c l w hr hn
  have hnil := Lib.hid (hr.some_ (c := c) (by omega))
  generalize wordL l = W at *
  have HR := Lib.hid hr
  clear hr
  go_enter Try.func57, Try.ntmps57
  go_wp2_with (go_at_call 76; refine (hH _).mono ?_; rintro e w' ⟨rfl, rfl⟩)
  refine hW.mono ?_
  rintro e w1 ⟨rfl, hb1⟩
  have HB1 := Lib.hid hb1
  have HR1 := Lib.hid (HR.out.below hb1)
  have hs1 := hb1.size
  clear hb1 hW hH
  obtain ⟨w2, hmk, hown2, hg2⟩ := run_make_own (P := Try.prog) w1 w.heap.size 24 5 i0 _ 1 Try.underlying24 ti tz0 tz1 .i64 .i64 (n + 2) (by rw [tz2]; omega) (by unfold maxLen; omega) hs1
  have hs2 : w1.heap.size ≤ w2.heap.size := hg2.size
  have HB2 := Lib.hid (HB1.out.grown hg2 hs1 (by simp))
  have HR2 := Lib.hid (HR.out.below HB2.out)
  have HO2 := Lib.hid hown2
  rw [show ((n + 2 : Nat) : Int) = (n : Int) + 2 by omega] at hmk
  clear hown2 hg2
  go_wp2_with (at_builtin; refine wpList_append8 _ rfl (.tmp 23) (.tmp 24) _ rfl w.heap.size 5 i0 Try.underlying24 ti tz0 tz1 tz2 _ 0 [] rfl HO2.out _ _ _ l rfl hnil.out HR2.out (by omega) (by omega) ?_)
  intro v3 w3 hown3 hg3
  have HO3 := Lib.hid (show w3.ownsRow w.heap.size 5 1 v3 n (U8 l) by simpa using hown3)
  have HB3 := Lib.hid (HB2.out.grown hg3 (by omega) (fun j hj => (HO2.out.lt j hj).1))
  have hs3 := hg3.size
  clear hown3 hg3 hmk
  obtain ⟨A3, c3, rfl⟩ := own_form HO3.out
  have q1 := u8_low W
  have q2 : IntKind.u8.wrap ((W : Int) / 256) = ((W / 256 : Nat) : Int) := IntWalk.u8_in _ (by omega)
  go_wp2_with (at_builtin; refine wpList_append8 _ rfl (.tmp 26) (.tmp 32) _ rfl w.heap.size 5 i0 Try.underlying24 ti tz0 tz1 tz2 _ n l rfl (HO3.out.alloc _) _ _ _ (le2 W) rfl (fun h => by cases h) (two_bytes w3 (W % 256) (W / 256) _ (by omega) (by omega)) (by omega) (by simp; omega) ?_)
  intro v4 w4 hown4 hg4
  obtain ⟨A4, c4, rfl⟩ := own_form hown4
  have HO4 := Lib.hid hown4
  have HB4 := Lib.hid ((HB3.out.alloc HB3.out.size _).grown hg4 (by have := HB3.out.size; simp; omega) (fun j hj => (HO3.out.lt j hj).1))
  clear hown4 hg4 q1 q2
  go_wp2
  go_ret2
  have e2 : (encL l).length = n + 2 := by rw [encL_length, HL.out]
  have hb : ∀ x ∈ encL l, x < 256 := by
    rw [HE.out]
    intro x hx
    rw [List.mem_append] at hx
    rcases hx with hx | hx
    · exact HR.out.2 x hx
    · exact le2_lt W hw16 x hx
  refine ⟨A4, c4, by rw [e2]; rfl, ?_, own_nil HO4.out, by rw [e2]; exact own_cap HO4.out, HB4.out⟩
  have := HO4.out
  rw [e2]
  rw [← HE.out] at this
  exact R8.own this hb
theorem Encode_none (A : Option Addr) (c : Nat) (w : World) :
    Calls Try.prog 57 #[.slice A 0 c] w fun e w' => e = .returned (.tuple #[.slice none 0 0, .int .i64 2]) ∧ w = w' := by
  have hH := fun w' => holds_is 0 false w' (by decide)
  go_enter Try.func57, Try.ntmps57
  go_wp2_with (go_at_call 76; refine (hH _).mono ?_; rintro e w' ⟨rfl, rfl⟩)
  go_ret2
  exact ⟨rfl, rfl⟩
set_option maxHeartbeats 400000 in
theorem RefEncode_any (A : Option Addr) (n c : Nat) (l : List Nat) (w : World) (hr : R8 w A n l) (h0 : 1 ≤ n) (hn : n ≤ 512) :
    Calls Try.prog 34 #[.slice A n c] w (MakesB (encL l) w) := by
  obtain ⟨i0, ti, tz0, tz1, tz2⟩ := info_parts info_u8
  have HL := Lib.hid hr.len
  have HE := Lib.hid (show encL l = l ++ le2 (wordL l) from rfl)
  have hw16 := (wordL_parts l (by have := HL.out; omega)).2.2.1
  have hW := RefWord_any A n c l w hr hn
  have hnil := Lib.hid (hr.some_ (c := c) (by omega))
  generalize wordL l = W at *
  have HR := Lib.hid hr
  clear hr
  go_enter Try.func34, Try.ntmps34
  go_wp2_with fail
  refine hW.mono ?_
  rintro e w1 ⟨rfl, hb1⟩
  have HB1 := Lib.hid hb1
  have HR1 := Lib.hid (HR.out.below hb1)
  have hs1 := hb1.size
  clear hb1 hW
  go_wp2_with (at_builtin; refine wpList_append8 _ rfl (.tmp 7) (.tmp 8) _ rfl w.heap.size 5 i0 Try.underlying24 ti tz0 tz1 tz2 (.slice none 0 0) 0 [] rfl (World.ownsRow_nil _ _ _ _) _ _ _ l rfl hnil.out HR1.out (by omega) hs1 ?_)
  intro v3 w3 hown3 hg3
  have HO3 := Lib.hid (show w3.ownsRow w.heap.size 5 1 v3 n (U8 l) by simpa using hown3)
  have HB3 := Lib.hid (HB1.out.grown hg3 (by omega) (by simp [Value.ownBlock]))
  have hs3 := hg3.size
  clear hown3 hg3
  obtain ⟨A3, c3, rfl⟩ := own_form HO3.out
  have q1 : IntKind.u8.wrap ((W : Int) % 256) = ((W % 256 : Nat) : Int) := IntWalk.u8_in _ (by omega)
  have q2 : IntKind.u8.wrap ((W : Int) / 256) = ((W / 256 : Nat) : Int) := IntWalk.u8_in _ (by omega)
  go_wp2_with (at_builtin; refine wpList_append8 _ rfl (.tmp 10) (.tmp 17) _ rfl w.heap.size 5 i0 Try.underlying24 ti tz0 tz1 tz2 _ n l rfl (HO3.out.alloc _) _ _ _ (le2 W) rfl (fun h => by cases h) (two_bytes w3 (W % 256) (W / 256) _ (by omega) (by omega)) (by omega) (by simp; omega) ?_)
  intro v4 w4 hown4 hg4
  obtain ⟨A4, c4, rfl⟩ := own_form hown4
  have HO4 := Lib.hid hown4
  have HB4 := Lib.hid ((HB3.out.alloc HB3.out.size _).grown hg4 (by have := HB3.out.size; simp; omega) (fun j hj => (HO3.out.lt j hj).1))
  clear hown4 hg4 q1 q2
  go_wp2
  go_ret
  have e2 : (encL l).length = n + 2 := by rw [encL_length, HL.out]
  have hb : ∀ x ∈ encL l, x < 256 := by
    rw [HE.out]
    intro x hx
    rw [List.mem_append] at hx
    rcases hx with hx | hx
    · exact HR.out.2 x hx
    · exact le2_lt W hw16 x hx
  refine ⟨A4, c4, by rw [e2]; rfl, ?_, HB4.out⟩
  have := HO4.out
  rw [e2]
  rw [← HE.out] at this
  exact R8.own this hb
theorem one_byte (w : World) (x : Nat) (t : TypeId) (hx : x < 256) : R8 (w.alloc (.cells #[.int .u8 (x : Int)] t)) (some ⟨w.heap.size, 0, none⟩) 1 [x] := by
  refine ⟨⟨rfl, fun _ => ⟨_, 0, rfl, by simp, fun j hj => ?_⟩⟩, by simp; omega⟩
  match j, hj with
  | 0, _ => simp [U8]
theorem three_bytes (w : World) (x y z : Nat) (t : TypeId) (hx : x < 256) (hy : y < 256) (hz : z < 256) : R8 (w.alloc (.cells #[.int .u8 (x : Int), .int .u8 (y : Int), .int .u8 (z : Int)] t)) (some ⟨w.heap.size, 0, none⟩) 3 [x, y, z] := by
  refine ⟨⟨rfl, fun _ => ⟨_, 0, rfl, by simp, fun j hj => ?_⟩⟩, by simp; omega⟩
  match j, hj with
  | 0, _ => simp [U8]
  | 1, _ => simp [U8]
  | 2, _ => simp [U8]
theorem enc_zero : encL [0] = [0, 0, 192] := by decide +kernel
end Go.Proofs.Ytjahbpmkkfdimaa
