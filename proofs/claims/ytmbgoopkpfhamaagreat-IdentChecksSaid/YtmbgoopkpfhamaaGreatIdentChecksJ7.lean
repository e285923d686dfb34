/-
  Contracts of tag.within, May, precedes, layout, and of the document's from, May, sizes (package incunableref07), over the landed code.
-/
import Derived.Test.YtmbgoopkpfhamaaGreatIdentChecksJ3
import Derived.Test.YtmbgoopkpfhamaaGreatIdentChecksJ2
import Derived.Test.YtmbgoopkpfhamaaGreatIdentChecksJ4
import Derived.Test.YtmbgoopkpfhamaaGreatIdentChecksJ11
namespace Go.Proofs.YtmbgoopkpfhamaaGreat
open Go.RowKit
set_option maxRecDepth 100000
def TBox (w : World) (n : Nat) (t : Tg) : Prop :=
 n < w.heap.size ∧ w.cell? ⟨n, 0, none⟩ = some (.int .i64 t.k) ∧ w.cell? ⟨n, 1, none⟩ = some (.int .i64 t.s) ∧ w.cell? ⟨n, 2, none⟩ = some (.int .i64 t.q) ∧ w.cell? ⟨n, 3, none⟩ = some (.int .i64 t.e)
theorem info_cycle : (Tryz.prog.info? 93).map (fun i => (i.zero, i.size, i.bytes)) = some (some (.agg #[.int .i64 0, .int .u8 0]), 2, 16) := by kernel_rfl
theorem Right_any (k b : Int) (w : World) :
  Calls Tryz.prog 82 #[.agg #[.int .i64 k, .int .u8 b]] w (Gives (.bool (okK k)) w) := by
 by_cases h1 : 1 ≤ k
 ·
  have e1 : decide ((1 : Int) ≤ k) = true := decide_eq_true h1
  have HE := Lib.hid (show decide (k ≤ (4 : Int)) = okK k by unfold okK; rw [e1, Bool.true_and])
  go_enter Tryz.func82, Tryz.ntmps82
  go_wp2
  go_ret
  exact ⟨ret_bool HE.out, below_new w _⟩
 ·
  have e1 : decide ((1 : Int) ≤ k) = false := decide_eq_false h1
  have HE := Lib.hid (show false = okK k by unfold okK; rw [e1, Bool.false_and])
  go_enter Tryz.func82, Tryz.ntmps82
  go_wp2
  go_ret
  exact ⟨ret_bool HE.out, below_new w _⟩
def MakesCy (l : List Cy) (w : World) (e : Ending) (w' : World) : Prop :=
 ∃ A c, e = .returned (.slice A l.length c) ∧ w'.ownsRow w.heap.size 93 2 (.slice A l.length c) l.length (CyC l) ∧ Below w.heap.size w w'
def ofL (k : Int) (b : List Nat) : List Cy := b.map fun x => ⟨k, x⟩
theorem ofL_length (k : Int) (b : List Nat) : (ofL k b).length = b.length := by simp [ofL]
theorem ofL_take {k : Int} {b : List Nat} {i x : Nat} (h : b[i]? = some x) : ofL k (b.take (i + 1)) = ofL k (b.take i) ++ [⟨k, x⟩] := by
 rw [List.take_add_one, h]
 simp [ofL]
set_option maxHeartbeats 1000000 in
theorem Of_any (kind : Int) (B : Option Addr) (n c : Nat) (b : List Nat) (w : World) (hr : R8 w B n b) (hn : n ≤ 1099511627776) :
  Calls Tryz.prog 48 #[.int .i64 kind, .slice B n c] w (MakesCy (ofL kind b) w) := by
 have HR := Lib.hid hr
 have hlen := Lib.hid hr.len
 clear hr
 obtain ⟨i0, ti, tz0, tz1, tz2⟩ := info_parts info_cycle
 go_enter Tryz.func48, Tryz.ntmps48
 go_wp2_with (at_make; refine wpList_make_own _ rfl _ _ _ rfl w.heap.size 93 i0 _ 2 Tryz.underlying49 ti tz0 tz1 .i64 .i64 (n : Int) n rfl rfl rfl ?b1 ?b2 ?b3 ?_)
 case b1 => rw [tz2]; omega
 case b2 => unfold maxLen; omega
 case b3 => exact Nat.le_refl _
 intro w1 hown hg
 have HO1 := Lib.hid hown
 have HB1 := Lib.hid (show Below w.heap.size w w1 from (Below.refl _ _).grown hg (by simp) (by simp))
 clear hown hg
 go_wp2
 go_loopw [5, 13] (fun v i wr => ∃ k : Nat, k ≤ n ∧ i = .int .i64 (k : Int) ∧ Hid (wr.ownsRow w.heap.size 93 2 v k (CyC (ofL kind (b.take k)))) ∧ Hid (Below w.heap.size w wr)) (fun _ i _ => n - (intOf i).toNat)
 case atStart => exact ⟨0, Nat.zero_le _, rfl, HO1, HB1⟩
 case round =>
  obtain ⟨k, hk, rfl, HOr, HBr⟩ := hrel
  by_cases hlt : k < n
  ·
   obtain ⟨b1, o1, x, rfl, hb1, HX, hx, c0⟩ := (HR.out.below HBr.out).at_ hlt
   have HT := Lib.hid (ofL_take (k := kind) HX.out)
   have hz : w.heap.size ≤ wr.heap.size := HBr.out.size
   go_wp2_with (at_builtin; refine wpList_append_own _ rfl (.tmp 17) (.tmp 21) _ rfl w.heap.size 93 i0 _ 2 16 Tryz.underlying49 ti tz0 tz1 tz2 rfl (by decide) _ _ _ rfl (HOr.out.alloc _) ⟨wr.heap.size, 0, none⟩ 1 1 [_, _] rfl rfl (pair_new _ _ _ _) ?c1 ?c2 ?c3 ?c4 ?_)
   case c1 => intro u hu; simp at hu; rcases hu with rfl | rfl <;> rfl
   case c2 => unfold maxLen; omega
   case c3 => omega
   case c4 => simp; omega
   intro v' w2 hown' hgrow _
   have HO2 := Lib.hid (show w2.ownsRow w.heap.size 93 2 v' (k + 1) (CyC (ofL kind (b.take (k + 1)))) by
    rw [HT.out, CyC_append]
    exact hown')
   have HB2 := Lib.hid ((HBr.out.alloc hz _).grown hgrow (by simp; omega) (fun j hj => (HOr.out.lt j hj).1))
   clear hown' hgrow
   go_wp2
   go_roundw
   case rel => exact ⟨k + 1, by omega, by go_num, HO2, HB2⟩
   case measure => simp [intOf]; omega
  ·
   obtain rfl : k = n := by omega
   obtain ⟨A', c', rfl⟩ := own_form2 HOr.out
   have HE := Lib.hid (show MakesCy (ofL kind b) w (.returned (.slice A' k c')) wr by
    have h := HOr.out
    have h2 : (ofL kind b).length = k := by rw [ofL_length, hlen.out]
    rw [List.take_of_length_le (by rw [hlen.out]; exact Nat.le_refl _)] at h
    unfold MakesCy
    rw [h2]
    exact ⟨A', c', rfl, h, HBr.out⟩)
   go_wp2
   go_ret
   exact HE.out
end Go.Proofs.YtmbgoopkpfhamaaGreat
