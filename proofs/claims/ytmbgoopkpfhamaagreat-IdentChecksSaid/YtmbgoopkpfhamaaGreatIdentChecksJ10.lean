/-
  Contracts of the checks of a script, over the landed code.
-/
import Derived.Test.YtmbgoopkpfhamaaGreatTk
import Derived.Test.YtmbgoopkpfhamaaGreatTkB
import Derived.Maps.AppendAt
import Derived.Maps.Own
import Derived.Deep.RegionHeld3
import Derived.Laws.CopyRow
import Derived.Test.YtmbgoopkpfhamaaGreatIdentChecksJChMem
import Derived.Test.YtmbgoopkpfhamaaGreatIdentChecksJ6
import Derived.Test.YtmbgoopkpfhamaaGreatIdentChecksJInv
import Derived.Test.YtmbgoopkpfhamaaGreatIdentChecksJ3
import Derived.Test.YtmbgoopkpfhamaaGreatIdentChecksJ5
import Derived.Test.YtmbgoopkpfhamaaGreatIdentChecksJ9
import Derived.Test.YtmbgoopkpfhamaaGreatIdentChecksJ7
import Derived.Test.YtmbgoopkpfhamaaGreatIdentChecksJ4
namespace Go.Proofs.YtmbgoopkpfhamaaGreat
open Go.RowKit
set_option maxRecDepth 100000
def zBc0 : Oper := { dst := some 32, op := Op.call { callee := Callee.value (Operand.func 64), args := #[Operand.tmp 28, Operand.const (Value.int IntKind.i64 0), Operand.tmp 31], argTypes := #[3, 3, 3] }, type := 4, pos := "choice.go:167", after := #[{ on := 4, ground := Ground.data }, { on := 7, ground := Ground.data }, { on := 2, ground := Ground.chain }, { on := 2, ground := Ground.guard }], guard := some (2, false) }
def zBc1 : Oper := { dst := some 39, op := Op.call { callee := Callee.value (Operand.func 68), args := #[Operand.tmp 38], argTypes := #[23] }, type := 3, pos := "choice.go:167", after := #[{ on := 14, ground := Ground.data }, { on := 11, ground := Ground.chain }, { on := 11, ground := Ground.guard }], guard := some (11, false) }
def zBc2 : Oper := { dst := some 42, op := Op.call { callee := Callee.value (Operand.func 64), args := #[Operand.tmp 37, Operand.const (Value.int IntKind.i64 0), Operand.tmp 41], argTypes := #[3, 3, 3] }, type := 4, pos := "choice.go:167", after := #[{ on := 13, ground := Ground.data }, { on := 17, ground := Ground.data }, { on := 15, ground := Ground.chain }, { on := 11, ground := Ground.guard }], guard := some (11, false) }
def geo12 : Gm := ⟨1, 4, 4, 1, 4, 2, 1⟩
theorem within_any (n lo hi : Int) (w : World) : Calls Tryz.prog 64 #[.int .i64 n, .int .i64 lo, .int .i64 hi] w fun e w' => e = .returned (.bool (decide (lo ≤ n ∧ n ≤ hi))) ∧ w = w' := by
 by_cases h1 : lo ≤ n
 ·
  by_cases h2 : n ≤ hi
  ·
   rw [decide_eq_true (show lo ≤ n ∧ n ≤ hi from ⟨h1, h2⟩)]
   go_enter Tryz.func64, Tryz.ntmps64
   go_wp2
   go_ret
   exact ⟨rfl, rfl⟩
  ·
   rw [decide_eq_false (show ¬ (lo ≤ n ∧ n ≤ hi) from fun h => h2 h.2)]
   have h2' : hi < n := by omega
   go_enter Tryz.func64, Tryz.ntmps64
   go_wp2
   go_ret
   exact ⟨rfl, rfl⟩
 ·
  rw [decide_eq_false (show ¬ (lo ≤ n ∧ n ≤ hi) from fun h => h1 h.1)]
  have h1' : n < lo := by omega
  go_enter Tryz.func64, Tryz.ntmps64
  go_wp2
  go_ret
  exact ⟨rfl, rfl⟩
theorem within_yes (n lo hi : Int) (w : World) (h1 : lo ≤ n) (h2 : n ≤ hi) : Calls Tryz.prog 64 #[.int .i64 n, .int .i64 lo, .int .i64 hi] w fun e w' => e = .returned (.bool true) ∧ w = w' := by
 have h := within_any n lo hi w
 rwa [decide_eq_true (show lo ≤ n ∧ n ≤ hi from ⟨h1, h2⟩)] at h
theorem within_no (n lo hi : Int) (w : World) (h : ¬ (lo ≤ n ∧ n ≤ hi)) : Calls Tryz.prog 64 #[.int .i64 n, .int .i64 lo, .int .i64 hi] w fun e w' => e = .returned (.bool false) ∧ w = w' := by
 have h1 := within_any n lo hi w
 rwa [decide_eq_false h] at h1
theorem lens_at (a b c d e : Nat) (ha : a ≤ 4096) (hb : b ≤ 4096) (hc : c ≤ 4096) (hd : d ≤ 4096) (he : e ≤ 4096) (n : Nat) (h : n < 5) : ∃ x : Int, x ≤ 4096 ∧
  ∀ w : World, (Instr.index 152 (.agg #[.int .i64 a, .int .i64 b, .int .i64 c, .int .i64 d, .int .i64 e]) (.int .i64 n)).run Tryz.prog w = .ok (.int .i64 x) w := by
 have h5 : n = 0 ∨ n = 1 ∨ n = 2 ∨ n = 3 ∨ n = 4 := by omega
 clear h
 rcases h5 with rfl | rfl | rfl | rfl | rfl
 ·
  exact ⟨a, by omega, fun _ => by kernel_rfl⟩
 ·
  exact ⟨b, by omega, fun _ => by kernel_rfl⟩
 ·
  exact ⟨c, by omega, fun _ => by kernel_rfl⟩
 ·
  exact ⟨d, by omega, fun _ => by kernel_rfl⟩
 ·
  exact ⟨e, by omega, fun _ => by kernel_rfl⟩
theorem size_five : (Tryz.prog.info? 152).map (·.size) = some 5 := by kernel_rfl
set_option maxHeartbeats 1000000 in
theorem areShort_yes (A1 A2 A3 A4 A5 : Option Addr) (n1 c1 n2 c2 n3 c3 n4 c4 n5 c5 : Nat) (cut : Int) (w : World) (h1 : n1 ≤ 4096) (h2 : n2 ≤ 4096) (h3 : n3 ≤ 4096) (h4 : n4 ≤ 4096) (h5 : n5 ≤ 4096) :
  Calls Tryz.prog 60 #[.agg #[.slice A1 n1 c1, .slice A2 n2 c2, .slice A3 n3 c3, .int .i64 cut, .slice A4 n4 c4, .slice A5 n5 c5]] w (Gives (.bool true) w) := by
 have HL := Lib.hid (lens_at n1 n2 n3 n4 n5 h1 h2 h3 h4 h5)
 have T0 := Lib.hid (CRow.new w #[.slice A1 n1 c1, .slice A2 n2 c2, .slice A3 n3 c3, .int .i64 cut, .slice A4 n4 c4, .slice A5 n5 c5] 28)
 have B0 := Lib.hid (below_new w (.cells #[.slice A1 n1 c1, .slice A2 n2 c2, .slice A3 n3 c3, .int .i64 cut, .slice A4 n4 c4, .slice A5 n5 c5] 28))
 go_enter Tryz.func60, Tryz.ntmps60
 go_wp2_with (first | (with_reducible refine (?_ : wpList _ _ _ ({ dst := _, op := Op.store 152 _ _, type := _, pos := _, after := _, guard := _ } :: _) _ _); refine wpList_store_new rfl 152 _ _ rfl 5 size_five _ ?hx rfl _ ?hn ?ho ?h1 ?_; (case hx => simp [Act.eval]); (case hn => simp); (case ho => simp); (case h1 => simp [Value.oneCell'])) | (with_reducible refine (?_ : wpList _ _ _ ({ dst := _, op := Op.load 152 _, type := _, pos := _, after := _, guard := _ } :: _) _ _); apply wpList_load_new (n := 5) (m := 5) (e := 3) (t := 152) (x := .tmp 3) (hu := Tryz.underlying152) (hi := size_five) (hg := rfl) (ho := rfl) (cells := #[.int .i64 n1, .int .i64 n2, .int .i64 n3, .int .i64 n4, .int .i64 n5]); (case hx => simp [Act.eval]); (case hn => simp)))
 generalize HW : ((w.alloc _).alloc _ : World) = W0
 have BW := Lib.hid (show Below w.heap.size w W0 from HW ▸ (((Below.refl _ w).alloc (Nat.le_refl _) _).alloc (by simp) _))
 clear HW B0 T0
 obtain ⟨V, hV⟩ : ∃ V : Value, V = .agg #[.int .i64 n1, .int .i64 n2, .int .i64 n3, .int .i64 n4, .int .i64 n5] := ⟨_, rfl⟩
 rw [← hV]
 rw [← hV] at HL
 clear hV
 go_loopw [23] (fun i wr => ∃ n : Nat, n ≤ 5 ∧ i = .int .i64 n ∧ Hid (Below w.heap.size w wr)) (fun i _ => 5 - (intOf i).toNat)
 case atStart => exact ⟨0, Nat.zero_le _, rfl, BW.out⟩
 case round =>
  obtain ⟨n, hn, rfl, HB⟩ := hrel
  by_cases hlt : n < 5
  ·
   obtain ⟨x, hx, hrun⟩ := HL.out n hlt
   clear HL BW
   go_wp2
   go_roundw
   case rel => exact ⟨n + 1, by omega, by go_num, HB⟩
   case measure => simp [intOf]; omega
  ·
   go_wp2
   go_ret
   exact ⟨rfl, HB.out⟩
def Checks (P : Prop) (w : World) (e : Ending) (w' : World) : Prop := ∃ v : Bool, e = .returned (.bool v) ∧ (v = true ↔ P) ∧ Below w.heap.size w w'
theorem checks_no {P : Prop} {w w' : World} (h : ¬ P) (hb : Below w.heap.size w w') : Checks P w (.returned (.bool false)) w' := ⟨false, rfl, ⟨(fun h1 => nomatch h1), fun h1 => absurd h1 h⟩, hb⟩
theorem checks_yes {P : Prop} {w w' : World} (h : P) (hb : Below w.heap.size w w') : Checks P w (.returned (.bool true)) w' := ⟨true, rfl, ⟨fun _ => h, fun _ => rfl⟩, hb⟩
set_option maxHeartbeats 1000000 in
theorem areDurations_any (A : Option Addr) (n c : Nat) (l : List Int) (w : World) (hr : R64 w A n l) (hn : n ≤ 4096) :
  Calls Tryz.prog 61 #[.slice A n c] w (Checks (durL l n) w) := by
 have HR := Lib.hid hr
 clear hr
 go_enter Tryz.func61, Tryz.ntmps61
 go_wp2
 go_loopw [7] (fun i wr => ∃ k : Nat, k ≤ n ∧ i = .int .i64 (k : Int) ∧ Hid (durL l k) ∧ Hid (Below w.heap.size w wr)) (fun i _ => n - (intOf i).toNat)
 case atStart => exact ⟨0, Nat.zero_le _, rfl, fun i hi => (by omega), Below.refl _ _⟩
 case round =>
  obtain ⟨k, hk, rfl, HD, HB⟩ := hrel
  rename World => wr
  by_cases hlt : k < n
  ·
   obtain ⟨b, off, x, rfl, hb, HX, hx1, hx2, hx3⟩ := (HR.out.below HB.out).at_ hlt
   have e := getD_of HX.out
   by_cases hx : 0 ≤ x ∧ x ≤ 65536
   ·
    have HS := Lib.hid (HD.out.step (by rw [e]; exact hx.1) (by rw [e]; exact hx.2))
    obtain ⟨h0, h1⟩ := hx
    clear HR HD e HX
    go_wp2_with fail
    refine (within_yes x 0 65536 _ h0 h1).mono ?_
    rintro _ w1 ⟨rfl, rfl⟩
    go_wp2
    go_roundw
    case rel => exact ⟨k + 1, by omega, by go_num, HS, HB⟩
    case measure => simp [intOf]; omega
   ·
    have HN := Lib.hid (show ¬ durL l n from fun h => hx (by have := h k hlt; rwa [e] at this))
    have HX2 := Lib.hid hx
    clear HR HD e HX hx
    go_wp2_with fail
    refine (within_no x 0 65536 _ HX2.out).mono ?_
    rintro _ w1 ⟨rfl, rfl⟩
    go_wp2
    go_ret
    exact checks_no HN.out HB.out
  ·
   obtain rfl : k = n := by omega
   go_wp2
   go_ret
   exact checks_yes HD.out HB.out
set_option maxHeartbeats 1000000 in
theorem areAscending_any (A : Option Addr) (n c : Nat) (l : List Int) (m : Int) (w : World) (hr : R64 w A n l) (hn : n ≤ 4096) :
  Calls Tryz.prog 62 #[.slice A n c, .int .i64 m] w (Checks (ascL l m n) w) := by
 have HR := Lib.hid hr
 clear hr
 go_enter Tryz.func62, Tryz.ntmps62
 go_wp2
 go_loopw [9] (fun i wr => ∃ k : Nat, k ≤ n ∧ i = .int .i64 (k : Int) ∧ Hid (ascL l m k) ∧ Hid (Below w.heap.size w wr)) (fun i _ => n - (intOf i).toNat)
 case atStart => exact ⟨0, Nat.zero_le _, rfl, fun i hi => (by omega), Below.refl _ _⟩
 case round =>
  obtain ⟨k, hk, rfl, HD, HB⟩ := hrel
  rename World => wr
  by_cases hlt : k < n
  ·
   obtain ⟨b, off, x, rfl, hb, HX, hx1, hx2, hx3⟩ := (HR.out.below HB.out).at_ hlt
   have e := getD_of HX.out
   by_cases hx : 0 ≤ x ∧ x ≤ m
   ·
    by_cases h0 : k = 0
    ·
     have HS := Lib.hid (HD.out.step (by rw [e]; exact ⟨hx.1, hx.2, fun h => absurd h (by omega)⟩))
     have hk0 : (k : Int) ≤ 0 := by omega
     clear h0
     obtain ⟨h0, h1⟩ := hx
     clear HR HD e HX
     go_wp2_with fail
     refine (within_yes x 0 m _ h0 h1).mono ?_
     rintro _ w1 ⟨rfl, rfl⟩
     go_wp2
     go_roundw
     case rel => exact ⟨k + 1, by omega, by go_num, HS, HB⟩
     case measure => simp [intOf]; omega
    ·
     obtain ⟨j, rfl⟩ : ∃ j, k = j + 1 := ⟨k - 1, by omega⟩
     obtain ⟨b2, off2, y, e2, hb2, HY, hy1, hy2, hy3⟩ := (HR.out.below HB.out).at_ (k := j) (by omega)
     injection e2 with e2
     obtain ⟨rfl, rfl, _⟩ := Addr.mk.inj e2
     have ey := getD_of HY.out
     have hpos : (0 : Int) < ((j + 1 : Nat) : Int) := by omega
     by_cases hyx : y < x
     ·
      have HS := Lib.hid (HD.out.step (by rw [e]; exact ⟨hx.1, hx.2, fun _ => by rw [Nat.add_sub_cancel, ey]; exact hyx⟩))
      obtain ⟨h0, h1⟩ := hx
      clear HR HD e HX ey HY
      go_wp2_with fail
      refine (within_yes x 0 m _ h0 h1).mono ?_
      rintro _ w1 ⟨rfl, rfl⟩
      go_wp2
      go_roundw
      case rel => exact ⟨j + 1 + 1, by omega, by go_num, HS, HB⟩
      case measure => simp [intOf]; omega
     ·
      have HN := Lib.hid (show ¬ ascL l m n from fun h => hyx (by have := (h (j + 1) hlt).2.2 (by omega); rwa [Nat.add_sub_cancel, e, ey] at this))
      obtain ⟨h0, h1⟩ := hx
      clear HR HD e HX ey HY
      go_wp2_with fail
      refine (within_yes x 0 m _ h0 h1).mono ?_
      rintro _ w1 ⟨rfl, rfl⟩
      go_wp2
      go_ret
      exact checks_no HN.out HB.out
   ·
    have HN := Lib.hid (show ¬ ascL l m n from fun h => hx (by have := h k hlt; rw [e] at this; exact ⟨this.1, this.2.1⟩))
    have HX2 := Lib.hid hx
    clear HR HD e HX hx
    go_wp2_with fail
    refine (within_no x 0 m _ HX2.out).mono ?_
    rintro _ w1 ⟨rfl, rfl⟩
    go_wp2
    go_ret
    exact checks_no HN.out HB.out
  ·
   obtain rfl : k = n := by omega
   go_wp2
   go_ret
   exact checks_yes HD.out HB.out
theorem SplitG_yes (g : Gm) (x : Int) (h : g.hasRow x) (w : World) : Calls Tryz.prog 78 #[.agg #[.int .i64 g.p, .int .i64 g.b, .int .i64 g.s, .int .i64 g.c, .int .i64 g.k, .int .i64 g.r, .int .i64 g.q], .int .i64 x] w (Gives (.tuple #[.int .i64 (x / g.s), .int .i64 (x % g.s), .bool true]) w) :=
 Split_yes g x h w
theorem SplitG_no (g : Gm) (x : Int) (h : ¬ g.hasRow x) (w : World) : Calls Tryz.prog 78 #[.agg #[.int .i64 g.p, .int .i64 g.b, .int .i64 g.s, .int .i64 g.c, .int .i64 g.k, .int .i64 g.r, .int .i64 g.q], .int .i64 x] w (Gives (.tuple #[.int .i64 0, .int .i64 0, .bool false]) w) :=
 Split_no g x h w
set_option maxHeartbeats 4000000 in
theorem areTurns_any (g : Gm) (ho : g.ok = true) (A : Option Addr) (n c : Nat) (l : List Tn) (w : World) (hr : RN w A n l) (hn : n ≤ 4096) :
  Calls Tryz.prog 63 #[g.val, .slice A n c] w (Checks (trnL l (g.b * g.s) (g.r - 1) (g.raw * 8 - 1) n) w) := by
 have HR := Lib.hid hr
 clear hr
 have hbd := Gm.bounds_of ho
 have hraw : 0 ≤ g.raw ∧ g.raw ≤ 8300 := by
  have e7 : g.raw = g.c * (g.k + 2) + 31 := by unfold Gm.raw; rw [if_pos ho]
  have := mul_le (a := g.c) (b := g.k + 2) (m := 16) (n := 514) (by omega) (by omega) (by omega) (by omega)
  omega
 have HO := Lib.hid ho
 have hr1 : IntKind.i64.wrap (g.r - 1) = g.r - 1 := IntWalk.i64_in _ (by omega)
 have HQ1 := Lib.hid hr1
 have HQ8 := Lib.hid (show IntKind.i64.wrap (IntKind.i64.wrap (g.raw * 8) - 1) = g.raw * 8 - 1 by rw [IntWalk.i64_in (g.raw * 8) (by omega)]; exact IntWalk.i64_in _ (by omega))
 clear hbd hraw hr1 ho
 simp only [Gm.val]
 have G0 := Lib.hid (CRow.new w #[.int .i64 g.p, .int .i64 g.b, .int .i64 g.s, .int .i64 g.c, .int .i64 g.k, .int .i64 g.r, .int .i64 g.q] 23)
 have B0 := Lib.hid (below_new w (.cells #[.int .i64 g.p, .int .i64 g.b, .int .i64 g.s, .int .i64 g.c, .int .i64 g.k, .int .i64 g.r, .int .i64 g.q] 23))
 go_enter Tryz.func63, Tryz.ntmps63
 go_wp2
 go_loopw [12] (fun i wr => ∃ k : Nat, k ≤ n ∧ i = .int .i64 (k : Int) ∧ Hid (trnL l (g.b * g.s) (g.r - 1) (g.raw * 8 - 1) k) ∧ Hid (Below w.heap.size w wr) ∧ Hid (CRow wr w.heap.size 23 #[.int .i64 g.p, .int .i64 g.b, .int .i64 g.s, .int .i64 g.c, .int .i64 g.k, .int .i64 g.r, .int .i64 g.q])) (fun i _ => n - (intOf i).toNat)
 case atStart => exact ⟨0, Nat.zero_le _, rfl, fun i t hi => (by omega), B0.out, G0.out⟩
 case round =>
  obtain ⟨k, hk, rfl, HD, HB, HG⟩ := hrel
  rename World => wr
  clear G0 B0
  by_cases hlt : k < n
  ·
   obtain ⟨b, off, t, rfl, hb, HX, hx1, hx2, hx3, hx4⟩ := (HR.out.below HB.out).at_ hlt
   have HNO := Lib.hid (show ¬ t.ok (g.b * g.s) (g.r - 1) (g.raw * 8 - 1) → ¬ trnL l (g.b * g.s) (g.r - 1) (g.raw * 8 - 1) n from fun h h1 => h (h1 k t hlt HX.out))
   have HYES := Lib.hid (show t.ok (g.b * g.s) (g.r - 1) (g.raw * 8 - 1) → trnL l (g.b * g.s) (g.r - 1) (g.raw * 8 - 1) (k + 1) from fun h => HD.out.step HX.out h)
   have T1 := Lib.hid (CRow.new wr #[.int .i64 t.r, .int .i64 t.g, .int .i64 t.b] 106)
   have NB := Lib.hid (below_new wr (.cells #[.int .i64 t.r, .int .i64 t.g, .int .i64 t.b] 106))
   have G1 := Lib.hid (HG.out.below NB.out)
   have BW1 := Lib.hid (HB.out.trans (NB.out.mono HB.out.size))
   clear HX HD HG HB
   have gc : ∀ j v, #[Value.int .i64 g.p, .int .i64 g.b, .int .i64 g.s, .int .i64 g.c, .int .i64 g.k, .int .i64 g.r, .int .i64 g.q][j]? = some v → _ := fun j v => G1.out.cell_at j v
   have gc0 := gc 0 _ rfl
   have gc1 := gc 1 _ rfl
   have gc2 := gc 2 _ rfl
   have gc3 := gc 3 _ rfl
   have gc4 := gc 4 _ rfl
   have gc5 := gc 5 _ rfl
   have gc6 := gc 6 _ rfl
   clear gc
   by_cases hrow : g.hasRow t.r
   ·
    go_wp2_with fail
    refine (SplitG_yes g t.r hrow _).mono ?_
    rintro _ w3 ⟨rfl, h3⟩
    have T3 := Lib.hid (T1.out.below h3)
    have G3 := Lib.hid (G1.out.below h3)
    have B3 := Lib.hid (BW1.out.trans (h3.mono BW1.out.size))
    have N3 := Lib.hid (NB.out.trans (h3.mono NB.out.size))
    clear h3 T1 G1 BW1 NB gc0 gc1 gc2 gc3 gc4 gc5 gc6 hx1 hx2 hx3
    go_wp2
    by_cases hg : 0 ≤ t.g ∧ t.g ≤ g.r - 1
    ·
     by_cases hb : 0 ≤ t.b ∧ t.b ≤ g.raw * 8 - 1
     ·
      skip
      refine wp_region_noPanic ?_
      refine wp_region_held_drew (S := fun w' => Below w3.heap.size w3 w') (by kernel_rfl) ((Below.refl _ _).drew) (fun C0 => ?_)
      refine tkH4 0 C0 ?_
      refine tkH4 1 C0 ?_
      refine tkH4 2 C0 ?_
      refine tkH4 3 C0 ?_
      refine tkH4 4 C0 ?_ (hy := fun W' hSw => by have y0 := (T3.out.below hSw).cell_at 0 (.int .i64 t.r) rfl; have y1 := (T3.out.below hSw).cell_at 1 (.int .i64 t.g) rfl; have y2 := (T3.out.below hSw).cell_at 2 (.int .i64 t.b) rfl; clear hSw; go_simp <;> with_reducible rfl)
      refine tkH4 5 C0 ?_
      refine tkH4 6 C0 ?_ (hy := fun W' hSw => by have z := (G3.out.below hSw).cell_at 5 (.int .i64 g.r) rfl; clear hSw; go_simp <;> with_reducible rfl)
      refine tkH4 7 C0 ?_
      refine wpAnyH_ready (rs := [8]) (by kernel_rfl) (by simp) ?_
      refine AllReadyH.cons (o := zBc0) rfl (fun K hK => ?_) AllReadyH.nil
      dsimp only [zBc0]
      go_simp
      rw [HQ1.out]
      refine (within_yes t.g 0 (g.r - 1) _ hg.1 hg.2).mono ?_
      rintro _ w4 ⟨rfl, rfl⟩
      go_wp2_with fail
      refine hK.out _ _ C0 (fun C1 => ?_)
      clear hK K
      try simp only [Act.put, zzI, zzO, zzS]
      refine tkH4 9 C1 ?_
      refine tkH4 10 C1 ?_
      refine tkH4 11 C1 ?_
      refine tkH4 12 C1 ?_
      refine tkH4 13 C1 ?_ (hy := fun W' hSw => by have y0 := (T3.out.below hSw).cell_at 0 (.int .i64 t.r) rfl; have y1 := (T3.out.below hSw).cell_at 1 (.int .i64 t.g) rfl; have y2 := (T3.out.below hSw).cell_at 2 (.int .i64 t.b) rfl; clear hSw; go_simp <;> with_reducible rfl)
      refine tkH4 14 C1 ?_ (hy := fun W' hSw => by have gc0 := (G3.out.below hSw).cell_at 0 (.int .i64 g.p) rfl; have gc1 := (G3.out.below hSw).cell_at 1 (.int .i64 g.b) rfl; have gc2 := (G3.out.below hSw).cell_at 2 (.int .i64 g.s) rfl; have gc3 := (G3.out.below hSw).cell_at 3 (.int .i64 g.c) rfl; have gc4 := (G3.out.below hSw).cell_at 4 (.int .i64 g.k) rfl; have gc5 := (G3.out.below hSw).cell_at 5 (.int .i64 g.r) rfl; have gc6 := (G3.out.below hSw).cell_at 6 (.int .i64 g.q) rfl; clear hSw; go_simp <;> with_reducible rfl)
      refine wpAnyH_ready (rs := [15]) (by kernel_rfl) (by simp) ?_
      refine AllReadyH.cons (o := zBc1) rfl (fun K hK => ?_) AllReadyH.nil
      dsimp only [zBc1]
      go_simp
      refine (Raw_is g g.raw rfl _).mono ?_
      rintro _ w4 ⟨rfl, h4⟩
      have hB := h4
      clear h4
      go_wp2_with fail
      refine hK.out _ _ (C1.trans (hB.mono C1.size)) (fun C2 => ?_)
      clear hK K hB
      try simp only [Act.put, zzI, zzO, zzS]
      refine tkH4 16 C2 ?_
      refine tkH4 17 C2 ?_
      refine wpAnyH_ready (rs := [18]) (by kernel_rfl) (by simp) ?_
      refine AllReadyH.cons (o := zBc2) rfl (fun K hK => ?_) AllReadyH.nil
      dsimp only [zBc2]
      go_simp
      rw [HQ8.out]
      refine (within_yes t.b 0 (g.raw * 8 - 1) _ hb.1 hb.2).mono ?_
      rintro _ w5 ⟨rfl, rfl⟩
      go_wp2_with fail
      refine hK.out _ _ C2 (fun C3 => ?_)
      clear hK K
      try simp only [Act.put, zzI, zzO, zzS]
      refine tkH4 19 C3 ?_
      refine tkH4 20 C3 ?_
      refine wpAnyH_done (by kernel_rfl) ?_ _
      refine NoPanic.normal ?_
      have BE := Lib.hid C3
      skip
      go_wp2
      go_roundw
      case rel => exact ⟨k + 1, by omega, by go_num, HYES.out ⟨hrow.2.1, hrow.2.2, hg.1, hg.2, hb.1, hb.2⟩, B3.out.trans (BE.out.mono B3.out.size), G3.out.below BE.out⟩
      case measure => simp [intOf]; omega
     ·
      skip
      refine wp_region_noPanic ?_
      refine wp_region_held_drew (S := fun w' => Below w3.heap.size w3 w') (by kernel_rfl) ((Below.refl _ _).drew) (fun C0 => ?_)
      refine tkH4 0 C0 ?_
      refine tkH4 1 C0 ?_
      refine tkH4 2 C0 ?_
      refine tkH4 3 C0 ?_
      refine tkH4 4 C0 ?_ (hy := fun W' hSw => by have y0 := (T3.out.below hSw).cell_at 0 (.int .i64 t.r) rfl; have y1 := (T3.out.below hSw).cell_at 1 (.int .i64 t.g) rfl; have y2 := (T3.out.below hSw).cell_at 2 (.int .i64 t.b) rfl; clear hSw; go_simp <;> with_reducible rfl)
      refine tkH4 5 C0 ?_
      refine tkH4 6 C0 ?_ (hy := fun W' hSw => by have z := (G3.out.below hSw).cell_at 5 (.int .i64 g.r) rfl; clear hSw; go_simp <;> with_reducible rfl)
      refine tkH4 7 C0 ?_
      refine wpAnyH_ready (rs := [8]) (by kernel_rfl) (by simp) ?_
      refine AllReadyH.cons (o := zBc0) rfl (fun K hK => ?_) AllReadyH.nil
      dsimp only [zBc0]
      go_simp
      rw [HQ1.out]
      refine (within_yes t.g 0 (g.r - 1) _ hg.1 hg.2).mono ?_
      rintro _ w4 ⟨rfl, rfl⟩
      go_wp2_with fail
      refine hK.out _ _ C0 (fun C1 => ?_)
      clear hK K
      try simp only [Act.put, zzI, zzO, zzS]
      refine tkH4 9 C1 ?_
      refine tkH4 10 C1 ?_
      refine tkH4 11 C1 ?_
      refine tkH4 12 C1 ?_
      refine tkH4 13 C1 ?_ (hy := fun W' hSw => by have y0 := (T3.out.below hSw).cell_at 0 (.int .i64 t.r) rfl; have y1 := (T3.out.below hSw).cell_at 1 (.int .i64 t.g) rfl; have y2 := (T3.out.below hSw).cell_at 2 (.int .i64 t.b) rfl; clear hSw; go_simp <;> with_reducible rfl)
      refine tkH4 14 C1 ?_ (hy := fun W' hSw => by have gc0 := (G3.out.below hSw).cell_at 0 (.int .i64 g.p) rfl; have gc1 := (G3.out.below hSw).cell_at 1 (.int .i64 g.b) rfl; have gc2 := (G3.out.below hSw).cell_at 2 (.int .i64 g.s) rfl; have gc3 := (G3.out.below hSw).cell_at 3 (.int .i64 g.c) rfl; have gc4 := (G3.out.below hSw).cell_at 4 (.int .i64 g.k) rfl; have gc5 := (G3.out.below hSw).cell_at 5 (.int .i64 g.r) rfl; have gc6 := (G3.out.below hSw).cell_at 6 (.int .i64 g.q) rfl; clear hSw; go_simp <;> with_reducible rfl)
      refine wpAnyH_ready (rs := [15]) (by kernel_rfl) (by simp) ?_
      refine AllReadyH.cons (o := zBc1) rfl (fun K hK => ?_) AllReadyH.nil
      dsimp only [zBc1]
      go_simp
      refine (Raw_is g g.raw rfl _).mono ?_
      rintro _ w4 ⟨rfl, h4⟩
      have hB := h4
      clear h4
      go_wp2_with fail
      refine hK.out _ _ (C1.trans (hB.mono C1.size)) (fun C2 => ?_)
      clear hK K hB
      try simp only [Act.put, zzI, zzO, zzS]
      refine tkH4 16 C2 ?_
      refine tkH4 17 C2 ?_
      refine wpAnyH_ready (rs := [18]) (by kernel_rfl) (by simp) ?_
      refine AllReadyH.cons (o := zBc2) rfl (fun K hK => ?_) AllReadyH.nil
      dsimp only [zBc2]
      go_simp
      rw [HQ8.out]
      refine (within_no t.b 0 (g.raw * 8 - 1) _ hb).mono ?_
      rintro _ w5 ⟨rfl, rfl⟩
      go_wp2_with fail
      refine hK.out _ _ C2 (fun C3 => ?_)
      clear hK K
      try simp only [Act.put, zzI, zzO, zzS]
      refine tkH4 19 C3 ?_
      refine tkH4 20 C3 ?_
      refine wpAnyH_done (by kernel_rfl) ?_ _
      refine NoPanic.normal ?_
      have BE := Lib.hid C3
      skip
      go_wp2
      go_ret
      exact checks_no (HNO.out fun h => hb h.2.2.2.2) (B3.out.trans (BE.out.mono B3.out.size))
    ·
     skip
     refine wp_region_noPanic ?_
     refine wp_region_held_drew (S := fun w' => Below w3.heap.size w3 w') (by kernel_rfl) ((Below.refl _ _).drew) (fun C0 => ?_)
     refine tkH4 0 C0 ?_
     refine tkH4 1 C0 ?_
     refine tkH4 2 C0 ?_
     refine tkH4 3 C0 ?_
     refine tkH4 4 C0 ?_ (hy := fun W' hSw => by have y0 := (T3.out.below hSw).cell_at 0 (.int .i64 t.r) rfl; have y1 := (T3.out.below hSw).cell_at 1 (.int .i64 t.g) rfl; have y2 := (T3.out.below hSw).cell_at 2 (.int .i64 t.b) rfl; clear hSw; go_simp <;> with_reducible rfl)
     refine tkH4 5 C0 ?_
     refine tkH4 6 C0 ?_ (hy := fun W' hSw => by have z := (G3.out.below hSw).cell_at 5 (.int .i64 g.r) rfl; clear hSw; go_simp <;> with_reducible rfl)
     refine tkH4 7 C0 ?_
     refine wpAnyH_ready (rs := [8]) (by kernel_rfl) (by simp) ?_
     refine AllReadyH.cons (o := zBc0) rfl (fun K hK => ?_) AllReadyH.nil
     dsimp only [zBc0]
     go_simp
     rw [HQ1.out]
     refine (within_no t.g 0 (g.r - 1) _ hg).mono ?_
     rintro _ w4 ⟨rfl, rfl⟩
     go_wp2_with fail
     refine hK.out _ _ C0 (fun C1 => ?_)
     clear hK K
     try simp only [Act.put, zzI, zzO, zzS]
     refine tkH4 9 C1 ?_
     refine tkH4 10 C1 ?_
     refine tkH4 11 C1 ?_
     refine tkN4 12 C1 ?_
     refine tkN4 13 C1 ?_
     refine tkN4 14 C1 ?_
     refine tkN4 15 C1 ?_
     refine tkN4 16 C1 ?_
     refine tkN4 17 C1 ?_
     refine tkN4 18 C1 ?_
     refine tkN4 19 C1 ?_
     refine tkH4 20 C1 ?_
     refine wpAnyH_done (by kernel_rfl) ?_ _
     refine NoPanic.normal ?_
     have BE := Lib.hid C1
     skip
     go_wp2
     go_ret
     exact checks_no (HNO.out fun h => hg ⟨h.2.2.1, h.2.2.2.1⟩) (B3.out.trans (BE.out.mono B3.out.size))
   ·
    go_wp2_with fail
    refine (SplitG_no g t.r hrow _).mono ?_
    rintro _ w3 ⟨rfl, h3⟩
    have B3 := Lib.hid (BW1.out.trans (h3.mono BW1.out.size))
    clear h3 T1 G1 BW1 NB gc0 gc1 gc2 gc3 gc4 gc5 gc6 hx1 hx2 hx3
    go_wp2
    refine wp_region_noPanic ?_
    refine wp_region_held_drew (S := fun w' => Below w3.heap.size w3 w') (by kernel_rfl) ((Below.refl _ _).drew) (fun C0 => ?_)
    refine tkH4 0 C0 ?_
    refine tkH4 1 C0 ?_
    refine tkH4 2 C0 ?_
    refine tkN4 3 C0 ?_
    refine tkN4 4 C0 ?_
    refine tkN4 5 C0 ?_
    refine tkN4 6 C0 ?_
    refine tkN4 7 C0 ?_
    refine tkN4 8 C0 ?_
    refine tkN4 9 C0 ?_
    refine tkH4 10 C0 ?_
    refine tkH4 11 C0 ?_
    refine tkN4 12 C0 ?_
    refine tkN4 13 C0 ?_
    refine tkN4 14 C0 ?_
    refine tkN4 15 C0 ?_
    refine tkN4 16 C0 ?_
    refine tkN4 17 C0 ?_
    refine tkN4 18 C0 ?_
    refine tkN4 19 C0 ?_
    refine tkH4 20 C0 ?_
    refine wpAnyH_done (by kernel_rfl) ?_ _
    refine NoPanic.normal ?_
    have BE := Lib.hid C0
    skip
    go_wp2
    go_ret
    exact checks_no (HNO.out fun h => hrow ⟨HO.out, h.1, h.2.1⟩) (B3.out.trans (BE.out.mono B3.out.size))
  ·
   obtain rfl : k = n := by omega
   go_wp2
   go_ret
   exact checks_yes HD.out HB.out
theorem CheckG_yes (g : Gm) (ho : g.ok = true) (w : World) : Calls Tryz.prog 27 #[.agg #[.int .i64 g.p, .int .i64 g.b, .int .i64 g.s, .int .i64 g.c, .int .i64 g.k, .int .i64 g.r, .int .i64 g.q]] w (Gives (.int .i64 0) w) := Check_yes g ho w
theorem CheckG_no (g : Gm) (ho : g.ok = false) (w : World) : Calls Tryz.prog 27 #[.agg #[.int .i64 g.p, .int .i64 g.b, .int .i64 g.s, .int .i64 g.c, .int .i64 g.k, .int .i64 g.r, .int .i64 g.q]] w (Gives (.int .i64 2) w) := Check_no g ho w
set_option maxHeartbeats 4000000 in
theorem CRight_bad (g : Gm) (ho : g.ok = false) (m : Sa) (s : Sc) (w : World) : Calls Tryz.prog 40 #[g.val, m.val s] w (Gives (.bool false) w) := by
 have HO := Lib.hid ho
 clear ho
 simp only [Gm.val, Sa.val]
 have G0 := Lib.hid (CRow.new w #[.int .i64 g.p, .int .i64 g.b, .int .i64 g.s, .int .i64 g.c, .int .i64 g.k, .int .i64 g.r, .int .i64 g.q] 23)
 have B0 := Lib.hid ((below_new w (.cells #[.int .i64 g.p, .int .i64 g.b, .int .i64 g.s, .int .i64 g.c, .int .i64 g.k, .int .i64 g.r, .int .i64 g.q] 23)).alloc (by simp) (.cells (m.cells s) 28))
 unfold Sa.cells at *
 go_enter Tryz.func40, Tryz.ntmps40
 go_wp2_with fail
 refine (CheckG_no g HO.out _).mono ?_
 rintro _ w1 ⟨rfl, h1⟩
 have B1 := Lib.hid (B0.out.trans (h1.mono B0.out.size))
 clear h1
 go_wp2
 go_ret
 exact ⟨rfl, B1.out⟩
set_option maxHeartbeats 4000000 in
theorem CRight_any (g : Gm) (ho : g.ok = true) (m : Sa) (s : Sc) (w : World) (h : SIn w m s) (hf : s.short) : Calls Tryz.prog 40 #[g.val, m.val s] w (Checks (s.ok g) w) := by
 have HI := Lib.hid h
 have HF := Lib.hid hf
 have HO := Lib.hid ho
 have HB := Lib.hid (show wrap64 (g.b - 1) = g.b - 1 by have := Gm.bounds_of ho; unfold wrap64; omega)
 clear h hf ho
 simp only [Gm.val, Sa.val]
 have G0 := Lib.hid (CRow.new w #[.int .i64 g.p, .int .i64 g.b, .int .i64 g.s, .int .i64 g.c, .int .i64 g.k, .int .i64 g.r, .int .i64 g.q] 23)
 have S0 := Lib.hid (CRow.new (w.alloc (.cells #[.int .i64 g.p, .int .i64 g.b, .int .i64 g.s, .int .i64 g.c, .int .i64 g.k, .int .i64 g.r, .int .i64 g.q] 23)) (m.cells s) 28)
 have B0 := Lib.hid ((below_new w (.cells #[.int .i64 g.p, .int .i64 g.b, .int .i64 g.s, .int .i64 g.c, .int .i64 g.k, .int .i64 g.r, .int .i64 g.q] 23)).alloc (by simp) (.cells (m.cells s) 28))
 have E0 := Lib.hid (Below.alloc (Below.refl _ (w.alloc (.cells #[.int .i64 g.p, .int .i64 g.b, .int .i64 g.s, .int .i64 g.c, .int .i64 g.k, .int .i64 g.r, .int .i64 g.q] 23))) (Nat.le_refl _) (.cells (m.cells s) 28))
 unfold Sa.cells at *
 go_enter Tryz.func40, Tryz.ntmps40
 go_wp2_with fail
 refine (CheckG_yes g HO.out _).mono ?_
 rintro _ w1 ⟨rfl, h1⟩
 have G1 := Lib.hid ((G0.out.below E0.out).below h1)
 have S1 := Lib.hid (S0.out.below h1)
 have B1 := Lib.hid (B0.out.trans (h1.mono B0.out.size))
 have I1 := Lib.hid (HI.out.below B1.out)
 clear G0 S0 B0 E0 h1
 rw [show (w.alloc (.cells #[.int .i64 g.p, .int .i64 g.b, .int .i64 g.s, .int .i64 g.c, .int .i64 g.k, .int .i64 g.r, .int .i64 g.q] 23)).heap.size = w.heap.size + 1 by simp] at S1
 have s10 := S1.out.cell_at 0 _ rfl
 have s11 := S1.out.cell_at 1 _ rfl
 have s12 := S1.out.cell_at 2 _ rfl
 have s13 := S1.out.cell_at 3 _ rfl
 have s14 := S1.out.cell_at 4 _ rfl
 have s15 := S1.out.cell_at 5 _ rfl
 have g10 := G1.out.cell_at 0 _ rfl
 have g11 := G1.out.cell_at 1 _ rfl
 have g12 := G1.out.cell_at 2 _ rfl
 have g13 := G1.out.cell_at 3 _ rfl
 have g14 := G1.out.cell_at 4 _ rfl
 have g15 := G1.out.cell_at 5 _ rfl
 have g16 := G1.out.cell_at 6 _ rfl
 go_wp2_with fail
 refine (areShort_yes m.a1 m.a2 m.a3 m.a4 m.a5 s.busy.length m.c1 s.fails.length m.c2 s.turns.length m.c3 s.torn.length m.c4 s.marked.length m.c5 s.cut _ HF.out.busy HF.out.fails HF.out.turns HF.out.torn HF.out.marked).mono ?_
 rintro _ w2 ⟨rfl, h2⟩
 have G2 := Lib.hid (G1.out.below h2)
 have S2 := Lib.hid (S1.out.below h2)
 have B2 := Lib.hid (B1.out.trans (h2.mono B1.out.size))
 have I2 := Lib.hid (I1.out.below h2)
 clear h2 G1 S1 B1 I1
 clear s10 s11 s12 s13 s14 s15 g10 g11 g12 g13 g14 g15 g16
 have s20 := S2.out.cell_at 0 _ rfl
 have s21 := S2.out.cell_at 1 _ rfl
 have s22 := S2.out.cell_at 2 _ rfl
 have s23 := S2.out.cell_at 3 _ rfl
 have s24 := S2.out.cell_at 4 _ rfl
 have s25 := S2.out.cell_at 5 _ rfl
 have g20 := G2.out.cell_at 0 _ rfl
 have g21 := G2.out.cell_at 1 _ rfl
 have g22 := G2.out.cell_at 2 _ rfl
 have g23 := G2.out.cell_at 3 _ rfl
 have g24 := G2.out.cell_at 4 _ rfl
 have g25 := G2.out.cell_at 5 _ rfl
 have g26 := G2.out.cell_at 6 _ rfl
 go_wp2_with fail
 refine (areDurations_any m.a1 s.busy.length m.c1 s.busy _ I2.out.busy HF.out.busy).mono ?_
 rintro _ w3 ⟨v2, rfl, hv2, h3⟩
 have V2 := Lib.hid hv2
 clear hv2
 have G3 := Lib.hid (G2.out.below h3)
 have S3 := Lib.hid (S2.out.below h3)
 have B3 := Lib.hid (B2.out.trans (h3.mono B2.out.size))
 have I3 := Lib.hid (I2.out.below h3)
 clear h3
 clear s20 s21 s22 s23 s24 s25 g20 g21 g22 g23 g24 g25 g26
 clear G2 S2 B2 I2
 cases v2
 ·
  go_wp2
  go_ret
  exact checks_no (fun h => Bool.noConfusion (V2.out.2 h.busy)) B3.out
 have s30 := S3.out.cell_at 0 _ rfl
 have s31 := S3.out.cell_at 1 _ rfl
 have s32 := S3.out.cell_at 2 _ rfl
 have s33 := S3.out.cell_at 3 _ rfl
 have s34 := S3.out.cell_at 4 _ rfl
 have s35 := S3.out.cell_at 5 _ rfl
 have g30 := G3.out.cell_at 0 _ rfl
 have g31 := G3.out.cell_at 1 _ rfl
 have g32 := G3.out.cell_at 2 _ rfl
 have g33 := G3.out.cell_at 3 _ rfl
 have g34 := G3.out.cell_at 4 _ rfl
 have g35 := G3.out.cell_at 5 _ rfl
 have g36 := G3.out.cell_at 6 _ rfl
 go_wp2_with fail
 refine (areAscending_any m.a2 s.fails.length m.c2 s.fails 4611686018427387904 _ I3.out.fails HF.out.fails).mono ?_
 rintro _ w4 ⟨v3, rfl, hv3, h4⟩
 have V3 := Lib.hid hv3
 clear hv3
 have G4 := Lib.hid (G3.out.below h4)
 have S4 := Lib.hid (S3.out.below h4)
 have B4 := Lib.hid (B3.out.trans (h4.mono B3.out.size))
 have I4 := Lib.hid (I3.out.below h4)
 clear h4
 clear s30 s31 s32 s33 s34 s35 g30 g31 g32 g33 g34 g35 g36
 clear G3 S3 B3 I3
 cases v3
 ·
  go_wp2
  go_ret
  exact checks_no (fun h => Bool.noConfusion (V3.out.2 h.fails)) B4.out
 have s40 := S4.out.cell_at 0 _ rfl
 have s41 := S4.out.cell_at 1 _ rfl
 have s42 := S4.out.cell_at 2 _ rfl
 have s43 := S4.out.cell_at 3 _ rfl
 have s44 := S4.out.cell_at 4 _ rfl
 have s45 := S4.out.cell_at 5 _ rfl
 have g40 := G4.out.cell_at 0 _ rfl
 have g41 := G4.out.cell_at 1 _ rfl
 have g42 := G4.out.cell_at 2 _ rfl
 have g43 := G4.out.cell_at 3 _ rfl
 have g44 := G4.out.cell_at 4 _ rfl
 have g45 := G4.out.cell_at 5 _ rfl
 have g46 := G4.out.cell_at 6 _ rfl
 go_wp2_with fail
 refine (areTurns_any g HO.out m.a3 s.turns.length m.c3 s.turns _ I4.out.turns HF.out.turns).mono ?_
 rintro _ w5 ⟨v4, rfl, hv4, h5⟩
 have V4 := Lib.hid hv4
 clear hv4
 have G5 := Lib.hid (G4.out.below h5)
 have S5 := Lib.hid (S4.out.below h5)
 have B5 := Lib.hid (B4.out.trans (h5.mono B4.out.size))
 have I5 := Lib.hid (I4.out.below h5)
 clear h5
 clear s40 s41 s42 s43 s44 s45 g40 g41 g42 g43 g44 g45 g46
 clear G4 S4 B4 I4
 cases v4
 ·
  go_wp2
  go_ret
  exact checks_no (fun h => Bool.noConfusion (V4.out.2 h.turns)) B5.out
 have s50 := S5.out.cell_at 0 _ rfl
 have s51 := S5.out.cell_at 1 _ rfl
 have s52 := S5.out.cell_at 2 _ rfl
 have s53 := S5.out.cell_at 3 _ rfl
 have s54 := S5.out.cell_at 4 _ rfl
 have s55 := S5.out.cell_at 5 _ rfl
 have g50 := G5.out.cell_at 0 _ rfl
 have g51 := G5.out.cell_at 1 _ rfl
 have g52 := G5.out.cell_at 2 _ rfl
 have g53 := G5.out.cell_at 3 _ rfl
 have g54 := G5.out.cell_at 4 _ rfl
 have g55 := G5.out.cell_at 5 _ rfl
 have g56 := G5.out.cell_at 6 _ rfl
 go_wp2_with fail
 refine (within_any s.cut (-1) 16777216 _).mono ?_
 obtain ⟨v5, hv5⟩ : ∃ v5 : Bool, decide (-1 ≤ s.cut ∧ s.cut ≤ 16777216) = v5 := ⟨_, rfl⟩
 rw [hv5]
 have V5 := Lib.hid (show v5 = true ↔ (-1 ≤ s.cut ∧ s.cut ≤ 16777216) by rw [← hv5, decide_eq_true_iff])
 clear hv5
 rintro _ w6 ⟨rfl, h6⟩
 have h6 : Below w5.heap.size w5 w6 := h6 ▸ Below.refl _ _
 have G6 := Lib.hid (G5.out.below h6)
 have S6 := Lib.hid (S5.out.below h6)
 have B6 := Lib.hid (B5.out.trans (h6.mono B5.out.size))
 have I6 := Lib.hid (I5.out.below h6)
 clear h6
 clear s50 s51 s52 s53 s54 s55 g50 g51 g52 g53 g54 g55 g56
 clear G5 S5 B5 I5
 cases v5
 ·
  go_wp2
  go_ret
  exact checks_no (fun h => Bool.noConfusion (V5.out.2 h.cut)) B6.out
 have s60 := S6.out.cell_at 0 _ rfl
 have s61 := S6.out.cell_at 1 _ rfl
 have s62 := S6.out.cell_at 2 _ rfl
 have s63 := S6.out.cell_at 3 _ rfl
 have s64 := S6.out.cell_at 4 _ rfl
 have s65 := S6.out.cell_at 5 _ rfl
 have g60 := G6.out.cell_at 0 _ rfl
 have g61 := G6.out.cell_at 1 _ rfl
 have g62 := G6.out.cell_at 2 _ rfl
 have g63 := G6.out.cell_at 3 _ rfl
 have g64 := G6.out.cell_at 4 _ rfl
 have g65 := G6.out.cell_at 5 _ rfl
 have g66 := G6.out.cell_at 6 _ rfl
 go_wp2_with fail
 rw [HB.out]
 refine (areAscending_any m.a5 s.marked.length m.c5 s.marked (g.b - 1) _ I6.out.marked HF.out.marked).mono ?_
 rintro _ w7 ⟨v6, rfl, hv6, h7⟩
 have V6 := Lib.hid hv6
 clear hv6
 have G7 := Lib.hid (G6.out.below h7)
 have S7 := Lib.hid (S6.out.below h7)
 have B7 := Lib.hid (B6.out.trans (h7.mono B6.out.size))
 have I7 := Lib.hid (I6.out.below h7)
 clear h7
 clear s60 s61 s62 s63 s64 s65 g60 g61 g62 g63 g64 g65 g66
 go_wp2
 go_ret
 refine ⟨v6, rfl, ⟨fun h => ⟨V2.out.1 trivial, V3.out.1 trivial, V4.out.1 trivial, V5.out.1 trivial, V6.out.1 h⟩, fun h => V6.out.2 h.marked⟩, B7.out⟩
theorem own_map {w : World} {base : Nat} {e : TypeId} {v : Value} {n : Nat} {xs : List Value} {κ : Type} {key : κ → Value} {ok : κ → Prop} {e' : TypeId} {b base' m : Nat} {G : κ → List Value} (h : w.ownsRow base e 1 v n xs) (hm : Grp key ok e' w b base' m G) : ∀ g, v.ownBlock = some g → g ≠ b := by
 rintro g hg rfl
 obtain ⟨cur, hh⟩ := own_row h hg
 obtain ⟨_, es, clock, hb, _⟩ := hm
 rw [hb] at hh
 cases hh
theorem r64_btw {w w' : World} {J : Nat → Prop} {ad : Addr} {n : Nat} {l : List Int} (h : R64 w (some ad) n l) (hb : Btw J w w') (hn : ¬ J ad.block) : R64 w' (some ad) n l := by
 refine ⟨⟨h.1.1, fun h0 => ?_⟩, h.2⟩
 obtain ⟨b, off, e, hl, hc⟩ := h.1.2 h0
 injection e with e
 subst e
 refine ⟨b, off, rfl, Nat.lt_of_lt_of_le hl hb.size, fun j hj => ?_⟩
 rw [← hc j hj]
 have := hb.block b hl hn
 unfold World.cell?
 simp only [this]
theorem zero_ints (u : World) : (zeroValue 24).run Tryz.prog u = .ok (.slice none 0 0) u := by kernel_rfl
theorem wp_mapEntry {P : Program} (w : World) {o : Oper} {a : Act} {K : Act → World → Prop} {Q : Exit → Act → World → Prop} (m x : Operand) (t : TypeId) (hop : o.op = Op.mapEntry t m x) (b : Nat) (key : Value) (hm : a.eval m = .map (some b)) (hx : a.eval x = key)
  {v : Value} {w' : World} (hrun : (Instr.mapEntry t (.map (some b)) key).run P w = .ok v w') (h : K (a.put o.dst v) w') : o.wp P a w K Q := by
 unfold Oper.wp
 simp [execOp, hop, hm, hx, hrun, Result.andThen]
 exact h
theorem wp_entryStore {P : Program} (w : World) {o : Oper} {a : Act} {K : Act → World → Prop} {Q : Exit → Act → World → Prop} (m x y : Operand) (t : TypeId) (hop : o.op = Op.entryStore t m x y) (b : Nat) (st v : Value) (hm : a.eval m = .map (some b)) (hx : a.eval x = st) (hy : a.eval y = v)
  {w' : World} (hrun : (Instr.entryStore t (.map (some b)) st v).run P w = .ok () w') (h : K (a.put o.dst undef) w') : o.wp P a w K Q := by
 unfold Oper.wp
 simp [execOp, hop, hm, hx, hy, hrun, Result.andThen]
 exact h
theorem r64_one {w : World} {g : Nat} {x : Int} (h : w.cell? ⟨g, 0, none⟩ = some (.int .i64 x)) (h1 : -9223372036854775808 ≤ x) (h2 : x ≤ 9223372036854775807) : R64 w (some ⟨g, 0, none⟩) 1 [x] := by
 refine ⟨⟨rfl, fun _ => ⟨g, 0, rfl, World.block_lt_of_cell? w _ h, fun j hj => ?_⟩⟩, by intro y hy; simp at hy; subst hy; exact ⟨h1, h2⟩⟩
 match j, hj with
 | 0, _ => simpa [I64] using h
theorem wp_appendJ (w : World) {o : Oper} {a : Act} {K : Act → World → Prop} {Q : Exit → Act → World → Prop} (s x : Operand)
  (ho : o.op = .call { callee := .builtin .append, args := #[s, x], argTypes := #[24, 24] }) (base : Nat) (v : Value) (l : List Int) (hs : a.eval s = v) (hown : w.ownsRow base 3 1 v (I64 l).length (I64 l))
  (ad : Addr) (m c : Nat) (k : List Int) (hx : a.eval x = .slice (some ad) m c) (hr : R64 w (some ad) m k) (h63 : l.length + m ≤ 1099511627776) (hbase : base ≤ w.heap.size)
  (h : ∀ v' w', w'.ownsRow base 3 1 v' (I64 (l ++ k)).length (I64 (l ++ k)) → w.grownBy w' v.ownBlock → (v'.ownBlock = v.ownBlock ∨ ∃ g, v'.ownBlock = some g ∧ w.heap.size ≤ g) → K (a.put o.dst v') w') : o.wp Tryz.prog a w K Q := by
 obtain ⟨i0, hi, hz0, hz1, hz2⟩ := info_parts info_int
 obtain ⟨v', w', hrun, h2, h3, _, h4⟩ := run_append_own_at (P := Tryz.prog) (w := w) base 24 o.type 3 i0 _ 1 8 Tryz.underlying24 hi hz0 hz1 hz2 rfl (by decide) v (I64 l).length (I64 l) hown ad m c (I64 k) (by rw [I64_length, hr.len]; omega) (by
   intro j u hu
   have hj : j < m := by
    have := (List.getElem?_eq_some_iff.1 hu).1
    rw [I64_length, hr.len] at this
    exact this
   obtain ⟨b, off, e, hb, hc⟩ := hr.1.2 (by omega)
   injection e with e
   subst e
   exact Rd.news hc hr.1.1 j u hu) (I64_one k) (by rw [I64_length]; unfold maxLen; omega) (by rw [I64_length]; omega) hbase
 unfold Oper.wp execOp
 simp only [ho, resolve, invoke, builtin, Sem.run_bind, Sem.run_pure, Result.andThen_ok, List.map_toArray, List.map_cons, List.map_nil, hs, hx, hrun]
 refine h v' w' (by rw [I64_append, List.length_append, I64_length k, hr.len]; exact h2) h3 (h4.imp id fun h => ⟨_, h, Nat.le_refl _⟩)
def NewD (lo gs : Nat) (m : Sa) (s : Sc) : Nat → Value → World → Prop
 | 0, v, _ => v = .pointer (some ⟨gs, 0, none⟩)
 | 1, v, _ => v = .slice m.a1 s.busy.length m.c1
 | 2, v, w => ∃ A c, v = .slice A s.busy.length c ∧ w.ownsRow lo 3 1 (.slice A s.busy.length c) s.busy.length (I64 s.busy)
 | 3, v, _ => v = .pointer (some ⟨gs, 1, none⟩)
 | 4, v, _ => v = .slice m.a2 s.fails.length m.c2
 | 5, v, w => ∃ A c, v = .slice A s.fails.length c ∧ w.ownsRow lo 3 1 (.slice A s.fails.length c) s.fails.length (I64 s.fails)
 | 6, v, w => ∃ b, v = .map (some b) ∧ lo ≤ b ∧ Grp pkey pin 3 w b (b + 1) 0 (fun _ => [])
 | 7, v, _ => v = .pointer (some ⟨gs, 4, none⟩)
 | 8, v, _ => v = .slice m.a4 s.torn.length m.c4
 | 9, v, w => ∃ A c, v = .slice A s.torn.length c ∧ w.ownsRow lo 5 1 (.slice A s.torn.length c) s.torn.length (U8 s.torn)
 | 10, v, w => ∃ (A1 : Option Addr) (c1 : Nat) (A2 : Option Addr) (c2 b : Nat) (A3 : Option Addr) (c3 : Nat), v = .agg #[.slice A1 s.busy.length c1, .slice A2 s.fails.length c2, .map (some b), .slice A3 s.torn.length c3, .int .i64 0, .int .i64 0] ∧
   w.ownsRow lo 3 1 (.slice A1 s.busy.length c1) s.busy.length (I64 s.busy) ∧ w.ownsRow lo 3 1 (.slice A2 s.fails.length c2) s.fails.length (I64 s.fails) ∧ w.ownsRow lo 5 1 (.slice A3 s.torn.length c3) s.torn.length (U8 s.torn) ∧
   Grp pkey pin 3 w b (b + 1) 0 (fun _ => []) ∧ lo ≤ b
 | 11, v, w => ∃ (A1 : Option Addr) (c1 : Nat) (A2 : Option Addr) (c2 b : Nat) (A3 : Option Addr) (c3 p : Nat), v = .pointer (some ⟨p, 0, none⟩) ∧ lo ≤ p ∧ CRow w p 104 #[.slice A1 s.busy.length c1, .slice A2 s.fails.length c2, .map (some b), .slice A3 s.torn.length c3, .int .i64 0, .int .i64 0] ∧
   w.ownsRow lo 3 1 (.slice A1 s.busy.length c1) s.busy.length (I64 s.busy) ∧ w.ownsRow lo 3 1 (.slice A2 s.fails.length c2) s.fails.length (I64 s.fails) ∧ w.ownsRow lo 5 1 (.slice A3 s.torn.length c3) s.torn.length (U8 s.torn) ∧
   Grp pkey pin 3 w b (b + 1) 0 (fun _ => []) ∧ lo ≤ b ∧ b ≠ p ∧ (∀ g, (Value.slice A1 s.busy.length c1).ownBlock = some g ∨ (Value.slice A2 s.fails.length c2).ownBlock = some g ∨ (Value.slice A3 s.torn.length c3).ownBlock = some g → g ≠ p)
 | 12, v, w => ∃ (A1 : Option Addr) (c1 : Nat) (A2 : Option Addr) (c2 b : Nat) (A3 : Option Addr) (c3 p : Nat), v = .pointer (some ⟨p, 0, none⟩) ∧ lo ≤ p ∧ CRow w p 104 #[.slice A1 s.busy.length c1, .slice A2 s.fails.length c2, .map (some b), .slice A3 s.torn.length c3, .int .i64 0, .int .i64 0] ∧
   w.ownsRow lo 3 1 (.slice A1 s.busy.length c1) s.busy.length (I64 s.busy) ∧ w.ownsRow lo 3 1 (.slice A2 s.fails.length c2) s.fails.length (I64 s.fails) ∧ w.ownsRow lo 5 1 (.slice A3 s.torn.length c3) s.torn.length (U8 s.torn) ∧
   Grp pkey pin 3 w b (b + 1) 0 (fun _ => []) ∧ lo ≤ b ∧ b ≠ p ∧ (∀ g, (Value.slice A1 s.busy.length c1).ownBlock = some g ∨ (Value.slice A2 s.fails.length c2).ownBlock = some g ∨ (Value.slice A3 s.torn.length c3).ownBlock = some g → g ≠ p)
 | _, _, _ => True
theorem NewD_below (lo gs : Nat) (m : Sa) (s : Sc) : ∀ i v w w', NewD lo gs m s i v w → Below w.heap.size w w' → NewD lo gs m s i v w' := by
 intro i v w w' h hb
 match i, h with
 | 0, h => exact h
 | 1, h => exact h
 | 2, h => obtain ⟨A, c, e, h1⟩ := h; exact ⟨A, c, e, own_below h1 hb⟩
 | 3, h => exact h
 | 4, h => exact h
 | 5, h => obtain ⟨A, c, e, h1⟩ := h; exact ⟨A, c, e, own_below h1 hb⟩
 | 6, h => obtain ⟨b, e, h1, h2⟩ := h; exact ⟨b, e, h1, h2.below hb⟩
 | 7, h => exact h
 | 8, h => exact h
 | 9, h => obtain ⟨A, c, e, h1⟩ := h; exact ⟨A, c, e, own_below h1 hb⟩
 | 10, h => obtain ⟨A1, c1, A2, c2, b, A3, c3, e, o1, o2, o3, hg, hr⟩ := h; exact ⟨A1, c1, A2, c2, b, A3, c3, e, own_below o1 hb, own_below o2 hb, own_below o3 hb, hg.below hb, hr⟩
 | 11, h => obtain ⟨A1, c1, A2, c2, b, A3, c3, p, e, hp, hc, o1, o2, o3, hg, hr⟩ := h; exact ⟨A1, c1, A2, c2, b, A3, c3, p, e, hp, hc.below hb, own_below o1 hb, own_below o2 hb, own_below o3 hb, hg.below hb, hr⟩
 | 12, h => obtain ⟨A1, c1, A2, c2, b, A3, c3, p, e, hp, hc, o1, o2, o3, hg, hr⟩ := h; exact ⟨A1, c1, A2, c2, b, A3, c3, p, e, hp, hc.below hb, own_below o1 hb, own_below o2 hb, own_below o3 hb, hg.below hb, hr⟩
 | _ + 13, _ => trivial
def NewIs (g : Gm) (s : Sc) (w : World) (e : Ending) (w' : World) : Prop :=
 (s.ok g ∧ ∃ p, e = .returned (.tuple #[.pointer (some ⟨p, 0, none⟩), .int .i64 0]) ∧ Below w.heap.size w w' ∧ Tel w' p w.heap.size w'.heap.size s 0 0) ∨
 (¬ s.ok g ∧ e = .returned (.tuple #[.pointer none, .int .i64 2]) ∧ Below w.heap.size w w')
theorem RightG (g : Gm) (ho : g.ok = true) (m : Sa) (s : Sc) (w : World) (h : SIn w m s) (hf : s.short) : Calls Tryz.prog 40 #[.agg #[.int .i64 g.p, .int .i64 g.b, .int .i64 g.s, .int .i64 g.c, .int .i64 g.k, .int .i64 g.r, .int .i64 g.q], .agg (m.cells s)] w (Checks (s.ok g) w) := CRight_any g ho m s w h hf
set_option maxHeartbeats 8000000 in
theorem CNew_any (g : Gm) (ho : g.ok = true) (m : Sa) (s : Sc) (w : World) (h : SIn w m s) (hf : s.short) : Calls Tryz.prog 19 #[g.val, m.val s] w (NewIs g s w) := by
 have HI := Lib.hid h
 have HF := Lib.hid hf
 have HRI := Lib.hid (RightG g ho m s)
 clear h hf ho
 simp only [Gm.val, Sa.val]
 have S0 := Lib.hid (CRow.new (w.alloc (.cells #[.int .i64 g.p, .int .i64 g.b, .int .i64 g.s, .int .i64 g.c, .int .i64 g.k, .int .i64 g.r, .int .i64 g.q] 23)) (m.cells s) 28)
 have B0 := Lib.hid ((below_new w (.cells #[.int .i64 g.p, .int .i64 g.b, .int .i64 g.s, .int .i64 g.c, .int .i64 g.k, .int .i64 g.r, .int .i64 g.q] 23)).alloc (by simp) (.cells (m.cells s) 28))
 have L0 : w.heap.size ≤ ((w.alloc (.cells #[.int .i64 g.p, .int .i64 g.b, .int .i64 g.s, .int .i64 g.c, .int .i64 g.k, .int .i64 g.r, .int .i64 g.q] 23)).alloc (.cells (m.cells s) 28)).heap.size := B0.out.size
 unfold Sa.cells at *
 go_enter Tryz.func19, Tryz.ntmps19
 go_wp2_with fail
 refine (HRI.out _ (HI.out.below B0.out) HF.out).mono ?_
 rintro _ w2 ⟨v, rfl, hv, h2⟩
 have S2 := Lib.hid (S0.out.below h2)
 rw [show (w.alloc (.cells #[.int .i64 g.p, .int .i64 g.b, .int .i64 g.s, .int .i64 g.c, .int .i64 g.k, .int .i64 g.r, .int .i64 g.q] 23)).heap.size = w.heap.size + 1 by simp] at S2
 have B2 := Lib.hid (B0.out.trans (h2.mono L0))
 have L2 := Lib.hid (Nat.le_trans L0 h2.size)
 have I2 := Lib.hid (HI.out.below B2.out)
 clear S0 B0 L0 h2 HRI
 cases v
 ·
  have HNO := Lib.hid (show ¬ s.ok g from fun h => Bool.noConfusion (hv.2 h))
  clear hv S2 L2 I2
  go_wp2
  go_ret2
  exact .inr ⟨HNO.out, rfl, B2.out⟩
 ·
  have HOK := Lib.hid (hv.1 rfl)
  clear hv
  go_wp2_with fail
  refine wp_region_inv (by kernel_rfl) [some 14, some 15, some 16, some 17, some 18, some 19, some 20, some 21, some 22, some 23, some 24, some 25, some 6] (by kernel_rfl) (by kernel_rfl) (by kernel_rfl) (NewD (w.heap.size) (w.heap.size + 1) (m) (s)) (NewD_below (w.heap.size) (w.heap.size + 1) (m) (s)) ?_ ?_
  ·
   intro i o f w' ho hbw hdep K hK
   match i, ho, hdep, hK with
   | 0, ho, hdep, hK =>
    obtain rfl : { dst := some 14, op := Op.fieldAddr 28 (Operand.tmp 3) 0, type := 0, pos := "choice.go:55", after := #[], guard := none } = o := Option.some.inj ho
    rw [if_pos (by rfl)]
    simp only [frFrom, Act.put, Nat.reduceAdd, List.setIfInBounds_toArray, List.set_cons_zero, List.set_cons_succ] at hK ⊢
    clear hdep ho
    go_simp
    exact hK.out _ _ rfl (Below.refl _ _)
   | 1, ho, hdep, hK =>
    obtain rfl : { dst := some 15, op := Op.load 24 (Operand.tmp 14), type := 24, pos := "choice.go:55", after := #[{ on := 0, ground := Ground.data }], guard := none } = o := Option.some.inj ho
    have d0 := (show NewD (w.heap.size) (w.heap.size + 1) (m) (s) 0 (f 0) w' from hdep ⟨0, .data⟩ (by simp) rfl)
    simp only [NewD] at d0
    rw [if_pos (by rfl)]
    simp only [frFrom, Act.put, Nat.reduceAdd, List.setIfInBounds_toArray, List.set_cons_zero, List.set_cons_succ, d0] at hK ⊢
    clear hdep ho d0
    have y := (S2.out.below hbw).cell_at 0 _ rfl
    go_simp
    exact hK.out _ _ rfl (Below.refl _ _)
   | 2, ho, hdep, hK =>
    obtain rfl : { dst := some 16, op := Op.call { callee := Callee.value (Operand.func 41), args := #[Operand.tmp 15], argTypes := #[24] }, type := 24, pos := "choice.go:56", after := #[{ on := 1, ground := Ground.data }], guard := none } = o := Option.some.inj ho
    have d1 := (show NewD (w.heap.size) (w.heap.size + 1) (m) (s) 1 (f 1) w' from hdep ⟨1, .data⟩ (by simp) rfl)
    simp only [NewD] at d1
    rw [if_pos (by rfl)]
    simp only [frFrom, Act.put, Nat.reduceAdd, List.setIfInBounds_toArray, List.set_cons_zero, List.set_cons_succ, d1] at hK ⊢
    clear hdep ho d1
    go_simp
    refine (CloneI_any m.a1 s.busy.length m.c1 s.busy _ (I2.out.busy.below hbw) (by have := HF.out.busy; omega)).mono ?_
    rintro _ w'' ⟨A', c', rfl, ho', hB⟩
    have HO' := Lib.hid (own_rebase ho' (Nat.le_trans L2.out hbw.size))
    clear ho'
    go_wp2_with fail
    exact hK.out _ _ ⟨A', c', rfl, HO'.out⟩ hB
   | 3, ho, hdep, hK =>
    obtain rfl : { dst := some 17, op := Op.fieldAddr 28 (Operand.tmp 3) 1, type := 0, pos := "choice.go:55", after := #[], guard := none } = o := Option.some.inj ho
    rw [if_pos (by rfl)]
    simp only [frFrom, Act.put, Nat.reduceAdd, List.setIfInBounds_toArray, List.set_cons_zero, List.set_cons_succ] at hK ⊢
    clear hdep ho
    go_simp
    exact hK.out _ _ rfl (Below.refl _ _)
   | 4, ho, hdep, hK =>
    obtain rfl : { dst := some 18, op := Op.load 24 (Operand.tmp 17), type := 24, pos := "choice.go:55", after := #[{ on := 3, ground := Ground.data }], guard := none } = o := Option.some.inj ho
    have d3 := (show NewD (w.heap.size) (w.heap.size + 1) (m) (s) 3 (f 3) w' from hdep ⟨3, .data⟩ (by simp) rfl)
    simp only [NewD] at d3
    rw [if_pos (by rfl)]
    simp only [frFrom, Act.put, Nat.reduceAdd, List.setIfInBounds_toArray, List.set_cons_zero, List.set_cons_succ, d3] at hK ⊢
    clear hdep ho d3
    have y := (S2.out.below hbw).cell_at 1 _ rfl
    go_simp
    exact hK.out _ _ rfl (Below.refl _ _)
   | 5, ho, hdep, hK =>
    obtain rfl : { dst := some 19, op := Op.call { callee := Callee.value (Operand.func 41), args := #[Operand.tmp 18], argTypes := #[24] }, type := 24, pos := "choice.go:57", after := #[{ on := 4, ground := Ground.data }, { on := 2, ground := Ground.chain }], guard := none } = o := Option.some.inj ho
    have d4 := (show NewD (w.heap.size) (w.heap.size + 1) (m) (s) 4 (f 4) w' from hdep ⟨4, .data⟩ (by simp) rfl)
    simp only [NewD] at d4
    rw [if_pos (by rfl)]
    simp only [frFrom, Act.put, Nat.reduceAdd, List.setIfInBounds_toArray, List.set_cons_zero, List.set_cons_succ, d4] at hK ⊢
    clear hdep ho d4
    go_simp
    refine (CloneI_any m.a2 s.fails.length m.c2 s.fails _ (I2.out.fails.below hbw) (by have := HF.out.fails; omega)).mono ?_
    rintro _ w'' ⟨A', c', rfl, ho', hB⟩
    have HO' := Lib.hid (own_rebase ho' (Nat.le_trans L2.out hbw.size))
    clear ho'
    go_wp2_with fail
    exact hK.out _ _ ⟨A', c', rfl, HO'.out⟩ hB
   | 6, ho, hdep, hK =>
    obtain rfl : { dst := some 20, op := Op.makeMap 101 none, type := 101, pos := "choice.go:55", after := #[], guard := none } = o := Option.some.inj ho
    rw [if_pos (by rfl)]
    simp only [frFrom, Act.put, Nat.reduceAdd, List.setIfInBounds_toArray, List.set_cons_zero, List.set_cons_succ] at hK ⊢
    clear hdep ho
    have hmm := @run_makeMap Tryz.prog
    go_simp
    exact hK.out _ _ ⟨w'.heap.size, rfl, Nat.le_trans L2.out hbw.size, Grp.made w' _ _ _ _ (Nat.lt_succ_self _)⟩ (below_new _ _)
   | 7, ho, hdep, hK =>
    obtain rfl : { dst := some 21, op := Op.fieldAddr 28 (Operand.tmp 3) 4, type := 0, pos := "choice.go:55", after := #[], guard := none } = o := Option.some.inj ho
    rw [if_pos (by rfl)]
    simp only [frFrom, Act.put, Nat.reduceAdd, List.setIfInBounds_toArray, List.set_cons_zero, List.set_cons_succ] at hK ⊢
    clear hdep ho
    go_simp
    exact hK.out _ _ rfl (Below.refl _ _)
   | 8, ho, hdep, hK =>
    obtain rfl : { dst := some 22, op := Op.load 26 (Operand.tmp 21), type := 26, pos := "choice.go:55", after := #[{ on := 7, ground := Ground.data }], guard := none } = o := Option.some.inj ho
    have d7 := (show NewD (w.heap.size) (w.heap.size + 1) (m) (s) 7 (f 7) w' from hdep ⟨7, .data⟩ (by simp) rfl)
    simp only [NewD] at d7
    rw [if_pos (by rfl)]
    simp only [frFrom, Act.put, Nat.reduceAdd, List.setIfInBounds_toArray, List.set_cons_zero, List.set_cons_succ, d7] at hK ⊢
    clear hdep ho d7
    have y := (S2.out.below hbw).cell_at 4 _ rfl
    go_simp
    exact hK.out _ _ rfl (Below.refl _ _)
   | 9, ho, hdep, hK =>
    obtain rfl : { dst := some 23, op := Op.call { callee := Callee.value (Operand.func 42), args := #[Operand.tmp 22], argTypes := #[26] }, type := 26, pos := "choice.go:59", after := #[{ on := 8, ground := Ground.data }, { on := 5, ground := Ground.chain }], guard := none } = o := Option.some.inj ho
    have d8 := (show NewD (w.heap.size) (w.heap.size + 1) (m) (s) 8 (f 8) w' from hdep ⟨8, .data⟩ (by simp) rfl)
    simp only [NewD] at d8
    rw [if_pos (by rfl)]
    simp only [frFrom, Act.put, Nat.reduceAdd, List.setIfInBounds_toArray, List.set_cons_zero, List.set_cons_succ, d8] at hK ⊢
    clear hdep ho d8
    go_simp
    refine (Clone_any m.a4 s.torn.length m.c4 s.torn _ (I2.out.torn.below hbw) (by have := HF.out.torn; omega)).mono ?_
    rintro _ w'' ⟨A', c', rfl, ho', hB⟩
    have HO' := Lib.hid (own_rebase ho' (Nat.le_trans L2.out hbw.size))
    clear ho'
    go_wp2_with fail
    exact hK.out _ _ ⟨A', c', rfl, HO'.out⟩ hB
   | 10, ho, hdep, hK =>
    obtain rfl : { dst := some 24, op := Op.build 104 #[(0, Operand.tmp 16), (1, Operand.tmp 19), (2, Operand.tmp 20), (3, Operand.tmp 23)], type := 104, pos := "choice.go:55", after := #[{ on := 2, ground := Ground.data }, { on := 5, ground := Ground.data }, { on := 6, ground := Ground.data }, { on := 9, ground := Ground.data }], guard := none } = o := Option.some.inj ho
    obtain ⟨A1, c1, d2, o1⟩ := (show NewD (w.heap.size) (w.heap.size + 1) (m) (s) 2 (f 2) w' from hdep ⟨2, .data⟩ (by simp) rfl)
    obtain ⟨A2, c2, d5, o2⟩ := (show NewD (w.heap.size) (w.heap.size + 1) (m) (s) 5 (f 5) w' from hdep ⟨5, .data⟩ (by simp) rfl)
    obtain ⟨b, d6, hb, hg⟩ := (show NewD (w.heap.size) (w.heap.size + 1) (m) (s) 6 (f 6) w' from hdep ⟨6, .data⟩ (by simp) rfl)
    obtain ⟨A3, c3, d9, o3⟩ := (show NewD (w.heap.size) (w.heap.size + 1) (m) (s) 9 (f 9) w' from hdep ⟨9, .data⟩ (by simp) rfl)
    rw [if_pos (by rfl)]
    simp only [frFrom, Act.put, Nat.reduceAdd, List.setIfInBounds_toArray, List.set_cons_zero, List.set_cons_succ, d2, d5, d6, d9] at hK ⊢
    clear hdep ho d2 d5 d6 d9
    go_simp
    exact hK.out _ _ ⟨A1, c1, A2, c2, b, A3, c3, rfl, o1, o2, o3, hg, hb⟩ (Below.refl _ _)
   | 11, ho, hdep, hK =>
    obtain rfl : { dst := some 25, op := Op.box 104 (Operand.tmp 24), type := 54, pos := "choice.go:55", after := #[{ on := 10, ground := Ground.data }], guard := none } = o := Option.some.inj ho
    obtain ⟨A1, c1, A2, c2, b, A3, c3, d10, o1, o2, o3, hg, hb⟩ := (show NewD (w.heap.size) (w.heap.size + 1) (m) (s) 10 (f 10) w' from hdep ⟨10, .data⟩ (by simp) rfl)
    rw [if_pos (by rfl)]
    simp only [frFrom, Act.put, Nat.reduceAdd, List.setIfInBounds_toArray, List.set_cons_zero, List.set_cons_succ, d10] at hK ⊢
    clear hdep ho d10
    go_simp
    refine hK.out _ _ ⟨A1, c1, A2, c2, b, A3, c3, w'.heap.size, rfl, Nat.le_trans L2.out hbw.size, CRow.new w' _ _, o1.alloc _, o2.alloc _, o3.alloc _, hg.below (below_new _ _), hb, Nat.ne_of_lt hg.lt, ?_⟩ (below_new _ _)
    rintro g (e | e | e)
    ·
     exact Nat.ne_of_lt (o1.lt g e).2
    ·
     exact Nat.ne_of_lt (o2.lt g e).2
    ·
     exact Nat.ne_of_lt (o3.lt g e).2
   | 12, ho, hdep, hK =>
    obtain rfl : { dst := some 6, op := Op.assign (Operand.tmp 25), type := 54, pos := "choice.go:55", after := #[{ on := 11, ground := Ground.data }, { on := 9, ground := Ground.chain }, { on := 0, ground := Ground.phase }, { on := 1, ground := Ground.phase }, { on := 2, ground := Ground.phase }, { on := 3, ground := Ground.phase }, { on := 4, ground := Ground.phase }, { on := 5, ground := Ground.phase }, { on := 6, ground := Ground.phase }, { on := 7, ground := Ground.phase }, { on := 8, ground := Ground.phase }, { on := 9, ground := Ground.phase }, { on := 10, ground := Ground.phase }, { on := 11, ground := Ground.phase }], guard := none } = o := Option.some.inj ho
    obtain ⟨A1, c1, A2, c2, b, A3, c3, p, d11, hp, hc, o1, o2, o3, hg, hr⟩ := (show NewD (w.heap.size) (w.heap.size + 1) (m) (s) 11 (f 11) w' from hdep ⟨11, .data⟩ (by simp) rfl)
    rw [if_pos (by rfl)]
    simp only [frFrom, Act.put, Nat.reduceAdd, List.setIfInBounds_toArray, List.set_cons_zero, List.set_cons_succ, d11] at hK ⊢
    clear hdep ho d11
    go_simp
    exact hK.out _ _ ⟨A1, c1, A2, c2, b, A3, c3, p, rfl, hp, hc, o1, o2, o3, hg, hr⟩ (Below.refl _ _)
   | _ + 13, ho, _, _ => simp at ho
  ·
   intro f w' hbw hall
   simp only [frFrom, Act.put, Nat.reduceAdd, List.setIfInBounds_toArray, List.set_cons_zero, List.set_cons_succ]
   obtain ⟨A1, c1, A2, c2, b, A3, c3, p, d12, hp, hc, o1, o2, o3, hg, hb, hbp, hr⟩ := (show NewD (w.heap.size) (w.heap.size + 1) m s 12 (f 12) w' from hall 12 (by simp))
   rw [d12]
   clear hall
   rename World => w3
   have C3 := Lib.hid hc
   have O1 := Lib.hid o1
   have O2 := Lib.hid o2
   have O3 := Lib.hid o3
   have hpl := hc.lt
   have hbl := hg.lt
   have M3 := Lib.hid (hg.rebase w3.heap.size hbl)
   have HA := Lib.hid hr
   have BW3 := Lib.hid (B2.out.trans (hbw.mono B2.out.size))
   have S3 := Lib.hid (S2.out.below hbw)
   have I3 := Lib.hid (I2.out.below hbw)
   have y := S3.out.cell_at 2 _ rfl
   clear hc o1 o2 o3 hg hr hbw B2 S2 I2 L2
   go_wp2
   clear y
   go_loopw [29] (fun i wr => ∃ k : Nat, k ≤ s.turns.length ∧ i = .int .i64 (k : Int) ∧ Hid (Btw (fun j => j = b) w3 wr) ∧ Hid (Grp pkey pin 3 wr b w3.heap.size k (fun x => I64 (grp (s.turns.take k) x)))) (fun i _ => s.turns.length - (intOf i).toNat)
   case atStart => exact ⟨0, Nat.zero_le _, rfl, Btw.refl _, by simpa [grp_nil, I64, Hid] using M3.out⟩
   case round =>
    obtain ⟨k, hk, rfl, N4, M4⟩ := hrel
    rename World => wr
    have hsz := N4.out.size
    have htl : s.turns.length ≤ 4096 := HF.out.turns
    by_cases hlt : k < s.turns.length
    ·
     have B4 : Below w.heap.size w wr := BW3.out.trans (N4.out.below (fun j h => h ▸ hb) BW3.out.size)
     obtain ⟨b0, off, t, ha3, hb0, HX, hx1, hx2, hx3, hin1, hin2, hx7⟩ := (HI.out.turns.below B4).at_ hlt
     have hkin : pin (t.r, t.g) := ⟨hin1, hin2⟩
     have P4 := C3.out.btw N4.out (Ne.symm hbp)
     have E4 := (below_new wr (.cells #[.int .i64 t.r, .int .i64 t.g, .int .i64 t.b] 106))
     have T4 := CRow.new wr #[.int .i64 t.r, .int .i64 t.g, .int .i64 t.b] 106
     have Q4 := CRow.new (wr.alloc (.cells #[.int .i64 t.r, .int .i64 t.g, .int .i64 t.b] 106)) #[.int .i64 t.r, .int .i64 t.g] 108
     have F4 := below_new (wr.alloc (.cells #[.int .i64 t.r, .int .i64 t.g, .int .i64 t.b] 106)) (.cells #[.int .i64 t.r, .int .i64 t.g] 108)
     have es : (wr.alloc (.cells #[.int .i64 t.r, .int .i64 t.g, .int .i64 t.b] 106)).heap.size = wr.heap.size + 1 := by simp
     rw [es] at Q4
     have P5 := Lib.hid ((P4.below E4).below F4)
     have T5 := Lib.hid (T4.below F4)
     have Q5 := Lib.hid Q4
     have M5 := Lib.hid ((M4.out.below E4).below F4)
     have N5 := Lib.hid (Btw.trans (J := fun j => j = b) (Btw.trans (J := fun j => j = b) N4.out (Btw.of_below E4) (fun _ _ h => h)) (Btw.of_below F4) (fun _ _ h => h))
     have h5 : ((wr.alloc (.cells #[.int .i64 t.r, .int .i64 t.g, .int .i64 t.b] 106)).alloc (.cells #[.int .i64 t.r, .int .i64 t.g] 108)).heap.size = wr.heap.size + 2 := by simp
     have hpb : ¬ p = b := Ne.symm hbp
     have htb : ¬ wr.heap.size = b := by omega
     have hqb : ¬ wr.heap.size + 1 = b := by omega
     clear P4 E4 T4 Q4 F4 es M4
     rw [ha3]
     go_wp2
     generalize HW5 : ((wr.alloc (.cells #[.int .i64 t.r, .int .i64 t.g, .int .i64 t.b] 106)).alloc (.cells #[.int .i64 t.r, .int .i64 t.g] 108)) = W5
     rw [HW5] at P5 T5 Q5 M5 N5 h5
     clear HW5
     refine wp_region_noPanic ?_
     refine wp_region_held_drew (S := fun w' => CRow w' p 104 #[.slice A1 s.busy.length c1, .slice A2 s.fails.length c2, .map (some b), .slice A3 s.torn.length c3, .int .i64 0, .int .i64 0] ∧ CRow w' wr.heap.size 106 #[.int .i64 t.r, .int .i64 t.g, .int .i64 t.b] ∧ CRow w' (wr.heap.size + 1) 108 #[.int .i64 t.r, .int .i64 t.g]) (by kernel_rfl) ⟨P5.out.drew, T5.out.drew, Q5.out.drew⟩ (fun C0 => ?_)
     refine tkH4 0 C0 ?_
     refine tkH4 1 C0 ?_
     refine tkH4 2 C0 ?_
     refine tkH4 3 C0 ?_ (hy := fun W' hSw => by have y := hSw.1.cell_at 2 _ rfl; clear hSw; go_simp <;> with_reducible rfl)
     refine tkH4 4 C0 ?_ (hy := fun W' hSw => by have y0 := hSw.2.2.cell_at 0 _ rfl; have y1 := hSw.2.2.cell_at 1 _ rfl; clear hSw; go_simp <;> with_reducible rfl)
     refine tkH4 5 C0 ?_
     refine tkH4 6 C0 ?_ (hy := fun W' hSw => by have y := hSw.2.1.cell_at 2 _ rfl; clear hSw; go_simp <;> with_reducible rfl)
     refine wpAnyH_ready (rs := [7]) (by kernel_rfl) (by simp) ?_
     refine AllReadyH.cons (o := { dst := some 46, op := Op.buildSlice 24 1 #[(0, Operand.tmp 45)], type := 24, pos := "choice.go:63", after := #[{ on := 6, ground := Ground.data }], guard := none }) rfl (fun K hK => ?_) AllReadyH.nil
     go_simp
     have P6 := Lib.hid (P5.out.drew.below (below_new W5.drew (.cells #[.int .i64 t.b] 3)))
     have T6 := Lib.hid (T5.out.drew.below (below_new W5.drew (.cells #[.int .i64 t.b] 3)))
     have Q6 := Lib.hid (Q5.out.drew.below (below_new W5.drew (.cells #[.int .i64 t.b] 3)))
     have M6 := Lib.hid ((M5.out.below ((Below.refl _ _).drew)).below (below_new W5.drew (.cells #[.int .i64 t.b] 3)))
     have N6 := Lib.hid (Btw.trans (J := fun j => j = b) N5.out.drew (Btw.of_below (below_new W5.drew (.cells #[.int .i64 t.b] 3))) (fun _ _ h => h))
     have D6 := Lib.hid (r64_one (w := (W5.drew.alloc (.cells #[.int .i64 t.b] 3))) (g := wr.heap.size + 2) (x := t.b) (by rw [← h5]; exact (CRow.new W5.drew #[.int .i64 t.b] 3).cell_at 0 _ rfl) hx7.1 hx7.2)
     refine hK.out _ _ ⟨P6.out, T6.out, Q6.out⟩ (fun C1 => ?_)
     clear P5 T5 Q5 M5 N5
     clear hK K
     try simp only [Act.put, zzI, zzO, zzS]
     refine wpAnyH_ready (rs := [8]) (by kernel_rfl) (by simp) ?_
     refine AllReadyH.cons (o := { dst := some 47, op := Op.mapEntry 101 (Operand.tmp 41) (Operand.tmp 42), type := 0, pos := "choice.go:63", after := #[{ on := 3, ground := Ground.data }, { on := 4, ground := Ground.data }, { on := 0, ground := Ground.phase }, { on := 1, ground := Ground.phase }, { on := 2, ground := Ground.phase }, { on := 3, ground := Ground.phase }, { on := 4, ground := Ground.phase }, { on := 5, ground := Ground.phase }, { on := 6, ground := Ground.phase }, { on := 7, ground := Ground.phase }], guard := none }) rfl (fun K hK => ?_) AllReadyH.nil
     rw [if_pos (by rfl)]
     obtain ⟨v0, st, w7, hrun, hg7, hs7, ho7, hback⟩ := M6.out.entry pkeys Tryz.underlying101 zero_ints (t.r, t.g) hkin
     refine wp_mapEntry _ (.tmp 41) (.tmp 42) 101 rfl b (pkey (t.r, t.g)) rfl rfl hrun ?_
     have HO7 := Lib.hid ho7
     have HK7 := Lib.hid hback
     have K7 := Lib.hid (Btw.of_grown (I := fun j => j = b) hg7 (fun _ h => (Option.some.inj h).symm))
     have P7 := Lib.hid (P6.out.btw K7.out hpb)
     have T7 := Lib.hid (T6.out.btw K7.out htb)
     have Q7 := Lib.hid (Q6.out.btw K7.out hqb)
     have D7 := Lib.hid (r64_btw D6.out K7.out (fun h => by simp only at h; omega))
     have N7 := Lib.hid (Btw.trans N6.out K7.out (fun _ _ h => h))
     clear hrun hg7 ho7 hback P6 T6 Q6 M6 N6 D6 K7
     refine hK.out _ _ ⟨P7.out, T7.out, Q7.out⟩ (fun C2 => ?_)
     clear hK K
     try simp only [Act.put, zzI, zzO, zzS]
     refine tkH4 9 C2 ?_
     refine tkH4 11 C2 ?_
     refine wpAnyH_ready (rs := [10]) (by kernel_rfl) (by simp) ?_
     refine AllReadyH.cons (o := { dst := some 48, op := Op.call { callee := Callee.builtin Builtin.append, args := #[Operand.tmp 43, Operand.tmp 46], argTypes := #[24, 24] }, type := 24, pos := "choice.go:63", after := #[{ on := 9, ground := Ground.data }, { on := 7, ground := Ground.data }, { on := 8, ground := Ground.chain }], guard := none }) rfl (fun K hK => ?_) AllReadyH.nil
     rw [if_pos (by rfl)]
     have hl0 := grp_len (s.turns.take k) (t.r, t.g)
     have hl1 : (s.turns.take k).length ≤ k := by rw [List.length_take]; omega
     refine wp_appendJ w7 (.tmp 43) (.tmp 46) rfl w3.heap.size v0 (grp (s.turns.take k) (t.r, t.g)) rfl HO7.out ⟨wr.heap.size + 2, 0, none⟩ 1 1 [t.b] rfl D7.out (by have := HF.out.turns; omega) N7.out.size ?_
     intro v8 w8 hown hg hwh
     have HO8 := Lib.hid hown
     have HG8 := Lib.hid hg
     have HW8 := Lib.hid hwh
     have K8 := Lib.hid (Btw.of_grown (I := fun j => v0.ownBlock = some j) hg (fun _ h => h))
     have P8 := Lib.hid (P7.out.btw K8.out (fun h => own_ne HO7.out P7.out (by decide) _ h rfl))
     have T8 := Lib.hid (T7.out.btw K8.out (fun h => own_ne HO7.out T7.out (by decide) _ h rfl))
     have Q8 := Lib.hid (Q7.out.btw K8.out (fun h => own_ne HO7.out Q7.out (by decide) _ h rfl))
     have N8 := Lib.hid (Btw.trans N7.out K8.out (fun j hj h => absurd (HO7.out.lt j h).1 (by omega)))
     clear hown hg hwh P7 T7 Q7 D7 N7 K8
     refine hK.out _ _ ⟨P8.out, T8.out, Q8.out⟩ (fun C3 => ?_)
     clear hK K
     try simp only [Act.put, zzI, zzO, zzS]
     refine wpAnyH_ready (rs := [12]) (by kernel_rfl) (by simp) ?_
     refine AllReadyH.cons (o := { dst := none, op := Op.entryStore 101 (Operand.tmp 41) (Operand.tmp 49) (Operand.tmp 48), type := 0, pos := "choice.go:63", after := #[{ on := 3, ground := Ground.data }, { on := 11, ground := Ground.data }, { on := 10, ground := Ground.data }, { on := 10, ground := Ground.chain }, { on := 0, ground := Ground.phase }, { on := 1, ground := Ground.phase }, { on := 2, ground := Ground.phase }, { on := 3, ground := Ground.phase }, { on := 4, ground := Ground.phase }, { on := 5, ground := Ground.phase }, { on := 6, ground := Ground.phase }, { on := 7, ground := Ground.phase }, { on := 8, ground := Ground.phase }, { on := 9, ground := Ground.phase }, { on := 10, ground := Ground.phase }, { on := 11, ground := Ground.phase }], guard := none }) rfl (fun K hK => ?_) AllReadyH.nil
     rw [if_pos (by rfl)]
     obtain ⟨w9, hrun, hg9, hM9⟩ := HK7.out w8 v8 _ HG8.out HO8.out HW8.out
     refine wp_entryStore _ (.tmp 41) (.tmp 49) (.tmp 48) 101 rfl b (goInt st) v8 rfl rfl rfl hrun ?_
     have K9 := Lib.hid (Btw.of_grown (I := fun j => j = b) hg9 (fun _ h => (Option.some.inj h).symm))
     have M9 := Lib.hid hM9
     have N9 := Lib.hid (Btw.trans N8.out K9.out (fun _ _ h => h))
     have P9 := Lib.hid (P8.out.btw K9.out hpb)
     have T9 := Lib.hid (T8.out.btw K9.out htb)
     have Q9 := Lib.hid (Q8.out.btw K9.out hqb)
     clear hrun hg9 hM9 HK7 HG8 HO8 HW8 HO7 P8 T8 Q8 N8 K9
     refine hK.out _ _ ⟨P9.out, T9.out, Q9.out⟩ (fun C4 => ?_)
     clear hK K
     try simp only [Act.put]
     refine wpAnyH_done (by kernel_rfl) ?_ _
     refine NoPanic.normal ?_
     go_wp2
     go_roundw
     case rel =>
      refine ⟨k + 1, by omega, by go_num, N9.out, ?_⟩
      have e : (fun x => if x = (t.r, t.g) then I64 (grp (s.turns.take k) (t.r, t.g) ++ [t.b]) else I64 (grp (s.turns.take k) x)) = fun x => I64 (grp (s.turns.take (k + 1)) x) := by
       funext x
       rw [take_snoc HX.out, grp_snoc]
       show _ = I64 (if x = (t.r, t.g) then grp (s.turns.take k) (t.r, t.g) ++ [t.b] else _)
       by_cases h : x = (t.r, t.g)
       ·
        rw [if_pos h, if_pos h]
       ·
        rw [if_neg h, if_neg h]
      rw [← e]
      exact M9.out
     case measure => simp [intOf]; omega
    ·
     obtain rfl : k = s.turns.length := by omega
     go_wp2
     go_ret2
     refine .inl ⟨HOK.out, p, rfl, BW3.out.trans (N4.out.below (fun j h => h ▸ hb) BW3.out.size), hp, by omega, Nat.le_refl _, wr, rfl, fun _ _ _ _ => rfl, A1, c1, A2, c2, b, A3, c3, w3.heap.size, s.turns.length, C3.out.btw N4.out (Ne.symm hbp), ?_, ?_, ?_, ?_, HA.out, hb, hbp, by omega⟩
     ·
      exact own_btw1 O1.out N4.out fun g h e => own_map O1.out M3.out g h e
     ·
      exact own_btw1 O2.out N4.out fun g h e => own_map O2.out M3.out g h e
     ·
      exact own_btw1 O3.out N4.out fun g h e => own_map O3.out M3.out g h e
     ·
      have := M4.out
      rwa [List.take_length] at this
theorem RightG_bad (g : Gm) (ho : g.ok = false) (m : Sa) (s : Sc) (w : World) : Calls Tryz.prog 40 #[.agg #[.int .i64 g.p, .int .i64 g.b, .int .i64 g.s, .int .i64 g.c, .int .i64 g.k, .int .i64 g.r, .int .i64 g.q], .agg (m.cells s)] w (Gives (.bool false) w) := CRight_bad g ho m s w
set_option maxHeartbeats 4000000 in
theorem CNew_bad (g : Gm) (ho : g.ok = false) (m : Sa) (s : Sc) (w : World) : Calls Tryz.prog 19 #[g.val, m.val s] w (Gives (.tuple #[.pointer none, .int .i64 2]) w) := by
 have HRI := Lib.hid (RightG_bad g ho m s)
 clear ho
 simp only [Gm.val, Sa.val]
 have B0 := Lib.hid ((below_new w (.cells #[.int .i64 g.p, .int .i64 g.b, .int .i64 g.s, .int .i64 g.c, .int .i64 g.k, .int .i64 g.r, .int .i64 g.q] 23)).alloc (by simp) (.cells (m.cells s) 28))
 unfold Sa.cells at *
 go_enter Tryz.func19, Tryz.ntmps19
 go_wp2_with fail
 refine (HRI.out _).mono ?_
 rintro _ w2 ⟨rfl, h2⟩
 have B2 := Lib.hid (B0.out.trans (h2.mono B0.out.size))
 clear h2 HRI
 go_wp2
 go_ret2
 exact ⟨rfl, B2.out⟩
theorem neqMap12 (b : Nat) (w : World) : (binOp .neq 101 (.map (some b)) (.map none)).run Tryz.prog w = .ok (.bool true) w := by kernel_rfl
theorem tmade_any (p b : Nat) (v1 v2 v3 v4 v5 : Value) (w : World) (h : CRow w p 104 #[v1, v2, .map (some b), v3, v4, v5]) :
  Calls Tryz.prog 134 #[.pointer (some ⟨p, 0, none⟩)] w (Gives (.bool true) w) := by
 have x2 := h.cell_at 2 _ rfl
 clear h
 have hne := neqMap12
 go_enter Tryz.func134, Tryz.ntmps134
 go_wp2
 go_ret
 exact ⟨rfl, Below.refl _ _⟩
set_option maxHeartbeats 2000000 in
theorem Busy_any (p lo hi : Nat) (s : Sc) (n : Nat) (wk : Int) (w : World) (h : Tel w p lo hi s n wk) (hf : s.short) {G : Gm} (hk : s.ok G) (hn : n ≤ 1099511627776) :
  Calls Tryz.prog 111 #[.pointer (some ⟨p, 0, none⟩)] w fun e w' => e = .returned (.int .i64 (s.busy.getD n 0)) ∧ Btw (fun j => j = p) w w' ∧ Tel w' p lo hi s ((n : Int) + 1) wk := by
 have HT := Lib.hid h
 have HF := Lib.hid hf.busy
 have HK := Lib.hid hk.busy.all
 obtain ⟨A1, c1, A2, c2, b, A3, c3, base, m, hc, o1, o2, o3, hg⟩ := h.use
 have HC := Lib.hid hc
 have HO := Lib.hid o1
 clear h hf hk hc o1 o2 o3 hg
 go_enter Tryz.func111, Tryz.ntmps111
 go_wp2_with fail
 refine (tmade_any p b _ _ _ _ _ _ HC.out).mono ?_
 rintro _ w1 ⟨rfl, h1⟩
 have B1 := Lib.hid h1
 have C1 := Lib.hid (HC.out.below h1)
 have O1 := Lib.hid (own_below HO.out h1)
 have T2 := Lib.hid ((HT.out.below h1).busy_ ((n : Int) + 1))
 have x0 := C1.out.cell_at 0 _ rfl
 have x4 := C1.out.cell_at 4 _ rfl
 have f4 := C1.out.frozen 4
 have C2 := Lib.hid (C1.out.setCell 4 (.int .i64 ((n : Int) + 1)))
 have y0 := C2.out.cell_at 0 (.slice A1 s.busy.length c1) rfl
 have K2 := Lib.hid ((Btw.of_below (I := fun j => j = p) B1.out).setCell (p := ⟨p, 4, none⟩) (v := .int .i64 ((n : Int) + 1)) rfl)
 have O2 := Lib.hid (own_btw1 O1.out ((Btw.refl w1).setCell (I := fun j => j = p) (p := ⟨p, 4, none⟩) (v := .int .i64 ((n : Int) + 1)) rfl) (own_ne O1.out C1.out (by decide)))
 clear h1 HC HT HO
 by_cases hlt : n < s.busy.length
 ·
  obtain ⟨b0, off, x, rfl, hb0, HX, hx1, hx2, hx3⟩ := (R64.own O2.out HK.out).at_ hlt
  have i0 : (0 : Int) ≤ (n : Int) := by omega
  have i1 : (n : Int) < (s.busy.length : Int) := by omega
  have e := getD_of HX.out
  have E := Lib.hid e
  clear e HX O1 O2
  go_wp2
  go_ret
  exact ⟨ret_int E.out.symm, K2.out, T2.out⟩
 ·
  have i1 : (s.busy.length : Int) ≤ (n : Int) := by omega
  have E := Lib.hid (show s.busy.getD n 0 = 0 by rw [List.getD, List.getElem?_eq_none (by omega)]; rfl)
  clear O1 O2
  go_wp2
  go_ret
  exact ⟨ret_int E.out.symm, K2.out, T2.out⟩
theorem ret_pair {x : Value} {a b : Bool} (h : a = b) : Ending.returned (.tuple #[x, .bool a]) = .returned (.tuple #[x, .bool b]) := by rw [h]
theorem isNaN_any (x : Int) (w : World) : Calls Tryz.prog 171 #[.int .i64 x] w (Gives (.bool false) w) := by
 go_enter Tryz.func171, Tryz.ntmps171
 go_wp2
 go_ret
 exact ⟨rfl, Below.refl _ _⟩
theorem isNaNc_any (x : Int) (w : World) : Calls Tryz.prog 173 #[.int .i64 x] w (Gives (.bool false) w) := by
 go_enter Tryz.func173, Tryz.ntmps173
 go_wp2
 go_ret
 exact ⟨rfl, Below.refl _ _⟩
theorem Less_any (x y : Int) (w : World) : Calls Tryz.prog 170 #[.int .i64 x, .int .i64 y] w (Gives (.bool (decide (x < y))) w) := by
 go_enter Tryz.func170, Tryz.ntmps170
 go_wp2_with fail
 refine (isNaNc_any x _).mono ?_
 rintro _ w1 ⟨rfl, h1⟩
 have B1 := Lib.hid h1
 clear h1
 go_wp2
 go_ret
 exact ⟨rfl, B1.out⟩
theorem found_iff {l : List Int} {m t : Int} {a : Nat} (h : ascL l m l.length) (h1 : ∀ q, q < a → l.getD q 0 < t) (h2 : ∀ q, a ≤ q → q < l.length → t ≤ l.getD q 0) : t ∈ l ↔ a < l.length ∧ l.getD a 0 = t := by
 constructor
 ·
  intro ht
  obtain ⟨q, hq⟩ := List.mem_iff_getElem?.1 ht
  have hl := (List.getElem?_eq_some_iff.1 hq).1
  have e := getD_of hq
  rcases Nat.lt_trichotomy q a with h3 | rfl | h3
  ·
   have := h1 q h3; omega
  ·
   exact ⟨hl, e⟩
  ·
   have := h.lt h3 hl
   have := h2 a (Nat.le_refl _) (by omega)
   omega
 ·
  rintro ⟨hl, rfl⟩
  rw [List.getD, List.getElem?_eq_getElem hl]
  exact List.getElem_mem hl
set_option maxHeartbeats 2000000 in
theorem BinarySearch_any (A : Option Addr) (n c : Nat) (l : List Int) (m t : Int) (w : World) (hr : R64 w A n l) (hn : n ≤ 4096) (ha : ascL l m l.length) :
  Calls Tryz.prog 168 #[.slice A n c, .int .i64 t] w fun e w' => (∃ i : Int, e = .returned (.tuple #[.int .i64 i, .bool (decide (t ∈ l))])) ∧ Below w.heap.size w w' := by
 have HR := Lib.hid hr
 have HA := Lib.hid ha
 have HL := Lib.hid hr.len
 clear hr ha
 go_enter Tryz.func168, Tryz.ntmps168
 go_wp2
 go_loopw [7, 8] (fun i j wr => ∃ a b : Nat, a ≤ b ∧ b ≤ n ∧ i = .int .i64 (a : Int) ∧ j = .int .i64 (b : Int) ∧ Hid (∀ q, q < a → l.getD q 0 < t) ∧ Hid (∀ q, b ≤ q → q < n → t ≤ l.getD q 0) ∧ Hid (Below w.heap.size w wr)) (fun i j _ => (intOf j).toNat - (intOf i).toNat)
 case atStart => exact ⟨0, n, Nat.zero_le _, Nat.le_refl _, rfl, rfl, fun q hq => (by omega), fun q h1 h2 => (by omega), Below.refl _ _⟩
 case round =>
  obtain ⟨a, b, hab, hbn, rfl, rfl, H1, H2, HB⟩ := hrel
  rename World => wr
  by_cases hlt : a < b
  ·
   have hh1 : a ≤ (a + b) / 2 := by omega
   have hh2 : (a + b) / 2 < b := by omega
   obtain ⟨b0, off, x, rfl, hb0, HX, hx1, hx2, hx3⟩ := (HR.out.below HB.out).at_ (k := (a + b) / 2) (by omega)
   have E := Lib.hid (getD_of HX.out)
   have A1 : Hid (x < t → ∀ q, q < (a + b) / 2 + 1 → l.getD q 0 < t) := Lib.hid fun h q hq => by
    rcases Nat.lt_or_ge q ((a + b) / 2) with h3 | h3
    ·
     have := HA.out.lt h3 (by have := HL.out; omega)
     rw [E.out] at this
     omega
    ·
     obtain rfl : q = (a + b) / 2 := by omega
     rw [E.out]
     exact h
   have A2 : Hid (¬ x < t → ∀ q, (a + b) / 2 ≤ q → q < n → t ≤ l.getD q 0) := Lib.hid fun h q hq hqn => by
    rcases Nat.lt_or_ge ((a + b) / 2) q with h3 | h3
    ·
     have := HA.out.lt h3 (by have := HL.out; omega)
     rw [E.out] at this
     omega
    ·
     obtain rfl : q = (a + b) / 2 := by omega
     rw [E.out]
     omega
   clear HR HA HL HX E
   go_wp2_with fail
   refine (Less_any x t _).mono ?_
   rintro _ w1 ⟨rfl, h1⟩
   have B1 := Lib.hid (HB.out.trans (h1.mono HB.out.size))
   clear h1 HB
   by_cases hxt : x < t
   ·
    go_wp2
    go_roundw
    case rel => exact ⟨(a + b) / 2 + 1, b, by omega, hbn, by go_num, rfl, A1.out hxt, H2, B1⟩
    case measure => simp [intOf]; omega
   ·
    go_wp2
    go_roundw
    case rel => exact ⟨a, (a + b) / 2, hh1, by omega, rfl, by go_num, H1, A2.out hxt, B1⟩
    case measure => simp [intOf]; omega
  ·
   obtain rfl : a = b := by omega
   have HF := Lib.hid (found_iff HA.out H1.out (by rw [HL.out]; exact H2.out))
   by_cases han : a < n
   ·
    obtain ⟨b0, off, x, rfl, hb0, HX, hx1, hx2, hx3⟩ := (HR.out.below HB.out).at_ (k := a) han
    have E := Lib.hid (getD_of HX.out)
    by_cases hxt : x = t
    ·
     have hd := Lib.hid (show decide (t ∈ l) = true from decide_eq_true (HF.out.2 ⟨by rw [HL.out]; exact han, by rw [E.out]; exact hxt⟩))
     subst hxt
     clear HR HA HL HX E HF H1 H2
     go_wp2
     go_ret2
     exact ⟨⟨a, ret_pair hd.out.symm⟩, HB.out⟩
    ·
     have hd := Lib.hid (show decide (t ∈ l) = false from decide_eq_false (fun h => hxt (by rw [← E.out]; exact (HF.out.1 h).2)))
     have hne : (x == t) = false := by simpa using hxt
     clear HR HA HL HX E HF H1 H2 hxt
     go_wp2_with fail
     refine (isNaN_any x _).mono ?_
     rintro _ w1 ⟨rfl, h1⟩
     have B1 := Lib.hid (HB.out.trans (h1.mono HB.out.size))
     clear h1
     go_wp2
     go_ret2
     exact ⟨⟨a, ret_pair hd.out.symm⟩, B1.out⟩
   ·
    have hd := Lib.hid (show decide (t ∈ l) = false from decide_eq_false (fun h => han (by have := (HF.out.1 h).1; rw [HL.out] at this; exact this)))
    clear HR HA HL HF H1 H2
    go_wp2
    go_ret2
    exact ⟨⟨a, ret_pair hd.out.symm⟩, HB.out⟩
set_option maxHeartbeats 2000000 in
theorem Fails_any (p lo hi : Nat) (s : Sc) (bz : Int) (n : Nat) (w : World) (h : Tel w p lo hi s bz n) (hf : s.short) {G : Gm} (hk : s.ok G) (hn : n ≤ 1099511627776) :
  Calls Tryz.prog 165 #[.pointer (some ⟨p, 0, none⟩)] w fun e w' => e = .returned (.bool (decide ((n : Int) ∈ s.fails))) ∧ Btw (fun j => j = p) w w' ∧ Tel w' p lo hi s bz ((n : Int) + 1) := by
 have HT := Lib.hid h
 have HF := Lib.hid hf.fails
 have HK := Lib.hid (hk.fails.all (by omega))
 have HA := Lib.hid hk.fails
 obtain ⟨A1, c1, A2, c2, b, A3, c3, base, m, hc, o1, o2, o3, hg⟩ := h.use
 have HC := Lib.hid hc
 have HO := Lib.hid o2
 clear h hf hk hc o1 o2 o3 hg
 go_enter Tryz.func165, Tryz.ntmps165
 go_wp2_with fail
 refine (tmade_any p b _ _ _ _ _ _ HC.out).mono ?_
 rintro _ w1 ⟨rfl, h1⟩
 have B1 := Lib.hid h1
 have C1 := Lib.hid (HC.out.below h1)
 have O1 := Lib.hid (own_below HO.out h1)
 have T2 := Lib.hid ((HT.out.below h1).work_ ((n : Int) + 1))
 have x5 := C1.out.cell_at 5 _ rfl
 have f5 := C1.out.frozen 5
 have C2 := Lib.hid (C1.out.setCell 5 (.int .i64 ((n : Int) + 1)))
 have y1 := C2.out.cell_at 1 (.slice A2 s.fails.length c2) rfl
 have K2 := Lib.hid ((Btw.of_below (I := fun j => j = p) B1.out).setCell (p := ⟨p, 5, none⟩) (v := .int .i64 ((n : Int) + 1)) rfl)
 have O2 := Lib.hid (own_btw1 O1.out ((Btw.refl w1).setCell (I := fun j => j = p) (p := ⟨p, 5, none⟩) (v := .int .i64 ((n : Int) + 1)) rfl) (own_ne O1.out C1.out (by decide)))
 have R2 := Lib.hid (R64.own O2.out HK.out)
 clear h1 HC HT HO O1 O2 C1 C2
 go_wp2_with fail
 refine (BinarySearch_any A2 s.fails.length c2 s.fails _ n _ R2.out HF.out HA.out).mono ?_
 rintro _ w3 ⟨⟨i, rfl⟩, h3⟩
 have T3 := Lib.hid (T2.out.below h3)
 have K3 := Lib.hid (K2.out.trans (Btw.of_below (I := fun j => j = p) h3) (fun _ _ h => h))
 clear h3 T2 K2 R2 y1 x5 f5
 go_wp2
 go_ret
 exact ⟨rfl, K3.out, T3.out⟩
set_option maxHeartbeats 2000000 in
theorem Turns_any (p lo hi : Nat) (s : Sc) (bz wk r g : Int) (w : World) (h : Tel w p lo hi s bz wk) (hf : s.short) {G : Gm} (hk : s.ok G) (hR : G.raw ≤ 1000) (hr : in64 r) (hg : in64 g) :
  Calls Tryz.prog 155 #[.pointer (some ⟨p, 0, none⟩), .int .i64 r, .int .i64 g] w (OwnsJ (grp s.turns (r, g)) w) := by
 have HP := Lib.hid (show pin (r, g) from ⟨hr, hg⟩)
 have HN := Lib.hid (show ∀ x ∈ grp s.turns (r, g), -9223372036854775808 ≤ x ∧ x ≤ 9223372036854775807 from fun x hx => by
  have := hk.turns.all _ (grp_mem hx)
  unfold Tn.ok at this
  simp only at this
  omega)
 have HL := Lib.hid (show (grp s.turns (r, g)).length ≤ 4096 from Nat.le_trans (grp_len _ _) hf.turns)
 clear hf hk hr hg
 obtain ⟨A1, c1, A2, c2, b, A3, c3, base, m, hc, o1, o2, o3, hg⟩ := h.use
 have HC := Lib.hid hc
 have HG := Lib.hid hg
 clear h hc o1 o2 o3 hg
 go_enter Tryz.func155, Tryz.ntmps155
 go_wp2_with fail
 refine (tmade_any p b _ _ _ _ _ _ HC.out).mono ?_
 rintro _ w1 ⟨rfl, h1⟩
 have B1 := Lib.hid h1
 have C1 := Lib.hid (HC.out.below h1)
 have G1 := Lib.hid (HG.out.below h1)
 have x2 := C1.out.cell_at 2 _ rfl
 obtain ⟨v, hrun, ho⟩ := G1.out.look pkeys Tryz.underlying101 (zero_ints w1) (r, g) HP.out
 obtain ⟨A, c, rfl⟩ := own_form ho
 rw [I64_length] at ho hrun
 have R1 := Lib.hid (R64.own ho HN.out)
 simp only [pkey] at hrun
 clear h1 HC HG ho C1 G1
 go_wp2_with fail
 refine (CloneI_any A _ c _ _ R1.out (by have := HL.out; omega)).mono ?_
 rintro _ w3 ⟨A', c', rfl, ho3, h3⟩
 have O3 := Lib.hid (own_rebase ho3 B1.out.size)
 have B3 := Lib.hid (below_step B1.out h3)
 clear ho3 h3
 go_wp2
 go_ret
 exact ⟨A', c', rfl, O3.out, B3.out⟩
theorem cmade_yes (p a : Nat) (w : World) (h : w.cell? ⟨p, 27, none⟩ = some (.pointer (some ⟨a, 0, none⟩))) : Calls Tryz.prog 46 #[.pointer (some ⟨p, 0, none⟩)] w (Gives (.bool true) w) := by
 go_enter Tryz.func46, Tryz.ntmps46
 go_wp2
 go_ret
 exact ⟨rfl, Below.refl _ _⟩
section
variable {I : Nat → Prop} {w : World} {p : Nat} {g : Gm} {s : Sc} {c : Ch}
theorem On_any (h : CH I w p g s c) : Calls Tryz.prog 69 #[.pointer (some ⟨p, 0, none⟩)] w (Gives (.bool c.on) w) := by
 obtain ⟨ρ, m, hc, -⟩ := h
 have C0 := Lib.hid hc
 have x27 := hc.cell_at 27 (.pointer (some ⟨m.ap, 0, none⟩)) rfl
 clear hc
 go_enter Tryz.func69, Tryz.ntmps69
 go_wp2_with fail
 clear x27
 refine (cmade_yes p m.ap _ (C0.out.cell_at 27 _ rfl)).mono ?_
 rintro _ w1 ⟨rfl, h1⟩
 have B1 := Lib.hid h1
 have x28 := (C0.out.below h1).cell_at 28 (.bool c.on) rfl
 clear h1
 go_wp2
 go_ret
 exact ⟨rfl, B1.out⟩
theorem Array_any (h : CH I w p g s c) : Calls Tryz.prog 22 #[.pointer (some ⟨p, 0, none⟩)] w fun e w' => ∃ a q r J, e = .returned (.pointer (some ⟨a, 0, none⟩)) ∧ AR J w' a q r g c.arr ∧ Below w.heap.size w w' := by
 obtain ⟨ρ, m, hc, hp, -⟩ := h
 have C0 := Lib.hid hc
 have P0 := Lib.hid hp
 clear hc hp
 go_enter Tryz.func22, Tryz.ntmps22
 go_wp2_with fail
 refine (cmade_yes p m.ap _ (C0.out.cell_at 27 _ rfl)).mono ?_
 rintro _ w1 ⟨rfl, h1⟩
 have B1 := Lib.hid h1
 have P1 := Lib.hid (P0.out.below h1)
 have x27 := (C0.out.below h1).cell_at 27 (.pointer (some ⟨m.ap, 0, none⟩)) rfl
 clear h1
 go_wp2
 go_ret
 exact ⟨m.ap, m.aq, m.ar, _, rfl, P1.out.arr, B1.out⟩
end
def SetsR (v : Value) (p : Nat) (g : Gm) (c : Ch) (m : Cm) (w : World) (e : Ending) (w' : World) : Prop := e = .returned v ∧ CRow w' p 72 (chCells g c m) ∧ Btw (fun j => j = p) w w'
section
variable {w : World} {p : Nat} {g : Gm} {c : Ch} {m : Cm}
end
def ansG (g : Gm) : Nat → Int
 | 0 => 73
 | 1 => 78
 | 2 => g.p % 256
 | 3 => g.r % 256
 | _ => g.q % 256
theorem Btw.alloc {I : Nat → Prop} {w w' : World} (h : Btw I w w') (o : Obj) : Btw I w (w'.alloc o) := h.trans (J := I) (Btw.of_below (below_new w' o)) fun _ _ h => h
section
variable {w : World} {p : Nat} {g : Gm} {c : Ch} {m : Cm}
set_option maxHeartbeats 2000000 in
theorem tell_0 (hs : c.said = 0) (h : CRow w p 72 (chCells g c m)) : Calls Tryz.prog 113 #[.pointer (some ⟨p, 0, none⟩)] w (SetsR (.int .u8 (ansG g 0)) p g { c with said := 1 } m w) := by
 have x19 := h.cell_at 19 (.int .i64 g.p) rfl
 have x20 := h.cell_at 20 (.int .i64 g.b) rfl
 have x21 := h.cell_at 21 (.int .i64 g.s) rfl
 have x22 := h.cell_at 22 (.int .i64 g.c) rfl
 have x23 := h.cell_at 23 (.int .i64 g.k) rfl
 have x24 := h.cell_at 24 (.int .i64 g.r) rfl
 have x25 := h.cell_at 25 (.int .i64 g.q) rfl
 have hp := h.lt
 have C0 := Lib.hid h
 have x2 : w.cell? ⟨p, 2, none⟩ = some (Value.int .i64 0) := by
  have h0 := h.cell_at 2 (.int .i64 (c.said : Int)) rfl
  rw [hs] at h0
  exact h0
 have f2 := h.frozen 2
 clear h
 go_enter Tryz.func113, Tryz.ntmps113
 go_wp2
 go_ret
 exact ⟨rfl, ((C0.out.setCell 2 _).alloc _).alloc _, (((Btw.refl w).setCell (I := fun j => j = p) (p := ⟨p, 2, none⟩) rfl).alloc _).alloc _⟩
set_option maxHeartbeats 2000000 in
theorem tell_1 (hs : c.said = 1) (h : CRow w p 72 (chCells g c m)) : Calls Tryz.prog 113 #[.pointer (some ⟨p, 0, none⟩)] w (SetsR (.int .u8 (ansG g 1)) p g { c with said := 2 } m w) := by
 have x19 := h.cell_at 19 (.int .i64 g.p) rfl
 have x20 := h.cell_at 20 (.int .i64 g.b) rfl
 have x21 := h.cell_at 21 (.int .i64 g.s) rfl
 have x22 := h.cell_at 22 (.int .i64 g.c) rfl
 have x23 := h.cell_at 23 (.int .i64 g.k) rfl
 have x24 := h.cell_at 24 (.int .i64 g.r) rfl
 have x25 := h.cell_at 25 (.int .i64 g.q) rfl
 have hp := h.lt
 have C0 := Lib.hid h
 have x2 : w.cell? ⟨p, 2, none⟩ = some (Value.int .i64 1) := by
  have h0 := h.cell_at 2 (.int .i64 (c.said : Int)) rfl
  rw [hs] at h0
  exact h0
 have f2 := h.frozen 2
 clear h
 go_enter Tryz.func113, Tryz.ntmps113
 go_wp2
 go_ret
 exact ⟨rfl, ((C0.out.setCell 2 _).alloc _).alloc _, (((Btw.refl w).setCell (I := fun j => j = p) (p := ⟨p, 2, none⟩) rfl).alloc _).alloc _⟩
set_option maxHeartbeats 2000000 in
theorem tell_2 (hs : c.said = 2) (h : CRow w p 72 (chCells g c m)) : Calls Tryz.prog 113 #[.pointer (some ⟨p, 0, none⟩)] w (SetsR (.int .u8 (ansG g 2)) p g { c with said := 3 } m w) := by
 have x19 := h.cell_at 19 (.int .i64 g.p) rfl
 have x20 := h.cell_at 20 (.int .i64 g.b) rfl
 have x21 := h.cell_at 21 (.int .i64 g.s) rfl
 have x22 := h.cell_at 22 (.int .i64 g.c) rfl
 have x23 := h.cell_at 23 (.int .i64 g.k) rfl
 have x24 := h.cell_at 24 (.int .i64 g.r) rfl
 have x25 := h.cell_at 25 (.int .i64 g.q) rfl
 have hp := h.lt
 have C0 := Lib.hid h
 have x2 : w.cell? ⟨p, 2, none⟩ = some (Value.int .i64 2) := by
  have h0 := h.cell_at 2 (.int .i64 (c.said : Int)) rfl
  rw [hs] at h0
  exact h0
 have f2 := h.frozen 2
 clear h
 go_enter Tryz.func113, Tryz.ntmps113
 go_wp2
 go_ret
 exact ⟨rfl, ((C0.out.setCell 2 _).alloc _).alloc _, (((Btw.refl w).setCell (I := fun j => j = p) (p := ⟨p, 2, none⟩) rfl).alloc _).alloc _⟩
set_option maxHeartbeats 2000000 in
theorem tell_3 (hs : c.said = 3) (h : CRow w p 72 (chCells g c m)) : Calls Tryz.prog 113 #[.pointer (some ⟨p, 0, none⟩)] w (SetsR (.int .u8 (ansG g 3)) p g { c with said := 4 } m w) := by
 have x19 := h.cell_at 19 (.int .i64 g.p) rfl
 have x20 := h.cell_at 20 (.int .i64 g.b) rfl
 have x21 := h.cell_at 21 (.int .i64 g.s) rfl
 have x22 := h.cell_at 22 (.int .i64 g.c) rfl
 have x23 := h.cell_at 23 (.int .i64 g.k) rfl
 have x24 := h.cell_at 24 (.int .i64 g.r) rfl
 have x25 := h.cell_at 25 (.int .i64 g.q) rfl
 have hp := h.lt
 have C0 := Lib.hid h
 have x2 : w.cell? ⟨p, 2, none⟩ = some (Value.int .i64 3) := by
  have h0 := h.cell_at 2 (.int .i64 (c.said : Int)) rfl
  rw [hs] at h0
  exact h0
 have f2 := h.frozen 2
 clear h
 go_enter Tryz.func113, Tryz.ntmps113
 go_wp2
 go_ret
 exact ⟨rfl, ((C0.out.setCell 2 _).alloc _).alloc _, (((Btw.refl w).setCell (I := fun j => j = p) (p := ⟨p, 2, none⟩) rfl).alloc _).alloc _⟩
set_option maxHeartbeats 2000000 in
theorem tell_4 (hs : c.said = 4) (h : CRow w p 72 (chCells g c m)) : Calls Tryz.prog 113 #[.pointer (some ⟨p, 0, none⟩)] w (SetsR (.int .u8 (ansG g 4)) p g { c with said := 5 } m w) := by
 have x19 := h.cell_at 19 (.int .i64 g.p) rfl
 have x20 := h.cell_at 20 (.int .i64 g.b) rfl
 have x21 := h.cell_at 21 (.int .i64 g.s) rfl
 have x22 := h.cell_at 22 (.int .i64 g.c) rfl
 have x23 := h.cell_at 23 (.int .i64 g.k) rfl
 have x24 := h.cell_at 24 (.int .i64 g.r) rfl
 have x25 := h.cell_at 25 (.int .i64 g.q) rfl
 have hp := h.lt
 have C0 := Lib.hid h
 have x2 : w.cell? ⟨p, 2, none⟩ = some (Value.int .i64 4) := by
  have h0 := h.cell_at 2 (.int .i64 (c.said : Int)) rfl
  rw [hs] at h0
  exact h0
 have f2 := h.frozen 2
 clear h
 go_enter Tryz.func113, Tryz.ntmps113
 go_wp2
 go_ret
 exact ⟨rfl, ((C0.out.setCell 2 _).alloc _).alloc _, (((Btw.refl w).setCell (I := fun j => j = p) (p := ⟨p, 2, none⟩) rfl).alloc _).alloc _⟩
def Ch.toId (c : Ch) : Ch := c.discard.enter 2
def Cm.toId (m : Cm) : Cm := m.discard.enter
end
theorem own_form1 {w : World} {base : Nat} {e : TypeId} {v : Value} {n : Nat} {xs : List Value} (h : w.ownsRow base e 1 v n xs) : ∃ A c, v = .slice A n c := own_form h
theorem wp_append8A (w : World) {o : Oper} {a : Act} {K : Act → World → Prop} {Q : Exit → Act → World → Prop} (s x : Operand)
  (ho : o.op = .call { callee := .builtin .append, args := #[s, x], argTypes := #[26, 26] }) (base : Nat) (v : Value) (l : List Nat) (hs : a.eval s = v) (hown : w.ownsRow base 5 1 v l.length (U8 l))
  (ad : Addr) (m c : Nat) (k : List Nat) (hx : a.eval x = .slice (some ad) m c) (hr : R8 w (some ad) m k) (h63 : l.length + m ≤ 1099511627776) (hbase : base ≤ w.heap.size)
  (h : ∀ v' w', w'.ownsRow base 5 1 v' (l.length + m) (U8 (l ++ k)) → w.grownBy w' v.ownBlock → (v'.ownBlock = v.ownBlock ∨ v'.ownBlock = some w.heap.size) → K (a.put o.dst v') w') : o.wp Tryz.prog a w K Q := by
 obtain ⟨i0, hi, hz0, hz1, hz2⟩ := info_parts info_u8
 obtain ⟨v', w', hrun, h2, h3, _, h4⟩ := run_append_own_at (P := Tryz.prog) (w := w) base 26 o.type 5 i0 _ 1 1 Tryz.underlying26 hi hz0 hz1 hz2 rfl (by decide) v l.length (U8 l) hown ad m c (U8 k) (by rw [U8_length, hr.len]; omega) (by
   intro j u hu
   have hj : j < m := by
    have := (List.getElem?_eq_some_iff.1 hu).1
    rw [U8_length, hr.len] at this
    exact this
   obtain ⟨b, off, e, hb, hc⟩ := hr.1.2 (by omega)
   injection e with e
   subst e
   exact Rd.news hc hr.1.1 j u hu) (U8_one k) (by unfold maxLen; omega) (by omega) hbase
 unfold Oper.wp execOp
 simp only [ho, resolve, invoke, builtin, Sem.run_bind, Sem.run_pure, Result.andThen_ok, List.map_toArray, List.map_cons, List.map_nil, hs, hx, hrun]
 exact h v' w' (by rw [U8_append]; exact h2) h3 h4
theorem wpList_append8A (w : World) {ops : Array Oper} {rest : List Oper} {o : Oper} {a : Act} {Q : Exit → Act → World → Prop} (hgd : o.guard = none) (s x : Operand)
  (ho : o.op = .call { callee := .builtin .append, args := #[s, x], argTypes := #[26, 26] }) (base : Nat) (v : Value) (l : List Nat) (hs : a.eval s = v) (hown : w.ownsRow base 5 1 v l.length (U8 l))
  (ad : Addr) (m c : Nat) (k : List Nat) (hx : a.eval x = .slice (some ad) m c) (hr : R8 w (some ad) m k) (h63 : l.length + m ≤ 1099511627776) (hbase : base ≤ w.heap.size)
  (h : ∀ v' w', w'.ownsRow base 5 1 v' (l.length + m) (U8 (l ++ k)) → w.grownBy w' v.ownBlock → (v'.ownBlock = v.ownBlock ∨ v'.ownBlock = some w.heap.size) → wpList Tryz.prog ops Q rest (a.put o.dst v') w') : wpList Tryz.prog ops Q (o :: rest) a w :=
 wpList_plain hgd fun _ hK => wp_append8A w s x ho base v l hs hown ad m c k hx hr h63 hbase fun v' w' h1 h2 h3 => hK _ _ (h v' w' h1 h2 h3)
theorem r8_one (w : World) (b : Nat) (h : b < 256) (t : TypeId) : R8 (w.alloc (.cells #[.int .u8 (b : Int)] t)) (some ⟨w.heap.size, 0, none⟩) 1 [b] := by
 refine ⟨⟨rfl, fun _ => ⟨w.heap.size, 0, rfl, by simp, fun j hj => ?_⟩⟩, by simpa using h⟩
 match j, hj with
 | 0, _ => exact (CRow.new w #[.int .u8 (b : Int)] t).cell 0
section
variable {w : World} {p : Nat} {g : Gm} {c : Ch} {m : Cm}
end
theorem size_u8 : (Tryz.prog.info? 5).map (·.size) = some 1 := by kernel_rfl
theorem cells_u8 : Tryz.prog.cellsOf 5 = 1 := by kernel_rfl
theorem wp_copyR {P : Program} (w : World) {o : Oper} {a : Act} {K : Act → World → Prop} {Q : Exit → Act → World → Prop} (d s : Operand) (dT sT : TypeId)
  (ho : o.op = .call { callee := .builtin .copy, args := #[d, s], argTypes := #[dT, sT] }) (elem : TypeId) (hu : P.underlying dT = some (.slice elem)) (hsz : (P.info? elem).map (·.size) = some 1)
  (g off dLen dCap : Nat) (ad : Addr) (sLen sCap : Nat) (hd : a.eval d = .slice (some ⟨g, off, none⟩) dLen dCap) (hs : a.eval s = .slice (some ad) sLen sCap)
  (cur : List Value) (t : TypeId) (hg : CRow w g t cur.toArray) (cs : List Value) (hn : cs.length = Nat.min sLen dLen)
  (hsrc : ∀ j v, cs[j]? = some v → w.cell? (ad.add j) = some v) (hfit : off + cs.length ≤ cur.length) (h1 : ∀ v ∈ cs, v.oneCell' = true)
  (h : ∀ w', w' = w.setRow g (cur.take off ++ cs ++ cur.drop (off + cs.length)).toArray → K (a.put o.dst (.int .i64 (cs.length : Int))) w') : o.wp P a w K Q := by
 have hrun := run_copy_row (P := P) w dT sT o.type elem g off dLen dCap ad sLen sCap cur.toArray t cs hu hsz hg hn hsrc (by simpa using hfit) h1
 unfold Oper.wp
 simp [execOp, ho, resolve, invoke, builtin, hd, hs, hrun, Result.andThen]
 exact h _ (by simp)
theorem r8_row {w : World} {g : Nat} {u : TypeId} {l : List Nat} {n : Nat} (h : CRow w g u (U8 l).toArray) (hs : ∀ x ∈ l, x < 256) (hl : l.length = n) : R8 w (some ⟨g, 0, none⟩) n l := by
 refine ⟨⟨by rw [U8_length, hl], fun _ => ⟨g, 0, rfl, h.lt, fun j _ => ?_⟩⟩, hs⟩
 rw [h.cell]
 simp
set_option maxHeartbeats 4000000 in
theorem Torn_fresh (p lo hi : Nat) (s : Sc) (bz wk : Int) (N : Nat) (w : World) (h : Tel w p lo hi s bz wk) (hf : s.short) (ht : ∀ x ∈ s.torn, x < 256) (hN : N ≤ 65536) :
  Calls Tryz.prog 133 #[.pointer (some ⟨p, 0, none⟩), .int .i64 (N : Int)] w fun e w' => ∃ g c, e = .returned (.slice (some ⟨g, 0, none⟩) N c) ∧ w.heap.size ≤ g ∧ R8 w' (some ⟨g, 0, none⟩) N (tornL s.torn N N) ∧ Below w.heap.size w w' := by
 have HF := Lib.hid hf.torn
 have HT := Lib.hid ht
 obtain ⟨A1, c1, A2, c2, b, A3, c3, base, m, hc, o1, o2, o3, hg⟩ := h.use
 have HC := Lib.hid hc
 have HO := Lib.hid o3
 clear h hf ht hc o1 o2 o3 hg
 obtain ⟨ti, hti, hz0, hz1, hz2⟩ := info_parts info_u8
 go_enter Tryz.func133, Tryz.ntmps133
 go_wp2_with fail
 refine (tmade_any p b _ _ _ _ _ _ HC.out).mono ?_
 rintro _ w1 ⟨rfl, h1⟩
 have B1 := Lib.hid h1
 have C1 := Lib.hid (HC.out.below h1)
 have O1 := Lib.hid (own_below HO.out h1)
 clear h1 HC HO
 go_wp2_with fail
 refine (within_yes (N : Int) 0 65536 _ (by omega) (by omega)).mono ?_
 rintro _ w2 ⟨rfl, hw2⟩
 obtain rfl : w1 = w2 := hw2
 rename World => w2
 have hmk := run_make (P := Tryz.prog) w2 26 5 ti (.int .u8 0) Tryz.underlying26 hti hz0 .i64 .i64 (N : Int) (N : Int) (by omega) (Int.le_refl _) (by rw [hz2]; omega) (by omega)
 rw [hz1, Int.toNat_natCast, Nat.mul_one, show (Value.int .u8 0).cells = #[.int .u8 0] from rfl] at hmk
 obtain ⟨X, hX⟩ : ∃ X, X = madeCells #[Value.int .u8 0] N := ⟨_, rfl⟩
 rw [← hX] at hmk
 have hX2 : X = (U8 (tornL s.torn N 0)).toArray := by
  rw [tornL_zero, hX]
  apply Array.ext'
  rw [toList_madeCells_one]
  simp [U8]
 clear hX
 subst hX2
 have G3 := Lib.hid (CRow.new w2 (U8 (tornL s.torn N 0)).toArray 5)
 have E3 := Lib.hid (below_new w2 (.cells (U8 (tornL s.torn N 0)).toArray 5))
 have HGL := Lib.hid (show ∀ g, (Value.slice A3 s.torn.length c3).ownBlock = some g → g < w2.heap.size from fun g hg => (O1.out.lt g hg).2)
 have C3 := Lib.hid (C1.out.below E3.out)
 have O3 := Lib.hid (own_below O1.out E3.out)
 have B3 := Lib.hid (below_step B1.out E3.out)
 have x3 := C3.out.cell_at 3 _ rfl
 have hlt1 : (s.torn.length : Int) ≤ 4096 := by have := HF.out; omega
 have hpl := C1.out.lt
 have HPL := Lib.hid hpl
 have HLO := Lib.hid B1.out.size
 generalize hW : w2.alloc (.cells (U8 (tornL s.torn N 0)).toArray 5) = w3 at *
 clear hW C1 O1 B1 E3 hpl
 by_cases h0 : s.torn.length = 0
 ·
  have hi0 : (s.torn.length : Int) = 0 := by omega
  have hl := tornL_zero s.torn N
  have he : tornL s.torn N 0 = tornL s.torn N N := by
   unfold tornL
   refine List.map_congr_left fun i hi => ?_
   have : s.torn = [] := List.eq_nil_of_length_eq_zero h0
   rw [this]
   simp
  have R3 := Lib.hid (show R8 w3 (some ⟨w2.heap.size, 0, none⟩) N (tornL s.torn N N) from he ▸ r8_row G3.out (tornL_small _ _ _ HT.out) (tornL_len _ _ _))
  clear C3 O3 G3 hl he
  go_wp2
  go_ret
  exact ⟨w2.heap.size, N, rfl, HLO.out, R3.out, B3.out⟩
 ·
  have hi0 : ((s.torn.length : Int) == 0) = false := by rw [beq_eq_false_iff_ne]; omega
  obtain ⟨g3, rfl, hlo3, hg3, _⟩ := own_at O3.out (Nat.pos_of_ne_zero h0)
  go_wp2
  go_loopw [6] (fun i wr => ∃ f : Nat, f ≤ N ∧ i = .int .i64 (f : Int) ∧ Hid (f % s.torn.length = 0 ∨ f = N) ∧ Hid (CRow wr w2.heap.size 5 (U8 (tornL s.torn N f)).toArray) ∧ Hid (Below w2.heap.size w3 wr)) (fun i _ => N - (intOf i).toNat)
  case atStart => exact ⟨0, Nat.zero_le _, rfl, .inl (Nat.zero_mod _), G3.out, Below.refl _ _⟩
  case round =>
   obtain ⟨f, hf, rfl, HD, CG, HB⟩ := hrel
   rename World => wr
   by_cases hlt : f < N
   ·
    obtain ⟨m0, hm0⟩ : ∃ m0, m0 = min s.torn.length (N - f) := ⟨_, rfl⟩
    have hm1 : 1 ≤ m0 := by have := Nat.pos_of_ne_zero h0; omega
    have hm2 : f + m0 ≤ N := by omega
    have hm3 : (f : Int) + (m0 : Int) ≤ 65536 := by omega
    have hwr : IntKind.i64.wrap ((f : Int) + (m0 : Int)) = ((f + m0 : Nat) : Int) := by rw [IntKind.wrap_i64]; omega
    have HM0 := Lib.hid hm0
    have hsf := run_slice_from (P := Tryz.prog) Tryz.underlying26 hti cells_u8 (some ⟨w2.heap.size, 0, none⟩) N N f hf
    have hsf2 := run_sliceAt_from (P := Tryz.prog) Tryz.underlying26 hti cells_u8 (some ⟨w2.heap.size, 0, none⟩) N N f hf
    have hcut : cutA (some ⟨w2.heap.size, 0, none⟩) N f = some ⟨w2.heap.size, f, none⟩ := by
     rw [cutA_some, if_neg (by omega)]
     simp [Addr.add]
     try omega
    rw [hcut] at hsf hsf2
    clear hcut
    have HL0 := Lib.hid (show (U8 (s.torn.take m0)).length = m0 by rw [U8_length, List.length_take]; omega)
    have HM1 := Lib.hid (show (U8 (s.torn.take m0)).length = Nat.min s.torn.length (N - f) by rw [HL0.out, HM0.out])
    have HM3 := Lib.hid (show f + (U8 (s.torn.take m0)).length ≤ (U8 (tornL s.torn N f)).length by rw [HL0.out, U8_length, tornL_len]; omega)
    have BW := Lib.hid (HB.out.mono (Nat.le_refl w2.heap.size))
    have OR := own_btw1 O3.out (J := fun j => w2.heap.size ≤ j) ⟨HB.out.os, HB.out.tape, HB.out.output, HB.out.size, fun k _ hn => HB.out.block k (by omega)⟩ (fun g hg => by
     have := HGL.out g hg
     omega)
    have HM2 : Hid (∀ j v, (U8 (s.torn.take m0))[j]? = some v → wr.drew.cell? ((⟨g3, 0, none⟩ : Addr).add j) = some v) := Lib.hid fun j v hv => by
     refine OR.cells rfl j v ?_
     unfold U8 at hv ⊢
     rw [List.map_take, List.getElem?_take] at hv
     split at hv
     ·
      exact hv
     ·
      cases hv
    have hpg : p ≠ w2.heap.size := Nat.ne_of_lt HPL.out
    have PR := Lib.hid (show CRow wr p 104 #[.slice A1 s.busy.length c1, .slice A2 s.fails.length c2, .map (some b), .slice (some ⟨g3, 0, none⟩) s.torn.length c3, .int .i64 bz, .int .i64 wk] from (HB.out.block p HPL.out).trans C3.out)
    clear OR BW hm0
    go_wp2
    refine wp_region_noPanic ?_
    refine wp_region_held_drew (S := fun w' => CRow w' p 104 #[.slice A1 s.busy.length c1, .slice A2 s.fails.length c2, .map (some b), .slice (some ⟨g3, 0, none⟩) s.torn.length c3, .int .i64 bz, .int .i64 wk]) (by kernel_rfl) PR.out.drew (fun C0 => ?_)
    refine tkH4 0 C0 ?_
    refine tkH4 1 C0 ?_
    refine tkH4 2 C0 ?_
    refine tkH4 3 C0 ?_
    refine tkH4 4 C0 ?_
    refine tkH4 5 C0 ?_
    refine tkH4 6 C0 ?_
    refine tkH4 7 C0 ?_ (hy := fun W' hSw => by have y := hSw.cell_at 3 _ rfl; clear hSw; go_simp <;> with_reducible rfl)
    refine wpAnyH_ready (rs := [8]) (by kernel_rfl) (by simp) ?_
    refine AllReadyH.cons (o := { dst := some 35, op := Op.call { callee := Callee.builtin Builtin.copy, args := #[Operand.tmp 30, Operand.tmp 34], argTypes := #[26, 26] }, type := 3, pos := "choice.go:112", after := #[{ on := 3, ground := Ground.data }, { on := 7, ground := Ground.data }], guard := none }) rfl (fun K hK => ?_) AllReadyH.nil
    rw [if_pos (by rfl)]
    refine wp_copyR wr.drew (.tmp 30) (.tmp 34) 26 26 rfl 5 Tryz.underlying26 size_u8 w2.heap.size f (N - f) (N - f) ⟨g3, 0, none⟩ s.torn.length c3 rfl rfl (U8 (tornL s.torn N f)) 5 CG.out (U8 (s.torn.take m0)) HM1.out HM2.out HM3.out (U8_one _) ?_
    intro w4 hw4
    rw [HL0.out] at hw4 ⊢
    have W4 := Lib.hid hw4
    clear hw4
    have P4 := Lib.hid (show CRow w4 p 104 #[.slice A1 s.busy.length c1, .slice A2 s.fails.length c2, .map (some b), .slice (some ⟨g3, 0, none⟩) s.torn.length c3, .int .i64 bz, .int .i64 wk] from W4.out ▸ PR.out.drew.other hpg)
    refine hK.out _ _ P4.out (fun C1 => ?_)
    clear hK K
    try simp only [Act.put, zzI, zzO, zzS]
    refine tkH4 9 C1 ?_
    refine tkH4 10 C1 ?_
    refine wpAnyH_done (by kernel_rfl) ?_ _
    refine NoPanic.normal ?_
    have CN := Lib.hid (show CRow w4 w2.heap.size 5 (U8 (tornL s.torn N (f + m0))).toArray from by
     have h1 := CG.out.drew.set (((U8 (tornL s.torn N f)).take f ++ U8 (s.torn.take m0) ++ (U8 (tornL s.torn N f)).drop (f + m0)).toArray)
     rw [← W4.out] at h1
     have h2 : (U8 (tornL s.torn N f)).take f ++ U8 (s.torn.take m0) ++ (U8 (tornL s.torn N f)).drop (f + m0) = U8 (tornL s.torn N (f + m0)) := by
      have := congrArg U8 (tornL_step s.torn N f hf (HD.out.resolve_right (by omega)))
      rw [← HM0.out] at this
      rw [← this, U8_append, U8_append]
      simp [U8, List.map_take, List.map_drop]
     rwa [h2] at h1)
    have BN := Lib.hid (show Below w2.heap.size w3 w4 from by
     rw [W4.out]
     exact below_setRow HB.out.drew (Nat.le_refl _) _)
    have DN := Lib.hid (show (f + m0) % s.torn.length = 0 ∨ f + m0 = N from by
     rcases Nat.le_total s.torn.length (N - f) with h | h
     ·
      rw [HM0.out, Nat.min_eq_left h]
      refine .inl ?_
      rw [Nat.add_mod_right]
      exact HD.out.resolve_right (by omega)
     ·
      rw [HM0.out, Nat.min_eq_right h]
      exact .inr (by omega))
    clear HM1 HM2 HM3 HL0 PR CG HB HD W4 P4
    go_wp2
    go_roundw
    case rel => exact ⟨f + m0, by omega, by go_num, DN, CN, BN⟩
    case measure => simp [intOf]; omega
   ·
    obtain rfl : f = N := by omega
    have R9 := Lib.hid (r8_row CG.out (tornL_small _ _ _ HT.out) (tornL_len _ _ _))
    go_wp2
    go_ret
    exact ⟨w2.heap.size, ⟨f, rfl⟩, HLO.out, R9.out, B3.out.trans (HB.out.mono HLO.out)⟩
structure Sc.few (s : Sc) : Prop where
 busy : s.busy.length ≤ 200
 fails : s.fails.length ≤ 50
 turns : s.turns.length ≤ 100
 torn : s.torn.length ≤ 200
 marked : s.marked.length ≤ 50
theorem Sc.few.short {s : Sc} (h : s.few) : s.short := ⟨by have := h.busy; omega, by have := h.fails; omega, by have := h.turns; omega, by have := h.torn; omega, by have := h.marked; omega⟩
set_option maxHeartbeats 4000000 in
theorem Few_any (m : Sa) (s : Sc) (w : World) : Calls Tryz.prog 6 #[.agg (m.cells s)] w (Checks s.few w) := by
 have S0 := Lib.hid (CRow.new w (m.cells s) 28)
 have B0 := Lib.hid (below_new w (.cells (m.cells s) 28))
 have y0 := S0.out.cell_at 0 (.slice m.a1 s.busy.length m.c1) rfl
 have y1 := S0.out.cell_at 1 (.slice m.a2 s.fails.length m.c2) rfl
 have y2 := S0.out.cell_at 2 (.slice m.a3 s.turns.length m.c3) rfl
 have y4 := S0.out.cell_at 4 (.slice m.a4 s.torn.length m.c4) rfl
 have y5 := S0.out.cell_at 5 (.slice m.a5 s.marked.length m.c5) rfl
 unfold Sa.cells at *
 go_enter Tryz.func6, Tryz.ntmps6
 by_cases h0 : s.busy.length ≤ 200
 ·
  by_cases h1 : s.fails.length ≤ 50
  ·
   by_cases h2 : s.turns.length ≤ 100
   ·
    by_cases h4 : s.torn.length ≤ 200
    ·
     go_wp2
     go_ret
     exact ⟨_, rfl, ⟨fun h => ⟨h0, h1, h2, h4, by have := of_decide_eq_true h; omega⟩, fun h => decide_eq_true (by have := h.marked; omega)⟩, B0.out⟩
    ·
     go_wp2
     go_ret
     exact checks_no (fun h => h4 h.torn) B0.out
   ·
    go_wp2
    go_ret
    exact checks_no (fun h => h2 h.turns) B0.out
  ·
   go_wp2
   go_ret
   exact checks_no (fun h => h1 h.fails) B0.out
 ·
  go_wp2
  go_ret
  exact checks_no (fun h => h0 h.busy) B0.out
end Go.Proofs.YtmbgoopkpfhamaaGreat
