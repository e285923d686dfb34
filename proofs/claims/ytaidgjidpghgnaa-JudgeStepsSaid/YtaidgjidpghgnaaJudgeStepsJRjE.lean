/-
  The document's judge: write, read.
-/
import Derived.Test.YtaidgjidpghgnaaTk
import Derived.Test.YtaidgjidpghgnaaJudgeStepsJ10
import Derived.Test.YtaidgjidpghgnaaJudgeStepsJ6
namespace Go.Proofs.Ytaidgjidpghgnaa
open Go.RowKit
set_option maxRecDepth 100000
def zSc0 : Oper := { dst := some 58, op := Op.call { callee := Callee.value (Operand.func 47), args := #[Operand.tmp 57], argTypes := #[23] }, type := 3, pos := "ref.go:299", after := #[{ on := 26, ground := Ground.data }, { on := 13, ground := Ground.chain }, { on := 13, ground := Ground.guard }], guard := some (13, true) }
def zSc1 : Oper := { dst := some 73, op := Op.call { callee := Callee.value (Operand.func 47), args := #[Operand.tmp 72], argTypes := #[23] }, type := 3, pos := "ref.go:311", after := #[{ on := 13, ground := Ground.data }, { on := 5, ground := Ground.chain }, { on := 5, ground := Ground.guard }], guard := some (5, true) }
def zS0 : Oper := { dst := some 31, op := Op.move (Operand.tmp 0), type := 33, pos := "ref.go:299", after := #[], guard := none }
def zS1 : Oper := { dst := some 32, op := Op.nilCheck (Operand.tmp 31), type := 0, pos := "ref.go:299", after := #[{ on := 0, ground := Ground.data }], guard := none }
def zS2 : Oper := { dst := some 33, op := Op.fieldAddr 41 (Operand.tmp 32) 4, type := 0, pos := "ref.go:299", after := #[{ on := 1, ground := Ground.data }], guard := none }
def zS3 : Oper := { dst := some 34, op := Op.load 3 (Operand.tmp 33), type := 3, pos := "ref.go:299", after := #[{ on := 2, ground := Ground.data }], guard := none }
def zS4 : Oper := { dst := some 35, op := Op.binOp BinOp.eql 3 (Operand.tmp 34) (Operand.const (Value.int IntKind.i64 8)) 3, type := 4, pos := "ref.go:299", after := #[{ on := 3, ground := Ground.data }], guard := none }
def zS5 : Oper := { dst := some 36, op := Op.move (Operand.tmp 35), type := 4, pos := "ref.go:299", after := #[{ on := 4, ground := Ground.data }], guard := none }
def zS6 : Oper := { dst := some 37, op := Op.move (Operand.tmp 0), type := 33, pos := "ref.go:299", after := #[{ on := 5, ground := Ground.guard }], guard := some (5, true) }
def zS7 : Oper := { dst := some 38, op := Op.nilCheck (Operand.tmp 37), type := 0, pos := "ref.go:299", after := #[{ on := 6, ground := Ground.data }, { on := 5, ground := Ground.guard }], guard := some (5, true) }
def zS8 : Oper := { dst := some 39, op := Op.fieldAddr 41 (Operand.tmp 38) 5, type := 0, pos := "ref.go:299", after := #[{ on := 7, ground := Ground.data }, { on := 5, ground := Ground.guard }], guard := some (5, true) }
def zS9 : Oper := { dst := some 40, op := Op.load 39 (Operand.tmp 39), type := 39, pos := "ref.go:299", after := #[{ on := 8, ground := Ground.data }, { on := 5, ground := Ground.guard }], guard := some (5, true) }
def zS10 : Oper := { dst := some 41, op := Op.call { callee := Callee.builtin Builtin.len, args := #[Operand.tmp 40], argTypes := #[39] }, type := 3, pos := "ref.go:299", after := #[{ on := 9, ground := Ground.data }, { on := 5, ground := Ground.guard }], guard := some (5, true) }
def zS11 : Oper := { dst := some 42, op := Op.binOp BinOp.eql 3 (Operand.tmp 41) (Operand.const (Value.int IntKind.i64 4)) 3, type := 4, pos := "ref.go:299", after := #[{ on := 10, ground := Ground.data }, { on := 5, ground := Ground.guard }], guard := some (5, true) }
def zS12 : Oper := { dst := some 43, op := Op.pick (Operand.tmp 36) (Operand.tmp 42) (Operand.const (Value.bool false)), type := 4, pos := "ref.go:299", after := #[{ on := 5, ground := Ground.data }, { on := 11, ground := Ground.data }], guard := none }
def zS13 : Oper := { dst := some 44, op := Op.move (Operand.tmp 43), type := 4, pos := "ref.go:299", after := #[{ on := 12, ground := Ground.data }, { on := 5, ground := Ground.chain }], guard := none }
def zS14 : Oper := { dst := some 45, op := Op.move (Operand.tmp 0), type := 33, pos := "ref.go:299", after := #[{ on := 13, ground := Ground.guard }], guard := some (13, true) }
def zS15 : Oper := { dst := some 46, op := Op.nilCheck (Operand.tmp 45), type := 0, pos := "ref.go:299", after := #[{ on := 14, ground := Ground.data }, { on := 13, ground := Ground.guard }], guard := some (13, true) }
def zS16 : Oper := { dst := some 47, op := Op.fieldAddr 41 (Operand.tmp 46) 12, type := 0, pos := "ref.go:299", after := #[{ on := 15, ground := Ground.data }, { on := 13, ground := Ground.guard }], guard := some (13, true) }
def zS17 : Oper := { dst := some 48, op := Op.load 3 (Operand.tmp 47), type := 3, pos := "ref.go:299", after := #[{ on := 16, ground := Ground.data }, { on := 13, ground := Ground.guard }], guard := some (13, true) }
def zS18 : Oper := { dst := some 49, op := Op.move (Operand.tmp 0), type := 33, pos := "ref.go:299", after := #[{ on := 13, ground := Ground.guard }], guard := some (13, true) }
def zS19 : Oper := { dst := some 50, op := Op.nilCheck (Operand.tmp 49), type := 0, pos := "ref.go:299", after := #[{ on := 18, ground := Ground.data }, { on := 13, ground := Ground.guard }], guard := some (13, true) }
def zS20 : Oper := { dst := some 51, op := Op.fieldAddr 41 (Operand.tmp 50) 6, type := 0, pos := "ref.go:299", after := #[{ on := 19, ground := Ground.data }, { on := 13, ground := Ground.guard }], guard := some (13, true) }
def zS21 : Oper := { dst := some 52, op := Op.load 3 (Operand.tmp 51), type := 3, pos := "ref.go:299", after := #[{ on := 20, ground := Ground.data }, { on := 13, ground := Ground.guard }], guard := some (13, true) }
def zS22 : Oper := { dst := some 53, op := Op.binOp BinOp.add 3 (Operand.tmp 48) (Operand.tmp 52) 3, type := 3, pos := "ref.go:299", after := #[{ on := 17, ground := Ground.data }, { on := 21, ground := Ground.data }, { on := 13, ground := Ground.guard }], guard := some (13, true) }
def zS23 : Oper := { dst := some 54, op := Op.move (Operand.tmp 0), type := 33, pos := "ref.go:299", after := #[{ on := 13, ground := Ground.guard }], guard := some (13, true) }
def zS24 : Oper := { dst := some 55, op := Op.nilCheck (Operand.tmp 54), type := 0, pos := "ref.go:299", after := #[{ on := 23, ground := Ground.data }, { on := 13, ground := Ground.guard }], guard := some (13, true) }
def zS25 : Oper := { dst := some 56, op := Op.fieldAddr 41 (Operand.tmp 55) 0, type := 0, pos := "ref.go:299", after := #[{ on := 24, ground := Ground.data }, { on := 13, ground := Ground.guard }], guard := some (13, true) }
def zS26 : Oper := { dst := some 57, op := Op.load 23 (Operand.tmp 56), type := 23, pos := "ref.go:299", after := #[{ on := 25, ground := Ground.data }, { on := 13, ground := Ground.guard }], guard := some (13, true) }
def zS27 : Oper := { dst := some 58, op := Op.call { callee := Callee.value (Operand.func 47), args := #[Operand.tmp 57], argTypes := #[23] }, type := 3, pos := "ref.go:299", after := #[{ on := 26, ground := Ground.data }, { on := 13, ground := Ground.chain }, { on := 13, ground := Ground.guard }], guard := some (13, true) }
def zS28 : Oper := { dst := some 59, op := Op.binOp BinOp.leq 3 (Operand.tmp 53) (Operand.tmp 58) 3, type := 4, pos := "ref.go:299", after := #[{ on := 22, ground := Ground.data }, { on := 27, ground := Ground.data }, { on := 13, ground := Ground.guard }], guard := some (13, true) }
def zS29 : Oper := { dst := some 60, op := Op.pick (Operand.tmp 44) (Operand.tmp 59) (Operand.const (Value.bool false)), type := 4, pos := "ref.go:299", after := #[{ on := 13, ground := Ground.data }, { on := 28, ground := Ground.data }], guard := none }
def zS30 : Oper := { dst := some 2, op := Op.assign (Operand.tmp 60), type := 4, pos := "ref.go:299", after := #[{ on := 29, ground := Ground.data }, { on := 27, ground := Ground.chain }, { on := 0, ground := Ground.phase }, { on := 1, ground := Ground.phase }, { on := 2, ground := Ground.phase }, { on := 3, ground := Ground.phase }, { on := 4, ground := Ground.phase }, { on := 5, ground := Ground.phase }, { on := 6, ground := Ground.phase }, { on := 7, ground := Ground.phase }, { on := 8, ground := Ground.phase }, { on := 9, ground := Ground.phase }, { on := 10, ground := Ground.phase }, { on := 11, ground := Ground.phase }, { on := 12, ground := Ground.phase }, { on := 13, ground := Ground.phase }, { on := 14, ground := Ground.phase }, { on := 15, ground := Ground.phase }, { on := 16, ground := Ground.phase }, { on := 17, ground := Ground.phase }, { on := 18, ground := Ground.phase }, { on := 19, ground := Ground.phase }, { on := 20, ground := Ground.phase }, { on := 21, ground := Ground.phase }, { on := 22, ground := Ground.phase }, { on := 23, ground := Ground.phase }, { on := 24, ground := Ground.phase }, { on := 25, ground := Ground.phase }, { on := 26, ground := Ground.phase }, { on := 27, ground := Ground.phase }, { on := 28, ground := Ground.phase }, { on := 29, ground := Ground.phase }], guard := none }
def zS31 : Oper := { dst := some 59, op := Op.move (Operand.tmp 0), type := 33, pos := "ref.go:311", after := #[], guard := none }
def zS32 : Oper := { dst := some 60, op := Op.nilCheck (Operand.tmp 59), type := 0, pos := "ref.go:311", after := #[{ on := 0, ground := Ground.data }], guard := none }
def zS33 : Oper := { dst := some 61, op := Op.fieldAddr 41 (Operand.tmp 60) 4, type := 0, pos := "ref.go:311", after := #[{ on := 1, ground := Ground.data }], guard := none }
def zS34 : Oper := { dst := some 62, op := Op.load 3 (Operand.tmp 61), type := 3, pos := "ref.go:311", after := #[{ on := 2, ground := Ground.data }], guard := none }
def zS35 : Oper := { dst := some 63, op := Op.binOp BinOp.eql 3 (Operand.tmp 62) (Operand.const (Value.int IntKind.i64 6)) 3, type := 4, pos := "ref.go:311", after := #[{ on := 3, ground := Ground.data }], guard := none }
def zS36 : Oper := { dst := some 64, op := Op.move (Operand.tmp 63), type := 4, pos := "ref.go:311", after := #[{ on := 4, ground := Ground.data }], guard := none }
def zS37 : Oper := { dst := some 65, op := Op.move (Operand.tmp 0), type := 33, pos := "ref.go:311", after := #[{ on := 5, ground := Ground.guard }], guard := some (5, true) }
def zS38 : Oper := { dst := some 66, op := Op.nilCheck (Operand.tmp 65), type := 0, pos := "ref.go:311", after := #[{ on := 6, ground := Ground.data }, { on := 5, ground := Ground.guard }], guard := some (5, true) }
def zS39 : Oper := { dst := some 67, op := Op.fieldAddr 41 (Operand.tmp 66) 12, type := 0, pos := "ref.go:311", after := #[{ on := 7, ground := Ground.data }, { on := 5, ground := Ground.guard }], guard := some (5, true) }
def zS40 : Oper := { dst := some 68, op := Op.load 3 (Operand.tmp 67), type := 3, pos := "ref.go:311", after := #[{ on := 8, ground := Ground.data }, { on := 5, ground := Ground.guard }], guard := some (5, true) }
def zS41 : Oper := { dst := some 69, op := Op.move (Operand.tmp 0), type := 33, pos := "ref.go:311", after := #[{ on := 5, ground := Ground.guard }], guard := some (5, true) }
def zS42 : Oper := { dst := some 70, op := Op.nilCheck (Operand.tmp 69), type := 0, pos := "ref.go:311", after := #[{ on := 10, ground := Ground.data }, { on := 5, ground := Ground.guard }], guard := some (5, true) }
def zS43 : Oper := { dst := some 71, op := Op.fieldAddr 41 (Operand.tmp 70) 0, type := 0, pos := "ref.go:311", after := #[{ on := 11, ground := Ground.data }, { on := 5, ground := Ground.guard }], guard := some (5, true) }
def zS44 : Oper := { dst := some 72, op := Op.load 23 (Operand.tmp 71), type := 23, pos := "ref.go:311", after := #[{ on := 12, ground := Ground.data }, { on := 5, ground := Ground.guard }], guard := some (5, true) }
def zS45 : Oper := { dst := some 74, op := Op.binOp BinOp.leq 3 (Operand.tmp 68) (Operand.tmp 73) 3, type := 4, pos := "ref.go:311", after := #[{ on := 9, ground := Ground.data }, { on := 14, ground := Ground.data }, { on := 5, ground := Ground.guard }], guard := some (5, true) }
def zS46 : Oper := { dst := some 75, op := Op.pick (Operand.tmp 64) (Operand.tmp 74) (Operand.const (Value.bool false)), type := 4, pos := "ref.go:311", after := #[{ on := 5, ground := Ground.data }, { on := 15, ground := Ground.data }], guard := none }
def zS47 : Oper := { dst := some 2, op := Op.assign (Operand.tmp 75), type := 4, pos := "ref.go:311", after := #[{ on := 16, ground := Ground.data }, { on := 14, ground := Ground.chain }, { on := 0, ground := Ground.phase }, { on := 1, ground := Ground.phase }, { on := 2, ground := Ground.phase }, { on := 3, ground := Ground.phase }, { on := 4, ground := Ground.phase }, { on := 5, ground := Ground.phase }, { on := 6, ground := Ground.phase }, { on := 7, ground := Ground.phase }, { on := 8, ground := Ground.phase }, { on := 9, ground := Ground.phase }, { on := 10, ground := Ground.phase }, { on := 11, ground := Ground.phase }, { on := 12, ground := Ground.phase }, { on := 13, ground := Ground.phase }, { on := 14, ground := Ground.phase }, { on := 15, ground := Ground.phase }, { on := 16, ground := Ground.phase }], guard := none }
def zS48 : Oper := { dst := some 73, op := Op.call { callee := Callee.value (Operand.func 47), args := #[Operand.tmp 72], argTypes := #[23] }, type := 3, pos := "ref.go:311", after := #[{ on := 13, ground := Ground.data }, { on := 5, ground := Ground.chain }, { on := 5, ground := Ground.guard }], guard := some (5, true) }

section
variable {ρ : Nat → Nat} {I K : Nat → Prop} {w w' : World} {p : Nat} {g : Gm} {j j' : Jd} {m m' : RjM}
def Jd.rwrite (g : Gm) (j : Jd) : Bool × Jd :=
 if j.op = 4 ∧ j.listed.length = 1 then (true, if j.count + 1 = 4 then ({ j with count := j.count + 1 } : Jd).start else { j with count := j.count + 1 })
 else (decide (j.op = 8 ∧ j.listed.length = 4 ∧ j.col + (j.count + 1) ≤ g.raw.toNat), { j with count := j.count + 1 })
set_option maxHeartbeats 8000000 in
theorem rwrite (hl : j.listed.length ≤ 1000) (hct : j.count ≤ 1000000) (hco : j.col ≤ 1000000) (h : RJ I w p g j) : Calls Try.prog 34 #[.pointer (some ⟨p, 0, none⟩)] w (ActsR I p g (.bool (j.rwrite g).1) (j.rwrite g).2 w) := by
 have hg := h.ok
 obtain ⟨ρ, m, hc, hr, hi, hnw⟩ := h
 have C0 := Lib.hid hc
 have R0 := Lib.hid hr
 have I0 := Lib.hid hi
 have N0 := Lib.hid hnw
 have HRQ := Lib.hid (fun W => RefRaw_any g W hg)
 have hraw0 : 0 ≤ g.raw ∧ g.raw ≤ 9000 := by
  have hb := Gm.bounds_of hg
  have e7 : g.raw = g.c * (g.k + 2) + 31 := by unfold Gm.raw; rw [if_pos hg]
  have := mul_le (m := 16) (n := 514) (show 0 ≤ g.c by omega) (by omega) (show 0 ≤ g.k + 2 by omega) (by omega)
  omega
 obtain ⟨N, hN⟩ : ∃ N, N = g.raw.toNat := ⟨_, rfl⟩
 have HNN := Lib.hid hN
 have hraw : g.raw = (N : Int) := by rw [hN]; omega
 rw [hraw] at HRQ
 simp only [Gm.val] at HRQ
 obtain ⟨n, hn⟩ : ∃ n, n = j.listed.length := ⟨_, rfl⟩
 have HN := Lib.hid hn
 obtain ⟨o, ho⟩ : ∃ o, o = j.op := ⟨_, rfl⟩
 have HOO := Lib.hid ho
 obtain ⟨cn, hcn⟩ : ∃ cn, cn = j.count := ⟨_, rfl⟩
 have HCN := Lib.hid hcn
 obtain ⟨cl, hcl⟩ : ∃ cl, cl = j.col := ⟨_, rfl⟩
 have HCL := Lib.hid hcl
 obtain ⟨da, hda⟩ : ∃ da, da = j.data := ⟨_, rfl⟩
 have HDA := Lib.hid hda
 have LN : n ≤ 1000 := by omega
 have LCN : cn ≤ 1000000 := by omega
 have LCL : cl ≤ 1000000 := by omega
 have XO0 := Lib.hid (show w.cell? ⟨p, 12, none⟩ = some (.int .i64 (cn : Int)) by rw [hcn]; exact hc.cell_at 12 _ rfl)
 have XO := Lib.hid (show ∀ W, CRow W p 41 (rjCells g ({ j with count := j.count + 1 } : Jd) m) → W.cell? ⟨p, 10, none⟩ = some (.int .i64 (o : Int)) from fun W h => by have h0 := h.cell_at 10 (.int .i64 ((({ j with count := j.count + 1 } : Jd)).op : Int)) rfl; simpa [HOO.out] using h0)
 have XL := Lib.hid (show ∀ W, CRow W p 41 (rjCells g ({ j with count := j.count + 1 } : Jd) m) → W.cell? ⟨p, 11, none⟩ = some (.slice m.aL n m.cL) from fun W h => by have h0 := h.cell_at 11 (.slice m.aL (({ j with count := j.count + 1 } : Jd)).listed.length m.cL) rfl; simpa [HN.out] using h0)
 have XC := Lib.hid (show ∀ W, CRow W p 41 (rjCells g ({ j with count := j.count + 1 } : Jd) m) → W.cell? ⟨p, 12, none⟩ = some (.int .i64 ((cn : Int) + 1)) from fun W h => by have h0 := h.cell_at 12 (.int .i64 ((({ j with count := j.count + 1 } : Jd)).count : Int)) rfl; simpa [HCN.out] using h0)
 have XK := Lib.hid (show ∀ W, CRow W p 41 (rjCells g ({ j with count := j.count + 1 } : Jd) m) → W.cell? ⟨p, 18, none⟩ = some (.int .i64 (cl : Int)) from fun W h => by have h0 := h.cell_at 18 (.int .i64 ((({ j with count := j.count + 1 } : Jd)).col : Int)) rfl; simpa [HCL.out] using h0)
 have BB := Lib.hid (Btw.refl (I := I) w)
 clear hc hr hi hnw hg hraw0 hN hraw hn ho hcn hcl hda hl hct hco
 have wc : IntKind.i64.wrap ((cn : Int) + 1) = (cn : Int) + 1 := IntWalk.i64_in _ (by omega)
 have wk : IntKind.i64.wrap ((cl : Int) + ((cn : Int) + 1)) = (cl : Int) + ((cn : Int) + 1) := IntWalk.i64_in _ (by omega)
 have x12 := XO0.out
 have f12 := C0.out.frozen 12
 have S1 := Lib.hid (C0.out.setCell 12 (.int .i64 ((cn : Int) + 1)))
 have S1K := Lib.hid ((Btw.refl (I := fun k => k = p) w).setCell (p := ⟨p, 12, none⟩) (v := .int .i64 ((cn : Int) + 1)) rfl)
 have CA := Lib.hid (show CRow (w.setCell ⟨p, 12, none⟩ (.int .i64 ((cn : Int) + 1))) p 41 (rjCells g ({ j with count := j.count + 1 } : Jd) m) ∧ RjR ρ (w.setCell ⟨p, 12, none⟩ (.int .i64 ((cn : Int) + 1))) p g ({ j with count := j.count + 1 } : Jd) m ∧ Btw I w (w.setCell ⟨p, 12, none⟩ (.int .i64 ((cn : Int) + 1))) from
  ⟨by have h0 := S1.out; simpa [rjCells, HCN.out, HCL.out] using h0, (fun (h : RjR ρ _ p g j m) => ({ h with } : RjR ρ _ p g ({ j with count := j.count + 1 } : Jd) m)) (R0.out.btw S1K.out fun k e => .inr (by have e : k = p := e; rw [e]; exact R0.out.rp)), BB.out.trans S1K.out fun k _ e => I0.out k (by have e : k = p := e; rw [e, R0.out.rp]; decide)⟩)
 obtain ⟨w1, hw1⟩ : ∃ w1, w1 = w.setCell ⟨p, 12, none⟩ (.int .i64 ((cn : Int) + 1)) := ⟨_, rfl⟩
 rw [← hw1] at CA
 have H1 := Lib.hid hw1
 have x10 : (w.setCell ⟨p, 12, none⟩ (.int .i64 ((cn : Int) + 1))).cell? ⟨p, 10, none⟩ = some (.int .i64 (o : Int)) := by rw [← hw1]; exact XO.out _ CA.out.1
 have x11 : (w.setCell ⟨p, 12, none⟩ (.int .i64 ((cn : Int) + 1))).cell? ⟨p, 11, none⟩ = some (.slice m.aL n m.cL) := by rw [← hw1]; exact XL.out _ CA.out.1
 have y12 : (w.setCell ⟨p, 12, none⟩ (.int .i64 ((cn : Int) + 1))).cell? ⟨p, 12, none⟩ = some (.int .i64 ((cn : Int) + 1)) := by rw [← hw1]; exact XC.out _ CA.out.1
 clear hw1
 by_cases h4 : o = 4
 ·
  by_cases h1 : n = 1
  ·
   skip
   have bo4 : (((o : Nat) : Int) == 4) = true := by simp; omega
   have jo4 : (((o : Nat) : Int) = 4) = True := eq_true (by omega)
   have ko4 : (o = 4) = True := eq_true (by omega)
   have do4 : decide (((o : Nat) : Int) = 4) = true := decide_eq_true (by omega)
   have bn1 : (((n : Nat) : Int) == 1) = true := by simp; omega
   have jn1 : (((n : Nat) : Int) = 1) = True := eq_true (by omega)
   have kn1 : (n = 1) = True := eq_true (by omega)
   have dn1 : decide (((n : Nat) : Int) = 1) = true := decide_eq_true (by omega)
   by_cases hq : cn + 1 = 4
   ·
    have e0 : ((cn : Int) + 1 == 4) = true := by simp; omega
    have e1 : ((cn : Int) + 1 = 4) = True := eq_true (by omega)
    have e2 : decide ((cn : Int) + 1 = 4) = true := decide_eq_true (by omega)
    have HR := Lib.hid (show j.rwrite g = (true, (({ j with count := j.count + 1 } : Jd) : Jd).start) by unfold Jd.rwrite; rw [if_pos ⟨HOO.out.symm.trans h4, HN.out.symm.trans h1⟩, if_pos (by rw [← HCN.out]; exact hq)])
    have HST := Lib.hid (rstart (j := ({ j with count := j.count + 1 } : Jd)) ⟨ρ, m, (CA.out).1, (CA.out).2.1, I0.out, fun k hk => N0.out k (Nat.le_trans (CA.out).2.2.size hk)⟩)
    have HSX := Lib.hid (H1.out ▸ HST.out)
    clear h4 h1 hq
    go_enter Try.func34, Try.ntmps34
    go_wp2_with fail
    refine HSX.out.mono ?_
    rintro _ w2 ⟨rfl, h2, b2⟩
    have H2 := Lib.hid h2
    have B2 := Lib.hid (CA.out.2.2.trans (show Btw I w1 w2 by rw [H1.out]; exact b2) fun _ _ h => h)
    clear h2 b2
    go_wp2
    go_ret
    rw [HR.out]
    exact ⟨rfl, H2.out, B2.out⟩
   ·
    have e0 : ((cn : Int) + 1 == 4) = false := by simp; omega
    have e1 : ((cn : Int) + 1 = 4) = False := eq_false (by omega)
    have e2 : decide ((cn : Int) + 1 = 4) = false := decide_eq_false (by omega)
    have HR := Lib.hid (show j.rwrite g = (true, ({ j with count := j.count + 1 } : Jd)) by unfold Jd.rwrite; rw [if_pos ⟨HOO.out.symm.trans h4, HN.out.symm.trans h1⟩, if_neg (by rw [← HCN.out]; exact hq)])
    clear h4 h1 hq
    go_enter Try.func34, Try.ntmps34
    go_wp2
    go_ret
    rw [HR.out]
    rw [← H1.out]
    exact ⟨rfl, ⟨ρ, m, (CA.out).1, (CA.out).2.1, I0.out, fun k hk => N0.out k (Nat.le_trans (CA.out).2.2.size hk)⟩, CA.out.2.2⟩
  ·
   skip
   have bo4 : (((o : Nat) : Int) == 4) = true := by simp; omega
   have jo4 : (((o : Nat) : Int) = 4) = True := eq_true (by omega)
   have ko4 : (o = 4) = True := eq_true (by omega)
   have do4 : decide (((o : Nat) : Int) = 4) = true := decide_eq_true (by omega)
   have bn1 : (((n : Nat) : Int) == 1) = false := by simp; omega
   have jn1 : (((n : Nat) : Int) = 1) = False := eq_false (by omega)
   have kn1 : (n = 1) = False := eq_false (by omega)
   have dn1 : decide (((n : Nat) : Int) = 1) = false := decide_eq_false (by omega)
   have bo8 : ((o : Int) == 8) = false := by simp; omega
   have jo8 : ((o : Int) = 8) = False := eq_false (by omega)
   have ko8 : (o = 8) = False := eq_false (by omega)
   have do8 : decide ((o : Int) = 8) = false := decide_eq_false (by omega)
   have HR := Lib.hid (show j.rwrite g = (false, ({ j with count := j.count + 1 } : Jd)) by unfold Jd.rwrite; rw [if_neg (fun h => h1 (HN.out.trans h.2)), decide_eq_false (fun h => by have := HOO.out.symm.trans h4; omega)])
   clear h4 h1
   go_enter Try.func34, Try.ntmps34
   go_wp2_with fail
   try rw [← H1.out]
   clear x10 x11 x12 y12 f12
   refine wp_region_noPanic ?_
   refine wp_region_held_drew (S := fun w' => CRow w' p 41 (rjCells g ({ j with count := j.count + 1 } : Jd) m) ∧ RjR ρ w' p g ({ j with count := j.count + 1 } : Jd) m ∧ Btw I w w') (by kernel_rfl) ⟨CA.out.1.drew, CA.out.2.1.below ((Below.refl _ _).drew), CA.out.2.2.drew⟩ (fun C0 => ?_)
   refine tkH 0 zS0 _ C0 rfl (by kernel_rfl) rfl (fun W h => by clear h; dsimp only [zS0]; go_simp <;> with_reducible rfl) ?_
   try simp only [zS0, Act.put, zzI, zzO, zzS]
   refine tkH 1 zS1 _ C0 rfl (by kernel_rfl) rfl (fun W h => by clear h; dsimp only [zS1]; go_simp <;> with_reducible rfl) ?_
   try simp only [zS1, Act.put, zzI, zzO, zzS]
   refine tkH 2 zS2 _ C0 rfl (by kernel_rfl) rfl (fun W h => by clear h; dsimp only [zS2]; go_simp <;> with_reducible rfl) ?_
   try simp only [zS2, Act.put, zzI, zzO, zzS]
   refine tkH 3 zS3 _ C0 rfl (by kernel_rfl) rfl (fun W' hSw => by obtain ⟨hs, -, -⟩ := hSw; have x10 := XO.out W' hs; clear hs; dsimp only [zS3]; go_simp <;> with_reducible rfl) ?_
   try simp only [zS3, Act.put, zzI, zzO, zzS]
   refine tkH 4 zS4 _ C0 rfl (by kernel_rfl) rfl (fun W h => by clear h; dsimp only [zS4]; go_simp <;> with_reducible rfl) ?_
   try simp only [zS4, Act.put, zzI, zzO, zzS]
   refine tkH 5 zS5 _ C0 rfl (by kernel_rfl) rfl (fun W h => by clear h; dsimp only [zS5]; go_simp <;> with_reducible rfl) ?_
   try simp only [zS5, Act.put, zzI, zzO, zzS]
   refine tkN 6 zS6 C0 rfl (by kernel_rfl) rfl ?_
   try simp only [zS6, Act.put, zzI, zzO, zzS]
   refine tkN 7 zS7 C0 rfl (by kernel_rfl) rfl ?_
   try simp only [zS7, Act.put, zzI, zzO, zzS]
   refine tkN 8 zS8 C0 rfl (by kernel_rfl) rfl ?_
   try simp only [zS8, Act.put, zzI, zzO, zzS]
   refine tkN 9 zS9 C0 rfl (by kernel_rfl) rfl ?_
   try simp only [zS9, Act.put, zzI, zzO, zzS]
   refine tkN 10 zS10 C0 rfl (by kernel_rfl) rfl ?_
   try simp only [zS10, Act.put, zzI, zzO, zzS]
   refine tkN 11 zS11 C0 rfl (by kernel_rfl) rfl ?_
   try simp only [zS11, Act.put, zzI, zzO, zzS]
   refine tkH 12 zS12 _ C0 rfl (by kernel_rfl) rfl (fun W h => by clear h; dsimp only [zS12]; go_simp <;> with_reducible rfl) ?_
   try simp only [zS12, Act.put, zzI, zzO, zzS]
   refine tkH 13 zS13 _ C0 rfl (by kernel_rfl) rfl (fun W h => by clear h; dsimp only [zS13]; go_simp <;> with_reducible rfl) ?_
   try simp only [zS13, Act.put, zzI, zzO, zzS]
   refine tkN 14 zS14 C0 rfl (by kernel_rfl) rfl ?_
   try simp only [zS14, Act.put, zzI, zzO, zzS]
   refine tkN 15 zS15 C0 rfl (by kernel_rfl) rfl ?_
   try simp only [zS15, Act.put, zzI, zzO, zzS]
   refine tkN 16 zS16 C0 rfl (by kernel_rfl) rfl ?_
   try simp only [zS16, Act.put, zzI, zzO, zzS]
   refine tkN 17 zS17 C0 rfl (by kernel_rfl) rfl ?_
   try simp only [zS17, Act.put, zzI, zzO, zzS]
   refine tkN 18 zS18 C0 rfl (by kernel_rfl) rfl ?_
   try simp only [zS18, Act.put, zzI, zzO, zzS]
   refine tkN 19 zS19 C0 rfl (by kernel_rfl) rfl ?_
   try simp only [zS19, Act.put, zzI, zzO, zzS]
   refine tkN 20 zS20 C0 rfl (by kernel_rfl) rfl ?_
   try simp only [zS20, Act.put, zzI, zzO, zzS]
   refine tkN 21 zS21 C0 rfl (by kernel_rfl) rfl ?_
   try simp only [zS21, Act.put, zzI, zzO, zzS]
   refine tkN 22 zS22 C0 rfl (by kernel_rfl) rfl ?_
   try simp only [zS22, Act.put, zzI, zzO, zzS]
   refine tkN 23 zS23 C0 rfl (by kernel_rfl) rfl ?_
   try simp only [zS23, Act.put, zzI, zzO, zzS]
   refine tkN 24 zS24 C0 rfl (by kernel_rfl) rfl ?_
   try simp only [zS24, Act.put, zzI, zzO, zzS]
   refine tkN 25 zS25 C0 rfl (by kernel_rfl) rfl ?_
   try simp only [zS25, Act.put, zzI, zzO, zzS]
   refine tkN 26 zS26 C0 rfl (by kernel_rfl) rfl ?_
   try simp only [zS26, Act.put, zzI, zzO, zzS]
   refine tkN 27 zS27 C0 rfl (by kernel_rfl) rfl ?_
   try simp only [zS27, Act.put, zzI, zzO, zzS]
   refine tkN 28 zS28 C0 rfl (by kernel_rfl) rfl ?_
   try simp only [zS28, Act.put, zzI, zzO, zzS]
   refine tkH 29 zS29 _ C0 rfl (by kernel_rfl) rfl (fun W h => by clear h; dsimp only [zS29]; go_simp <;> with_reducible rfl) ?_
   try simp only [zS29, Act.put, zzI, zzO, zzS]
   refine tkH 30 zS30 _ C0 rfl (by kernel_rfl) rfl (fun W h => by clear h; dsimp only [zS30]; go_simp <;> with_reducible rfl) ?_
   try simp only [zS30, Act.put, zzI, zzO, zzS]
   have CE := Lib.hid C0
   refine wpAnyH_done (by kernel_rfl) ?_ _
   refine NoPanic.normal ?_
   go_wp2
   go_ret
   rw [HR.out]
   exact ⟨rfl, ⟨ρ, m, (CE.out).1, (CE.out).2.1, I0.out, fun k hk => N0.out k (Nat.le_trans (CE.out).2.2.size hk)⟩, CE.out.2.2⟩
 ·
  skip
  have bo4 : (((o : Nat) : Int) == 4) = false := by simp; omega
  have jo4 : (((o : Nat) : Int) = 4) = False := eq_false (by omega)
  have ko4 : (o = 4) = False := eq_false (by omega)
  have do4 : decide (((o : Nat) : Int) = 4) = false := decide_eq_false (by omega)
  by_cases h8 : o = 8
  ·
   skip
   have bo8 : (((o : Nat) : Int) == 8) = true := by simp; omega
   have jo8 : (((o : Nat) : Int) = 8) = True := eq_true (by omega)
   have ko8 : (o = 8) = True := eq_true (by omega)
   have do8 : decide (((o : Nat) : Int) = 8) = true := decide_eq_true (by omega)
   by_cases h1 : n = 4
   ·
    skip
    have bn4 : (((n : Nat) : Int) == 4) = true := by simp; omega
    have jn4 : (((n : Nat) : Int) = 4) = True := eq_true (by omega)
    have kn4 : (n = 4) = True := eq_true (by omega)
    have dn4 : decide (((n : Nat) : Int) = 4) = true := decide_eq_true (by omega)
    by_cases hq : cl + (cn + 1) ≤ N
    ·
     have e1 : decide ((cl : Int) + ((cn : Int) + 1) ≤ (N : Int)) = true := decide_eq_true (by omega)
     have HR := Lib.hid (show j.rwrite g = (true, ({ j with count := j.count + 1 } : Jd)) by unfold Jd.rwrite; rw [if_neg (fun h => h4 (HOO.out.trans h.1)), decide_eq_true ⟨HOO.out.symm.trans h8, HN.out.symm.trans h1, by rw [← HCL.out, ← HCN.out, ← HNN.out]; exact hq⟩])
     clear h4 h8 h1 hq
     go_enter Try.func34, Try.ntmps34
     go_wp2_with fail
     try rw [← H1.out]
     clear x10 x11 x12 y12 f12
     refine wp_region_noPanic ?_
     refine wp_region_held_drew (S := fun w' => CRow w' p 41 (rjCells g ({ j with count := j.count + 1 } : Jd) m) ∧ RjR ρ w' p g ({ j with count := j.count + 1 } : Jd) m ∧ Btw I w w') (by kernel_rfl) ⟨CA.out.1.drew, CA.out.2.1.below ((Below.refl _ _).drew), CA.out.2.2.drew⟩ (fun C0 => ?_)
     refine tkH 0 zS0 _ C0 rfl (by kernel_rfl) rfl (fun W h => by clear h; dsimp only [zS0]; go_simp <;> with_reducible rfl) ?_
     try simp only [zS0, Act.put, zzI, zzO, zzS]
     refine tkH 1 zS1 _ C0 rfl (by kernel_rfl) rfl (fun W h => by clear h; dsimp only [zS1]; go_simp <;> with_reducible rfl) ?_
     try simp only [zS1, Act.put, zzI, zzO, zzS]
     refine tkH 2 zS2 _ C0 rfl (by kernel_rfl) rfl (fun W h => by clear h; dsimp only [zS2]; go_simp <;> with_reducible rfl) ?_
     try simp only [zS2, Act.put, zzI, zzO, zzS]
     refine tkH 3 zS3 _ C0 rfl (by kernel_rfl) rfl (fun W' hSw => by obtain ⟨hs, -, -⟩ := hSw; have x10 := XO.out W' hs; clear hs; dsimp only [zS3]; go_simp <;> with_reducible rfl) ?_
     try simp only [zS3, Act.put, zzI, zzO, zzS]
     refine tkH 4 zS4 _ C0 rfl (by kernel_rfl) rfl (fun W h => by clear h; dsimp only [zS4]; go_simp <;> with_reducible rfl) ?_
     try simp only [zS4, Act.put, zzI, zzO, zzS]
     refine tkH 5 zS5 _ C0 rfl (by kernel_rfl) rfl (fun W h => by clear h; dsimp only [zS5]; go_simp <;> with_reducible rfl) ?_
     try simp only [zS5, Act.put, zzI, zzO, zzS]
     refine tkH 6 zS6 _ C0 rfl (by kernel_rfl) rfl (fun W h => by clear h; dsimp only [zS6]; go_simp <;> with_reducible rfl) ?_
     try simp only [zS6, Act.put, zzI, zzO, zzS]
     refine tkH 7 zS7 _ C0 rfl (by kernel_rfl) rfl (fun W h => by clear h; dsimp only [zS7]; go_simp <;> with_reducible rfl) ?_
     try simp only [zS7, Act.put, zzI, zzO, zzS]
     refine tkH 8 zS8 _ C0 rfl (by kernel_rfl) rfl (fun W h => by clear h; dsimp only [zS8]; go_simp <;> with_reducible rfl) ?_
     try simp only [zS8, Act.put, zzI, zzO, zzS]
     refine tkH 9 zS9 _ C0 rfl (by kernel_rfl) rfl (fun W' hSw => by obtain ⟨hs, -, -⟩ := hSw; have x11 := XL.out W' hs; clear hs; dsimp only [zS9]; go_simp <;> with_reducible rfl) ?_
     try simp only [zS9, Act.put, zzI, zzO, zzS]
     refine tkH 10 zS10 _ C0 rfl (by kernel_rfl) rfl (fun W h => by clear h; dsimp only [zS10]; go_simp <;> with_reducible rfl) ?_
     try simp only [zS10, Act.put, zzI, zzO, zzS]
     refine tkH 11 zS11 _ C0 rfl (by kernel_rfl) rfl (fun W h => by clear h; dsimp only [zS11]; go_simp <;> with_reducible rfl) ?_
     try simp only [zS11, Act.put, zzI, zzO, zzS]
     refine tkH 12 zS12 _ C0 rfl (by kernel_rfl) rfl (fun W h => by clear h; dsimp only [zS12]; go_simp <;> with_reducible rfl) ?_
     try simp only [zS12, Act.put, zzI, zzO, zzS]
     refine tkH 13 zS13 _ C0 rfl (by kernel_rfl) rfl (fun W h => by clear h; dsimp only [zS13]; go_simp <;> with_reducible rfl) ?_
     try simp only [zS13, Act.put, zzI, zzO, zzS]
     refine tkH 14 zS14 _ C0 rfl (by kernel_rfl) rfl (fun W h => by clear h; dsimp only [zS14]; go_simp <;> with_reducible rfl) ?_
     try simp only [zS14, Act.put, zzI, zzO, zzS]
     refine tkH 15 zS15 _ C0 rfl (by kernel_rfl) rfl (fun W h => by clear h; dsimp only [zS15]; go_simp <;> with_reducible rfl) ?_
     try simp only [zS15, Act.put, zzI, zzO, zzS]
     refine tkH 16 zS16 _ C0 rfl (by kernel_rfl) rfl (fun W h => by clear h; dsimp only [zS16]; go_simp <;> with_reducible rfl) ?_
     try simp only [zS16, Act.put, zzI, zzO, zzS]
     refine tkH 17 zS17 _ C0 rfl (by kernel_rfl) rfl (fun W' hSw => by obtain ⟨hs, -, -⟩ := hSw; have x18 := XK.out W' hs; clear hs; dsimp only [zS17]; go_simp <;> with_reducible rfl) ?_
     try simp only [zS17, Act.put, zzI, zzO, zzS]
     refine tkH 18 zS18 _ C0 rfl (by kernel_rfl) rfl (fun W h => by clear h; dsimp only [zS18]; go_simp <;> with_reducible rfl) ?_
     try simp only [zS18, Act.put, zzI, zzO, zzS]
     refine tkH 19 zS19 _ C0 rfl (by kernel_rfl) rfl (fun W h => by clear h; dsimp only [zS19]; go_simp <;> with_reducible rfl) ?_
     try simp only [zS19, Act.put, zzI, zzO, zzS]
     refine tkH 20 zS20 _ C0 rfl (by kernel_rfl) rfl (fun W h => by clear h; dsimp only [zS20]; go_simp <;> with_reducible rfl) ?_
     try simp only [zS20, Act.put, zzI, zzO, zzS]
     refine tkH 21 zS21 _ C0 rfl (by kernel_rfl) rfl (fun W' hSw => by obtain ⟨hs, -, -⟩ := hSw; have x12 := XC.out W' hs; clear hs; dsimp only [zS21]; go_simp <;> with_reducible rfl) ?_
     try simp only [zS21, Act.put, zzI, zzO, zzS]
     refine tkH 22 zS22 _ C0 rfl (by kernel_rfl) rfl (fun W h => by clear h; dsimp only [zS22]; go_simp <;> with_reducible rfl) ?_
     try simp only [zS22, Act.put, zzI, zzO, zzS]
     refine tkH 23 zS23 _ C0 rfl (by kernel_rfl) rfl (fun W h => by clear h; dsimp only [zS23]; go_simp <;> with_reducible rfl) ?_
     try simp only [zS23, Act.put, zzI, zzO, zzS]
     refine tkH 24 zS24 _ C0 rfl (by kernel_rfl) rfl (fun W h => by clear h; dsimp only [zS24]; go_simp <;> with_reducible rfl) ?_
     try simp only [zS24, Act.put, zzI, zzO, zzS]
     refine tkH 25 zS25 _ C0 rfl (by kernel_rfl) rfl (fun W h => by clear h; dsimp only [zS25]; go_simp <;> with_reducible rfl) ?_
     try simp only [zS25, Act.put, zzI, zzO, zzS]
     refine tkH 26 zS26 _ C0 rfl (by kernel_rfl) rfl (fun W' hSw => by obtain ⟨hs, -, -⟩ := hSw; have g0 := hs.cell_at 0 (.int .i64 g.p) rfl; have g1 := hs.cell_at 1 (.int .i64 g.b) rfl; have g2 := hs.cell_at 2 (.int .i64 g.s) rfl; have g3 := hs.cell_at 3 (.int .i64 g.c) rfl; have g4 := hs.cell_at 4 (.int .i64 g.k) rfl; have g5 := hs.cell_at 5 (.int .i64 g.r) rfl; have g6 := hs.cell_at 6 (.int .i64 g.q) rfl; clear hs; dsimp only [zS26]; go_simp <;> with_reducible rfl) ?_
     try simp only [zS26, Act.put, zzI, zzO, zzS]
     refine wpAnyH_ready (rs := [27]) (by kernel_rfl) (by simp) ?_
     refine AllReadyH.cons (o := zSc0) rfl (fun K hK => ?_) AllReadyH.nil
     dsimp only [zSc0]
     go_simp
     refine (HRQ.out _).mono ?_
     rintro _ wz ⟨rfl, hz⟩
     have ZC1 := Lib.hid (show CRow wz p 41 (rjCells g ({ j with count := j.count + 1 } : Jd) m) ∧ RjR ρ wz p g ({ j with count := j.count + 1 } : Jd) m ∧ Btw I w wz from ⟨(C0).1.below hz, (C0).2.1.below hz, (C0).2.2.trans (Btw.of_below hz) fun _ _ h => h⟩)
     clear hz
     go_wp2_with fail
     refine hK.out _ _ ZC1.out (fun C1 => ?_)
     clear hK K
     try simp only [Act.put, zzI, zzO, zzS]
     refine tkH 28 zS28 _ C1 rfl (by kernel_rfl) rfl (fun W h => by clear h; dsimp only [zS28]; go_simp <;> with_reducible rfl) ?_
     try simp only [zS28, Act.put, zzI, zzO, zzS]
     refine tkH 29 zS29 _ C1 rfl (by kernel_rfl) rfl (fun W h => by clear h; dsimp only [zS29]; go_simp <;> with_reducible rfl) ?_
     try simp only [zS29, Act.put, zzI, zzO, zzS]
     refine tkH 30 zS30 _ C1 rfl (by kernel_rfl) rfl (fun W h => by clear h; dsimp only [zS30]; go_simp <;> with_reducible rfl) ?_
     try simp only [zS30, Act.put, zzI, zzO, zzS]
     have CE := Lib.hid C1
     refine wpAnyH_done (by kernel_rfl) ?_ _
     refine NoPanic.normal ?_
     go_wp2
     go_ret
     rw [HR.out]
     exact ⟨rfl, ⟨ρ, m, (CE.out).1, (CE.out).2.1, I0.out, fun k hk => N0.out k (Nat.le_trans (CE.out).2.2.size hk)⟩, CE.out.2.2⟩
    ·
     have e1 : decide ((cl : Int) + ((cn : Int) + 1) ≤ (N : Int)) = false := decide_eq_false (by omega)
     have HR := Lib.hid (show j.rwrite g = (false, ({ j with count := j.count + 1 } : Jd)) by unfold Jd.rwrite; rw [if_neg (fun h => h4 (HOO.out.trans h.1)), decide_eq_false (fun h => hq (by rw [HCL.out, HCN.out, HNN.out]; exact h.2.2))])
     clear h4 h8 h1 hq
     go_enter Try.func34, Try.ntmps34
     go_wp2_with fail
     try rw [← H1.out]
     clear x10 x11 x12 y12 f12
     refine wp_region_noPanic ?_
     refine wp_region_held_drew (S := fun w' => CRow w' p 41 (rjCells g ({ j with count := j.count + 1 } : Jd) m) ∧ RjR ρ w' p g ({ j with count := j.count + 1 } : Jd) m ∧ Btw I w w') (by kernel_rfl) ⟨CA.out.1.drew, CA.out.2.1.below ((Below.refl _ _).drew), CA.out.2.2.drew⟩ (fun C0 => ?_)
     refine tkH 0 zS0 _ C0 rfl (by kernel_rfl) rfl (fun W h => by clear h; dsimp only [zS0]; go_simp <;> with_reducible rfl) ?_
     try simp only [zS0, Act.put, zzI, zzO, zzS]
     refine tkH 1 zS1 _ C0 rfl (by kernel_rfl) rfl (fun W h => by clear h; dsimp only [zS1]; go_simp <;> with_reducible rfl) ?_
     try simp only [zS1, Act.put, zzI, zzO, zzS]
     refine tkH 2 zS2 _ C0 rfl (by kernel_rfl) rfl (fun W h => by clear h; dsimp only [zS2]; go_simp <;> with_reducible rfl) ?_
     try simp only [zS2, Act.put, zzI, zzO, zzS]
     refine tkH 3 zS3 _ C0 rfl (by kernel_rfl) rfl (fun W' hSw => by obtain ⟨hs, -, -⟩ := hSw; have x10 := XO.out W' hs; clear hs; dsimp only [zS3]; go_simp <;> with_reducible rfl) ?_
     try simp only [zS3, Act.put, zzI, zzO, zzS]
     refine tkH 4 zS4 _ C0 rfl (by kernel_rfl) rfl (fun W h => by clear h; dsimp only [zS4]; go_simp <;> with_reducible rfl) ?_
     try simp only [zS4, Act.put, zzI, zzO, zzS]
     refine tkH 5 zS5 _ C0 rfl (by kernel_rfl) rfl (fun W h => by clear h; dsimp only [zS5]; go_simp <;> with_reducible rfl) ?_
     try simp only [zS5, Act.put, zzI, zzO, zzS]
     refine tkH 6 zS6 _ C0 rfl (by kernel_rfl) rfl (fun W h => by clear h; dsimp only [zS6]; go_simp <;> with_reducible rfl) ?_
     try simp only [zS6, Act.put, zzI, zzO, zzS]
     refine tkH 7 zS7 _ C0 rfl (by kernel_rfl) rfl (fun W h => by clear h; dsimp only [zS7]; go_simp <;> with_reducible rfl) ?_
     try simp only [zS7, Act.put, zzI, zzO, zzS]
     refine tkH 8 zS8 _ C0 rfl (by kernel_rfl) rfl (fun W h => by clear h; dsimp only [zS8]; go_simp <;> with_reducible rfl) ?_
     try simp only [zS8, Act.put, zzI, zzO, zzS]
     refine tkH 9 zS9 _ C0 rfl (by kernel_rfl) rfl (fun W' hSw => by obtain ⟨hs, -, -⟩ := hSw; have x11 := XL.out W' hs; clear hs; dsimp only [zS9]; go_simp <;> with_reducible rfl) ?_
     try simp only [zS9, Act.put, zzI, zzO, zzS]
     refine tkH 10 zS10 _ C0 rfl (by kernel_rfl) rfl (fun W h => by clear h; dsimp only [zS10]; go_simp <;> with_reducible rfl) ?_
     try simp only [zS10, Act.put, zzI, zzO, zzS]
     refine tkH 11 zS11 _ C0 rfl (by kernel_rfl) rfl (fun W h => by clear h; dsimp only [zS11]; go_simp <;> with_reducible rfl) ?_
     try simp only [zS11, Act.put, zzI, zzO, zzS]
     refine tkH 12 zS12 _ C0 rfl (by kernel_rfl) rfl (fun W h => by clear h; dsimp only [zS12]; go_simp <;> with_reducible rfl) ?_
     try simp only [zS12, Act.put, zzI, zzO, zzS]
     refine tkH 13 zS13 _ C0 rfl (by kernel_rfl) rfl (fun W h => by clear h; dsimp only [zS13]; go_simp <;> with_reducible rfl) ?_
     try simp only [zS13, Act.put, zzI, zzO, zzS]
     refine tkH 14 zS14 _ C0 rfl (by kernel_rfl) rfl (fun W h => by clear h; dsimp only [zS14]; go_simp <;> with_reducible rfl) ?_
     try simp only [zS14, Act.put, zzI, zzO, zzS]
     refine tkH 15 zS15 _ C0 rfl (by kernel_rfl) rfl (fun W h => by clear h; dsimp only [zS15]; go_simp <;> with_reducible rfl) ?_
     try simp only [zS15, Act.put, zzI, zzO, zzS]
     refine tkH 16 zS16 _ C0 rfl (by kernel_rfl) rfl (fun W h => by clear h; dsimp only [zS16]; go_simp <;> with_reducible rfl) ?_
     try simp only [zS16, Act.put, zzI, zzO, zzS]
     refine tkH 17 zS17 _ C0 rfl (by kernel_rfl) rfl (fun W' hSw => by obtain ⟨hs, -, -⟩ := hSw; have x18 := XK.out W' hs; clear hs; dsimp only [zS17]; go_simp <;> with_reducible rfl) ?_
     try simp only [zS17, Act.put, zzI, zzO, zzS]
     refine tkH 18 zS18 _ C0 rfl (by kernel_rfl) rfl (fun W h => by clear h; dsimp only [zS18]; go_simp <;> with_reducible rfl) ?_
     try simp only [zS18, Act.put, zzI, zzO, zzS]
     refine tkH 19 zS19 _ C0 rfl (by kernel_rfl) rfl (fun W h => by clear h; dsimp only [zS19]; go_simp <;> with_reducible rfl) ?_
     try simp only [zS19, Act.put, zzI, zzO, zzS]
     refine tkH 20 zS20 _ C0 rfl (by kernel_rfl) rfl (fun W h => by clear h; dsimp only [zS20]; go_simp <;> with_reducible rfl) ?_
     try simp only [zS20, Act.put, zzI, zzO, zzS]
     refine tkH 21 zS21 _ C0 rfl (by kernel_rfl) rfl (fun W' hSw => by obtain ⟨hs, -, -⟩ := hSw; have x12 := XC.out W' hs; clear hs; dsimp only [zS21]; go_simp <;> with_reducible rfl) ?_
     try simp only [zS21, Act.put, zzI, zzO, zzS]
     refine tkH 22 zS22 _ C0 rfl (by kernel_rfl) rfl (fun W h => by clear h; dsimp only [zS22]; go_simp <;> with_reducible rfl) ?_
     try simp only [zS22, Act.put, zzI, zzO, zzS]
     refine tkH 23 zS23 _ C0 rfl (by kernel_rfl) rfl (fun W h => by clear h; dsimp only [zS23]; go_simp <;> with_reducible rfl) ?_
     try simp only [zS23, Act.put, zzI, zzO, zzS]
     refine tkH 24 zS24 _ C0 rfl (by kernel_rfl) rfl (fun W h => by clear h; dsimp only [zS24]; go_simp <;> with_reducible rfl) ?_
     try simp only [zS24, Act.put, zzI, zzO, zzS]
     refine tkH 25 zS25 _ C0 rfl (by kernel_rfl) rfl (fun W h => by clear h; dsimp only [zS25]; go_simp <;> with_reducible rfl) ?_
     try simp only [zS25, Act.put, zzI, zzO, zzS]
     refine tkH 26 zS26 _ C0 rfl (by kernel_rfl) rfl (fun W' hSw => by obtain ⟨hs, -, -⟩ := hSw; have g0 := hs.cell_at 0 (.int .i64 g.p) rfl; have g1 := hs.cell_at 1 (.int .i64 g.b) rfl; have g2 := hs.cell_at 2 (.int .i64 g.s) rfl; have g3 := hs.cell_at 3 (.int .i64 g.c) rfl; have g4 := hs.cell_at 4 (.int .i64 g.k) rfl; have g5 := hs.cell_at 5 (.int .i64 g.r) rfl; have g6 := hs.cell_at 6 (.int .i64 g.q) rfl; clear hs; dsimp only [zS26]; go_simp <;> with_reducible rfl) ?_
     try simp only [zS26, Act.put, zzI, zzO, zzS]
     refine wpAnyH_ready (rs := [27]) (by kernel_rfl) (by simp) ?_
     refine AllReadyH.cons (o := zSc0) rfl (fun K hK => ?_) AllReadyH.nil
     dsimp only [zSc0]
     go_simp
     refine (HRQ.out _).mono ?_
     rintro _ wz ⟨rfl, hz⟩
     have ZC1 := Lib.hid (show CRow wz p 41 (rjCells g ({ j with count := j.count + 1 } : Jd) m) ∧ RjR ρ wz p g ({ j with count := j.count + 1 } : Jd) m ∧ Btw I w wz from ⟨(C0).1.below hz, (C0).2.1.below hz, (C0).2.2.trans (Btw.of_below hz) fun _ _ h => h⟩)
     clear hz
     go_wp2_with fail
     refine hK.out _ _ ZC1.out (fun C1 => ?_)
     clear hK K
     try simp only [Act.put, zzI, zzO, zzS]
     refine tkH 28 zS28 _ C1 rfl (by kernel_rfl) rfl (fun W h => by clear h; dsimp only [zS28]; go_simp <;> with_reducible rfl) ?_
     try simp only [zS28, Act.put, zzI, zzO, zzS]
     refine tkH 29 zS29 _ C1 rfl (by kernel_rfl) rfl (fun W h => by clear h; dsimp only [zS29]; go_simp <;> with_reducible rfl) ?_
     try simp only [zS29, Act.put, zzI, zzO, zzS]
     refine tkH 30 zS30 _ C1 rfl (by kernel_rfl) rfl (fun W h => by clear h; dsimp only [zS30]; go_simp <;> with_reducible rfl) ?_
     try simp only [zS30, Act.put, zzI, zzO, zzS]
     have CE := Lib.hid C1
     refine wpAnyH_done (by kernel_rfl) ?_ _
     refine NoPanic.normal ?_
     go_wp2
     go_ret
     rw [HR.out]
     exact ⟨rfl, ⟨ρ, m, (CE.out).1, (CE.out).2.1, I0.out, fun k hk => N0.out k (Nat.le_trans (CE.out).2.2.size hk)⟩, CE.out.2.2⟩
   ·
    skip
    have bn4 : (((n : Nat) : Int) == 4) = false := by simp; omega
    have jn4 : (((n : Nat) : Int) = 4) = False := eq_false (by omega)
    have kn4 : (n = 4) = False := eq_false (by omega)
    have dn4 : decide (((n : Nat) : Int) = 4) = false := decide_eq_false (by omega)
    have HR := Lib.hid (show j.rwrite g = (false, ({ j with count := j.count + 1 } : Jd)) by unfold Jd.rwrite; rw [if_neg (fun h => h4 (HOO.out.trans h.1)), decide_eq_false (fun h => h1 (HN.out.trans h.2.1))])
    clear h4 h8 h1
    go_enter Try.func34, Try.ntmps34
    go_wp2_with fail
    try rw [← H1.out]
    clear x10 x11 x12 y12 f12
    refine wp_region_noPanic ?_
    refine wp_region_held_drew (S := fun w' => CRow w' p 41 (rjCells g ({ j with count := j.count + 1 } : Jd) m) ∧ RjR ρ w' p g ({ j with count := j.count + 1 } : Jd) m ∧ Btw I w w') (by kernel_rfl) ⟨CA.out.1.drew, CA.out.2.1.below ((Below.refl _ _).drew), CA.out.2.2.drew⟩ (fun C0 => ?_)
    refine tkH 0 zS0 _ C0 rfl (by kernel_rfl) rfl (fun W h => by clear h; dsimp only [zS0]; go_simp <;> with_reducible rfl) ?_
    try simp only [zS0, Act.put, zzI, zzO, zzS]
    refine tkH 1 zS1 _ C0 rfl (by kernel_rfl) rfl (fun W h => by clear h; dsimp only [zS1]; go_simp <;> with_reducible rfl) ?_
    try simp only [zS1, Act.put, zzI, zzO, zzS]
    refine tkH 2 zS2 _ C0 rfl (by kernel_rfl) rfl (fun W h => by clear h; dsimp only [zS2]; go_simp <;> with_reducible rfl) ?_
    try simp only [zS2, Act.put, zzI, zzO, zzS]
    refine tkH 3 zS3 _ C0 rfl (by kernel_rfl) rfl (fun W' hSw => by obtain ⟨hs, -, -⟩ := hSw; have x10 := XO.out W' hs; clear hs; dsimp only [zS3]; go_simp <;> with_reducible rfl) ?_
    try simp only [zS3, Act.put, zzI, zzO, zzS]
    refine tkH 4 zS4 _ C0 rfl (by kernel_rfl) rfl (fun W h => by clear h; dsimp only [zS4]; go_simp <;> with_reducible rfl) ?_
    try simp only [zS4, Act.put, zzI, zzO, zzS]
    refine tkH 5 zS5 _ C0 rfl (by kernel_rfl) rfl (fun W h => by clear h; dsimp only [zS5]; go_simp <;> with_reducible rfl) ?_
    try simp only [zS5, Act.put, zzI, zzO, zzS]
    refine tkH 6 zS6 _ C0 rfl (by kernel_rfl) rfl (fun W h => by clear h; dsimp only [zS6]; go_simp <;> with_reducible rfl) ?_
    try simp only [zS6, Act.put, zzI, zzO, zzS]
    refine tkH 7 zS7 _ C0 rfl (by kernel_rfl) rfl (fun W h => by clear h; dsimp only [zS7]; go_simp <;> with_reducible rfl) ?_
    try simp only [zS7, Act.put, zzI, zzO, zzS]
    refine tkH 8 zS8 _ C0 rfl (by kernel_rfl) rfl (fun W h => by clear h; dsimp only [zS8]; go_simp <;> with_reducible rfl) ?_
    try simp only [zS8, Act.put, zzI, zzO, zzS]
    refine tkH 9 zS9 _ C0 rfl (by kernel_rfl) rfl (fun W' hSw => by obtain ⟨hs, -, -⟩ := hSw; have x11 := XL.out W' hs; clear hs; dsimp only [zS9]; go_simp <;> with_reducible rfl) ?_
    try simp only [zS9, Act.put, zzI, zzO, zzS]
    refine tkH 10 zS10 _ C0 rfl (by kernel_rfl) rfl (fun W h => by clear h; dsimp only [zS10]; go_simp <;> with_reducible rfl) ?_
    try simp only [zS10, Act.put, zzI, zzO, zzS]
    refine tkH 11 zS11 _ C0 rfl (by kernel_rfl) rfl (fun W h => by clear h; dsimp only [zS11]; go_simp <;> with_reducible rfl) ?_
    try simp only [zS11, Act.put, zzI, zzO, zzS]
    refine tkH 12 zS12 _ C0 rfl (by kernel_rfl) rfl (fun W h => by clear h; dsimp only [zS12]; go_simp <;> with_reducible rfl) ?_
    try simp only [zS12, Act.put, zzI, zzO, zzS]
    refine tkH 13 zS13 _ C0 rfl (by kernel_rfl) rfl (fun W h => by clear h; dsimp only [zS13]; go_simp <;> with_reducible rfl) ?_
    try simp only [zS13, Act.put, zzI, zzO, zzS]
    refine tkN 14 zS14 C0 rfl (by kernel_rfl) rfl ?_
    try simp only [zS14, Act.put, zzI, zzO, zzS]
    refine tkN 15 zS15 C0 rfl (by kernel_rfl) rfl ?_
    try simp only [zS15, Act.put, zzI, zzO, zzS]
    refine tkN 16 zS16 C0 rfl (by kernel_rfl) rfl ?_
    try simp only [zS16, Act.put, zzI, zzO, zzS]
    refine tkN 17 zS17 C0 rfl (by kernel_rfl) rfl ?_
    try simp only [zS17, Act.put, zzI, zzO, zzS]
    refine tkN 18 zS18 C0 rfl (by kernel_rfl) rfl ?_
    try simp only [zS18, Act.put, zzI, zzO, zzS]
    refine tkN 19 zS19 C0 rfl (by kernel_rfl) rfl ?_
    try simp only [zS19, Act.put, zzI, zzO, zzS]
    refine tkN 20 zS20 C0 rfl (by kernel_rfl) rfl ?_
    try simp only [zS20, Act.put, zzI, zzO, zzS]
    refine tkN 21 zS21 C0 rfl (by kernel_rfl) rfl ?_
    try simp only [zS21, Act.put, zzI, zzO, zzS]
    refine tkN 22 zS22 C0 rfl (by kernel_rfl) rfl ?_
    try simp only [zS22, Act.put, zzI, zzO, zzS]
    refine tkN 23 zS23 C0 rfl (by kernel_rfl) rfl ?_
    try simp only [zS23, Act.put, zzI, zzO, zzS]
    refine tkN 24 zS24 C0 rfl (by kernel_rfl) rfl ?_
    try simp only [zS24, Act.put, zzI, zzO, zzS]
    refine tkN 25 zS25 C0 rfl (by kernel_rfl) rfl ?_
    try simp only [zS25, Act.put, zzI, zzO, zzS]
    refine tkN 26 zS26 C0 rfl (by kernel_rfl) rfl ?_
    try simp only [zS26, Act.put, zzI, zzO, zzS]
    refine tkN 27 zS27 C0 rfl (by kernel_rfl) rfl ?_
    try simp only [zS27, Act.put, zzI, zzO, zzS]
    refine tkN 28 zS28 C0 rfl (by kernel_rfl) rfl ?_
    try simp only [zS28, Act.put, zzI, zzO, zzS]
    refine tkH 29 zS29 _ C0 rfl (by kernel_rfl) rfl (fun W h => by clear h; dsimp only [zS29]; go_simp <;> with_reducible rfl) ?_
    try simp only [zS29, Act.put, zzI, zzO, zzS]
    refine tkH 30 zS30 _ C0 rfl (by kernel_rfl) rfl (fun W h => by clear h; dsimp only [zS30]; go_simp <;> with_reducible rfl) ?_
    try simp only [zS30, Act.put, zzI, zzO, zzS]
    have CE := Lib.hid C0
    refine wpAnyH_done (by kernel_rfl) ?_ _
    refine NoPanic.normal ?_
    go_wp2
    go_ret
    rw [HR.out]
    exact ⟨rfl, ⟨ρ, m, (CE.out).1, (CE.out).2.1, I0.out, fun k hk => N0.out k (Nat.le_trans (CE.out).2.2.size hk)⟩, CE.out.2.2⟩
  ·
   skip
   have bo8 : (((o : Nat) : Int) == 8) = false := by simp; omega
   have jo8 : (((o : Nat) : Int) = 8) = False := eq_false (by omega)
   have ko8 : (o = 8) = False := eq_false (by omega)
   have do8 : decide (((o : Nat) : Int) = 8) = false := decide_eq_false (by omega)
   have HR := Lib.hid (show j.rwrite g = (false, ({ j with count := j.count + 1 } : Jd)) by unfold Jd.rwrite; rw [if_neg (fun h => h4 (HOO.out.trans h.1)), decide_eq_false (fun h => h8 (HOO.out.trans h.1))])
   clear h4 h8
   go_enter Try.func34, Try.ntmps34
   go_wp2_with fail
   try rw [← H1.out]
   clear x10 x11 x12 y12 f12
   refine wp_region_noPanic ?_
   refine wp_region_held_drew (S := fun w' => CRow w' p 41 (rjCells g ({ j with count := j.count + 1 } : Jd) m) ∧ RjR ρ w' p g ({ j with count := j.count + 1 } : Jd) m ∧ Btw I w w') (by kernel_rfl) ⟨CA.out.1.drew, CA.out.2.1.below ((Below.refl _ _).drew), CA.out.2.2.drew⟩ (fun C0 => ?_)
   refine tkH 0 zS0 _ C0 rfl (by kernel_rfl) rfl (fun W h => by clear h; dsimp only [zS0]; go_simp <;> with_reducible rfl) ?_
   try simp only [zS0, Act.put, zzI, zzO, zzS]
   refine tkH 1 zS1 _ C0 rfl (by kernel_rfl) rfl (fun W h => by clear h; dsimp only [zS1]; go_simp <;> with_reducible rfl) ?_
   try simp only [zS1, Act.put, zzI, zzO, zzS]
   refine tkH 2 zS2 _ C0 rfl (by kernel_rfl) rfl (fun W h => by clear h; dsimp only [zS2]; go_simp <;> with_reducible rfl) ?_
   try simp only [zS2, Act.put, zzI, zzO, zzS]
   refine tkH 3 zS3 _ C0 rfl (by kernel_rfl) rfl (fun W' hSw => by obtain ⟨hs, -, -⟩ := hSw; have x10 := XO.out W' hs; clear hs; dsimp only [zS3]; go_simp <;> with_reducible rfl) ?_
   try simp only [zS3, Act.put, zzI, zzO, zzS]
   refine tkH 4 zS4 _ C0 rfl (by kernel_rfl) rfl (fun W h => by clear h; dsimp only [zS4]; go_simp <;> with_reducible rfl) ?_
   try simp only [zS4, Act.put, zzI, zzO, zzS]
   refine tkH 5 zS5 _ C0 rfl (by kernel_rfl) rfl (fun W h => by clear h; dsimp only [zS5]; go_simp <;> with_reducible rfl) ?_
   try simp only [zS5, Act.put, zzI, zzO, zzS]
   refine tkN 6 zS6 C0 rfl (by kernel_rfl) rfl ?_
   try simp only [zS6, Act.put, zzI, zzO, zzS]
   refine tkN 7 zS7 C0 rfl (by kernel_rfl) rfl ?_
   try simp only [zS7, Act.put, zzI, zzO, zzS]
   refine tkN 8 zS8 C0 rfl (by kernel_rfl) rfl ?_
   try simp only [zS8, Act.put, zzI, zzO, zzS]
   refine tkN 9 zS9 C0 rfl (by kernel_rfl) rfl ?_
   try simp only [zS9, Act.put, zzI, zzO, zzS]
   refine tkN 10 zS10 C0 rfl (by kernel_rfl) rfl ?_
   try simp only [zS10, Act.put, zzI, zzO, zzS]
   refine tkN 11 zS11 C0 rfl (by kernel_rfl) rfl ?_
   try simp only [zS11, Act.put, zzI, zzO, zzS]
   refine tkH 12 zS12 _ C0 rfl (by kernel_rfl) rfl (fun W h => by clear h; dsimp only [zS12]; go_simp <;> with_reducible rfl) ?_
   try simp only [zS12, Act.put, zzI, zzO, zzS]
   refine tkH 13 zS13 _ C0 rfl (by kernel_rfl) rfl (fun W h => by clear h; dsimp only [zS13]; go_simp <;> with_reducible rfl) ?_
   try simp only [zS13, Act.put, zzI, zzO, zzS]
   refine tkN 14 zS14 C0 rfl (by kernel_rfl) rfl ?_
   try simp only [zS14, Act.put, zzI, zzO, zzS]
   refine tkN 15 zS15 C0 rfl (by kernel_rfl) rfl ?_
   try simp only [zS15, Act.put, zzI, zzO, zzS]
   refine tkN 16 zS16 C0 rfl (by kernel_rfl) rfl ?_
   try simp only [zS16, Act.put, zzI, zzO, zzS]
   refine tkN 17 zS17 C0 rfl (by kernel_rfl) rfl ?_
   try simp only [zS17, Act.put, zzI, zzO, zzS]
   refine tkN 18 zS18 C0 rfl (by kernel_rfl) rfl ?_
   try simp only [zS18, Act.put, zzI, zzO, zzS]
   refine tkN 19 zS19 C0 rfl (by kernel_rfl) rfl ?_
   try simp only [zS19, Act.put, zzI, zzO, zzS]
   refine tkN 20 zS20 C0 rfl (by kernel_rfl) rfl ?_
   try simp only [zS20, Act.put, zzI, zzO, zzS]
   refine tkN 21 zS21 C0 rfl (by kernel_rfl) rfl ?_
   try simp only [zS21, Act.put, zzI, zzO, zzS]
   refine tkN 22 zS22 C0 rfl (by kernel_rfl) rfl ?_
   try simp only [zS22, Act.put, zzI, zzO, zzS]
   refine tkN 23 zS23 C0 rfl (by kernel_rfl) rfl ?_
   try simp only [zS23, Act.put, zzI, zzO, zzS]
   refine tkN 24 zS24 C0 rfl (by kernel_rfl) rfl ?_
   try simp only [zS24, Act.put, zzI, zzO, zzS]
   refine tkN 25 zS25 C0 rfl (by kernel_rfl) rfl ?_
   try simp only [zS25, Act.put, zzI, zzO, zzS]
   refine tkN 26 zS26 C0 rfl (by kernel_rfl) rfl ?_
   try simp only [zS26, Act.put, zzI, zzO, zzS]
   refine tkN 27 zS27 C0 rfl (by kernel_rfl) rfl ?_
   try simp only [zS27, Act.put, zzI, zzO, zzS]
   refine tkN 28 zS28 C0 rfl (by kernel_rfl) rfl ?_
   try simp only [zS28, Act.put, zzI, zzO, zzS]
   refine tkH 29 zS29 _ C0 rfl (by kernel_rfl) rfl (fun W h => by clear h; dsimp only [zS29]; go_simp <;> with_reducible rfl) ?_
   try simp only [zS29, Act.put, zzI, zzO, zzS]
   refine tkH 30 zS30 _ C0 rfl (by kernel_rfl) rfl (fun W h => by clear h; dsimp only [zS30]; go_simp <;> with_reducible rfl) ?_
   try simp only [zS30, Act.put, zzI, zzO, zzS]
   have CE := Lib.hid C0
   refine wpAnyH_done (by kernel_rfl) ?_ _
   refine NoPanic.normal ?_
   go_wp2
   go_ret
   rw [HR.out]
   exact ⟨rfl, ⟨ρ, m, (CE.out).1, (CE.out).2.1, I0.out, fun k hk => N0.out k (Nat.le_trans (CE.out).2.2.size hk)⟩, CE.out.2.2⟩
def Jd.rread (g : Gm) (j : Jd) : Bool × Jd :=
 if j.op = 2 ∧ j.listed.length = 1 then (decide (j.count + 1 ≤ 5), { j with count := j.count + 1 })
 else if j.op = 5 ∧ j.listed.length = 0 ∧ j.data = true then (decide (j.col + 1 ≤ g.raw.toNat), { j with op := 6, col := j.col + 1 })
 else (decide (j.op = 6 ∧ j.col + 1 ≤ g.raw.toNat), { j with col := j.col + 1 })
set_option maxHeartbeats 8000000 in
theorem rread (hl : j.listed.length ≤ 1000) (hct : j.count ≤ 1000000) (hco : j.col ≤ 1000000) (h : RJ I w p g j) : Calls Try.prog 35 #[.pointer (some ⟨p, 0, none⟩)] w (ActsR I p g (.bool (j.rread g).1) (j.rread g).2 w) := by
 have hg := h.ok
 obtain ⟨ρ, m, hc, hr, hi, hnw⟩ := h
 have C0 := Lib.hid hc
 have R0 := Lib.hid hr
 have I0 := Lib.hid hi
 have N0 := Lib.hid hnw
 have HRQ := Lib.hid (fun W => RefRaw_any g W hg)
 have hraw0 : 0 ≤ g.raw ∧ g.raw ≤ 9000 := by
  have hb := Gm.bounds_of hg
  have e7 : g.raw = g.c * (g.k + 2) + 31 := by unfold Gm.raw; rw [if_pos hg]
  have := mul_le (m := 16) (n := 514) (show 0 ≤ g.c by omega) (by omega) (show 0 ≤ g.k + 2 by omega) (by omega)
  omega
 obtain ⟨N, hN⟩ : ∃ N, N = g.raw.toNat := ⟨_, rfl⟩
 have HNN := Lib.hid hN
 have hraw : g.raw = (N : Int) := by rw [hN]; omega
 rw [hraw] at HRQ
 simp only [Gm.val] at HRQ
 obtain ⟨n, hn⟩ : ∃ n, n = j.listed.length := ⟨_, rfl⟩
 have HN := Lib.hid hn
 obtain ⟨o, ho⟩ : ∃ o, o = j.op := ⟨_, rfl⟩
 have HOO := Lib.hid ho
 obtain ⟨cn, hcn⟩ : ∃ cn, cn = j.count := ⟨_, rfl⟩
 have HCN := Lib.hid hcn
 obtain ⟨cl, hcl⟩ : ∃ cl, cl = j.col := ⟨_, rfl⟩
 have HCL := Lib.hid hcl
 obtain ⟨da, hda⟩ : ∃ da, da = j.data := ⟨_, rfl⟩
 have HDA := Lib.hid hda
 have LN : n ≤ 1000 := by omega
 have LCN : cn ≤ 1000000 := by omega
 have LCL : cl ≤ 1000000 := by omega
 have x10 : w.cell? ⟨p, 10, none⟩ = some (.int .i64 (o : Int)) := by rw [ho]; exact hc.cell_at 10 _ rfl
 have x11 : w.cell? ⟨p, 11, none⟩ = some (.slice m.aL n m.cL) := by rw [hn]; exact hc.cell_at 11 _ rfl
 have x12 : w.cell? ⟨p, 12, none⟩ = some (.int .i64 (cn : Int)) := by rw [hcn]; exact hc.cell_at 12 _ rfl
 have x17 : w.cell? ⟨p, 17, none⟩ = some (.bool da) := by rw [hda]; exact hc.cell_at 17 _ rfl
 have x18 : w.cell? ⟨p, 18, none⟩ = some (.int .i64 (cl : Int)) := by rw [hcl]; exact hc.cell_at 18 _ rfl
 have BB := Lib.hid (Btw.refl (I := I) w)
 clear hc hr hi hnw hg hraw0 hN hraw hn ho hcn hcl hda hl hct hco
 have wc : IntKind.i64.wrap ((cn : Int) + 1) = (cn : Int) + 1 := IntWalk.i64_in _ (by omega)
 have wk : IntKind.i64.wrap ((cl : Int) + 1) = (cl : Int) + 1 := IntWalk.i64_in _ (by omega)
 by_cases h21 : o = 2 ∧ n = 1
 ·
  obtain ⟨h2, h1⟩ := h21
  have bo2 : (((o : Nat) : Int) == 2) = true := by simp; omega
  have jo2 : (((o : Nat) : Int) = 2) = True := eq_true (by omega)
  have ko2 : (o = 2) = True := eq_true (by omega)
  have do2 : decide (((o : Nat) : Int) = 2) = true := decide_eq_true (by omega)
  have bn1 : (((n : Nat) : Int) == 1) = true := by simp; omega
  have jn1 : (((n : Nat) : Int) = 1) = True := eq_true (by omega)
  have kn1 : (n = 1) = True := eq_true (by omega)
  have dn1 : decide (((n : Nat) : Int) = 1) = true := decide_eq_true (by omega)
  have f12 := C0.out.frozen 12
  have S1 := Lib.hid (C0.out.setCell 12 (.int .i64 ((cn : Int) + 1)))
  have S1K := Lib.hid ((Btw.refl (I := fun k => k = p) w).setCell (p := ⟨p, 12, none⟩) (v := .int .i64 ((cn : Int) + 1)) rfl)
  have CA := Lib.hid (show CRow (w.setCell ⟨p, 12, none⟩ (.int .i64 ((cn : Int) + 1))) p 41 (rjCells g ({ j with count := j.count + 1 } : Jd) m) ∧ RjR ρ (w.setCell ⟨p, 12, none⟩ (.int .i64 ((cn : Int) + 1))) p g ({ j with count := j.count + 1 } : Jd) m ∧ Btw I w (w.setCell ⟨p, 12, none⟩ (.int .i64 ((cn : Int) + 1))) from
   ⟨by have h0 := S1.out; simpa [rjCells, HCN.out, HCL.out] using h0, (fun (h : RjR ρ _ p g j m) => ({ h with } : RjR ρ _ p g ({ j with count := j.count + 1 } : Jd) m)) (R0.out.btw S1K.out fun k e => .inr (by have e : k = p := e; rw [e]; exact R0.out.rp)), BB.out.trans S1K.out fun k _ e => I0.out k (by have e : k = p := e; rw [e, R0.out.rp]; decide)⟩)
  have y12 : (w.setCell ⟨p, 12, none⟩ (.int .i64 ((cn : Int) + 1))).cell? ⟨p, 12, none⟩ = some (.int .i64 ((cn : Int) + 1)) := by have h0 := CA.out.1.cell_at 12 (.int .i64 ((({ j with count := j.count + 1 } : Jd)).count : Int)) rfl; simpa [HCN.out] using h0
  by_cases hq : cn + 1 ≤ 5
  ·
   have e1 : decide ((cn : Int) + 1 ≤ 5) = true := decide_eq_true (by omega)
   have HR := Lib.hid (show j.rread g = (true, ({ j with count := j.count + 1 } : Jd)) by unfold Jd.rread; rw [if_pos ⟨HOO.out.symm.trans h2, HN.out.symm.trans h1⟩, decide_eq_true (by rw [← HCN.out]; exact hq)])
   clear h2 h1 hq
   go_enter Try.func35, Try.ntmps35
   go_wp2
   go_ret
   rw [HR.out]
   exact ⟨rfl, ⟨ρ, m, (CA.out).1, (CA.out).2.1, I0.out, fun k hk => N0.out k (Nat.le_trans (CA.out).2.2.size hk)⟩, CA.out.2.2⟩
  ·
   have e1 : decide ((cn : Int) + 1 ≤ 5) = false := decide_eq_false (by omega)
   have HR := Lib.hid (show j.rread g = (false, ({ j with count := j.count + 1 } : Jd)) by unfold Jd.rread; rw [if_pos ⟨HOO.out.symm.trans h2, HN.out.symm.trans h1⟩, decide_eq_false (by rw [← HCN.out]; exact hq)])
   clear h2 h1 hq
   go_enter Try.func35, Try.ntmps35
   go_wp2
   go_ret
   rw [HR.out]
   exact ⟨rfl, ⟨ρ, m, (CA.out).1, (CA.out).2.1, I0.out, fun k hk => N0.out k (Nat.le_trans (CA.out).2.2.size hk)⟩, CA.out.2.2⟩
 ·
  by_cases h5 : o = 5 ∧ n = 0 ∧ da = true
  ·
   obtain ⟨h5, h0, rfl⟩ := h5
   have bo5 : (((o : Nat) : Int) == 5) = true := by simp; omega
   have jo5 : (((o : Nat) : Int) = 5) = True := eq_true (by omega)
   have ko5 : (o = 5) = True := eq_true (by omega)
   have do5 : decide (((o : Nat) : Int) = 5) = true := decide_eq_true (by omega)
   have bo2 : (((o : Nat) : Int) == 2) = false := by simp; omega
   have jo2 : (((o : Nat) : Int) = 2) = False := eq_false (by omega)
   have ko2 : (o = 2) = False := eq_false (by omega)
   have do2 : decide (((o : Nat) : Int) = 2) = false := decide_eq_false (by omega)
   have bn0 : (((n : Nat) : Int) == 0) = true := by simp; omega
   have jn0 : (((n : Nat) : Int) = 0) = True := eq_true (by omega)
   have kn0 : (n = 0) = True := eq_true (by omega)
   have dn0 : decide (((n : Nat) : Int) = 0) = true := decide_eq_true (by omega)
   have bn1 : (((n : Nat) : Int) == 1) = false := by simp; omega
   have jn1 : (((n : Nat) : Int) = 1) = False := eq_false (by omega)
   have kn1 : (n = 1) = False := eq_false (by omega)
   have dn1 : decide (((n : Nat) : Int) = 1) = false := decide_eq_false (by omega)
   by_cases hq : cl + 1 ≤ N
   ·
    have e1 : decide ((cl : Int) + 1 ≤ (N : Int)) = true := decide_eq_true (by omega)
    have HR := Lib.hid (show j.rread g = (true, ({ j with op := 6, col := j.col + 1 } : Jd)) by unfold Jd.rread; rw [if_neg (fun h => h21 ⟨HOO.out.trans h.1, HN.out.trans h.2⟩), if_pos ⟨HOO.out.symm.trans h5, HN.out.symm.trans h0, HDA.out.symm⟩, decide_eq_true (by rw [← HCL.out, ← HNN.out]; exact hq)])
    clear h5 h0 h21 hq
    have f10 := C0.out.frozen 10
    have f10 := C0.out.frozen 10
    have S1 := Lib.hid (C0.out.setCell 10 (.int .i64 6))
    have S1K := Lib.hid ((Btw.refl (I := fun k => k = p) w).setCell (p := ⟨p, 10, none⟩) (v := .int .i64 6) rfl)
    have CA := Lib.hid (show CRow (w.setCell ⟨p, 10, none⟩ (.int .i64 6)) p 41 (rjCells g ({ j with op := 6 } : Jd) m) ∧ RjR ρ (w.setCell ⟨p, 10, none⟩ (.int .i64 6)) p g ({ j with op := 6 } : Jd) m ∧ Btw I w (w.setCell ⟨p, 10, none⟩ (.int .i64 6)) from
     ⟨by have h0 := S1.out; simpa [rjCells, HCN.out, HCL.out] using h0, (fun (h : RjR ρ _ p g j m) => ({ h with } : RjR ρ _ p g ({ j with op := 6 } : Jd) m)) (R0.out.btw S1K.out fun k e => .inr (by have e : k = p := e; rw [e]; exact R0.out.rp)), BB.out.trans S1K.out fun k _ e => I0.out k (by have e : k = p := e; rw [e, R0.out.rp]; decide)⟩)
    have y18 : (w.setCell ⟨p, 10, none⟩ (.int .i64 6)).cell? ⟨p, 18, none⟩ = some (.int .i64 (cl : Int)) := by have h0 := CA.out.1.cell_at 18 (.int .i64 ((({ j with op := 6 } : Jd)).col : Int)) rfl; simpa [HCL.out] using h0
    have f18 := CA.out.1.frozen 18
    have S2 := Lib.hid (CA.out.1.setCell 18 (.int .i64 ((cl : Int) + 1)))
    have S2K := Lib.hid ((Btw.refl (I := fun k => k = p) (w.setCell ⟨p, 10, none⟩ (.int .i64 6))).setCell (p := ⟨p, 18, none⟩) (v := .int .i64 ((cl : Int) + 1)) rfl)
    have CB := Lib.hid (show CRow ((w.setCell ⟨p, 10, none⟩ (.int .i64 6)).setCell ⟨p, 18, none⟩ (.int .i64 ((cl : Int) + 1))) p 41 (rjCells g ({ j with op := 6, col := j.col + 1 } : Jd) m) ∧ RjR ρ ((w.setCell ⟨p, 10, none⟩ (.int .i64 6)).setCell ⟨p, 18, none⟩ (.int .i64 ((cl : Int) + 1))) p g ({ j with op := 6, col := j.col + 1 } : Jd) m ∧ Btw I w ((w.setCell ⟨p, 10, none⟩ (.int .i64 6)).setCell ⟨p, 18, none⟩ (.int .i64 ((cl : Int) + 1))) from
     ⟨by have h0 := S2.out; simpa [rjCells, HCN.out, HCL.out] using h0, (fun (h : RjR ρ _ p g ({ j with op := 6 } : Jd) m) => ({ h with } : RjR ρ _ p g ({ j with op := 6, col := j.col + 1 } : Jd) m)) (CA.out.2.1.btw S2K.out fun k e => .inr (by have e : k = p := e; rw [e]; exact CA.out.2.1.rp)), CA.out.2.2.trans S2K.out fun k _ e => I0.out k (by have e : k = p := e; rw [e, CA.out.2.1.rp]; decide)⟩)
    go_enter Try.func35, Try.ntmps35
    obtain ⟨wb, hwb⟩ : ∃ wb, wb = (w.setCell ⟨p, 10, none⟩ (.int .i64 6)).setCell ⟨p, 18, none⟩ (.int .i64 ((cl : Int) + 1)) := ⟨_, rfl⟩
    rw [← hwb] at CB
    have HB := Lib.hid hwb
    clear hwb
    have XO := Lib.hid (show ∀ W, CRow W p 41 (rjCells g ({ j with op := 6, col := j.col + 1 } : Jd) m) → W.cell? ⟨p, 10, none⟩ = some (.int .i64 6) from fun W h => by have h0 := h.cell_at 10 (.int .i64 ((({ j with op := 6, col := j.col + 1 } : Jd)).op : Int)) rfl; simpa [HOO.out] using h0)
    have XL := Lib.hid (show ∀ W, CRow W p 41 (rjCells g ({ j with op := 6, col := j.col + 1 } : Jd) m) → W.cell? ⟨p, 11, none⟩ = some (.slice m.aL n m.cL) from fun W h => by have h0 := h.cell_at 11 (.slice m.aL (({ j with op := 6, col := j.col + 1 } : Jd)).listed.length m.cL) rfl; simpa [HN.out] using h0)
    have XK := Lib.hid (show ∀ W, CRow W p 41 (rjCells g ({ j with op := 6, col := j.col + 1 } : Jd) m) → W.cell? ⟨p, 18, none⟩ = some (.int .i64 ((cl : Int) + 1)) from fun W h => by have h0 := h.cell_at 18 (.int .i64 ((({ j with op := 6, col := j.col + 1 } : Jd)).col : Int)) rfl; simpa [HCL.out] using h0)
        
    go_wp2_with fail
    try rw [← HB.out]
    clear x10 x11 x12 x17 x18 y18 f18 f10
    refine wp_region_noPanic ?_
    refine wp_region_held_drew (S := fun w' => CRow w' p 41 (rjCells g ({ j with op := 6, col := j.col + 1 } : Jd) m) ∧ RjR ρ w' p g ({ j with op := 6, col := j.col + 1 } : Jd) m ∧ Btw I w w') (by kernel_rfl) ⟨CB.out.1.drew, CB.out.2.1.below ((Below.refl _ _).drew), CB.out.2.2.drew⟩ (fun C0 => ?_)
    refine tkH 0 zS31 _ C0 rfl (by kernel_rfl) rfl (fun W h => by clear h; dsimp only [zS31]; go_simp <;> with_reducible rfl) ?_
    try simp only [zS31, Act.put, zzI, zzO, zzS]
    refine tkH 1 zS32 _ C0 rfl (by kernel_rfl) rfl (fun W h => by clear h; dsimp only [zS32]; go_simp <;> with_reducible rfl) ?_
    try simp only [zS32, Act.put, zzI, zzO, zzS]
    refine tkH 2 zS33 _ C0 rfl (by kernel_rfl) rfl (fun W h => by clear h; dsimp only [zS33]; go_simp <;> with_reducible rfl) ?_
    try simp only [zS33, Act.put, zzI, zzO, zzS]
    refine tkH 3 zS34 _ C0 rfl (by kernel_rfl) rfl (fun W' hSw => by obtain ⟨hs, -, -⟩ := hSw; have x10 := XO.out W' hs; clear hs; dsimp only [zS34]; go_simp <;> with_reducible rfl) ?_
    try simp only [zS34, Act.put, zzI, zzO, zzS]
    refine tkH 4 zS35 _ C0 rfl (by kernel_rfl) rfl (fun W h => by clear h; dsimp only [zS35]; go_simp <;> with_reducible rfl) ?_
    try simp only [zS35, Act.put, zzI, zzO, zzS]
    refine tkH 5 zS36 _ C0 rfl (by kernel_rfl) rfl (fun W h => by clear h; dsimp only [zS36]; go_simp <;> with_reducible rfl) ?_
    try simp only [zS36, Act.put, zzI, zzO, zzS]
    refine tkH 6 zS37 _ C0 rfl (by kernel_rfl) rfl (fun W h => by clear h; dsimp only [zS37]; go_simp <;> with_reducible rfl) ?_
    try simp only [zS37, Act.put, zzI, zzO, zzS]
    refine tkH 7 zS38 _ C0 rfl (by kernel_rfl) rfl (fun W h => by clear h; dsimp only [zS38]; go_simp <;> with_reducible rfl) ?_
    try simp only [zS38, Act.put, zzI, zzO, zzS]
    refine tkH 8 zS39 _ C0 rfl (by kernel_rfl) rfl (fun W h => by clear h; dsimp only [zS39]; go_simp <;> with_reducible rfl) ?_
    try simp only [zS39, Act.put, zzI, zzO, zzS]
    refine tkH 9 zS40 _ C0 rfl (by kernel_rfl) rfl (fun W' hSw => by obtain ⟨hs, -, -⟩ := hSw; have x18 := XK.out W' hs; clear hs; dsimp only [zS40]; go_simp <;> with_reducible rfl) ?_
    try simp only [zS40, Act.put, zzI, zzO, zzS]
    refine tkH 10 zS41 _ C0 rfl (by kernel_rfl) rfl (fun W h => by clear h; dsimp only [zS41]; go_simp <;> with_reducible rfl) ?_
    try simp only [zS41, Act.put, zzI, zzO, zzS]
    refine tkH 11 zS42 _ C0 rfl (by kernel_rfl) rfl (fun W h => by clear h; dsimp only [zS42]; go_simp <;> with_reducible rfl) ?_
    try simp only [zS42, Act.put, zzI, zzO, zzS]
    refine tkH 12 zS43 _ C0 rfl (by kernel_rfl) rfl (fun W h => by clear h; dsimp only [zS43]; go_simp <;> with_reducible rfl) ?_
    try simp only [zS43, Act.put, zzI, zzO, zzS]
    refine tkH 13 zS44 _ C0 rfl (by kernel_rfl) rfl (fun W' hSw => by obtain ⟨hs, -, -⟩ := hSw; have g0 := hs.cell_at 0 (.int .i64 g.p) rfl; have g1 := hs.cell_at 1 (.int .i64 g.b) rfl; have g2 := hs.cell_at 2 (.int .i64 g.s) rfl; have g3 := hs.cell_at 3 (.int .i64 g.c) rfl; have g4 := hs.cell_at 4 (.int .i64 g.k) rfl; have g5 := hs.cell_at 5 (.int .i64 g.r) rfl; have g6 := hs.cell_at 6 (.int .i64 g.q) rfl; clear hs; dsimp only [zS44]; go_simp <;> with_reducible rfl) ?_
    try simp only [zS44, Act.put, zzI, zzO, zzS]
    refine wpAnyH_ready (rs := [14]) (by kernel_rfl) (by simp) ?_
    refine AllReadyH.cons (o := zSc1) rfl (fun K hK => ?_) AllReadyH.nil
    dsimp only [zSc1]
    go_simp
    refine (HRQ.out _).mono ?_
    rintro _ wz ⟨rfl, hz⟩
    have ZC1 := Lib.hid (show CRow wz p 41 (rjCells g ({ j with op := 6, col := j.col + 1 } : Jd) m) ∧ RjR ρ wz p g ({ j with op := 6, col := j.col + 1 } : Jd) m ∧ Btw I w wz from ⟨(C0).1.below hz, (C0).2.1.below hz, (C0).2.2.trans (Btw.of_below hz) fun _ _ h => h⟩)
    clear hz
    go_wp2_with fail
    refine hK.out _ _ ZC1.out (fun C1 => ?_)
    clear hK K
    try simp only [Act.put, zzI, zzO, zzS]
    refine tkH 15 zS45 _ C1 rfl (by kernel_rfl) rfl (fun W h => by clear h; dsimp only [zS45]; go_simp <;> with_reducible rfl) ?_
    try simp only [zS45, Act.put, zzI, zzO, zzS]
    refine tkH 16 zS46 _ C1 rfl (by kernel_rfl) rfl (fun W h => by clear h; dsimp only [zS46]; go_simp <;> with_reducible rfl) ?_
    try simp only [zS46, Act.put, zzI, zzO, zzS]
    refine tkH 17 zS47 _ C1 rfl (by kernel_rfl) rfl (fun W h => by clear h; dsimp only [zS47]; go_simp <;> with_reducible rfl) ?_
    try simp only [zS47, Act.put, zzI, zzO, zzS]
    have CE := Lib.hid C1
    refine wpAnyH_done (by kernel_rfl) ?_ _
    refine NoPanic.normal ?_
    go_wp2
    go_ret
    rw [HR.out]
    exact ⟨rfl, ⟨ρ, m, (CE.out).1, (CE.out).2.1, I0.out, fun k hk => N0.out k (Nat.le_trans (CE.out).2.2.size hk)⟩, CE.out.2.2⟩
   ·
    have e1 : decide ((cl : Int) + 1 ≤ (N : Int)) = false := decide_eq_false (by omega)
    have HR := Lib.hid (show j.rread g = (false, ({ j with op := 6, col := j.col + 1 } : Jd)) by unfold Jd.rread; rw [if_neg (fun h => h21 ⟨HOO.out.trans h.1, HN.out.trans h.2⟩), if_pos ⟨HOO.out.symm.trans h5, HN.out.symm.trans h0, HDA.out.symm⟩, decide_eq_false (by rw [← HCL.out, ← HNN.out]; exact hq)])
    clear h5 h0 h21 hq
    have f10 := C0.out.frozen 10
    have f10 := C0.out.frozen 10
    have S1 := Lib.hid (C0.out.setCell 10 (.int .i64 6))
    have S1K := Lib.hid ((Btw.refl (I := fun k => k = p) w).setCell (p := ⟨p, 10, none⟩) (v := .int .i64 6) rfl)
    have CA := Lib.hid (show CRow (w.setCell ⟨p, 10, none⟩ (.int .i64 6)) p 41 (rjCells g ({ j with op := 6 } : Jd) m) ∧ RjR ρ (w.setCell ⟨p, 10, none⟩ (.int .i64 6)) p g ({ j with op := 6 } : Jd) m ∧ Btw I w (w.setCell ⟨p, 10, none⟩ (.int .i64 6)) from
     ⟨by have h0 := S1.out; simpa [rjCells, HCN.out, HCL.out] using h0, (fun (h : RjR ρ _ p g j m) => ({ h with } : RjR ρ _ p g ({ j with op := 6 } : Jd) m)) (R0.out.btw S1K.out fun k e => .inr (by have e : k = p := e; rw [e]; exact R0.out.rp)), BB.out.trans S1K.out fun k _ e => I0.out k (by have e : k = p := e; rw [e, R0.out.rp]; decide)⟩)
    have y18 : (w.setCell ⟨p, 10, none⟩ (.int .i64 6)).cell? ⟨p, 18, none⟩ = some (.int .i64 (cl : Int)) := by have h0 := CA.out.1.cell_at 18 (.int .i64 ((({ j with op := 6 } : Jd)).col : Int)) rfl; simpa [HCL.out] using h0
    have f18 := CA.out.1.frozen 18
    have S2 := Lib.hid (CA.out.1.setCell 18 (.int .i64 ((cl : Int) + 1)))
    have S2K := Lib.hid ((Btw.refl (I := fun k => k = p) (w.setCell ⟨p, 10, none⟩ (.int .i64 6))).setCell (p := ⟨p, 18, none⟩) (v := .int .i64 ((cl : Int) + 1)) rfl)
    have CB := Lib.hid (show CRow ((w.setCell ⟨p, 10, none⟩ (.int .i64 6)).setCell ⟨p, 18, none⟩ (.int .i64 ((cl : Int) + 1))) p 41 (rjCells g ({ j with op := 6, col := j.col + 1 } : Jd) m) ∧ RjR ρ ((w.setCell ⟨p, 10, none⟩ (.int .i64 6)).setCell ⟨p, 18, none⟩ (.int .i64 ((cl : Int) + 1))) p g ({ j with op := 6, col := j.col + 1 } : Jd) m ∧ Btw I w ((w.setCell ⟨p, 10, none⟩ (.int .i64 6)).setCell ⟨p, 18, none⟩ (.int .i64 ((cl : Int) + 1))) from
     ⟨by have h0 := S2.out; simpa [rjCells, HCN.out, HCL.out] using h0, (fun (h : RjR ρ _ p g ({ j with op := 6 } : Jd) m) => ({ h with } : RjR ρ _ p g ({ j with op := 6, col := j.col + 1 } : Jd) m)) (CA.out.2.1.btw S2K.out fun k e => .inr (by have e : k = p := e; rw [e]; exact CA.out.2.1.rp)), CA.out.2.2.trans S2K.out fun k _ e => I0.out k (by have e : k = p := e; rw [e, CA.out.2.1.rp]; decide)⟩)
    go_enter Try.func35, Try.ntmps35
    obtain ⟨wb, hwb⟩ : ∃ wb, wb = (w.setCell ⟨p, 10, none⟩ (.int .i64 6)).setCell ⟨p, 18, none⟩ (.int .i64 ((cl : Int) + 1)) := ⟨_, rfl⟩
    rw [← hwb] at CB
    have HB := Lib.hid hwb
    clear hwb
    have XO := Lib.hid (show ∀ W, CRow W p 41 (rjCells g ({ j with op := 6, col := j.col + 1 } : Jd) m) → W.cell? ⟨p, 10, none⟩ = some (.int .i64 6) from fun W h => by have h0 := h.cell_at 10 (.int .i64 ((({ j with op := 6, col := j.col + 1 } : Jd)).op : Int)) rfl; simpa [HOO.out] using h0)
    have XL := Lib.hid (show ∀ W, CRow W p 41 (rjCells g ({ j with op := 6, col := j.col + 1 } : Jd) m) → W.cell? ⟨p, 11, none⟩ = some (.slice m.aL n m.cL) from fun W h => by have h0 := h.cell_at 11 (.slice m.aL (({ j with op := 6, col := j.col + 1 } : Jd)).listed.length m.cL) rfl; simpa [HN.out] using h0)
    have XK := Lib.hid (show ∀ W, CRow W p 41 (rjCells g ({ j with op := 6, col := j.col + 1 } : Jd) m) → W.cell? ⟨p, 18, none⟩ = some (.int .i64 ((cl : Int) + 1)) from fun W h => by have h0 := h.cell_at 18 (.int .i64 ((({ j with op := 6, col := j.col + 1 } : Jd)).col : Int)) rfl; simpa [HCL.out] using h0)
        
    go_wp2_with fail
    try rw [← HB.out]
    clear x10 x11 x12 x17 x18 y18 f18 f10
    refine wp_region_noPanic ?_
    refine wp_region_held_drew (S := fun w' => CRow w' p 41 (rjCells g ({ j with op := 6, col := j.col + 1 } : Jd) m) ∧ RjR ρ w' p g ({ j with op := 6, col := j.col + 1 } : Jd) m ∧ Btw I w w') (by kernel_rfl) ⟨CB.out.1.drew, CB.out.2.1.below ((Below.refl _ _).drew), CB.out.2.2.drew⟩ (fun C0 => ?_)
    refine tkH 0 zS31 _ C0 rfl (by kernel_rfl) rfl (fun W h => by clear h; dsimp only [zS31]; go_simp <;> with_reducible rfl) ?_
    try simp only [zS31, Act.put, zzI, zzO, zzS]
    refine tkH 1 zS32 _ C0 rfl (by kernel_rfl) rfl (fun W h => by clear h; dsimp only [zS32]; go_simp <;> with_reducible rfl) ?_
    try simp only [zS32, Act.put, zzI, zzO, zzS]
    refine tkH 2 zS33 _ C0 rfl (by kernel_rfl) rfl (fun W h => by clear h; dsimp only [zS33]; go_simp <;> with_reducible rfl) ?_
    try simp only [zS33, Act.put, zzI, zzO, zzS]
    refine tkH 3 zS34 _ C0 rfl (by kernel_rfl) rfl (fun W' hSw => by obtain ⟨hs, -, -⟩ := hSw; have x10 := XO.out W' hs; clear hs; dsimp only [zS34]; go_simp <;> with_reducible rfl) ?_
    try simp only [zS34, Act.put, zzI, zzO, zzS]
    refine tkH 4 zS35 _ C0 rfl (by kernel_rfl) rfl (fun W h => by clear h; dsimp only [zS35]; go_simp <;> with_reducible rfl) ?_
    try simp only [zS35, Act.put, zzI, zzO, zzS]
    refine tkH 5 zS36 _ C0 rfl (by kernel_rfl) rfl (fun W h => by clear h; dsimp only [zS36]; go_simp <;> with_reducible rfl) ?_
    try simp only [zS36, Act.put, zzI, zzO, zzS]
    refine tkH 6 zS37 _ C0 rfl (by kernel_rfl) rfl (fun W h => by clear h; dsimp only [zS37]; go_simp <;> with_reducible rfl) ?_
    try simp only [zS37, Act.put, zzI, zzO, zzS]
    refine tkH 7 zS38 _ C0 rfl (by kernel_rfl) rfl (fun W h => by clear h; dsimp only [zS38]; go_simp <;> with_reducible rfl) ?_
    try simp only [zS38, Act.put, zzI, zzO, zzS]
    refine tkH 8 zS39 _ C0 rfl (by kernel_rfl) rfl (fun W h => by clear h; dsimp only [zS39]; go_simp <;> with_reducible rfl) ?_
    try simp only [zS39, Act.put, zzI, zzO, zzS]
    refine tkH 9 zS40 _ C0 rfl (by kernel_rfl) rfl (fun W' hSw => by obtain ⟨hs, -, -⟩ := hSw; have x18 := XK.out W' hs; clear hs; dsimp only [zS40]; go_simp <;> with_reducible rfl) ?_
    try simp only [zS40, Act.put, zzI, zzO, zzS]
    refine tkH 10 zS41 _ C0 rfl (by kernel_rfl) rfl (fun W h => by clear h; dsimp only [zS41]; go_simp <;> with_reducible rfl) ?_
    try simp only [zS41, Act.put, zzI, zzO, zzS]
    refine tkH 11 zS42 _ C0 rfl (by kernel_rfl) rfl (fun W h => by clear h; dsimp only [zS42]; go_simp <;> with_reducible rfl) ?_
    try simp only [zS42, Act.put, zzI, zzO, zzS]
    refine tkH 12 zS43 _ C0 rfl (by kernel_rfl) rfl (fun W h => by clear h; dsimp only [zS43]; go_simp <;> with_reducible rfl) ?_
    try simp only [zS43, Act.put, zzI, zzO, zzS]
    refine tkH 13 zS44 _ C0 rfl (by kernel_rfl) rfl (fun W' hSw => by obtain ⟨hs, -, -⟩ := hSw; have g0 := hs.cell_at 0 (.int .i64 g.p) rfl; have g1 := hs.cell_at 1 (.int .i64 g.b) rfl; have g2 := hs.cell_at 2 (.int .i64 g.s) rfl; have g3 := hs.cell_at 3 (.int .i64 g.c) rfl; have g4 := hs.cell_at 4 (.int .i64 g.k) rfl; have g5 := hs.cell_at 5 (.int .i64 g.r) rfl; have g6 := hs.cell_at 6 (.int .i64 g.q) rfl; clear hs; dsimp only [zS44]; go_simp <;> with_reducible rfl) ?_
    try simp only [zS44, Act.put, zzI, zzO, zzS]
    refine wpAnyH_ready (rs := [14]) (by kernel_rfl) (by simp) ?_
    refine AllReadyH.cons (o := zSc1) rfl (fun K hK => ?_) AllReadyH.nil
    dsimp only [zSc1]
    go_simp
    refine (HRQ.out _).mono ?_
    rintro _ wz ⟨rfl, hz⟩
    have ZC1 := Lib.hid (show CRow wz p 41 (rjCells g ({ j with op := 6, col := j.col + 1 } : Jd) m) ∧ RjR ρ wz p g ({ j with op := 6, col := j.col + 1 } : Jd) m ∧ Btw I w wz from ⟨(C0).1.below hz, (C0).2.1.below hz, (C0).2.2.trans (Btw.of_below hz) fun _ _ h => h⟩)
    clear hz
    go_wp2_with fail
    refine hK.out _ _ ZC1.out (fun C1 => ?_)
    clear hK K
    try simp only [Act.put, zzI, zzO, zzS]
    refine tkH 15 zS45 _ C1 rfl (by kernel_rfl) rfl (fun W h => by clear h; dsimp only [zS45]; go_simp <;> with_reducible rfl) ?_
    try simp only [zS45, Act.put, zzI, zzO, zzS]
    refine tkH 16 zS46 _ C1 rfl (by kernel_rfl) rfl (fun W h => by clear h; dsimp only [zS46]; go_simp <;> with_reducible rfl) ?_
    try simp only [zS46, Act.put, zzI, zzO, zzS]
    refine tkH 17 zS47 _ C1 rfl (by kernel_rfl) rfl (fun W h => by clear h; dsimp only [zS47]; go_simp <;> with_reducible rfl) ?_
    try simp only [zS47, Act.put, zzI, zzO, zzS]
    have CE := Lib.hid C1
    refine wpAnyH_done (by kernel_rfl) ?_ _
    refine NoPanic.normal ?_
    go_wp2
    go_ret
    rw [HR.out]
    exact ⟨rfl, ⟨ρ, m, (CE.out).1, (CE.out).2.1, I0.out, fun k hk => N0.out k (Nat.le_trans (CE.out).2.2.size hk)⟩, CE.out.2.2⟩
  ·
   by_cases h6 : o = 6
   ·
    skip
    have bo6 : (((o : Nat) : Int) == 6) = true := by simp; omega
    have jo6 : (((o : Nat) : Int) = 6) = True := eq_true (by omega)
    have ko6 : (o = 6) = True := eq_true (by omega)
    have do6 : decide (((o : Nat) : Int) = 6) = true := decide_eq_true (by omega)
    have bo2 : (((o : Nat) : Int) == 2) = false := by simp; omega
    have jo2 : (((o : Nat) : Int) = 2) = False := eq_false (by omega)
    have ko2 : (o = 2) = False := eq_false (by omega)
    have do2 : decide (((o : Nat) : Int) = 2) = false := decide_eq_false (by omega)
    have bo5 : (((o : Nat) : Int) == 5) = false := by simp; omega
    have jo5 : (((o : Nat) : Int) = 5) = False := eq_false (by omega)
    have ko5 : (o = 5) = False := eq_false (by omega)
    have do5 : decide (((o : Nat) : Int) = 5) = false := decide_eq_false (by omega)
    by_cases hq : cl + 1 ≤ N
    ·
     have e1 : decide ((cl : Int) + 1 ≤ (N : Int)) = true := decide_eq_true (by omega)
     have HR := Lib.hid (show j.rread g = (true, ({ j with col := j.col + 1 } : Jd)) by unfold Jd.rread; rw [if_neg (fun h => h21 ⟨HOO.out.trans h.1, HN.out.trans h.2⟩), if_neg (fun h => h5 ⟨HOO.out.trans h.1, HN.out.trans h.2.1, HDA.out.trans h.2.2⟩), decide_eq_true ⟨HOO.out.symm.trans h6, by rw [← HCL.out, ← HNN.out]; exact hq⟩])
     clear h5 h21 h6 hq
     have f18 := C0.out.frozen 18
     have S2 := Lib.hid (C0.out.setCell 18 (.int .i64 ((cl : Int) + 1)))
     have S2K := Lib.hid ((Btw.refl (I := fun k => k = p) w).setCell (p := ⟨p, 18, none⟩) (v := .int .i64 ((cl : Int) + 1)) rfl)
     have CB := Lib.hid (show CRow (w.setCell ⟨p, 18, none⟩ (.int .i64 ((cl : Int) + 1))) p 41 (rjCells g ({ j with col := j.col + 1 } : Jd) m) ∧ RjR ρ (w.setCell ⟨p, 18, none⟩ (.int .i64 ((cl : Int) + 1))) p g ({ j with col := j.col + 1 } : Jd) m ∧ Btw I w (w.setCell ⟨p, 18, none⟩ (.int .i64 ((cl : Int) + 1))) from
      ⟨by have h0 := S2.out; simpa [rjCells, HCN.out, HCL.out] using h0, (fun (h : RjR ρ _ p g j m) => ({ h with } : RjR ρ _ p g ({ j with col := j.col + 1 } : Jd) m)) (R0.out.btw S2K.out fun k e => .inr (by have e : k = p := e; rw [e]; exact R0.out.rp)), BB.out.trans S2K.out fun k _ e => I0.out k (by have e : k = p := e; rw [e, R0.out.rp]; decide)⟩)
     go_enter Try.func35, Try.ntmps35
     obtain ⟨wb, hwb⟩ : ∃ wb, wb = w.setCell ⟨p, 18, none⟩ (.int .i64 ((cl : Int) + 1)) := ⟨_, rfl⟩
     rw [← hwb] at CB
     have HB := Lib.hid hwb
     clear hwb
     have XO := Lib.hid (show ∀ W, CRow W p 41 (rjCells g ({ j with col := j.col + 1 } : Jd) m) → W.cell? ⟨p, 10, none⟩ = some (.int .i64 (o : Int)) from fun W h => by have h0 := h.cell_at 10 (.int .i64 ((({ j with col := j.col + 1 } : Jd)).op : Int)) rfl; simpa [HOO.out] using h0)
     have XL := Lib.hid (show ∀ W, CRow W p 41 (rjCells g ({ j with col := j.col + 1 } : Jd) m) → W.cell? ⟨p, 11, none⟩ = some (.slice m.aL n m.cL) from fun W h => by have h0 := h.cell_at 11 (.slice m.aL (({ j with col := j.col + 1 } : Jd)).listed.length m.cL) rfl; simpa [HN.out] using h0)
     have XK := Lib.hid (show ∀ W, CRow W p 41 (rjCells g ({ j with col := j.col + 1 } : Jd) m) → W.cell? ⟨p, 18, none⟩ = some (.int .i64 ((cl : Int) + 1)) from fun W h => by have h0 := h.cell_at 18 (.int .i64 ((({ j with col := j.col + 1 } : Jd)).col : Int)) rfl; simpa [HCL.out] using h0)
          
     go_wp2_with fail
     try rw [← HB.out]
     clear x10 x11 x12 x17 x18 f18
     refine wp_region_noPanic ?_
     refine wp_region_held_drew (S := fun w' => CRow w' p 41 (rjCells g ({ j with col := j.col + 1 } : Jd) m) ∧ RjR ρ w' p g ({ j with col := j.col + 1 } : Jd) m ∧ Btw I w w') (by kernel_rfl) ⟨CB.out.1.drew, CB.out.2.1.below ((Below.refl _ _).drew), CB.out.2.2.drew⟩ (fun C0 => ?_)
     refine tkH 0 zS31 _ C0 rfl (by kernel_rfl) rfl (fun W h => by clear h; dsimp only [zS31]; go_simp <;> with_reducible rfl) ?_
     try simp only [zS31, Act.put, zzI, zzO, zzS]
     refine tkH 1 zS32 _ C0 rfl (by kernel_rfl) rfl (fun W h => by clear h; dsimp only [zS32]; go_simp <;> with_reducible rfl) ?_
     try simp only [zS32, Act.put, zzI, zzO, zzS]
     refine tkH 2 zS33 _ C0 rfl (by kernel_rfl) rfl (fun W h => by clear h; dsimp only [zS33]; go_simp <;> with_reducible rfl) ?_
     try simp only [zS33, Act.put, zzI, zzO, zzS]
     refine tkH 3 zS34 _ C0 rfl (by kernel_rfl) rfl (fun W' hSw => by obtain ⟨hs, -, -⟩ := hSw; have x10 := XO.out W' hs; clear hs; dsimp only [zS34]; go_simp <;> with_reducible rfl) ?_
     try simp only [zS34, Act.put, zzI, zzO, zzS]
     refine tkH 4 zS35 _ C0 rfl (by kernel_rfl) rfl (fun W h => by clear h; dsimp only [zS35]; go_simp <;> with_reducible rfl) ?_
     try simp only [zS35, Act.put, zzI, zzO, zzS]
     refine tkH 5 zS36 _ C0 rfl (by kernel_rfl) rfl (fun W h => by clear h; dsimp only [zS36]; go_simp <;> with_reducible rfl) ?_
     try simp only [zS36, Act.put, zzI, zzO, zzS]
     refine tkH 6 zS37 _ C0 rfl (by kernel_rfl) rfl (fun W h => by clear h; dsimp only [zS37]; go_simp <;> with_reducible rfl) ?_
     try simp only [zS37, Act.put, zzI, zzO, zzS]
     refine tkH 7 zS38 _ C0 rfl (by kernel_rfl) rfl (fun W h => by clear h; dsimp only [zS38]; go_simp <;> with_reducible rfl) ?_
     try simp only [zS38, Act.put, zzI, zzO, zzS]
     refine tkH 8 zS39 _ C0 rfl (by kernel_rfl) rfl (fun W h => by clear h; dsimp only [zS39]; go_simp <;> with_reducible rfl) ?_
     try simp only [zS39, Act.put, zzI, zzO, zzS]
     refine tkH 9 zS40 _ C0 rfl (by kernel_rfl) rfl (fun W' hSw => by obtain ⟨hs, -, -⟩ := hSw; have x18 := XK.out W' hs; clear hs; dsimp only [zS40]; go_simp <;> with_reducible rfl) ?_
     try simp only [zS40, Act.put, zzI, zzO, zzS]
     refine tkH 10 zS41 _ C0 rfl (by kernel_rfl) rfl (fun W h => by clear h; dsimp only [zS41]; go_simp <;> with_reducible rfl) ?_
     try simp only [zS41, Act.put, zzI, zzO, zzS]
     refine tkH 11 zS42 _ C0 rfl (by kernel_rfl) rfl (fun W h => by clear h; dsimp only [zS42]; go_simp <;> with_reducible rfl) ?_
     try simp only [zS42, Act.put, zzI, zzO, zzS]
     refine tkH 12 zS43 _ C0 rfl (by kernel_rfl) rfl (fun W h => by clear h; dsimp only [zS43]; go_simp <;> with_reducible rfl) ?_
     try simp only [zS43, Act.put, zzI, zzO, zzS]
     refine tkH 13 zS44 _ C0 rfl (by kernel_rfl) rfl (fun W' hSw => by obtain ⟨hs, -, -⟩ := hSw; have g0 := hs.cell_at 0 (.int .i64 g.p) rfl; have g1 := hs.cell_at 1 (.int .i64 g.b) rfl; have g2 := hs.cell_at 2 (.int .i64 g.s) rfl; have g3 := hs.cell_at 3 (.int .i64 g.c) rfl; have g4 := hs.cell_at 4 (.int .i64 g.k) rfl; have g5 := hs.cell_at 5 (.int .i64 g.r) rfl; have g6 := hs.cell_at 6 (.int .i64 g.q) rfl; clear hs; dsimp only [zS44]; go_simp <;> with_reducible rfl) ?_
     try simp only [zS44, Act.put, zzI, zzO, zzS]
     refine wpAnyH_ready (rs := [14]) (by kernel_rfl) (by simp) ?_
     refine AllReadyH.cons (o := zSc1) rfl (fun K hK => ?_) AllReadyH.nil
     dsimp only [zSc1]
     go_simp
     refine (HRQ.out _).mono ?_
     rintro _ wz ⟨rfl, hz⟩
     have ZC1 := Lib.hid (show CRow wz p 41 (rjCells g ({ j with col := j.col + 1 } : Jd) m) ∧ RjR ρ wz p g ({ j with col := j.col + 1 } : Jd) m ∧ Btw I w wz from ⟨(C0).1.below hz, (C0).2.1.below hz, (C0).2.2.trans (Btw.of_below hz) fun _ _ h => h⟩)
     clear hz
     go_wp2_with fail
     refine hK.out _ _ ZC1.out (fun C1 => ?_)
     clear hK K
     try simp only [Act.put, zzI, zzO, zzS]
     refine tkH 15 zS45 _ C1 rfl (by kernel_rfl) rfl (fun W h => by clear h; dsimp only [zS45]; go_simp <;> with_reducible rfl) ?_
     try simp only [zS45, Act.put, zzI, zzO, zzS]
     refine tkH 16 zS46 _ C1 rfl (by kernel_rfl) rfl (fun W h => by clear h; dsimp only [zS46]; go_simp <;> with_reducible rfl) ?_
     try simp only [zS46, Act.put, zzI, zzO, zzS]
     refine tkH 17 zS47 _ C1 rfl (by kernel_rfl) rfl (fun W h => by clear h; dsimp only [zS47]; go_simp <;> with_reducible rfl) ?_
     try simp only [zS47, Act.put, zzI, zzO, zzS]
     have CE := Lib.hid C1
     refine wpAnyH_done (by kernel_rfl) ?_ _
     refine NoPanic.normal ?_
     go_wp2
     go_ret
     rw [HR.out]
     exact ⟨rfl, ⟨ρ, m, (CE.out).1, (CE.out).2.1, I0.out, fun k hk => N0.out k (Nat.le_trans (CE.out).2.2.size hk)⟩, CE.out.2.2⟩
    ·
     have e1 : decide ((cl : Int) + 1 ≤ (N : Int)) = false := decide_eq_false (by omega)
     have HR := Lib.hid (show j.rread g = (false, ({ j with col := j.col + 1 } : Jd)) by unfold Jd.rread; rw [if_neg (fun h => h21 ⟨HOO.out.trans h.1, HN.out.trans h.2⟩), if_neg (fun h => h5 ⟨HOO.out.trans h.1, HN.out.trans h.2.1, HDA.out.trans h.2.2⟩), decide_eq_false (fun h => hq (by rw [HCL.out, HNN.out]; exact h.2))])
     clear h5 h21 h6 hq
     have f18 := C0.out.frozen 18
     have S2 := Lib.hid (C0.out.setCell 18 (.int .i64 ((cl : Int) + 1)))
     have S2K := Lib.hid ((Btw.refl (I := fun k => k = p) w).setCell (p := ⟨p, 18, none⟩) (v := .int .i64 ((cl : Int) + 1)) rfl)
     have CB := Lib.hid (show CRow (w.setCell ⟨p, 18, none⟩ (.int .i64 ((cl : Int) + 1))) p 41 (rjCells g ({ j with col := j.col + 1 } : Jd) m) ∧ RjR ρ (w.setCell ⟨p, 18, none⟩ (.int .i64 ((cl : Int) + 1))) p g ({ j with col := j.col + 1 } : Jd) m ∧ Btw I w (w.setCell ⟨p, 18, none⟩ (.int .i64 ((cl : Int) + 1))) from
      ⟨by have h0 := S2.out; simpa [rjCells, HCN.out, HCL.out] using h0, (fun (h : RjR ρ _ p g j m) => ({ h with } : RjR ρ _ p g ({ j with col := j.col + 1 } : Jd) m)) (R0.out.btw S2K.out fun k e => .inr (by have e : k = p := e; rw [e]; exact R0.out.rp)), BB.out.trans S2K.out fun k _ e => I0.out k (by have e : k = p := e; rw [e, R0.out.rp]; decide)⟩)
     go_enter Try.func35, Try.ntmps35
     obtain ⟨wb, hwb⟩ : ∃ wb, wb = w.setCell ⟨p, 18, none⟩ (.int .i64 ((cl : Int) + 1)) := ⟨_, rfl⟩
     rw [← hwb] at CB
     have HB := Lib.hid hwb
     clear hwb
     have XO := Lib.hid (show ∀ W, CRow W p 41 (rjCells g ({ j with col := j.col + 1 } : Jd) m) → W.cell? ⟨p, 10, none⟩ = some (.int .i64 (o : Int)) from fun W h => by have h0 := h.cell_at 10 (.int .i64 ((({ j with col := j.col + 1 } : Jd)).op : Int)) rfl; simpa [HOO.out] using h0)
     have XL := Lib.hid (show ∀ W, CRow W p 41 (rjCells g ({ j with col := j.col + 1 } : Jd) m) → W.cell? ⟨p, 11, none⟩ = some (.slice m.aL n m.cL) from fun W h => by have h0 := h.cell_at 11 (.slice m.aL (({ j with col := j.col + 1 } : Jd)).listed.length m.cL) rfl; simpa [HN.out] using h0)
     have XK := Lib.hid (show ∀ W, CRow W p 41 (rjCells g ({ j with col := j.col + 1 } : Jd) m) → W.cell? ⟨p, 18, none⟩ = some (.int .i64 ((cl : Int) + 1)) from fun W h => by have h0 := h.cell_at 18 (.int .i64 ((({ j with col := j.col + 1 } : Jd)).col : Int)) rfl; simpa [HCL.out] using h0)
          
     go_wp2_with fail
     try rw [← HB.out]
     clear x10 x11 x12 x17 x18 f18
     refine wp_region_noPanic ?_
     refine wp_region_held_drew (S := fun w' => CRow w' p 41 (rjCells g ({ j with col := j.col + 1 } : Jd) m) ∧ RjR ρ w' p g ({ j with col := j.col + 1 } : Jd) m ∧ Btw I w w') (by kernel_rfl) ⟨CB.out.1.drew, CB.out.2.1.below ((Below.refl _ _).drew), CB.out.2.2.drew⟩ (fun C0 => ?_)
     refine tkH 0 zS31 _ C0 rfl (by kernel_rfl) rfl (fun W h => by clear h; dsimp only [zS31]; go_simp <;> with_reducible rfl) ?_
     try simp only [zS31, Act.put, zzI, zzO, zzS]
     refine tkH 1 zS32 _ C0 rfl (by kernel_rfl) rfl (fun W h => by clear h; dsimp only [zS32]; go_simp <;> with_reducible rfl) ?_
     try simp only [zS32, Act.put, zzI, zzO, zzS]
     refine tkH 2 zS33 _ C0 rfl (by kernel_rfl) rfl (fun W h => by clear h; dsimp only [zS33]; go_simp <;> with_reducible rfl) ?_
     try simp only [zS33, Act.put, zzI, zzO, zzS]
     refine tkH 3 zS34 _ C0 rfl (by kernel_rfl) rfl (fun W' hSw => by obtain ⟨hs, -, -⟩ := hSw; have x10 := XO.out W' hs; clear hs; dsimp only [zS34]; go_simp <;> with_reducible rfl) ?_
     try simp only [zS34, Act.put, zzI, zzO, zzS]
     refine tkH 4 zS35 _ C0 rfl (by kernel_rfl) rfl (fun W h => by clear h; dsimp only [zS35]; go_simp <;> with_reducible rfl) ?_
     try simp only [zS35, Act.put, zzI, zzO, zzS]
     refine tkH 5 zS36 _ C0 rfl (by kernel_rfl) rfl (fun W h => by clear h; dsimp only [zS36]; go_simp <;> with_reducible rfl) ?_
     try simp only [zS36, Act.put, zzI, zzO, zzS]
     refine tkH 6 zS37 _ C0 rfl (by kernel_rfl) rfl (fun W h => by clear h; dsimp only [zS37]; go_simp <;> with_reducible rfl) ?_
     try simp only [zS37, Act.put, zzI, zzO, zzS]
     refine tkH 7 zS38 _ C0 rfl (by kernel_rfl) rfl (fun W h => by clear h; dsimp only [zS38]; go_simp <;> with_reducible rfl) ?_
     try simp only [zS38, Act.put, zzI, zzO, zzS]
     refine tkH 8 zS39 _ C0 rfl (by kernel_rfl) rfl (fun W h => by clear h; dsimp only [zS39]; go_simp <;> with_reducible rfl) ?_
     try simp only [zS39, Act.put, zzI, zzO, zzS]
     refine tkH 9 zS40 _ C0 rfl (by kernel_rfl) rfl (fun W' hSw => by obtain ⟨hs, -, -⟩ := hSw; have x18 := XK.out W' hs; clear hs; dsimp only [zS40]; go_simp <;> with_reducible rfl) ?_
     try simp only [zS40, Act.put, zzI, zzO, zzS]
     refine tkH 10 zS41 _ C0 rfl (by kernel_rfl) rfl (fun W h => by clear h; dsimp only [zS41]; go_simp <;> with_reducible rfl) ?_
     try simp only [zS41, Act.put, zzI, zzO, zzS]
     refine tkH 11 zS42 _ C0 rfl (by kernel_rfl) rfl (fun W h => by clear h; dsimp only [zS42]; go_simp <;> with_reducible rfl) ?_
     try simp only [zS42, Act.put, zzI, zzO, zzS]
     refine tkH 12 zS43 _ C0 rfl (by kernel_rfl) rfl (fun W h => by clear h; dsimp only [zS43]; go_simp <;> with_reducible rfl) ?_
     try simp only [zS43, Act.put, zzI, zzO, zzS]
     refine tkH 13 zS44 _ C0 rfl (by kernel_rfl) rfl (fun W' hSw => by obtain ⟨hs, -, -⟩ := hSw; have g0 := hs.cell_at 0 (.int .i64 g.p) rfl; have g1 := hs.cell_at 1 (.int .i64 g.b) rfl; have g2 := hs.cell_at 2 (.int .i64 g.s) rfl; have g3 := hs.cell_at 3 (.int .i64 g.c) rfl; have g4 := hs.cell_at 4 (.int .i64 g.k) rfl; have g5 := hs.cell_at 5 (.int .i64 g.r) rfl; have g6 := hs.cell_at 6 (.int .i64 g.q) rfl; clear hs; dsimp only [zS44]; go_simp <;> with_reducible rfl) ?_
     try simp only [zS44, Act.put, zzI, zzO, zzS]
     refine wpAnyH_ready (rs := [14]) (by kernel_rfl) (by simp) ?_
     refine AllReadyH.cons (o := zSc1) rfl (fun K hK => ?_) AllReadyH.nil
     dsimp only [zSc1]
     go_simp
     refine (HRQ.out _).mono ?_
     rintro _ wz ⟨rfl, hz⟩
     have ZC1 := Lib.hid (show CRow wz p 41 (rjCells g ({ j with col := j.col + 1 } : Jd) m) ∧ RjR ρ wz p g ({ j with col := j.col + 1 } : Jd) m ∧ Btw I w wz from ⟨(C0).1.below hz, (C0).2.1.below hz, (C0).2.2.trans (Btw.of_below hz) fun _ _ h => h⟩)
     clear hz
     go_wp2_with fail
     refine hK.out _ _ ZC1.out (fun C1 => ?_)
     clear hK K
     try simp only [Act.put, zzI, zzO, zzS]
     refine tkH 15 zS45 _ C1 rfl (by kernel_rfl) rfl (fun W h => by clear h; dsimp only [zS45]; go_simp <;> with_reducible rfl) ?_
     try simp only [zS45, Act.put, zzI, zzO, zzS]
     refine tkH 16 zS46 _ C1 rfl (by kernel_rfl) rfl (fun W h => by clear h; dsimp only [zS46]; go_simp <;> with_reducible rfl) ?_
     try simp only [zS46, Act.put, zzI, zzO, zzS]
     refine tkH 17 zS47 _ C1 rfl (by kernel_rfl) rfl (fun W h => by clear h; dsimp only [zS47]; go_simp <;> with_reducible rfl) ?_
     try simp only [zS47, Act.put, zzI, zzO, zzS]
     have CE := Lib.hid C1
     refine wpAnyH_done (by kernel_rfl) ?_ _
     refine NoPanic.normal ?_
     go_wp2
     go_ret
     rw [HR.out]
     exact ⟨rfl, ⟨ρ, m, (CE.out).1, (CE.out).2.1, I0.out, fun k hk => N0.out k (Nat.le_trans (CE.out).2.2.size hk)⟩, CE.out.2.2⟩
   ·
    have HR := Lib.hid (show j.rread g = (false, ({ j with col := j.col + 1 } : Jd)) by unfold Jd.rread; rw [if_neg (fun h => h21 ⟨HOO.out.trans h.1, HN.out.trans h.2⟩), if_neg (fun h => h5 ⟨HOO.out.trans h.1, HN.out.trans h.2.1, HDA.out.trans h.2.2⟩), decide_eq_false (fun h => h6 (HOO.out.trans h.1))])
    have bo6 : (((o : Nat) : Int) == 6) = false := by simp; omega
    have jo6 : (((o : Nat) : Int) = 6) = False := eq_false (by omega)
    have ko6 : (o = 6) = False := eq_false (by omega)
    have do6 : decide (((o : Nat) : Int) = 6) = false := decide_eq_false (by omega)
    by_cases h2 : o = 2
    ·
     have h1 : n ≠ 1 := fun e => h21 ⟨h2, e⟩
     have bo2 : (((o : Nat) : Int) == 2) = true := by simp; omega
     have jo2 : (((o : Nat) : Int) = 2) = True := eq_true (by omega)
     have ko2 : (o = 2) = True := eq_true (by omega)
     have do2 : decide (((o : Nat) : Int) = 2) = true := decide_eq_true (by omega)
     have bn1 : (((n : Nat) : Int) == 1) = false := by simp; omega
     have jn1 : (((n : Nat) : Int) = 1) = False := eq_false (by omega)
     have kn1 : (n = 1) = False := eq_false (by omega)
     have dn1 : decide (((n : Nat) : Int) = 1) = false := decide_eq_false (by omega)
     have bo5 : (((o : Nat) : Int) == 5) = false := by simp; omega
     have jo5 : (((o : Nat) : Int) = 5) = False := eq_false (by omega)
     have ko5 : (o = 5) = False := eq_false (by omega)
     have do5 : decide (((o : Nat) : Int) = 5) = false := decide_eq_false (by omega)
     clear h2 h1 h21 h5 h6
     have f18 := C0.out.frozen 18
     have S2 := Lib.hid (C0.out.setCell 18 (.int .i64 ((cl : Int) + 1)))
     have S2K := Lib.hid ((Btw.refl (I := fun k => k = p) w).setCell (p := ⟨p, 18, none⟩) (v := .int .i64 ((cl : Int) + 1)) rfl)
     have CB := Lib.hid (show CRow (w.setCell ⟨p, 18, none⟩ (.int .i64 ((cl : Int) + 1))) p 41 (rjCells g ({ j with col := j.col + 1 } : Jd) m) ∧ RjR ρ (w.setCell ⟨p, 18, none⟩ (.int .i64 ((cl : Int) + 1))) p g ({ j with col := j.col + 1 } : Jd) m ∧ Btw I w (w.setCell ⟨p, 18, none⟩ (.int .i64 ((cl : Int) + 1))) from
      ⟨by have h0 := S2.out; simpa [rjCells, HCN.out, HCL.out] using h0, (fun (h : RjR ρ _ p g j m) => ({ h with } : RjR ρ _ p g ({ j with col := j.col + 1 } : Jd) m)) (R0.out.btw S2K.out fun k e => .inr (by have e : k = p := e; rw [e]; exact R0.out.rp)), BB.out.trans S2K.out fun k _ e => I0.out k (by have e : k = p := e; rw [e, R0.out.rp]; decide)⟩)
     go_enter Try.func35, Try.ntmps35
     obtain ⟨wb, hwb⟩ : ∃ wb, wb = w.setCell ⟨p, 18, none⟩ (.int .i64 ((cl : Int) + 1)) := ⟨_, rfl⟩
     rw [← hwb] at CB
     have HB := Lib.hid hwb
     clear hwb
     have XO := Lib.hid (show ∀ W, CRow W p 41 (rjCells g ({ j with col := j.col + 1 } : Jd) m) → W.cell? ⟨p, 10, none⟩ = some (.int .i64 (o : Int)) from fun W h => by have h0 := h.cell_at 10 (.int .i64 ((({ j with col := j.col + 1 } : Jd)).op : Int)) rfl; simpa [HOO.out] using h0)
     have XL := Lib.hid (show ∀ W, CRow W p 41 (rjCells g ({ j with col := j.col + 1 } : Jd) m) → W.cell? ⟨p, 11, none⟩ = some (.slice m.aL n m.cL) from fun W h => by have h0 := h.cell_at 11 (.slice m.aL (({ j with col := j.col + 1 } : Jd)).listed.length m.cL) rfl; simpa [HN.out] using h0)
     have XK := Lib.hid (show ∀ W, CRow W p 41 (rjCells g ({ j with col := j.col + 1 } : Jd) m) → W.cell? ⟨p, 18, none⟩ = some (.int .i64 ((cl : Int) + 1)) from fun W h => by have h0 := h.cell_at 18 (.int .i64 ((({ j with col := j.col + 1 } : Jd)).col : Int)) rfl; simpa [HCL.out] using h0)
          
     go_wp2_with fail
     try rw [← HB.out]
     clear x10 x11 x12 x17 x18 f18
     refine wp_region_noPanic ?_
     refine wp_region_held_drew (S := fun w' => CRow w' p 41 (rjCells g ({ j with col := j.col + 1 } : Jd) m) ∧ RjR ρ w' p g ({ j with col := j.col + 1 } : Jd) m ∧ Btw I w w') (by kernel_rfl) ⟨CB.out.1.drew, CB.out.2.1.below ((Below.refl _ _).drew), CB.out.2.2.drew⟩ (fun C0 => ?_)
     refine tkH 0 zS31 _ C0 rfl (by kernel_rfl) rfl (fun W h => by clear h; dsimp only [zS31]; go_simp <;> with_reducible rfl) ?_
     try simp only [zS31, Act.put, zzI, zzO, zzS]
     refine tkH 1 zS32 _ C0 rfl (by kernel_rfl) rfl (fun W h => by clear h; dsimp only [zS32]; go_simp <;> with_reducible rfl) ?_
     try simp only [zS32, Act.put, zzI, zzO, zzS]
     refine tkH 2 zS33 _ C0 rfl (by kernel_rfl) rfl (fun W h => by clear h; dsimp only [zS33]; go_simp <;> with_reducible rfl) ?_
     try simp only [zS33, Act.put, zzI, zzO, zzS]
     refine tkH 3 zS34 _ C0 rfl (by kernel_rfl) rfl (fun W' hSw => by obtain ⟨hs, -, -⟩ := hSw; have x10 := XO.out W' hs; clear hs; dsimp only [zS34]; go_simp <;> with_reducible rfl) ?_
     try simp only [zS34, Act.put, zzI, zzO, zzS]
     refine tkH 4 zS35 _ C0 rfl (by kernel_rfl) rfl (fun W h => by clear h; dsimp only [zS35]; go_simp <;> with_reducible rfl) ?_
     try simp only [zS35, Act.put, zzI, zzO, zzS]
     refine tkH 5 zS36 _ C0 rfl (by kernel_rfl) rfl (fun W h => by clear h; dsimp only [zS36]; go_simp <;> with_reducible rfl) ?_
     try simp only [zS36, Act.put, zzI, zzO, zzS]
     refine tkN 6 zS37 C0 rfl (by kernel_rfl) rfl ?_
     try simp only [zS37, Act.put, zzI, zzO, zzS]
     refine tkN 7 zS38 C0 rfl (by kernel_rfl) rfl ?_
     try simp only [zS38, Act.put, zzI, zzO, zzS]
     refine tkN 8 zS39 C0 rfl (by kernel_rfl) rfl ?_
     try simp only [zS39, Act.put, zzI, zzO, zzS]
     refine tkN 9 zS40 C0 rfl (by kernel_rfl) rfl ?_
     try simp only [zS40, Act.put, zzI, zzO, zzS]
     refine tkN 10 zS41 C0 rfl (by kernel_rfl) rfl ?_
     try simp only [zS41, Act.put, zzI, zzO, zzS]
     refine tkN 11 zS42 C0 rfl (by kernel_rfl) rfl ?_
     try simp only [zS42, Act.put, zzI, zzO, zzS]
     refine tkN 12 zS43 C0 rfl (by kernel_rfl) rfl ?_
     try simp only [zS43, Act.put, zzI, zzO, zzS]
     refine tkN 13 zS44 C0 rfl (by kernel_rfl) rfl ?_
     try simp only [zS44, Act.put, zzI, zzO, zzS]
     refine tkN 14 zS48 C0 rfl (by kernel_rfl) rfl ?_
     try simp only [zS48, Act.put, zzI, zzO, zzS]
     refine tkN 15 zS45 C0 rfl (by kernel_rfl) rfl ?_
     try simp only [zS45, Act.put, zzI, zzO, zzS]
     refine tkH 16 zS46 _ C0 rfl (by kernel_rfl) rfl (fun W h => by clear h; dsimp only [zS46]; go_simp <;> with_reducible rfl) ?_
     try simp only [zS46, Act.put, zzI, zzO, zzS]
     refine tkH 17 zS47 _ C0 rfl (by kernel_rfl) rfl (fun W h => by clear h; dsimp only [zS47]; go_simp <;> with_reducible rfl) ?_
     try simp only [zS47, Act.put, zzI, zzO, zzS]
     have CE := Lib.hid C0
     refine wpAnyH_done (by kernel_rfl) ?_ _
     refine NoPanic.normal ?_
     go_wp2
     go_ret
     rw [HR.out]
     exact ⟨rfl, ⟨ρ, m, (CE.out).1, (CE.out).2.1, I0.out, fun k hk => N0.out k (Nat.le_trans (CE.out).2.2.size hk)⟩, CE.out.2.2⟩
    ·
     skip
     have bo2 : (((o : Nat) : Int) == 2) = false := by simp; omega
     have jo2 : (((o : Nat) : Int) = 2) = False := eq_false (by omega)
     have ko2 : (o = 2) = False := eq_false (by omega)
     have do2 : decide (((o : Nat) : Int) = 2) = false := decide_eq_false (by omega)
     by_cases h55 : o = 5
     ·
      skip
      have bo5 : (((o : Nat) : Int) == 5) = true := by simp; omega
      have jo5 : (((o : Nat) : Int) = 5) = True := eq_true (by omega)
      have ko5 : (o = 5) = True := eq_true (by omega)
      have do5 : decide (((o : Nat) : Int) = 5) = true := decide_eq_true (by omega)
      by_cases h0 : n = 0
      ·
       obtain rfl : da = false := by
        cases da with
        | true => exact absurd ⟨h55, h0, rfl⟩ h5
        | false => rfl
       have bn0 : (((n : Nat) : Int) == 0) = true := by simp; omega
       have jn0 : (((n : Nat) : Int) = 0) = True := eq_true (by omega)
       have kn0 : (n = 0) = True := eq_true (by omega)
       have dn0 : decide (((n : Nat) : Int) = 0) = true := decide_eq_true (by omega)
       clear h0 h55 h2 h21 h5 h6
       have f18 := C0.out.frozen 18
       have S2 := Lib.hid (C0.out.setCell 18 (.int .i64 ((cl : Int) + 1)))
       have S2K := Lib.hid ((Btw.refl (I := fun k => k = p) w).setCell (p := ⟨p, 18, none⟩) (v := .int .i64 ((cl : Int) + 1)) rfl)
       have CB := Lib.hid (show CRow (w.setCell ⟨p, 18, none⟩ (.int .i64 ((cl : Int) + 1))) p 41 (rjCells g ({ j with col := j.col + 1 } : Jd) m) ∧ RjR ρ (w.setCell ⟨p, 18, none⟩ (.int .i64 ((cl : Int) + 1))) p g ({ j with col := j.col + 1 } : Jd) m ∧ Btw I w (w.setCell ⟨p, 18, none⟩ (.int .i64 ((cl : Int) + 1))) from
        ⟨by have h0 := S2.out; simpa [rjCells, HCN.out, HCL.out] using h0, (fun (h : RjR ρ _ p g j m) => ({ h with } : RjR ρ _ p g ({ j with col := j.col + 1 } : Jd) m)) (R0.out.btw S2K.out fun k e => .inr (by have e : k = p := e; rw [e]; exact R0.out.rp)), BB.out.trans S2K.out fun k _ e => I0.out k (by have e : k = p := e; rw [e, R0.out.rp]; decide)⟩)
       go_enter Try.func35, Try.ntmps35
       obtain ⟨wb, hwb⟩ : ∃ wb, wb = w.setCell ⟨p, 18, none⟩ (.int .i64 ((cl : Int) + 1)) := ⟨_, rfl⟩
       rw [← hwb] at CB
       have HB := Lib.hid hwb
       clear hwb
       have XO := Lib.hid (show ∀ W, CRow W p 41 (rjCells g ({ j with col := j.col + 1 } : Jd) m) → W.cell? ⟨p, 10, none⟩ = some (.int .i64 (o : Int)) from fun W h => by have h0 := h.cell_at 10 (.int .i64 ((({ j with col := j.col + 1 } : Jd)).op : Int)) rfl; simpa [HOO.out] using h0)
       have XL := Lib.hid (show ∀ W, CRow W p 41 (rjCells g ({ j with col := j.col + 1 } : Jd) m) → W.cell? ⟨p, 11, none⟩ = some (.slice m.aL n m.cL) from fun W h => by have h0 := h.cell_at 11 (.slice m.aL (({ j with col := j.col + 1 } : Jd)).listed.length m.cL) rfl; simpa [HN.out] using h0)
       have XK := Lib.hid (show ∀ W, CRow W p 41 (rjCells g ({ j with col := j.col + 1 } : Jd) m) → W.cell? ⟨p, 18, none⟩ = some (.int .i64 ((cl : Int) + 1)) from fun W h => by have h0 := h.cell_at 18 (.int .i64 ((({ j with col := j.col + 1 } : Jd)).col : Int)) rfl; simpa [HCL.out] using h0)
              
       go_wp2_with fail
       try rw [← HB.out]
       clear x10 x11 x12 x17 x18 f18
       refine wp_region_noPanic ?_
       refine wp_region_held_drew (S := fun w' => CRow w' p 41 (rjCells g ({ j with col := j.col + 1 } : Jd) m) ∧ RjR ρ w' p g ({ j with col := j.col + 1 } : Jd) m ∧ Btw I w w') (by kernel_rfl) ⟨CB.out.1.drew, CB.out.2.1.below ((Below.refl _ _).drew), CB.out.2.2.drew⟩ (fun C0 => ?_)
       refine tkH 0 zS31 _ C0 rfl (by kernel_rfl) rfl (fun W h => by clear h; dsimp only [zS31]; go_simp <;> with_reducible rfl) ?_
       try simp only [zS31, Act.put, zzI, zzO, zzS]
       refine tkH 1 zS32 _ C0 rfl (by kernel_rfl) rfl (fun W h => by clear h; dsimp only [zS32]; go_simp <;> with_reducible rfl) ?_
       try simp only [zS32, Act.put, zzI, zzO, zzS]
       refine tkH 2 zS33 _ C0 rfl (by kernel_rfl) rfl (fun W h => by clear h; dsimp only [zS33]; go_simp <;> with_reducible rfl) ?_
       try simp only [zS33, Act.put, zzI, zzO, zzS]
       refine tkH 3 zS34 _ C0 rfl (by kernel_rfl) rfl (fun W' hSw => by obtain ⟨hs, -, -⟩ := hSw; have x10 := XO.out W' hs; clear hs; dsimp only [zS34]; go_simp <;> with_reducible rfl) ?_
       try simp only [zS34, Act.put, zzI, zzO, zzS]
       refine tkH 4 zS35 _ C0 rfl (by kernel_rfl) rfl (fun W h => by clear h; dsimp only [zS35]; go_simp <;> with_reducible rfl) ?_
       try simp only [zS35, Act.put, zzI, zzO, zzS]
       refine tkH 5 zS36 _ C0 rfl (by kernel_rfl) rfl (fun W h => by clear h; dsimp only [zS36]; go_simp <;> with_reducible rfl) ?_
       try simp only [zS36, Act.put, zzI, zzO, zzS]
       refine tkN 6 zS37 C0 rfl (by kernel_rfl) rfl ?_
       try simp only [zS37, Act.put, zzI, zzO, zzS]
       refine tkN 7 zS38 C0 rfl (by kernel_rfl) rfl ?_
       try simp only [zS38, Act.put, zzI, zzO, zzS]
       refine tkN 8 zS39 C0 rfl (by kernel_rfl) rfl ?_
       try simp only [zS39, Act.put, zzI, zzO, zzS]
       refine tkN 9 zS40 C0 rfl (by kernel_rfl) rfl ?_
       try simp only [zS40, Act.put, zzI, zzO, zzS]
       refine tkN 10 zS41 C0 rfl (by kernel_rfl) rfl ?_
       try simp only [zS41, Act.put, zzI, zzO, zzS]
       refine tkN 11 zS42 C0 rfl (by kernel_rfl) rfl ?_
       try simp only [zS42, Act.put, zzI, zzO, zzS]
       refine tkN 12 zS43 C0 rfl (by kernel_rfl) rfl ?_
       try simp only [zS43, Act.put, zzI, zzO, zzS]
       refine tkN 13 zS44 C0 rfl (by kernel_rfl) rfl ?_
       try simp only [zS44, Act.put, zzI, zzO, zzS]
       refine tkN 14 zS48 C0 rfl (by kernel_rfl) rfl ?_
       try simp only [zS48, Act.put, zzI, zzO, zzS]
       refine tkN 15 zS45 C0 rfl (by kernel_rfl) rfl ?_
       try simp only [zS45, Act.put, zzI, zzO, zzS]
       refine tkH 16 zS46 _ C0 rfl (by kernel_rfl) rfl (fun W h => by clear h; dsimp only [zS46]; go_simp <;> with_reducible rfl) ?_
       try simp only [zS46, Act.put, zzI, zzO, zzS]
       refine tkH 17 zS47 _ C0 rfl (by kernel_rfl) rfl (fun W h => by clear h; dsimp only [zS47]; go_simp <;> with_reducible rfl) ?_
       try simp only [zS47, Act.put, zzI, zzO, zzS]
       have CE := Lib.hid C0
       refine wpAnyH_done (by kernel_rfl) ?_ _
       refine NoPanic.normal ?_
       go_wp2
       go_ret
       rw [HR.out]
       exact ⟨rfl, ⟨ρ, m, (CE.out).1, (CE.out).2.1, I0.out, fun k hk => N0.out k (Nat.le_trans (CE.out).2.2.size hk)⟩, CE.out.2.2⟩
      ·
       skip
       have bn0 : (((n : Nat) : Int) == 0) = false := by simp; omega
       have jn0 : (((n : Nat) : Int) = 0) = False := eq_false (by omega)
       have kn0 : (n = 0) = False := eq_false (by omega)
       have dn0 : decide (((n : Nat) : Int) = 0) = false := decide_eq_false (by omega)
       clear h0 h55 h2 h21 h5 h6
       have f18 := C0.out.frozen 18
       have S2 := Lib.hid (C0.out.setCell 18 (.int .i64 ((cl : Int) + 1)))
       have S2K := Lib.hid ((Btw.refl (I := fun k => k = p) w).setCell (p := ⟨p, 18, none⟩) (v := .int .i64 ((cl : Int) + 1)) rfl)
       have CB := Lib.hid (show CRow (w.setCell ⟨p, 18, none⟩ (.int .i64 ((cl : Int) + 1))) p 41 (rjCells g ({ j with col := j.col + 1 } : Jd) m) ∧ RjR ρ (w.setCell ⟨p, 18, none⟩ (.int .i64 ((cl : Int) + 1))) p g ({ j with col := j.col + 1 } : Jd) m ∧ Btw I w (w.setCell ⟨p, 18, none⟩ (.int .i64 ((cl : Int) + 1))) from
        ⟨by have h0 := S2.out; simpa [rjCells, HCN.out, HCL.out] using h0, (fun (h : RjR ρ _ p g j m) => ({ h with } : RjR ρ _ p g ({ j with col := j.col + 1 } : Jd) m)) (R0.out.btw S2K.out fun k e => .inr (by have e : k = p := e; rw [e]; exact R0.out.rp)), BB.out.trans S2K.out fun k _ e => I0.out k (by have e : k = p := e; rw [e, R0.out.rp]; decide)⟩)
       go_enter Try.func35, Try.ntmps35
       obtain ⟨wb, hwb⟩ : ∃ wb, wb = w.setCell ⟨p, 18, none⟩ (.int .i64 ((cl : Int) + 1)) := ⟨_, rfl⟩
       rw [← hwb] at CB
       have HB := Lib.hid hwb
       clear hwb
       have XO := Lib.hid (show ∀ W, CRow W p 41 (rjCells g ({ j with col := j.col + 1 } : Jd) m) → W.cell? ⟨p, 10, none⟩ = some (.int .i64 (o : Int)) from fun W h => by have h0 := h.cell_at 10 (.int .i64 ((({ j with col := j.col + 1 } : Jd)).op : Int)) rfl; simpa [HOO.out] using h0)
       have XL := Lib.hid (show ∀ W, CRow W p 41 (rjCells g ({ j with col := j.col + 1 } : Jd) m) → W.cell? ⟨p, 11, none⟩ = some (.slice m.aL n m.cL) from fun W h => by have h0 := h.cell_at 11 (.slice m.aL (({ j with col := j.col + 1 } : Jd)).listed.length m.cL) rfl; simpa [HN.out] using h0)
       have XK := Lib.hid (show ∀ W, CRow W p 41 (rjCells g ({ j with col := j.col + 1 } : Jd) m) → W.cell? ⟨p, 18, none⟩ = some (.int .i64 ((cl : Int) + 1)) from fun W h => by have h0 := h.cell_at 18 (.int .i64 ((({ j with col := j.col + 1 } : Jd)).col : Int)) rfl; simpa [HCL.out] using h0)
              
       go_wp2_with fail
       try rw [← HB.out]
       clear x10 x11 x12 x17 x18 f18
       refine wp_region_noPanic ?_
       refine wp_region_held_drew (S := fun w' => CRow w' p 41 (rjCells g ({ j with col := j.col + 1 } : Jd) m) ∧ RjR ρ w' p g ({ j with col := j.col + 1 } : Jd) m ∧ Btw I w w') (by kernel_rfl) ⟨CB.out.1.drew, CB.out.2.1.below ((Below.refl _ _).drew), CB.out.2.2.drew⟩ (fun C0 => ?_)
       refine tkH 0 zS31 _ C0 rfl (by kernel_rfl) rfl (fun W h => by clear h; dsimp only [zS31]; go_simp <;> with_reducible rfl) ?_
       try simp only [zS31, Act.put, zzI, zzO, zzS]
       refine tkH 1 zS32 _ C0 rfl (by kernel_rfl) rfl (fun W h => by clear h; dsimp only [zS32]; go_simp <;> with_reducible rfl) ?_
       try simp only [zS32, Act.put, zzI, zzO, zzS]
       refine tkH 2 zS33 _ C0 rfl (by kernel_rfl) rfl (fun W h => by clear h; dsimp only [zS33]; go_simp <;> with_reducible rfl) ?_
       try simp only [zS33, Act.put, zzI, zzO, zzS]
       refine tkH 3 zS34 _ C0 rfl (by kernel_rfl) rfl (fun W' hSw => by obtain ⟨hs, -, -⟩ := hSw; have x10 := XO.out W' hs; clear hs; dsimp only [zS34]; go_simp <;> with_reducible rfl) ?_
       try simp only [zS34, Act.put, zzI, zzO, zzS]
       refine tkH 4 zS35 _ C0 rfl (by kernel_rfl) rfl (fun W h => by clear h; dsimp only [zS35]; go_simp <;> with_reducible rfl) ?_
       try simp only [zS35, Act.put, zzI, zzO, zzS]
       refine tkH 5 zS36 _ C0 rfl (by kernel_rfl) rfl (fun W h => by clear h; dsimp only [zS36]; go_simp <;> with_reducible rfl) ?_
       try simp only [zS36, Act.put, zzI, zzO, zzS]
       refine tkN 6 zS37 C0 rfl (by kernel_rfl) rfl ?_
       try simp only [zS37, Act.put, zzI, zzO, zzS]
       refine tkN 7 zS38 C0 rfl (by kernel_rfl) rfl ?_
       try simp only [zS38, Act.put, zzI, zzO, zzS]
       refine tkN 8 zS39 C0 rfl (by kernel_rfl) rfl ?_
       try simp only [zS39, Act.put, zzI, zzO, zzS]
       refine tkN 9 zS40 C0 rfl (by kernel_rfl) rfl ?_
       try simp only [zS40, Act.put, zzI, zzO, zzS]
       refine tkN 10 zS41 C0 rfl (by kernel_rfl) rfl ?_
       try simp only [zS41, Act.put, zzI, zzO, zzS]
       refine tkN 11 zS42 C0 rfl (by kernel_rfl) rfl ?_
       try simp only [zS42, Act.put, zzI, zzO, zzS]
       refine tkN 12 zS43 C0 rfl (by kernel_rfl) rfl ?_
       try simp only [zS43, Act.put, zzI, zzO, zzS]
       refine tkN 13 zS44 C0 rfl (by kernel_rfl) rfl ?_
       try simp only [zS44, Act.put, zzI, zzO, zzS]
       refine tkN 14 zS48 C0 rfl (by kernel_rfl) rfl ?_
       try simp only [zS48, Act.put, zzI, zzO, zzS]
       refine tkN 15 zS45 C0 rfl (by kernel_rfl) rfl ?_
       try simp only [zS45, Act.put, zzI, zzO, zzS]
       refine tkH 16 zS46 _ C0 rfl (by kernel_rfl) rfl (fun W h => by clear h; dsimp only [zS46]; go_simp <;> with_reducible rfl) ?_
       try simp only [zS46, Act.put, zzI, zzO, zzS]
       refine tkH 17 zS47 _ C0 rfl (by kernel_rfl) rfl (fun W h => by clear h; dsimp only [zS47]; go_simp <;> with_reducible rfl) ?_
       try simp only [zS47, Act.put, zzI, zzO, zzS]
       have CE := Lib.hid C0
       refine wpAnyH_done (by kernel_rfl) ?_ _
       refine NoPanic.normal ?_
       go_wp2
       go_ret
       rw [HR.out]
       exact ⟨rfl, ⟨ρ, m, (CE.out).1, (CE.out).2.1, I0.out, fun k hk => N0.out k (Nat.le_trans (CE.out).2.2.size hk)⟩, CE.out.2.2⟩
     ·
      skip
      have bo5 : (((o : Nat) : Int) == 5) = false := by simp; omega
      have jo5 : (((o : Nat) : Int) = 5) = False := eq_false (by omega)
      have ko5 : (o = 5) = False := eq_false (by omega)
      have do5 : decide (((o : Nat) : Int) = 5) = false := decide_eq_false (by omega)
      clear h55 h2 h21 h5 h6
      have f18 := C0.out.frozen 18
      have S2 := Lib.hid (C0.out.setCell 18 (.int .i64 ((cl : Int) + 1)))
      have S2K := Lib.hid ((Btw.refl (I := fun k => k = p) w).setCell (p := ⟨p, 18, none⟩) (v := .int .i64 ((cl : Int) + 1)) rfl)
      have CB := Lib.hid (show CRow (w.setCell ⟨p, 18, none⟩ (.int .i64 ((cl : Int) + 1))) p 41 (rjCells g ({ j with col := j.col + 1 } : Jd) m) ∧ RjR ρ (w.setCell ⟨p, 18, none⟩ (.int .i64 ((cl : Int) + 1))) p g ({ j with col := j.col + 1 } : Jd) m ∧ Btw I w (w.setCell ⟨p, 18, none⟩ (.int .i64 ((cl : Int) + 1))) from
       ⟨by have h0 := S2.out; simpa [rjCells, HCN.out, HCL.out] using h0, (fun (h : RjR ρ _ p g j m) => ({ h with } : RjR ρ _ p g ({ j with col := j.col + 1 } : Jd) m)) (R0.out.btw S2K.out fun k e => .inr (by have e : k = p := e; rw [e]; exact R0.out.rp)), BB.out.trans S2K.out fun k _ e => I0.out k (by have e : k = p := e; rw [e, R0.out.rp]; decide)⟩)
      go_enter Try.func35, Try.ntmps35
      obtain ⟨wb, hwb⟩ : ∃ wb, wb = w.setCell ⟨p, 18, none⟩ (.int .i64 ((cl : Int) + 1)) := ⟨_, rfl⟩
      rw [← hwb] at CB
      have HB := Lib.hid hwb
      clear hwb
      have XO := Lib.hid (show ∀ W, CRow W p 41 (rjCells g ({ j with col := j.col + 1 } : Jd) m) → W.cell? ⟨p, 10, none⟩ = some (.int .i64 (o : Int)) from fun W h => by have h0 := h.cell_at 10 (.int .i64 ((({ j with col := j.col + 1 } : Jd)).op : Int)) rfl; simpa [HOO.out] using h0)
      have XL := Lib.hid (show ∀ W, CRow W p 41 (rjCells g ({ j with col := j.col + 1 } : Jd) m) → W.cell? ⟨p, 11, none⟩ = some (.slice m.aL n m.cL) from fun W h => by have h0 := h.cell_at 11 (.slice m.aL (({ j with col := j.col + 1 } : Jd)).listed.length m.cL) rfl; simpa [HN.out] using h0)
      have XK := Lib.hid (show ∀ W, CRow W p 41 (rjCells g ({ j with col := j.col + 1 } : Jd) m) → W.cell? ⟨p, 18, none⟩ = some (.int .i64 ((cl : Int) + 1)) from fun W h => by have h0 := h.cell_at 18 (.int .i64 ((({ j with col := j.col + 1 } : Jd)).col : Int)) rfl; simpa [HCL.out] using h0)
            
      go_wp2_with fail
      try rw [← HB.out]
      clear x10 x11 x12 x17 x18 f18
      refine wp_region_noPanic ?_
      refine wp_region_held_drew (S := fun w' => CRow w' p 41 (rjCells g ({ j with col := j.col + 1 } : Jd) m) ∧ RjR ρ w' p g ({ j with col := j.col + 1 } : Jd) m ∧ Btw I w w') (by kernel_rfl) ⟨CB.out.1.drew, CB.out.2.1.below ((Below.refl _ _).drew), CB.out.2.2.drew⟩ (fun C0 => ?_)
      refine tkH 0 zS31 _ C0 rfl (by kernel_rfl) rfl (fun W h => by clear h; dsimp only [zS31]; go_simp <;> with_reducible rfl) ?_
      try simp only [zS31, Act.put, zzI, zzO, zzS]
      refine tkH 1 zS32 _ C0 rfl (by kernel_rfl) rfl (fun W h => by clear h; dsimp only [zS32]; go_simp <;> with_reducible rfl) ?_
      try simp only [zS32, Act.put, zzI, zzO, zzS]
      refine tkH 2 zS33 _ C0 rfl (by kernel_rfl) rfl (fun W h => by clear h; dsimp only [zS33]; go_simp <;> with_reducible rfl) ?_
      try simp only [zS33, Act.put, zzI, zzO, zzS]
      refine tkH 3 zS34 _ C0 rfl (by kernel_rfl) rfl (fun W' hSw => by obtain ⟨hs, -, -⟩ := hSw; have x10 := XO.out W' hs; clear hs; dsimp only [zS34]; go_simp <;> with_reducible rfl) ?_
      try simp only [zS34, Act.put, zzI, zzO, zzS]
      refine tkH 4 zS35 _ C0 rfl (by kernel_rfl) rfl (fun W h => by clear h; dsimp only [zS35]; go_simp <;> with_reducible rfl) ?_
      try simp only [zS35, Act.put, zzI, zzO, zzS]
      refine tkH 5 zS36 _ C0 rfl (by kernel_rfl) rfl (fun W h => by clear h; dsimp only [zS36]; go_simp <;> with_reducible rfl) ?_
      try simp only [zS36, Act.put, zzI, zzO, zzS]
      refine tkN 6 zS37 C0 rfl (by kernel_rfl) rfl ?_
      try simp only [zS37, Act.put, zzI, zzO, zzS]
      refine tkN 7 zS38 C0 rfl (by kernel_rfl) rfl ?_
      try simp only [zS38, Act.put, zzI, zzO, zzS]
      refine tkN 8 zS39 C0 rfl (by kernel_rfl) rfl ?_
      try simp only [zS39, Act.put, zzI, zzO, zzS]
      refine tkN 9 zS40 C0 rfl (by kernel_rfl) rfl ?_
      try simp only [zS40, Act.put, zzI, zzO, zzS]
      refine tkN 10 zS41 C0 rfl (by kernel_rfl) rfl ?_
      try simp only [zS41, Act.put, zzI, zzO, zzS]
      refine tkN 11 zS42 C0 rfl (by kernel_rfl) rfl ?_
      try simp only [zS42, Act.put, zzI, zzO, zzS]
      refine tkN 12 zS43 C0 rfl (by kernel_rfl) rfl ?_
      try simp only [zS43, Act.put, zzI, zzO, zzS]
      refine tkN 13 zS44 C0 rfl (by kernel_rfl) rfl ?_
      try simp only [zS44, Act.put, zzI, zzO, zzS]
      refine tkN 14 zS48 C0 rfl (by kernel_rfl) rfl ?_
      try simp only [zS48, Act.put, zzI, zzO, zzS]
      refine tkN 15 zS45 C0 rfl (by kernel_rfl) rfl ?_
      try simp only [zS45, Act.put, zzI, zzO, zzS]
      refine tkH 16 zS46 _ C0 rfl (by kernel_rfl) rfl (fun W h => by clear h; dsimp only [zS46]; go_simp <;> with_reducible rfl) ?_
      try simp only [zS46, Act.put, zzI, zzO, zzS]
      refine tkH 17 zS47 _ C0 rfl (by kernel_rfl) rfl (fun W h => by clear h; dsimp only [zS47]; go_simp <;> with_reducible rfl) ?_
      try simp only [zS47, Act.put, zzI, zzO, zzS]
      have CE := Lib.hid C0
      refine wpAnyH_done (by kernel_rfl) ?_ _
      refine NoPanic.normal ?_
      go_wp2
      go_ret
      rw [HR.out]
      exact ⟨rfl, ⟨ρ, m, (CE.out).1, (CE.out).2.1, I0.out, fun k hk => N0.out k (Nat.le_trans (CE.out).2.2.size hk)⟩, CE.out.2.2⟩
end
end Go.Proofs.Ytaidgjidpghgnaa
