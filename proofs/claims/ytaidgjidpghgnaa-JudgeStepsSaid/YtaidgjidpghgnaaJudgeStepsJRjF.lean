/-
  The document's judge: load.
-/
import Derived.Deep.RegionHeld3
import Derived.Test.YtaidgjidpghgnaaTk
import Derived.Test.YtaidgjidpghgnaaJudgeStepsJ10
import Derived.Test.YtaidgjidpghgnaaJudgeStepsJ9
namespace Go.Proofs.Ytaidgjidpghgnaa
open Go.RowKit
set_option maxRecDepth 100000
def zTc0 : Oper := { dst := none, op := Op.store 3 (Operand.tmp 131) (Operand.tmp 130), type := 0, pos := "ref.go:137", after := #[{ on := 12, ground := Ground.data }, { on := 11, ground := Ground.data }, { on := 0, ground := Ground.phase }, { on := 1, ground := Ground.phase }, { on := 2, ground := Ground.phase }, { on := 3, ground := Ground.phase }, { on := 4, ground := Ground.phase }, { on := 5, ground := Ground.phase }, { on := 6, ground := Ground.phase }, { on := 7, ground := Ground.phase }, { on := 8, ground := Ground.phase }, { on := 9, ground := Ground.phase }, { on := 10, ground := Ground.phase }, { on := 11, ground := Ground.phase }], guard := none }
def zTc1 : Oper := { dst := some 143, op := Op.load 3 (Operand.tmp 142), type := 3, pos := "ref.go:138", after := #[{ on := 10, ground := Ground.data }], guard := none }
def zTc2 : Oper := { dst := none, op := Op.store 3 (Operand.tmp 145) (Operand.tmp 144), type := 0, pos := "ref.go:138", after := #[{ on := 13, ground := Ground.data }, { on := 12, ground := Ground.data }, { on := 0, ground := Ground.phase }, { on := 1, ground := Ground.phase }, { on := 2, ground := Ground.phase }, { on := 3, ground := Ground.phase }, { on := 4, ground := Ground.phase }, { on := 5, ground := Ground.phase }, { on := 6, ground := Ground.phase }, { on := 7, ground := Ground.phase }, { on := 8, ground := Ground.phase }, { on := 9, ground := Ground.phase }, { on := 10, ground := Ground.phase }, { on := 11, ground := Ground.phase }, { on := 12, ground := Ground.phase }], guard := none }
def zT0 : Oper := { dst := some 50, op := Op.move (Operand.tmp 8), type := 3, pos := "ref.go:129", after := #[], guard := none }
def zT1 : Oper := { dst := some 51, op := Op.move (Operand.tmp 0), type := 33, pos := "ref.go:129", after := #[], guard := none }
def zT2 : Oper := { dst := some 52, op := Op.nilCheck (Operand.tmp 51), type := 0, pos := "ref.go:129", after := #[{ on := 1, ground := Ground.data }], guard := none }
def zT3 : Oper := { dst := some 53, op := Op.fieldAddr 41 (Operand.tmp 52) 0, type := 0, pos := "ref.go:129", after := #[{ on := 2, ground := Ground.data }], guard := none }
def zT4 : Oper := { dst := some 54, op := Op.fieldAddr 23 (Operand.tmp 53) 2, type := 0, pos := "ref.go:129", after := #[{ on := 3, ground := Ground.data }], guard := none }
def zT5 : Oper := { dst := some 55, op := Op.load 3 (Operand.tmp 54), type := 3, pos := "ref.go:129", after := #[{ on := 4, ground := Ground.data }], guard := none }
def zT6 : Oper := { dst := some 56, op := Op.binOp BinOp.rem 3 (Operand.tmp 50) (Operand.tmp 55) 3, type := 3, pos := "ref.go:129", after := #[{ on := 0, ground := Ground.data }, { on := 5, ground := Ground.data }], guard := none }
def zT7 : Oper := { dst := some 57, op := Op.move (Operand.tmp 5), type := 3, pos := "ref.go:129", after := #[], guard := none }
def zT8 : Oper := { dst := some 58, op := Op.move (Operand.tmp 0), type := 33, pos := "ref.go:129", after := #[], guard := none }
def zT9 : Oper := { dst := some 59, op := Op.nilCheck (Operand.tmp 58), type := 0, pos := "ref.go:129", after := #[{ on := 8, ground := Ground.data }], guard := none }
def zT10 : Oper := { dst := some 60, op := Op.fieldAddr 41 (Operand.tmp 59) 0, type := 0, pos := "ref.go:129", after := #[{ on := 9, ground := Ground.data }], guard := none }
def zT11 : Oper := { dst := some 61, op := Op.fieldAddr 23 (Operand.tmp 60) 2, type := 0, pos := "ref.go:129", after := #[{ on := 10, ground := Ground.data }], guard := none }
def zT12 : Oper := { dst := some 62, op := Op.load 3 (Operand.tmp 61), type := 3, pos := "ref.go:129", after := #[{ on := 11, ground := Ground.data }], guard := none }
def zT13 : Oper := { dst := some 63, op := Op.binOp BinOp.rem 3 (Operand.tmp 57) (Operand.tmp 62) 3, type := 3, pos := "ref.go:129", after := #[{ on := 7, ground := Ground.data }, { on := 12, ground := Ground.data }], guard := none }
def zT14 : Oper := { dst := some 64, op := Op.binOp BinOp.neq 3 (Operand.tmp 56) (Operand.tmp 63) 3, type := 4, pos := "ref.go:129", after := #[{ on := 6, ground := Ground.data }, { on := 13, ground := Ground.data }], guard := none }
def zT15 : Oper := { dst := some 65, op := Op.move (Operand.tmp 64), type := 4, pos := "ref.go:129", after := #[{ on := 14, ground := Ground.data }], guard := none }
def zT16 : Oper := { dst := some 66, op := Op.move (Operand.tmp 8), type := 3, pos := "ref.go:129", after := #[{ on := 15, ground := Ground.guard }], guard := some (15, false) }
def zT17 : Oper := { dst := some 67, op := Op.move (Operand.tmp 0), type := 33, pos := "ref.go:129", after := #[{ on := 15, ground := Ground.guard }], guard := some (15, false) }
def zT18 : Oper := { dst := some 68, op := Op.nilCheck (Operand.tmp 67), type := 0, pos := "ref.go:129", after := #[{ on := 17, ground := Ground.data }, { on := 15, ground := Ground.guard }], guard := some (15, false) }
def zT19 : Oper := { dst := some 69, op := Op.fieldAddr 41 (Operand.tmp 68) 0, type := 0, pos := "ref.go:129", after := #[{ on := 18, ground := Ground.data }, { on := 15, ground := Ground.guard }], guard := some (15, false) }
def zT20 : Oper := { dst := some 70, op := Op.fieldAddr 23 (Operand.tmp 69) 2, type := 0, pos := "ref.go:129", after := #[{ on := 19, ground := Ground.data }, { on := 15, ground := Ground.guard }], guard := some (15, false) }
def zT21 : Oper := { dst := some 71, op := Op.load 3 (Operand.tmp 70), type := 3, pos := "ref.go:129", after := #[{ on := 20, ground := Ground.data }, { on := 15, ground := Ground.guard }], guard := some (15, false) }
def zT22 : Oper := { dst := some 72, op := Op.binOp BinOp.quo 3 (Operand.tmp 66) (Operand.tmp 71) 3, type := 3, pos := "ref.go:129", after := #[{ on := 16, ground := Ground.data }, { on := 21, ground := Ground.data }, { on := 15, ground := Ground.guard }], guard := some (15, false) }
def zT23 : Oper := { dst := some 73, op := Op.move (Operand.tmp 0), type := 33, pos := "ref.go:129", after := #[{ on := 15, ground := Ground.guard }], guard := some (15, false) }
def zT24 : Oper := { dst := some 74, op := Op.nilCheck (Operand.tmp 73), type := 0, pos := "ref.go:129", after := #[{ on := 23, ground := Ground.data }, { on := 15, ground := Ground.guard }], guard := some (15, false) }
def zT25 : Oper := { dst := some 75, op := Op.fieldAddr 41 (Operand.tmp 74) 0, type := 0, pos := "ref.go:129", after := #[{ on := 24, ground := Ground.data }, { on := 15, ground := Ground.guard }], guard := some (15, false) }
def zT26 : Oper := { dst := some 76, op := Op.fieldAddr 23 (Operand.tmp 75) 0, type := 0, pos := "ref.go:129", after := #[{ on := 25, ground := Ground.data }, { on := 15, ground := Ground.guard }], guard := some (15, false) }
def zT27 : Oper := { dst := some 77, op := Op.load 3 (Operand.tmp 76), type := 3, pos := "ref.go:129", after := #[{ on := 26, ground := Ground.data }, { on := 15, ground := Ground.guard }], guard := some (15, false) }
def zT28 : Oper := { dst := some 78, op := Op.binOp BinOp.rem 3 (Operand.tmp 72) (Operand.tmp 77) 3, type := 3, pos := "ref.go:129", after := #[{ on := 22, ground := Ground.data }, { on := 27, ground := Ground.data }, { on := 15, ground := Ground.guard }], guard := some (15, false) }
def zT29 : Oper := { dst := some 79, op := Op.move (Operand.tmp 6), type := 3, pos := "ref.go:129", after := #[{ on := 15, ground := Ground.guard }], guard := some (15, false) }
def zT30 : Oper := { dst := some 80, op := Op.move (Operand.tmp 0), type := 33, pos := "ref.go:129", after := #[{ on := 15, ground := Ground.guard }], guard := some (15, false) }
def zT31 : Oper := { dst := some 81, op := Op.nilCheck (Operand.tmp 80), type := 0, pos := "ref.go:129", after := #[{ on := 30, ground := Ground.data }, { on := 15, ground := Ground.guard }], guard := some (15, false) }
def zT32 : Oper := { dst := some 82, op := Op.fieldAddr 41 (Operand.tmp 81) 0, type := 0, pos := "ref.go:129", after := #[{ on := 31, ground := Ground.data }, { on := 15, ground := Ground.guard }], guard := some (15, false) }
def zT33 : Oper := { dst := some 83, op := Op.fieldAddr 23 (Operand.tmp 82) 0, type := 0, pos := "ref.go:129", after := #[{ on := 32, ground := Ground.data }, { on := 15, ground := Ground.guard }], guard := some (15, false) }
def zT34 : Oper := { dst := some 84, op := Op.load 3 (Operand.tmp 83), type := 3, pos := "ref.go:129", after := #[{ on := 33, ground := Ground.data }, { on := 15, ground := Ground.guard }], guard := some (15, false) }
def zT35 : Oper := { dst := some 85, op := Op.binOp BinOp.rem 3 (Operand.tmp 79) (Operand.tmp 84) 3, type := 3, pos := "ref.go:129", after := #[{ on := 29, ground := Ground.data }, { on := 34, ground := Ground.data }, { on := 15, ground := Ground.guard }], guard := some (15, false) }
def zT36 : Oper := { dst := some 86, op := Op.binOp BinOp.eql 3 (Operand.tmp 78) (Operand.tmp 85) 3, type := 4, pos := "ref.go:129", after := #[{ on := 28, ground := Ground.data }, { on := 35, ground := Ground.data }, { on := 15, ground := Ground.guard }], guard := some (15, false) }
def zT37 : Oper := { dst := some 87, op := Op.pick (Operand.tmp 65) (Operand.const (Value.bool true)) (Operand.tmp 86), type := 4, pos := "ref.go:129", after := #[{ on := 15, ground := Ground.data }, { on := 36, ground := Ground.data }], guard := none }
def zT38 : Oper := { dst := some 119, op := Op.move (Operand.tmp 0), type := 33, pos := "ref.go:137", after := #[], guard := none }
def zT39 : Oper := { dst := some 120, op := Op.nilCheck (Operand.tmp 119), type := 0, pos := "ref.go:137", after := #[{ on := 0, ground := Ground.data }], guard := none }
def zT40 : Oper := { dst := some 121, op := Op.fieldAddr 41 (Operand.tmp 120) 2, type := 0, pos := "ref.go:137", after := #[{ on := 1, ground := Ground.data }], guard := none }
def zT41 : Oper := { dst := some 122, op := Op.load 39 (Operand.tmp 121), type := 39, pos := "ref.go:137", after := #[{ on := 2, ground := Ground.data }], guard := none }
def zT42 : Oper := { dst := some 123, op := Op.move (Operand.tmp 6), type := 3, pos := "ref.go:137", after := #[], guard := none }
def zT43 : Oper := { dst := some 124, op := Op.move (Operand.tmp 5), type := 3, pos := "ref.go:137", after := #[], guard := none }
def zT44 : Oper := { dst := some 125, op := Op.move (Operand.tmp 0), type := 33, pos := "ref.go:137", after := #[], guard := none }
def zT45 : Oper := { dst := some 126, op := Op.nilCheck (Operand.tmp 125), type := 0, pos := "ref.go:137", after := #[{ on := 6, ground := Ground.data }], guard := none }
def zT46 : Oper := { dst := some 127, op := Op.fieldAddr 41 (Operand.tmp 126) 0, type := 0, pos := "ref.go:137", after := #[{ on := 7, ground := Ground.data }], guard := none }
def zT47 : Oper := { dst := some 128, op := Op.fieldAddr 23 (Operand.tmp 127) 2, type := 0, pos := "ref.go:137", after := #[{ on := 8, ground := Ground.data }], guard := none }
def zT48 : Oper := { dst := some 129, op := Op.load 3 (Operand.tmp 128), type := 3, pos := "ref.go:137", after := #[{ on := 9, ground := Ground.data }], guard := none }
def zT49 : Oper := { dst := some 130, op := Op.binOp BinOp.rem 3 (Operand.tmp 124) (Operand.tmp 129) 3, type := 3, pos := "ref.go:137", after := #[{ on := 5, ground := Ground.data }, { on := 10, ground := Ground.data }], guard := none }
def zT50 : Oper := { dst := some 131, op := Op.indexAddr 39 (Operand.tmp 122) (Operand.tmp 123), type := 0, pos := "ref.go:137", after := #[{ on := 3, ground := Ground.data }, { on := 4, ground := Ground.data }, { on := 0, ground := Ground.phase }, { on := 1, ground := Ground.phase }, { on := 2, ground := Ground.phase }, { on := 3, ground := Ground.phase }, { on := 4, ground := Ground.phase }, { on := 5, ground := Ground.phase }, { on := 6, ground := Ground.phase }, { on := 7, ground := Ground.phase }, { on := 8, ground := Ground.phase }, { on := 9, ground := Ground.phase }, { on := 10, ground := Ground.phase }, { on := 11, ground := Ground.phase }], guard := none }
def zT51 : Oper := { dst := some 132, op := Op.move (Operand.tmp 0), type := 33, pos := "ref.go:138", after := #[], guard := none }
def zT52 : Oper := { dst := some 133, op := Op.nilCheck (Operand.tmp 132), type := 0, pos := "ref.go:138", after := #[{ on := 0, ground := Ground.data }], guard := none }
def zT53 : Oper := { dst := some 134, op := Op.fieldAddr 41 (Operand.tmp 133) 3, type := 0, pos := "ref.go:138", after := #[{ on := 1, ground := Ground.data }], guard := none }
def zT54 : Oper := { dst := some 135, op := Op.load 39 (Operand.tmp 134), type := 39, pos := "ref.go:138", after := #[{ on := 2, ground := Ground.data }], guard := none }
def zT55 : Oper := { dst := some 136, op := Op.move (Operand.tmp 5), type := 3, pos := "ref.go:138", after := #[], guard := none }
def zT56 : Oper := { dst := some 137, op := Op.move (Operand.tmp 0), type := 33, pos := "ref.go:138", after := #[], guard := none }
def zT57 : Oper := { dst := some 138, op := Op.nilCheck (Operand.tmp 137), type := 0, pos := "ref.go:138", after := #[{ on := 5, ground := Ground.data }], guard := none }
def zT58 : Oper := { dst := some 139, op := Op.fieldAddr 41 (Operand.tmp 138) 3, type := 0, pos := "ref.go:138", after := #[{ on := 6, ground := Ground.data }], guard := none }
def zT59 : Oper := { dst := some 140, op := Op.load 39 (Operand.tmp 139), type := 39, pos := "ref.go:138", after := #[{ on := 7, ground := Ground.data }], guard := none }
def zT60 : Oper := { dst := some 141, op := Op.move (Operand.tmp 5), type := 3, pos := "ref.go:138", after := #[], guard := none }
def zT61 : Oper := { dst := some 142, op := Op.indexAddr 39 (Operand.tmp 140) (Operand.tmp 141), type := 0, pos := "ref.go:138", after := #[{ on := 8, ground := Ground.data }, { on := 9, ground := Ground.data }], guard := none }
def zT62 : Oper := { dst := some 144, op := Op.binOp BinOp.add 3 (Operand.tmp 143) (Operand.const (Value.int IntKind.i64 1)) 3, type := 3, pos := "ref.go:138", after := #[{ on := 11, ground := Ground.data }], guard := none }
def zT63 : Oper := { dst := some 145, op := Op.indexAddr 39 (Operand.tmp 135) (Operand.tmp 136), type := 0, pos := "ref.go:138", after := #[{ on := 3, ground := Ground.data }, { on := 4, ground := Ground.data }, { on := 0, ground := Ground.phase }, { on := 1, ground := Ground.phase }, { on := 2, ground := Ground.phase }, { on := 3, ground := Ground.phase }, { on := 4, ground := Ground.phase }, { on := 5, ground := Ground.phase }, { on := 6, ground := Ground.phase }, { on := 7, ground := Ground.phase }, { on := 8, ground := Ground.phase }, { on := 9, ground := Ground.phase }, { on := 10, ground := Ground.phase }, { on := 11, ground := Ground.phase }, { on := 12, ground := Ground.phase }], guard := none }

section
variable {ρ : Nat → Nat} {I K : Nat → Prop} {w w' : World} {p : Nat} {g : Gm} {j j' : Jd} {m m' : RjM}
/-- A row may be programmed besides another one. -/
def rjoin (g : Gm) (row o : Nat) : Bool := decide (o % g.s.toNat = row % g.s.toNat) && !decide (o / g.s.toNat % g.p.toNat = row / g.s.toNat % g.p.toNat)
def Jd.rload (g : Gm) (j : Jd) (c : Nat) : Bool × Jd :=
 if ¬ ((c = 16 ∨ c = 17 ∨ c = 21) ∧ j.can g (j.addr2 2) = true) then (false, j)
 else if ¬ j.rows.all (rjoin g (j.addr2 2)) = true then (false, j)
 else if (j.bg = true ∧ (j.addr2 2 / g.s.toNat ≠ j.bgb ∨ c = 17)) ∨ (c = 21 ∧ 0 < j.rows.length) then (false, j)
 else (true, (({ j with data := false, la := fun x => if x = j.addr2 2 / g.s.toNat then ((j.addr2 2 % g.s.toNat : Nat) : Int) else j.la x, pr := fun x => if x = j.addr2 2 then j.pr x + 1 else j.pr x, rows := if c = 17 then j.rows ++ [j.addr2 2] else [], bg := if c = 21 then true else j.bg, bgb := if c = 21 then j.addr2 2 / g.s.toNat else j.bgb } : Jd)).start)
set_option maxHeartbeats 16000000 in
theorem rload_ok (c : Nat) (hcc : c = 16 ∨ c = 17 ∨ c = 21) (hcan : j.can g (j.addr2 2) = true) (h4 : j.listed.length = 4) (h8 : ∀ x ∈ j.listed, x < 256) (hrw : ∀ x ∈ j.rows, x < g.rows_) (hrn : j.rows.length ≤ 1000000) (hpr : ∀ x, j.pr x ≤ 1000000) (h : RJ I w p g j) : Calls Try.prog 43 #[.pointer (some ⟨p, 0, none⟩), .int .i64 (c : Int)] w (ActsR I p g (.bool (j.rload g c).1) (j.rload g c).2 w) := by
 have H0 := Lib.hid h
 have HTW := Lib.hid (rtwo 2 (by omega) (by omega) h8 h)
 have HCA := Lib.hid (fun W (hh : RJ I W p g j) => rcan (j.addr2 2) hh)
 rw [hcan] at HCA
 have hrow : j.addr2 2 < g.rows_ := by unfold Jd.can at hcan; simp only [Bool.and_eq_true, decide_eq_true_eq] at hcan; exact hcan.1
 obtain ⟨ρ, m, hc, hr, hi, hnw⟩ := h
 have hg := Gm.bounds_of hr.ok
 have C0 := Lib.hid hc
 have R0 := Lib.hid hr
 have I0 := Lib.hid hi
 have N0 := Lib.hid hnw
 obtain ⟨row, hrw0⟩ : ∃ row, row = j.addr2 2 := ⟨_, rfl⟩
 obtain ⟨S, hS⟩ : ∃ S, S = g.s.toNat := ⟨_, rfl⟩
 obtain ⟨P, hP⟩ : ∃ P, P = g.p.toNat := ⟨_, rfl⟩
 obtain ⟨NB, hNB⟩ : ∃ NB, NB = g.b.toNat := ⟨_, rfl⟩
 obtain ⟨R, hR⟩ : ∃ R, R = g.rows_ := ⟨_, rfl⟩
 have hRR : R = NB * S := by rw [hR, hNB, hS]; rfl
 have hS4 : 4 ≤ S ∧ S ≤ 64 := by omega
 have hP4 : 1 ≤ P ∧ P ≤ 4 := by omega
 have hNB2 : NB ≤ 256 := by omega
 have hR2 : R ≤ 16384 := by rw [hRR]; exact Nat.mul_le_mul hNB2 hS4.2
 have hxR : row < R := by omega
 obtain ⟨b, hb⟩ : ∃ b, b = row / S := ⟨_, rfl⟩
 obtain ⟨q, hq⟩ : ∃ q, q = row % S := ⟨_, rfl⟩
 have hbN : b < NB := by rw [hb]; exact Nat.div_lt_of_lt_mul (by rw [Nat.mul_comm]; omega)
 have hqS : q < S := by rw [hq]; exact Nat.mod_lt _ (by omega)
 obtain ⟨pb, hpb⟩ : ∃ pb, pb = b % P := ⟨_, rfl⟩
 obtain ⟨n, hn⟩ : ∃ n, n = j.rows.length := ⟨_, rfl⟩
 have HN := Lib.hid hn
 have hS1 : g.s = (S : Int) := by omega
 have hP1 : g.p = (P : Int) := by omega
 have HRL := Lib.hid (show j.rload g c = if ¬ j.rows.all (rjoin g row) = true then (false, j) else if (j.bg = true ∧ (b ≠ j.bgb ∨ c = 17)) ∨ (c = 21 ∧ 0 < n) then (false, j) else (true, (({ j with data := false, la := fun x => if x = b then (q : Int) else j.la x, pr := fun x => if x = row then j.pr x + 1 else j.pr x, rows := if c = 17 then j.rows ++ [row] else [], bg := if c = 21 then true else j.bg, bgb := if c = 21 then b else j.bgb } : Jd)).start) by
  unfold Jd.rload
  rw [if_neg (not_not_intro ⟨hcc, hcan⟩), ← hrw0, ← hS, ← hb, ← hq, ← hn])
 have Q2 := Lib.hid (show ∀ W (J : Jd), CRow W p 41 (rjCells g J m) → W.cell? ⟨p, 2, none⟩ = some (.int .i64 (S : Int)) from fun W J h => by rw [← hS1]; exact h.cell_at 2 _ rfl)
 have Q0 := Lib.hid (show ∀ W (J : Jd), CRow W p 41 (rjCells g J m) → W.cell? ⟨p, 0, none⟩ = some (.int .i64 (P : Int)) from fun W J h => by rw [← hP1]; exact h.cell_at 0 _ rfl)
 have Q8 := Lib.hid (show ∀ W (J : Jd), CRow W p 41 (rjCells g J m) → W.cell? ⟨p, 8, none⟩ = some (.slice (some ⟨m.l, 0, none⟩) NB m.cl) from fun W J h => by rw [hNB]; exact h.cell_at 8 _ rfl)
 have Q9 := Lib.hid (show ∀ W (J : Jd), CRow W p 41 (rjCells g J m) → W.cell? ⟨p, 9, none⟩ = some (.slice (some ⟨m.q, 0, none⟩) R m.cq) from fun W J h => by rw [hR]; exact h.cell_at 9 _ rfl)
 obtain ⟨zR, hz⟩ : ∃ z, z = m.aR := ⟨_, rfl⟩
 have HZ := Lib.hid hz
 have Q19 := Lib.hid (show ∀ W, CRow W p 41 (rjCells g j m) → W.cell? ⟨p, 19, none⟩ = some (.slice zR n m.cR) from fun W h => by rw [hz, hn]; exact h.cell_at 19 _ rfl)
 have HBN := Lib.hid (show b < g.b.toNat by omega)
 have HRN := Lib.hid (show row < g.rows_ by omega)
 have HJ := Lib.hid (show ∀ x, rjoin g row x = (decide (x % S = q) && !decide (x / S % P = pb)) from fun x => by unfold rjoin; rw [← hS, ← hP, ← hb, ← hq, ← hpb])
 have HRWS := Lib.hid (show ∀ x ∈ j.rows, x < 16384 from fun x hx => Nat.lt_of_lt_of_le (hrw x hx) (by omega))
 rw [← hrw0] at HTW HCA
 have s0 : ((S : Int) == 0) = false := by simp; omega
 have s1 : ((S : Int) = 0) = False := eq_false (by omega)
 have s2 : (S = 0) = False := eq_false (by omega)
 have u0 : ((P : Int) == 0) = false := by simp; omega
 have u1 : ((P : Int) = 0) = False := eq_false (by omega)
 have u2 : (P = 0) = False := eq_false (by omega)
 have t0 : (row : Int).tdiv (S : Int) = (b : Int) := by rw [hb]; rfl
 have t1 : (row : Int).tmod (S : Int) = (q : Int) := by rw [hq]; rfl
 have t2 : (b : Int).tmod (P : Int) = (pb : Int) := by rw [hpb]; rfl
 have hpb4 : pb < P := by rw [hpb]; exact Nat.mod_lt _ (by omega)
 have v0 : IntKind.i64.wrap (b : Int) = (b : Int) := IntWalk.i64_in _ (by omega)
 have v1 : IntKind.i64.wrap (q : Int) = (q : Int) := IntWalk.i64_in _ (by omega)
 have v2 : IntKind.i64.wrap (pb : Int) = (pb : Int) := IntWalk.i64_in _ (by omega)
 have hp1 := hpr row
 have v3 : IntKind.i64.wrap (((j.pr row : Nat) : Int) + 1) = ((j.pr row : Nat) : Int) + 1 := IntWalk.i64_in _ (by omega)
 have i0 : (0 : Int) ≤ (b : Int) := by omega
 have i1 : (b : Int) < (NB : Int) := by omega
 have i2 : (0 : Int) ≤ (row : Int) := by omega
 have i3 : (row : Int) < (R : Int) := by omega
 have hn6 : n ≤ 1000000 := by omega
 obtain ⟨bg, hbg⟩ : ∃ x, x = j.bg := ⟨_, rfl⟩
 obtain ⟨bb, hbb⟩ : ∃ x, x = j.bgb := ⟨_, rfl⟩
 have HBG := Lib.hid hbg
 have HBB := Lib.hid hbb
 have Q15 := Lib.hid (show ∀ W, CRow W p 41 (rjCells g j m) → W.cell? ⟨p, 15, none⟩ = some (.bool bg) from fun W h => by rw [hbg]; exact h.cell_at 15 _ rfl)
 have Q16 := Lib.hid (show ∀ W, CRow W p 41 (rjCells g j m) → W.cell? ⟨p, 16, none⟩ = some (.int .i64 (bb : Int)) from fun W h => by rw [hbb]; exact h.cell_at 16 _ rfl)
 have PS := Lib.hid (show 0 < S ∧ 0 < P ∧ P ≤ 4 ∧ S ≤ 64 by omega)
 clear hc hr hi hnw hg hrow hrw0 hS hP hNB hR hRR hS4 hP4 hNB2 hR2 hxR hb hq hbN hqS hpb hn hS1 hP1 hz hpb4 hrw hrn hpr hcan h4 h8 hp1 hbg hbb
 rcases hcc with rfl | rfl | rfl
 ·
  skip
  have HRL := Lib.hid (show j.rload g 16 = _ from HRL.out)
  go_enter Try.func43, Try.ntmps43
  go_wp2_with fail
  refine HTW.out.mono ?_
  rintro _ w1 ⟨rfl, h1⟩
  have CA := Lib.hid (show CRow w1 p 41 (rjCells g j m) ∧ RjR ρ w1 p g j m ∧ Btw I w w1 from ⟨C0.out.below h1, R0.out.below h1, Btw.of_below h1⟩)
  clear h1 HTW
  go_wp2_with fail
  refine (HCA.out _ ⟨ρ, m, (CA.out).1, (CA.out).2.1, I0.out, fun k hk => N0.out k (Nat.le_trans (CA.out).2.2.size hk)⟩).mono ?_
  rintro _ w2 ⟨rfl, h2⟩
  have CB := Lib.hid (show CRow w2 p 41 (rjCells g j m) ∧ RjR ρ w2 p g j m ∧ Btw I w w2 from ⟨CA.out.1.below h2, CA.out.2.1.below h2, CA.out.2.2.trans (Btw.of_below h2) fun _ _ h => h⟩)
  clear h2 HCA CA
  have x2 := Q2.out _ j CB.out.1
  go_wp2
  clear x2
  go_loopw [7] (fun i wr => ∃ k : Nat, k ≤ n ∧ i = .int .i64 (k : Int) ∧ Hid (CRow wr p 41 (rjCells g j m) ∧ RjR ρ wr p g j m ∧ Btw I w wr) ∧ Hid (∀ x ∈ j.rows.take k, rjoin g row x = true)) (fun i _ => n - (intOf i).toNat)
  case atStart => exact ⟨0, Nat.zero_le _, rfl, CB, Lib.hid (by simp)⟩
  case round =>
   obtain ⟨k, hk, rfl, C1, HA⟩ := hrel
   rename World => wr
   clear CB
   have x19 := Q19.out _ C1.out.1
   by_cases hlt : k < n
   ·
    obtain ⟨x, hx⟩ : ∃ x, j.rows[k]? = some x := ⟨_, List.getElem?_eq_getElem (by rw [← HN.out]; exact hlt)⟩
    obtain ⟨b9, hA9, _, _, y0', _, _⟩ := own_at C1.out.2.1.row (k := k) (by rw [← HN.out]; exact hlt)
    obtain rfl : zR = some ⟨b9, 0, none⟩ := HZ.out.trans hA9
    have y0 : wr.cell? ⟨b9, k, none⟩ = some (.int .i64 (x : Int)) := by
     rw [y0', I64_JI, hx]
     rfl
    have hx16 := HRWS.out x (List.mem_of_getElem? hx)
    have HX := Lib.hid hx
    obtain ⟨xb, hxb⟩ : ∃ xb, xb = x / S := ⟨_, rfl⟩
    obtain ⟨xq, hxq⟩ : ∃ xq, xq = x % S := ⟨_, rfl⟩
    obtain ⟨xp, hxp⟩ : ∃ xp, xp = xb % P := ⟨_, rfl⟩
    have HXJ := Lib.hid (show rjoin g row x = (decide (xq = q) && !decide (xp = pb)) by rw [HJ.out, ← hxq, ← hxb, ← hxp])
    have a0 : (x : Int).tdiv (S : Int) = (xb : Int) := by rw [hxb]; rfl
    have a1 : (x : Int).tmod (S : Int) = (xq : Int) := by rw [hxq]; rfl
    have a2 : (xb : Int).tmod (P : Int) = (xp : Int) := by rw [hxp]; rfl
    have l0 : xb ≤ x := by rw [hxb]; exact Nat.div_le_self _ _
    have l1 : xq < S := by rw [hxq]; exact Nat.mod_lt _ PS.out.1
    have l2 : xp < P := by rw [hxp]; exact Nat.mod_lt _ PS.out.2.1
    have l3 := PS.out
    have z0 : IntKind.i64.wrap (xb : Int) = (xb : Int) := IntWalk.i64_in _ (by omega)
    have z1 : IntKind.i64.wrap (xq : Int) = (xq : Int) := IntWalk.i64_in _ (by omega)
    have z2 : IntKind.i64.wrap (xp : Int) = (xp : Int) := IntWalk.i64_in _ (by omega)
    have d1 : decide ((k : Int) < (n : Int)) = true := decide_eq_true (by omega)
    have i4 : (0 : Int) ≤ (k : Int) := by omega
    have i5 : (k : Int) < (n : Int) := by omega
    clear hA9 y0' hx hx16 hxb hxq hxp l0 l1 l2 l3
    go_wp2_with fail
    clear x19 y0
    by_cases h1 : xq = q
    ·
     by_cases h2 : xp = pb
     ·
      subst h1 h2
      have HV := Lib.hid (show rjoin g row x = false by rw [HXJ.out]; simp)
      refine wp_region_noPanic ?_
      go_region_held3 (fun w' => w'.cell? ⟨p, 2, none⟩ = some (.int .i64 (S : Int)) ∧ w'.cell? ⟨p, 0, none⟩ = some (.int .i64 (P : Int))) (exact ⟨Q2.out _ j C1.out.1.drew, Q0.out _ j C1.out.1.drew⟩) (fail)
      refine NoPanic.normal ?_
      have CX := Lib.hid (show CRow _ p 41 (rjCells g j m) ∧ RjR ρ _ p g j m ∧ Btw I w _ from ⟨C1.out.1.drew, C1.out.2.1.below ((Below.refl _ _).drew), C1.out.2.2.drew⟩)
      have HR := Lib.hid (show j.rload g 16 = (false, j) by rw [HRL.out, if_pos (fun h => by rw [List.all_eq_true] at h; have := h x (List.mem_of_getElem? HX.out); rw [HV.out] at this; cases this)])
      go_wp2; go_ret; rw [HR.out]; exact ⟨rfl, ⟨ρ, m, (CX.out).1, (CX.out).2.1, I0.out, fun k hk => N0.out k (Nat.le_trans (CX.out).2.2.size hk)⟩, CX.out.2.2⟩
     ·
      subst h1
      have HV := Lib.hid (show rjoin g row x = true by rw [HXJ.out]; simp [h2])
      have m0 : ((xp : Int) == (pb : Int)) = false := by simp; omega
      have m1 : ((xp : Int) = (pb : Int)) = False := eq_false (by omega)
      have m2 : (xp = pb) = False := eq_false h2
      have m3 : decide ((xp : Int) = (pb : Int)) = false := decide_eq_false (by omega)
      clear h2
      refine wp_region_noPanic ?_
      go_region_held3 (fun w' => w'.cell? ⟨p, 2, none⟩ = some (.int .i64 (S : Int)) ∧ w'.cell? ⟨p, 0, none⟩ = some (.int .i64 (P : Int))) (exact ⟨Q2.out _ j C1.out.1.drew, Q0.out _ j C1.out.1.drew⟩) (fail)
      refine NoPanic.normal ?_
      have CX := Lib.hid (show CRow _ p 41 (rjCells g j m) ∧ RjR ρ _ p g j m ∧ Btw I w _ from ⟨C1.out.1.drew, C1.out.2.1.below ((Below.refl _ _).drew), C1.out.2.2.drew⟩)
      go_wp2
      go_roundw
      case rel => exact ⟨k + 1, by omega, by go_num, CX, Lib.hid (fun y hy => by
       rcases (mem_take_succ HX.out y).1 hy with h | h
       ·
        exact HA.out y h
       ·
        rw [h]; exact HV.out)⟩
      case measure => simp [intOf]; omega
    ·
     have HV := Lib.hid (show rjoin g row x = false by rw [HXJ.out, decide_eq_false h1]; rfl)
     have m0 : ((xq : Int) == (q : Int)) = false := by simp; omega
     have m1 : ((xq : Int) = (q : Int)) = False := eq_false (by omega)
     have m2 : (xq = q) = False := eq_false h1
     have m3 : decide ((xq : Int) = (q : Int)) = false := decide_eq_false (by omega)
     have m4 : ((xq : Int) != (q : Int)) = true := by simp; omega
     have m5 : (xq != q) = true := by simp; omega
     have m6 : decide (xq = q) = false := decide_eq_false h1
     have m7 : (xq == q) = false := by simp; omega
     clear h1
     refine wp_region_noPanic ?_
     refine wp_region_held_drew (S := fun w' => w'.cell? ⟨p, 2, none⟩ = some (.int .i64 (S : Int)) ∧ w'.cell? ⟨p, 0, none⟩ = some (.int .i64 (P : Int))) (by kernel_rfl) ⟨Q2.out _ j C1.out.1.drew, Q0.out _ j C1.out.1.drew⟩ (fun C0 => ?_)
     refine tkH 0 zT0 _ C0 rfl (by kernel_rfl) rfl (fun W h => by clear h; dsimp only [zT0]; go_simp <;> with_reducible rfl) ?_
     try simp only [zT0, Act.put, zzI, zzO, zzS]
     refine tkH 1 zT1 _ C0 rfl (by kernel_rfl) rfl (fun W h => by clear h; dsimp only [zT1]; go_simp <;> with_reducible rfl) ?_
     try simp only [zT1, Act.put, zzI, zzO, zzS]
     refine tkH 2 zT2 _ C0 rfl (by kernel_rfl) rfl (fun W h => by clear h; dsimp only [zT2]; go_simp <;> with_reducible rfl) ?_
     try simp only [zT2, Act.put, zzI, zzO, zzS]
     refine tkH 3 zT3 _ C0 rfl (by kernel_rfl) rfl (fun W h => by clear h; dsimp only [zT3]; go_simp <;> with_reducible rfl) ?_
     try simp only [zT3, Act.put, zzI, zzO, zzS]
     refine tkH 4 zT4 _ C0 rfl (by kernel_rfl) rfl (fun W h => by clear h; dsimp only [zT4]; go_simp <;> with_reducible rfl) ?_
     try simp only [zT4, Act.put, zzI, zzO, zzS]
     refine tkH 5 zT5 _ C0 rfl (by kernel_rfl) rfl (fun W' hSw => by obtain ⟨x2, x0⟩ := hSw; dsimp only [zT5]; go_simp <;> with_reducible rfl) ?_
     try simp only [zT5, Act.put, zzI, zzO, zzS]
     refine tkH 6 zT6 _ C0 rfl (by kernel_rfl) rfl (fun W h => by clear h; dsimp only [zT6]; go_simp <;> with_reducible rfl) ?_
     try simp only [zT6, Act.put, zzI, zzO, zzS]
     refine tkH 7 zT7 _ C0 rfl (by kernel_rfl) rfl (fun W h => by clear h; dsimp only [zT7]; go_simp <;> with_reducible rfl) ?_
     try simp only [zT7, Act.put, zzI, zzO, zzS]
     refine tkH 8 zT8 _ C0 rfl (by kernel_rfl) rfl (fun W h => by clear h; dsimp only [zT8]; go_simp <;> with_reducible rfl) ?_
     try simp only [zT8, Act.put, zzI, zzO, zzS]
     refine tkH 9 zT9 _ C0 rfl (by kernel_rfl) rfl (fun W h => by clear h; dsimp only [zT9]; go_simp <;> with_reducible rfl) ?_
     try simp only [zT9, Act.put, zzI, zzO, zzS]
     refine tkH 10 zT10 _ C0 rfl (by kernel_rfl) rfl (fun W h => by clear h; dsimp only [zT10]; go_simp <;> with_reducible rfl) ?_
     try simp only [zT10, Act.put, zzI, zzO, zzS]
     refine tkH 11 zT11 _ C0 rfl (by kernel_rfl) rfl (fun W h => by clear h; dsimp only [zT11]; go_simp <;> with_reducible rfl) ?_
     try simp only [zT11, Act.put, zzI, zzO, zzS]
     refine tkH 12 zT12 _ C0 rfl (by kernel_rfl) rfl (fun W' hSw => by obtain ⟨x2, x0⟩ := hSw; dsimp only [zT12]; go_simp <;> with_reducible rfl) ?_
     try simp only [zT12, Act.put, zzI, zzO, zzS]
     refine tkH 13 zT13 _ C0 rfl (by kernel_rfl) rfl (fun W h => by clear h; dsimp only [zT13]; go_simp <;> with_reducible rfl) ?_
     try simp only [zT13, Act.put, zzI, zzO, zzS]
     refine tkH 14 zT14 _ C0 rfl (by kernel_rfl) rfl (fun W h => by clear h; dsimp only [zT14]; go_simp <;> with_reducible rfl) ?_
     try simp only [zT14, Act.put, zzI, zzO, zzS]
     refine tkH 15 zT15 _ C0 rfl (by kernel_rfl) rfl (fun W h => by clear h; dsimp only [zT15]; go_simp <;> with_reducible rfl) ?_
     try simp only [zT15, Act.put, zzI, zzO, zzS]
     refine tkN 16 zT16 C0 rfl (by kernel_rfl) rfl ?_
     try simp only [zT16, Act.put, zzI, zzO, zzS]
     refine tkN 17 zT17 C0 rfl (by kernel_rfl) rfl ?_
     try simp only [zT17, Act.put, zzI, zzO, zzS]
     refine tkN 18 zT18 C0 rfl (by kernel_rfl) rfl ?_
     try simp only [zT18, Act.put, zzI, zzO, zzS]
     refine tkN 19 zT19 C0 rfl (by kernel_rfl) rfl ?_
     try simp only [zT19, Act.put, zzI, zzO, zzS]
     refine tkN 20 zT20 C0 rfl (by kernel_rfl) rfl ?_
     try simp only [zT20, Act.put, zzI, zzO, zzS]
     refine tkN 21 zT21 C0 rfl (by kernel_rfl) rfl ?_
     try simp only [zT21, Act.put, zzI, zzO, zzS]
     refine tkN 22 zT22 C0 rfl (by kernel_rfl) rfl ?_
     try simp only [zT22, Act.put, zzI, zzO, zzS]
     refine tkN 23 zT23 C0 rfl (by kernel_rfl) rfl ?_
     try simp only [zT23, Act.put, zzI, zzO, zzS]
     refine tkN 24 zT24 C0 rfl (by kernel_rfl) rfl ?_
     try simp only [zT24, Act.put, zzI, zzO, zzS]
     refine tkN 25 zT25 C0 rfl (by kernel_rfl) rfl ?_
     try simp only [zT25, Act.put, zzI, zzO, zzS]
     refine tkN 26 zT26 C0 rfl (by kernel_rfl) rfl ?_
     try simp only [zT26, Act.put, zzI, zzO, zzS]
     refine tkN 27 zT27 C0 rfl (by kernel_rfl) rfl ?_
     try simp only [zT27, Act.put, zzI, zzO, zzS]
     refine tkN 28 zT28 C0 rfl (by kernel_rfl) rfl ?_
     try simp only [zT28, Act.put, zzI, zzO, zzS]
     refine tkN 29 zT29 C0 rfl (by kernel_rfl) rfl ?_
     try simp only [zT29, Act.put, zzI, zzO, zzS]
     refine tkN 30 zT30 C0 rfl (by kernel_rfl) rfl ?_
     try simp only [zT30, Act.put, zzI, zzO, zzS]
     refine tkN 31 zT31 C0 rfl (by kernel_rfl) rfl ?_
     try simp only [zT31, Act.put, zzI, zzO, zzS]
     refine tkN 32 zT32 C0 rfl (by kernel_rfl) rfl ?_
     try simp only [zT32, Act.put, zzI, zzO, zzS]
     refine tkN 33 zT33 C0 rfl (by kernel_rfl) rfl ?_
     try simp only [zT33, Act.put, zzI, zzO, zzS]
     refine tkN 34 zT34 C0 rfl (by kernel_rfl) rfl ?_
     try simp only [zT34, Act.put, zzI, zzO, zzS]
     refine tkN 35 zT35 C0 rfl (by kernel_rfl) rfl ?_
     try simp only [zT35, Act.put, zzI, zzO, zzS]
     refine tkN 36 zT36 C0 rfl (by kernel_rfl) rfl ?_
     try simp only [zT36, Act.put, zzI, zzO, zzS]
     refine tkH 37 zT37 _ C0 rfl (by kernel_rfl) rfl (fun W h => by clear h; dsimp only [zT37]; go_simp <;> with_reducible rfl) ?_
     try simp only [zT37, Act.put, zzI, zzO, zzS]
     refine wpAnyH_done (by kernel_rfl) ?_ _
     refine NoPanic.normal ?_
     have CX := Lib.hid (show CRow _ p 41 (rjCells g j m) ∧ RjR ρ _ p g j m ∧ Btw I w _ from ⟨C1.out.1.drew, C1.out.2.1.below ((Below.refl _ _).drew), C1.out.2.2.drew⟩)
     have HR := Lib.hid (show j.rload g 16 = (false, j) by rw [HRL.out, if_pos (fun h => by rw [List.all_eq_true] at h; have := h x (List.mem_of_getElem? HX.out); rw [HV.out] at this; cases this)])
     go_wp2; go_ret; rw [HR.out]; exact ⟨rfl, ⟨ρ, m, (CX.out).1, (CX.out).2.1, I0.out, fun k hk => N0.out k (Nat.le_trans (CX.out).2.2.size hk)⟩, CX.out.2.2⟩
   ·
    obtain rfl : k = n := by omega
    have d1 : decide ((k : Int) < (k : Int)) = false := decide_eq_false (by omega)
    have CX := C1
    have HRL2 := Lib.hid (show j.rload g 16 = _ from HRL.out.trans (if_neg (not_not_intro (by rw [List.all_eq_true]; intro x hx; exact HA.out x (by rw [HN.out, List.take_length]; exact hx)))))
    have x15 := Q15.out _ CX.out.1
    have x16 := Q16.out _ CX.out.1
    clear C1 HA
    cases bg with
    | true =>
     by_cases hb2 : b = bb
     ·
      skip
      have n0 : ((b : Int) == (bb : Int)) = true := by simp; omega
      have n1 : ((b : Int) = (bb : Int)) = True := eq_true (by omega)
      have n2 : (b = bb) = True := eq_true (by omega)
      have n3 : decide ((b : Int) = (bb : Int)) = true := decide_eq_true (by omega)
      have HR := Lib.hid (show j.rload g 16 = (true, Jd.start ({ j with data := false, la := fun x => if x = b then (q : Int) else j.la x, pr := fun x => if x = row then j.pr x + 1 else j.pr x, rows := [] } : Jd)) by
       rw [HRL2.out, if_neg (by simp [← HBG.out, ← HBB.out, hb2])]
       rfl)
      clear hb2
            
      have x17 := CX.out.1.cell_at 17 (.bool j.data) rfl
      have f17 := CX.out.1.frozen 17
      have S1 := Lib.hid (CX.out.1.setCell 17 (.bool false))
      have S1K := Lib.hid ((Btw.refl (I := fun k => k = p) wr).setCell (p := ⟨p, 17, none⟩) (v := .bool false) rfl)
      have C1 := Lib.hid (show CRow (wr.setCell ⟨p, 17, none⟩ (.bool false)) p 41 (rjCells g ({ j with data := false } : Jd) m) ∧ RjR ρ (wr.setCell ⟨p, 17, none⟩ (.bool false)) p g ({ j with data := false } : Jd) m ∧ Btw I w (wr.setCell ⟨p, 17, none⟩ (.bool false)) from
       ⟨by have h0 := S1.out; simpa [rjCells] using h0, (fun (h : RjR ρ _ p g j m) => ({ h with  } : RjR ρ _ p g ({ j with data := false } : Jd) m)) (CX.out.2.1.btw S1K.out fun k e => .inr (by have e : k = p := e; rw [e]; exact CX.out.2.1.rp)), CX.out.2.2.trans S1K.out fun k _ e => I0.out k (by have e : k = p := e; rw [e, CX.out.2.1.rp]; decide)⟩)
      go_wp2_with fail
      clear x15 x16 x19
      obtain ⟨w1, hw1⟩ : ∃ w1, w1 = wr.setCell ⟨p, 17, none⟩ (.bool false) := ⟨_, rfl⟩
      rw [← hw1] at C1
      try rw [← hw1]
      clear hw1
      clear x17 f17
      refine wp_region_noPanic ?_
      refine wp_region_held_drew (S := fun w' => w'.cell? ⟨p, 8, none⟩ = some (.slice (some ⟨m.l, 0, none⟩) NB m.cl) ∧ w'.cell? ⟨p, 2, none⟩ = some (.int .i64 (S : Int))) (by kernel_rfl) ⟨Q8.out _ ({ j with data := false } : Jd) C1.out.1.drew, Q2.out _ ({ j with data := false } : Jd) C1.out.1.drew⟩ (fun C0 => ?_)
      refine tkH 0 zT38 _ C0 rfl (by kernel_rfl) rfl (fun W h => by clear h; dsimp only [zT38]; go_simp <;> with_reducible rfl) ?_
      try simp only [zT38, Act.put, zzI, zzO, zzS]
      refine tkH 1 zT39 _ C0 rfl (by kernel_rfl) rfl (fun W h => by clear h; dsimp only [zT39]; go_simp <;> with_reducible rfl) ?_
      try simp only [zT39, Act.put, zzI, zzO, zzS]
      refine tkH 2 zT40 _ C0 rfl (by kernel_rfl) rfl (fun W h => by clear h; dsimp only [zT40]; go_simp <;> with_reducible rfl) ?_
      try simp only [zT40, Act.put, zzI, zzO, zzS]
      refine tkH 3 zT41 _ C0 rfl (by kernel_rfl) rfl (fun W' hSw => by obtain ⟨x8, x2⟩ := hSw; dsimp only [zT41]; go_simp <;> with_reducible rfl) ?_
      try simp only [zT41, Act.put, zzI, zzO, zzS]
      refine tkH 4 zT42 _ C0 rfl (by kernel_rfl) rfl (fun W h => by clear h; dsimp only [zT42]; go_simp <;> with_reducible rfl) ?_
      try simp only [zT42, Act.put, zzI, zzO, zzS]
      refine tkH 5 zT43 _ C0 rfl (by kernel_rfl) rfl (fun W h => by clear h; dsimp only [zT43]; go_simp <;> with_reducible rfl) ?_
      try simp only [zT43, Act.put, zzI, zzO, zzS]
      refine tkH 6 zT44 _ C0 rfl (by kernel_rfl) rfl (fun W h => by clear h; dsimp only [zT44]; go_simp <;> with_reducible rfl) ?_
      try simp only [zT44, Act.put, zzI, zzO, zzS]
      refine tkH 7 zT45 _ C0 rfl (by kernel_rfl) rfl (fun W h => by clear h; dsimp only [zT45]; go_simp <;> with_reducible rfl) ?_
      try simp only [zT45, Act.put, zzI, zzO, zzS]
      refine tkH 8 zT46 _ C0 rfl (by kernel_rfl) rfl (fun W h => by clear h; dsimp only [zT46]; go_simp <;> with_reducible rfl) ?_
      try simp only [zT46, Act.put, zzI, zzO, zzS]
      refine tkH 9 zT47 _ C0 rfl (by kernel_rfl) rfl (fun W h => by clear h; dsimp only [zT47]; go_simp <;> with_reducible rfl) ?_
      try simp only [zT47, Act.put, zzI, zzO, zzS]
      refine tkH 10 zT48 _ C0 rfl (by kernel_rfl) rfl (fun W' hSw => by obtain ⟨x8, x2⟩ := hSw; dsimp only [zT48]; go_simp <;> with_reducible rfl) ?_
      try simp only [zT48, Act.put, zzI, zzO, zzS]
      refine tkH 11 zT49 _ C0 rfl (by kernel_rfl) rfl (fun W h => by clear h; dsimp only [zT49]; go_simp <;> with_reducible rfl) ?_
      try simp only [zT49, Act.put, zzI, zzO, zzS]
      refine tkH 12 zT50 _ C0 rfl (by kernel_rfl) rfl (fun W h => by clear h; dsimp only [zT50]; go_simp <;> with_reducible rfl) ?_
      try simp only [zT50, Act.put, zzI, zzO, zzS]
      refine wpAnyH_ready (rs := [13]) (by kernel_rfl) (by simp) ?_
      refine AllReadyH.cons (o := zTc0) rfl (fun K hK => ?_) AllReadyH.nil
      dsimp only [zTc0]
      have ce := C1.out.2.1.cl
      have f0 := ce.frozen b
      have hb0 : laF g ({ j with data := false } : Jd) b = some (.int .i64 (j.la b)) := if_pos HBN.out
      have e0 := ce.cell hb0
      go_simp
      have hq := RJ.set_la (i := b) (la' := ({ j with data := false, la := fun x => if x = b then (q : Int) else j.la x } : Jd).la) C1.out.1.drew (C1.out.2.1.below ((Below.refl _ _).drew)) (by rw [hb0]; rfl) (fun x hx => if_neg hx)
      rw [show ({ j with data := false, la := fun x => if x = b then (q : Int) else j.la x } : Jd).la b = (q : Int) from if_pos rfl] at hq
      have C2 := Lib.hid (show CRow _ p 41 (rjCells g ({ j with data := false, la := fun x => if x = b then (q : Int) else j.la x } : Jd) m) ∧ RjR ρ _ p g ({ j with data := false, la := fun x => if x = b then (q : Int) else j.la x } : Jd) m ∧ Btw I w _ from ⟨hq.1, hq.2.1, C1.out.2.2.drew.trans hq.2.2 fun x _ e => I0.out x (by have e : x = m.l := e; rw [e, C1.out.2.1.rl]; decide)⟩)
      clear hq f0 e0 ce hb0
      refine hK.out _ _ ⟨Q8.out _ ({ j with data := false, la := fun x => if x = b then (q : Int) else j.la x } : Jd) C2.out.1, Q2.out _ ({ j with data := false, la := fun x => if x = b then (q : Int) else j.la x } : Jd) C2.out.1⟩ (fun C1 => ?_)
      clear hK K
      try simp only [Act.put]
      refine wpAnyH_done (by kernel_rfl) ?_ _
      refine NoPanic.normal ?_
      have C2 := Lib.hid (show CRow ((w1.setCell ⟨m.l, b, none⟩ (.int .i64 (q : Int))).drew) p 41 (rjCells g ({ j with data := false, la := fun x => if x = b then (q : Int) else j.la x } : Jd) m) ∧ RjR ρ ((w1.setCell ⟨m.l, b, none⟩ (.int .i64 (q : Int))).drew) p g ({ j with data := false, la := fun x => if x = b then (q : Int) else j.la x } : Jd) m ∧ Btw I w ((w1.setCell ⟨m.l, b, none⟩ (.int .i64 (q : Int))).drew) from C2.out)
      go_wp2_with fail
      obtain ⟨w2, hw2⟩ : ∃ w2, w2 = (w1.setCell ⟨m.l, b, none⟩ (.int .i64 (q : Int))).drew := ⟨_, rfl⟩
      rw [← hw2] at C2
      rw [← hw2]
      clear hw2
      refine wp_region_noPanic ?_
      refine wp_region_held_drew (S := fun w' => w'.cell? ⟨p, 9, none⟩ = some (.slice (some ⟨m.q, 0, none⟩) R m.cq)) (by kernel_rfl) (Q9.out _ ({ j with data := false, la := fun x => if x = b then (q : Int) else j.la x } : Jd) C2.out.1.drew) (fun C0 => ?_)
      refine tkH 0 zT51 _ C0 rfl (by kernel_rfl) rfl (fun W h => by clear h; dsimp only [zT51]; go_simp <;> with_reducible rfl) ?_
      try simp only [zT51, Act.put, zzI, zzO, zzS]
      refine tkH 1 zT52 _ C0 rfl (by kernel_rfl) rfl (fun W h => by clear h; dsimp only [zT52]; go_simp <;> with_reducible rfl) ?_
      try simp only [zT52, Act.put, zzI, zzO, zzS]
      refine tkH 2 zT53 _ C0 rfl (by kernel_rfl) rfl (fun W h => by clear h; dsimp only [zT53]; go_simp <;> with_reducible rfl) ?_
      try simp only [zT53, Act.put, zzI, zzO, zzS]
      refine tkH 3 zT54 _ C0 rfl (by kernel_rfl) rfl (fun W' hSw => by have x9 := hSw; dsimp only [zT54]; go_simp <;> with_reducible rfl) ?_
      try simp only [zT54, Act.put, zzI, zzO, zzS]
      refine tkH 4 zT55 _ C0 rfl (by kernel_rfl) rfl (fun W h => by clear h; dsimp only [zT55]; go_simp <;> with_reducible rfl) ?_
      try simp only [zT55, Act.put, zzI, zzO, zzS]
      refine tkH 5 zT56 _ C0 rfl (by kernel_rfl) rfl (fun W h => by clear h; dsimp only [zT56]; go_simp <;> with_reducible rfl) ?_
      try simp only [zT56, Act.put, zzI, zzO, zzS]
      refine tkH 6 zT57 _ C0 rfl (by kernel_rfl) rfl (fun W h => by clear h; dsimp only [zT57]; go_simp <;> with_reducible rfl) ?_
      try simp only [zT57, Act.put, zzI, zzO, zzS]
      refine tkH 7 zT58 _ C0 rfl (by kernel_rfl) rfl (fun W h => by clear h; dsimp only [zT58]; go_simp <;> with_reducible rfl) ?_
      try simp only [zT58, Act.put, zzI, zzO, zzS]
      refine tkH 8 zT59 _ C0 rfl (by kernel_rfl) rfl (fun W' hSw => by have x9 := hSw; dsimp only [zT59]; go_simp <;> with_reducible rfl) ?_
      try simp only [zT59, Act.put, zzI, zzO, zzS]
      refine tkH 9 zT60 _ C0 rfl (by kernel_rfl) rfl (fun W h => by clear h; dsimp only [zT60]; go_simp <;> with_reducible rfl) ?_
      try simp only [zT60, Act.put, zzI, zzO, zzS]
      refine tkH 10 zT61 _ C0 rfl (by kernel_rfl) rfl (fun W h => by clear h; dsimp only [zT61]; go_simp <;> with_reducible rfl) ?_
      try simp only [zT61, Act.put, zzI, zzO, zzS]
      refine wpAnyH_ready (rs := [11]) (by kernel_rfl) (by simp) ?_
      refine AllReadyH.cons (o := zTc1) rfl (fun K hK => ?_) AllReadyH.nil
      dsimp only [zTc1]
      have e0 : w2.drew.cell? ⟨m.q, row, none⟩ = some (.int .i64 ((j.pr row : Nat) : Int)) := C2.out.2.1.cq.cell (if_pos HRN.out)
      go_simp
      clear e0
      refine hK.out _ _ (Q9.out _ ({ j with data := false, la := fun x => if x = b then (q : Int) else j.la x } : Jd) C2.out.1.drew) (fun C1 => ?_)
      clear hK K
      try simp only [Act.put, zzI, zzO, zzS]
      refine tkH 12 zT62 _ C1 rfl (by kernel_rfl) rfl (fun W h => by clear h; dsimp only [zT62]; go_simp <;> with_reducible rfl) ?_
      try simp only [zT62, Act.put, zzI, zzO, zzS]
      refine tkH 13 zT63 _ C1 rfl (by kernel_rfl) rfl (fun W h => by clear h; dsimp only [zT63]; go_simp <;> with_reducible rfl) ?_
      try simp only [zT63, Act.put, zzI, zzO, zzS]
      refine wpAnyH_ready (rs := [14]) (by kernel_rfl) (by simp) ?_
      refine AllReadyH.cons (o := zTc2) rfl (fun K hK => ?_) AllReadyH.nil
      dsimp only [zTc2]
      have ce := C2.out.2.1.cq
      have f0 := ce.frozen row
      have hb0 : prF g ({ j with data := false, la := fun x => if x = b then (q : Int) else j.la x } : Jd) row = some (.int .i64 ((j.pr row : Nat) : Int)) := if_pos HRN.out
      have e0 := ce.cell hb0
      go_simp
      have hq := RJ.set_pr (i := row) (pr' := ({ j with data := false, la := fun x => if x = b then (q : Int) else j.la x, pr := fun x => if x = row then j.pr x + 1 else j.pr x } : Jd).pr) C2.out.1.drew (C2.out.2.1.below ((Below.refl _ _).drew)) (by rw [hb0]; rfl) (fun x hx => if_neg hx)
      rw [show ({ j with data := false, la := fun x => if x = b then (q : Int) else j.la x, pr := fun x => if x = row then j.pr x + 1 else j.pr x } : Jd).pr row = j.pr row + 1 from if_pos rfl, show ((j.pr row + 1 : Nat) : Int) = (j.pr row : Int) + 1 from rfl] at hq
      have C3 := Lib.hid (show CRow _ p 41 (rjCells g ({ j with data := false, la := fun x => if x = b then (q : Int) else j.la x, pr := fun x => if x = row then j.pr x + 1 else j.pr x } : Jd) m) ∧ RjR ρ _ p g ({ j with data := false, la := fun x => if x = b then (q : Int) else j.la x, pr := fun x => if x = row then j.pr x + 1 else j.pr x } : Jd) m ∧ Btw I w _ from ⟨hq.1, hq.2.1, C2.out.2.2.drew.trans hq.2.2 fun x _ e => I0.out x (by have e : x = m.q := e; rw [e, C2.out.2.1.rq]; decide)⟩)
      clear hq f0 e0 ce hb0
      refine hK.out _ _ (Q9.out _ ({ j with data := false, la := fun x => if x = b then (q : Int) else j.la x, pr := fun x => if x = row then j.pr x + 1 else j.pr x } : Jd) C3.out.1) (fun C2 => ?_)
      clear hK K
      try simp only [Act.put]
      refine wpAnyH_done (by kernel_rfl) ?_ _
      refine NoPanic.normal ?_
      have C3 := Lib.hid (show CRow ((w2.setCell ⟨m.q, row, none⟩ (.int .i64 (((j.pr row : Nat) : Int) + 1))).drew) p 41 (rjCells g ({ j with data := false, la := fun x => if x = b then (q : Int) else j.la x, pr := fun x => if x = row then j.pr x + 1 else j.pr x } : Jd) m) ∧ RjR ρ ((w2.setCell ⟨m.q, row, none⟩ (.int .i64 (((j.pr row : Nat) : Int) + 1))).drew) p g ({ j with data := false, la := fun x => if x = b then (q : Int) else j.la x, pr := fun x => if x = row then j.pr x + 1 else j.pr x } : Jd) m ∧ Btw I w ((w2.setCell ⟨m.q, row, none⟩ (.int .i64 (((j.pr row : Nat) : Int) + 1))).drew) from C3.out)
      obtain ⟨w3, hw3⟩ : ∃ w3, w3 = (w2.setCell ⟨m.q, row, none⟩ (.int .i64 (((j.pr row : Nat) : Int) + 1))).drew := ⟨_, rfl⟩
      rw [← hw3] at C3
      rw [← hw3]
      clear hw3
      have x19 := C3.out.1.cell_at 19 (.slice m.aR j.rows.length m.cR) rfl
      have f19 := C3.out.1.frozen 19
      have S4 := Lib.hid (C3.out.1.setCell 19 (.slice none 0 0))
      have S4K := Lib.hid ((Btw.refl (I := fun k => k = p) w3).setCell (p := ⟨p, 19, none⟩) (v := .slice none 0 0) rfl)
      have C4 := Lib.hid (show CRow (w3.setCell ⟨p, 19, none⟩ (.slice none 0 0)) p 41 (rjCells g ({ j with data := false, la := fun x => if x = b then (q : Int) else j.la x, pr := fun x => if x = row then j.pr x + 1 else j.pr x, rows := [] } : Jd) ({ m with aR := none, cR := 0 } : RjM)) ∧ RjR ρ (w3.setCell ⟨p, 19, none⟩ (.slice none 0 0)) p g ({ j with data := false, la := fun x => if x = b then (q : Int) else j.la x, pr := fun x => if x = row then j.pr x + 1 else j.pr x, rows := [] } : Jd) ({ m with aR := none, cR := 0 } : RjM) ∧ Btw I w (w3.setCell ⟨p, 19, none⟩ (.slice none 0 0)) from
       ⟨by have h0 := S4.out; simpa [rjCells] using h0, (fun (h : RjR ρ _ p g ({ j with data := false, la := fun x => if x = b then (q : Int) else j.la x, pr := fun x => if x = row then j.pr x + 1 else j.pr x } : Jd) m) => ({ h with row := ⟨rfl, .inl ⟨rfl, rfl⟩⟩, rR := fun k hk => (by cases hk) } : RjR ρ _ p g ({ j with data := false, la := fun x => if x = b then (q : Int) else j.la x, pr := fun x => if x = row then j.pr x + 1 else j.pr x, rows := [] } : Jd) ({ m with aR := none, cR := 0 } : RjM))) (C3.out.2.1.btw S4K.out fun k e => .inr (by have e : k = p := e; rw [e]; exact C3.out.2.1.rp)), C3.out.2.2.trans S4K.out fun k _ e => I0.out k (by have e : k = p := e; rw [e, C3.out.2.1.rp]; decide)⟩)
      have HST := Lib.hid (rstart (j := ({ j with data := false, la := fun x => if x = b then (q : Int) else j.la x, pr := fun x => if x = row then j.pr x + 1 else j.pr x, rows := [] } : Jd)) ⟨ρ, ({ m with aR := none, cR := 0 } : RjM), (C4.out).1, (C4.out).2.1, I0.out, fun k hk => N0.out k (Nat.le_trans (C4.out).2.2.size hk)⟩)
      go_wp2_with fail
      refine HST.out.mono ?_
      rintro _ w9 ⟨rfl, h9, b9⟩
      have H9 := Lib.hid h9
      have B9 := Lib.hid (C4.out.2.2.trans b9 fun _ _ h => h)
      clear h9 b9 HST
      go_wp2
      go_ret
      rw [HR.out]
      exact ⟨rfl, H9.out, B9.out⟩
     ·
      skip
      have n0 : ((b : Int) == (bb : Int)) = false := by simp; omega
      have n1 : ((b : Int) = (bb : Int)) = False := eq_false (by omega)
      have n2 : (b = bb) = False := eq_false (by omega)
      have n3 : decide ((b : Int) = (bb : Int)) = false := decide_eq_false (by omega)
      have HR := Lib.hid (show j.rload g 16 = (false, j) by rw [HRL2.out, if_pos (by simp [← HBG.out, ← HBB.out, hb2])])
      clear hb2
      go_wp2
      go_ret
      rw [HR.out]
      exact ⟨rfl, ⟨ρ, m, (CX.out).1, (CX.out).2.1, I0.out, fun k hk => N0.out k (Nat.le_trans (CX.out).2.2.size hk)⟩, CX.out.2.2⟩
    | false =>
     have HR := Lib.hid (show j.rload g 16 = (true, Jd.start ({ j with data := false, la := fun x => if x = b then (q : Int) else j.la x, pr := fun x => if x = row then j.pr x + 1 else j.pr x, rows := [] } : Jd)) by
      rw [HRL2.out, if_neg (by simp [← HBG.out, ← HBB.out])]
      rfl)
          
     have x17 := CX.out.1.cell_at 17 (.bool j.data) rfl
     have f17 := CX.out.1.frozen 17
     have S1 := Lib.hid (CX.out.1.setCell 17 (.bool false))
     have S1K := Lib.hid ((Btw.refl (I := fun k => k = p) wr).setCell (p := ⟨p, 17, none⟩) (v := .bool false) rfl)
     have C1 := Lib.hid (show CRow (wr.setCell ⟨p, 17, none⟩ (.bool false)) p 41 (rjCells g ({ j with data := false } : Jd) m) ∧ RjR ρ (wr.setCell ⟨p, 17, none⟩ (.bool false)) p g ({ j with data := false } : Jd) m ∧ Btw I w (wr.setCell ⟨p, 17, none⟩ (.bool false)) from
      ⟨by have h0 := S1.out; simpa [rjCells] using h0, (fun (h : RjR ρ _ p g j m) => ({ h with  } : RjR ρ _ p g ({ j with data := false } : Jd) m)) (CX.out.2.1.btw S1K.out fun k e => .inr (by have e : k = p := e; rw [e]; exact CX.out.2.1.rp)), CX.out.2.2.trans S1K.out fun k _ e => I0.out k (by have e : k = p := e; rw [e, CX.out.2.1.rp]; decide)⟩)
     go_wp2_with fail
     clear x15 x16 x19
     obtain ⟨w1, hw1⟩ : ∃ w1, w1 = wr.setCell ⟨p, 17, none⟩ (.bool false) := ⟨_, rfl⟩
     rw [← hw1] at C1
     try rw [← hw1]
     clear hw1
     clear x17 f17
     refine wp_region_noPanic ?_
     refine wp_region_held_drew (S := fun w' => w'.cell? ⟨p, 8, none⟩ = some (.slice (some ⟨m.l, 0, none⟩) NB m.cl) ∧ w'.cell? ⟨p, 2, none⟩ = some (.int .i64 (S : Int))) (by kernel_rfl) ⟨Q8.out _ ({ j with data := false } : Jd) C1.out.1.drew, Q2.out _ ({ j with data := false } : Jd) C1.out.1.drew⟩ (fun C0 => ?_)
     refine tkH 0 zT38 _ C0 rfl (by kernel_rfl) rfl (fun W h => by clear h; dsimp only [zT38]; go_simp <;> with_reducible rfl) ?_
     try simp only [zT38, Act.put, zzI, zzO, zzS]
     refine tkH 1 zT39 _ C0 rfl (by kernel_rfl) rfl (fun W h => by clear h; dsimp only [zT39]; go_simp <;> with_reducible rfl) ?_
     try simp only [zT39, Act.put, zzI, zzO, zzS]
     refine tkH 2 zT40 _ C0 rfl (by kernel_rfl) rfl (fun W h => by clear h; dsimp only [zT40]; go_simp <;> with_reducible rfl) ?_
     try simp only [zT40, Act.put, zzI, zzO, zzS]
     refine tkH 3 zT41 _ C0 rfl (by kernel_rfl) rfl (fun W' hSw => by obtain ⟨x8, x2⟩ := hSw; dsimp only [zT41]; go_simp <;> with_reducible rfl) ?_
     try simp only [zT41, Act.put, zzI, zzO, zzS]
     refine tkH 4 zT42 _ C0 rfl (by kernel_rfl) rfl (fun W h => by clear h; dsimp only [zT42]; go_simp <;> with_reducible rfl) ?_
     try simp only [zT42, Act.put, zzI, zzO, zzS]
     refine tkH 5 zT43 _ C0 rfl (by kernel_rfl) rfl (fun W h => by clear h; dsimp only [zT43]; go_simp <;> with_reducible rfl) ?_
     try simp only [zT43, Act.put, zzI, zzO, zzS]
     refine tkH 6 zT44 _ C0 rfl (by kernel_rfl) rfl (fun W h => by clear h; dsimp only [zT44]; go_simp <;> with_reducible rfl) ?_
     try simp only [zT44, Act.put, zzI, zzO, zzS]
     refine tkH 7 zT45 _ C0 rfl (by kernel_rfl) rfl (fun W h => by clear h; dsimp only [zT45]; go_simp <;> with_reducible rfl) ?_
     try simp only [zT45, Act.put, zzI, zzO, zzS]
     refine tkH 8 zT46 _ C0 rfl (by kernel_rfl) rfl (fun W h => by clear h; dsimp only [zT46]; go_simp <;> with_reducible rfl) ?_
     try simp only [zT46, Act.put, zzI, zzO, zzS]
     refine tkH 9 zT47 _ C0 rfl (by kernel_rfl) rfl (fun W h => by clear h; dsimp only [zT47]; go_simp <;> with_reducible rfl) ?_
     try simp only [zT47, Act.put, zzI, zzO, zzS]
     refine tkH 10 zT48 _ C0 rfl (by kernel_rfl) rfl (fun W' hSw => by obtain ⟨x8, x2⟩ := hSw; dsimp only [zT48]; go_simp <;> with_reducible rfl) ?_
     try simp only [zT48, Act.put, zzI, zzO, zzS]
     refine tkH 11 zT49 _ C0 rfl (by kernel_rfl) rfl (fun W h => by clear h; dsimp only [zT49]; go_simp <;> with_reducible rfl) ?_
     try simp only [zT49, Act.put, zzI, zzO, zzS]
     refine tkH 12 zT50 _ C0 rfl (by kernel_rfl) rfl (fun W h => by clear h; dsimp only [zT50]; go_simp <;> with_reducible rfl) ?_
     try simp only [zT50, Act.put, zzI, zzO, zzS]
     refine wpAnyH_ready (rs := [13]) (by kernel_rfl) (by simp) ?_
     refine AllReadyH.cons (o := zTc0) rfl (fun K hK => ?_) AllReadyH.nil
     dsimp only [zTc0]
     have ce := C1.out.2.1.cl
     have f0 := ce.frozen b
     have hb0 : laF g ({ j with data := false } : Jd) b = some (.int .i64 (j.la b)) := if_pos HBN.out
     have e0 := ce.cell hb0
     go_simp
     have hq := RJ.set_la (i := b) (la' := ({ j with data := false, la := fun x => if x = b then (q : Int) else j.la x } : Jd).la) C1.out.1.drew (C1.out.2.1.below ((Below.refl _ _).drew)) (by rw [hb0]; rfl) (fun x hx => if_neg hx)
     rw [show ({ j with data := false, la := fun x => if x = b then (q : Int) else j.la x } : Jd).la b = (q : Int) from if_pos rfl] at hq
     have C2 := Lib.hid (show CRow _ p 41 (rjCells g ({ j with data := false, la := fun x => if x = b then (q : Int) else j.la x } : Jd) m) ∧ RjR ρ _ p g ({ j with data := false, la := fun x => if x = b then (q : Int) else j.la x } : Jd) m ∧ Btw I w _ from ⟨hq.1, hq.2.1, C1.out.2.2.drew.trans hq.2.2 fun x _ e => I0.out x (by have e : x = m.l := e; rw [e, C1.out.2.1.rl]; decide)⟩)
     clear hq f0 e0 ce hb0
     refine hK.out _ _ ⟨Q8.out _ ({ j with data := false, la := fun x => if x = b then (q : Int) else j.la x } : Jd) C2.out.1, Q2.out _ ({ j with data := false, la := fun x => if x = b then (q : Int) else j.la x } : Jd) C2.out.1⟩ (fun C1 => ?_)
     clear hK K
     try simp only [Act.put]
     refine wpAnyH_done (by kernel_rfl) ?_ _
     refine NoPanic.normal ?_
     have C2 := Lib.hid (show CRow ((w1.setCell ⟨m.l, b, none⟩ (.int .i64 (q : Int))).drew) p 41 (rjCells g ({ j with data := false, la := fun x => if x = b then (q : Int) else j.la x } : Jd) m) ∧ RjR ρ ((w1.setCell ⟨m.l, b, none⟩ (.int .i64 (q : Int))).drew) p g ({ j with data := false, la := fun x => if x = b then (q : Int) else j.la x } : Jd) m ∧ Btw I w ((w1.setCell ⟨m.l, b, none⟩ (.int .i64 (q : Int))).drew) from C2.out)
     go_wp2_with fail
     obtain ⟨w2, hw2⟩ : ∃ w2, w2 = (w1.setCell ⟨m.l, b, none⟩ (.int .i64 (q : Int))).drew := ⟨_, rfl⟩
     rw [← hw2] at C2
     rw [← hw2]
     clear hw2
     refine wp_region_noPanic ?_
     refine wp_region_held_drew (S := fun w' => w'.cell? ⟨p, 9, none⟩ = some (.slice (some ⟨m.q, 0, none⟩) R m.cq)) (by kernel_rfl) (Q9.out _ ({ j with data := false, la := fun x => if x = b then (q : Int) else j.la x } : Jd) C2.out.1.drew) (fun C0 => ?_)
     refine tkH 0 zT51 _ C0 rfl (by kernel_rfl) rfl (fun W h => by clear h; dsimp only [zT51]; go_simp <;> with_reducible rfl) ?_
     try simp only [zT51, Act.put, zzI, zzO, zzS]
     refine tkH 1 zT52 _ C0 rfl (by kernel_rfl) rfl (fun W h => by clear h; dsimp only [zT52]; go_simp <;> with_reducible rfl) ?_
     try simp only [zT52, Act.put, zzI, zzO, zzS]
     refine tkH 2 zT53 _ C0 rfl (by kernel_rfl) rfl (fun W h => by clear h; dsimp only [zT53]; go_simp <;> with_reducible rfl) ?_
     try simp only [zT53, Act.put, zzI, zzO, zzS]
     refine tkH 3 zT54 _ C0 rfl (by kernel_rfl) rfl (fun W' hSw => by have x9 := hSw; dsimp only [zT54]; go_simp <;> with_reducible rfl) ?_
     try simp only [zT54, Act.put, zzI, zzO, zzS]
     refine tkH 4 zT55 _ C0 rfl (by kernel_rfl) rfl (fun W h => by clear h; dsimp only [zT55]; go_simp <;> with_reducible rfl) ?_
     try simp only [zT55, Act.put, zzI, zzO, zzS]
     refine tkH 5 zT56 _ C0 rfl (by kernel_rfl) rfl (fun W h => by clear h; dsimp only [zT56]; go_simp <;> with_reducible rfl) ?_
     try simp only [zT56, Act.put, zzI, zzO, zzS]
     refine tkH 6 zT57 _ C0 rfl (by kernel_rfl) rfl (fun W h => by clear h; dsimp only [zT57]; go_simp <;> with_reducible rfl) ?_
     try simp only [zT57, Act.put, zzI, zzO, zzS]
     refine tkH 7 zT58 _ C0 rfl (by kernel_rfl) rfl (fun W h => by clear h; dsimp only [zT58]; go_simp <;> with_reducible rfl) ?_
     try simp only [zT58, Act.put, zzI, zzO, zzS]
     refine tkH 8 zT59 _ C0 rfl (by kernel_rfl) rfl (fun W' hSw => by have x9 := hSw; dsimp only [zT59]; go_simp <;> with_reducible rfl) ?_
     try simp only [zT59, Act.put, zzI, zzO, zzS]
     refine tkH 9 zT60 _ C0 rfl (by kernel_rfl) rfl (fun W h => by clear h; dsimp only [zT60]; go_simp <;> with_reducible rfl) ?_
     try simp only [zT60, Act.put, zzI, zzO, zzS]
     refine tkH 10 zT61 _ C0 rfl (by kernel_rfl) rfl (fun W h => by clear h; dsimp only [zT61]; go_simp <;> with_reducible rfl) ?_
     try simp only [zT61, Act.put, zzI, zzO, zzS]
     refine wpAnyH_ready (rs := [11]) (by kernel_rfl) (by simp) ?_
     refine AllReadyH.cons (o := zTc1) rfl (fun K hK => ?_) AllReadyH.nil
     dsimp only [zTc1]
     have e0 : w2.drew.cell? ⟨m.q, row, none⟩ = some (.int .i64 ((j.pr row : Nat) : Int)) := C2.out.2.1.cq.cell (if_pos HRN.out)
     go_simp
     clear e0
     refine hK.out _ _ (Q9.out _ ({ j with data := false, la := fun x => if x = b then (q : Int) else j.la x } : Jd) C2.out.1.drew) (fun C1 => ?_)
     clear hK K
     try simp only [Act.put, zzI, zzO, zzS]
     refine tkH 12 zT62 _ C1 rfl (by kernel_rfl) rfl (fun W h => by clear h; dsimp only [zT62]; go_simp <;> with_reducible rfl) ?_
     try simp only [zT62, Act.put, zzI, zzO, zzS]
     refine tkH 13 zT63 _ C1 rfl (by kernel_rfl) rfl (fun W h => by clear h; dsimp only [zT63]; go_simp <;> with_reducible rfl) ?_
     try simp only [zT63, Act.put, zzI, zzO, zzS]
     refine wpAnyH_ready (rs := [14]) (by kernel_rfl) (by simp) ?_
     refine AllReadyH.cons (o := zTc2) rfl (fun K hK => ?_) AllReadyH.nil
     dsimp only [zTc2]
     have ce := C2.out.2.1.cq
     have f0 := ce.frozen row
     have hb0 : prF g ({ j with data := false, la := fun x => if x = b then (q : Int) else j.la x } : Jd) row = some (.int .i64 ((j.pr row : Nat) : Int)) := if_pos HRN.out
     have e0 := ce.cell hb0
     go_simp
     have hq := RJ.set_pr (i := row) (pr' := ({ j with data := false, la := fun x => if x = b then (q : Int) else j.la x, pr := fun x => if x = row then j.pr x + 1 else j.pr x } : Jd).pr) C2.out.1.drew (C2.out.2.1.below ((Below.refl _ _).drew)) (by rw [hb0]; rfl) (fun x hx => if_neg hx)
     rw [show ({ j with data := false, la := fun x => if x = b then (q : Int) else j.la x, pr := fun x => if x = row then j.pr x + 1 else j.pr x } : Jd).pr row = j.pr row + 1 from if_pos rfl, show ((j.pr row + 1 : Nat) : Int) = (j.pr row : Int) + 1 from rfl] at hq
     have C3 := Lib.hid (show CRow _ p 41 (rjCells g ({ j with data := false, la := fun x => if x = b then (q : Int) else j.la x, pr := fun x => if x = row then j.pr x + 1 else j.pr x } : Jd) m) ∧ RjR ρ _ p g ({ j with data := false, la := fun x => if x = b then (q : Int) else j.la x, pr := fun x => if x = row then j.pr x + 1 else j.pr x } : Jd) m ∧ Btw I w _ from ⟨hq.1, hq.2.1, C2.out.2.2.drew.trans hq.2.2 fun x _ e => I0.out x (by have e : x = m.q := e; rw [e, C2.out.2.1.rq]; decide)⟩)
     clear hq f0 e0 ce hb0
     refine hK.out _ _ (Q9.out _ ({ j with data := false, la := fun x => if x = b then (q : Int) else j.la x, pr := fun x => if x = row then j.pr x + 1 else j.pr x } : Jd) C3.out.1) (fun C2 => ?_)
     clear hK K
     try simp only [Act.put]
     refine wpAnyH_done (by kernel_rfl) ?_ _
     refine NoPanic.normal ?_
     have C3 := Lib.hid (show CRow ((w2.setCell ⟨m.q, row, none⟩ (.int .i64 (((j.pr row : Nat) : Int) + 1))).drew) p 41 (rjCells g ({ j with data := false, la := fun x => if x = b then (q : Int) else j.la x, pr := fun x => if x = row then j.pr x + 1 else j.pr x } : Jd) m) ∧ RjR ρ ((w2.setCell ⟨m.q, row, none⟩ (.int .i64 (((j.pr row : Nat) : Int) + 1))).drew) p g ({ j with data := false, la := fun x => if x = b then (q : Int) else j.la x, pr := fun x => if x = row then j.pr x + 1 else j.pr x } : Jd) m ∧ Btw I w ((w2.setCell ⟨m.q, row, none⟩ (.int .i64 (((j.pr row : Nat) : Int) + 1))).drew) from C3.out)
     obtain ⟨w3, hw3⟩ : ∃ w3, w3 = (w2.setCell ⟨m.q, row, none⟩ (.int .i64 (((j.pr row : Nat) : Int) + 1))).drew := ⟨_, rfl⟩
     rw [← hw3] at C3
     rw [← hw3]
     clear hw3
     have x19 := C3.out.1.cell_at 19 (.slice m.aR j.rows.length m.cR) rfl
     have f19 := C3.out.1.frozen 19
     have S4 := Lib.hid (C3.out.1.setCell 19 (.slice none 0 0))
     have S4K := Lib.hid ((Btw.refl (I := fun k => k = p) w3).setCell (p := ⟨p, 19, none⟩) (v := .slice none 0 0) rfl)
     have C4 := Lib.hid (show CRow (w3.setCell ⟨p, 19, none⟩ (.slice none 0 0)) p 41 (rjCells g ({ j with data := false, la := fun x => if x = b then (q : Int) else j.la x, pr := fun x => if x = row then j.pr x + 1 else j.pr x, rows := [] } : Jd) ({ m with aR := none, cR := 0 } : RjM)) ∧ RjR ρ (w3.setCell ⟨p, 19, none⟩ (.slice none 0 0)) p g ({ j with data := false, la := fun x => if x = b then (q : Int) else j.la x, pr := fun x => if x = row then j.pr x + 1 else j.pr x, rows := [] } : Jd) ({ m with aR := none, cR := 0 } : RjM) ∧ Btw I w (w3.setCell ⟨p, 19, none⟩ (.slice none 0 0)) from
      ⟨by have h0 := S4.out; simpa [rjCells] using h0, (fun (h : RjR ρ _ p g ({ j with data := false, la := fun x => if x = b then (q : Int) else j.la x, pr := fun x => if x = row then j.pr x + 1 else j.pr x } : Jd) m) => ({ h with row := ⟨rfl, .inl ⟨rfl, rfl⟩⟩, rR := fun k hk => (by cases hk) } : RjR ρ _ p g ({ j with data := false, la := fun x => if x = b then (q : Int) else j.la x, pr := fun x => if x = row then j.pr x + 1 else j.pr x, rows := [] } : Jd) ({ m with aR := none, cR := 0 } : RjM))) (C3.out.2.1.btw S4K.out fun k e => .inr (by have e : k = p := e; rw [e]; exact C3.out.2.1.rp)), C3.out.2.2.trans S4K.out fun k _ e => I0.out k (by have e : k = p := e; rw [e, C3.out.2.1.rp]; decide)⟩)
     have HST := Lib.hid (rstart (j := ({ j with data := false, la := fun x => if x = b then (q : Int) else j.la x, pr := fun x => if x = row then j.pr x + 1 else j.pr x, rows := [] } : Jd)) ⟨ρ, ({ m with aR := none, cR := 0 } : RjM), (C4.out).1, (C4.out).2.1, I0.out, fun k hk => N0.out k (Nat.le_trans (C4.out).2.2.size hk)⟩)
     go_wp2_with fail
     refine HST.out.mono ?_
     rintro _ w9 ⟨rfl, h9, b9⟩
     have H9 := Lib.hid h9
     have B9 := Lib.hid (C4.out.2.2.trans b9 fun _ _ h => h)
     clear h9 b9 HST
     go_wp2
     go_ret
     rw [HR.out]
     exact ⟨rfl, H9.out, B9.out⟩
 ·
  skip
  have HRL := Lib.hid (show j.rload g 17 = _ from HRL.out)
  go_enter Try.func43, Try.ntmps43
  go_wp2_with fail
  refine HTW.out.mono ?_
  rintro _ w1 ⟨rfl, h1⟩
  have CA := Lib.hid (show CRow w1 p 41 (rjCells g j m) ∧ RjR ρ w1 p g j m ∧ Btw I w w1 from ⟨C0.out.below h1, R0.out.below h1, Btw.of_below h1⟩)
  clear h1 HTW
  go_wp2_with fail
  refine (HCA.out _ ⟨ρ, m, (CA.out).1, (CA.out).2.1, I0.out, fun k hk => N0.out k (Nat.le_trans (CA.out).2.2.size hk)⟩).mono ?_
  rintro _ w2 ⟨rfl, h2⟩
  have CB := Lib.hid (show CRow w2 p 41 (rjCells g j m) ∧ RjR ρ w2 p g j m ∧ Btw I w w2 from ⟨CA.out.1.below h2, CA.out.2.1.below h2, CA.out.2.2.trans (Btw.of_below h2) fun _ _ h => h⟩)
  clear h2 HCA CA
  have x2 := Q2.out _ j CB.out.1
  go_wp2
  clear x2
  go_loopw [7] (fun i wr => ∃ k : Nat, k ≤ n ∧ i = .int .i64 (k : Int) ∧ Hid (CRow wr p 41 (rjCells g j m) ∧ RjR ρ wr p g j m ∧ Btw I w wr) ∧ Hid (∀ x ∈ j.rows.take k, rjoin g row x = true)) (fun i _ => n - (intOf i).toNat)
  case atStart => exact ⟨0, Nat.zero_le _, rfl, CB, Lib.hid (by simp)⟩
  case round =>
   obtain ⟨k, hk, rfl, C1, HA⟩ := hrel
   rename World => wr
   clear CB
   have x19 := Q19.out _ C1.out.1
   by_cases hlt : k < n
   ·
    obtain ⟨x, hx⟩ : ∃ x, j.rows[k]? = some x := ⟨_, List.getElem?_eq_getElem (by rw [← HN.out]; exact hlt)⟩
    obtain ⟨b9, hA9, _, _, y0', _, _⟩ := own_at C1.out.2.1.row (k := k) (by rw [← HN.out]; exact hlt)
    obtain rfl : zR = some ⟨b9, 0, none⟩ := HZ.out.trans hA9
    have y0 : wr.cell? ⟨b9, k, none⟩ = some (.int .i64 (x : Int)) := by
     rw [y0', I64_JI, hx]
     rfl
    have hx16 := HRWS.out x (List.mem_of_getElem? hx)
    have HX := Lib.hid hx
    obtain ⟨xb, hxb⟩ : ∃ xb, xb = x / S := ⟨_, rfl⟩
    obtain ⟨xq, hxq⟩ : ∃ xq, xq = x % S := ⟨_, rfl⟩
    obtain ⟨xp, hxp⟩ : ∃ xp, xp = xb % P := ⟨_, rfl⟩
    have HXJ := Lib.hid (show rjoin g row x = (decide (xq = q) && !decide (xp = pb)) by rw [HJ.out, ← hxq, ← hxb, ← hxp])
    have a0 : (x : Int).tdiv (S : Int) = (xb : Int) := by rw [hxb]; rfl
    have a1 : (x : Int).tmod (S : Int) = (xq : Int) := by rw [hxq]; rfl
    have a2 : (xb : Int).tmod (P : Int) = (xp : Int) := by rw [hxp]; rfl
    have l0 : xb ≤ x := by rw [hxb]; exact Nat.div_le_self _ _
    have l1 : xq < S := by rw [hxq]; exact Nat.mod_lt _ PS.out.1
    have l2 : xp < P := by rw [hxp]; exact Nat.mod_lt _ PS.out.2.1
    have l3 := PS.out
    have z0 : IntKind.i64.wrap (xb : Int) = (xb : Int) := IntWalk.i64_in _ (by omega)
    have z1 : IntKind.i64.wrap (xq : Int) = (xq : Int) := IntWalk.i64_in _ (by omega)
    have z2 : IntKind.i64.wrap (xp : Int) = (xp : Int) := IntWalk.i64_in _ (by omega)
    have d1 : decide ((k : Int) < (n : Int)) = true := decide_eq_true (by omega)
    have i4 : (0 : Int) ≤ (k : Int) := by omega
    have i5 : (k : Int) < (n : Int) := by omega
    clear hA9 y0' hx hx16 hxb hxq hxp l0 l1 l2 l3
    go_wp2_with fail
    clear x19 y0
    by_cases h1 : xq = q
    ·
     by_cases h2 : xp = pb
     ·
      subst h1 h2
      have HV := Lib.hid (show rjoin g row x = false by rw [HXJ.out]; simp)
      refine wp_region_noPanic ?_
      go_region_held3 (fun w' => w'.cell? ⟨p, 2, none⟩ = some (.int .i64 (S : Int)) ∧ w'.cell? ⟨p, 0, none⟩ = some (.int .i64 (P : Int))) (exact ⟨Q2.out _ j C1.out.1.drew, Q0.out _ j C1.out.1.drew⟩) (fail)
      refine NoPanic.normal ?_
      have CX := Lib.hid (show CRow _ p 41 (rjCells g j m) ∧ RjR ρ _ p g j m ∧ Btw I w _ from ⟨C1.out.1.drew, C1.out.2.1.below ((Below.refl _ _).drew), C1.out.2.2.drew⟩)
      have HR := Lib.hid (show j.rload g 17 = (false, j) by rw [HRL.out, if_pos (fun h => by rw [List.all_eq_true] at h; have := h x (List.mem_of_getElem? HX.out); rw [HV.out] at this; cases this)])
      go_wp2; go_ret; rw [HR.out]; exact ⟨rfl, ⟨ρ, m, (CX.out).1, (CX.out).2.1, I0.out, fun k hk => N0.out k (Nat.le_trans (CX.out).2.2.size hk)⟩, CX.out.2.2⟩
     ·
      subst h1
      have HV := Lib.hid (show rjoin g row x = true by rw [HXJ.out]; simp [h2])
      have m0 : ((xp : Int) == (pb : Int)) = false := by simp; omega
      have m1 : ((xp : Int) = (pb : Int)) = False := eq_false (by omega)
      have m2 : (xp = pb) = False := eq_false h2
      have m3 : decide ((xp : Int) = (pb : Int)) = false := decide_eq_false (by omega)
      clear h2
      refine wp_region_noPanic ?_
      go_region_held3 (fun w' => w'.cell? ⟨p, 2, none⟩ = some (.int .i64 (S : Int)) ∧ w'.cell? ⟨p, 0, none⟩ = some (.int .i64 (P : Int))) (exact ⟨Q2.out _ j C1.out.1.drew, Q0.out _ j C1.out.1.drew⟩) (fail)
      refine NoPanic.normal ?_
      have CX := Lib.hid (show CRow _ p 41 (rjCells g j m) ∧ RjR ρ _ p g j m ∧ Btw I w _ from ⟨C1.out.1.drew, C1.out.2.1.below ((Below.refl _ _).drew), C1.out.2.2.drew⟩)
      go_wp2
      go_roundw
      case rel => exact ⟨k + 1, by omega, by go_num, CX, Lib.hid (fun y hy => by
       rcases (mem_take_succ HX.out y).1 hy with h | h
       ·
        exact HA.out y h
       ·
        rw [h]; exact HV.out)⟩
      case measure => simp [intOf]; omega
    ·
     have HV := Lib.hid (show rjoin g row x = false by rw [HXJ.out, decide_eq_false h1]; rfl)
     have m0 : ((xq : Int) == (q : Int)) = false := by simp; omega
     have m1 : ((xq : Int) = (q : Int)) = False := eq_false (by omega)
     have m2 : (xq = q) = False := eq_false h1
     have m3 : decide ((xq : Int) = (q : Int)) = false := decide_eq_false (by omega)
     have m4 : ((xq : Int) != (q : Int)) = true := by simp; omega
     have m5 : (xq != q) = true := by simp; omega
     have m6 : decide (xq = q) = false := decide_eq_false h1
     have m7 : (xq == q) = false := by simp; omega
     clear h1
     refine wp_region_noPanic ?_
     refine wp_region_held_drew (S := fun w' => w'.cell? ⟨p, 2, none⟩ = some (.int .i64 (S : Int)) ∧ w'.cell? ⟨p, 0, none⟩ = some (.int .i64 (P : Int))) (by kernel_rfl) ⟨Q2.out _ j C1.out.1.drew, Q0.out _ j C1.out.1.drew⟩ (fun C0 => ?_)
     refine tkH 0 zT0 _ C0 rfl (by kernel_rfl) rfl (fun W h => by clear h; dsimp only [zT0]; go_simp <;> with_reducible rfl) ?_
     try simp only [zT0, Act.put, zzI, zzO, zzS]
     refine tkH 1 zT1 _ C0 rfl (by kernel_rfl) rfl (fun W h => by clear h; dsimp only [zT1]; go_simp <;> with_reducible rfl) ?_
     try simp only [zT1, Act.put, zzI, zzO, zzS]
     refine tkH 2 zT2 _ C0 rfl (by kernel_rfl) rfl (fun W h => by clear h; dsimp only [zT2]; go_simp <;> with_reducible rfl) ?_
     try simp only [zT2, Act.put, zzI, zzO, zzS]
     refine tkH 3 zT3 _ C0 rfl (by kernel_rfl) rfl (fun W h => by clear h; dsimp only [zT3]; go_simp <;> with_reducible rfl) ?_
     try simp only [zT3, Act.put, zzI, zzO, zzS]
     refine tkH 4 zT4 _ C0 rfl (by kernel_rfl) rfl (fun W h => by clear h; dsimp only [zT4]; go_simp <;> with_reducible rfl) ?_
     try simp only [zT4, Act.put, zzI, zzO, zzS]
     refine tkH 5 zT5 _ C0 rfl (by kernel_rfl) rfl (fun W' hSw => by obtain ⟨x2, x0⟩ := hSw; dsimp only [zT5]; go_simp <;> with_reducible rfl) ?_
     try simp only [zT5, Act.put, zzI, zzO, zzS]
     refine tkH 6 zT6 _ C0 rfl (by kernel_rfl) rfl (fun W h => by clear h; dsimp only [zT6]; go_simp <;> with_reducible rfl) ?_
     try simp only [zT6, Act.put, zzI, zzO, zzS]
     refine tkH 7 zT7 _ C0 rfl (by kernel_rfl) rfl (fun W h => by clear h; dsimp only [zT7]; go_simp <;> with_reducible rfl) ?_
     try simp only [zT7, Act.put, zzI, zzO, zzS]
     refine tkH 8 zT8 _ C0 rfl (by kernel_rfl) rfl (fun W h => by clear h; dsimp only [zT8]; go_simp <;> with_reducible rfl) ?_
     try simp only [zT8, Act.put, zzI, zzO, zzS]
     refine tkH 9 zT9 _ C0 rfl (by kernel_rfl) rfl (fun W h => by clear h; dsimp only [zT9]; go_simp <;> with_reducible rfl) ?_
     try simp only [zT9, Act.put, zzI, zzO, zzS]
     refine tkH 10 zT10 _ C0 rfl (by kernel_rfl) rfl (fun W h => by clear h; dsimp only [zT10]; go_simp <;> with_reducible rfl) ?_
     try simp only [zT10, Act.put, zzI, zzO, zzS]
     refine tkH 11 zT11 _ C0 rfl (by kernel_rfl) rfl (fun W h => by clear h; dsimp only [zT11]; go_simp <;> with_reducible rfl) ?_
     try simp only [zT11, Act.put, zzI, zzO, zzS]
     refine tkH 12 zT12 _ C0 rfl (by kernel_rfl) rfl (fun W' hSw => by obtain ⟨x2, x0⟩ := hSw; dsimp only [zT12]; go_simp <;> with_reducible rfl) ?_
     try simp only [zT12, Act.put, zzI, zzO, zzS]
     refine tkH 13 zT13 _ C0 rfl (by kernel_rfl) rfl (fun W h => by clear h; dsimp only [zT13]; go_simp <;> with_reducible rfl) ?_
     try simp only [zT13, Act.put, zzI, zzO, zzS]
     refine tkH 14 zT14 _ C0 rfl (by kernel_rfl) rfl (fun W h => by clear h; dsimp only [zT14]; go_simp <;> with_reducible rfl) ?_
     try simp only [zT14, Act.put, zzI, zzO, zzS]
     refine tkH 15 zT15 _ C0 rfl (by kernel_rfl) rfl (fun W h => by clear h; dsimp only [zT15]; go_simp <;> with_reducible rfl) ?_
     try simp only [zT15, Act.put, zzI, zzO, zzS]
     refine tkN 16 zT16 C0 rfl (by kernel_rfl) rfl ?_
     try simp only [zT16, Act.put, zzI, zzO, zzS]
     refine tkN 17 zT17 C0 rfl (by kernel_rfl) rfl ?_
     try simp only [zT17, Act.put, zzI, zzO, zzS]
     refine tkN 18 zT18 C0 rfl (by kernel_rfl) rfl ?_
     try simp only [zT18, Act.put, zzI, zzO, zzS]
     refine tkN 19 zT19 C0 rfl (by kernel_rfl) rfl ?_
     try simp only [zT19, Act.put, zzI, zzO, zzS]
     refine tkN 20 zT20 C0 rfl (by kernel_rfl) rfl ?_
     try simp only [zT20, Act.put, zzI, zzO, zzS]
     refine tkN 21 zT21 C0 rfl (by kernel_rfl) rfl ?_
     try simp only [zT21, Act.put, zzI, zzO, zzS]
     refine tkN 22 zT22 C0 rfl (by kernel_rfl) rfl ?_
     try simp only [zT22, Act.put, zzI, zzO, zzS]
     refine tkN 23 zT23 C0 rfl (by kernel_rfl) rfl ?_
     try simp only [zT23, Act.put, zzI, zzO, zzS]
     refine tkN 24 zT24 C0 rfl (by kernel_rfl) rfl ?_
     try simp only [zT24, Act.put, zzI, zzO, zzS]
     refine tkN 25 zT25 C0 rfl (by kernel_rfl) rfl ?_
     try simp only [zT25, Act.put, zzI, zzO, zzS]
     refine tkN 26 zT26 C0 rfl (by kernel_rfl) rfl ?_
     try simp only [zT26, Act.put, zzI, zzO, zzS]
     refine tkN 27 zT27 C0 rfl (by kernel_rfl) rfl ?_
     try simp only [zT27, Act.put, zzI, zzO, zzS]
     refine tkN 28 zT28 C0 rfl (by kernel_rfl) rfl ?_
     try simp only [zT28, Act.put, zzI, zzO, zzS]
     refine tkN 29 zT29 C0 rfl (by kernel_rfl) rfl ?_
     try simp only [zT29, Act.put, zzI, zzO, zzS]
     refine tkN 30 zT30 C0 rfl (by kernel_rfl) rfl ?_
     try simp only [zT30, Act.put, zzI, zzO, zzS]
     refine tkN 31 zT31 C0 rfl (by kernel_rfl) rfl ?_
     try simp only [zT31, Act.put, zzI, zzO, zzS]
     refine tkN 32 zT32 C0 rfl (by kernel_rfl) rfl ?_
     try simp only [zT32, Act.put, zzI, zzO, zzS]
     refine tkN 33 zT33 C0 rfl (by kernel_rfl) rfl ?_
     try simp only [zT33, Act.put, zzI, zzO, zzS]
     refine tkN 34 zT34 C0 rfl (by kernel_rfl) rfl ?_
     try simp only [zT34, Act.put, zzI, zzO, zzS]
     refine tkN 35 zT35 C0 rfl (by kernel_rfl) rfl ?_
     try simp only [zT35, Act.put, zzI, zzO, zzS]
     refine tkN 36 zT36 C0 rfl (by kernel_rfl) rfl ?_
     try simp only [zT36, Act.put, zzI, zzO, zzS]
     refine tkH 37 zT37 _ C0 rfl (by kernel_rfl) rfl (fun W h => by clear h; dsimp only [zT37]; go_simp <;> with_reducible rfl) ?_
     try simp only [zT37, Act.put, zzI, zzO, zzS]
     refine wpAnyH_done (by kernel_rfl) ?_ _
     refine NoPanic.normal ?_
     have CX := Lib.hid (show CRow _ p 41 (rjCells g j m) ∧ RjR ρ _ p g j m ∧ Btw I w _ from ⟨C1.out.1.drew, C1.out.2.1.below ((Below.refl _ _).drew), C1.out.2.2.drew⟩)
     have HR := Lib.hid (show j.rload g 17 = (false, j) by rw [HRL.out, if_pos (fun h => by rw [List.all_eq_true] at h; have := h x (List.mem_of_getElem? HX.out); rw [HV.out] at this; cases this)])
     go_wp2; go_ret; rw [HR.out]; exact ⟨rfl, ⟨ρ, m, (CX.out).1, (CX.out).2.1, I0.out, fun k hk => N0.out k (Nat.le_trans (CX.out).2.2.size hk)⟩, CX.out.2.2⟩
   ·
    obtain rfl : k = n := by omega
    have d1 : decide ((k : Int) < (k : Int)) = false := decide_eq_false (by omega)
    have CX := C1
    have HRL2 := Lib.hid (show j.rload g 17 = _ from HRL.out.trans (if_neg (not_not_intro (by rw [List.all_eq_true]; intro x hx; exact HA.out x (by rw [HN.out, List.take_length]; exact hx)))))
    have x15 := Q15.out _ CX.out.1
    have x16 := Q16.out _ CX.out.1
    clear C1 HA
    cases bg with
    | true =>
     by_cases hb2 : b = bb
     ·
      skip
      have n0 : ((b : Int) == (bb : Int)) = true := by simp; omega
      have n1 : ((b : Int) = (bb : Int)) = True := eq_true (by omega)
      have n2 : (b = bb) = True := eq_true (by omega)
      have n3 : decide ((b : Int) = (bb : Int)) = true := decide_eq_true (by omega)
      have HR := Lib.hid (show j.rload g 17 = (false, j) by rw [HRL2.out, if_pos (by simp [← HBG.out, ← HBB.out])])
      clear hb2
      go_wp2
      go_ret
      rw [HR.out]
      exact ⟨rfl, ⟨ρ, m, (CX.out).1, (CX.out).2.1, I0.out, fun k hk => N0.out k (Nat.le_trans (CX.out).2.2.size hk)⟩, CX.out.2.2⟩
     ·
      skip
      have n0 : ((b : Int) == (bb : Int)) = false := by simp; omega
      have n1 : ((b : Int) = (bb : Int)) = False := eq_false (by omega)
      have n2 : (b = bb) = False := eq_false (by omega)
      have n3 : decide ((b : Int) = (bb : Int)) = false := decide_eq_false (by omega)
      have HR := Lib.hid (show j.rload g 17 = (false, j) by rw [HRL2.out, if_pos (by simp [← HBG.out, ← HBB.out, hb2])])
      clear hb2
      go_wp2
      go_ret
      rw [HR.out]
      exact ⟨rfl, ⟨ρ, m, (CX.out).1, (CX.out).2.1, I0.out, fun k hk => N0.out k (Nat.le_trans (CX.out).2.2.size hk)⟩, CX.out.2.2⟩
    | false =>
     have HR := Lib.hid (show j.rload g 17 = (true, Jd.start ({ j with data := false, la := fun x => if x = b then (q : Int) else j.la x, pr := fun x => if x = row then j.pr x + 1 else j.pr x, rows := j.rows ++ [row] } : Jd)) by
      rw [HRL2.out, if_neg (by simp [← HBG.out, ← HBB.out])]
      rfl)
          
     have x17 := CX.out.1.cell_at 17 (.bool j.data) rfl
     have f17 := CX.out.1.frozen 17
     have S1 := Lib.hid (CX.out.1.setCell 17 (.bool false))
     have S1K := Lib.hid ((Btw.refl (I := fun k => k = p) wr).setCell (p := ⟨p, 17, none⟩) (v := .bool false) rfl)
     have C1 := Lib.hid (show CRow (wr.setCell ⟨p, 17, none⟩ (.bool false)) p 41 (rjCells g ({ j with data := false } : Jd) m) ∧ RjR ρ (wr.setCell ⟨p, 17, none⟩ (.bool false)) p g ({ j with data := false } : Jd) m ∧ Btw I w (wr.setCell ⟨p, 17, none⟩ (.bool false)) from
      ⟨by have h0 := S1.out; simpa [rjCells] using h0, (fun (h : RjR ρ _ p g j m) => ({ h with  } : RjR ρ _ p g ({ j with data := false } : Jd) m)) (CX.out.2.1.btw S1K.out fun k e => .inr (by have e : k = p := e; rw [e]; exact CX.out.2.1.rp)), CX.out.2.2.trans S1K.out fun k _ e => I0.out k (by have e : k = p := e; rw [e, CX.out.2.1.rp]; decide)⟩)
     go_wp2_with fail
     clear x15 x16 x19
     obtain ⟨w1, hw1⟩ : ∃ w1, w1 = wr.setCell ⟨p, 17, none⟩ (.bool false) := ⟨_, rfl⟩
     rw [← hw1] at C1
     try rw [← hw1]
     clear hw1
     clear x17 f17
     refine wp_region_noPanic ?_
     refine wp_region_held_drew (S := fun w' => w'.cell? ⟨p, 8, none⟩ = some (.slice (some ⟨m.l, 0, none⟩) NB m.cl) ∧ w'.cell? ⟨p, 2, none⟩ = some (.int .i64 (S : Int))) (by kernel_rfl) ⟨Q8.out _ ({ j with data := false } : Jd) C1.out.1.drew, Q2.out _ ({ j with data := false } : Jd) C1.out.1.drew⟩ (fun C0 => ?_)
     refine tkH 0 zT38 _ C0 rfl (by kernel_rfl) rfl (fun W h => by clear h; dsimp only [zT38]; go_simp <;> with_reducible rfl) ?_
     try simp only [zT38, Act.put, zzI, zzO, zzS]
     refine tkH 1 zT39 _ C0 rfl (by kernel_rfl) rfl (fun W h => by clear h; dsimp only [zT39]; go_simp <;> with_reducible rfl) ?_
     try simp only [zT39, Act.put, zzI, zzO, zzS]
     refine tkH 2 zT40 _ C0 rfl (by kernel_rfl) rfl (fun W h => by clear h; dsimp only [zT40]; go_simp <;> with_reducible rfl) ?_
     try simp only [zT40, Act.put, zzI, zzO, zzS]
     refine tkH 3 zT41 _ C0 rfl (by kernel_rfl) rfl (fun W' hSw => by obtain ⟨x8, x2⟩ := hSw; dsimp only [zT41]; go_simp <;> with_reducible rfl) ?_
     try simp only [zT41, Act.put, zzI, zzO, zzS]
     refine tkH 4 zT42 _ C0 rfl (by kernel_rfl) rfl (fun W h => by clear h; dsimp only [zT42]; go_simp <;> with_reducible rfl) ?_
     try simp only [zT42, Act.put, zzI, zzO, zzS]
     refine tkH 5 zT43 _ C0 rfl (by kernel_rfl) rfl (fun W h => by clear h; dsimp only [zT43]; go_simp <;> with_reducible rfl) ?_
     try simp only [zT43, Act.put, zzI, zzO, zzS]
     refine tkH 6 zT44 _ C0 rfl (by kernel_rfl) rfl (fun W h => by clear h; dsimp only [zT44]; go_simp <;> with_reducible rfl) ?_
     try simp only [zT44, Act.put, zzI, zzO, zzS]
     refine tkH 7 zT45 _ C0 rfl (by kernel_rfl) rfl (fun W h => by clear h; dsimp only [zT45]; go_simp <;> with_reducible rfl) ?_
     try simp only [zT45, Act.put, zzI, zzO, zzS]
     refine tkH 8 zT46 _ C0 rfl (by kernel_rfl) rfl (fun W h => by clear h; dsimp only [zT46]; go_simp <;> with_reducible rfl) ?_
     try simp only [zT46, Act.put, zzI, zzO, zzS]
     refine tkH 9 zT47 _ C0 rfl (by kernel_rfl) rfl (fun W h => by clear h; dsimp only [zT47]; go_simp <;> with_reducible rfl) ?_
     try simp only [zT47, Act.put, zzI, zzO, zzS]
     refine tkH 10 zT48 _ C0 rfl (by kernel_rfl) rfl (fun W' hSw => by obtain ⟨x8, x2⟩ := hSw; dsimp only [zT48]; go_simp <;> with_reducible rfl) ?_
     try simp only [zT48, Act.put, zzI, zzO, zzS]
     refine tkH 11 zT49 _ C0 rfl (by kernel_rfl) rfl (fun W h => by clear h; dsimp only [zT49]; go_simp <;> with_reducible rfl) ?_
     try simp only [zT49, Act.put, zzI, zzO, zzS]
     refine tkH 12 zT50 _ C0 rfl (by kernel_rfl) rfl (fun W h => by clear h; dsimp only [zT50]; go_simp <;> with_reducible rfl) ?_
     try simp only [zT50, Act.put, zzI, zzO, zzS]
     refine wpAnyH_ready (rs := [13]) (by kernel_rfl) (by simp) ?_
     refine AllReadyH.cons (o := zTc0) rfl (fun K hK => ?_) AllReadyH.nil
     dsimp only [zTc0]
     have ce := C1.out.2.1.cl
     have f0 := ce.frozen b
     have hb0 : laF g ({ j with data := false } : Jd) b = some (.int .i64 (j.la b)) := if_pos HBN.out
     have e0 := ce.cell hb0
     go_simp
     have hq := RJ.set_la (i := b) (la' := ({ j with data := false, la := fun x => if x = b then (q : Int) else j.la x } : Jd).la) C1.out.1.drew (C1.out.2.1.below ((Below.refl _ _).drew)) (by rw [hb0]; rfl) (fun x hx => if_neg hx)
     rw [show ({ j with data := false, la := fun x => if x = b then (q : Int) else j.la x } : Jd).la b = (q : Int) from if_pos rfl] at hq
     have C2 := Lib.hid (show CRow _ p 41 (rjCells g ({ j with data := false, la := fun x => if x = b then (q : Int) else j.la x } : Jd) m) ∧ RjR ρ _ p g ({ j with data := false, la := fun x => if x = b then (q : Int) else j.la x } : Jd) m ∧ Btw I w _ from ⟨hq.1, hq.2.1, C1.out.2.2.drew.trans hq.2.2 fun x _ e => I0.out x (by have e : x = m.l := e; rw [e, C1.out.2.1.rl]; decide)⟩)
     clear hq f0 e0 ce hb0
     refine hK.out _ _ ⟨Q8.out _ ({ j with data := false, la := fun x => if x = b then (q : Int) else j.la x } : Jd) C2.out.1, Q2.out _ ({ j with data := false, la := fun x => if x = b then (q : Int) else j.la x } : Jd) C2.out.1⟩ (fun C1 => ?_)
     clear hK K
     try simp only [Act.put]
     refine wpAnyH_done (by kernel_rfl) ?_ _
     refine NoPanic.normal ?_
     have C2 := Lib.hid (show CRow ((w1.setCell ⟨m.l, b, none⟩ (.int .i64 (q : Int))).drew) p 41 (rjCells g ({ j with data := false, la := fun x => if x = b then (q : Int) else j.la x } : Jd) m) ∧ RjR ρ ((w1.setCell ⟨m.l, b, none⟩ (.int .i64 (q : Int))).drew) p g ({ j with data := false, la := fun x => if x = b then (q : Int) else j.la x } : Jd) m ∧ Btw I w ((w1.setCell ⟨m.l, b, none⟩ (.int .i64 (q : Int))).drew) from C2.out)
     go_wp2_with fail
     obtain ⟨w2, hw2⟩ : ∃ w2, w2 = (w1.setCell ⟨m.l, b, none⟩ (.int .i64 (q : Int))).drew := ⟨_, rfl⟩
     rw [← hw2] at C2
     rw [← hw2]
     clear hw2
     refine wp_region_noPanic ?_
     refine wp_region_held_drew (S := fun w' => w'.cell? ⟨p, 9, none⟩ = some (.slice (some ⟨m.q, 0, none⟩) R m.cq)) (by kernel_rfl) (Q9.out _ ({ j with data := false, la := fun x => if x = b then (q : Int) else j.la x } : Jd) C2.out.1.drew) (fun C0 => ?_)
     refine tkH 0 zT51 _ C0 rfl (by kernel_rfl) rfl (fun W h => by clear h; dsimp only [zT51]; go_simp <;> with_reducible rfl) ?_
     try simp only [zT51, Act.put, zzI, zzO, zzS]
     refine tkH 1 zT52 _ C0 rfl (by kernel_rfl) rfl (fun W h => by clear h; dsimp only [zT52]; go_simp <;> with_reducible rfl) ?_
     try simp only [zT52, Act.put, zzI, zzO, zzS]
     refine tkH 2 zT53 _ C0 rfl (by kernel_rfl) rfl (fun W h => by clear h; dsimp only [zT53]; go_simp <;> with_reducible rfl) ?_
     try simp only [zT53, Act.put, zzI, zzO, zzS]
     refine tkH 3 zT54 _ C0 rfl (by kernel_rfl) rfl (fun W' hSw => by have x9 := hSw; dsimp only [zT54]; go_simp <;> with_reducible rfl) ?_
     try simp only [zT54, Act.put, zzI, zzO, zzS]
     refine tkH 4 zT55 _ C0 rfl (by kernel_rfl) rfl (fun W h => by clear h; dsimp only [zT55]; go_simp <;> with_reducible rfl) ?_
     try simp only [zT55, Act.put, zzI, zzO, zzS]
     refine tkH 5 zT56 _ C0 rfl (by kernel_rfl) rfl (fun W h => by clear h; dsimp only [zT56]; go_simp <;> with_reducible rfl) ?_
     try simp only [zT56, Act.put, zzI, zzO, zzS]
     refine tkH 6 zT57 _ C0 rfl (by kernel_rfl) rfl (fun W h => by clear h; dsimp only [zT57]; go_simp <;> with_reducible rfl) ?_
     try simp only [zT57, Act.put, zzI, zzO, zzS]
     refine tkH 7 zT58 _ C0 rfl (by kernel_rfl) rfl (fun W h => by clear h; dsimp only [zT58]; go_simp <;> with_reducible rfl) ?_
     try simp only [zT58, Act.put, zzI, zzO, zzS]
     refine tkH 8 zT59 _ C0 rfl (by kernel_rfl) rfl (fun W' hSw => by have x9 := hSw; dsimp only [zT59]; go_simp <;> with_reducible rfl) ?_
     try simp only [zT59, Act.put, zzI, zzO, zzS]
     refine tkH 9 zT60 _ C0 rfl (by kernel_rfl) rfl (fun W h => by clear h; dsimp only [zT60]; go_simp <;> with_reducible rfl) ?_
     try simp only [zT60, Act.put, zzI, zzO, zzS]
     refine tkH 10 zT61 _ C0 rfl (by kernel_rfl) rfl (fun W h => by clear h; dsimp only [zT61]; go_simp <;> with_reducible rfl) ?_
     try simp only [zT61, Act.put, zzI, zzO, zzS]
     refine wpAnyH_ready (rs := [11]) (by kernel_rfl) (by simp) ?_
     refine AllReadyH.cons (o := zTc1) rfl (fun K hK => ?_) AllReadyH.nil
     dsimp only [zTc1]
     have e0 : w2.drew.cell? ⟨m.q, row, none⟩ = some (.int .i64 ((j.pr row : Nat) : Int)) := C2.out.2.1.cq.cell (if_pos HRN.out)
     go_simp
     clear e0
     refine hK.out _ _ (Q9.out _ ({ j with data := false, la := fun x => if x = b then (q : Int) else j.la x } : Jd) C2.out.1.drew) (fun C1 => ?_)
     clear hK K
     try simp only [Act.put, zzI, zzO, zzS]
     refine tkH 12 zT62 _ C1 rfl (by kernel_rfl) rfl (fun W h => by clear h; dsimp only [zT62]; go_simp <;> with_reducible rfl) ?_
     try simp only [zT62, Act.put, zzI, zzO, zzS]
     refine tkH 13 zT63 _ C1 rfl (by kernel_rfl) rfl (fun W h => by clear h; dsimp only [zT63]; go_simp <;> with_reducible rfl) ?_
     try simp only [zT63, Act.put, zzI, zzO, zzS]
     refine wpAnyH_ready (rs := [14]) (by kernel_rfl) (by simp) ?_
     refine AllReadyH.cons (o := zTc2) rfl (fun K hK => ?_) AllReadyH.nil
     dsimp only [zTc2]
     have ce := C2.out.2.1.cq
     have f0 := ce.frozen row
     have hb0 : prF g ({ j with data := false, la := fun x => if x = b then (q : Int) else j.la x } : Jd) row = some (.int .i64 ((j.pr row : Nat) : Int)) := if_pos HRN.out
     have e0 := ce.cell hb0
     go_simp
     have hq := RJ.set_pr (i := row) (pr' := ({ j with data := false, la := fun x => if x = b then (q : Int) else j.la x, pr := fun x => if x = row then j.pr x + 1 else j.pr x } : Jd).pr) C2.out.1.drew (C2.out.2.1.below ((Below.refl _ _).drew)) (by rw [hb0]; rfl) (fun x hx => if_neg hx)
     rw [show ({ j with data := false, la := fun x => if x = b then (q : Int) else j.la x, pr := fun x => if x = row then j.pr x + 1 else j.pr x } : Jd).pr row = j.pr row + 1 from if_pos rfl, show ((j.pr row + 1 : Nat) : Int) = (j.pr row : Int) + 1 from rfl] at hq
     have C3 := Lib.hid (show CRow _ p 41 (rjCells g ({ j with data := false, la := fun x => if x = b then (q : Int) else j.la x, pr := fun x => if x = row then j.pr x + 1 else j.pr x } : Jd) m) ∧ RjR ρ _ p g ({ j with data := false, la := fun x => if x = b then (q : Int) else j.la x, pr := fun x => if x = row then j.pr x + 1 else j.pr x } : Jd) m ∧ Btw I w _ from ⟨hq.1, hq.2.1, C2.out.2.2.drew.trans hq.2.2 fun x _ e => I0.out x (by have e : x = m.q := e; rw [e, C2.out.2.1.rq]; decide)⟩)
     clear hq f0 e0 ce hb0
     refine hK.out _ _ (Q9.out _ ({ j with data := false, la := fun x => if x = b then (q : Int) else j.la x, pr := fun x => if x = row then j.pr x + 1 else j.pr x } : Jd) C3.out.1) (fun C2 => ?_)
     clear hK K
     try simp only [Act.put]
     refine wpAnyH_done (by kernel_rfl) ?_ _
     refine NoPanic.normal ?_
     have C3 := Lib.hid (show CRow ((w2.setCell ⟨m.q, row, none⟩ (.int .i64 (((j.pr row : Nat) : Int) + 1))).drew) p 41 (rjCells g ({ j with data := false, la := fun x => if x = b then (q : Int) else j.la x, pr := fun x => if x = row then j.pr x + 1 else j.pr x } : Jd) m) ∧ RjR ρ ((w2.setCell ⟨m.q, row, none⟩ (.int .i64 (((j.pr row : Nat) : Int) + 1))).drew) p g ({ j with data := false, la := fun x => if x = b then (q : Int) else j.la x, pr := fun x => if x = row then j.pr x + 1 else j.pr x } : Jd) m ∧ Btw I w ((w2.setCell ⟨m.q, row, none⟩ (.int .i64 (((j.pr row : Nat) : Int) + 1))).drew) from C3.out)
     obtain ⟨w3, hw3⟩ : ∃ w3, w3 = (w2.setCell ⟨m.q, row, none⟩ (.int .i64 (((j.pr row : Nat) : Int) + 1))).drew := ⟨_, rfl⟩
     rw [← hw3] at C3
     rw [← hw3]
     clear hw3
     have OR := Lib.hid (show w3.ownsRow 0 3 1 (.slice m.aR k m.cR) k (I64 (JI j.rows)) by rw [HN.out]; exact C3.out.2.1.row)
     have LJ := Lib.hid (show (JI j.rows).length = k by rw [JI_length, ← HN.out])
     have x19 : w3.cell? ⟨p, 19, none⟩ = some (.slice m.aR k m.cR) := by rw [HN.out]; exact C3.out.1.cell_at 19 _ rfl
     go_wp2_with (at_builtin; refine japp64 (w3.alloc (.cells #[.int .i64 (row : Int)] 3)) rfl (.tmp 152) (.tmp 154) rfl 0 _ (JI j.rows) k LJ.out rfl (OR.out.alloc _) ⟨w3.heap.size, 0, none⟩ 1 (row : Int) rfl (jone64 w3 (row : Int) _) (by omega) (Nat.zero_le _) ?_)
     intro v3 w4 hown hgr hwh
     obtain ⟨A3, c3, rfl⟩ := jown_form hown
     have hln : k = j.rows.length := HN.out
     have hpu := RjR.pushR (j := ({ j with data := false, la := fun x => if x = b then (q : Int) else j.la x, pr := fun x => if x = row then j.pr x + 1 else j.pr x } : Jd)) (w3 := w4) (A3 := A3) (c3 := c3) row (C3.out.2.1.below (below_new w3 (.cells #[.int .i64 (row : Int)] 3))) (by rw [← hln]; exact hown) (by rw [← hln]; exact hgr) (by
      rw [← hln]
      first
      | exact hwh
      | (have e9 : (w3.alloc (.cells #[.int .i64 (row : Int)] 3)).heap.size = w3.heap.size + 1 := by simp
         rw [e9]
         exact hwh))
     obtain ⟨ρ', hr2, hi2, hb2⟩ := hpu
     have I7 := Lib.hid (show ∀ y, ρ' y ≠ 0 → I y from fun y hk => by
      rcases hi2 y hk with h1 | h1
      ·
       exact I0.out y h1
      ·
       have e : (w3.alloc (.cells #[.int .i64 (row : Int)] 3)).heap.size = w3.heap.size + 1 := by simp
       have := C3.out.2.2.size
       exact N0.out y (by omega))
     have B4 := Lib.hid (show Btw I w w4 from (C3.out.2.2.trans (Btw.of_below (below_new w3 (.cells #[.int .i64 (row : Int)] 3))) fun _ _ h => h).trans hb2 fun k _ hk => I0.out k (by have hk : ρ k = 6 := hk; rw [hk]; decide))
     have hc4 : CRow w4 p 41 (rjCells g ({ j with data := false, la := fun x => if x = b then (q : Int) else j.la x, pr := fun x => if x = row then j.pr x + 1 else j.pr x } : Jd) m) := (C3.out.1.alloc _).btw hb2 (fun e => by have e : ρ p = 6 := e; have := R0.out.rp; omega)
     have y19 : w4.cell? ⟨p, 19, none⟩ = some (.slice m.aR k m.cR) := by rw [hln]; exact hc4.cell_at 19 _ rfl
     have f19 := hc4.frozen 19
     have S4 := Lib.hid (hc4.setCell 19 (.slice A3 (k + 1) c3))
     have K4 := Lib.hid ((Btw.refl (I := fun k => k = p) w4).setCell (p := ⟨p, 19, none⟩) (v := .slice A3 (k + 1) c3) rfl)
     have C4 := Lib.hid (show CRow (w4.setCell ⟨p, 19, none⟩ (.slice A3 (k + 1) c3)) p 41 (rjCells g ({ j with data := false, la := fun x => if x = b then (q : Int) else j.la x, pr := fun x => if x = row then j.pr x + 1 else j.pr x, rows := j.rows ++ [row] } : Jd) ({ m with aR := A3, cR := c3 } : RjM)) ∧ RjR ρ' (w4.setCell ⟨p, 19, none⟩ (.slice A3 (k + 1) c3)) p g ({ j with data := false, la := fun x => if x = b then (q : Int) else j.la x, pr := fun x => if x = row then j.pr x + 1 else j.pr x, rows := j.rows ++ [row] } : Jd) ({ m with aR := A3, cR := c3 } : RjM) ∧ Btw I w (w4.setCell ⟨p, 19, none⟩ (.slice A3 (k + 1) c3)) from
      ⟨by
       have e9 : (rjCells g ({ j with data := false, la := fun x => if x = b then (q : Int) else j.la x, pr := fun x => if x = row then j.pr x + 1 else j.pr x } : Jd) m).setIfInBounds 19 (.slice A3 (k + 1) c3) = rjCells g ({ j with data := false, la := fun x => if x = b then (q : Int) else j.la x, pr := fun x => if x = row then j.pr x + 1 else j.pr x, rows := j.rows ++ [row] } : Jd) ({ m with aR := A3, cR := c3 } : RjM) := by simp [rjCells, hln]
       exact e9 ▸ S4.out, hr2.btw K4.out fun k e => .inr (by have e : k = p := e; rw [e]; exact hr2.rp), B4.out.trans K4.out fun k _ e => I7.out k (by have e : k = p := e; rw [e, hr2.rp]; decide)⟩)
     clear hown hgr hwh hln hr2 hi2 hb2 hc4 x19
     have HST := Lib.hid (rstart (j := ({ j with data := false, la := fun x => if x = b then (q : Int) else j.la x, pr := fun x => if x = row then j.pr x + 1 else j.pr x, rows := j.rows ++ [row] } : Jd)) ⟨ρ', ({ m with aR := A3, cR := c3 } : RjM), (C4.out).1, (C4.out).2.1, I7.out, fun k hk => N0.out k (Nat.le_trans (C4.out).2.2.size hk)⟩)
     go_wp2_with fail
     refine HST.out.mono ?_
     rintro _ w9 ⟨rfl, h9, b9⟩
     have H9 := Lib.hid h9
     have B9 := Lib.hid (C4.out.2.2.trans b9 fun _ _ h => h)
     clear h9 b9 HST
     go_wp2
     go_ret
     rw [HR.out]
     exact ⟨rfl, H9.out, B9.out⟩
 ·
  skip
  have HRL := Lib.hid (show j.rload g 21 = _ from HRL.out)
  go_enter Try.func43, Try.ntmps43
  go_wp2_with fail
  refine HTW.out.mono ?_
  rintro _ w1 ⟨rfl, h1⟩
  have CA := Lib.hid (show CRow w1 p 41 (rjCells g j m) ∧ RjR ρ w1 p g j m ∧ Btw I w w1 from ⟨C0.out.below h1, R0.out.below h1, Btw.of_below h1⟩)
  clear h1 HTW
  go_wp2_with fail
  refine (HCA.out _ ⟨ρ, m, (CA.out).1, (CA.out).2.1, I0.out, fun k hk => N0.out k (Nat.le_trans (CA.out).2.2.size hk)⟩).mono ?_
  rintro _ w2 ⟨rfl, h2⟩
  have CB := Lib.hid (show CRow w2 p 41 (rjCells g j m) ∧ RjR ρ w2 p g j m ∧ Btw I w w2 from ⟨CA.out.1.below h2, CA.out.2.1.below h2, CA.out.2.2.trans (Btw.of_below h2) fun _ _ h => h⟩)
  clear h2 HCA CA
  have x2 := Q2.out _ j CB.out.1
  go_wp2
  clear x2
  go_loopw [7] (fun i wr => ∃ k : Nat, k ≤ n ∧ i = .int .i64 (k : Int) ∧ Hid (CRow wr p 41 (rjCells g j m) ∧ RjR ρ wr p g j m ∧ Btw I w wr) ∧ Hid (∀ x ∈ j.rows.take k, rjoin g row x = true)) (fun i _ => n - (intOf i).toNat)
  case atStart => exact ⟨0, Nat.zero_le _, rfl, CB, Lib.hid (by simp)⟩
  case round =>
   obtain ⟨k, hk, rfl, C1, HA⟩ := hrel
   rename World => wr
   clear CB
   have x19 := Q19.out _ C1.out.1
   by_cases hlt : k < n
   ·
    obtain ⟨x, hx⟩ : ∃ x, j.rows[k]? = some x := ⟨_, List.getElem?_eq_getElem (by rw [← HN.out]; exact hlt)⟩
    obtain ⟨b9, hA9, _, _, y0', _, _⟩ := own_at C1.out.2.1.row (k := k) (by rw [← HN.out]; exact hlt)
    obtain rfl : zR = some ⟨b9, 0, none⟩ := HZ.out.trans hA9
    have y0 : wr.cell? ⟨b9, k, none⟩ = some (.int .i64 (x : Int)) := by
     rw [y0', I64_JI, hx]
     rfl
    have hx16 := HRWS.out x (List.mem_of_getElem? hx)
    have HX := Lib.hid hx
    obtain ⟨xb, hxb⟩ : ∃ xb, xb = x / S := ⟨_, rfl⟩
    obtain ⟨xq, hxq⟩ : ∃ xq, xq = x % S := ⟨_, rfl⟩
    obtain ⟨xp, hxp⟩ : ∃ xp, xp = xb % P := ⟨_, rfl⟩
    have HXJ := Lib.hid (show rjoin g row x = (decide (xq = q) && !decide (xp = pb)) by rw [HJ.out, ← hxq, ← hxb, ← hxp])
    have a0 : (x : Int).tdiv (S : Int) = (xb : Int) := by rw [hxb]; rfl
    have a1 : (x : Int).tmod (S : Int) = (xq : Int) := by rw [hxq]; rfl
    have a2 : (xb : Int).tmod (P : Int) = (xp : Int) := by rw [hxp]; rfl
    have l0 : xb ≤ x := by rw [hxb]; exact Nat.div_le_self _ _
    have l1 : xq < S := by rw [hxq]; exact Nat.mod_lt _ PS.out.1
    have l2 : xp < P := by rw [hxp]; exact Nat.mod_lt _ PS.out.2.1
    have l3 := PS.out
    have z0 : IntKind.i64.wrap (xb : Int) = (xb : Int) := IntWalk.i64_in _ (by omega)
    have z1 : IntKind.i64.wrap (xq : Int) = (xq : Int) := IntWalk.i64_in _ (by omega)
    have z2 : IntKind.i64.wrap (xp : Int) = (xp : Int) := IntWalk.i64_in _ (by omega)
    have d1 : decide ((k : Int) < (n : Int)) = true := decide_eq_true (by omega)
    have i4 : (0 : Int) ≤ (k : Int) := by omega
    have i5 : (k : Int) < (n : Int) := by omega
    clear hA9 y0' hx hx16 hxb hxq hxp l0 l1 l2 l3
    go_wp2_with fail
    clear x19 y0
    by_cases h1 : xq = q
    ·
     by_cases h2 : xp = pb
     ·
      subst h1 h2
      have HV := Lib.hid (show rjoin g row x = false by rw [HXJ.out]; simp)
      refine wp_region_noPanic ?_
      go_region_held3 (fun w' => w'.cell? ⟨p, 2, none⟩ = some (.int .i64 (S : Int)) ∧ w'.cell? ⟨p, 0, none⟩ = some (.int .i64 (P : Int))) (exact ⟨Q2.out _ j C1.out.1.drew, Q0.out _ j C1.out.1.drew⟩) (fail)
      refine NoPanic.normal ?_
      have CX := Lib.hid (show CRow _ p 41 (rjCells g j m) ∧ RjR ρ _ p g j m ∧ Btw I w _ from ⟨C1.out.1.drew, C1.out.2.1.below ((Below.refl _ _).drew), C1.out.2.2.drew⟩)
      have HR := Lib.hid (show j.rload g 21 = (false, j) by rw [HRL.out, if_pos (fun h => by rw [List.all_eq_true] at h; have := h x (List.mem_of_getElem? HX.out); rw [HV.out] at this; cases this)])
      go_wp2; go_ret; rw [HR.out]; exact ⟨rfl, ⟨ρ, m, (CX.out).1, (CX.out).2.1, I0.out, fun k hk => N0.out k (Nat.le_trans (CX.out).2.2.size hk)⟩, CX.out.2.2⟩
     ·
      subst h1
      have HV := Lib.hid (show rjoin g row x = true by rw [HXJ.out]; simp [h2])
      have m0 : ((xp : Int) == (pb : Int)) = false := by simp; omega
      have m1 : ((xp : Int) = (pb : Int)) = False := eq_false (by omega)
      have m2 : (xp = pb) = False := eq_false h2
      have m3 : decide ((xp : Int) = (pb : Int)) = false := decide_eq_false (by omega)
      clear h2
      refine wp_region_noPanic ?_
      go_region_held3 (fun w' => w'.cell? ⟨p, 2, none⟩ = some (.int .i64 (S : Int)) ∧ w'.cell? ⟨p, 0, none⟩ = some (.int .i64 (P : Int))) (exact ⟨Q2.out _ j C1.out.1.drew, Q0.out _ j C1.out.1.drew⟩) (fail)
      refine NoPanic.normal ?_
      have CX := Lib.hid (show CRow _ p 41 (rjCells g j m) ∧ RjR ρ _ p g j m ∧ Btw I w _ from ⟨C1.out.1.drew, C1.out.2.1.below ((Below.refl _ _).drew), C1.out.2.2.drew⟩)
      go_wp2
      go_roundw
      case rel => exact ⟨k + 1, by omega, by go_num, CX, Lib.hid (fun y hy => by
       rcases (mem_take_succ HX.out y).1 hy with h | h
       ·
        exact HA.out y h
       ·
        rw [h]; exact HV.out)⟩
      case measure => simp [intOf]; omega
    ·
     have HV := Lib.hid (show rjoin g row x = false by rw [HXJ.out, decide_eq_false h1]; rfl)
     have m0 : ((xq : Int) == (q : Int)) = false := by simp; omega
     have m1 : ((xq : Int) = (q : Int)) = False := eq_false (by omega)
     have m2 : (xq = q) = False := eq_false h1
     have m3 : decide ((xq : Int) = (q : Int)) = false := decide_eq_false (by omega)
     have m4 : ((xq : Int) != (q : Int)) = true := by simp; omega
     have m5 : (xq != q) = true := by simp; omega
     have m6 : decide (xq = q) = false := decide_eq_false h1
     have m7 : (xq == q) = false := by simp; omega
     clear h1
     refine wp_region_noPanic ?_
     refine wp_region_held_drew (S := fun w' => w'.cell? ⟨p, 2, none⟩ = some (.int .i64 (S : Int)) ∧ w'.cell? ⟨p, 0, none⟩ = some (.int .i64 (P : Int))) (by kernel_rfl) ⟨Q2.out _ j C1.out.1.drew, Q0.out _ j C1.out.1.drew⟩ (fun C0 => ?_)
     refine tkH 0 zT0 _ C0 rfl (by kernel_rfl) rfl (fun W h => by clear h; dsimp only [zT0]; go_simp <;> with_reducible rfl) ?_
     try simp only [zT0, Act.put, zzI, zzO, zzS]
     refine tkH 1 zT1 _ C0 rfl (by kernel_rfl) rfl (fun W h => by clear h; dsimp only [zT1]; go_simp <;> with_reducible rfl) ?_
     try simp only [zT1, Act.put, zzI, zzO, zzS]
     refine tkH 2 zT2 _ C0 rfl (by kernel_rfl) rfl (fun W h => by clear h; dsimp only [zT2]; go_simp <;> with_reducible rfl) ?_
     try simp only [zT2, Act.put, zzI, zzO, zzS]
     refine tkH 3 zT3 _ C0 rfl (by kernel_rfl) rfl (fun W h => by clear h; dsimp only [zT3]; go_simp <;> with_reducible rfl) ?_
     try simp only [zT3, Act.put, zzI, zzO, zzS]
     refine tkH 4 zT4 _ C0 rfl (by kernel_rfl) rfl (fun W h => by clear h; dsimp only [zT4]; go_simp <;> with_reducible rfl) ?_
     try simp only [zT4, Act.put, zzI, zzO, zzS]
     refine tkH 5 zT5 _ C0 rfl (by kernel_rfl) rfl (fun W' hSw => by obtain ⟨x2, x0⟩ := hSw; dsimp only [zT5]; go_simp <;> with_reducible rfl) ?_
     try simp only [zT5, Act.put, zzI, zzO, zzS]
     refine tkH 6 zT6 _ C0 rfl (by kernel_rfl) rfl (fun W h => by clear h; dsimp only [zT6]; go_simp <;> with_reducible rfl) ?_
     try simp only [zT6, Act.put, zzI, zzO, zzS]
     refine tkH 7 zT7 _ C0 rfl (by kernel_rfl) rfl (fun W h => by clear h; dsimp only [zT7]; go_simp <;> with_reducible rfl) ?_
     try simp only [zT7, Act.put, zzI, zzO, zzS]
     refine tkH 8 zT8 _ C0 rfl (by kernel_rfl) rfl (fun W h => by clear h; dsimp only [zT8]; go_simp <;> with_reducible rfl) ?_
     try simp only [zT8, Act.put, zzI, zzO, zzS]
     refine tkH 9 zT9 _ C0 rfl (by kernel_rfl) rfl (fun W h => by clear h; dsimp only [zT9]; go_simp <;> with_reducible rfl) ?_
     try simp only [zT9, Act.put, zzI, zzO, zzS]
     refine tkH 10 zT10 _ C0 rfl (by kernel_rfl) rfl (fun W h => by clear h; dsimp only [zT10]; go_simp <;> with_reducible rfl) ?_
     try simp only [zT10, Act.put, zzI, zzO, zzS]
     refine tkH 11 zT11 _ C0 rfl (by kernel_rfl) rfl (fun W h => by clear h; dsimp only [zT11]; go_simp <;> with_reducible rfl) ?_
     try simp only [zT11, Act.put, zzI, zzO, zzS]
     refine tkH 12 zT12 _ C0 rfl (by kernel_rfl) rfl (fun W' hSw => by obtain ⟨x2, x0⟩ := hSw; dsimp only [zT12]; go_simp <;> with_reducible rfl) ?_
     try simp only [zT12, Act.put, zzI, zzO, zzS]
     refine tkH 13 zT13 _ C0 rfl (by kernel_rfl) rfl (fun W h => by clear h; dsimp only [zT13]; go_simp <;> with_reducible rfl) ?_
     try simp only [zT13, Act.put, zzI, zzO, zzS]
     refine tkH 14 zT14 _ C0 rfl (by kernel_rfl) rfl (fun W h => by clear h; dsimp only [zT14]; go_simp <;> with_reducible rfl) ?_
     try simp only [zT14, Act.put, zzI, zzO, zzS]
     refine tkH 15 zT15 _ C0 rfl (by kernel_rfl) rfl (fun W h => by clear h; dsimp only [zT15]; go_simp <;> with_reducible rfl) ?_
     try simp only [zT15, Act.put, zzI, zzO, zzS]
     refine tkN 16 zT16 C0 rfl (by kernel_rfl) rfl ?_
     try simp only [zT16, Act.put, zzI, zzO, zzS]
     refine tkN 17 zT17 C0 rfl (by kernel_rfl) rfl ?_
     try simp only [zT17, Act.put, zzI, zzO, zzS]
     refine tkN 18 zT18 C0 rfl (by kernel_rfl) rfl ?_
     try simp only [zT18, Act.put, zzI, zzO, zzS]
     refine tkN 19 zT19 C0 rfl (by kernel_rfl) rfl ?_
     try simp only [zT19, Act.put, zzI, zzO, zzS]
     refine tkN 20 zT20 C0 rfl (by kernel_rfl) rfl ?_
     try simp only [zT20, Act.put, zzI, zzO, zzS]
     refine tkN 21 zT21 C0 rfl (by kernel_rfl) rfl ?_
     try simp only [zT21, Act.put, zzI, zzO, zzS]
     refine tkN 22 zT22 C0 rfl (by kernel_rfl) rfl ?_
     try simp only [zT22, Act.put, zzI, zzO, zzS]
     refine tkN 23 zT23 C0 rfl (by kernel_rfl) rfl ?_
     try simp only [zT23, Act.put, zzI, zzO, zzS]
     refine tkN 24 zT24 C0 rfl (by kernel_rfl) rfl ?_
     try simp only [zT24, Act.put, zzI, zzO, zzS]
     refine tkN 25 zT25 C0 rfl (by kernel_rfl) rfl ?_
     try simp only [zT25, Act.put, zzI, zzO, zzS]
     refine tkN 26 zT26 C0 rfl (by kernel_rfl) rfl ?_
     try simp only [zT26, Act.put, zzI, zzO, zzS]
     refine tkN 27 zT27 C0 rfl (by kernel_rfl) rfl ?_
     try simp only [zT27, Act.put, zzI, zzO, zzS]
     refine tkN 28 zT28 C0 rfl (by kernel_rfl) rfl ?_
     try simp only [zT28, Act.put, zzI, zzO, zzS]
     refine tkN 29 zT29 C0 rfl (by kernel_rfl) rfl ?_
     try simp only [zT29, Act.put, zzI, zzO, zzS]
     refine tkN 30 zT30 C0 rfl (by kernel_rfl) rfl ?_
     try simp only [zT30, Act.put, zzI, zzO, zzS]
     refine tkN 31 zT31 C0 rfl (by kernel_rfl) rfl ?_
     try simp only [zT31, Act.put, zzI, zzO, zzS]
     refine tkN 32 zT32 C0 rfl (by kernel_rfl) rfl ?_
     try simp only [zT32, Act.put, zzI, zzO, zzS]
     refine tkN 33 zT33 C0 rfl (by kernel_rfl) rfl ?_
     try simp only [zT33, Act.put, zzI, zzO, zzS]
     refine tkN 34 zT34 C0 rfl (by kernel_rfl) rfl ?_
     try simp only [zT34, Act.put, zzI, zzO, zzS]
     refine tkN 35 zT35 C0 rfl (by kernel_rfl) rfl ?_
     try simp only [zT35, Act.put, zzI, zzO, zzS]
     refine tkN 36 zT36 C0 rfl (by kernel_rfl) rfl ?_
     try simp only [zT36, Act.put, zzI, zzO, zzS]
     refine tkH 37 zT37 _ C0 rfl (by kernel_rfl) rfl (fun W h => by clear h; dsimp only [zT37]; go_simp <;> with_reducible rfl) ?_
     try simp only [zT37, Act.put, zzI, zzO, zzS]
     refine wpAnyH_done (by kernel_rfl) ?_ _
     refine NoPanic.normal ?_
     have CX := Lib.hid (show CRow _ p 41 (rjCells g j m) ∧ RjR ρ _ p g j m ∧ Btw I w _ from ⟨C1.out.1.drew, C1.out.2.1.below ((Below.refl _ _).drew), C1.out.2.2.drew⟩)
     have HR := Lib.hid (show j.rload g 21 = (false, j) by rw [HRL.out, if_pos (fun h => by rw [List.all_eq_true] at h; have := h x (List.mem_of_getElem? HX.out); rw [HV.out] at this; cases this)])
     go_wp2; go_ret; rw [HR.out]; exact ⟨rfl, ⟨ρ, m, (CX.out).1, (CX.out).2.1, I0.out, fun k hk => N0.out k (Nat.le_trans (CX.out).2.2.size hk)⟩, CX.out.2.2⟩
   ·
    obtain rfl : k = n := by omega
    have d1 : decide ((k : Int) < (k : Int)) = false := decide_eq_false (by omega)
    have CX := C1
    have HRL2 := Lib.hid (show j.rload g 21 = _ from HRL.out.trans (if_neg (not_not_intro (by rw [List.all_eq_true]; intro x hx; exact HA.out x (by rw [HN.out, List.take_length]; exact hx)))))
    have x15 := Q15.out _ CX.out.1
    have x16 := Q16.out _ CX.out.1
    clear C1 HA
    cases bg with
    | true =>
     by_cases hb2 : b = bb
     ·
      by_cases hk0 : 0 < k
      ·
       skip
       have n0 : ((b : Int) == (bb : Int)) = true := by simp; omega
       have n1 : ((b : Int) = (bb : Int)) = True := eq_true (by omega)
       have n2 : (b = bb) = True := eq_true (by omega)
       have n3 : decide ((b : Int) = (bb : Int)) = true := decide_eq_true (by omega)
       have k0 : decide ((0 : Int) < (k : Int)) = true := decide_eq_true (by omega)
       have k1 : decide (0 < k) = true := decide_eq_true (by omega)
       have k2 : (0 < k) = True := eq_true (by omega)
       have HR := Lib.hid (show j.rload g 21 = (false, j) by rw [HRL2.out, if_pos (by simp [← HBG.out, ← HBB.out, hk0])])
       clear hb2 hk0
       go_wp2
       go_ret
       rw [HR.out]
       exact ⟨rfl, ⟨ρ, m, (CX.out).1, (CX.out).2.1, I0.out, fun k hk => N0.out k (Nat.le_trans (CX.out).2.2.size hk)⟩, CX.out.2.2⟩
      ·
       skip
       have n0 : ((b : Int) == (bb : Int)) = true := by simp; omega
       have n1 : ((b : Int) = (bb : Int)) = True := eq_true (by omega)
       have n2 : (b = bb) = True := eq_true (by omega)
       have n3 : decide ((b : Int) = (bb : Int)) = true := decide_eq_true (by omega)
       have k0 : decide ((0 : Int) < (k : Int)) = false := decide_eq_false (by omega)
       have k1 : decide (0 < k) = false := decide_eq_false (by omega)
       have k2 : (0 < k) = False := eq_false (by omega)
       have HR := Lib.hid (show j.rload g 21 = (true, Jd.start ({ j with data := false, la := fun x => if x = b then (q : Int) else j.la x, pr := fun x => if x = row then j.pr x + 1 else j.pr x, rows := [], bg := true, bgb := b } : Jd)) by
        rw [HRL2.out, if_neg (by simp [← HBG.out, ← HBB.out, hb2, hk0])]
        rfl)
       clear hb2 hk0
              
       have x17 := CX.out.1.cell_at 17 (.bool j.data) rfl
       have f17 := CX.out.1.frozen 17
       have S1 := Lib.hid (CX.out.1.setCell 17 (.bool false))
       have S1K := Lib.hid ((Btw.refl (I := fun k => k = p) wr).setCell (p := ⟨p, 17, none⟩) (v := .bool false) rfl)
       have C1 := Lib.hid (show CRow (wr.setCell ⟨p, 17, none⟩ (.bool false)) p 41 (rjCells g ({ j with data := false } : Jd) m) ∧ RjR ρ (wr.setCell ⟨p, 17, none⟩ (.bool false)) p g ({ j with data := false } : Jd) m ∧ Btw I w (wr.setCell ⟨p, 17, none⟩ (.bool false)) from
        ⟨by have h0 := S1.out; simpa [rjCells] using h0, (fun (h : RjR ρ _ p g j m) => ({ h with  } : RjR ρ _ p g ({ j with data := false } : Jd) m)) (CX.out.2.1.btw S1K.out fun k e => .inr (by have e : k = p := e; rw [e]; exact CX.out.2.1.rp)), CX.out.2.2.trans S1K.out fun k _ e => I0.out k (by have e : k = p := e; rw [e, CX.out.2.1.rp]; decide)⟩)
       go_wp2_with fail
       clear x15 x16 x19
       obtain ⟨w1, hw1⟩ : ∃ w1, w1 = wr.setCell ⟨p, 17, none⟩ (.bool false) := ⟨_, rfl⟩
       rw [← hw1] at C1
       try rw [← hw1]
       clear hw1
       clear x17 f17
       refine wp_region_noPanic ?_
       refine wp_region_held_drew (S := fun w' => w'.cell? ⟨p, 8, none⟩ = some (.slice (some ⟨m.l, 0, none⟩) NB m.cl) ∧ w'.cell? ⟨p, 2, none⟩ = some (.int .i64 (S : Int))) (by kernel_rfl) ⟨Q8.out _ ({ j with data := false } : Jd) C1.out.1.drew, Q2.out _ ({ j with data := false } : Jd) C1.out.1.drew⟩ (fun C0 => ?_)
       refine tkH 0 zT38 _ C0 rfl (by kernel_rfl) rfl (fun W h => by clear h; dsimp only [zT38]; go_simp <;> with_reducible rfl) ?_
       try simp only [zT38, Act.put, zzI, zzO, zzS]
       refine tkH 1 zT39 _ C0 rfl (by kernel_rfl) rfl (fun W h => by clear h; dsimp only [zT39]; go_simp <;> with_reducible rfl) ?_
       try simp only [zT39, Act.put, zzI, zzO, zzS]
       refine tkH 2 zT40 _ C0 rfl (by kernel_rfl) rfl (fun W h => by clear h; dsimp only [zT40]; go_simp <;> with_reducible rfl) ?_
       try simp only [zT40, Act.put, zzI, zzO, zzS]
       refine tkH 3 zT41 _ C0 rfl (by kernel_rfl) rfl (fun W' hSw => by obtain ⟨x8, x2⟩ := hSw; dsimp only [zT41]; go_simp <;> with_reducible rfl) ?_
       try simp only [zT41, Act.put, zzI, zzO, zzS]
       refine tkH 4 zT42 _ C0 rfl (by kernel_rfl) rfl (fun W h => by clear h; dsimp only [zT42]; go_simp <;> with_reducible rfl) ?_
       try simp only [zT42, Act.put, zzI, zzO, zzS]
       refine tkH 5 zT43 _ C0 rfl (by kernel_rfl) rfl (fun W h => by clear h; dsimp only [zT43]; go_simp <;> with_reducible rfl) ?_
       try simp only [zT43, Act.put, zzI, zzO, zzS]
       refine tkH 6 zT44 _ C0 rfl (by kernel_rfl) rfl (fun W h => by clear h; dsimp only [zT44]; go_simp <;> with_reducible rfl) ?_
       try simp only [zT44, Act.put, zzI, zzO, zzS]
       refine tkH 7 zT45 _ C0 rfl (by kernel_rfl) rfl (fun W h => by clear h; dsimp only [zT45]; go_simp <;> with_reducible rfl) ?_
       try simp only [zT45, Act.put, zzI, zzO, zzS]
       refine tkH 8 zT46 _ C0 rfl (by kernel_rfl) rfl (fun W h => by clear h; dsimp only [zT46]; go_simp <;> with_reducible rfl) ?_
       try simp only [zT46, Act.put, zzI, zzO, zzS]
       refine tkH 9 zT47 _ C0 rfl (by kernel_rfl) rfl (fun W h => by clear h; dsimp only [zT47]; go_simp <;> with_reducible rfl) ?_
       try simp only [zT47, Act.put, zzI, zzO, zzS]
       refine tkH 10 zT48 _ C0 rfl (by kernel_rfl) rfl (fun W' hSw => by obtain ⟨x8, x2⟩ := hSw; dsimp only [zT48]; go_simp <;> with_reducible rfl) ?_
       try simp only [zT48, Act.put, zzI, zzO, zzS]
       refine tkH 11 zT49 _ C0 rfl (by kernel_rfl) rfl (fun W h => by clear h; dsimp only [zT49]; go_simp <;> with_reducible rfl) ?_
       try simp only [zT49, Act.put, zzI, zzO, zzS]
       refine tkH 12 zT50 _ C0 rfl (by kernel_rfl) rfl (fun W h => by clear h; dsimp only [zT50]; go_simp <;> with_reducible rfl) ?_
       try simp only [zT50, Act.put, zzI, zzO, zzS]
       refine wpAnyH_ready (rs := [13]) (by kernel_rfl) (by simp) ?_
       refine AllReadyH.cons (o := zTc0) rfl (fun K hK => ?_) AllReadyH.nil
       dsimp only [zTc0]
       have ce := C1.out.2.1.cl
       have f0 := ce.frozen b
       have hb0 : laF g ({ j with data := false } : Jd) b = some (.int .i64 (j.la b)) := if_pos HBN.out
       have e0 := ce.cell hb0
       go_simp
       have hq := RJ.set_la (i := b) (la' := ({ j with data := false, la := fun x => if x = b then (q : Int) else j.la x } : Jd).la) C1.out.1.drew (C1.out.2.1.below ((Below.refl _ _).drew)) (by rw [hb0]; rfl) (fun x hx => if_neg hx)
       rw [show ({ j with data := false, la := fun x => if x = b then (q : Int) else j.la x } : Jd).la b = (q : Int) from if_pos rfl] at hq
       have C2 := Lib.hid (show CRow _ p 41 (rjCells g ({ j with data := false, la := fun x => if x = b then (q : Int) else j.la x } : Jd) m) ∧ RjR ρ _ p g ({ j with data := false, la := fun x => if x = b then (q : Int) else j.la x } : Jd) m ∧ Btw I w _ from ⟨hq.1, hq.2.1, C1.out.2.2.drew.trans hq.2.2 fun x _ e => I0.out x (by have e : x = m.l := e; rw [e, C1.out.2.1.rl]; decide)⟩)
       clear hq f0 e0 ce hb0
       refine hK.out _ _ ⟨Q8.out _ ({ j with data := false, la := fun x => if x = b then (q : Int) else j.la x } : Jd) C2.out.1, Q2.out _ ({ j with data := false, la := fun x => if x = b then (q : Int) else j.la x } : Jd) C2.out.1⟩ (fun C1 => ?_)
       clear hK K
       try simp only [Act.put]
       refine wpAnyH_done (by kernel_rfl) ?_ _
       refine NoPanic.normal ?_
       have C2 := Lib.hid (show CRow ((w1.setCell ⟨m.l, b, none⟩ (.int .i64 (q : Int))).drew) p 41 (rjCells g ({ j with data := false, la := fun x => if x = b then (q : Int) else j.la x } : Jd) m) ∧ RjR ρ ((w1.setCell ⟨m.l, b, none⟩ (.int .i64 (q : Int))).drew) p g ({ j with data := false, la := fun x => if x = b then (q : Int) else j.la x } : Jd) m ∧ Btw I w ((w1.setCell ⟨m.l, b, none⟩ (.int .i64 (q : Int))).drew) from C2.out)
       go_wp2_with fail
       obtain ⟨w2, hw2⟩ : ∃ w2, w2 = (w1.setCell ⟨m.l, b, none⟩ (.int .i64 (q : Int))).drew := ⟨_, rfl⟩
       rw [← hw2] at C2
       rw [← hw2]
       clear hw2
       refine wp_region_noPanic ?_
       refine wp_region_held_drew (S := fun w' => w'.cell? ⟨p, 9, none⟩ = some (.slice (some ⟨m.q, 0, none⟩) R m.cq)) (by kernel_rfl) (Q9.out _ ({ j with data := false, la := fun x => if x = b then (q : Int) else j.la x } : Jd) C2.out.1.drew) (fun C0 => ?_)
       refine tkH 0 zT51 _ C0 rfl (by kernel_rfl) rfl (fun W h => by clear h; dsimp only [zT51]; go_simp <;> with_reducible rfl) ?_
       try simp only [zT51, Act.put, zzI, zzO, zzS]
       refine tkH 1 zT52 _ C0 rfl (by kernel_rfl) rfl (fun W h => by clear h; dsimp only [zT52]; go_simp <;> with_reducible rfl) ?_
       try simp only [zT52, Act.put, zzI, zzO, zzS]
       refine tkH 2 zT53 _ C0 rfl (by kernel_rfl) rfl (fun W h => by clear h; dsimp only [zT53]; go_simp <;> with_reducible rfl) ?_
       try simp only [zT53, Act.put, zzI, zzO, zzS]
       refine tkH 3 zT54 _ C0 rfl (by kernel_rfl) rfl (fun W' hSw => by have x9 := hSw; dsimp only [zT54]; go_simp <;> with_reducible rfl) ?_
       try simp only [zT54, Act.put, zzI, zzO, zzS]
       refine tkH 4 zT55 _ C0 rfl (by kernel_rfl) rfl (fun W h => by clear h; dsimp only [zT55]; go_simp <;> with_reducible rfl) ?_
       try simp only [zT55, Act.put, zzI, zzO, zzS]
       refine tkH 5 zT56 _ C0 rfl (by kernel_rfl) rfl (fun W h => by clear h; dsimp only [zT56]; go_simp <;> with_reducible rfl) ?_
       try simp only [zT56, Act.put, zzI, zzO, zzS]
       refine tkH 6 zT57 _ C0 rfl (by kernel_rfl) rfl (fun W h => by clear h; dsimp only [zT57]; go_simp <;> with_reducible rfl) ?_
       try simp only [zT57, Act.put, zzI, zzO, zzS]
       refine tkH 7 zT58 _ C0 rfl (by kernel_rfl) rfl (fun W h => by clear h; dsimp only [zT58]; go_simp <;> with_reducible rfl) ?_
       try simp only [zT58, Act.put, zzI, zzO, zzS]
       refine tkH 8 zT59 _ C0 rfl (by kernel_rfl) rfl (fun W' hSw => by have x9 := hSw; dsimp only [zT59]; go_simp <;> with_reducible rfl) ?_
       try simp only [zT59, Act.put, zzI, zzO, zzS]
       refine tkH 9 zT60 _ C0 rfl (by kernel_rfl) rfl (fun W h => by clear h; dsimp only [zT60]; go_simp <;> with_reducible rfl) ?_
       try simp only [zT60, Act.put, zzI, zzO, zzS]
       refine tkH 10 zT61 _ C0 rfl (by kernel_rfl) rfl (fun W h => by clear h; dsimp only [zT61]; go_simp <;> with_reducible rfl) ?_
       try simp only [zT61, Act.put, zzI, zzO, zzS]
       refine wpAnyH_ready (rs := [11]) (by kernel_rfl) (by simp) ?_
       refine AllReadyH.cons (o := zTc1) rfl (fun K hK => ?_) AllReadyH.nil
       dsimp only [zTc1]
       have e0 : w2.drew.cell? ⟨m.q, row, none⟩ = some (.int .i64 ((j.pr row : Nat) : Int)) := C2.out.2.1.cq.cell (if_pos HRN.out)
       go_simp
       clear e0
       refine hK.out _ _ (Q9.out _ ({ j with data := false, la := fun x => if x = b then (q : Int) else j.la x } : Jd) C2.out.1.drew) (fun C1 => ?_)
       clear hK K
       try simp only [Act.put, zzI, zzO, zzS]
       refine tkH 12 zT62 _ C1 rfl (by kernel_rfl) rfl (fun W h => by clear h; dsimp only [zT62]; go_simp <;> with_reducible rfl) ?_
       try simp only [zT62, Act.put, zzI, zzO, zzS]
       refine tkH 13 zT63 _ C1 rfl (by kernel_rfl) rfl (fun W h => by clear h; dsimp only [zT63]; go_simp <;> with_reducible rfl) ?_
       try simp only [zT63, Act.put, zzI, zzO, zzS]
       refine wpAnyH_ready (rs := [14]) (by kernel_rfl) (by simp) ?_
       refine AllReadyH.cons (o := zTc2) rfl (fun K hK => ?_) AllReadyH.nil
       dsimp only [zTc2]
       have ce := C2.out.2.1.cq
       have f0 := ce.frozen row
       have hb0 : prF g ({ j with data := false, la := fun x => if x = b then (q : Int) else j.la x } : Jd) row = some (.int .i64 ((j.pr row : Nat) : Int)) := if_pos HRN.out
       have e0 := ce.cell hb0
       go_simp
       have hq := RJ.set_pr (i := row) (pr' := ({ j with data := false, la := fun x => if x = b then (q : Int) else j.la x, pr := fun x => if x = row then j.pr x + 1 else j.pr x } : Jd).pr) C2.out.1.drew (C2.out.2.1.below ((Below.refl _ _).drew)) (by rw [hb0]; rfl) (fun x hx => if_neg hx)
       rw [show ({ j with data := false, la := fun x => if x = b then (q : Int) else j.la x, pr := fun x => if x = row then j.pr x + 1 else j.pr x } : Jd).pr row = j.pr row + 1 from if_pos rfl, show ((j.pr row + 1 : Nat) : Int) = (j.pr row : Int) + 1 from rfl] at hq
       have C3 := Lib.hid (show CRow _ p 41 (rjCells g ({ j with data := false, la := fun x => if x = b then (q : Int) else j.la x, pr := fun x => if x = row then j.pr x + 1 else j.pr x } : Jd) m) ∧ RjR ρ _ p g ({ j with data := false, la := fun x => if x = b then (q : Int) else j.la x, pr := fun x => if x = row then j.pr x + 1 else j.pr x } : Jd) m ∧ Btw I w _ from ⟨hq.1, hq.2.1, C2.out.2.2.drew.trans hq.2.2 fun x _ e => I0.out x (by have e : x = m.q := e; rw [e, C2.out.2.1.rq]; decide)⟩)
       clear hq f0 e0 ce hb0
       refine hK.out _ _ (Q9.out _ ({ j with data := false, la := fun x => if x = b then (q : Int) else j.la x, pr := fun x => if x = row then j.pr x + 1 else j.pr x } : Jd) C3.out.1) (fun C2 => ?_)
       clear hK K
       try simp only [Act.put]
       refine wpAnyH_done (by kernel_rfl) ?_ _
       refine NoPanic.normal ?_
       have C3 := Lib.hid (show CRow ((w2.setCell ⟨m.q, row, none⟩ (.int .i64 (((j.pr row : Nat) : Int) + 1))).drew) p 41 (rjCells g ({ j with data := false, la := fun x => if x = b then (q : Int) else j.la x, pr := fun x => if x = row then j.pr x + 1 else j.pr x } : Jd) m) ∧ RjR ρ ((w2.setCell ⟨m.q, row, none⟩ (.int .i64 (((j.pr row : Nat) : Int) + 1))).drew) p g ({ j with data := false, la := fun x => if x = b then (q : Int) else j.la x, pr := fun x => if x = row then j.pr x + 1 else j.pr x } : Jd) m ∧ Btw I w ((w2.setCell ⟨m.q, row, none⟩ (.int .i64 (((j.pr row : Nat) : Int) + 1))).drew) from C3.out)
       obtain ⟨w3, hw3⟩ : ∃ w3, w3 = (w2.setCell ⟨m.q, row, none⟩ (.int .i64 (((j.pr row : Nat) : Int) + 1))).drew := ⟨_, rfl⟩
       rw [← hw3] at C3
       rw [← hw3]
       clear hw3
       have x19 := C3.out.1.cell_at 19 (.slice m.aR j.rows.length m.cR) rfl
       have f19 := C3.out.1.frozen 19
       have S4 := Lib.hid (C3.out.1.setCell 19 (.slice none 0 0))
       have S4K := Lib.hid ((Btw.refl (I := fun k => k = p) w3).setCell (p := ⟨p, 19, none⟩) (v := .slice none 0 0) rfl)
       have C4 := Lib.hid (show CRow (w3.setCell ⟨p, 19, none⟩ (.slice none 0 0)) p 41 (rjCells g ({ j with data := false, la := fun x => if x = b then (q : Int) else j.la x, pr := fun x => if x = row then j.pr x + 1 else j.pr x, rows := [] } : Jd) ({ m with aR := none, cR := 0 } : RjM)) ∧ RjR ρ (w3.setCell ⟨p, 19, none⟩ (.slice none 0 0)) p g ({ j with data := false, la := fun x => if x = b then (q : Int) else j.la x, pr := fun x => if x = row then j.pr x + 1 else j.pr x, rows := [] } : Jd) ({ m with aR := none, cR := 0 } : RjM) ∧ Btw I w (w3.setCell ⟨p, 19, none⟩ (.slice none 0 0)) from
        ⟨by have h0 := S4.out; simpa [rjCells] using h0, (fun (h : RjR ρ _ p g ({ j with data := false, la := fun x => if x = b then (q : Int) else j.la x, pr := fun x => if x = row then j.pr x + 1 else j.pr x } : Jd) m) => ({ h with row := ⟨rfl, .inl ⟨rfl, rfl⟩⟩, rR := fun k hk => (by cases hk) } : RjR ρ _ p g ({ j with data := false, la := fun x => if x = b then (q : Int) else j.la x, pr := fun x => if x = row then j.pr x + 1 else j.pr x, rows := [] } : Jd) ({ m with aR := none, cR := 0 } : RjM))) (C3.out.2.1.btw S4K.out fun k e => .inr (by have e : k = p := e; rw [e]; exact C3.out.2.1.rp)), C3.out.2.2.trans S4K.out fun k _ e => I0.out k (by have e : k = p := e; rw [e, C3.out.2.1.rp]; decide)⟩)
       have x15 := C4.out.1.cell_at 15 (.bool j.bg) rfl
       have f15 := C4.out.1.frozen 15
       have S5 := Lib.hid (C4.out.1.setCell 15 (.bool true))
       have S5K := Lib.hid ((Btw.refl (I := fun k => k = p) (w3.setCell ⟨p, 19, none⟩ (.slice none 0 0))).setCell (p := ⟨p, 15, none⟩) (v := .bool true) rfl)
       have C5 := Lib.hid (show CRow ((w3.setCell ⟨p, 19, none⟩ (.slice none 0 0)).setCell ⟨p, 15, none⟩ (.bool true)) p 41 (rjCells g ({ j with data := false, la := fun x => if x = b then (q : Int) else j.la x, pr := fun x => if x = row then j.pr x + 1 else j.pr x, rows := [], bg := true } : Jd) ({ m with aR := none, cR := 0 } : RjM)) ∧ RjR ρ ((w3.setCell ⟨p, 19, none⟩ (.slice none 0 0)).setCell ⟨p, 15, none⟩ (.bool true)) p g ({ j with data := false, la := fun x => if x = b then (q : Int) else j.la x, pr := fun x => if x = row then j.pr x + 1 else j.pr x, rows := [], bg := true } : Jd) ({ m with aR := none, cR := 0 } : RjM) ∧ Btw I w ((w3.setCell ⟨p, 19, none⟩ (.slice none 0 0)).setCell ⟨p, 15, none⟩ (.bool true)) from
        ⟨by have h0 := S5.out; simpa [rjCells] using h0, (fun (h : RjR ρ _ p g ({ j with data := false, la := fun x => if x = b then (q : Int) else j.la x, pr := fun x => if x = row then j.pr x + 1 else j.pr x, rows := [] } : Jd) ({ m with aR := none, cR := 0 } : RjM)) => ({ h with  } : RjR ρ _ p g ({ j with data := false, la := fun x => if x = b then (q : Int) else j.la x, pr := fun x => if x = row then j.pr x + 1 else j.pr x, rows := [], bg := true } : Jd) ({ m with aR := none, cR := 0 } : RjM))) (C4.out.2.1.btw S5K.out fun k e => .inr (by have e : k = p := e; rw [e]; exact C4.out.2.1.rp)), C4.out.2.2.trans S5K.out fun k _ e => I0.out k (by have e : k = p := e; rw [e, C4.out.2.1.rp]; decide)⟩)
       have x16 := C5.out.1.cell_at 16 (.int .i64 (j.bgb : Int)) rfl
       have f16 := C5.out.1.frozen 16
       have S6 := Lib.hid (C5.out.1.setCell 16 (.int .i64 (b : Int)))
       have S6K := Lib.hid ((Btw.refl (I := fun k => k = p) ((w3.setCell ⟨p, 19, none⟩ (.slice none 0 0)).setCell ⟨p, 15, none⟩ (.bool true))).setCell (p := ⟨p, 16, none⟩) (v := .int .i64 (b : Int)) rfl)
       have C6 := Lib.hid (show CRow (((w3.setCell ⟨p, 19, none⟩ (.slice none 0 0)).setCell ⟨p, 15, none⟩ (.bool true)).setCell ⟨p, 16, none⟩ (.int .i64 (b : Int))) p 41 (rjCells g ({ j with data := false, la := fun x => if x = b then (q : Int) else j.la x, pr := fun x => if x = row then j.pr x + 1 else j.pr x, rows := [], bg := true, bgb := b } : Jd) ({ m with aR := none, cR := 0 } : RjM)) ∧ RjR ρ (((w3.setCell ⟨p, 19, none⟩ (.slice none 0 0)).setCell ⟨p, 15, none⟩ (.bool true)).setCell ⟨p, 16, none⟩ (.int .i64 (b : Int))) p g ({ j with data := false, la := fun x => if x = b then (q : Int) else j.la x, pr := fun x => if x = row then j.pr x + 1 else j.pr x, rows := [], bg := true, bgb := b } : Jd) ({ m with aR := none, cR := 0 } : RjM) ∧ Btw I w (((w3.setCell ⟨p, 19, none⟩ (.slice none 0 0)).setCell ⟨p, 15, none⟩ (.bool true)).setCell ⟨p, 16, none⟩ (.int .i64 (b : Int))) from
        ⟨by have h0 := S6.out; simpa [rjCells] using h0, (fun (h : RjR ρ _ p g ({ j with data := false, la := fun x => if x = b then (q : Int) else j.la x, pr := fun x => if x = row then j.pr x + 1 else j.pr x, rows := [], bg := true } : Jd) ({ m with aR := none, cR := 0 } : RjM)) => ({ h with  } : RjR ρ _ p g ({ j with data := false, la := fun x => if x = b then (q : Int) else j.la x, pr := fun x => if x = row then j.pr x + 1 else j.pr x, rows := [], bg := true, bgb := b } : Jd) ({ m with aR := none, cR := 0 } : RjM))) (C5.out.2.1.btw S6K.out fun k e => .inr (by have e : k = p := e; rw [e]; exact C5.out.2.1.rp)), C5.out.2.2.trans S6K.out fun k _ e => I0.out k (by have e : k = p := e; rw [e, C5.out.2.1.rp]; decide)⟩)
       have HST := Lib.hid (rstart (j := ({ j with data := false, la := fun x => if x = b then (q : Int) else j.la x, pr := fun x => if x = row then j.pr x + 1 else j.pr x, rows := [], bg := true, bgb := b } : Jd)) ⟨ρ, ({ m with aR := none, cR := 0 } : RjM), (C6.out).1, (C6.out).2.1, I0.out, fun k hk => N0.out k (Nat.le_trans (C6.out).2.2.size hk)⟩)
       go_wp2_with fail
       refine HST.out.mono ?_
       rintro _ w9 ⟨rfl, h9, b9⟩
       have H9 := Lib.hid h9
       have B9 := Lib.hid (C6.out.2.2.trans b9 fun _ _ h => h)
       clear h9 b9 HST
       go_wp2
       go_ret
       rw [HR.out]
       exact ⟨rfl, H9.out, B9.out⟩
     ·
      skip
      have n0 : ((b : Int) == (bb : Int)) = false := by simp; omega
      have n1 : ((b : Int) = (bb : Int)) = False := eq_false (by omega)
      have n2 : (b = bb) = False := eq_false (by omega)
      have n3 : decide ((b : Int) = (bb : Int)) = false := decide_eq_false (by omega)
      have HR := Lib.hid (show j.rload g 21 = (false, j) by rw [HRL2.out, if_pos (by simp [← HBG.out, ← HBB.out, hb2])])
      clear hb2
      go_wp2
      go_ret
      rw [HR.out]
      exact ⟨rfl, ⟨ρ, m, (CX.out).1, (CX.out).2.1, I0.out, fun k hk => N0.out k (Nat.le_trans (CX.out).2.2.size hk)⟩, CX.out.2.2⟩
    | false =>
     by_cases hk0 : 0 < k
     ·
      skip
      have k0 : decide ((0 : Int) < (k : Int)) = true := decide_eq_true (by omega)
      have k1 : decide (0 < k) = true := decide_eq_true (by omega)
      have k2 : (0 < k) = True := eq_true (by omega)
      have HR := Lib.hid (show j.rload g 21 = (false, j) by rw [HRL2.out, if_pos (by simp [← HBG.out, ← HBB.out, hk0])])
      clear hk0
      go_wp2
      go_ret
      rw [HR.out]
      exact ⟨rfl, ⟨ρ, m, (CX.out).1, (CX.out).2.1, I0.out, fun k hk => N0.out k (Nat.le_trans (CX.out).2.2.size hk)⟩, CX.out.2.2⟩
     ·
      skip
      have k0 : decide ((0 : Int) < (k : Int)) = false := decide_eq_false (by omega)
      have k1 : decide (0 < k) = false := decide_eq_false (by omega)
      have k2 : (0 < k) = False := eq_false (by omega)
      have HR := Lib.hid (show j.rload g 21 = (true, Jd.start ({ j with data := false, la := fun x => if x = b then (q : Int) else j.la x, pr := fun x => if x = row then j.pr x + 1 else j.pr x, rows := [], bg := true, bgb := b } : Jd)) by
       rw [HRL2.out, if_neg (by simp [← HBG.out, ← HBB.out, hk0])]
       rfl)
      clear hk0
            
      have x17 := CX.out.1.cell_at 17 (.bool j.data) rfl
      have f17 := CX.out.1.frozen 17
      have S1 := Lib.hid (CX.out.1.setCell 17 (.bool false))
      have S1K := Lib.hid ((Btw.refl (I := fun k => k = p) wr).setCell (p := ⟨p, 17, none⟩) (v := .bool false) rfl)
      have C1 := Lib.hid (show CRow (wr.setCell ⟨p, 17, none⟩ (.bool false)) p 41 (rjCells g ({ j with data := false } : Jd) m) ∧ RjR ρ (wr.setCell ⟨p, 17, none⟩ (.bool false)) p g ({ j with data := false } : Jd) m ∧ Btw I w (wr.setCell ⟨p, 17, none⟩ (.bool false)) from
       ⟨by have h0 := S1.out; simpa [rjCells] using h0, (fun (h : RjR ρ _ p g j m) => ({ h with  } : RjR ρ _ p g ({ j with data := false } : Jd) m)) (CX.out.2.1.btw S1K.out fun k e => .inr (by have e : k = p := e; rw [e]; exact CX.out.2.1.rp)), CX.out.2.2.trans S1K.out fun k _ e => I0.out k (by have e : k = p := e; rw [e, CX.out.2.1.rp]; decide)⟩)
      go_wp2_with fail
      clear x15 x16 x19
      obtain ⟨w1, hw1⟩ : ∃ w1, w1 = wr.setCell ⟨p, 17, none⟩ (.bool false) := ⟨_, rfl⟩
      rw [← hw1] at C1
      try rw [← hw1]
      clear hw1
      clear x17 f17
      refine wp_region_noPanic ?_
      refine wp_region_held_drew (S := fun w' => w'.cell? ⟨p, 8, none⟩ = some (.slice (some ⟨m.l, 0, none⟩) NB m.cl) ∧ w'.cell? ⟨p, 2, none⟩ = some (.int .i64 (S : Int))) (by kernel_rfl) ⟨Q8.out _ ({ j with data := false } : Jd) C1.out.1.drew, Q2.out _ ({ j with data := false } : Jd) C1.out.1.drew⟩ (fun C0 => ?_)
      refine tkH 0 zT38 _ C0 rfl (by kernel_rfl) rfl (fun W h => by clear h; dsimp only [zT38]; go_simp <;> with_reducible rfl) ?_
      try simp only [zT38, Act.put, zzI, zzO, zzS]
      refine tkH 1 zT39 _ C0 rfl (by kernel_rfl) rfl (fun W h => by clear h; dsimp only [zT39]; go_simp <;> with_reducible rfl) ?_
      try simp only [zT39, Act.put, zzI, zzO, zzS]
      refine tkH 2 zT40 _ C0 rfl (by kernel_rfl) rfl (fun W h => by clear h; dsimp only [zT40]; go_simp <;> with_reducible rfl) ?_
      try simp only [zT40, Act.put, zzI, zzO, zzS]
      refine tkH 3 zT41 _ C0 rfl (by kernel_rfl) rfl (fun W' hSw => by obtain ⟨x8, x2⟩ := hSw; dsimp only [zT41]; go_simp <;> with_reducible rfl) ?_
      try simp only [zT41, Act.put, zzI, zzO, zzS]
      refine tkH 4 zT42 _ C0 rfl (by kernel_rfl) rfl (fun W h => by clear h; dsimp only [zT42]; go_simp <;> with_reducible rfl) ?_
      try simp only [zT42, Act.put, zzI, zzO, zzS]
      refine tkH 5 zT43 _ C0 rfl (by kernel_rfl) rfl (fun W h => by clear h; dsimp only [zT43]; go_simp <;> with_reducible rfl) ?_
      try simp only [zT43, Act.put, zzI, zzO, zzS]
      refine tkH 6 zT44 _ C0 rfl (by kernel_rfl) rfl (fun W h => by clear h; dsimp only [zT44]; go_simp <;> with_reducible rfl) ?_
      try simp only [zT44, Act.put, zzI, zzO, zzS]
      refine tkH 7 zT45 _ C0 rfl (by kernel_rfl) rfl (fun W h => by clear h; dsimp only [zT45]; go_simp <;> with_reducible rfl) ?_
      try simp only [zT45, Act.put, zzI, zzO, zzS]
      refine tkH 8 zT46 _ C0 rfl (by kernel_rfl) rfl (fun W h => by clear h; dsimp only [zT46]; go_simp <;> with_reducible rfl) ?_
      try simp only [zT46, Act.put, zzI, zzO, zzS]
      refine tkH 9 zT47 _ C0 rfl (by kernel_rfl) rfl (fun W h => by clear h; dsimp only [zT47]; go_simp <;> with_reducible rfl) ?_
      try simp only [zT47, Act.put, zzI, zzO, zzS]
      refine tkH 10 zT48 _ C0 rfl (by kernel_rfl) rfl (fun W' hSw => by obtain ⟨x8, x2⟩ := hSw; dsimp only [zT48]; go_simp <;> with_reducible rfl) ?_
      try simp only [zT48, Act.put, zzI, zzO, zzS]
      refine tkH 11 zT49 _ C0 rfl (by kernel_rfl) rfl (fun W h => by clear h; dsimp only [zT49]; go_simp <;> with_reducible rfl) ?_
      try simp only [zT49, Act.put, zzI, zzO, zzS]
      refine tkH 12 zT50 _ C0 rfl (by kernel_rfl) rfl (fun W h => by clear h; dsimp only [zT50]; go_simp <;> with_reducible rfl) ?_
      try simp only [zT50, Act.put, zzI, zzO, zzS]
      refine wpAnyH_ready (rs := [13]) (by kernel_rfl) (by simp) ?_
      refine AllReadyH.cons (o := zTc0) rfl (fun K hK => ?_) AllReadyH.nil
      dsimp only [zTc0]
      have ce := C1.out.2.1.cl
      have f0 := ce.frozen b
      have hb0 : laF g ({ j with data := false } : Jd) b = some (.int .i64 (j.la b)) := if_pos HBN.out
      have e0 := ce.cell hb0
      go_simp
      have hq := RJ.set_la (i := b) (la' := ({ j with data := false, la := fun x => if x = b then (q : Int) else j.la x } : Jd).la) C1.out.1.drew (C1.out.2.1.below ((Below.refl _ _).drew)) (by rw [hb0]; rfl) (fun x hx => if_neg hx)
      rw [show ({ j with data := false, la := fun x => if x = b then (q : Int) else j.la x } : Jd).la b = (q : Int) from if_pos rfl] at hq
      have C2 := Lib.hid (show CRow _ p 41 (rjCells g ({ j with data := false, la := fun x => if x = b then (q : Int) else j.la x } : Jd) m) ∧ RjR ρ _ p g ({ j with data := false, la := fun x => if x = b then (q : Int) else j.la x } : Jd) m ∧ Btw I w _ from ⟨hq.1, hq.2.1, C1.out.2.2.drew.trans hq.2.2 fun x _ e => I0.out x (by have e : x = m.l := e; rw [e, C1.out.2.1.rl]; decide)⟩)
      clear hq f0 e0 ce hb0
      refine hK.out _ _ ⟨Q8.out _ ({ j with data := false, la := fun x => if x = b then (q : Int) else j.la x } : Jd) C2.out.1, Q2.out _ ({ j with data := false, la := fun x => if x = b then (q : Int) else j.la x } : Jd) C2.out.1⟩ (fun C1 => ?_)
      clear hK K
      try simp only [Act.put]
      refine wpAnyH_done (by kernel_rfl) ?_ _
      refine NoPanic.normal ?_
      have C2 := Lib.hid (show CRow ((w1.setCell ⟨m.l, b, none⟩ (.int .i64 (q : Int))).drew) p 41 (rjCells g ({ j with data := false, la := fun x => if x = b then (q : Int) else j.la x } : Jd) m) ∧ RjR ρ ((w1.setCell ⟨m.l, b, none⟩ (.int .i64 (q : Int))).drew) p g ({ j with data := false, la := fun x => if x = b then (q : Int) else j.la x } : Jd) m ∧ Btw I w ((w1.setCell ⟨m.l, b, none⟩ (.int .i64 (q : Int))).drew) from C2.out)
      go_wp2_with fail
      obtain ⟨w2, hw2⟩ : ∃ w2, w2 = (w1.setCell ⟨m.l, b, none⟩ (.int .i64 (q : Int))).drew := ⟨_, rfl⟩
      rw [← hw2] at C2
      rw [← hw2]
      clear hw2
      refine wp_region_noPanic ?_
      refine wp_region_held_drew (S := fun w' => w'.cell? ⟨p, 9, none⟩ = some (.slice (some ⟨m.q, 0, none⟩) R m.cq)) (by kernel_rfl) (Q9.out _ ({ j with data := false, la := fun x => if x = b then (q : Int) else j.la x } : Jd) C2.out.1.drew) (fun C0 => ?_)
      refine tkH 0 zT51 _ C0 rfl (by kernel_rfl) rfl (fun W h => by clear h; dsimp only [zT51]; go_simp <;> with_reducible rfl) ?_
      try simp only [zT51, Act.put, zzI, zzO, zzS]
      refine tkH 1 zT52 _ C0 rfl (by kernel_rfl) rfl (fun W h => by clear h; dsimp only [zT52]; go_simp <;> with_reducible rfl) ?_
      try simp only [zT52, Act.put, zzI, zzO, zzS]
      refine tkH 2 zT53 _ C0 rfl (by kernel_rfl) rfl (fun W h => by clear h; dsimp only [zT53]; go_simp <;> with_reducible rfl) ?_
      try simp only [zT53, Act.put, zzI, zzO, zzS]
      refine tkH 3 zT54 _ C0 rfl (by kernel_rfl) rfl (fun W' hSw => by have x9 := hSw; dsimp only [zT54]; go_simp <;> with_reducible rfl) ?_
      try simp only [zT54, Act.put, zzI, zzO, zzS]
      refine tkH 4 zT55 _ C0 rfl (by kernel_rfl) rfl (fun W h => by clear h; dsimp only [zT55]; go_simp <;> with_reducible rfl) ?_
      try simp only [zT55, Act.put, zzI, zzO, zzS]
      refine tkH 5 zT56 _ C0 rfl (by kernel_rfl) rfl (fun W h => by clear h; dsimp only [zT56]; go_simp <;> with_reducible rfl) ?_
      try simp only [zT56, Act.put, zzI, zzO, zzS]
      refine tkH 6 zT57 _ C0 rfl (by kernel_rfl) rfl (fun W h => by clear h; dsimp only [zT57]; go_simp <;> with_reducible rfl) ?_
      try simp only [zT57, Act.put, zzI, zzO, zzS]
      refine tkH 7 zT58 _ C0 rfl (by kernel_rfl) rfl (fun W h => by clear h; dsimp only [zT58]; go_simp <;> with_reducible rfl) ?_
      try simp only [zT58, Act.put, zzI, zzO, zzS]
      refine tkH 8 zT59 _ C0 rfl (by kernel_rfl) rfl (fun W' hSw => by have x9 := hSw; dsimp only [zT59]; go_simp <;> with_reducible rfl) ?_
      try simp only [zT59, Act.put, zzI, zzO, zzS]
      refine tkH 9 zT60 _ C0 rfl (by kernel_rfl) rfl (fun W h => by clear h; dsimp only [zT60]; go_simp <;> with_reducible rfl) ?_
      try simp only [zT60, Act.put, zzI, zzO, zzS]
      refine tkH 10 zT61 _ C0 rfl (by kernel_rfl) rfl (fun W h => by clear h; dsimp only [zT61]; go_simp <;> with_reducible rfl) ?_
      try simp only [zT61, Act.put, zzI, zzO, zzS]
      refine wpAnyH_ready (rs := [11]) (by kernel_rfl) (by simp) ?_
      refine AllReadyH.cons (o := zTc1) rfl (fun K hK => ?_) AllReadyH.nil
      dsimp only [zTc1]
      have e0 : w2.drew.cell? ⟨m.q, row, none⟩ = some (.int .i64 ((j.pr row : Nat) : Int)) := C2.out.2.1.cq.cell (if_pos HRN.out)
      go_simp
      clear e0
      refine hK.out _ _ (Q9.out _ ({ j with data := false, la := fun x => if x = b then (q : Int) else j.la x } : Jd) C2.out.1.drew) (fun C1 => ?_)
      clear hK K
      try simp only [Act.put, zzI, zzO, zzS]
      refine tkH 12 zT62 _ C1 rfl (by kernel_rfl) rfl (fun W h => by clear h; dsimp only [zT62]; go_simp <;> with_reducible rfl) ?_
      try simp only [zT62, Act.put, zzI, zzO, zzS]
      refine tkH 13 zT63 _ C1 rfl (by kernel_rfl) rfl (fun W h => by clear h; dsimp only [zT63]; go_simp <;> with_reducible rfl) ?_
      try simp only [zT63, Act.put, zzI, zzO, zzS]
      refine wpAnyH_ready (rs := [14]) (by kernel_rfl) (by simp) ?_
      refine AllReadyH.cons (o := zTc2) rfl (fun K hK => ?_) AllReadyH.nil
      dsimp only [zTc2]
      have ce := C2.out.2.1.cq
      have f0 := ce.frozen row
      have hb0 : prF g ({ j with data := false, la := fun x => if x = b then (q : Int) else j.la x } : Jd) row = some (.int .i64 ((j.pr row : Nat) : Int)) := if_pos HRN.out
      have e0 := ce.cell hb0
      go_simp
      have hq := RJ.set_pr (i := row) (pr' := ({ j with data := false, la := fun x => if x = b then (q : Int) else j.la x, pr := fun x => if x = row then j.pr x + 1 else j.pr x } : Jd).pr) C2.out.1.drew (C2.out.2.1.below ((Below.refl _ _).drew)) (by rw [hb0]; rfl) (fun x hx => if_neg hx)
      rw [show ({ j with data := false, la := fun x => if x = b then (q : Int) else j.la x, pr := fun x => if x = row then j.pr x + 1 else j.pr x } : Jd).pr row = j.pr row + 1 from if_pos rfl, show ((j.pr row + 1 : Nat) : Int) = (j.pr row : Int) + 1 from rfl] at hq
      have C3 := Lib.hid (show CRow _ p 41 (rjCells g ({ j with data := false, la := fun x => if x = b then (q : Int) else j.la x, pr := fun x => if x = row then j.pr x + 1 else j.pr x } : Jd) m) ∧ RjR ρ _ p g ({ j with data := false, la := fun x => if x = b then (q : Int) else j.la x, pr := fun x => if x = row then j.pr x + 1 else j.pr x } : Jd) m ∧ Btw I w _ from ⟨hq.1, hq.2.1, C2.out.2.2.drew.trans hq.2.2 fun x _ e => I0.out x (by have e : x = m.q := e; rw [e, C2.out.2.1.rq]; decide)⟩)
      clear hq f0 e0 ce hb0
      refine hK.out _ _ (Q9.out _ ({ j with data := false, la := fun x => if x = b then (q : Int) else j.la x, pr := fun x => if x = row then j.pr x + 1 else j.pr x } : Jd) C3.out.1) (fun C2 => ?_)
      clear hK K
      try simp only [Act.put]
      refine wpAnyH_done (by kernel_rfl) ?_ _
      refine NoPanic.normal ?_
      have C3 := Lib.hid (show CRow ((w2.setCell ⟨m.q, row, none⟩ (.int .i64 (((j.pr row : Nat) : Int) + 1))).drew) p 41 (rjCells g ({ j with data := false, la := fun x => if x = b then (q : Int) else j.la x, pr := fun x => if x = row then j.pr x + 1 else j.pr x } : Jd) m) ∧ RjR ρ ((w2.setCell ⟨m.q, row, none⟩ (.int .i64 (((j.pr row : Nat) : Int) + 1))).drew) p g ({ j with data := false, la := fun x => if x = b then (q : Int) else j.la x, pr := fun x => if x = row then j.pr x + 1 else j.pr x } : Jd) m ∧ Btw I w ((w2.setCell ⟨m.q, row, none⟩ (.int .i64 (((j.pr row : Nat) : Int) + 1))).drew) from C3.out)
      obtain ⟨w3, hw3⟩ : ∃ w3, w3 = (w2.setCell ⟨m.q, row, none⟩ (.int .i64 (((j.pr row : Nat) : Int) + 1))).drew := ⟨_, rfl⟩
      rw [← hw3] at C3
      rw [← hw3]
      clear hw3
      have x19 := C3.out.1.cell_at 19 (.slice m.aR j.rows.length m.cR) rfl
      have f19 := C3.out.1.frozen 19
      have S4 := Lib.hid (C3.out.1.setCell 19 (.slice none 0 0))
      have S4K := Lib.hid ((Btw.refl (I := fun k => k = p) w3).setCell (p := ⟨p, 19, none⟩) (v := .slice none 0 0) rfl)
      have C4 := Lib.hid (show CRow (w3.setCell ⟨p, 19, none⟩ (.slice none 0 0)) p 41 (rjCells g ({ j with data := false, la := fun x => if x = b then (q : Int) else j.la x, pr := fun x => if x = row then j.pr x + 1 else j.pr x, rows := [] } : Jd) ({ m with aR := none, cR := 0 } : RjM)) ∧ RjR ρ (w3.setCell ⟨p, 19, none⟩ (.slice none 0 0)) p g ({ j with data := false, la := fun x => if x = b then (q : Int) else j.la x, pr := fun x => if x = row then j.pr x + 1 else j.pr x, rows := [] } : Jd) ({ m with aR := none, cR := 0 } : RjM) ∧ Btw I w (w3.setCell ⟨p, 19, none⟩ (.slice none 0 0)) from
       ⟨by have h0 := S4.out; simpa [rjCells] using h0, (fun (h : RjR ρ _ p g ({ j with data := false, la := fun x => if x = b then (q : Int) else j.la x, pr := fun x => if x = row then j.pr x + 1 else j.pr x } : Jd) m) => ({ h with row := ⟨rfl, .inl ⟨rfl, rfl⟩⟩, rR := fun k hk => (by cases hk) } : RjR ρ _ p g ({ j with data := false, la := fun x => if x = b then (q : Int) else j.la x, pr := fun x => if x = row then j.pr x + 1 else j.pr x, rows := [] } : Jd) ({ m with aR := none, cR := 0 } : RjM))) (C3.out.2.1.btw S4K.out fun k e => .inr (by have e : k = p := e; rw [e]; exact C3.out.2.1.rp)), C3.out.2.2.trans S4K.out fun k _ e => I0.out k (by have e : k = p := e; rw [e, C3.out.2.1.rp]; decide)⟩)
      have x15 := C4.out.1.cell_at 15 (.bool j.bg) rfl
      have f15 := C4.out.1.frozen 15
      have S5 := Lib.hid (C4.out.1.setCell 15 (.bool true))
      have S5K := Lib.hid ((Btw.refl (I := fun k => k = p) (w3.setCell ⟨p, 19, none⟩ (.slice none 0 0))).setCell (p := ⟨p, 15, none⟩) (v := .bool true) rfl)
      have C5 := Lib.hid (show CRow ((w3.setCell ⟨p, 19, none⟩ (.slice none 0 0)).setCell ⟨p, 15, none⟩ (.bool true)) p 41 (rjCells g ({ j with data := false, la := fun x => if x = b then (q : Int) else j.la x, pr := fun x => if x = row then j.pr x + 1 else j.pr x, rows := [], bg := true } : Jd) ({ m with aR := none, cR := 0 } : RjM)) ∧ RjR ρ ((w3.setCell ⟨p, 19, none⟩ (.slice none 0 0)).setCell ⟨p, 15, none⟩ (.bool true)) p g ({ j with data := false, la := fun x => if x = b then (q : Int) else j.la x, pr := fun x => if x = row then j.pr x + 1 else j.pr x, rows := [], bg := true } : Jd) ({ m with aR := none, cR := 0 } : RjM) ∧ Btw I w ((w3.setCell ⟨p, 19, none⟩ (.slice none 0 0)).setCell ⟨p, 15, none⟩ (.bool true)) from
       ⟨by have h0 := S5.out; simpa [rjCells] using h0, (fun (h : RjR ρ _ p g ({ j with data := false, la := fun x => if x = b then (q : Int) else j.la x, pr := fun x => if x = row then j.pr x + 1 else j.pr x, rows := [] } : Jd) ({ m with aR := none, cR := 0 } : RjM)) => ({ h with  } : RjR ρ _ p g ({ j with data := false, la := fun x => if x = b then (q : Int) else j.la x, pr := fun x => if x = row then j.pr x + 1 else j.pr x, rows := [], bg := true } : Jd) ({ m with aR := none, cR := 0 } : RjM))) (C4.out.2.1.btw S5K.out fun k e => .inr (by have e : k = p := e; rw [e]; exact C4.out.2.1.rp)), C4.out.2.2.trans S5K.out fun k _ e => I0.out k (by have e : k = p := e; rw [e, C4.out.2.1.rp]; decide)⟩)
      have x16 := C5.out.1.cell_at 16 (.int .i64 (j.bgb : Int)) rfl
      have f16 := C5.out.1.frozen 16
      have S6 := Lib.hid (C5.out.1.setCell 16 (.int .i64 (b : Int)))
      have S6K := Lib.hid ((Btw.refl (I := fun k => k = p) ((w3.setCell ⟨p, 19, none⟩ (.slice none 0 0)).setCell ⟨p, 15, none⟩ (.bool true))).setCell (p := ⟨p, 16, none⟩) (v := .int .i64 (b : Int)) rfl)
      have C6 := Lib.hid (show CRow (((w3.setCell ⟨p, 19, none⟩ (.slice none 0 0)).setCell ⟨p, 15, none⟩ (.bool true)).setCell ⟨p, 16, none⟩ (.int .i64 (b : Int))) p 41 (rjCells g ({ j with data := false, la := fun x => if x = b then (q : Int) else j.la x, pr := fun x => if x = row then j.pr x + 1 else j.pr x, rows := [], bg := true, bgb := b } : Jd) ({ m with aR := none, cR := 0 } : RjM)) ∧ RjR ρ (((w3.setCell ⟨p, 19, none⟩ (.slice none 0 0)).setCell ⟨p, 15, none⟩ (.bool true)).setCell ⟨p, 16, none⟩ (.int .i64 (b : Int))) p g ({ j with data := false, la := fun x => if x = b then (q : Int) else j.la x, pr := fun x => if x = row then j.pr x + 1 else j.pr x, rows := [], bg := true, bgb := b } : Jd) ({ m with aR := none, cR := 0 } : RjM) ∧ Btw I w (((w3.setCell ⟨p, 19, none⟩ (.slice none 0 0)).setCell ⟨p, 15, none⟩ (.bool true)).setCell ⟨p, 16, none⟩ (.int .i64 (b : Int))) from
       ⟨by have h0 := S6.out; simpa [rjCells] using h0, (fun (h : RjR ρ _ p g ({ j with data := false, la := fun x => if x = b then (q : Int) else j.la x, pr := fun x => if x = row then j.pr x + 1 else j.pr x, rows := [], bg := true } : Jd) ({ m with aR := none, cR := 0 } : RjM)) => ({ h with  } : RjR ρ _ p g ({ j with data := false, la := fun x => if x = b then (q : Int) else j.la x, pr := fun x => if x = row then j.pr x + 1 else j.pr x, rows := [], bg := true, bgb := b } : Jd) ({ m with aR := none, cR := 0 } : RjM))) (C5.out.2.1.btw S6K.out fun k e => .inr (by have e : k = p := e; rw [e]; exact C5.out.2.1.rp)), C5.out.2.2.trans S6K.out fun k _ e => I0.out k (by have e : k = p := e; rw [e, C5.out.2.1.rp]; decide)⟩)
      have HST := Lib.hid (rstart (j := ({ j with data := false, la := fun x => if x = b then (q : Int) else j.la x, pr := fun x => if x = row then j.pr x + 1 else j.pr x, rows := [], bg := true, bgb := b } : Jd)) ⟨ρ, ({ m with aR := none, cR := 0 } : RjM), (C6.out).1, (C6.out).2.1, I0.out, fun k hk => N0.out k (Nat.le_trans (C6.out).2.2.size hk)⟩)
      go_wp2_with fail
      refine HST.out.mono ?_
      rintro _ w9 ⟨rfl, h9, b9⟩
      have H9 := Lib.hid h9
      have B9 := Lib.hid (C6.out.2.2.trans b9 fun _ _ h => h)
      clear h9 b9 HST
      go_wp2
      go_ret
      rw [HR.out]
      exact ⟨rfl, H9.out, B9.out⟩
theorem rload (c : Nat) (hc8 : c < 256) (h4 : j.listed.length = 4) (h8 : ∀ x ∈ j.listed, x < 256) (hrw : ∀ x ∈ j.rows, x < g.rows_) (hrn : j.rows.length ≤ 1000000) (hpr : ∀ x, j.pr x ≤ 1000000) (h : RJ I w p g j) : Calls Try.prog 43 #[.pointer (some ⟨p, 0, none⟩), .int .i64 (c : Int)] w (ActsR I p g (.bool (j.rload g c).1) (j.rload g c).2 w) := by
 by_cases hcc : c = 16 ∨ c = 17 ∨ c = 21
 ·
  cases hcan : j.can g (j.addr2 2) with
  | true => exact rload_ok c hcc hcan h4 h8 hrw hrn hpr h
  | false =>
   have HR := Lib.hid (show j.rload g c = (false, j) by unfold Jd.rload; rw [if_pos (fun h => by rw [hcan] at h; exact absurd h.2 (by decide))])
   have HTW := Lib.hid (rtwo 2 (by omega) (by omega) h8 h)
   have HCA := Lib.hid (fun W (hh : RJ I W p g j) => rcan (j.addr2 2) hh)
   rw [hcan] at HCA
   have H0 := Lib.hid h
   obtain ⟨row, hrw0⟩ : ∃ row, row = j.addr2 2 := ⟨_, rfl⟩
   rw [← hrw0] at HTW HCA
   clear hcan hrw0 h4 h8 hrw hrn hpr h
   rcases hcc with rfl | rfl | rfl
   ·
    go_enter Try.func43, Try.ntmps43
    go_wp2_with fail
    refine HTW.out.mono ?_
    rintro _ w1 ⟨rfl, h1⟩
    have H1 := Lib.hid (H0.out.below h1)
    have B1 := Lib.hid h1
    clear h1
    go_wp2_with fail
    refine (HCA.out _ H1.out).mono ?_
    rintro _ w2 ⟨rfl, h2⟩
    have H2 := Lib.hid (H1.out.below h2)
    have B2 := Lib.hid (below_step B1.out h2)
    clear h2
    go_wp2
    go_ret
    rw [HR.out]
    exact ⟨rfl, H2.out, Btw.of_below B2.out⟩
   ·
    go_enter Try.func43, Try.ntmps43
    go_wp2_with fail
    refine HTW.out.mono ?_
    rintro _ w1 ⟨rfl, h1⟩
    have H1 := Lib.hid (H0.out.below h1)
    have B1 := Lib.hid h1
    clear h1
    go_wp2_with fail
    refine (HCA.out _ H1.out).mono ?_
    rintro _ w2 ⟨rfl, h2⟩
    have H2 := Lib.hid (H1.out.below h2)
    have B2 := Lib.hid (below_step B1.out h2)
    clear h2
    go_wp2
    go_ret
    rw [HR.out]
    exact ⟨rfl, H2.out, Btw.of_below B2.out⟩
   ·
    go_enter Try.func43, Try.ntmps43
    go_wp2_with fail
    refine HTW.out.mono ?_
    rintro _ w1 ⟨rfl, h1⟩
    have H1 := Lib.hid (H0.out.below h1)
    have B1 := Lib.hid h1
    clear h1
    go_wp2_with fail
    refine (HCA.out _ H1.out).mono ?_
    rintro _ w2 ⟨rfl, h2⟩
    have H2 := Lib.hid (H1.out.below h2)
    have B2 := Lib.hid (below_step B1.out h2)
    clear h2
    go_wp2
    go_ret
    rw [HR.out]
    exact ⟨rfl, H2.out, Btw.of_below B2.out⟩
 ·
  have HR := Lib.hid (show j.rload g c = (false, j) by unfold Jd.rload; rw [if_pos (fun h => hcc h.1)])
  have h16 : c ≠ 16 := fun e => hcc (.inl e)
  have h17 : c ≠ 17 := fun e => hcc (.inr (.inl e))
  have h21 : c ≠ 21 := fun e => hcc (.inr (.inr e))
  have bc16 : (((c : Nat) : Int) == 16) = false := by simp; omega
  have jc16 : (((c : Nat) : Int) = 16) = False := eq_false (by omega)
  have kc16 : (c = 16) = False := eq_false (by omega)
  have dc16 : decide (((c : Nat) : Int) = 16) = false := decide_eq_false (by omega)
  have bc17 : (((c : Nat) : Int) == 17) = false := by simp; omega
  have jc17 : (((c : Nat) : Int) = 17) = False := eq_false (by omega)
  have kc17 : (c = 17) = False := eq_false (by omega)
  have dc17 : decide (((c : Nat) : Int) = 17) = false := decide_eq_false (by omega)
  have bc21 : (((c : Nat) : Int) == 21) = false := by simp; omega
  have jc21 : (((c : Nat) : Int) = 21) = False := eq_false (by omega)
  have kc21 : (c = 21) = False := eq_false (by omega)
  have dc21 : decide (((c : Nat) : Int) = 21) = false := decide_eq_false (by omega)
  have HTW := Lib.hid (rtwo 2 (by omega) (by omega) h8 h)
  have H0 := Lib.hid h
  obtain ⟨row, hrw0⟩ : ∃ row, row = j.addr2 2 := ⟨_, rfl⟩
  rw [← hrw0] at HTW
  clear hrw0 h4 h8 hrw hrn hpr h h16 h17 h21 hcc
  go_enter Try.func43, Try.ntmps43
  go_wp2_with fail
  refine HTW.out.mono ?_
  rintro _ w1 ⟨rfl, h1⟩
  have H1 := Lib.hid (H0.out.below h1)
  have B1 := Lib.hid h1
  clear h1
  go_wp2
  go_ret
  rw [HR.out]
  exact ⟨rfl, H1.out, Btw.of_below B1.out⟩
end
end Go.Proofs.Ytaidgjidpghgnaa
