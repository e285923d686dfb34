/-
  The judge's read.
-/
import Derived.Test.YtaidgjidpghgnaaTk
import Derived.Maps.AppendAt
import Derived.Test.YtaidgjidpghgnaaJudgeStepsJ8
import Derived.Test.YtaidgjidpghgnaaJudgeStepsJ3
namespace Go.Proofs.Ytaidgjidpghgnaa
open Go.RowKit
set_option maxRecDepth 100000
def zNc0 : Oper := { dst := some 75, op := Op.call { callee := Callee.value (Operand.func 61), args := #[Operand.tmp 74], argTypes := #[23] }, type := 3, pos := "rules.go:240", after := #[{ on := 8, ground := Ground.data }], guard := none }
def zNc1 : Oper := { dst := some 31, op := Op.call { callee := Callee.value (Operand.func 62), args := #[Operand.tmp 30], argTypes := #[27] }, type := 3, pos := "rules.go:361", after := #[{ on := 4, ground := Ground.data }], guard := none }
def zNc2 : Oper := { dst := some 32, op := Op.call { callee := Callee.value (Operand.func 27), args := #[Operand.tmp 29, Operand.tmp 31], argTypes := #[23, 3] }, type := 58, pos := "rules.go:361", after := #[{ on := 3, ground := Ground.data }, { on := 5, ground := Ground.data }, { on := 5, ground := Ground.chain }], guard := none }
def zN0 : Oper := { dst := some 66, op := Op.move (Operand.tmp 0), type := 27, pos := "rules.go:240", after := #[], guard := none }
def zN1 : Oper := { dst := some 67, op := Op.nilCheck (Operand.tmp 66), type := 0, pos := "rules.go:240", after := #[{ on := 0, ground := Ground.data }], guard := none }
def zN2 : Oper := { dst := some 68, op := Op.fieldAddr 52 (Operand.tmp 67) 0, type := 0, pos := "rules.go:240", after := #[{ on := 1, ground := Ground.data }], guard := none }
def zN3 : Oper := { dst := some 69, op := Op.fieldAddr 50 (Operand.tmp 68) 8, type := 0, pos := "rules.go:240", after := #[{ on := 2, ground := Ground.data }], guard := none }
def zN4 : Oper := { dst := some 70, op := Op.load 3 (Operand.tmp 69), type := 3, pos := "rules.go:240", after := #[{ on := 3, ground := Ground.data }], guard := none }
def zN5 : Oper := { dst := some 71, op := Op.move (Operand.tmp 0), type := 27, pos := "rules.go:240", after := #[], guard := none }
def zN6 : Oper := { dst := some 72, op := Op.nilCheck (Operand.tmp 71), type := 0, pos := "rules.go:240", after := #[{ on := 5, ground := Ground.data }], guard := none }
def zN7 : Oper := { dst := some 73, op := Op.fieldAddr 52 (Operand.tmp 72) 1, type := 0, pos := "rules.go:240", after := #[{ on := 6, ground := Ground.data }], guard := none }
def zN8 : Oper := { dst := some 74, op := Op.load 23 (Operand.tmp 73), type := 23, pos := "rules.go:240", after := #[{ on := 7, ground := Ground.data }], guard := none }
def zN9 : Oper := { dst := some 76, op := Op.binOp BinOp.leq 3 (Operand.tmp 70) (Operand.tmp 75) 3, type := 4, pos := "rules.go:240", after := #[{ on := 4, ground := Ground.data }, { on := 9, ground := Ground.data }], guard := none }
def zN10 : Oper := { dst := some 2, op := Op.assign (Operand.tmp 76), type := 4, pos := "rules.go:240", after := #[{ on := 10, ground := Ground.data }, { on := 9, ground := Ground.chain }, { on := 0, ground := Ground.phase }, { on := 1, ground := Ground.phase }, { on := 2, ground := Ground.phase }, { on := 3, ground := Ground.phase }, { on := 4, ground := Ground.phase }, { on := 5, ground := Ground.phase }, { on := 6, ground := Ground.phase }, { on := 7, ground := Ground.phase }, { on := 8, ground := Ground.phase }, { on := 9, ground := Ground.phase }, { on := 10, ground := Ground.phase }], guard := none }
def zN11 : Oper := { dst := some 26, op := Op.move (Operand.tmp 0), type := 27, pos := "rules.go:361", after := #[], guard := none }
def zN12 : Oper := { dst := some 27, op := Op.nilCheck (Operand.tmp 26), type := 0, pos := "rules.go:361", after := #[{ on := 0, ground := Ground.data }], guard := none }
def zN13 : Oper := { dst := some 28, op := Op.fieldAddr 52 (Operand.tmp 27) 1, type := 0, pos := "rules.go:361", after := #[{ on := 1, ground := Ground.data }], guard := none }
def zN14 : Oper := { dst := some 29, op := Op.load 23 (Operand.tmp 28), type := 23, pos := "rules.go:361", after := #[{ on := 2, ground := Ground.data }], guard := none }
def zN15 : Oper := { dst := some 30, op := Op.move (Operand.tmp 0), type := 27, pos := "rules.go:361", after := #[], guard := none }
def zN16 : Oper := { dst := some 25, op := Op.move (Operand.tmp 32), type := 58, pos := "rules.go:361", after := #[{ on := 6, ground := Ground.data }], guard := none }
def zN17 : Oper := { dst := some 33, op := Op.extract (Operand.tmp 25) 0, type := 3, pos := "rules.go:361", after := #[{ on := 7, ground := Ground.data }], guard := none }
def zN18 : Oper := { dst := some 34, op := Op.extract (Operand.tmp 25) 1, type := 3, pos := "rules.go:361", after := #[{ on := 7, ground := Ground.data }, { on := 11, ground := Ground.gcOnly Departure.lateStores }], guard := none }
def zN19 : Oper := { dst := some 35, op := Op.extract (Operand.tmp 25) 2, type := 4, pos := "rules.go:361", after := #[{ on := 7, ground := Ground.data }, { on := 12, ground := Ground.gcOnly Departure.lateStores }], guard := none }
def zN20 : Oper := { dst := some 5, op := Op.assign (Operand.tmp 33), type := 3, pos := "rules.go:361", after := #[{ on := 8, ground := Ground.data }, { on := 6, ground := Ground.chain }, { on := 0, ground := Ground.phase }, { on := 1, ground := Ground.phase }, { on := 2, ground := Ground.phase }, { on := 3, ground := Ground.phase }, { on := 4, ground := Ground.phase }, { on := 5, ground := Ground.phase }, { on := 6, ground := Ground.phase }, { on := 7, ground := Ground.phase }, { on := 8, ground := Ground.phase }, { on := 9, ground := Ground.textOnly Departure.lateStores }, { on := 10, ground := Ground.textOnly Departure.lateStores }], guard := none }
def zN21 : Oper := { dst := some 6, op := Op.assign (Operand.tmp 34), type := 3, pos := "rules.go:361", after := #[{ on := 9, ground := Ground.data }, { on := 11, ground := Ground.chain }, { on := 0, ground := Ground.phase }, { on := 1, ground := Ground.phase }, { on := 2, ground := Ground.phase }, { on := 3, ground := Ground.phase }, { on := 4, ground := Ground.phase }, { on := 5, ground := Ground.phase }, { on := 6, ground := Ground.phase }, { on := 7, ground := Ground.phase }, { on := 8, ground := Ground.phase }, { on := 9, ground := Ground.phase }, { on := 10, ground := Ground.textOnly Departure.lateStores }, { on := 11, ground := Ground.phase }], guard := none }
def zN22 : Oper := { dst := some 7, op := Op.assign (Operand.tmp 35), type := 4, pos := "rules.go:361", after := #[{ on := 10, ground := Ground.data }, { on := 12, ground := Ground.chain }, { on := 0, ground := Ground.phase }, { on := 1, ground := Ground.phase }, { on := 2, ground := Ground.phase }, { on := 3, ground := Ground.phase }, { on := 4, ground := Ground.phase }, { on := 5, ground := Ground.phase }, { on := 6, ground := Ground.phase }, { on := 7, ground := Ground.phase }, { on := 8, ground := Ground.phase }, { on := 9, ground := Ground.phase }, { on := 10, ground := Ground.phase }, { on := 11, ground := Ground.phase }, { on := 12, ground := Ground.phase }], guard := none }
def zN23 : Oper := { dst := some 5, op := Op.move (Operand.tmp 0), type := 33, pos := "ref.go:119", after := #[], guard := none }
def zN24 : Oper := { dst := some 6, op := Op.nilCheck (Operand.tmp 5), type := 0, pos := "ref.go:119", after := #[{ on := 0, ground := Ground.data }], guard := none }
def zN25 : Oper := { dst := some 7, op := Op.fieldAddr 41 (Operand.tmp 6) 5, type := 0, pos := "ref.go:119", after := #[{ on := 1, ground := Ground.data }], guard := none }
def zN26 : Oper := { dst := some 8, op := Op.load 39 (Operand.tmp 7), type := 39, pos := "ref.go:119", after := #[{ on := 2, ground := Ground.data }], guard := none }
def zN27 : Oper := { dst := some 9, op := Op.move (Operand.tmp 1), type := 3, pos := "ref.go:119", after := #[], guard := none }
def zN28 : Oper := { dst := some 10, op := Op.indexAddr 39 (Operand.tmp 8) (Operand.tmp 9), type := 0, pos := "ref.go:119", after := #[{ on := 3, ground := Ground.data }, { on := 4, ground := Ground.data }], guard := none }
def zN29 : Oper := { dst := some 11, op := Op.load 3 (Operand.tmp 10), type := 3, pos := "ref.go:119", after := #[{ on := 5, ground := Ground.data }], guard := none }
def zN30 : Oper := { dst := some 12, op := Op.move (Operand.tmp 0), type := 33, pos := "ref.go:119", after := #[], guard := none }
def zN31 : Oper := { dst := some 13, op := Op.nilCheck (Operand.tmp 12), type := 0, pos := "ref.go:119", after := #[{ on := 7, ground := Ground.data }], guard := none }
def zN32 : Oper := { dst := some 14, op := Op.fieldAddr 41 (Operand.tmp 13) 5, type := 0, pos := "ref.go:119", after := #[{ on := 8, ground := Ground.data }], guard := none }
def zN33 : Oper := { dst := some 15, op := Op.load 39 (Operand.tmp 14), type := 39, pos := "ref.go:119", after := #[{ on := 9, ground := Ground.data }], guard := none }
def zN34 : Oper := { dst := some 16, op := Op.move (Operand.tmp 1), type := 3, pos := "ref.go:119", after := #[], guard := none }
def zN35 : Oper := { dst := some 17, op := Op.binOp BinOp.add 3 (Operand.tmp 16) (Operand.const (Value.int IntKind.i64 1)) 3, type := 3, pos := "ref.go:119", after := #[{ on := 11, ground := Ground.data }], guard := none }
def zN36 : Oper := { dst := some 18, op := Op.indexAddr 39 (Operand.tmp 15) (Operand.tmp 17), type := 0, pos := "ref.go:119", after := #[{ on := 10, ground := Ground.data }, { on := 12, ground := Ground.data }], guard := none }
def zN37 : Oper := { dst := some 19, op := Op.load 3 (Operand.tmp 18), type := 3, pos := "ref.go:119", after := #[{ on := 13, ground := Ground.data }], guard := none }
def zN38 : Oper := { dst := some 20, op := Op.binOp BinOp.mul 3 (Operand.const (Value.int IntKind.i64 256)) (Operand.tmp 19) 3, type := 3, pos := "ref.go:119", after := #[{ on := 14, ground := Ground.data }], guard := none }
def zN39 : Oper := { dst := some 21, op := Op.binOp BinOp.add 3 (Operand.tmp 11) (Operand.tmp 20) 3, type := 3, pos := "ref.go:119", after := #[{ on := 6, ground := Ground.data }, { on := 15, ground := Ground.data }], guard := none }
def zN40 : Oper := { dst := some 4, op := Op.assign (Operand.tmp 21), type := 3, pos := "ref.go:119", after := #[{ on := 16, ground := Ground.data }, { on := 0, ground := Ground.phase }, { on := 1, ground := Ground.phase }, { on := 2, ground := Ground.phase }, { on := 3, ground := Ground.phase }, { on := 4, ground := Ground.phase }, { on := 5, ground := Ground.phase }, { on := 6, ground := Ground.phase }, { on := 7, ground := Ground.phase }, { on := 8, ground := Ground.phase }, { on := 9, ground := Ground.phase }, { on := 10, ground := Ground.phase }, { on := 11, ground := Ground.phase }, { on := 12, ground := Ground.phase }, { on := 13, ground := Ground.phase }, { on := 14, ground := Ground.phase }, { on := 15, ground := Ground.phase }, { on := 16, ground := Ground.phase }], guard := none }
def zN41 : Oper := { dst := some 12, op := Op.move (Operand.tmp 0), type := 33, pos := "ref.go:68", after := #[], guard := none }
def zN42 : Oper := { dst := some 13, op := Op.nilCheck (Operand.tmp 12), type := 0, pos := "ref.go:68", after := #[{ on := 0, ground := Ground.data }], guard := none }
def zN43 : Oper := { dst := some 14, op := Op.fieldAddr 41 (Operand.tmp 13) 1, type := 0, pos := "ref.go:68", after := #[{ on := 1, ground := Ground.data }], guard := none }
def zN44 : Oper := { dst := some 15, op := Op.load 38 (Operand.tmp 14), type := 38, pos := "ref.go:68", after := #[{ on := 2, ground := Ground.data }], guard := none }
def zN45 : Oper := { dst := some 16, op := Op.move (Operand.tmp 0), type := 33, pos := "ref.go:68", after := #[], guard := none }
def zN46 : Oper := { dst := some 17, op := Op.nilCheck (Operand.tmp 16), type := 0, pos := "ref.go:68", after := #[{ on := 4, ground := Ground.data }], guard := none }
def zN47 : Oper := { dst := some 18, op := Op.fieldAddr 41 (Operand.tmp 17) 15, type := 0, pos := "ref.go:68", after := #[{ on := 5, ground := Ground.data }], guard := none }
def zN48 : Oper := { dst := some 19, op := Op.load 39 (Operand.tmp 18), type := 39, pos := "ref.go:68", after := #[{ on := 6, ground := Ground.data }], guard := none }
def zN49 : Oper := { dst := some 20, op := Op.move (Operand.tmp 2), type := 3, pos := "ref.go:68", after := #[], guard := none }
def zN50 : Oper := { dst := some 21, op := Op.indexAddr 39 (Operand.tmp 19) (Operand.tmp 20), type := 0, pos := "ref.go:68", after := #[{ on := 7, ground := Ground.data }, { on := 8, ground := Ground.data }], guard := none }
def zN51 : Oper := { dst := some 22, op := Op.load 3 (Operand.tmp 21), type := 3, pos := "ref.go:68", after := #[{ on := 9, ground := Ground.data }], guard := none }
def zN52 : Oper := { dst := some 23, op := Op.indexAddr 38 (Operand.tmp 15) (Operand.tmp 22), type := 0, pos := "ref.go:68", after := #[{ on := 3, ground := Ground.data }, { on := 10, ground := Ground.data }, { on := 0, ground := Ground.phase }, { on := 1, ground := Ground.phase }, { on := 2, ground := Ground.phase }, { on := 3, ground := Ground.phase }, { on := 4, ground := Ground.phase }, { on := 5, ground := Ground.phase }, { on := 6, ground := Ground.phase }, { on := 7, ground := Ground.phase }, { on := 8, ground := Ground.phase }, { on := 9, ground := Ground.phase }, { on := 10, ground := Ground.phase }], guard := none }

section
variable {I K : Nat → Prop} {w w' : World} {p : Nat} {g : Gm} {j : Jd} {m : Jm}
/-- A Read that is no poll. -/
def Jd.readOut (g : Gm) (j : Jd) : Bool × Jd := (decide (j.col + 1 ≤ g.raw.toNat), { j with col := j.col + 1 })
def Jd.read (g : Gm) (j : Jd) : Bool × Jd :=
 if j.op = 2 then (decide (0 < j.listed.length) && decide (j.count + 1 ≤ 5), { j with count := j.count + 1 })
 else if j.op = 5 then (if 0 < j.listed.length ∨ j.data = false then (false, j) else ({ j with op := 6 } : Jd).readOut g)
 else if j.op = 6 then j.readOut g
 else (false, j)
set_option maxHeartbeats 1000000 in
theorem jread (hst : j.op ≤ 9) (hl : j.listed.length ≤ 100) (hct : j.count ≤ 1000000) (hcl : j.col ≤ 1000000) (h : JH I w p g j) : Calls Try.prog 51 #[.pointer (some ⟨p, 0, none⟩)] w (ActsJ I p g (.bool (j.read g).1) (j.read g).2 w) := by
 have HH := Lib.hid h
 have HRA := Lib.hid (fun W => Raw_is g (g.raw.toNat : Int) (Gm.raw_nat h.ok).1 W)
 simp only [Gm.val] at HRA
 obtain ⟨m, hc, hr⟩ := h
 have C0 := Lib.hid hc
 have R0 := Lib.hid hr
 obtain ⟨n, hn⟩ : ∃ n, n = j.listed.length := ⟨_, rfl⟩
 obtain ⟨t, ht⟩ : ∃ t, t = j.op := ⟨_, rfl⟩
 obtain ⟨ct, hc2⟩ : ∃ ct, ct = j.count := ⟨_, rfl⟩
 obtain ⟨cl, hc8⟩ : ∃ cl, cl = j.col := ⟨_, rfl⟩
 obtain ⟨dt, hc7⟩ : ∃ dt, dt = j.data := ⟨_, rfl⟩
 have x0 : w.cell? ⟨p, 0, none⟩ = some (.int .i64 (t : Int)) := by rw [ht]; exact hc.cell_at 0 _ rfl
 have f0 := hc.frozen 0
 have x1 : w.cell? ⟨p, 1, none⟩ = some (.slice m.aL n m.cL) := by rw [hn]; exact hc.cell_at 1 _ rfl
 have x2 : w.cell? ⟨p, 2, none⟩ = some (.int .i64 (ct : Int)) := by rw [hc2]; exact hc.cell_at 2 _ rfl
 have f2 := hc.frozen 2
 have x7 : w.cell? ⟨p, 7, none⟩ = some (.bool dt) := by rw [hc7]; exact hc.cell_at 7 _ rfl
 have x8 : w.cell? ⟨p, 8, none⟩ = some (.int .i64 (cl : Int)) := by rw [hc8]; exact hc.cell_at 8 _ rfl
 have f8 := hc.frozen 8
 have wz : IntKind.i64.wrap ((ct : Int) + 1) = (ct : Int) + 1 := IntWalk.i64_in _ (by omega)
 have wy : IntKind.i64.wrap ((cl : Int) + 1) = (cl : Int) + 1 := IntWalk.i64_in _ (by omega)
 have HE0 : j.read g = (if t = 2 then (decide (0 < n) && decide (ct + 1 ≤ 5), { j with count := ct + 1 }) else if t = 5 then (if 0 < n ∨ dt = false then (false, j) else (decide (cl + 1 ≤ g.raw.toNat), { j with op := 6, col := cl + 1 })) else if t = 6 then (decide (cl + 1 ≤ g.raw.toNat), { j with col := cl + 1 }) else (false, j)) := by rw [hn, ht, hc2, hc8, hc7]; rfl
 have HCL := Lib.hid hc8
 have HT := Lib.hid ht
 rw [← hn] at hl
 rw [← ht] at hst
 rw [← hc2] at hct
 rw [← hc8] at hcl
 clear hc hr hn ht hc2 hc8 hc7
 have ht : t = 0 ∨ t = 1 ∨ t = 2 ∨ t = 3 ∨ t = 4 ∨ t = 5 ∨ t = 6 ∨ t = 7 ∨ t = 8 ∨ t = 9 := by omega
 clear hst
 by_cases h2 : t = 2
 ·
  subst h2
  rw [if_pos rfl] at HE0
  have HE := Lib.hid HE0
  have S1 := Lib.hid (show CRow (w.setCell ⟨p, 2, none⟩ (.int .i64 ((ct : Int) + 1))) p 52 (jCells g { j with count := ct + 1 } m) from C0.out.setCell 2 (.int .i64 ((ct : Int) + 1)))
  have HJ := JH.of (j' := { j with count := ct + 1 }) (m' := m) C0.out R0.out S1.out (((Btw.refl w)).setCell (I := fun k => k = p) (p := ⟨p, 2, none⟩) (v := .int .i64 ((ct : Int) + 1)) rfl) fun W h => { h with }
  have H1 := Lib.hid HJ.1
  have K1 := Lib.hid HJ.2
  have q1 : decide ((0 : Int) < (n : Int)) = decide (0 < n) := decide_eq_decide.2 (by omega)
  have q2 : decide ((ct : Int) + 1 ≤ 5) = decide (ct + 1 ≤ 5) := decide_eq_decide.2 (by omega)
  have Q1 := Lib.hid q1
  have Q2 := Lib.hid q2
  clear HE0 ht HJ
  cases hq : decide (0 < n) with
  | false =>
   rw [hq] at q1
   have d2 : decide (0 < n) = false := hq
   have HQ := Lib.hid hq
   clear hq q2
   go_enter Try.func51, Try.ntmps51
   go_wp2
   go_ret
   rw [HE.out]
   exact ⟨by rw [HQ.out]; simp, H1.out, K1.out⟩
  | true =>
   rw [hq] at q1
   have d2 : decide (0 < n) = true := hq
   have HQ := Lib.hid hq
   clear hq q2
   go_enter Try.func51, Try.ntmps51
   go_wp2
   go_ret
   rw [HE.out]
   exact ⟨by rw [HQ.out, ← Q2.out]; simp, H1.out, K1.out⟩
 ·
  rw [if_neg h2] at HE0
  have hdec : decide ((cl : Int) + 1 ≤ (g.raw.toNat : Int)) = decide (cl + 1 ≤ g.raw.toNat) := decide_eq_decide.2 (by omega)
  have HD := Lib.hid hdec
  generalize g.raw.toNat = N at *
  clear hdec
  by_cases h5 : t = 5
  ·
   subst h5
   rw [if_pos rfl] at HE0
   clear ht h2
   by_cases h0 : 0 < n
   ·
    rw [if_pos (.inl h0)] at HE0
    have HE := Lib.hid HE0
    have d1 : decide ((0 : Int) < (n : Int)) = true := decide_eq_true (by omega)
    have d2 : decide (0 < n) = true := decide_eq_true (by omega)
    clear HE0 h0
    go_enter Try.func51, Try.ntmps51
    go_wp2
    go_ret
    rw [HE.out]
    exact ⟨rfl, HH.out, Btw.refl w⟩
   ·
    have d1 : decide ((0 : Int) < (n : Int)) = false := decide_eq_false (by omega)
    have d2 : decide (0 < n) = false := decide_eq_false (by omega)
    cases dt
    ·
     rw [if_pos (.inr rfl)] at HE0
     have HE := Lib.hid HE0
     clear HE0 h0
     go_enter Try.func51, Try.ntmps51
     go_wp2
     go_ret
     rw [HE.out]
     exact ⟨rfl, HH.out, Btw.refl w⟩
    ·
     rw [if_neg (by simp; omega)] at HE0
     have HE := Lib.hid HE0
     have S1 := Lib.hid (show CRow ((w.setCell ⟨p, 0, none⟩ (.int .i64 6)).setCell ⟨p, 8, none⟩ (.int .i64 ((cl : Int) + 1))) p 52 (jCells g { j with op := 6, col := cl + 1 } m) from (C0.out.setCell 0 (.int .i64 6)).setCell 8 (.int .i64 ((cl : Int) + 1)))
     have HJ := JH.of (j' := { j with op := 6, col := cl + 1 }) (m' := m) C0.out R0.out S1.out ((((Btw.refl w)).setCell (I := fun k => k = p) (p := ⟨p, 0, none⟩) (v := .int .i64 6) rfl).setCell (p := ⟨p, 8, none⟩) (v := .int .i64 ((cl : Int) + 1)) rfl) fun W h => { h with }
     have H1 := Lib.hid HJ.1
     have K1 := Lib.hid HJ.2
     have X8 := Lib.hid (show ((w.setCell ⟨p, 0, none⟩ (.int .i64 6)).setCell ⟨p, 8, none⟩ (.int .i64 ((cl : Int) + 1))).cell? ⟨p, 8, none⟩ = some (.int .i64 ((cl : Int) + 1)) from S1.out.cell_at 8 _ rfl)
     clear HE0 h0 HJ
     go_enter Try.func51, Try.ntmps51
     go_wp2
     obtain ⟨w2, hw2⟩ : ∃ w2, w2 = (w.setCell ⟨p, 0, none⟩ (.int .i64 6)).setCell ⟨p, 8, none⟩ (.int .i64 ((cl : Int) + 1)) := ⟨_, rfl⟩
     rw [← hw2] at S1 H1 K1 X8 ⊢
     have C2 := S1
     clear hw2 x0 x1 x2 f2 x7 x8 f0 f8
     refine wp_region_noPanic ?_
     refine wp_region_held_drew (S := fun w' => Below w2.heap.size w2 w') (by kernel_rfl) ((Below.refl _ _).drew) (fun C9 => ?_)
     refine tkH 0 zN0 _ C9 rfl (by kernel_rfl) rfl (fun W h => by clear h; dsimp only [zN0]; go_simp <;> with_reducible rfl) ?_
     try simp only [zN0, Act.put, zzI, zzO, zzS]
     refine tkH 1 zN1 _ C9 rfl (by kernel_rfl) rfl (fun W h => by clear h; dsimp only [zN1]; go_simp <;> with_reducible rfl) ?_
     try simp only [zN1, Act.put, zzI, zzO, zzS]
     refine tkH 2 zN2 _ C9 rfl (by kernel_rfl) rfl (fun W h => by clear h; dsimp only [zN2]; go_simp <;> with_reducible rfl) ?_
     try simp only [zN2, Act.put, zzI, zzO, zzS]
     refine tkH 3 zN3 _ C9 rfl (by kernel_rfl) rfl (fun W h => by clear h; dsimp only [zN3]; go_simp <;> with_reducible rfl) ?_
     try simp only [zN3, Act.put, zzI, zzO, zzS]
     refine tkH 4 zN4 _ C9 rfl (by kernel_rfl) rfl (fun W' hSw => by have x8 : W'.cell? ⟨p, 8, none⟩ = some (.int .i64 ((cl : Int) + 1)) := (hSw.cell (show (⟨p, 8, none⟩ : Addr).block < w2.heap.size from C2.out.lt)).trans X8.out; clear hSw; dsimp only [zN4]; go_simp <;> with_reducible rfl) ?_
     try simp only [zN4, Act.put, zzI, zzO, zzS]
     refine tkH 5 zN5 _ C9 rfl (by kernel_rfl) rfl (fun W h => by clear h; dsimp only [zN5]; go_simp <;> with_reducible rfl) ?_
     try simp only [zN5, Act.put, zzI, zzO, zzS]
     refine tkH 6 zN6 _ C9 rfl (by kernel_rfl) rfl (fun W h => by clear h; dsimp only [zN6]; go_simp <;> with_reducible rfl) ?_
     try simp only [zN6, Act.put, zzI, zzO, zzS]
     refine tkH 7 zN7 _ C9 rfl (by kernel_rfl) rfl (fun W h => by clear h; dsimp only [zN7]; go_simp <;> with_reducible rfl) ?_
     try simp only [zN7, Act.put, zzI, zzO, zzS]
     refine tkH 8 zN8 _ C9 rfl (by kernel_rfl) rfl (fun W' hSw => by have g12 : W'.cell? ⟨p, 12, none⟩ = some (.int .i64 g.p) := (hSw.cell (show (⟨p, 12, none⟩ : Addr).block < w2.heap.size from C2.out.lt)).trans (C2.out.cell_at 12 _ rfl); have g13 : W'.cell? ⟨p, 13, none⟩ = some (.int .i64 g.b) := (hSw.cell (show (⟨p, 13, none⟩ : Addr).block < w2.heap.size from C2.out.lt)).trans (C2.out.cell_at 13 _ rfl); have g14 : W'.cell? ⟨p, 14, none⟩ = some (.int .i64 g.s) := (hSw.cell (show (⟨p, 14, none⟩ : Addr).block < w2.heap.size from C2.out.lt)).trans (C2.out.cell_at 14 _ rfl); have g15 : W'.cell? ⟨p, 15, none⟩ = some (.int .i64 g.c) := (hSw.cell (show (⟨p, 15, none⟩ : Addr).block < w2.heap.size from C2.out.lt)).trans (C2.out.cell_at 15 _ rfl); have g16 : W'.cell? ⟨p, 16, none⟩ = some (.int .i64 g.k) := (hSw.cell (show (⟨p, 16, none⟩ : Addr).block < w2.heap.size from C2.out.lt)).trans (C2.out.cell_at 16 _ rfl); have g17 : W'.cell? ⟨p, 17, none⟩ = some (.int .i64 g.r) := (hSw.cell (show (⟨p, 17, none⟩ : Addr).block < w2.heap.size from C2.out.lt)).trans (C2.out.cell_at 17 _ rfl); have g18 : W'.cell? ⟨p, 18, none⟩ = some (.int .i64 g.q) := (hSw.cell (show (⟨p, 18, none⟩ : Addr).block < w2.heap.size from C2.out.lt)).trans (C2.out.cell_at 18 _ rfl); clear hSw; dsimp only [zN8]; go_simp <;> with_reducible rfl) ?_
     try simp only [zN8, Act.put, zzI, zzO, zzS]
     refine wpAnyH_ready (rs := [9]) (by kernel_rfl) (by simp) ?_
     refine AllReadyH.cons (o := zNc0) rfl (fun K hK => ?_) AllReadyH.nil
     dsimp only [zNc0]
     go_simp
     refine (HRA.out _).mono ?_
     rintro _ w3 ⟨rfl, hb⟩
     have B3 := Lib.hid (show Below w2.heap.size w2 w3 from C9.trans (hb.mono C9.size))
     clear hb
     go_wp2_with fail
     refine hK.out _ _ B3.out (fun C10 => ?_)
     clear hK K
     try simp only [Act.put, zzI, zzO, zzS]
     refine tkH 10 zN9 _ C10 rfl (by kernel_rfl) rfl (fun W h => by clear h; dsimp only [zN9]; go_simp <;> with_reducible rfl) ?_
     try simp only [zN9, Act.put, zzI, zzO, zzS]
     refine tkH 11 zN10 _ C10 rfl (by kernel_rfl) rfl (fun W h => by clear h; dsimp only [zN10]; go_simp <;> with_reducible rfl) ?_
     try simp only [zN10, Act.put, zzI, zzO, zzS]
     refine wpAnyH_done (by kernel_rfl) ?_ _
     refine NoPanic.normal ?_
     go_wp2
     go_ret
     rw [HE.out]
     exact ⟨by simp only [HD.out]; rfl, H1.out.below B3.out, K1.out.trans (Btw.of_below B3.out) fun _ _ h => h⟩
  ·
   rw [if_neg h5] at HE0
   by_cases h6 : t = 6
   ·
    subst h6
    rw [if_pos rfl] at HE0
    have HE := Lib.hid HE0
    have S1 := Lib.hid (show CRow (w.setCell ⟨p, 8, none⟩ (.int .i64 ((cl : Int) + 1))) p 52 (jCells g { j with col := cl + 1 } m) from C0.out.setCell 8 (.int .i64 ((cl : Int) + 1)))
    have HJ := JH.of (j' := { j with col := cl + 1 }) (m' := m) C0.out R0.out S1.out (((Btw.refl w)).setCell (I := fun k => k = p) (p := ⟨p, 8, none⟩) (v := .int .i64 ((cl : Int) + 1)) rfl) fun W h => { h with }
    have H1 := Lib.hid HJ.1
    have K1 := Lib.hid HJ.2
    have X8 := Lib.hid (show (w.setCell ⟨p, 8, none⟩ (.int .i64 ((cl : Int) + 1))).cell? ⟨p, 8, none⟩ = some (.int .i64 ((cl : Int) + 1)) from S1.out.cell_at 8 _ rfl)
    clear HE0 ht h2 h5 HJ
    go_enter Try.func51, Try.ntmps51
    go_wp2
    obtain ⟨w2, hw2⟩ : ∃ w2, w2 = w.setCell ⟨p, 8, none⟩ (.int .i64 ((cl : Int) + 1)) := ⟨_, rfl⟩
    rw [← hw2] at S1 H1 K1 X8 ⊢
    have C2 := S1
    clear hw2 x0 x1 x2 f2 x7 x8 f0 f8
    refine wp_region_noPanic ?_
    refine wp_region_held_drew (S := fun w' => Below w2.heap.size w2 w') (by kernel_rfl) ((Below.refl _ _).drew) (fun C9 => ?_)
    refine tkH 0 zN0 _ C9 rfl (by kernel_rfl) rfl (fun W h => by clear h; dsimp only [zN0]; go_simp <;> with_reducible rfl) ?_
    try simp only [zN0, Act.put, zzI, zzO, zzS]
    refine tkH 1 zN1 _ C9 rfl (by kernel_rfl) rfl (fun W h => by clear h; dsimp only [zN1]; go_simp <;> with_reducible rfl) ?_
    try simp only [zN1, Act.put, zzI, zzO, zzS]
    refine tkH 2 zN2 _ C9 rfl (by kernel_rfl) rfl (fun W h => by clear h; dsimp only [zN2]; go_simp <;> with_reducible rfl) ?_
    try simp only [zN2, Act.put, zzI, zzO, zzS]
    refine tkH 3 zN3 _ C9 rfl (by kernel_rfl) rfl (fun W h => by clear h; dsimp only [zN3]; go_simp <;> with_reducible rfl) ?_
    try simp only [zN3, Act.put, zzI, zzO, zzS]
    refine tkH 4 zN4 _ C9 rfl (by kernel_rfl) rfl (fun W' hSw => by have x8 : W'.cell? ⟨p, 8, none⟩ = some (.int .i64 ((cl : Int) + 1)) := (hSw.cell (show (⟨p, 8, none⟩ : Addr).block < w2.heap.size from C2.out.lt)).trans X8.out; clear hSw; dsimp only [zN4]; go_simp <;> with_reducible rfl) ?_
    try simp only [zN4, Act.put, zzI, zzO, zzS]
    refine tkH 5 zN5 _ C9 rfl (by kernel_rfl) rfl (fun W h => by clear h; dsimp only [zN5]; go_simp <;> with_reducible rfl) ?_
    try simp only [zN5, Act.put, zzI, zzO, zzS]
    refine tkH 6 zN6 _ C9 rfl (by kernel_rfl) rfl (fun W h => by clear h; dsimp only [zN6]; go_simp <;> with_reducible rfl) ?_
    try simp only [zN6, Act.put, zzI, zzO, zzS]
    refine tkH 7 zN7 _ C9 rfl (by kernel_rfl) rfl (fun W h => by clear h; dsimp only [zN7]; go_simp <;> with_reducible rfl) ?_
    try simp only [zN7, Act.put, zzI, zzO, zzS]
    refine tkH 8 zN8 _ C9 rfl (by kernel_rfl) rfl (fun W' hSw => by have g12 : W'.cell? ⟨p, 12, none⟩ = some (.int .i64 g.p) := (hSw.cell (show (⟨p, 12, none⟩ : Addr).block < w2.heap.size from C2.out.lt)).trans (C2.out.cell_at 12 _ rfl); have g13 : W'.cell? ⟨p, 13, none⟩ = some (.int .i64 g.b) := (hSw.cell (show (⟨p, 13, none⟩ : Addr).block < w2.heap.size from C2.out.lt)).trans (C2.out.cell_at 13 _ rfl); have g14 : W'.cell? ⟨p, 14, none⟩ = some (.int .i64 g.s) := (hSw.cell (show (⟨p, 14, none⟩ : Addr).block < w2.heap.size from C2.out.lt)).trans (C2.out.cell_at 14 _ rfl); have g15 : W'.cell? ⟨p, 15, none⟩ = some (.int .i64 g.c) := (hSw.cell (show (⟨p, 15, none⟩ : Addr).block < w2.heap.size from C2.out.lt)).trans (C2.out.cell_at 15 _ rfl); have g16 : W'.cell? ⟨p, 16, none⟩ = some (.int .i64 g.k) := (hSw.cell (show (⟨p, 16, none⟩ : Addr).block < w2.heap.size from C2.out.lt)).trans (C2.out.cell_at 16 _ rfl); have g17 : W'.cell? ⟨p, 17, none⟩ = some (.int .i64 g.r) := (hSw.cell (show (⟨p, 17, none⟩ : Addr).block < w2.heap.size from C2.out.lt)).trans (C2.out.cell_at 17 _ rfl); have g18 : W'.cell? ⟨p, 18, none⟩ = some (.int .i64 g.q) := (hSw.cell (show (⟨p, 18, none⟩ : Addr).block < w2.heap.size from C2.out.lt)).trans (C2.out.cell_at 18 _ rfl); clear hSw; dsimp only [zN8]; go_simp <;> with_reducible rfl) ?_
    try simp only [zN8, Act.put, zzI, zzO, zzS]
    refine wpAnyH_ready (rs := [9]) (by kernel_rfl) (by simp) ?_
    refine AllReadyH.cons (o := zNc0) rfl (fun K hK => ?_) AllReadyH.nil
    dsimp only [zNc0]
    go_simp
    refine (HRA.out _).mono ?_
    rintro _ w3 ⟨rfl, hb⟩
    have B3 := Lib.hid (show Below w2.heap.size w2 w3 from C9.trans (hb.mono C9.size))
    clear hb
    go_wp2_with fail
    refine hK.out _ _ B3.out (fun C10 => ?_)
    clear hK K
    try simp only [Act.put, zzI, zzO, zzS]
    refine tkH 10 zN9 _ C10 rfl (by kernel_rfl) rfl (fun W h => by clear h; dsimp only [zN9]; go_simp <;> with_reducible rfl) ?_
    try simp only [zN9, Act.put, zzI, zzO, zzS]
    refine tkH 11 zN10 _ C10 rfl (by kernel_rfl) rfl (fun W h => by clear h; dsimp only [zN10]; go_simp <;> with_reducible rfl) ?_
    try simp only [zN10, Act.put, zzI, zzO, zzS]
    refine wpAnyH_done (by kernel_rfl) ?_ _
    refine NoPanic.normal ?_
    go_wp2
    go_ret
    rw [HE.out]
    exact ⟨by simp only [HD.out]; rfl, H1.out.below B3.out, K1.out.trans (Btw.of_below B3.out) fun _ _ h => h⟩
   ·
    rw [if_neg h6] at HE0
    have HE := Lib.hid HE0
    clear HE0 HT
    rcases ht with rfl | rfl | rfl | rfl | rfl | rfl | rfl | rfl | rfl | rfl
    all_goals first | (exact absurd rfl h2) | (exact absurd rfl h5) | (exact absurd rfl h6) | (clear h2 h5 h6; go_enter Try.func51, Try.ntmps51; go_wp2; go_ret; rw [HE.out]; exact ⟨rfl, HH.out, Btw.refl w⟩)
end
end Go.Proofs.Ytaidgjidpghgnaa

/-
  Appends onto rows of one's own.
-/
namespace Go.Proofs.Ytaidgjidpghgnaa
open Go.RowKit
set_option maxRecDepth 100000

/-- append onto a row of one's own, elements of one cell; it tells where the row lies then. -/
theorem japp_at1 (w : World) {ops : Array Oper} {rest : List Oper} {o : Oper} {a : Act} {Q : Exit → Act → World → Prop} (hgd : o.guard = none) (s x : Operand) (t : TypeId)
  (ho : o.op = .call { callee := .builtin .append, args := #[s, x], argTypes := #[t, t] })
  (base : Nat) (e : TypeId) (i : TypeInfo) (z : Value) (bytes : Nat) (ht : Try.prog.underlying t = some (.slice e)) (hi : Try.prog.info? e = some i) (hz : i.zero = some z) (hsize : i.size = 1) (hby : i.bytes = bytes) (hzs : z.cells.size = 1)
  (v : Value) (n : Nat) (xs : List Value) (hs : a.eval s = v) (hown : w.ownsRow base e 1 v n xs)
  (ad : Addr) (m c : Nat) (news : List Value) (hx : a.eval x = .slice (some ad) m c) (hl : news.length = m) (hnews : ∀ j u, news[j]? = some u → w.cell? (ad.add j) = some u) (h1 : ∀ u ∈ news, u.oneCell' = true)
  (h63 : n + m ≤ maxLen) (hbytes : (n + m) * bytes ≤ 140737488355328) (hbase : base ≤ w.heap.size)
  (h : ∀ v' w', w'.ownsRow base e 1 v' (n + m) (xs ++ news) → w.grownBy w' v.ownBlock → (v'.ownBlock = v.ownBlock ∨ v'.ownBlock = some w.heap.size) → wpList Try.prog ops Q rest (a.put o.dst v') w') : wpList Try.prog ops Q (o :: rest) a w := by
 refine wpList_plain hgd fun K hK => ?_
 obtain ⟨v', w', hrun, h2, h3, _, h4⟩ := run_append_own_at (P := Try.prog) (w := w) base t o.type e i z 1 bytes ht hi hz hsize hby hzs (by decide) v n xs hown ad m c news (by omega) hnews h1 h63 hbytes hbase
 unfold Oper.wp execOp
 simp only [ho, resolve, invoke, builtin, Sem.run_bind, Sem.run_pure, Result.andThen_ok, List.map_toArray, List.map_cons, List.map_nil, hs, hx, hrun]
 exact hK _ _ (h v' w' h2 h3 h4)
theorem jown_form {w : World} {base : Nat} {e : TypeId} {v : Value} {n : Nat} {xs : List Value} (h : w.ownsRow base e 1 v n xs) : ∃ A c, v = .slice A n c := own_form h
/-- append of bytes onto a row of one's own, at the operation. -/
theorem jwp_app8 (w : World) {o : Oper} {a : Act} {K : Act → World → Prop} {Q : Exit → Act → World → Prop} (s x : Operand)
  (ho : o.op = .call { callee := .builtin .append, args := #[s, x], argTypes := #[48, 48] }) (base : Nat) (v : Value) (l : List Nat) (hs : a.eval s = v) (hown : w.ownsRow base 5 1 v l.length (U8 l))
  (ad : Addr) (m c : Nat) (k : List Nat) (hx : a.eval x = .slice (some ad) m c) (hr : R8 w (some ad) m k) (h63 : l.length + m ≤ 1099511627776) (hbase : base ≤ w.heap.size)
  (h : ∀ v' w', w'.ownsRow base 5 1 v' (l.length + m) (U8 (l ++ k)) → w.grownBy w' v.ownBlock → (v'.ownBlock = v.ownBlock ∨ v'.ownBlock = some w.heap.size) → K (a.put o.dst v') w') : o.wp Try.prog a w K Q := by
 obtain ⟨i0, hi, hz0, hz1, hz2⟩ := info_parts info_u8
 obtain ⟨v', w', hrun, h2, h3, _, h4⟩ := run_append_own_at (P := Try.prog) (w := w) base 48 o.type 5 i0 _ 1 1 Try.underlying48 hi hz0 hz1 hz2 rfl (by decide) v l.length (U8 l) hown ad m c (U8 k) (by rw [U8_length, hr.len]; omega) (by
   intro j u hu
   have hj : j < m := by
    have := (List.getElem?_eq_some_iff.1 hu).1
    rw [U8_length, hr.len] at this
    exact this
   obtain ⟨b, off, e, hb, hc⟩ := hr.1.2 (by omega)
   injection e with e
   subst e
   exact Rd.news hc hr.1.1 j u hu) (U8_one k) (by unfold maxLen; omega) (by omega) hbase
 unfold Oper.wp execOp
 simp only [ho, resolve, invoke, builtin, Sem.run_bind, Sem.run_pure, Result.andThen_ok, List.map_toArray, List.map_cons, List.map_nil, hs, hx, hrun]
 exact h v' w' (by rw [U8_append]; exact h2) h3 h4
theorem japp8 (w : World) {ops : Array Oper} {rest : List Oper} {o : Oper} {a : Act} {Q : Exit → Act → World → Prop} (hgd : o.guard = none) (s x : Operand)
  (ho : o.op = .call { callee := .builtin .append, args := #[s, x], argTypes := #[48, 48] }) (base : Nat) (v : Value) (l : List Nat) (hs : a.eval s = v) (hown : w.ownsRow base 5 1 v l.length (U8 l))
  (ad : Addr) (m c : Nat) (k : List Nat) (hx : a.eval x = .slice (some ad) m c) (hr : R8 w (some ad) m k) (h63 : l.length + m ≤ 1099511627776) (hbase : base ≤ w.heap.size)
  (h : ∀ v' w', w'.ownsRow base 5 1 v' (l.length + m) (U8 (l ++ k)) → w.grownBy w' v.ownBlock → (v'.ownBlock = v.ownBlock ∨ v'.ownBlock = some w.heap.size) → wpList Try.prog ops Q rest (a.put o.dst v') w') : wpList Try.prog ops Q (o :: rest) a w :=
 wpList_plain hgd fun _ hK => jwp_app8 w s x ho base v l hs hown ad m c k hx hr h63 hbase fun v' w' h1 h2 h3 => hK _ _ (h v' w' h1 h2 h3)
theorem jr8_one (w : World) (b : Nat) (h : b < 256) (t : TypeId) : R8 (w.alloc (.cells #[.int .u8 (b : Int)] t)) (some ⟨w.heap.size, 0, none⟩) 1 [b] := by
 refine ⟨⟨rfl, fun _ => ⟨w.heap.size, 0, rfl, by simp, fun j hj => ?_⟩⟩, by simpa using h⟩
 match j, hj with
 | 0, _ => exact (CRow.new w #[.int .u8 (b : Int)] t).cell 0
theorem jone64 (w : World) (x : Int) (t : TypeId) : (w.alloc (.cells #[.int .i64 x] t)).cell? ((⟨w.heap.size, 0, none⟩ : Addr).add 0) = some (.int .i64 x) := (CRow.new w #[.int .i64 x] t).cell 0
theorem japp64 (w : World) {ops : Array Oper} {rest : List Oper} {o : Oper} {a : Act} {Q : Exit → Act → World → Prop} (hgd : o.guard = none) (s x : Operand)
  (ho : o.op = .call { callee := .builtin .append, args := #[s, x], argTypes := #[39, 39] }) (base : Nat) (v : Value) (l : List Int) (n : Nat) (hn : l.length = n) (hs : a.eval s = v) (hown : w.ownsRow base 3 1 v n (I64 l))
  (ad : Addr) (c : Nat) (y : Int) (hx : a.eval x = .slice (some ad) 1 c) (hr : w.cell? (ad.add 0) = some (.int .i64 y)) (h63 : n + 1 ≤ 1099511627776) (hbase : base ≤ w.heap.size)
  (h : ∀ v' w', w'.ownsRow base 3 1 v' (n + 1) (I64 (l ++ [y])) → w.grownBy w' v.ownBlock → (v'.ownBlock = v.ownBlock ∨ v'.ownBlock = some w.heap.size) → wpList Try.prog ops Q rest (a.put o.dst v') w') : wpList Try.prog ops Q (o :: rest) a w := by
 obtain ⟨i0, hi, hz0, hz1, hz2⟩ := info_parts info_int
 refine japp_at1 w hgd s x 39 ho base 3 i0 _ 8 Try.underlying39 hi hz0 hz1 hz2 rfl v n (I64 l) hs hown ad 1 c [.int .i64 y] hx rfl (fun j u hu => ?_) (by simp [Value.oneCell']) (by unfold maxLen; omega) (by omega) hbase fun v' w' h1 h2 h3 => h v' w' (by simpa [I64] using h1) h2 h3
 match j, hu with
 | 0, hu => injection hu with hu; rw [← hu]; exact hr
end Go.Proofs.Ytaidgjidpghgnaa

/-
  The judge's endErase.
-/
namespace Go.Proofs.Ytaidgjidpghgnaa
open Go.RowKit
set_option maxRecDepth 100000

section
variable {I K : Nat → Prop} {w w' : World} {p : Nat} {g : Gm} {j : Jd} {m : Jm}
theorem any_take_succ {f : Nat → Bool} {l : List Nat} {k x : Nat} (hx : l[k]? = some x) (h : (l.take k).any f = false) : (l.take (k + 1)).any f = f x := by
 rw [List.take_add_one, hx, List.any_append, h]
 simp
theorem any_yes {f : Nat → Bool} {l : List Nat} {k x : Nat} (hx : l[k]? = some x) (h : f x = true) : l.any f = true := by
 rw [List.any_eq_true]
 exact ⟨x, List.mem_of_getElem? hx, h⟩
/-- A command that ends an erase. -/
def Jd.endErase (g : Gm) (j : Jd) (b : Nat) : Bool × Jd :=
 if ¬ (b = 208 ∨ b = 209) ∨ j.listed.length < 2 then (false, j)
 else if j.blocks.any (fun x => decide (x % g.p.toNat = spB g (j.addr2 (j.listed.length - 2)) % g.p.toNat)) = true then (false, j)
 else if b = 208 then (true, (({ j with blocks := j.blocks ++ [spB g (j.addr2 (j.listed.length - 2))] } : Jd).erase g).start)
 else (true, ({ j with blocks := j.blocks ++ [spB g (j.addr2 (j.listed.length - 2))] } : Jd).start)
set_option maxHeartbeats 2000000 in
theorem jendErase (b : Nat) (hb : b < 256) (hl : j.listed.length ≤ 4) (hbb : ∀ x ∈ j.blocks, x < g.b.toNat) (hnq : j.blocks.length ≤ 100000) (h : JH I w p g j) : Calls Try.prog 53 #[.pointer (some ⟨p, 0, none⟩), .int .u8 (b : Int)] w (ActsJ I p g (.bool (j.endErase g b).1) (j.endErase g b).2 w) := by
 have HH := Lib.hid h
 have HBB := Lib.hid hbb
 have NQ := Lib.hid hnq
 have HOK := Lib.hid h.ok
 obtain ⟨m, hc, hr⟩ := h
 have C0 := Lib.hid hc
 have R0 := Lib.hid hr
 obtain ⟨n, hn⟩ : ∃ n, n = j.listed.length := ⟨_, rfl⟩
 have x1 : w.cell? ⟨p, 1, none⟩ = some (.slice m.aL n m.cL) := by rw [hn]; exact hc.cell_at 1 _ rfl
 have HE0 : j.endErase g b = (if ¬ (b = 208 ∨ b = 209) ∨ n < 2 then (false, j) else if j.blocks.any (fun x => decide (x % g.p.toNat = spB g (j.addr2 (n - 2)) % g.p.toNat)) = true then (false, j) else if b = 208 then (true, (({ j with blocks := j.blocks ++ [spB g (j.addr2 (n - 2))] } : Jd).erase g).start) else (true, ({ j with blocks := j.blocks ++ [spB g (j.addr2 (n - 2))] } : Jd).start)) := by rw [hn]; rfl
 have HNL := Lib.hid hn
 rw [← hn] at hl
 clear hc hr hn hbb hnq
 by_cases h1 : b = 208 ∨ b = 209
 ·
  by_cases h2 : n < 2
  ·
   rw [if_pos (.inr h2)] at HE0
   have HE := Lib.hid HE0
   clear HE0
   have d1 : decide ((n : Int) < 2) = true := decide_eq_true (by omega)
   have d2 : decide (n < 2) = true := decide_eq_true (by omega)
   clear h2
   rcases h1 with rfl | rfl
   all_goals go_enter Try.func53, Try.ntmps53
   all_goals go_wp2
   all_goals go_ret
   all_goals rw [HE.out]
   all_goals exact ⟨rfl, HH.out, Btw.refl w⟩
  ·
   rw [if_neg (by omega)] at HE0
   have d1 : decide ((n : Int) < 2) = false := decide_eq_false (by omega)
   have d2 : decide (n < 2) = false := decide_eq_false (by omega)
   have HLR := Lib.hid (fun W (hh : JH I W p g j) => jlistedRow (n - 2) (by rw [← HNL.out]; omega) (by omega) hh)
   generalize j.addr2 (n - 2) = a at *
   have HSP := Lib.hid (fun W => jSplit g HOK.out a W)
   have HBK := Lib.hid (spB_lt HOK.out a)
   simp only [Gm.val] at HSP
   generalize spB g a = bk at *
   generalize spP g a = np at *
   generalize decide (a < g.rows_) = bb at *
   have x13 := C0.out.cell_at 13 (.int .i64 g.b) rfl
   have HNO := Lib.hid (fun (e : j.blocks.any (fun x => decide (x % g.p.toNat = bk % g.p.toNat)) = true) => HE0.trans (if_pos e))
   rcases h1 with rfl | rfl
   ·
    have HE := Lib.hid (fun (e : j.blocks.any (fun x => decide (x % g.p.toNat = bk % g.p.toNat)) = false) => HE0.trans ((if_neg (by rw [e]; decide)).trans (if_pos rfl)))
    obtain ⟨nb, hnb⟩ : ∃ nb, nb = j.blocks.length := ⟨_, rfl⟩
    have HN := Lib.hid hnb
    obtain ⟨zR, hz⟩ : ∃ zR, zR = m.aB := ⟨_, rfl⟩
    have HZ := Lib.hid hz
    have hnq := NQ.out
    rw [← hnb] at hnq
    have X10 := Lib.hid (show ∀ W, CRow W p 52 (jCells g j m) → W.cell? ⟨p, 10, none⟩ = some (.slice zR nb m.cB) from fun W hW => by rw [hz, hnb]; exact hW.cell_at 10 _ rfl)
    clear hnb hz HE0
    go_enter Try.func53, Try.ntmps53
    go_wp2
    refine wp_region_noPanic ?_
    refine wp_region_held_drew (S := fun w' => Below w.heap.size w w') (by kernel_rfl) ((Below.refl _ _).drew) (fun C1 => ?_)
    refine tkH 0 zN11 _ C1 rfl (by kernel_rfl) rfl (fun W h => by clear h; dsimp only [zN11]; go_simp <;> with_reducible rfl) ?_
    try simp only [zN11, Act.put, zzI, zzO, zzS]
    refine tkH 1 zN12 _ C1 rfl (by kernel_rfl) rfl (fun W h => by clear h; dsimp only [zN12]; go_simp <;> with_reducible rfl) ?_
    try simp only [zN12, Act.put, zzI, zzO, zzS]
    refine tkH 2 zN13 _ C1 rfl (by kernel_rfl) rfl (fun W h => by clear h; dsimp only [zN13]; go_simp <;> with_reducible rfl) ?_
    try simp only [zN13, Act.put, zzI, zzO, zzS]
    refine tkH 3 zN14 _ C1 rfl (by kernel_rfl) rfl (fun W' hSw => by have g12 : W'.cell? ⟨p, 12, none⟩ = some (.int .i64 g.p) := (hSw.cell (show (⟨p, 12, none⟩ : Addr).block < w.heap.size from C0.out.lt)).trans (C0.out.cell_at 12 _ rfl); have g13 : W'.cell? ⟨p, 13, none⟩ = some (.int .i64 g.b) := (hSw.cell (show (⟨p, 13, none⟩ : Addr).block < w.heap.size from C0.out.lt)).trans (C0.out.cell_at 13 _ rfl); have g14 : W'.cell? ⟨p, 14, none⟩ = some (.int .i64 g.s) := (hSw.cell (show (⟨p, 14, none⟩ : Addr).block < w.heap.size from C0.out.lt)).trans (C0.out.cell_at 14 _ rfl); have g15 : W'.cell? ⟨p, 15, none⟩ = some (.int .i64 g.c) := (hSw.cell (show (⟨p, 15, none⟩ : Addr).block < w.heap.size from C0.out.lt)).trans (C0.out.cell_at 15 _ rfl); have g16 : W'.cell? ⟨p, 16, none⟩ = some (.int .i64 g.k) := (hSw.cell (show (⟨p, 16, none⟩ : Addr).block < w.heap.size from C0.out.lt)).trans (C0.out.cell_at 16 _ rfl); have g17 : W'.cell? ⟨p, 17, none⟩ = some (.int .i64 g.r) := (hSw.cell (show (⟨p, 17, none⟩ : Addr).block < w.heap.size from C0.out.lt)).trans (C0.out.cell_at 17 _ rfl); have g18 : W'.cell? ⟨p, 18, none⟩ = some (.int .i64 g.q) := (hSw.cell (show (⟨p, 18, none⟩ : Addr).block < w.heap.size from C0.out.lt)).trans (C0.out.cell_at 18 _ rfl); clear hSw; dsimp only [zN14]; go_simp <;> with_reducible rfl) ?_
    try simp only [zN14, Act.put, zzI, zzO, zzS]
    refine tkH 4 zN15 _ C1 rfl (by kernel_rfl) rfl (fun W h => by clear h; dsimp only [zN15]; go_simp <;> with_reducible rfl) ?_
    try simp only [zN15, Act.put, zzI, zzO, zzS]
    refine wpAnyH_ready (rs := [5]) (by kernel_rfl) (by simp) ?_
    refine AllReadyH.cons (o := zNc1) rfl (fun K hK => ?_) AllReadyH.nil
    dsimp only [zNc1]
    go_simp
    refine (HLR.out _ (HH.out.below C1)).mono ?_
    rintro _ w2 ⟨rfl, hb⟩
    have B2 := Lib.hid (show Below w.heap.size w w2 from C1.trans (hb.mono C1.size))
    clear hb
    go_wp2_with fail
    refine hK.out _ _ B2.out (fun C2 => ?_)
    clear hK K
    try simp only [Act.put, zzI, zzO, zzS]
    refine wpAnyH_ready (rs := [6]) (by kernel_rfl) (by simp) ?_
    refine AllReadyH.cons (o := zNc2) rfl (fun K hK => ?_) AllReadyH.nil
    dsimp only [zNc2]
    go_simp
    refine (HSP.out _).mono ?_
    rintro _ w3 ⟨rfl, hb⟩
    have B3 := Lib.hid (show Below w.heap.size w w3 from C2.trans (hb.mono C2.size))
    clear hb
    go_wp2_with fail
    refine hK.out _ _ B3.out (fun C3 => ?_)
    clear hK K
    try simp only [Act.put, zzI, zzO, zzS]
    refine tkH 7 zN16 _ C3 rfl (by kernel_rfl) rfl (fun W h => by clear h; dsimp only [zN16]; go_simp <;> with_reducible rfl) ?_
    try simp only [zN16, Act.put, zzI, zzO, zzS]
    refine tkH 8 zN17 _ C3 rfl (by kernel_rfl) rfl (fun W h => by clear h; dsimp only [zN17]; go_simp <;> with_reducible rfl) ?_
    try simp only [zN17, Act.put, zzI, zzO, zzS]
    refine tkH 9 zN18 _ C3 rfl (by kernel_rfl) rfl (fun W h => by clear h; dsimp only [zN18]; go_simp <;> with_reducible rfl) ?_
    try simp only [zN18, Act.put, zzI, zzO, zzS]
    refine tkH 10 zN19 _ C3 rfl (by kernel_rfl) rfl (fun W h => by clear h; dsimp only [zN19]; go_simp <;> with_reducible rfl) ?_
    try simp only [zN19, Act.put, zzI, zzO, zzS]
    refine tkH 11 zN20 _ C3 rfl (by kernel_rfl) rfl (fun W h => by clear h; dsimp only [zN20]; go_simp <;> with_reducible rfl) ?_
    try simp only [zN20, Act.put, zzI, zzO, zzS]
    refine tkH 12 zN21 _ C3 rfl (by kernel_rfl) rfl (fun W h => by clear h; dsimp only [zN21]; go_simp <;> with_reducible rfl) ?_
    try simp only [zN21, Act.put, zzI, zzO, zzS]
    refine tkH 13 zN22 _ C3 rfl (by kernel_rfl) rfl (fun W h => by clear h; dsimp only [zN22]; go_simp <;> with_reducible rfl) ?_
    try simp only [zN22, Act.put, zzI, zzO, zzS]
    refine wpAnyH_done (by kernel_rfl) ?_ _
    refine NoPanic.normal ?_
    have y10 := X10.out _ (C0.out.below B3.out)
    go_wp2
    clear y10 x1 x13
    go_loopw [42] (fun i wr => ∃ k : Nat, k ≤ nb ∧ i = .int .i64 (k : Int) ∧ Hid ((j.blocks.take k).any (fun x => decide (x % g.p.toNat = bk % g.p.toNat)) = false) ∧ Hid (Below w.heap.size w wr)) (fun i _ => nb - (intOf i).toNat)
    case atStart => exact ⟨0, Nat.zero_le _, rfl, Lib.hid rfl, B3⟩
    case round =>
     obtain ⟨k, hk, rfl, HK, B1⟩ := hrel
     rename World => wr
     clear B3 B2
     by_cases hlt : k < nb
     ·
      obtain ⟨x, hx⟩ : ∃ x, j.blocks[k]? = some x := ⟨_, List.getElem?_eq_getElem (by rw [← HN.out]; exact hlt)⟩
      obtain ⟨b9, hA, _, _, y0', _, _⟩ := own_at (own_below R0.out.blk B1.out) (k := k) (by rw [← HN.out]; exact hlt)
      obtain rfl : zR = some ⟨b9, 0, none⟩ := HZ.out.trans hA
      have y0 : wr.cell? ⟨b9, k, none⟩ = some (.int .i64 (x : Int)) := by
       rw [y0', I64_JI, hx]
       rfl
      have HX := Lib.hid hx
      have d3 : decide ((k : Int) < (nb : Int)) = true := decide_eq_true (by omega)
      have i0 : (0 : Int) ≤ (k : Int) := by omega
      have i1 : (k : Int) < (nb : Int) := by omega
      have HP1 := Lib.hid (jplane x (HBB.out x (List.mem_of_getElem? hx)) (HH.out.below B1.out))
      have HP2 := Lib.hid (fun W (hB : Below w.heap.size w W) => jplane bk HBK.out (HH.out.below hB))
      obtain ⟨p1, hp1⟩ : ∃ p1, p1 = x % g.p.toNat := ⟨_, rfl⟩
      obtain ⟨p2, hp2⟩ : ∃ p2, p2 = bk % g.p.toNat := ⟨_, rfl⟩
      have HQ1 := Lib.hid hp1
      have HQ2 := Lib.hid hp2
      rw [← hp1] at HP1
      rw [← hp2] at HP2
      clear hA y0' hx hp1 hp2
      go_wp2_with fail
      clear y0
      refine HP1.out.mono ?_
      rintro _ w5 ⟨rfl, hb5⟩
      have B5 := Lib.hid (below_step B1.out hb5)
      clear hb5 HP1
      go_wp2_with fail
      refine (HP2.out _ B5.out).mono ?_
      rintro _ w6 ⟨rfl, hb6⟩
      have B6 := Lib.hid (below_step B5.out hb6)
      clear hb6 HP2
      by_cases hpl : p1 = p2
      ·
       have HPL := Lib.hid hpl
       subst hpl
       go_wp2
       go_ret
       rw [HNO.out (any_yes HX.out (by show decide (x % g.p.toNat = bk % g.p.toNat) = true; rw [← HQ1.out, ← HQ2.out]; simp))]
       exact ⟨rfl, HH.out.below B6.out, Btw.of_below B6.out⟩
      ·
       have e1 : decide (p1 = p2) = false := decide_eq_false hpl
       have e2 : ((p1 : Int) == (p2 : Int)) = false := by rw [beq_eq_false_iff_ne]; omega
       have e3 : ¬ ((p1 : Int) = (p2 : Int)) := by omega
       have E1 := Lib.hid e1
       go_wp2
       go_roundw
       case rel => exact ⟨k + 1, by omega, by go_num, Lib.hid (by rw [any_take_succ HX.out HK.out]; show decide (x % g.p.toNat = bk % g.p.toNat) = false; rw [← HQ1.out, ← HQ2.out]; exact E1.out), B6⟩
       case measure => simp [intOf]; omega
     ·
      obtain rfl : k = nb := by omega
      have d3 : decide ((k : Int) < (k : Int)) = false := decide_eq_false (by omega)
      have F1 := Lib.hid (show j.blocks.any (fun x => decide (x % g.p.toNat = bk % g.p.toNat)) = false by
       have h0 := HK.out
       rw [HN.out, List.take_length] at h0
       exact h0)
      clear hk hlt
      obtain ⟨m4, hc, hr⟩ := HH.out.below B1.out
      have C4 := Lib.hid hc
      have R4 := Lib.hid hr
      have OQ := Lib.hid hr.blk
      obtain ⟨nq, hnq⟩ : ∃ nq, nq = j.blocks.length := ⟨_, rfl⟩
      have y10 : wr.cell? ⟨p, 10, none⟩ = some (.slice m4.aB j.blocks.length m4.cB) := hc.cell_at 10 _ rfl
      clear hc hr hnq
      go_wp2_with (at_builtin; refine japp64 (wr.alloc (.cells #[.int .i64 (bk : Int)] 3)) rfl (.tmp 59) (.tmp 61) rfl 0 _ (JI j.blocks) j.blocks.length (JI_length _) rfl (OQ.out.alloc _) ⟨wr.heap.size, 0, none⟩ 1 (bk : Int) rfl (jone64 wr (bk : Int) _) (by have := NQ.out; omega) (Nat.zero_le _) ?_)
      intro v3 w5 hown hg hwh
      obtain ⟨A3, c3, rfl⟩ := jown_form hown
      have hP := Jr.pushB (I := I) bk C4.out R4.out hown hg (by simpa using hwh)
      have C5 := Lib.hid hP.1
      have R5 := Lib.hid hP.2.1
      have B5 := Lib.hid ((Btw.of_below (I := I) B1.out).trans hP.2.2 fun _ _ h => h)
      clear hown hg hwh hP y10
      have y10 := C5.out.cell_at 10 (.slice m4.aB j.blocks.length m4.cB) rfl
      have f10 := C5.out.frozen 10
      have S6 := Lib.hid (show CRow (w5.setCell ⟨p, 10, none⟩ (.slice A3 (j.blocks.length + 1) c3)) p 52 (jCells g { j with blocks := j.blocks ++ [bk] } { m4 with aB := A3, cB := c3 }) by
       have h0 := C5.out.setCell 10 (.slice A3 (j.blocks.length + 1) c3)
       have e : (jCells g j m4).setIfInBounds 10 (.slice A3 (j.blocks.length + 1) c3) = jCells g { j with blocks := j.blocks ++ [bk] } { m4 with aB := A3, cB := c3 } := by simp [jCells]
       rw [e] at h0
       exact h0)
      have HJ := JH.of (j' := { j with blocks := j.blocks ++ [bk] }) (m' := { m4 with aB := A3, cB := c3 }) C5.out R5.out S6.out ((Btw.refl w5).setCell (I := fun k => k = p) (p := ⟨p, 10, none⟩) (v := .slice A3 (j.blocks.length + 1) c3) rfl) fun W h => h
      have H6 := Lib.hid HJ.1
      have B6 := Lib.hid (B5.out.trans HJ.2 fun _ _ h => h)
      clear HJ
      go_wp2_with fail
      refine (jerase (fun x hx => by
       rcases List.mem_append.1 hx with h | h
       ·
        exact HBB.out x h
       ·
        rw [List.mem_singleton.1 h]; exact HBK.out) (by show (j.blocks ++ [bk]).length ≤ 1000000; rw [List.length_append]; show _ + 1 ≤ _; have := NQ.out; omega) H6.out).mono ?_
      rintro _ w7 ⟨rfl, h7, b7⟩
      have H7 := Lib.hid h7
      have B7 := Lib.hid (B6.out.trans b7 fun _ _ h => h)
      clear h7 b7
      go_wp2_with fail
      refine (jstart H7.out).mono ?_
      rintro _ w8 ⟨rfl, h8, b8⟩
      have H8 := Lib.hid h8
      have B8 := Lib.hid (B7.out.trans b8 fun _ _ h => h)
      clear h8 b8
      go_wp2
      go_ret
      rw [HE.out F1.out]
      exact ⟨rfl, H8.out, B8.out⟩
   ·
    have HE := Lib.hid (fun (e : j.blocks.any (fun x => decide (x % g.p.toNat = bk % g.p.toNat)) = false) => HE0.trans ((if_neg (by rw [e]; decide)).trans (if_neg (by omega))))
    obtain ⟨nb, hnb⟩ : ∃ nb, nb = j.blocks.length := ⟨_, rfl⟩
    have HN := Lib.hid hnb
    obtain ⟨zR, hz⟩ : ∃ zR, zR = m.aB := ⟨_, rfl⟩
    have HZ := Lib.hid hz
    have hnq := NQ.out
    rw [← hnb] at hnq
    have X10 := Lib.hid (show ∀ W, CRow W p 52 (jCells g j m) → W.cell? ⟨p, 10, none⟩ = some (.slice zR nb m.cB) from fun W hW => by rw [hz, hnb]; exact hW.cell_at 10 _ rfl)
    clear hnb hz HE0
    go_enter Try.func53, Try.ntmps53
    go_wp2
    refine wp_region_noPanic ?_
    refine wp_region_held_drew (S := fun w' => Below w.heap.size w w') (by kernel_rfl) ((Below.refl _ _).drew) (fun C1 => ?_)
    refine tkH 0 zN11 _ C1 rfl (by kernel_rfl) rfl (fun W h => by clear h; dsimp only [zN11]; go_simp <;> with_reducible rfl) ?_
    try simp only [zN11, Act.put, zzI, zzO, zzS]
    refine tkH 1 zN12 _ C1 rfl (by kernel_rfl) rfl (fun W h => by clear h; dsimp only [zN12]; go_simp <;> with_reducible rfl) ?_
    try simp only [zN12, Act.put, zzI, zzO, zzS]
    refine tkH 2 zN13 _ C1 rfl (by kernel_rfl) rfl (fun W h => by clear h; dsimp only [zN13]; go_simp <;> with_reducible rfl) ?_
    try simp only [zN13, Act.put, zzI, zzO, zzS]
    refine tkH 3 zN14 _ C1 rfl (by kernel_rfl) rfl (fun W' hSw => by have g12 : W'.cell? ⟨p, 12, none⟩ = some (.int .i64 g.p) := (hSw.cell (show (⟨p, 12, none⟩ : Addr).block < w.heap.size from C0.out.lt)).trans (C0.out.cell_at 12 _ rfl); have g13 : W'.cell? ⟨p, 13, none⟩ = some (.int .i64 g.b) := (hSw.cell (show (⟨p, 13, none⟩ : Addr).block < w.heap.size from C0.out.lt)).trans (C0.out.cell_at 13 _ rfl); have g14 : W'.cell? ⟨p, 14, none⟩ = some (.int .i64 g.s) := (hSw.cell (show (⟨p, 14, none⟩ : Addr).block < w.heap.size from C0.out.lt)).trans (C0.out.cell_at 14 _ rfl); have g15 : W'.cell? ⟨p, 15, none⟩ = some (.int .i64 g.c) := (hSw.cell (show (⟨p, 15, none⟩ : Addr).block < w.heap.size from C0.out.lt)).trans (C0.out.cell_at 15 _ rfl); have g16 : W'.cell? ⟨p, 16, none⟩ = some (.int .i64 g.k) := (hSw.cell (show (⟨p, 16, none⟩ : Addr).block < w.heap.size from C0.out.lt)).trans (C0.out.cell_at 16 _ rfl); have g17 : W'.cell? ⟨p, 17, none⟩ = some (.int .i64 g.r) := (hSw.cell (show (⟨p, 17, none⟩ : Addr).block < w.heap.size from C0.out.lt)).trans (C0.out.cell_at 17 _ rfl); have g18 : W'.cell? ⟨p, 18, none⟩ = some (.int .i64 g.q) := (hSw.cell (show (⟨p, 18, none⟩ : Addr).block < w.heap.size from C0.out.lt)).trans (C0.out.cell_at 18 _ rfl); clear hSw; dsimp only [zN14]; go_simp <;> with_reducible rfl) ?_
    try simp only [zN14, Act.put, zzI, zzO, zzS]
    refine tkH 4 zN15 _ C1 rfl (by kernel_rfl) rfl (fun W h => by clear h; dsimp only [zN15]; go_simp <;> with_reducible rfl) ?_
    try simp only [zN15, Act.put, zzI, zzO, zzS]
    refine wpAnyH_ready (rs := [5]) (by kernel_rfl) (by simp) ?_
    refine AllReadyH.cons (o := zNc1) rfl (fun K hK => ?_) AllReadyH.nil
    dsimp only [zNc1]
    go_simp
    refine (HLR.out _ (HH.out.below C1)).mono ?_
    rintro _ w2 ⟨rfl, hb⟩
    have B2 := Lib.hid (show Below w.heap.size w w2 from C1.trans (hb.mono C1.size))
    clear hb
    go_wp2_with fail
    refine hK.out _ _ B2.out (fun C2 => ?_)
    clear hK K
    try simp only [Act.put, zzI, zzO, zzS]
    refine wpAnyH_ready (rs := [6]) (by kernel_rfl) (by simp) ?_
    refine AllReadyH.cons (o := zNc2) rfl (fun K hK => ?_) AllReadyH.nil
    dsimp only [zNc2]
    go_simp
    refine (HSP.out _).mono ?_
    rintro _ w3 ⟨rfl, hb⟩
    have B3 := Lib.hid (show Below w.heap.size w w3 from C2.trans (hb.mono C2.size))
    clear hb
    go_wp2_with fail
    refine hK.out _ _ B3.out (fun C3 => ?_)
    clear hK K
    try simp only [Act.put, zzI, zzO, zzS]
    refine tkH 7 zN16 _ C3 rfl (by kernel_rfl) rfl (fun W h => by clear h; dsimp only [zN16]; go_simp <;> with_reducible rfl) ?_
    try simp only [zN16, Act.put, zzI, zzO, zzS]
    refine tkH 8 zN17 _ C3 rfl (by kernel_rfl) rfl (fun W h => by clear h; dsimp only [zN17]; go_simp <;> with_reducible rfl) ?_
    try simp only [zN17, Act.put, zzI, zzO, zzS]
    refine tkH 9 zN18 _ C3 rfl (by kernel_rfl) rfl (fun W h => by clear h; dsimp only [zN18]; go_simp <;> with_reducible rfl) ?_
    try simp only [zN18, Act.put, zzI, zzO, zzS]
    refine tkH 10 zN19 _ C3 rfl (by kernel_rfl) rfl (fun W h => by clear h; dsimp only [zN19]; go_simp <;> with_reducible rfl) ?_
    try simp only [zN19, Act.put, zzI, zzO, zzS]
    refine tkH 11 zN20 _ C3 rfl (by kernel_rfl) rfl (fun W h => by clear h; dsimp only [zN20]; go_simp <;> with_reducible rfl) ?_
    try simp only [zN20, Act.put, zzI, zzO, zzS]
    refine tkH 12 zN21 _ C3 rfl (by kernel_rfl) rfl (fun W h => by clear h; dsimp only [zN21]; go_simp <;> with_reducible rfl) ?_
    try simp only [zN21, Act.put, zzI, zzO, zzS]
    refine tkH 13 zN22 _ C3 rfl (by kernel_rfl) rfl (fun W h => by clear h; dsimp only [zN22]; go_simp <;> with_reducible rfl) ?_
    try simp only [zN22, Act.put, zzI, zzO, zzS]
    refine wpAnyH_done (by kernel_rfl) ?_ _
    refine NoPanic.normal ?_
    have y10 := X10.out _ (C0.out.below B3.out)
    go_wp2
    clear y10 x1 x13
    go_loopw [42] (fun i wr => ∃ k : Nat, k ≤ nb ∧ i = .int .i64 (k : Int) ∧ Hid ((j.blocks.take k).any (fun x => decide (x % g.p.toNat = bk % g.p.toNat)) = false) ∧ Hid (Below w.heap.size w wr)) (fun i _ => nb - (intOf i).toNat)
    case atStart => exact ⟨0, Nat.zero_le _, rfl, Lib.hid rfl, B3⟩
    case round =>
     obtain ⟨k, hk, rfl, HK, B1⟩ := hrel
     rename World => wr
     clear B3 B2
     by_cases hlt : k < nb
     ·
      obtain ⟨x, hx⟩ : ∃ x, j.blocks[k]? = some x := ⟨_, List.getElem?_eq_getElem (by rw [← HN.out]; exact hlt)⟩
      obtain ⟨b9, hA, _, _, y0', _, _⟩ := own_at (own_below R0.out.blk B1.out) (k := k) (by rw [← HN.out]; exact hlt)
      obtain rfl : zR = some ⟨b9, 0, none⟩ := HZ.out.trans hA
      have y0 : wr.cell? ⟨b9, k, none⟩ = some (.int .i64 (x : Int)) := by
       rw [y0', I64_JI, hx]
       rfl
      have HX := Lib.hid hx
      have d3 : decide ((k : Int) < (nb : Int)) = true := decide_eq_true (by omega)
      have i0 : (0 : Int) ≤ (k : Int) := by omega
      have i1 : (k : Int) < (nb : Int) := by omega
      have HP1 := Lib.hid (jplane x (HBB.out x (List.mem_of_getElem? hx)) (HH.out.below B1.out))
      have HP2 := Lib.hid (fun W (hB : Below w.heap.size w W) => jplane bk HBK.out (HH.out.below hB))
      obtain ⟨p1, hp1⟩ : ∃ p1, p1 = x % g.p.toNat := ⟨_, rfl⟩
      obtain ⟨p2, hp2⟩ : ∃ p2, p2 = bk % g.p.toNat := ⟨_, rfl⟩
      have HQ1 := Lib.hid hp1
      have HQ2 := Lib.hid hp2
      rw [← hp1] at HP1
      rw [← hp2] at HP2
      clear hA y0' hx hp1 hp2
      go_wp2_with fail
      clear y0
      refine HP1.out.mono ?_
      rintro _ w5 ⟨rfl, hb5⟩
      have B5 := Lib.hid (below_step B1.out hb5)
      clear hb5 HP1
      go_wp2_with fail
      refine (HP2.out _ B5.out).mono ?_
      rintro _ w6 ⟨rfl, hb6⟩
      have B6 := Lib.hid (below_step B5.out hb6)
      clear hb6 HP2
      by_cases hpl : p1 = p2
      ·
       have HPL := Lib.hid hpl
       subst hpl
       go_wp2
       go_ret
       rw [HNO.out (any_yes HX.out (by show decide (x % g.p.toNat = bk % g.p.toNat) = true; rw [← HQ1.out, ← HQ2.out]; simp))]
       exact ⟨rfl, HH.out.below B6.out, Btw.of_below B6.out⟩
      ·
       have e1 : decide (p1 = p2) = false := decide_eq_false hpl
       have e2 : ((p1 : Int) == (p2 : Int)) = false := by rw [beq_eq_false_iff_ne]; omega
       have e3 : ¬ ((p1 : Int) = (p2 : Int)) := by omega
       have E1 := Lib.hid e1
       go_wp2
       go_roundw
       case rel => exact ⟨k + 1, by omega, by go_num, Lib.hid (by rw [any_take_succ HX.out HK.out]; show decide (x % g.p.toNat = bk % g.p.toNat) = false; rw [← HQ1.out, ← HQ2.out]; exact E1.out), B6⟩
       case measure => simp [intOf]; omega
     ·
      obtain rfl : k = nb := by omega
      have d3 : decide ((k : Int) < (k : Int)) = false := decide_eq_false (by omega)
      have F1 := Lib.hid (show j.blocks.any (fun x => decide (x % g.p.toNat = bk % g.p.toNat)) = false by
       have h0 := HK.out
       rw [HN.out, List.take_length] at h0
       exact h0)
      clear hk hlt
      obtain ⟨m4, hc, hr⟩ := HH.out.below B1.out
      have C4 := Lib.hid hc
      have R4 := Lib.hid hr
      have OQ := Lib.hid hr.blk
      obtain ⟨nq, hnq⟩ : ∃ nq, nq = j.blocks.length := ⟨_, rfl⟩
      have y10 : wr.cell? ⟨p, 10, none⟩ = some (.slice m4.aB j.blocks.length m4.cB) := hc.cell_at 10 _ rfl
      clear hc hr hnq
      go_wp2_with (at_builtin; refine japp64 (wr.alloc (.cells #[.int .i64 (bk : Int)] 3)) rfl (.tmp 59) (.tmp 61) rfl 0 _ (JI j.blocks) j.blocks.length (JI_length _) rfl (OQ.out.alloc _) ⟨wr.heap.size, 0, none⟩ 1 (bk : Int) rfl (jone64 wr (bk : Int) _) (by have := NQ.out; omega) (Nat.zero_le _) ?_)
      intro v3 w5 hown hg hwh
      obtain ⟨A3, c3, rfl⟩ := jown_form hown
      have hP := Jr.pushB (I := I) bk C4.out R4.out hown hg (by simpa using hwh)
      have C5 := Lib.hid hP.1
      have R5 := Lib.hid hP.2.1
      have B5 := Lib.hid ((Btw.of_below (I := I) B1.out).trans hP.2.2 fun _ _ h => h)
      clear hown hg hwh hP y10
      have y10 := C5.out.cell_at 10 (.slice m4.aB j.blocks.length m4.cB) rfl
      have f10 := C5.out.frozen 10
      have S6 := Lib.hid (show CRow (w5.setCell ⟨p, 10, none⟩ (.slice A3 (j.blocks.length + 1) c3)) p 52 (jCells g { j with blocks := j.blocks ++ [bk] } { m4 with aB := A3, cB := c3 }) by
       have h0 := C5.out.setCell 10 (.slice A3 (j.blocks.length + 1) c3)
       have e : (jCells g j m4).setIfInBounds 10 (.slice A3 (j.blocks.length + 1) c3) = jCells g { j with blocks := j.blocks ++ [bk] } { m4 with aB := A3, cB := c3 } := by simp [jCells]
       rw [e] at h0
       exact h0)
      have HJ := JH.of (j' := { j with blocks := j.blocks ++ [bk] }) (m' := { m4 with aB := A3, cB := c3 }) C5.out R5.out S6.out ((Btw.refl w5).setCell (I := fun k => k = p) (p := ⟨p, 10, none⟩) (v := .slice A3 (j.blocks.length + 1) c3) rfl) fun W h => h
      have H6 := Lib.hid HJ.1
      have B6 := Lib.hid (B5.out.trans HJ.2 fun _ _ h => h)
      clear HJ
      go_wp2_with fail
      have B7 := B6
      refine (jstart H6.out).mono ?_
      rintro _ w8 ⟨rfl, h8, b8⟩
      have H8 := Lib.hid h8
      have B8 := Lib.hid (B7.out.trans b8 fun _ _ h => h)
      clear h8 b8
      go_wp2
      go_ret
      rw [HE.out F1.out]
      exact ⟨rfl, H8.out, B8.out⟩
 ·
  rw [if_pos (.inl h1)] at HE0
  have HE := Lib.hid HE0
  clear HE0
  have b208 : ((b : Int) == 208) = false := by simp; omega
  have j208 : ((b : Int) = 208) = False := eq_false (by omega)
  have d208 : decide ((b : Int) = 208) = false := decide_eq_false (by omega)
  have b209 : ((b : Int) == 209) = false := by simp; omega
  have j209 : ((b : Int) = 209) = False := eq_false (by omega)
  have d209 : decide ((b : Int) = 209) = false := decide_eq_false (by omega)
  clear h1
  go_enter Try.func53, Try.ntmps53
  go_wp2
  go_ret
  rw [HE.out]
  exact ⟨rfl, HH.out, Btw.refl w⟩
end
end Go.Proofs.Ytaidgjidpghgnaa

/-
  The judge's endLoad.
-/
namespace Go.Proofs.Ytaidgjidpghgnaa
open Go.RowKit
set_option maxRecDepth 100000

section
variable {I K : Nat → Prop} {w w' : World} {p : Nat} {g : Gm} {j : Jd} {m : Jm}
theorem jCanN (x : Nat) (h : JH I w p g j) : Calls Try.prog 15 #[.pointer (some ⟨p, 0, none⟩), .int .i64 (x : Int)] w (Gives (.bool (j.can g x)) w) := by
 by_cases hx : x < g.rows_
 ·
  exact jCan x hx h
 ·
  have e : j.can g x = false := by unfold Jd.can; rw [decide_eq_false hx]; rfl
  rw [e]
  refine jCan_no (x : Int) (fun hr => ?_) h
  have := hr.2.2
  rw [Gm.rows_int h.ok] at this
  omega
/-- A command that ends a Load. -/
def Jd.endLoad (g : Gm) (j : Jd) (b : Nat) : Bool × Jd :=
 if j.listed.length < 4 ∨ j.count = 0 then (false, j)
 else if j.can g (j.addr2 2) = false ∨ j.joins g (spB g (j.addr2 2)) (spP g (j.addr2 2)) = false then (false, j)
 else if b = 16 then (true, (({ j with rows := [] } : Jd).prog g (spB g (j.addr2 2)) (spP g (j.addr2 2))).start)
 else if b = 21 then (if 0 < j.rows.length then (false, j) else (true, (({ j with bg := true, bgb := spB g (j.addr2 2) } : Jd).prog g (spB g (j.addr2 2)) (spP g (j.addr2 2))).start))
 else if b = 17 then (if j.bg = true then (false, j) else (true, (({ j with rows := j.rows ++ [j.addr2 2] } : Jd).prog g (spB g (j.addr2 2)) (spP g (j.addr2 2))).start))
 else (false, j)
set_option maxHeartbeats 2000000 in
theorem jendLoad (b : Nat) (hb : b < 256) (hl : j.listed.length ≤ 4) (hct : j.count ≤ 1000000) (hpr : ∀ r, j.pr r ≤ 1000000) (hnq : j.rows.length ≤ 100000) (h : JH I w p g j) : Calls Try.prog 52 #[.pointer (some ⟨p, 0, none⟩), .int .u8 (b : Int)] w (ActsJ I p g (.bool (j.endLoad g b).1) (j.endLoad g b).2 w) := by
 have HH := Lib.hid h
 have HPR := Lib.hid hpr
 have NQ := Lib.hid hnq
 have HOK := Lib.hid h.ok
 obtain ⟨m, hc, hr⟩ := h
 have C0 := Lib.hid hc
 have R0 := Lib.hid hr
 obtain ⟨n, hn⟩ : ∃ n, n = j.listed.length := ⟨_, rfl⟩
 obtain ⟨ct, hct0⟩ : ∃ ct, ct = j.count := ⟨_, rfl⟩
 have x1 : w.cell? ⟨p, 1, none⟩ = some (.slice m.aL n m.cL) := by rw [hn]; exact hc.cell_at 1 _ rfl
 have x2 : w.cell? ⟨p, 2, none⟩ = some (.int .i64 (ct : Int)) := by rw [hct0]; exact hc.cell_at 2 _ rfl
 have HE0 : j.endLoad g b = (if n < 4 ∨ ct = 0 then (false, j)
  else if j.can g (j.addr2 2) = false ∨ j.joins g (spB g (j.addr2 2)) (spP g (j.addr2 2)) = false then (false, j)
  else if b = 16 then (true, (({ j with rows := [] } : Jd).prog g (spB g (j.addr2 2)) (spP g (j.addr2 2))).start)
  else if b = 21 then (if 0 < j.rows.length then (false, j) else (true, (({ j with bg := true, bgb := spB g (j.addr2 2) } : Jd).prog g (spB g (j.addr2 2)) (spP g (j.addr2 2))).start))
  else if b = 17 then (if j.bg = true then (false, j) else (true, (({ j with rows := j.rows ++ [j.addr2 2] } : Jd).prog g (spB g (j.addr2 2)) (spP g (j.addr2 2))).start))
  else (false, j)) := by rw [hn, hct0]; rfl
 have HNL := Lib.hid hn
 rw [← hn] at hl
 rw [← hct0] at hct
 clear hc hr hn hct0 hpr hnq
 by_cases h4 : n < 4
 ·
  rw [if_pos (.inl h4)] at HE0
  have HE := Lib.hid HE0
  have d1 : decide ((n : Int) < 4) = true := decide_eq_true (by omega)
  have d2 : decide (n < 4) = true := decide_eq_true h4
  clear HE0 h4
  go_enter Try.func52, Try.ntmps52
  go_wp2
  go_ret
  rw [HE.out]
  exact ⟨rfl, HH.out, Btw.refl w⟩
 ·
  have d1 : decide ((n : Int) < 4) = false := decide_eq_false (by omega)
  have d2 : decide (n < 4) = false := decide_eq_false h4
  by_cases h0 : ct = 0
  ·
   rw [if_pos (.inr h0)] at HE0
   have HE := Lib.hid HE0
   subst h0
   clear HE0 h4
   go_enter Try.func52, Try.ntmps52
   go_wp2
   go_ret
   rw [HE.out]
   exact ⟨rfl, HH.out, Btw.refl w⟩
  ·
   rw [if_neg (by omega)] at HE0
   have b0 : ((ct : Int) == 0) = false := by simp; omega
   have j0 : ((ct : Int) = 0) = False := eq_false (by omega)
   have d0 : decide ((ct : Int) = 0) = false := decide_eq_false (by omega)
   have d00 : decide (ct = 0) = false := decide_eq_false h0
   have HLR := Lib.hid (jlistedRow 2 (by rw [← HNL.out]; omega) (by omega) HH.out)
   have hbd := Gm.bounds_of HOK.out
   generalize j.addr2 2 = a at *
   have HSP := Lib.hid (fun W => jSplit g HOK.out a W)
   have HBK := Lib.hid (spB_lt HOK.out a)
   have HPG := Lib.hid (spP_lt HOK.out a)
   simp only [Gm.val] at HSP
   have HCA := Lib.hid (fun W (hh : JH I W p g j) => jCanN a hh)
   have HJO := Lib.hid (fun W (hh : JH I W p g j) => jjoins (spB g a) (spP g a) HBK.out (by have := NQ.out; omega) hh)
   generalize spB g a = bk at *
   generalize spP g a = pg at *
   generalize decide (a < g.rows_) = bb at *
   clear h4 h0 hbd
   cases hca : j.can g a with
   | false =>
    rw [hca] at HCA
    rw [if_pos (.inl hca)] at HE0
    have HE := Lib.hid HE0
    clear HE0 hca
    go_enter Try.func52, Try.ntmps52
    go_wp2_with fail
    clear x1 x2
    refine (HLR.out).mono ?_
    rintro _ w1 ⟨rfl, hb1⟩
    have B1 := Lib.hid hb1
    have C1 := Lib.hid (C0.out.below hb1)
    clear hb1 HLR
    have g12 := C1.out.cell_at 12 (.int .i64 g.p) rfl
    have g13 := C1.out.cell_at 13 (.int .i64 g.b) rfl
    have g14 := C1.out.cell_at 14 (.int .i64 g.s) rfl
    have g15 := C1.out.cell_at 15 (.int .i64 g.c) rfl
    have g16 := C1.out.cell_at 16 (.int .i64 g.k) rfl
    have g17 := C1.out.cell_at 17 (.int .i64 g.r) rfl
    have g18 := C1.out.cell_at 18 (.int .i64 g.q) rfl
    go_wp2_with fail
    clear g12 g13 g14 g15 g16 g17 g18
    refine (HSP.out _).mono ?_
    rintro _ w2 ⟨rfl, hb2⟩
    have B2 := Lib.hid (below_step B1.out hb2)
    clear hb2 HSP C1
    go_wp2_with fail
    refine (HCA.out _ (HH.out.below B2.out)).mono ?_
    rintro _ w3 ⟨rfl, hb3⟩
    have B3 := Lib.hid (below_step B2.out hb3)
    clear hb3 HCA
    go_wp2
    go_ret
    rw [HE.out]
    exact ⟨rfl, HH.out.below B3.out, Btw.of_below B3.out⟩
   | true =>
    rw [hca] at HCA
    cases hjo : j.joins g bk pg with
    | false =>
     rw [hjo] at HJO
     rw [if_pos (.inr hjo)] at HE0
     have HE := Lib.hid HE0
     clear HE0 hca hjo
     go_enter Try.func52, Try.ntmps52
     go_wp2_with fail
     clear x1 x2
     refine (HLR.out).mono ?_
     rintro _ w1 ⟨rfl, hb1⟩
     have B1 := Lib.hid hb1
     have C1 := Lib.hid (C0.out.below hb1)
     clear hb1 HLR
     have g12 := C1.out.cell_at 12 (.int .i64 g.p) rfl
     have g13 := C1.out.cell_at 13 (.int .i64 g.b) rfl
     have g14 := C1.out.cell_at 14 (.int .i64 g.s) rfl
     have g15 := C1.out.cell_at 15 (.int .i64 g.c) rfl
     have g16 := C1.out.cell_at 16 (.int .i64 g.k) rfl
     have g17 := C1.out.cell_at 17 (.int .i64 g.r) rfl
     have g18 := C1.out.cell_at 18 (.int .i64 g.q) rfl
     go_wp2_with fail
     clear g12 g13 g14 g15 g16 g17 g18
     refine (HSP.out _).mono ?_
     rintro _ w2 ⟨rfl, hb2⟩
     have B2 := Lib.hid (below_step B1.out hb2)
     clear hb2 HSP C1
     go_wp2_with fail
     refine (HCA.out _ (HH.out.below B2.out)).mono ?_
     rintro _ w3 ⟨rfl, hb3⟩
     have B3 := Lib.hid (below_step B2.out hb3)
     clear hb3 HCA
     go_wp2_with fail
     refine (HJO.out _ (HH.out.below B3.out)).mono ?_
     rintro _ w4 ⟨rfl, hb4⟩
     have B4 := Lib.hid (below_step B3.out hb4)
     clear hb4 HJO
     go_wp2
     go_ret
     rw [HE.out]
     exact ⟨rfl, HH.out.below B4.out, Btw.of_below B4.out⟩
    | true =>
     rw [hjo] at HJO
     rw [if_neg (by rw [hca, hjo]; decide)] at HE0
     clear hca hjo
     by_cases h16 : b = 16
     ·
      skip
      subst h16
      rw [if_pos rfl] at HE0
      have HE := Lib.hid HE0
      clear HE0
      go_enter Try.func52, Try.ntmps52
      go_wp2_with fail
      clear x1 x2
      refine (HLR.out).mono ?_
      rintro _ w1 ⟨rfl, hb1⟩
      have B1 := Lib.hid hb1
      have C1 := Lib.hid (C0.out.below hb1)
      clear hb1 HLR
      have g12 := C1.out.cell_at 12 (.int .i64 g.p) rfl
      have g13 := C1.out.cell_at 13 (.int .i64 g.b) rfl
      have g14 := C1.out.cell_at 14 (.int .i64 g.s) rfl
      have g15 := C1.out.cell_at 15 (.int .i64 g.c) rfl
      have g16 := C1.out.cell_at 16 (.int .i64 g.k) rfl
      have g17 := C1.out.cell_at 17 (.int .i64 g.r) rfl
      have g18 := C1.out.cell_at 18 (.int .i64 g.q) rfl
      go_wp2_with fail
      clear g12 g13 g14 g15 g16 g17 g18
      refine (HSP.out _).mono ?_
      rintro _ w2 ⟨rfl, hb2⟩
      have B2 := Lib.hid (below_step B1.out hb2)
      clear hb2 HSP C1
      go_wp2_with fail
      refine (HCA.out _ (HH.out.below B2.out)).mono ?_
      rintro _ w3 ⟨rfl, hb3⟩
      have B3 := Lib.hid (below_step B2.out hb3)
      clear hb3 HCA
      go_wp2_with fail
      refine (HJO.out _ (HH.out.below B3.out)).mono ?_
      rintro _ w4 ⟨rfl, hb4⟩
      have B4 := Lib.hid (below_step B3.out hb4)
      clear hb4 HJO
      obtain ⟨m4, hc, hr⟩ := HH.out.below B4.out
      have C4 := Lib.hid hc
      have R4 := Lib.hid hr
      clear hc hr
      have x9 := C4.out.cell_at 9 (.slice m4.aR j.rows.length m4.cR) rfl
      have f9 := C4.out.frozen 9
      have S1 := Lib.hid (C4.out.setCell 9 (.slice none 0 0))
      have K1 := Lib.hid (((Btw.refl w4)).setCell (I := fun k => k = p) (p := ⟨p, 9, none⟩) (v := .slice none 0 0) rfl)
      have HJ := JH.of (j' := { j with rows := [] }) (m' := { m4 with aR := none, cR := 0 }) C4.out R4.out S1.out K1.out fun W h => { h with row := ⟨rfl, .inl ⟨rfl, rfl⟩⟩, ab := fun k hk => (by cases hk), ae := fun k hk => (by cases hk), iR := fun k hk => (by cases hk) }
      have H5 := Lib.hid HJ.1
      have B5 := Lib.hid ((Btw.of_below (I := I) B4.out).trans HJ.2 fun _ _ h => h)
      clear HJ
      go_wp2_with fail
      refine (jprogram bk pg HBK.out HPG.out (by exact HPR.out _) H5.out).mono ?_
      rintro _ w6 ⟨rfl, h6, b6⟩
      have H6 := Lib.hid h6
      have B6 := Lib.hid (B5.out.trans b6 fun _ _ h => h)
      clear h6 b6
      go_wp2_with fail
      refine (jstart H6.out).mono ?_
      rintro _ w7 ⟨rfl, h7, b7⟩
      have H7 := Lib.hid h7
      have B7 := Lib.hid (B6.out.trans b7 fun _ _ h => h)
      clear h7 b7
      go_wp2
      go_ret
      rw [HE.out]
      exact ⟨rfl, H7.out, B7.out⟩
     ·
      by_cases h21 : b = 21
      ·
       skip
       subst h21
       rw [if_neg (by omega), if_pos rfl] at HE0
       obtain ⟨nr, hnr⟩ : ∃ nr, nr = j.rows.length := ⟨_, rfl⟩
       have hq := NQ.out
       rw [← hnr] at HE0 hq
       have HNR := Lib.hid hnr
       clear hnr
       by_cases h0 : 0 < nr
       ·
        rw [if_pos h0] at HE0
        have HE := Lib.hid HE0
        have e1 : decide ((0 : Int) < (nr : Int)) = true := decide_eq_true (by omega)
        have e2 : decide (0 < nr) = true := decide_eq_true h0
        clear HE0 h0
        go_enter Try.func52, Try.ntmps52
        go_wp2_with fail
        clear x1 x2
        refine (HLR.out).mono ?_
        rintro _ w1 ⟨rfl, hb1⟩
        have B1 := Lib.hid hb1
        have C1 := Lib.hid (C0.out.below hb1)
        clear hb1 HLR
        have g12 := C1.out.cell_at 12 (.int .i64 g.p) rfl
        have g13 := C1.out.cell_at 13 (.int .i64 g.b) rfl
        have g14 := C1.out.cell_at 14 (.int .i64 g.s) rfl
        have g15 := C1.out.cell_at 15 (.int .i64 g.c) rfl
        have g16 := C1.out.cell_at 16 (.int .i64 g.k) rfl
        have g17 := C1.out.cell_at 17 (.int .i64 g.r) rfl
        have g18 := C1.out.cell_at 18 (.int .i64 g.q) rfl
        go_wp2_with fail
        clear g12 g13 g14 g15 g16 g17 g18
        refine (HSP.out _).mono ?_
        rintro _ w2 ⟨rfl, hb2⟩
        have B2 := Lib.hid (below_step B1.out hb2)
        clear hb2 HSP C1
        go_wp2_with fail
        refine (HCA.out _ (HH.out.below B2.out)).mono ?_
        rintro _ w3 ⟨rfl, hb3⟩
        have B3 := Lib.hid (below_step B2.out hb3)
        clear hb3 HCA
        go_wp2_with fail
        refine (HJO.out _ (HH.out.below B3.out)).mono ?_
        rintro _ w4 ⟨rfl, hb4⟩
        have B4 := Lib.hid (below_step B3.out hb4)
        clear hb4 HJO
        obtain ⟨m4, hc, hr⟩ := HH.out.below B4.out
        have C4 := Lib.hid hc
        have R4 := Lib.hid hr
        clear hc hr
        have x9 : w4.cell? ⟨p, 9, none⟩ = some (.slice m4.aR nr m4.cR) := by rw [HNR.out]; exact C4.out.cell_at 9 _ rfl
        go_wp2
        go_ret
        rw [HE.out]
        exact ⟨rfl, HH.out.below B4.out, Btw.of_below B4.out⟩
       ·
        rw [if_neg h0] at HE0
        have HE := Lib.hid HE0
        have e1 : decide ((0 : Int) < (nr : Int)) = false := decide_eq_false (by omega)
        have e2 : decide (0 < nr) = false := decide_eq_false h0
        clear HE0 h0
        go_enter Try.func52, Try.ntmps52
        go_wp2_with fail
        clear x1 x2
        refine (HLR.out).mono ?_
        rintro _ w1 ⟨rfl, hb1⟩
        have B1 := Lib.hid hb1
        have C1 := Lib.hid (C0.out.below hb1)
        clear hb1 HLR
        have g12 := C1.out.cell_at 12 (.int .i64 g.p) rfl
        have g13 := C1.out.cell_at 13 (.int .i64 g.b) rfl
        have g14 := C1.out.cell_at 14 (.int .i64 g.s) rfl
        have g15 := C1.out.cell_at 15 (.int .i64 g.c) rfl
        have g16 := C1.out.cell_at 16 (.int .i64 g.k) rfl
        have g17 := C1.out.cell_at 17 (.int .i64 g.r) rfl
        have g18 := C1.out.cell_at 18 (.int .i64 g.q) rfl
        go_wp2_with fail
        clear g12 g13 g14 g15 g16 g17 g18
        refine (HSP.out _).mono ?_
        rintro _ w2 ⟨rfl, hb2⟩
        have B2 := Lib.hid (below_step B1.out hb2)
        clear hb2 HSP C1
        go_wp2_with fail
        refine (HCA.out _ (HH.out.below B2.out)).mono ?_
        rintro _ w3 ⟨rfl, hb3⟩
        have B3 := Lib.hid (below_step B2.out hb3)
        clear hb3 HCA
        go_wp2_with fail
        refine (HJO.out _ (HH.out.below B3.out)).mono ?_
        rintro _ w4 ⟨rfl, hb4⟩
        have B4 := Lib.hid (below_step B3.out hb4)
        clear hb4 HJO
        obtain ⟨m4, hc, hr⟩ := HH.out.below B4.out
        have C4 := Lib.hid hc
        have R4 := Lib.hid hr
        clear hc hr
        have x9 : w4.cell? ⟨p, 9, none⟩ = some (.slice m4.aR nr m4.cR) := by rw [HNR.out]; exact C4.out.cell_at 9 _ rfl
        have x5 := C4.out.cell_at 5 (.bool j.bg) rfl
        have f5 := C4.out.frozen 5
        have S1 := Lib.hid (C4.out.setCell 5 (.bool true))
        have K1 := Lib.hid (((Btw.refl w4)).setCell (I := fun k => k = p) (p := ⟨p, 5, none⟩) (v := .bool true) rfl)
        have x6 := S1.out.cell_at 6 (.int .i64 (j.bgb : Int)) rfl
        have f6 := S1.out.frozen 6
        have S2 := Lib.hid (S1.out.setCell 6 (.int .i64 (bk : Int)))
        have K2 := Lib.hid ((K1.out).setCell (I := fun k => k = p) (p := ⟨p, 6, none⟩) (v := .int .i64 (bk : Int)) rfl)
        have HJ := JH.of (j' := { j with bg := true, bgb := bk }) (m' := m4) C4.out R4.out S2.out K2.out fun W h => { h with }
        have H5 := Lib.hid HJ.1
        have B5 := Lib.hid ((Btw.of_below (I := I) B4.out).trans HJ.2 fun _ _ h => h)
        clear HJ
        go_wp2_with fail
        refine (jprogram bk pg HBK.out HPG.out (by exact HPR.out _) H5.out).mono ?_
        rintro _ w6 ⟨rfl, h6, b6⟩
        have H6 := Lib.hid h6
        have B6 := Lib.hid (B5.out.trans b6 fun _ _ h => h)
        clear h6 b6
        go_wp2_with fail
        refine (jstart H6.out).mono ?_
        rintro _ w7 ⟨rfl, h7, b7⟩
        have H7 := Lib.hid h7
        have B7 := Lib.hid (B6.out.trans b7 fun _ _ h => h)
        clear h7 b7
        go_wp2
        go_ret
        rw [HE.out]
        exact ⟨rfl, H7.out, B7.out⟩
      ·
       by_cases h17 : b = 17
       ·
        skip
        subst h17
        rw [if_neg (by omega), if_neg (by omega), if_pos rfl] at HE0
        cases hbg : j.bg with
        | true =>
         rw [if_pos hbg] at HE0
         have HE := Lib.hid HE0
         have HBG := Lib.hid hbg
         clear HE0 hbg
         go_enter Try.func52, Try.ntmps52
         go_wp2_with fail
         clear x1 x2
         refine (HLR.out).mono ?_
         rintro _ w1 ⟨rfl, hb1⟩
         have B1 := Lib.hid hb1
         have C1 := Lib.hid (C0.out.below hb1)
         clear hb1 HLR
         have g12 := C1.out.cell_at 12 (.int .i64 g.p) rfl
         have g13 := C1.out.cell_at 13 (.int .i64 g.b) rfl
         have g14 := C1.out.cell_at 14 (.int .i64 g.s) rfl
         have g15 := C1.out.cell_at 15 (.int .i64 g.c) rfl
         have g16 := C1.out.cell_at 16 (.int .i64 g.k) rfl
         have g17 := C1.out.cell_at 17 (.int .i64 g.r) rfl
         have g18 := C1.out.cell_at 18 (.int .i64 g.q) rfl
         go_wp2_with fail
         clear g12 g13 g14 g15 g16 g17 g18
         refine (HSP.out _).mono ?_
         rintro _ w2 ⟨rfl, hb2⟩
         have B2 := Lib.hid (below_step B1.out hb2)
         clear hb2 HSP C1
         go_wp2_with fail
         refine (HCA.out _ (HH.out.below B2.out)).mono ?_
         rintro _ w3 ⟨rfl, hb3⟩
         have B3 := Lib.hid (below_step B2.out hb3)
         clear hb3 HCA
         go_wp2_with fail
         refine (HJO.out _ (HH.out.below B3.out)).mono ?_
         rintro _ w4 ⟨rfl, hb4⟩
         have B4 := Lib.hid (below_step B3.out hb4)
         clear hb4 HJO
         obtain ⟨m4, hc, hr⟩ := HH.out.below B4.out
         have C4 := Lib.hid hc
         have R4 := Lib.hid hr
         clear hc hr
         have x5 : w4.cell? ⟨p, 5, none⟩ = some (.bool true) := by rw [← HBG.out]; exact C4.out.cell_at 5 _ rfl
         go_wp2
         go_ret
         rw [HE.out]
         exact ⟨rfl, HH.out.below B4.out, Btw.of_below B4.out⟩
        | false =>
         rw [if_neg (by rw [hbg]; decide)] at HE0
         have HE := Lib.hid HE0
         have HBG := Lib.hid hbg
         clear HE0 hbg
         go_enter Try.func52, Try.ntmps52
         go_wp2_with fail
         clear x1 x2
         refine (HLR.out).mono ?_
         rintro _ w1 ⟨rfl, hb1⟩
         have B1 := Lib.hid hb1
         have C1 := Lib.hid (C0.out.below hb1)
         clear hb1 HLR
         have g12 := C1.out.cell_at 12 (.int .i64 g.p) rfl
         have g13 := C1.out.cell_at 13 (.int .i64 g.b) rfl
         have g14 := C1.out.cell_at 14 (.int .i64 g.s) rfl
         have g15 := C1.out.cell_at 15 (.int .i64 g.c) rfl
         have g16 := C1.out.cell_at 16 (.int .i64 g.k) rfl
         have g17 := C1.out.cell_at 17 (.int .i64 g.r) rfl
         have g18 := C1.out.cell_at 18 (.int .i64 g.q) rfl
         go_wp2_with fail
         clear g12 g13 g14 g15 g16 g17 g18
         refine (HSP.out _).mono ?_
         rintro _ w2 ⟨rfl, hb2⟩
         have B2 := Lib.hid (below_step B1.out hb2)
         clear hb2 HSP C1
         go_wp2_with fail
         refine (HCA.out _ (HH.out.below B2.out)).mono ?_
         rintro _ w3 ⟨rfl, hb3⟩
         have B3 := Lib.hid (below_step B2.out hb3)
         clear hb3 HCA
         go_wp2_with fail
         refine (HJO.out _ (HH.out.below B3.out)).mono ?_
         rintro _ w4 ⟨rfl, hb4⟩
         have B4 := Lib.hid (below_step B3.out hb4)
         clear hb4 HJO
         obtain ⟨m4, hc, hr⟩ := HH.out.below B4.out
         have C4 := Lib.hid hc
         have R4 := Lib.hid hr
         clear hc hr
         have x5 : w4.cell? ⟨p, 5, none⟩ = some (.bool false) := by rw [← HBG.out]; exact C4.out.cell_at 5 _ rfl
         have OQ := Lib.hid R4.out.row
         have y9 : w4.cell? ⟨p, 9, none⟩ = some (.slice m4.aR j.rows.length m4.cR) := C4.out.cell_at 9 _ rfl
         go_wp2_with (at_builtin; refine japp64 (w4.alloc (.cells #[.int .i64 (a : Int)] 3)) rfl (.tmp 84) (.tmp 86) rfl 0 _ (JI j.rows) j.rows.length (JI_length _) rfl (OQ.out.alloc _) ⟨w4.heap.size, 0, none⟩ 1 (a : Int) rfl (jone64 w4 (a : Int) _) (by have := NQ.out; omega) (Nat.zero_le _) ?_)
         intro v3 w5 hown hg hwh
         obtain ⟨A3, c3, rfl⟩ := jown_form hown
         have hP := Jr.pushR (I := I) a C4.out R4.out hown hg (by simpa using hwh)
         have C5 := Lib.hid hP.1
         have R5 := Lib.hid hP.2.1
         have K5 := Lib.hid ((Btw.of_below (I := I) B4.out).trans hP.2.2 fun _ _ h => h)
         clear hown hg hwh hP y9 x5
         have y9 := C5.out.cell_at 9 (.slice m4.aR j.rows.length m4.cR) rfl
         have f9 := C5.out.frozen 9
         have S6 := Lib.hid (show CRow (w5.setCell ⟨p, 9, none⟩ (.slice A3 (j.rows.length + 1) c3)) p 52 (jCells g { j with rows := j.rows ++ [a] } { m4 with aR := A3, cR := c3 }) by
          have h0 := C5.out.setCell 9 (.slice A3 (j.rows.length + 1) c3)
          have e : (jCells g j m4).setIfInBounds 9 (.slice A3 (j.rows.length + 1) c3) = jCells g { j with rows := j.rows ++ [a] } { m4 with aR := A3, cR := c3 } := by simp [jCells]
          rw [e] at h0
          exact h0)
         have HJ := JH.of (j' := { j with rows := j.rows ++ [a] }) (m' := { m4 with aR := A3, cR := c3 }) C5.out R5.out S6.out ((Btw.refl w5).setCell (I := fun k => k = p) (p := ⟨p, 9, none⟩) (v := .slice A3 (j.rows.length + 1) c3) rfl) fun W h => h
         have H5 := Lib.hid HJ.1
         have B5 := Lib.hid (K5.out.trans HJ.2 fun _ _ h => h)
         clear HJ
         go_wp2_with fail
         refine (jprogram bk pg HBK.out HPG.out (by exact HPR.out _) H5.out).mono ?_
         rintro _ w6 ⟨rfl, h6, b6⟩
         have H6 := Lib.hid h6
         have B6 := Lib.hid (B5.out.trans b6 fun _ _ h => h)
         clear h6 b6
         go_wp2_with fail
         refine (jstart H6.out).mono ?_
         rintro _ w7 ⟨rfl, h7, b7⟩
         have H7 := Lib.hid h7
         have B7 := Lib.hid (B6.out.trans b7 fun _ _ h => h)
         clear h7 b7
         go_wp2
         go_ret
         rw [HE.out]
         exact ⟨rfl, H7.out, B7.out⟩
       ·
        rw [if_neg h16, if_neg h21, if_neg h17] at HE0
        have HE := Lib.hid HE0
        have b16 : ((b : Int) == 16) = false := by simp; omega
        have j16 : ((b : Int) = 16) = False := eq_false (by omega)
        have d16 : decide ((b : Int) = 16) = false := decide_eq_false (by omega)
        have b21 : ((b : Int) == 21) = false := by simp; omega
        have j21 : ((b : Int) = 21) = False := eq_false (by omega)
        have d21 : decide ((b : Int) = 21) = false := decide_eq_false (by omega)
        have b17 : ((b : Int) == 17) = false := by simp; omega
        have j17 : ((b : Int) = 17) = False := eq_false (by omega)
        have d17 : decide ((b : Int) = 17) = false := decide_eq_false (by omega)
        clear HE0 h16 h21 h17
        go_enter Try.func52, Try.ntmps52
        go_wp2_with fail
        clear x1 x2
        refine (HLR.out).mono ?_
        rintro _ w1 ⟨rfl, hb1⟩
        have B1 := Lib.hid hb1
        have C1 := Lib.hid (C0.out.below hb1)
        clear hb1 HLR
        have g12 := C1.out.cell_at 12 (.int .i64 g.p) rfl
        have g13 := C1.out.cell_at 13 (.int .i64 g.b) rfl
        have g14 := C1.out.cell_at 14 (.int .i64 g.s) rfl
        have g15 := C1.out.cell_at 15 (.int .i64 g.c) rfl
        have g16 := C1.out.cell_at 16 (.int .i64 g.k) rfl
        have g17 := C1.out.cell_at 17 (.int .i64 g.r) rfl
        have g18 := C1.out.cell_at 18 (.int .i64 g.q) rfl
        go_wp2_with fail
        clear g12 g13 g14 g15 g16 g17 g18
        refine (HSP.out _).mono ?_
        rintro _ w2 ⟨rfl, hb2⟩
        have B2 := Lib.hid (below_step B1.out hb2)
        clear hb2 HSP C1
        go_wp2_with fail
        refine (HCA.out _ (HH.out.below B2.out)).mono ?_
        rintro _ w3 ⟨rfl, hb3⟩
        have B3 := Lib.hid (below_step B2.out hb3)
        clear hb3 HCA
        go_wp2_with fail
        refine (HJO.out _ (HH.out.below B3.out)).mono ?_
        rintro _ w4 ⟨rfl, hb4⟩
        have B4 := Lib.hid (below_step B3.out hb4)
        clear hb4 HJO
        go_wp2
        go_ret
        rw [HE.out]
        exact ⟨rfl, HH.out.below B4.out, Btw.of_below B4.out⟩
end
end Go.Proofs.Ytaidgjidpghgnaa

/-
  Words for memory: the document's judge.
-/
namespace Go.Proofs.Ytaidgjidpghgnaa
open Go.RowKit
set_option maxRecDepth 100000

/-- Where the parts of the document's judge lie. -/
structure RjM where
 e : Nat
 ce : Nat
 l : Nat
 cl : Nat
 q : Nat
 cq : Nat
 aL : Option Addr
 cL : Nat
 aR : Option Addr
 cR : Nat
 aB : Option Addr
 cB : Nat
 aE : Option Addr
 cE : Nat
def rjCells (g : Gm) (j : Jd) (m : RjM) : Array Value :=
 #[.int .i64 g.p, .int .i64 g.b, .int .i64 g.s, .int .i64 g.c, .int .i64 g.k, .int .i64 g.r, .int .i64 g.q, .slice (some ⟨m.e, 0, none⟩) g.b.toNat m.ce, .slice (some ⟨m.l, 0, none⟩) g.b.toNat m.cl, .slice (some ⟨m.q, 0, none⟩) g.rows_ m.cq, .int .i64 (j.op : Int), .slice m.aL j.listed.length m.cL, .int .i64 (j.count : Int), .bool j.pol, .bool j.busy, .bool j.bg, .int .i64 (j.bgb : Int), .bool j.data, .int .i64 (j.col : Int), .slice m.aR j.rows.length m.cR, .slice m.aB j.blocks.length m.cB, .slice m.aE j.erases.length m.cE, .bool j.rej]
def erF (g : Gm) (j : Jd) (i : Nat) : Option Value := if i < g.b.toNat then some (.bool (j.er i)) else none
def laF (g : Gm) (j : Jd) (i : Nat) : Option Value := if i < g.b.toNat then some (.int .i64 (j.la i)) else none
def prF (g : Gm) (j : Jd) (i : Nat) : Option Value := if i < g.rows_ then some (.int .i64 (j.pr i : Int)) else none
theorem own_at1 {w : World} {base : Nat} {e : TypeId} {v : Value} {n : Nat} {xs : List Value} (h : w.ownsRow base e 1 v n xs) : ∀ k, v.ownBlock = some k → base ≤ k ∧ ∃ cur : Array Value, w.heap[k]? = some (.cells cur e (0, 0)) := by
 intro k hk
 rcases h.2 with ⟨rfl, _⟩ | ⟨g, cap, cur, rfl, hbase, hg, _⟩
 ·
  cases hk
 ·
  simp only [Value.ownBlock, Option.some.injEq] at hk
  subst hk
  exact ⟨hbase, cur, hg⟩
/-- Everything of a judge but its own cells; each block has a role. -/
structure RjR (ρ : Nat → Nat) (w : World) (p : Nat) (g : Gm) (j : Jd) (m : RjM) : Prop where
 ok : g.ok = true
 lt : ∀ k, ρ k ≠ 0 → k < w.heap.size
 rp : ρ p = 1
 ce : Cells w m.e 4 (erF g j)
 re : ρ m.e = 2
 cl : Cells w m.l 3 (laF g j)
 rl : ρ m.l = 3
 cq : Cells w m.q 3 (prF g j)
 rq : ρ m.q = 4
 lis : w.ownsRow 0 3 1 (.slice m.aL j.listed.length m.cL) j.listed.length (I64 (JI j.listed))
 rL : ∀ k, (Value.slice m.aL j.listed.length m.cL).ownBlock = some k → ρ k = 5
 row : w.ownsRow 0 3 1 (.slice m.aR j.rows.length m.cR) j.rows.length (I64 (JI j.rows))
 rR : ∀ k, (Value.slice m.aR j.rows.length m.cR).ownBlock = some k → ρ k = 6
 blk : w.ownsRow 0 3 1 (.slice m.aB j.blocks.length m.cB) j.blocks.length (I64 (JI j.blocks))
 rB : ∀ k, (Value.slice m.aB j.blocks.length m.cB).ownBlock = some k → ρ k = 7
 ers : w.ownsRow 0 3 1 (.slice m.aE j.erases.length m.cE) j.erases.length (I64 (JI j.erases))
 rE : ∀ k, (Value.slice m.aE j.erases.length m.cE).ownBlock = some k → ρ k = 8
section
variable {ρ : Nat → Nat} {I K : Nat → Prop} {w w' : World} {p : Nat} {g : Gm} {j j' : Jd} {m m' : RjM}
theorem RjR.btw (h : RjR ρ w p g j m) (hb : Btw K w w') (hK : ∀ k, K k → ρ k = 0 ∨ ρ k = 1) : RjR ρ w' p g j m := by
 have no : ∀ {k n : Nat}, ρ k = n → n ≠ 0 → n ≠ 1 → ¬ K k := fun h1 h2 h3 h4 => by have := hK _ h4; omega
 exact { h with
  lt := fun k hk => Nat.lt_of_lt_of_le (h.lt k hk) hb.size
  ce := h.ce.btw hb (no h.re (by decide) (by decide))
  cl := h.cl.btw hb (no h.rl (by decide) (by decide))
  cq := h.cq.btw hb (no h.rq (by decide) (by decide))
  lis := own_btw1 h.lis hb fun k hk => no (h.rL k hk) (by decide) (by decide)
  row := own_btw1 h.row hb fun k hk => no (h.rR k hk) (by decide) (by decide)
  blk := own_btw1 h.blk hb fun k hk => no (h.rB k hk) (by decide) (by decide)
  ers := own_btw1 h.ers hb fun k hk => no (h.rE k hk) (by decide) (by decide)
 }
theorem RjR.below (h : RjR ρ w p g j m) (hb : Below w.heap.size w w') : RjR ρ w' p g j m := h.btw (K := fun _ => False) (Btw.of_below hb) fun _ h => h.elim
/-- A judge at p; the blocks of I are its own, and all new ones. -/
def RJ (I : Nat → Prop) (w : World) (p : Nat) (g : Gm) (j : Jd) : Prop := ∃ ρ m, CRow w p 41 (rjCells g j m) ∧ RjR ρ w p g j m ∧ (∀ k, ρ k ≠ 0 → I k) ∧ ∀ k, w.heap.size ≤ k → I k
theorem RJ.below (h : RJ I w p g j) (hb : Below w.heap.size w w') : RJ I w' p g j := by
 obtain ⟨ρ, m, hc, hr, hi, hn⟩ := h
 exact ⟨ρ, m, hc.below hb, hr.below hb, hi, fun k hk => hn k (Nat.le_trans hb.size hk)⟩
theorem RJ.lt (h : RJ I w p g j) : p < w.heap.size := by
 obtain ⟨_, _, hc, _⟩ := h
 exact hc.lt
theorem RJ.ok (h : RJ I w p g j) : g.ok = true := by
 obtain ⟨_, _, _, hr, _⟩ := h
 exact hr.ok
/-- Another turned its own blocks; the blocks that came meanwhile are another's. -/
theorem RJ.away (h : RJ I w p g j) (hb : Btw K w w') (hK : ∀ k, k < w.heap.size → K k → ¬ I k) : RJ (fun k => I k ∧ (k < w.heap.size ∨ w'.heap.size ≤ k)) w' p g j := by
 obtain ⟨ρ, m, hc, hr, hi, hn⟩ := h
 have hb2 : Btw (fun k => K k ∧ k < w.heap.size) w w' := ⟨hb.os, hb.tape, hb.output, hb.size, fun k hk hn => hb.block k hk fun h1 => hn ⟨h1, hk⟩⟩
 have h0 : ∀ k, K k ∧ k < w.heap.size → ρ k = 0 := fun k hk => Classical.byContradiction fun e => hK k hk.2 hk.1 (hi k e)
 exact ⟨ρ, m, hc.btw hb2 fun e => by have := h0 p e; have := hr.rp; omega, hr.btw hb2 fun k hk => .inl (h0 k hk), fun k hk => ⟨hi k hk, .inl (hr.lt k hk)⟩, fun k hk => ⟨hn k (Nat.le_trans hb.size hk), .inr hk⟩⟩
theorem RJ.widen {I' : Nat → Prop} (h : RJ I' w p g j) (hi : ∀ k, I' k → I k) : RJ I w p g j := by
 obtain ⟨ρ, m, hc, hr, h1, h2⟩ := h
 exact ⟨ρ, m, hc, hr, fun k hk => hi k (h1 k hk), fun k hk => hi k (h2 k hk)⟩
/-- Cells of its own alone were stored. -/
theorem RJ.of (hr : RjR ρ w p g j m) (hi : ∀ k, ρ k ≠ 0 → I k) (hn : ∀ k, w.heap.size ≤ k → I k) (hc : CRow w' p 41 (rjCells g j' m')) (hb : Btw (fun k => k = p) w w') (hk : ∀ W, RjR ρ W p g j m → RjR ρ W p g j' m') : RJ I w' p g j' ∧ Btw I w w' :=
 ⟨⟨ρ, m', hc, hk _ (hr.btw hb fun k e => .inr (by have e : k = p := e; rw [e]; exact hr.rp)), hi, fun k hk => hn k (Nat.le_trans hb.size hk)⟩, (Btw.refl w).trans hb fun k _ e => by have e : k = p := e; rw [e]; exact hi p (by rw [hr.rp]; decide)⟩
def ActsR (I : Nat → Prop) (p : Nat) (g : Gm) (v : Value) (j' : Jd) (w : World) (e : Ending) (w' : World) : Prop := e = .returned v ∧ RJ I w' p g j' ∧ Btw I w w'
theorem roles {W w3 : World} {v v3 : Value} (r : Nat) (hlt : ∀ k, ρ k ≠ 0 → k < W.heap.size) (hv : ∀ k, v.ownBlock = some k → ρ k = r) (hg : W.grownBy w3 v.ownBlock) (hwh : v3.ownBlock = v.ownBlock ∨ v3.ownBlock = some W.heap.size) (hl : ∀ k, v3.ownBlock = some k → k < w3.heap.size) :
  ∃ ρ' : Nat → Nat, (∀ k, v3.ownBlock = some k → ρ' k = r) ∧ (∀ k, ρ k ≠ 0 → ρ' k = ρ k) ∧ (∀ k, ρ' k ≠ 0 → k < w3.heap.size) ∧ (∀ k, ρ' k ≠ 0 → ρ k ≠ 0 ∨ W.heap.size ≤ k) ∧ Btw (fun k => ρ k = r) W w3 := by
 have hb : Btw (fun k => ρ k = r) W w3 := Btw.of_grown hg hv
 refine ⟨fun k => if v3.ownBlock = some k then r else ρ k, fun k hk => if_pos hk, fun k hk => ?_, fun k hk => ?_, fun k hk => ?_, hb⟩
 ·
  show (if v3.ownBlock = some k then r else ρ k) = ρ k
  split
  ·
   rename_i h
   rcases hwh with h1 | h1
   ·
    exact (hv k (h1 ▸ h)).symm
   ·
    rw [h1] at h
    injection h with h
    have := hlt k hk
    omega
  ·
   rfl
 ·
  have hk : (if v3.ownBlock = some k then r else ρ k) ≠ 0 := hk
  split at hk
  ·
   rename_i h
   exact hl k h
  ·
   exact Nat.lt_of_lt_of_le (hlt k hk) hb.size
 ·
  have hk : (if v3.ownBlock = some k then r else ρ k) ≠ 0 := hk
  split at hk
  ·
   rename_i h
   rcases hwh with h1 | h1
   ·
    exact .inl (by rw [hv k (h1 ▸ h)]; exact hk)
   ·
    rw [h1] at h
    injection h with h
    exact .inr (by omega)
  ·
   exact .inl hk
theorem RjR.pushL {W w3 : World} {A3 : Option Addr} {c3 : Nat} (b : Nat) (hr : RjR ρ W p g j m) (hown : w3.ownsRow 0 3 1 (.slice A3 (j.listed.length + 1) c3) (j.listed.length + 1) (I64 (JI j.listed ++ [(b : Int)]))) (hg : W.grownBy w3 (Value.slice m.aL j.listed.length m.cL).ownBlock)
  (hwh : (Value.slice A3 (j.listed.length + 1) c3).ownBlock = (Value.slice m.aL j.listed.length m.cL).ownBlock ∨ (Value.slice A3 (j.listed.length + 1) c3).ownBlock = some W.heap.size) :
  ∃ ρ', RjR ρ' w3 p g { j with listed := j.listed ++ [b] } { m with aL := A3, cL := c3 } ∧ (∀ k, ρ' k ≠ 0 → ρ k ≠ 0 ∨ W.heap.size ≤ k) ∧ Btw (fun k => ρ k = 5) W w3 := by
 obtain ⟨ρ', h1, h2, h3, h4, hb⟩ := roles (ρ := ρ) 5 hr.lt hr.rL hg hwh (fun k hk => by obtain ⟨_, cur, h9⟩ := own_at1 hown k hk; exact (Array.getElem?_eq_some_iff.1 h9).1)
 have hlen : (j.listed ++ [b]).length = j.listed.length + 1 := by simp
 have HR : RjR ρ' w3 p g { j with listed := j.listed ++ [b] } { m with aL := A3, cL := c3 } :=
  {
   ok := hr.ok
   lt := h3
   rp := (h2 p (by rw [hr.rp]; decide)).trans hr.rp
   ce := hr.ce.btw hb fun e => by have h8 := hr.re; have e : ρ m.e = 5 := e; omega
   re := (h2 _ (by rw [hr.re]; decide)).trans hr.re
   cl := hr.cl.btw hb fun e => by have h8 := hr.rl; have e : ρ m.l = 5 := e; omega
   rl := (h2 _ (by rw [hr.rl]; decide)).trans hr.rl
   cq := hr.cq.btw hb fun e => by have h8 := hr.rq; have e : ρ m.q = 5 := e; omega
   rq := (h2 _ (by rw [hr.rq]; decide)).trans hr.rq
   lis := by show w3.ownsRow 0 3 1 (.slice A3 (j.listed ++ [b]).length c3) (j.listed ++ [b]).length (I64 (JI (j.listed ++ [b]))); rw [hlen, JI_push]; exact hown
   rL := fun k hk => by
    have hk : (Value.slice A3 (j.listed ++ [b]).length c3).ownBlock = some k := hk
    rw [hlen] at hk
    exact h1 k hk
   row := own_btw1 hr.row hb fun k hk e => by have h8 := hr.rR k hk; have e : ρ k = 5 := e; omega
   rR := fun k hk => (h2 k (by rw [hr.rR k hk]; decide)).trans (hr.rR k hk)
   blk := own_btw1 hr.blk hb fun k hk e => by have h8 := hr.rB k hk; have e : ρ k = 5 := e; omega
   rB := fun k hk => (h2 k (by rw [hr.rB k hk]; decide)).trans (hr.rB k hk)
   ers := own_btw1 hr.ers hb fun k hk e => by have h8 := hr.rE k hk; have e : ρ k = 5 := e; omega
   rE := fun k hk => (h2 k (by rw [hr.rE k hk]; decide)).trans (hr.rE k hk) }
 exact ⟨ρ', HR, h4, hb⟩
theorem RjR.pushR {W w3 : World} {A3 : Option Addr} {c3 : Nat} (b : Nat) (hr : RjR ρ W p g j m) (hown : w3.ownsRow 0 3 1 (.slice A3 (j.rows.length + 1) c3) (j.rows.length + 1) (I64 (JI j.rows ++ [(b : Int)]))) (hg : W.grownBy w3 (Value.slice m.aR j.rows.length m.cR).ownBlock)
  (hwh : (Value.slice A3 (j.rows.length + 1) c3).ownBlock = (Value.slice m.aR j.rows.length m.cR).ownBlock ∨ (Value.slice A3 (j.rows.length + 1) c3).ownBlock = some W.heap.size) :
  ∃ ρ', RjR ρ' w3 p g { j with rows := j.rows ++ [b] } { m with aR := A3, cR := c3 } ∧ (∀ k, ρ' k ≠ 0 → ρ k ≠ 0 ∨ W.heap.size ≤ k) ∧ Btw (fun k => ρ k = 6) W w3 := by
 obtain ⟨ρ', h1, h2, h3, h4, hb⟩ := roles (ρ := ρ) 6 hr.lt hr.rR hg hwh (fun k hk => by obtain ⟨_, cur, h9⟩ := own_at1 hown k hk; exact (Array.getElem?_eq_some_iff.1 h9).1)
 have hlen : (j.rows ++ [b]).length = j.rows.length + 1 := by simp
 have HR : RjR ρ' w3 p g { j with rows := j.rows ++ [b] } { m with aR := A3, cR := c3 } :=
  {
   ok := hr.ok
   lt := h3
   rp := (h2 p (by rw [hr.rp]; decide)).trans hr.rp
   ce := hr.ce.btw hb fun e => by have h8 := hr.re; have e : ρ m.e = 6 := e; omega
   re := (h2 _ (by rw [hr.re]; decide)).trans hr.re
   cl := hr.cl.btw hb fun e => by have h8 := hr.rl; have e : ρ m.l = 6 := e; omega
   rl := (h2 _ (by rw [hr.rl]; decide)).trans hr.rl
   cq := hr.cq.btw hb fun e => by have h8 := hr.rq; have e : ρ m.q = 6 := e; omega
   rq := (h2 _ (by rw [hr.rq]; decide)).trans hr.rq
   row := by show w3.ownsRow 0 3 1 (.slice A3 (j.rows ++ [b]).length c3) (j.rows ++ [b]).length (I64 (JI (j.rows ++ [b]))); rw [hlen, JI_push]; exact hown
   rR := fun k hk => by
    have hk : (Value.slice A3 (j.rows ++ [b]).length c3).ownBlock = some k := hk
    rw [hlen] at hk
    exact h1 k hk
   lis := own_btw1 hr.lis hb fun k hk e => by have h8 := hr.rL k hk; have e : ρ k = 6 := e; omega
   rL := fun k hk => (h2 k (by rw [hr.rL k hk]; decide)).trans (hr.rL k hk)
   blk := own_btw1 hr.blk hb fun k hk e => by have h8 := hr.rB k hk; have e : ρ k = 6 := e; omega
   rB := fun k hk => (h2 k (by rw [hr.rB k hk]; decide)).trans (hr.rB k hk)
   ers := own_btw1 hr.ers hb fun k hk e => by have h8 := hr.rE k hk; have e : ρ k = 6 := e; omega
   rE := fun k hk => (h2 k (by rw [hr.rE k hk]; decide)).trans (hr.rE k hk) }
 exact ⟨ρ', HR, h4, hb⟩
theorem RjR.pushB {W w3 : World} {A3 : Option Addr} {c3 : Nat} (b : Nat) (hr : RjR ρ W p g j m) (hown : w3.ownsRow 0 3 1 (.slice A3 (j.blocks.length + 1) c3) (j.blocks.length + 1) (I64 (JI j.blocks ++ [(b : Int)]))) (hg : W.grownBy w3 (Value.slice m.aB j.blocks.length m.cB).ownBlock)
  (hwh : (Value.slice A3 (j.blocks.length + 1) c3).ownBlock = (Value.slice m.aB j.blocks.length m.cB).ownBlock ∨ (Value.slice A3 (j.blocks.length + 1) c3).ownBlock = some W.heap.size) :
  ∃ ρ', RjR ρ' w3 p g { j with blocks := j.blocks ++ [b] } { m with aB := A3, cB := c3 } ∧ (∀ k, ρ' k ≠ 0 → ρ k ≠ 0 ∨ W.heap.size ≤ k) ∧ Btw (fun k => ρ k = 7) W w3 := by
 obtain ⟨ρ', h1, h2, h3, h4, hb⟩ := roles (ρ := ρ) 7 hr.lt hr.rB hg hwh (fun k hk => by obtain ⟨_, cur, h9⟩ := own_at1 hown k hk; exact (Array.getElem?_eq_some_iff.1 h9).1)
 have hlen : (j.blocks ++ [b]).length = j.blocks.length + 1 := by simp
 have HR : RjR ρ' w3 p g { j with blocks := j.blocks ++ [b] } { m with aB := A3, cB := c3 } :=
  {
   ok := hr.ok
   lt := h3
   rp := (h2 p (by rw [hr.rp]; decide)).trans hr.rp
   ce := hr.ce.btw hb fun e => by have h8 := hr.re; have e : ρ m.e = 7 := e; omega
   re := (h2 _ (by rw [hr.re]; decide)).trans hr.re
   cl := hr.cl.btw hb fun e => by have h8 := hr.rl; have e : ρ m.l = 7 := e; omega
   rl := (h2 _ (by rw [hr.rl]; decide)).trans hr.rl
   cq := hr.cq.btw hb fun e => by have h8 := hr.rq; have e : ρ m.q = 7 := e; omega
   rq := (h2 _ (by rw [hr.rq]; decide)).trans hr.rq
   blk := by show w3.ownsRow 0 3 1 (.slice A3 (j.blocks ++ [b]).length c3) (j.blocks ++ [b]).length (I64 (JI (j.blocks ++ [b]))); rw [hlen, JI_push]; exact hown
   rB := fun k hk => by
    have hk : (Value.slice A3 (j.blocks ++ [b]).length c3).ownBlock = some k := hk
    rw [hlen] at hk
    exact h1 k hk
   lis := own_btw1 hr.lis hb fun k hk e => by have h8 := hr.rL k hk; have e : ρ k = 7 := e; omega
   rL := fun k hk => (h2 k (by rw [hr.rL k hk]; decide)).trans (hr.rL k hk)
   row := own_btw1 hr.row hb fun k hk e => by have h8 := hr.rR k hk; have e : ρ k = 7 := e; omega
   rR := fun k hk => (h2 k (by rw [hr.rR k hk]; decide)).trans (hr.rR k hk)
   ers := own_btw1 hr.ers hb fun k hk e => by have h8 := hr.rE k hk; have e : ρ k = 7 := e; omega
   rE := fun k hk => (h2 k (by rw [hr.rE k hk]; decide)).trans (hr.rE k hk) }
 exact ⟨ρ', HR, h4, hb⟩
theorem RJ.set_er {i : Nat} {er' : Nat → Bool} (hc : CRow w p 41 (rjCells g j m)) (hr : RjR ρ w p g j m) (h0 : (erF g j i).isSome = true) (he : ∀ x, x ≠ i → er' x = j.er x) :
  CRow (w.setCell ⟨m.e, i, none⟩ (.bool (er' i))) p 41 (rjCells g { j with er := er' } m) ∧ RjR ρ (w.setCell ⟨m.e, i, none⟩ (.bool (er' i))) p g { j with er := er' } m ∧ Btw (fun k => k = m.e) w (w.setCell ⟨m.e, i, none⟩ (.bool (er' i))) := by
 have hb : Btw (fun k => k = m.e) w (w.setCell ⟨m.e, i, none⟩ (.bool (er' i))) := (Btw.refl w).setCell (p := ⟨m.e, i, none⟩) rfl
 have hne : ∀ {k n : Nat}, ρ k = n → n ≠ 2 → ¬ k = m.e := fun h1 h2 e => by have h3 := hr.re; rw [e] at h1; omega
 obtain ⟨v0, hv0⟩ := Option.isSome_iff_exists.1 h0
 refine ⟨hc.btw hb (hne hr.rp (by decide)), { hr with
  lt := fun k hk => Nat.lt_of_lt_of_le (hr.lt k hk) hb.size
  ce := (hr.ce.set hv0 (.bool (er' i))).sub fun x v hx => by
   by_cases e : x = i
   ·
    subst e
    rw [if_pos rfl]
    unfold erF at hx h0
    split at hx
    ·
     exact hx
    ·
     cases hx
   ·
    rw [if_neg e]
    unfold erF at hx ⊢
    split at hx
    ·
     rename_i hlt
     rw [if_pos hlt]
     have hx : some (.bool (er' x)) = some v := hx
     rw [he x e] at hx
     exact hx
    ·
     cases hx
  cl := hr.cl.btw hb (hne hr.rl (by decide))
  cq := hr.cq.btw hb (hne hr.rq (by decide))
  lis := own_btw1 hr.lis hb fun k hk => hne (hr.rL k hk) (by decide)
  row := own_btw1 hr.row hb fun k hk => hne (hr.rR k hk) (by decide)
  blk := own_btw1 hr.blk hb fun k hk => hne (hr.rB k hk) (by decide)
  ers := own_btw1 hr.ers hb fun k hk => hne (hr.rE k hk) (by decide)
 }, hb⟩
theorem RJ.set_la {i : Nat} {la' : Nat → Int} (hc : CRow w p 41 (rjCells g j m)) (hr : RjR ρ w p g j m) (h0 : (laF g j i).isSome = true) (he : ∀ x, x ≠ i → la' x = j.la x) :
  CRow (w.setCell ⟨m.l, i, none⟩ (.int .i64 (la' i))) p 41 (rjCells g { j with la := la' } m) ∧ RjR ρ (w.setCell ⟨m.l, i, none⟩ (.int .i64 (la' i))) p g { j with la := la' } m ∧ Btw (fun k => k = m.l) w (w.setCell ⟨m.l, i, none⟩ (.int .i64 (la' i))) := by
 have hb : Btw (fun k => k = m.l) w (w.setCell ⟨m.l, i, none⟩ (.int .i64 (la' i))) := (Btw.refl w).setCell (p := ⟨m.l, i, none⟩) rfl
 have hne : ∀ {k n : Nat}, ρ k = n → n ≠ 3 → ¬ k = m.l := fun h1 h2 e => by have h3 := hr.rl; rw [e] at h1; omega
 obtain ⟨v0, hv0⟩ := Option.isSome_iff_exists.1 h0
 refine ⟨hc.btw hb (hne hr.rp (by decide)), { hr with
  lt := fun k hk => Nat.lt_of_lt_of_le (hr.lt k hk) hb.size
  ce := hr.ce.btw hb (hne hr.re (by decide))
  cl := (hr.cl.set hv0 (.int .i64 (la' i))).sub fun x v hx => by
   by_cases e : x = i
   ·
    subst e
    rw [if_pos rfl]
    unfold laF at hx h0
    split at hx
    ·
     exact hx
    ·
     cases hx
   ·
    rw [if_neg e]
    unfold laF at hx ⊢
    split at hx
    ·
     rename_i hlt
     rw [if_pos hlt]
     have hx : some (.int .i64 (la' x)) = some v := hx
     rw [he x e] at hx
     exact hx
    ·
     cases hx
  cq := hr.cq.btw hb (hne hr.rq (by decide))
  lis := own_btw1 hr.lis hb fun k hk => hne (hr.rL k hk) (by decide)
  row := own_btw1 hr.row hb fun k hk => hne (hr.rR k hk) (by decide)
  blk := own_btw1 hr.blk hb fun k hk => hne (hr.rB k hk) (by decide)
  ers := own_btw1 hr.ers hb fun k hk => hne (hr.rE k hk) (by decide)
 }, hb⟩
theorem RJ.set_pr {i : Nat} {pr' : Nat → Nat} (hc : CRow w p 41 (rjCells g j m)) (hr : RjR ρ w p g j m) (h0 : (prF g j i).isSome = true) (he : ∀ x, x ≠ i → pr' x = j.pr x) :
  CRow (w.setCell ⟨m.q, i, none⟩ (.int .i64 (pr' i : Int))) p 41 (rjCells g { j with pr := pr' } m) ∧ RjR ρ (w.setCell ⟨m.q, i, none⟩ (.int .i64 (pr' i : Int))) p g { j with pr := pr' } m ∧ Btw (fun k => k = m.q) w (w.setCell ⟨m.q, i, none⟩ (.int .i64 (pr' i : Int))) := by
 have hb : Btw (fun k => k = m.q) w (w.setCell ⟨m.q, i, none⟩ (.int .i64 (pr' i : Int))) := (Btw.refl w).setCell (p := ⟨m.q, i, none⟩) rfl
 have hne : ∀ {k n : Nat}, ρ k = n → n ≠ 4 → ¬ k = m.q := fun h1 h2 e => by have h3 := hr.rq; rw [e] at h1; omega
 obtain ⟨v0, hv0⟩ := Option.isSome_iff_exists.1 h0
 refine ⟨hc.btw hb (hne hr.rp (by decide)), { hr with
  lt := fun k hk => Nat.lt_of_lt_of_le (hr.lt k hk) hb.size
  ce := hr.ce.btw hb (hne hr.re (by decide))
  cl := hr.cl.btw hb (hne hr.rl (by decide))
  cq := (hr.cq.set hv0 (.int .i64 (pr' i : Int))).sub fun x v hx => by
   by_cases e : x = i
   ·
    subst e
    rw [if_pos rfl]
    unfold prF at hx h0
    split at hx
    ·
     exact hx
    ·
     cases hx
   ·
    rw [if_neg e]
    unfold prF at hx ⊢
    split at hx
    ·
     rename_i hlt
     rw [if_pos hlt]
     have hx : some (.int .i64 (pr' x : Int)) = some v := hx
     rw [he x e] at hx
     exact hx
    ·
     cases hx
  lis := own_btw1 hr.lis hb fun k hk => hne (hr.rL k hk) (by decide)
  row := own_btw1 hr.row hb fun k hk => hne (hr.rR k hk) (by decide)
  blk := own_btw1 hr.blk hb fun k hk => hne (hr.rB k hk) (by decide)
  ers := own_btw1 hr.ers hb fun k hk => hne (hr.rE k hk) (by decide)
 }, hb⟩
end
end Go.Proofs.Ytaidgjidpghgnaa

/-
  The document's judge: free, start, two, lost, reset, Power.
-/
namespace Go.Proofs.Ytaidgjidpghgnaa
open Go.RowKit
set_option maxRecDepth 100000

section
variable {ρ : Nat → Nat} {I K : Nat → Prop} {w w' : World} {p : Nat} {g : Gm} {j j' : Jd} {m m' : RjM}
theorem rfree (h : RJ I w p g j) : Calls Try.prog 30 #[.pointer (some ⟨p, 0, none⟩)] w (ActsR I p g (.tuple #[]) (j.enter 1) w) := by
 obtain ⟨ρ, m, hc, hr, hi, hn⟩ := h
 have C0 := Lib.hid hc
 have R0 := Lib.hid hr
 have I0 := Lib.hid hi
 have N0 := Lib.hid hn
 clear hc hr hi hn
 have x10 := C0.out.cell_at 10 (.int .i64 (j.op : Int)) rfl
 have f10 := C0.out.frozen 10
 have S1 := Lib.hid (C0.out.setCell 10 (.int .i64 1))
 have K1 := Lib.hid (((Btw.refl (I := fun k => k = p) w)).setCell (p := ⟨p, 10, none⟩) (v := .int .i64 1) rfl)
 have x11 := S1.out.cell_at 11 (.slice m.aL j.listed.length m.cL) rfl
 have f11 := S1.out.frozen 11
 have S2 := Lib.hid (S1.out.setCell 11 (.slice none 0 0))
 have K2 := Lib.hid ((K1.out).setCell (p := ⟨p, 11, none⟩) (v := .slice none 0 0) rfl)
 have x12 := S2.out.cell_at 12 (.int .i64 (j.count : Int)) rfl
 have f12 := S2.out.frozen 12
 have S3 := Lib.hid (S2.out.setCell 12 (.int .i64 0))
 have K3 := Lib.hid ((K2.out).setCell (p := ⟨p, 12, none⟩) (v := .int .i64 0) rfl)
 go_enter Try.func30, Try.ntmps30
 go_wp2
 go_end0
 have H := RJ.of (I := I) (j' := j.enter 1) (m' := { m with aL := none, cL := 0 }) R0.out I0.out N0.out (by
  have h0 := S3.out
  simpa [rjCells, Jd.enter] using h0) K3.out fun W h => { h with lis := ⟨rfl, .inl ⟨rfl, rfl⟩⟩, rL := fun k hk => by cases hk }
 exact ⟨rfl, H.1, H.2⟩
theorem rstart (h : RJ I w p g j) : Calls Try.prog 29 #[.pointer (some ⟨p, 0, none⟩)] w (ActsR I p g (.tuple #[]) j.start w) := by
 have HF := Lib.hid (rfree h)
 clear h
 go_enter Try.func29, Try.ntmps29
 go_wp2_with fail
 refine HF.out.mono ?_
 rintro _ w1 ⟨rfl, h1, b1⟩
 obtain ⟨ρ, m, hc, hr, hi, hn⟩ := h1
 have C0 := Lib.hid hc
 have R0 := Lib.hid hr
 have I0 := Lib.hid hi
 have N0 := Lib.hid hn
 have B1 := Lib.hid b1
 clear hc hr hi hn b1 HF
 have x14 := C0.out.cell_at 14 (.bool (j.enter 1).busy) rfl
 have f14 := C0.out.frozen 14
 have S1 := Lib.hid (C0.out.setCell 14 (.bool true))
 have K1 := Lib.hid (((Btw.refl (I := fun k => k = p) w1)).setCell (p := ⟨p, 14, none⟩) (v := .bool true) rfl)
 go_wp2
 go_end0
 have H := RJ.of (I := I) (j' := j.start) (m' := m) R0.out I0.out N0.out (by
  have h0 := S1.out
  simpa [rjCells, Jd.start, Jd.enter] using h0) K1.out fun W h => { h with }
 exact ⟨rfl, H.1, B1.out.trans H.2 fun _ _ h => h⟩
theorem rtwo (k : Nat) (hk : k + 1 < j.listed.length) (hl : j.listed.length ≤ 100000) (h8 : ∀ x ∈ j.listed, x < 256) (h : RJ I w p g j) : Calls Try.prog 45 #[.pointer (some ⟨p, 0, none⟩), .int .i64 (k : Int)] w (Gives (.int .i64 (j.addr2 k : Int)) w) := by
 obtain ⟨ρ, m, hc, hr, hi, hn⟩ := h
 obtain ⟨b9, hA, _, _, y0', _, _⟩ := own_at hr.lis (k := k) (by omega)
 obtain ⟨b8, hA2, _, _, y1', _, _⟩ := own_at hr.lis (k := k + 1) hk
 obtain ⟨x, hx⟩ : ∃ x, j.listed[k]? = some x := ⟨_, List.getElem?_eq_getElem (by omega)⟩
 obtain ⟨y, hy⟩ : ∃ y, j.listed[k + 1]? = some y := ⟨_, List.getElem?_eq_getElem hk⟩
 have he : b8 = b9 := by
  rw [hA] at hA2
  injection hA2 with e
  injection e with e _
  exact e.symm
 subst he
 have y0 : w.cell? ⟨b8, k, none⟩ = some (.int .i64 (x : Int)) := by rw [y0', I64_JI, hx]; rfl
 have y1 : w.cell? ⟨b8, k + 1, none⟩ = some (.int .i64 (y : Int)) := by rw [y1', I64_JI, hy]; rfl
 have hx8 := h8 x (List.mem_of_getElem? hx)
 have hy8 := h8 y (List.mem_of_getElem? hy)
 have HE := Lib.hid (show j.addr2 k = x + 256 * y by unfold Jd.addr2; rw [List.getD_eq_getElem?_getD, List.getD_eq_getElem?_getD, hx, hy]; rfl)
 obtain ⟨n, hn0⟩ : ∃ n, n = j.listed.length := ⟨_, rfl⟩
 have HQ := Lib.hid (show ∀ W', CRow W' p 41 (rjCells g j m) → W'.cell? ⟨p, 11, none⟩ = some (.slice (some ⟨b8, 0, none⟩) n m.cL) from fun W' h => by rw [← hA, hn0]; exact h.cell_at 11 _ rfl)
 have x11 := HQ.out w hc
 have C0 := Lib.hid hc
 have i0 : (0 : Int) ≤ (k : Int) := by omega
 have i1 : (k : Int) < (n : Int) := by omega
 have i2 : (k : Int) + 1 < (n : Int) := by omega
 have i4 : (0 : Int) ≤ (k : Int) + 1 := by omega
 have i3 : ((k : Int) + 1).toNat = k + 1 := by omega
 have wy : IntKind.i64.wrap ((k : Int) + 1) = (k : Int) + 1 := IntWalk.i64_in _ (by omega)
 have wz : IntKind.i64.wrap (256 * (y : Int)) = 256 * (y : Int) := IntWalk.i64_in _ (by omega)
 have wx : IntKind.i64.wrap ((x : Int) + 256 * (y : Int)) = (x : Int) + 256 * (y : Int) := IntWalk.i64_in _ (by omega)
 clear hA hA2 y0' y1' hx hy hc hr hi hn hn0 hk hl h8
 go_enter Try.func45, Try.ntmps45
 go_wp2_with fail
 refine wp_region_noPanic ?_
 refine wp_region_held_drew (S := fun w' => CRow w' p 41 (rjCells g j m) ∧ w'.cell? ⟨b8, k, none⟩ = some (.int .i64 (x : Int)) ∧ w'.cell? ⟨b8, k + 1, none⟩ = some (.int .i64 (y : Int))) (by kernel_rfl) ⟨C0.out.drew, y0, y1⟩ (fun C0 => ?_)
 refine tkH 0 zN23 _ C0 rfl (by kernel_rfl) rfl (fun W h => by clear h; dsimp only [zN23]; go_simp <;> with_reducible rfl) ?_
 try simp only [zN23, Act.put, zzI, zzO, zzS]
 refine tkH 1 zN24 _ C0 rfl (by kernel_rfl) rfl (fun W h => by clear h; dsimp only [zN24]; go_simp <;> with_reducible rfl) ?_
 try simp only [zN24, Act.put, zzI, zzO, zzS]
 refine tkH 2 zN25 _ C0 rfl (by kernel_rfl) rfl (fun W h => by clear h; dsimp only [zN25]; go_simp <;> with_reducible rfl) ?_
 try simp only [zN25, Act.put, zzI, zzO, zzS]
 refine tkH 3 zN26 _ C0 rfl (by kernel_rfl) rfl (fun W' hSw => by obtain ⟨hs, hy0, hy1⟩ := hSw; have x11 := HQ.out W' hs; clear hs; dsimp only [zN26]; go_simp <;> with_reducible rfl) ?_
 try simp only [zN26, Act.put, zzI, zzO, zzS]
 refine tkH 4 zN27 _ C0 rfl (by kernel_rfl) rfl (fun W h => by clear h; dsimp only [zN27]; go_simp <;> with_reducible rfl) ?_
 try simp only [zN27, Act.put, zzI, zzO, zzS]
 refine tkH 5 zN28 _ C0 rfl (by kernel_rfl) rfl (fun W h => by clear h; dsimp only [zN28]; go_simp <;> with_reducible rfl) ?_
 try simp only [zN28, Act.put, zzI, zzO, zzS]
 refine tkH 6 zN29 _ C0 rfl (by kernel_rfl) rfl (fun W' hSw => by obtain ⟨hs, hy0, hy1⟩ := hSw; have x11 := HQ.out W' hs; clear hs; dsimp only [zN29]; go_simp <;> with_reducible rfl) ?_
 try simp only [zN29, Act.put, zzI, zzO, zzS]
 refine tkH 7 zN30 _ C0 rfl (by kernel_rfl) rfl (fun W h => by clear h; dsimp only [zN30]; go_simp <;> with_reducible rfl) ?_
 try simp only [zN30, Act.put, zzI, zzO, zzS]
 refine tkH 8 zN31 _ C0 rfl (by kernel_rfl) rfl (fun W h => by clear h; dsimp only [zN31]; go_simp <;> with_reducible rfl) ?_
 try simp only [zN31, Act.put, zzI, zzO, zzS]
 refine tkH 9 zN32 _ C0 rfl (by kernel_rfl) rfl (fun W h => by clear h; dsimp only [zN32]; go_simp <;> with_reducible rfl) ?_
 try simp only [zN32, Act.put, zzI, zzO, zzS]
 refine tkH 10 zN33 _ C0 rfl (by kernel_rfl) rfl (fun W' hSw => by obtain ⟨hs, hy0, hy1⟩ := hSw; have x11 := HQ.out W' hs; clear hs; dsimp only [zN33]; go_simp <;> with_reducible rfl) ?_
 try simp only [zN33, Act.put, zzI, zzO, zzS]
 refine tkH 11 zN34 _ C0 rfl (by kernel_rfl) rfl (fun W h => by clear h; dsimp only [zN34]; go_simp <;> with_reducible rfl) ?_
 try simp only [zN34, Act.put, zzI, zzO, zzS]
 refine tkH 12 zN35 _ C0 rfl (by kernel_rfl) rfl (fun W h => by clear h; dsimp only [zN35]; go_simp <;> with_reducible rfl) ?_
 try simp only [zN35, Act.put, zzI, zzO, zzS]
 refine tkH 13 zN36 _ C0 rfl (by kernel_rfl) rfl (fun W h => by clear h; dsimp only [zN36]; go_simp <;> with_reducible rfl) ?_
 try simp only [zN36, Act.put, zzI, zzO, zzS]
 refine tkH 14 zN37 _ C0 rfl (by kernel_rfl) rfl (fun W' hSw => by obtain ⟨hs, hy0, hy1⟩ := hSw; have x11 := HQ.out W' hs; clear hs; dsimp only [zN37]; go_simp <;> with_reducible rfl) ?_
 try simp only [zN37, Act.put, zzI, zzO, zzS]
 refine tkH 15 zN38 _ C0 rfl (by kernel_rfl) rfl (fun W h => by clear h; dsimp only [zN38]; go_simp <;> with_reducible rfl) ?_
 try simp only [zN38, Act.put, zzI, zzO, zzS]
 refine tkH 16 zN39 _ C0 rfl (by kernel_rfl) rfl (fun W h => by clear h; dsimp only [zN39]; go_simp <;> with_reducible rfl) ?_
 try simp only [zN39, Act.put, zzI, zzO, zzS]
 refine tkH 17 zN40 _ C0 rfl (by kernel_rfl) rfl (fun W h => by clear h; dsimp only [zN40]; go_simp <;> with_reducible rfl) ?_
 try simp only [zN40, Act.put, zzI, zzO, zzS]
 refine wpAnyH_done (by kernel_rfl) ?_ _
 refine NoPanic.normal ?_
 go_wp2
 go_ret
 refine ⟨?_, ?_⟩
 ·
  rw [HE.out]
  simp
 ·
  exact (Below.refl _ _).drew
/-- The erases with which the chip is busy did not succeed, k of them. -/
def Jd.lostK (j : Jd) (k : Nat) : Jd := { j with er := fun b => if b ∈ j.erases.take k then false else j.er b }
def Jd.lost (j : Jd) : Jd := { j with er := fun b => if b ∈ j.erases then false else j.er b, erases := [] }
set_option maxHeartbeats 2000000 in
theorem rlost (hE : ∀ b ∈ j.erases, b < g.b.toNat) (hn : j.erases.length ≤ 1000000) (h : RJ I w p g j) : Calls Try.prog 37 #[.pointer (some ⟨p, 0, none⟩)] w (ActsR I p g (.tuple #[]) j.lost w) := by
 obtain ⟨ρ, m, hc, hr, hi, hnw⟩ := h
 have hg := Gm.bounds_of hr.ok
 have HE := Lib.hid hE
 obtain ⟨n, hn0⟩ : ∃ n, n = j.erases.length := ⟨_, rfl⟩
 have HN := Lib.hid hn0
 have I0 := Lib.hid hi
 have N0 := Lib.hid hnw
 have C0 := Lib.hid (show CRow w p 41 (rjCells g (j.lostK 0) m) from hc)
 have R0 := Lib.hid (show RjR ρ w p g (j.lostK 0) m from { hr with })
 have B0 := Lib.hid (Btw.refl (I := I) w)
 have hn1 : n ≤ 1000000 := by omega
 have i5 : g.b.toNat ≤ 256 := by omega
 obtain ⟨NB, hNB⟩ : ∃ NB, NB = g.b.toNat := ⟨_, rfl⟩
 have HNB := Lib.hid hNB
 rw [← hNB] at i5
 obtain ⟨zE, hz⟩ : ∃ zE, zE = m.aE := ⟨_, rfl⟩
 have HZ := Lib.hid hz
 have CQ := Lib.hid (show ∀ W q, CRow W p 41 (rjCells g (j.lostK q) m) → W.cell? ⟨p, 21, none⟩ = some (.slice zE n m.cE) from fun W q hW => by rw [hz, hn0]; exact hW.cell_at 21 _ rfl)
 have C7 := Lib.hid (show ∀ W q, CRow W p 41 (rjCells g (j.lostK q) m) → W.cell? ⟨p, 7, none⟩ = some (.slice (some ⟨m.e, 0, none⟩) NB m.ce) from fun W q hW => by rw [hNB]; exact hW.cell_at 7 _ rfl)
 clear hc hr hi hnw hE hn0 hn hz hNB hg
 go_enter Try.func37, Try.ntmps37
 go_wp2
 go_loopw [2] (fun i wr => ∃ k : Nat, k ≤ n ∧ i = .int .i64 (k : Int) ∧ Hid (CRow wr p 41 (rjCells g (j.lostK k) m)) ∧ Hid (RjR ρ wr p g (j.lostK k) m) ∧ Hid (Btw I w wr) ∧ Hid (w.heap.size ≤ wr.heap.size)) (fun i _ => n - (intOf i).toNat)
 case atStart => exact ⟨0, Nat.zero_le _, rfl, C0, R0, B0, Lib.hid (Nat.le_refl _)⟩
 case round =>
  obtain ⟨k, hk, rfl, C1, R1, B1, Z1⟩ := hrel
  rename World => wr
  clear C0 R0 B0
  have x21 := CQ.out _ _ C1.out
  by_cases hlt : k < n
  ·
   obtain ⟨x, hx⟩ : ∃ x, j.erases[k]? = some x := ⟨_, List.getElem?_eq_getElem (by rw [← HN.out]; exact hlt)⟩
   obtain ⟨b9, hA, _, _, y0', _, _⟩ := own_at R1.out.ers (k := k) (by show k < j.erases.length; rw [← HN.out]; exact hlt)
   obtain rfl : zE = some ⟨b9, 0, none⟩ := HZ.out.trans hA
   have y0 : wr.cell? ⟨b9, k, none⟩ = some (.int .i64 (x : Int)) := by
    rw [y0']
    show (I64 (JI j.erases))[k]? = _
    rw [I64_JI, hx]
    rfl
   have hxb : x < NB := by rw [HNB.out]; exact HE.out x (List.mem_of_getElem? hx)
   have HB9 := Lib.hid (show ρ b9 = 8 from R1.out.rE b9 (by show (Value.slice m.aE _ _).ownBlock = _; rw [hA]; rfl))
   have E1 := Lib.hid R1.out.ce
   have HE0 := Lib.hid (show erF g (j.lostK k) x = some (.bool ((j.lostK k).er x)) from if_pos (by rw [← HNB.out]; exact hxb))
   have HX := Lib.hid hx
   have HST := Lib.hid (show ∀ b, b ≠ x → (j.lostK (k + 1)).er b = (j.lostK k).er b from fun b hne => by
    show (if b ∈ j.erases.take (k + 1) then false else j.er b) = (if b ∈ j.erases.take k then false else j.er b)
    have := mem_take_succ HX.out b
    by_cases h2 : b ∈ j.erases.take k
    ·
     rw [if_pos h2, if_pos (this.2 (.inl h2))]
    ·
     rw [if_neg h2, if_neg (fun h3 => (this.1 h3).elim h2 hne)])
   have HV := Lib.hid (show (j.lostK (k + 1)).er x = false from if_pos ((mem_take_succ HX.out x).2 (.inr rfl)))
   have d1 : decide ((k : Int) < (n : Int)) = true := decide_eq_true (by omega)
   have i0 : (0 : Int) ≤ (k : Int) := by omega
   have i1 : (k : Int) < (n : Int) := by omega
   have i2 : (0 : Int) ≤ (x : Int) := by omega
   have i3 : (x : Int) < (NB : Int) := by omega
   clear hA y0' hx
   go_wp2_with fail
   clear x21
   refine wp_region_noPanic ?_
   refine wp_region_held_drew (S := fun w' => w'.cell? ⟨p, 7, none⟩ = some (.slice (some ⟨m.e, 0, none⟩) NB m.ce) ∧ w'.cell? ⟨p, 21, none⟩ = some (.slice (some ⟨b9, 0, none⟩) n m.cE) ∧ w'.cell? ⟨b9, k, none⟩ = some (.int .i64 (x : Int))) (by kernel_rfl) ⟨C7.out _ _ C1.out.drew, CQ.out _ _ C1.out.drew, y0⟩ (fun C0 => ?_)
   refine tkH 0 zN41 _ C0 rfl (by kernel_rfl) rfl (fun W h => by clear h; dsimp only [zN41]; go_simp <;> with_reducible rfl) ?_
   try simp only [zN41, Act.put, zzI, zzO, zzS]
   refine tkH 1 zN42 _ C0 rfl (by kernel_rfl) rfl (fun W h => by clear h; dsimp only [zN42]; go_simp <;> with_reducible rfl) ?_
   try simp only [zN42, Act.put, zzI, zzO, zzS]
   refine tkH 2 zN43 _ C0 rfl (by kernel_rfl) rfl (fun W h => by clear h; dsimp only [zN43]; go_simp <;> with_reducible rfl) ?_
   try simp only [zN43, Act.put, zzI, zzO, zzS]
   refine tkH 3 zN44 _ C0 rfl (by kernel_rfl) rfl (fun W' hSw => by obtain ⟨x7, x21, y0⟩ := hSw; dsimp only [zN44]; go_simp <;> with_reducible rfl) ?_
   try simp only [zN44, Act.put, zzI, zzO, zzS]
   refine tkH 4 zN45 _ C0 rfl (by kernel_rfl) rfl (fun W h => by clear h; dsimp only [zN45]; go_simp <;> with_reducible rfl) ?_
   try simp only [zN45, Act.put, zzI, zzO, zzS]
   refine tkH 5 zN46 _ C0 rfl (by kernel_rfl) rfl (fun W h => by clear h; dsimp only [zN46]; go_simp <;> with_reducible rfl) ?_
   try simp only [zN46, Act.put, zzI, zzO, zzS]
   refine tkH 6 zN47 _ C0 rfl (by kernel_rfl) rfl (fun W h => by clear h; dsimp only [zN47]; go_simp <;> with_reducible rfl) ?_
   try simp only [zN47, Act.put, zzI, zzO, zzS]
   refine tkH 7 zN48 _ C0 rfl (by kernel_rfl) rfl (fun W' hSw => by obtain ⟨x7, x21, y0⟩ := hSw; dsimp only [zN48]; go_simp <;> with_reducible rfl) ?_
   try simp only [zN48, Act.put, zzI, zzO, zzS]
   refine tkH 8 zN49 _ C0 rfl (by kernel_rfl) rfl (fun W h => by clear h; dsimp only [zN49]; go_simp <;> with_reducible rfl) ?_
   try simp only [zN49, Act.put, zzI, zzO, zzS]
   refine tkH 9 zN50 _ C0 rfl (by kernel_rfl) rfl (fun W h => by clear h; dsimp only [zN50]; go_simp <;> with_reducible rfl) ?_
   try simp only [zN50, Act.put, zzI, zzO, zzS]
   refine tkH 10 zN51 _ C0 rfl (by kernel_rfl) rfl (fun W' hSw => by obtain ⟨x7, x21, y0⟩ := hSw; dsimp only [zN51]; go_simp <;> with_reducible rfl) ?_
   try simp only [zN51, Act.put, zzI, zzO, zzS]
   refine tkH 11 zN52 _ C0 rfl (by kernel_rfl) rfl (fun W h => by clear h; dsimp only [zN52]; go_simp <;> with_reducible rfl) ?_
   try simp only [zN52, Act.put, zzI, zzO, zzS]
   refine wpAnyH_ready (rs := [12]) (by kernel_rfl) (by simp) ?_
   refine AllReadyH.cons (o := { dst := none, op := Op.store 4 (Operand.tmp 23) (Operand.const (Value.bool false)), type := 0, pos := "ref.go:68", after := #[{ on := 11, ground := Ground.data }, { on := 0, ground := Ground.phase }, { on := 1, ground := Ground.phase }, { on := 2, ground := Ground.phase }, { on := 3, ground := Ground.phase }, { on := 4, ground := Ground.phase }, { on := 5, ground := Ground.phase }, { on := 6, ground := Ground.phase }, { on := 7, ground := Ground.phase }, { on := 8, ground := Ground.phase }, { on := 9, ground := Ground.phase }, { on := 10, ground := Ground.phase }], guard := none }) rfl (fun K hK => ?_) AllReadyH.nil
   have f0 := E1.out.frozen x
   have e0 := E1.out.cell HE0.out
   go_simp
   have hq := RJ.set_er (i := x) (er' := (j.lostK (k + 1)).er) C1.out.drew (R1.out.below ((Below.refl _ _).drew)) (by rw [HE0.out]; rfl) HST.out
   rw [HV.out] at hq
   have C2 := Lib.hid (show CRow _ p 41 (rjCells g (j.lostK (k + 1)) m) from hq.1)
   have R2 := Lib.hid (show RjR ρ _ p g (j.lostK (k + 1)) m from hq.2.1)
   have B2 := Lib.hid (B1.out.drew.trans hq.2.2 fun q _ e => I0.out q (by have e : q = m.e := e; rw [e, R1.out.re]; decide))
   have Z2 := Lib.hid (Nat.le_trans Z1.out hq.2.2.size)
   have Y2 := Lib.hid (hq.2.2.block b9 (by have := R1.out.lt b9 (by rw [HB9.out]; decide); exact this) (fun e => by have e : b9 = m.e := e; have h1 := HB9.out; have h2 := R1.out.re; rw [e] at h1; omega))
   clear hq
   refine hK.out _ _ ⟨C7.out _ _ C2.out, CQ.out _ _ C2.out, (World.cell?_of_block (a := ⟨b9, k, none⟩) Y2.out).trans y0⟩ (fun C1 => ?_)
   clear hK K
   try simp only [Act.put]
   refine wpAnyH_done (by kernel_rfl) ?_ _
   refine NoPanic.normal ?_
   go_wp2
   go_roundw
   case rel => exact ⟨k + 1, by omega, by go_num, Lib.hid C2.out, Lib.hid R2.out, B2, Z2⟩
   case measure => simp [intOf]; omega
  ·
   obtain rfl : k = n := by omega
   have d1 : decide ((k : Int) < (k : Int)) = false := decide_eq_false (by omega)
   have F1 := Lib.hid (show j.lostK k = { j with er := fun b => if b ∈ j.erases then false else j.er b } by unfold Jd.lostK; rw [HN.out, List.take_length])
   have f21 := C1.out.frozen 21
   have S1 := Lib.hid (C1.out.setCell 21 (.slice none 0 0))
   have K1 := Lib.hid ((Btw.refl (I := fun k => k = p) wr).setCell (p := ⟨p, 21, none⟩) (v := .slice none 0 0) rfl)
   go_wp2
   go_end0
   have H := RJ.of (I := I) (j' := j.lost) (m' := { m with aE := none, cE := 0 }) R1.out I0.out (fun q hq => N0.out q (Nat.le_trans Z1.out hq)) (by
    have h0 := S1.out
    rw [F1.out] at h0
    simpa [rjCells, Jd.lost] using h0) K1.out fun W h => by
     rw [F1.out] at h
     exact { h with ers := ⟨rfl, .inl ⟨rfl, rfl⟩⟩, rE := fun k hk => by cases hk }
   exact ⟨rfl, H.1, B1.out.trans H.2 fun _ _ h => h⟩
/-- Everything that goes on ends. -/
def Jd.rreset (j : Jd) : Jd := ({ j.lost with rows := [], blocks := [], bg := false, data := false } : Jd).enter 1
theorem rreset (hE : ∀ b ∈ j.erases, b < g.b.toNat) (hn : j.erases.length ≤ 1000000) (h : RJ I w p g j) : Calls Try.prog 24 #[.pointer (some ⟨p, 0, none⟩)] w (ActsR I p g (.tuple #[]) j.rreset w) := by
 have HL := Lib.hid (rlost hE hn h)
 clear h hE hn
 go_enter Try.func24, Try.ntmps24
 go_wp2_with fail
 refine HL.out.mono ?_
 rintro _ w1 ⟨rfl, h1, b1⟩
 obtain ⟨ρ, m, hc, hr, hi, hnw⟩ := h1
 have C0 := Lib.hid hc
 have R0 := Lib.hid hr
 have I0 := Lib.hid hi
 have N0 := Lib.hid hnw
 have B1 := Lib.hid b1
 clear hc hr hi hnw b1 HL
 have x19 := C0.out.cell_at 19 (.slice m.aR (j.lost).rows.length m.cR) rfl
 have f19 := C0.out.frozen 19
 have S1 := Lib.hid (C0.out.setCell 19 (.slice none 0 0))
 have K1 := Lib.hid (((Btw.refl (I := fun k => k = p) w1)).setCell (p := ⟨p, 19, none⟩) (v := .slice none 0 0) rfl)
 have x20 := S1.out.cell_at 20 (.slice m.aB (j.lost).blocks.length m.cB) rfl
 have f20 := S1.out.frozen 20
 have S2 := Lib.hid (S1.out.setCell 20 (.slice none 0 0))
 have K2 := Lib.hid ((K1.out).setCell (p := ⟨p, 20, none⟩) (v := .slice none 0 0) rfl)
 have x15 := S2.out.cell_at 15 (.bool (j.lost).bg) rfl
 have f15 := S2.out.frozen 15
 have S3 := Lib.hid (S2.out.setCell 15 (.bool false))
 have K3 := Lib.hid ((K2.out).setCell (p := ⟨p, 15, none⟩) (v := .bool false) rfl)
 have x17 := S3.out.cell_at 17 (.bool (j.lost).data) rfl
 have f17 := S3.out.frozen 17
 have S4 := Lib.hid (S3.out.setCell 17 (.bool false))
 have K4 := Lib.hid ((K3.out).setCell (p := ⟨p, 17, none⟩) (v := .bool false) rfl)
 have H := Lib.hid (RJ.of (I := I) (j' := { j.lost with rows := [], blocks := [], bg := false, data := false }) (m' := { m with aR := none, cR := 0, aB := none, cB := 0 }) R0.out I0.out N0.out (by
  have h0 := S4.out
  simpa [rjCells, Jd.lost] using h0) K4.out fun W h => { h with row := ⟨rfl, .inl ⟨rfl, rfl⟩⟩, rR := fun k hk => (by cases hk), blk := ⟨rfl, .inl ⟨rfl, rfl⟩⟩, rB := fun k hk => by cases hk })
 have HFR := Lib.hid (rfree H.out.1)
 go_wp2_with fail
 refine HFR.out.mono ?_
 rintro _ w2 ⟨rfl, h2, b2⟩
 have H2 := Lib.hid h2
 have B2 := Lib.hid ((B1.out.trans H.out.2 fun _ _ h => h).trans b2 fun _ _ h => h)
 clear h2 b2 HFR H
 go_wp2
 go_end0
 exact ⟨rfl, H2.out, B2.out⟩
def Jd.rpower (j : Jd) : Jd := { j.rreset with op := 0, busy := false, pol := false, rej := false }
theorem rpower (hE : ∀ b ∈ j.erases, b < g.b.toNat) (hn : j.erases.length ≤ 1000000) (h : RJ I w p g j) : Calls Try.prog 12 #[.pointer (some ⟨p, 0, none⟩)] w (ActsR I p g (.tuple #[]) j.rpower w) := by
 have HL := Lib.hid (rreset hE hn h)
 clear h hE hn
 go_enter Try.func12, Try.ntmps12
 go_wp2_with fail
 refine HL.out.mono ?_
 rintro _ w1 ⟨rfl, h1, b1⟩
 obtain ⟨ρ, m, hc, hr, hi, hnw⟩ := h1
 have C0 := Lib.hid hc
 have R0 := Lib.hid hr
 have I0 := Lib.hid hi
 have N0 := Lib.hid hnw
 have B1 := Lib.hid b1
 clear hc hr hi hnw b1 HL
 have x10 := C0.out.cell_at 10 (.int .i64 ((j.rreset).op : Int)) rfl
 have f10 := C0.out.frozen 10
 have S1 := Lib.hid (C0.out.setCell 10 (.int .i64 0))
 have K1 := Lib.hid (((Btw.refl (I := fun k => k = p) w1)).setCell (p := ⟨p, 10, none⟩) (v := .int .i64 0) rfl)
 have x14 := S1.out.cell_at 14 (.bool (j.rreset).busy) rfl
 have f14 := S1.out.frozen 14
 have S2 := Lib.hid (S1.out.setCell 14 (.bool false))
 have K2 := Lib.hid ((K1.out).setCell (p := ⟨p, 14, none⟩) (v := .bool false) rfl)
 have x13 := S2.out.cell_at 13 (.bool (j.rreset).pol) rfl
 have f13 := S2.out.frozen 13
 have S3 := Lib.hid (S2.out.setCell 13 (.bool false))
 have K3 := Lib.hid ((K2.out).setCell (p := ⟨p, 13, none⟩) (v := .bool false) rfl)
 have x22 := S3.out.cell_at 22 (.bool (j.rreset).rej) rfl
 have f22 := S3.out.frozen 22
 have S4 := Lib.hid (S3.out.setCell 22 (.bool false))
 have K4 := Lib.hid ((K3.out).setCell (p := ⟨p, 22, none⟩) (v := .bool false) rfl)
 go_wp2
 go_end0
 have H := RJ.of (I := I) (j' := j.rpower) (m' := m) R0.out I0.out N0.out (by
  have h0 := S4.out
  simpa [rjCells, Jd.rpower] using h0) K4.out fun W h => { h with }
 exact ⟨rfl, H.1, B1.out.trans H.2 fun _ _ h => h⟩
end
end Go.Proofs.Ytaidgjidpghgnaa
