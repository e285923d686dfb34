/-
  The document's judge: address.
-/
import Derived.Test.YtaidgjidpghgnaaTk
import Derived.Test.YtaidgjidpghgnaaJudgeStepsJ10
import Derived.Test.YtaidgjidpghgnaaJudgeStepsJ6
import Derived.Test.YtaidgjidpghgnaaJudgeStepsJ9
namespace Go.Proofs.Ytaidgjidpghgnaa
open Go.RowKit
set_option maxRecDepth 100000
def zRc0 : Oper := { dst := some 90, op := Op.call { callee := Callee.value (Operand.func 45), args := #[Operand.tmp 89, Operand.const (Value.int IntKind.i64 2)], argTypes := #[33, 3] }, type := 3, pos := "ref.go:278", after := #[{ on := 0, ground := Ground.data }], guard := none }
def zRc1 : Oper := { dst := some 106, op := Op.call { callee := Callee.value (Operand.func 47), args := #[Operand.tmp 105], argTypes := #[23] }, type := 3, pos := "ref.go:278", after := #[{ on := 16, ground := Ground.data }, { on := 8, ground := Ground.chain }, { on := 8, ground := Ground.guard }], guard := some (8, true) }
def zRc2 : Oper := { dst := some 123, op := Op.call { callee := Callee.value (Operand.func 45), args := #[Operand.tmp 122, Operand.const (Value.int IntKind.i64 0)], argTypes := #[33, 3] }, type := 3, pos := "ref.go:283", after := #[{ on := 6, ground := Ground.data }, { on := 5, ground := Ground.chain }, { on := 5, ground := Ground.guard }], guard := some (5, true) }
def zRc3 : Oper := { dst := some 128, op := Op.call { callee := Callee.value (Operand.func 47), args := #[Operand.tmp 127], argTypes := #[23] }, type := 3, pos := "ref.go:283", after := #[{ on := 11, ground := Ground.data }, { on := 7, ground := Ground.chain }, { on := 5, ground := Ground.guard }], guard := some (5, true) }
def zRc4 : Oper := { dst := some 144, op := Op.call { callee := Callee.value (Operand.func 45), args := #[Operand.tmp 143, Operand.const (Value.int IntKind.i64 0)], argTypes := #[33, 3] }, type := 3, pos := "ref.go:286", after := #[{ on := 6, ground := Ground.data }, { on := 5, ground := Ground.chain }, { on := 5, ground := Ground.guard }], guard := some (5, true) }
def zR0 : Oper := { dst := some 89, op := Op.move (Operand.tmp 0), type := 33, pos := "ref.go:278", after := #[], guard := none }
def zR1 : Oper := { dst := some 91, op := Op.move (Operand.tmp 0), type := 33, pos := "ref.go:278", after := #[], guard := none }
def zR2 : Oper := { dst := some 92, op := Op.nilCheck (Operand.tmp 91), type := 0, pos := "ref.go:278", after := #[{ on := 2, ground := Ground.data }], guard := none }
def zR3 : Oper := { dst := some 93, op := Op.fieldAddr 41 (Operand.tmp 92) 3, type := 0, pos := "ref.go:278", after := #[{ on := 3, ground := Ground.data }], guard := none }
def zR4 : Oper := { dst := some 94, op := Op.load 39 (Operand.tmp 93), type := 39, pos := "ref.go:278", after := #[{ on := 4, ground := Ground.data }], guard := none }
def zR5 : Oper := { dst := some 95, op := Op.call { callee := Callee.builtin Builtin.len, args := #[Operand.tmp 94], argTypes := #[39] }, type := 3, pos := "ref.go:278", after := #[{ on := 5, ground := Ground.data }], guard := none }
def zR6 : Oper := { dst := some 96, op := Op.binOp BinOp.lss 3 (Operand.tmp 90) (Operand.tmp 95) 3, type := 4, pos := "ref.go:278", after := #[{ on := 1, ground := Ground.data }, { on := 6, ground := Ground.data }], guard := none }
def zR7 : Oper := { dst := some 97, op := Op.move (Operand.tmp 96), type := 4, pos := "ref.go:278", after := #[{ on := 7, ground := Ground.data }, { on := 1, ground := Ground.chain }], guard := none }
def zR8 : Oper := { dst := some 98, op := Op.move (Operand.tmp 0), type := 33, pos := "ref.go:278", after := #[{ on := 8, ground := Ground.guard }], guard := some (8, true) }
def zR9 : Oper := { dst := some 99, op := Op.nilCheck (Operand.tmp 98), type := 0, pos := "ref.go:278", after := #[{ on := 9, ground := Ground.data }, { on := 8, ground := Ground.guard }], guard := some (8, true) }
def zR10 : Oper := { dst := some 100, op := Op.fieldAddr 41 (Operand.tmp 99) 12, type := 0, pos := "ref.go:278", after := #[{ on := 10, ground := Ground.data }, { on := 8, ground := Ground.guard }], guard := some (8, true) }
def zR11 : Oper := { dst := some 101, op := Op.load 3 (Operand.tmp 100), type := 3, pos := "ref.go:278", after := #[{ on := 11, ground := Ground.data }, { on := 8, ground := Ground.guard }], guard := some (8, true) }
def zR12 : Oper := { dst := some 102, op := Op.move (Operand.tmp 0), type := 33, pos := "ref.go:278", after := #[{ on := 8, ground := Ground.guard }], guard := some (8, true) }
def zR13 : Oper := { dst := some 103, op := Op.nilCheck (Operand.tmp 102), type := 0, pos := "ref.go:278", after := #[{ on := 13, ground := Ground.data }, { on := 8, ground := Ground.guard }], guard := some (8, true) }
def zR14 : Oper := { dst := some 104, op := Op.fieldAddr 41 (Operand.tmp 103) 0, type := 0, pos := "ref.go:278", after := #[{ on := 14, ground := Ground.data }, { on := 8, ground := Ground.guard }], guard := some (8, true) }
def zR15 : Oper := { dst := some 105, op := Op.load 23 (Operand.tmp 104), type := 23, pos := "ref.go:278", after := #[{ on := 15, ground := Ground.data }, { on := 8, ground := Ground.guard }], guard := some (8, true) }
def zR16 : Oper := { dst := some 107, op := Op.binOp BinOp.lss 3 (Operand.tmp 101) (Operand.tmp 106) 3, type := 4, pos := "ref.go:278", after := #[{ on := 12, ground := Ground.data }, { on := 17, ground := Ground.data }, { on := 8, ground := Ground.guard }], guard := some (8, true) }
def zR17 : Oper := { dst := some 108, op := Op.pick (Operand.tmp 97) (Operand.tmp 107) (Operand.const (Value.bool false)), type := 4, pos := "ref.go:278", after := #[{ on := 8, ground := Ground.data }, { on := 18, ground := Ground.data }], guard := none }
def zR18 : Oper := { dst := some 4, op := Op.assign (Operand.tmp 108), type := 4, pos := "ref.go:278", after := #[{ on := 19, ground := Ground.data }, { on := 17, ground := Ground.chain }, { on := 0, ground := Ground.phase }, { on := 1, ground := Ground.phase }, { on := 2, ground := Ground.phase }, { on := 3, ground := Ground.phase }, { on := 4, ground := Ground.phase }, { on := 5, ground := Ground.phase }, { on := 6, ground := Ground.phase }, { on := 7, ground := Ground.phase }, { on := 8, ground := Ground.phase }, { on := 9, ground := Ground.phase }, { on := 10, ground := Ground.phase }, { on := 11, ground := Ground.phase }, { on := 12, ground := Ground.phase }, { on := 13, ground := Ground.phase }, { on := 14, ground := Ground.phase }, { on := 15, ground := Ground.phase }, { on := 16, ground := Ground.phase }, { on := 17, ground := Ground.phase }, { on := 18, ground := Ground.phase }, { on := 19, ground := Ground.phase }], guard := none }
def zR19 : Oper := { dst := some 106, op := Op.call { callee := Callee.value (Operand.func 47), args := #[Operand.tmp 105], argTypes := #[23] }, type := 3, pos := "ref.go:278", after := #[{ on := 16, ground := Ground.data }, { on := 8, ground := Ground.chain }, { on := 8, ground := Ground.guard }], guard := some (8, true) }
def zR20 : Oper := { dst := some 116, op := Op.move (Operand.tmp 5), type := 3, pos := "ref.go:283", after := #[], guard := none }
def zR21 : Oper := { dst := some 117, op := Op.binOp BinOp.eql 3 (Operand.tmp 116) (Operand.const (Value.int IntKind.i64 0)) 3, type := 4, pos := "ref.go:283", after := #[{ on := 0, ground := Ground.data }], guard := none }
def zR22 : Oper := { dst := some 118, op := Op.move (Operand.tmp 117), type := 4, pos := "ref.go:283", after := #[{ on := 1, ground := Ground.data }], guard := none }
def zR23 : Oper := { dst := some 119, op := Op.move (Operand.tmp 5), type := 3, pos := "ref.go:283", after := #[{ on := 2, ground := Ground.guard }], guard := some (2, false) }
def zR24 : Oper := { dst := some 120, op := Op.binOp BinOp.eql 3 (Operand.tmp 119) (Operand.const (Value.int IntKind.i64 1)) 3, type := 4, pos := "ref.go:283", after := #[{ on := 3, ground := Ground.data }, { on := 2, ground := Ground.guard }], guard := some (2, false) }
def zR25 : Oper := { dst := some 121, op := Op.move (Operand.tmp 120), type := 4, pos := "ref.go:283", after := #[{ on := 4, ground := Ground.data }, { on := 2, ground := Ground.chain }, { on := 2, ground := Ground.guard }], guard := some (2, false) }
def zR26 : Oper := { dst := some 122, op := Op.move (Operand.tmp 0), type := 33, pos := "ref.go:283", after := #[{ on := 5, ground := Ground.guard }], guard := some (5, true) }
def zR27 : Oper := { dst := some 123, op := Op.call { callee := Callee.value (Operand.func 45), args := #[Operand.tmp 122, Operand.const (Value.int IntKind.i64 0)], argTypes := #[33, 3] }, type := 3, pos := "ref.go:283", after := #[{ on := 6, ground := Ground.data }, { on := 5, ground := Ground.chain }, { on := 5, ground := Ground.guard }], guard := some (5, true) }
def zR28 : Oper := { dst := some 124, op := Op.move (Operand.tmp 0), type := 33, pos := "ref.go:283", after := #[{ on := 5, ground := Ground.guard }], guard := some (5, true) }
def zR29 : Oper := { dst := some 125, op := Op.nilCheck (Operand.tmp 124), type := 0, pos := "ref.go:283", after := #[{ on := 8, ground := Ground.data }, { on := 5, ground := Ground.guard }], guard := some (5, true) }
def zR30 : Oper := { dst := some 126, op := Op.fieldAddr 41 (Operand.tmp 125) 0, type := 0, pos := "ref.go:283", after := #[{ on := 9, ground := Ground.data }, { on := 5, ground := Ground.guard }], guard := some (5, true) }
def zR31 : Oper := { dst := some 127, op := Op.load 23 (Operand.tmp 126), type := 23, pos := "ref.go:283", after := #[{ on := 10, ground := Ground.data }, { on := 5, ground := Ground.guard }], guard := some (5, true) }
def zR32 : Oper := { dst := some 128, op := Op.call { callee := Callee.value (Operand.func 47), args := #[Operand.tmp 127], argTypes := #[23] }, type := 3, pos := "ref.go:283", after := #[{ on := 11, ground := Ground.data }, { on := 7, ground := Ground.chain }, { on := 5, ground := Ground.guard }], guard := some (5, true) }
def zR33 : Oper := { dst := some 129, op := Op.binOp BinOp.lss 3 (Operand.tmp 123) (Operand.tmp 128) 3, type := 4, pos := "ref.go:283", after := #[{ on := 7, ground := Ground.data }, { on := 12, ground := Ground.data }, { on := 5, ground := Ground.guard }], guard := some (5, true) }
def zR34 : Oper := { dst := some 130, op := Op.pick (Operand.tmp 121) (Operand.tmp 129) (Operand.const (Value.bool false)), type := 4, pos := "ref.go:283", after := #[{ on := 5, ground := Ground.data }, { on := 13, ground := Ground.data }, { on := 2, ground := Ground.guard }], guard := some (2, false) }
def zR35 : Oper := { dst := some 131, op := Op.pick (Operand.tmp 118) (Operand.const (Value.bool true)) (Operand.tmp 130), type := 4, pos := "ref.go:283", after := #[{ on := 2, ground := Ground.data }, { on := 14, ground := Ground.data }], guard := none }
def zR36 : Oper := { dst := some 4, op := Op.assign (Operand.tmp 131), type := 4, pos := "ref.go:283", after := #[{ on := 15, ground := Ground.data }, { on := 12, ground := Ground.chain }, { on := 0, ground := Ground.phase }, { on := 1, ground := Ground.phase }, { on := 2, ground := Ground.phase }, { on := 3, ground := Ground.phase }, { on := 4, ground := Ground.phase }, { on := 5, ground := Ground.phase }, { on := 6, ground := Ground.phase }, { on := 7, ground := Ground.phase }, { on := 8, ground := Ground.phase }, { on := 9, ground := Ground.phase }, { on := 10, ground := Ground.phase }, { on := 11, ground := Ground.phase }, { on := 12, ground := Ground.phase }, { on := 13, ground := Ground.phase }, { on := 14, ground := Ground.phase }, { on := 15, ground := Ground.phase }], guard := none }
def zR37 : Oper := { dst := some 137, op := Op.move (Operand.tmp 5), type := 3, pos := "ref.go:286", after := #[], guard := none }
def zR38 : Oper := { dst := some 138, op := Op.binOp BinOp.eql 3 (Operand.tmp 137) (Operand.const (Value.int IntKind.i64 0)) 3, type := 4, pos := "ref.go:286", after := #[{ on := 0, ground := Ground.data }], guard := none }
def zR39 : Oper := { dst := some 139, op := Op.move (Operand.tmp 138), type := 4, pos := "ref.go:286", after := #[{ on := 1, ground := Ground.data }], guard := none }
def zR40 : Oper := { dst := some 140, op := Op.move (Operand.tmp 5), type := 3, pos := "ref.go:286", after := #[{ on := 2, ground := Ground.guard }], guard := some (2, false) }
def zR41 : Oper := { dst := some 141, op := Op.binOp BinOp.eql 3 (Operand.tmp 140) (Operand.const (Value.int IntKind.i64 1)) 3, type := 4, pos := "ref.go:286", after := #[{ on := 3, ground := Ground.data }, { on := 2, ground := Ground.guard }], guard := some (2, false) }
def zR42 : Oper := { dst := some 142, op := Op.move (Operand.tmp 141), type := 4, pos := "ref.go:286", after := #[{ on := 4, ground := Ground.data }, { on := 2, ground := Ground.chain }, { on := 2, ground := Ground.guard }], guard := some (2, false) }
def zR43 : Oper := { dst := some 143, op := Op.move (Operand.tmp 0), type := 33, pos := "ref.go:286", after := #[{ on := 5, ground := Ground.guard }], guard := some (5, true) }
def zR44 : Oper := { dst := some 144, op := Op.call { callee := Callee.value (Operand.func 45), args := #[Operand.tmp 143, Operand.const (Value.int IntKind.i64 0)], argTypes := #[33, 3] }, type := 3, pos := "ref.go:286", after := #[{ on := 6, ground := Ground.data }, { on := 5, ground := Ground.chain }, { on := 5, ground := Ground.guard }], guard := some (5, true) }
def zR45 : Oper := { dst := some 145, op := Op.move (Operand.tmp 0), type := 33, pos := "ref.go:286", after := #[{ on := 5, ground := Ground.guard }], guard := some (5, true) }
def zR46 : Oper := { dst := some 146, op := Op.nilCheck (Operand.tmp 145), type := 0, pos := "ref.go:286", after := #[{ on := 8, ground := Ground.data }, { on := 5, ground := Ground.guard }], guard := some (5, true) }
def zR47 : Oper := { dst := some 147, op := Op.fieldAddr 41 (Operand.tmp 146) 3, type := 0, pos := "ref.go:286", after := #[{ on := 9, ground := Ground.data }, { on := 5, ground := Ground.guard }], guard := some (5, true) }
def zR48 : Oper := { dst := some 148, op := Op.load 39 (Operand.tmp 147), type := 39, pos := "ref.go:286", after := #[{ on := 10, ground := Ground.data }, { on := 5, ground := Ground.guard }], guard := some (5, true) }
def zR49 : Oper := { dst := some 149, op := Op.call { callee := Callee.builtin Builtin.len, args := #[Operand.tmp 148], argTypes := #[39] }, type := 3, pos := "ref.go:286", after := #[{ on := 11, ground := Ground.data }, { on := 5, ground := Ground.guard }], guard := some (5, true) }
def zR50 : Oper := { dst := some 150, op := Op.binOp BinOp.lss 3 (Operand.tmp 144) (Operand.tmp 149) 3, type := 4, pos := "ref.go:286", after := #[{ on := 7, ground := Ground.data }, { on := 12, ground := Ground.data }, { on := 5, ground := Ground.guard }], guard := some (5, true) }
def zR51 : Oper := { dst := some 151, op := Op.pick (Operand.tmp 142) (Operand.tmp 150) (Operand.const (Value.bool false)), type := 4, pos := "ref.go:286", after := #[{ on := 5, ground := Ground.data }, { on := 13, ground := Ground.data }, { on := 2, ground := Ground.guard }], guard := some (2, false) }
def zR52 : Oper := { dst := some 152, op := Op.pick (Operand.tmp 139) (Operand.const (Value.bool true)) (Operand.tmp 151), type := 4, pos := "ref.go:286", after := #[{ on := 2, ground := Ground.data }, { on := 14, ground := Ground.data }], guard := none }
def zR53 : Oper := { dst := some 4, op := Op.assign (Operand.tmp 152), type := 4, pos := "ref.go:286", after := #[{ on := 15, ground := Ground.data }, { on := 7, ground := Ground.chain }, { on := 0, ground := Ground.phase }, { on := 1, ground := Ground.phase }, { on := 2, ground := Ground.phase }, { on := 3, ground := Ground.phase }, { on := 4, ground := Ground.phase }, { on := 5, ground := Ground.phase }, { on := 6, ground := Ground.phase }, { on := 7, ground := Ground.phase }, { on := 8, ground := Ground.phase }, { on := 9, ground := Ground.phase }, { on := 10, ground := Ground.phase }, { on := 11, ground := Ground.phase }, { on := 12, ground := Ground.phase }, { on := 13, ground := Ground.phase }, { on := 14, ground := Ground.phase }, { on := 15, ground := Ground.phase }], guard := none }

section
variable {ρ : Nat → Nat} {I K : Nat → Prop} {w w' : World} {p : Nat} {g : Gm} {j j' : Jd} {m m' : RjM}
def Jd.rpush (j : Jd) (b : Nat) : Jd := { j with listed := j.listed ++ [b] }
/-- An Address. -/
def Jd.raddr (g : Gm) (j : Jd) (b : Nat) : Bool × Jd :=
 if j.op = 2 then (decide (j.listed.length = 0 ∧ b = 0), j.rpush b)
 else if j.op = 4 then (decide (j.listed.length = 0 ∧ b = 137), j.rpush b)
 else if j.op = 3 then (if j.listed.length = 0 ∧ b = 0 then (true, ({ j.rpush b with col := 0, data := true } : Jd).start) else (false, j.rpush b))
 else if j.op = 5 ∨ j.op = 8 then
  (if j.listed.length = 3 then (decide ((j.rpush b).addr2 2 < g.rows_) && decide ((j.rpush b).addr2 0 < g.raw.toNat), { j.rpush b with data := if j.op = 5 then false else j.data, col := (j.rpush b).addr2 0 })
  else (decide (j.listed.length < 3), { j.rpush b with data := if j.op = 5 then false else j.data }))
 else if j.op = 7 then (decide (j.listed.length = 0 ∨ (j.listed.length = 1 ∧ (j.rpush b).addr2 0 < g.raw.toNat)), j.rpush b)
 else if j.op = 9 then (decide (j.listed.length = 0 ∨ (j.listed.length = 1 ∧ (j.rpush b).addr2 0 < g.rows_)), j.rpush b)
 else (false, j.rpush b)
theorem rpushed {ρ' : Nat → Nat} {o : Obj} {w3 : World} {A3 : Option Addr} {c3 n b : Nat} (hc : CRow w p 41 (rjCells g j m)) (hr : RjR ρ w p g j m) (hi : ∀ k, ρ k ≠ 0 → I k) (hnw : ∀ k, w.heap.size ≤ k → I k) (hln : n = j.listed.length)
  (hr2 : RjR ρ' w3 p g (j.rpush b) { m with aL := A3, cL := c3 }) (hi2 : ∀ k, ρ' k ≠ 0 → ρ k ≠ 0 ∨ (w.alloc o).heap.size ≤ k) (hb2 : Btw (fun k => ρ k = 5) (w.alloc o) w3) :
  (∀ k, ρ' k ≠ 0 → I k) ∧ Btw I w w3 ∧ (∀ k, w3.heap.size ≤ k → I k) ∧ CRow w3 p 41 (rjCells g j m) ∧ CRow (w3.setCell ⟨p, 11, none⟩ (.slice A3 (n + 1) c3)) p 41 (rjCells g (j.rpush b) { m with aL := A3, cL := c3 }) ∧
   RjR ρ' (w3.setCell ⟨p, 11, none⟩ (.slice A3 (n + 1) c3)) p g (j.rpush b) { m with aL := A3, cL := c3 } ∧ Btw I w (w3.setCell ⟨p, 11, none⟩ (.slice A3 (n + 1) c3)) ∧ ∀ k, (w3.setCell ⟨p, 11, none⟩ (.slice A3 (n + 1) c3)).heap.size ≤ k → I k := by
 have e : (w.alloc o).heap.size = w.heap.size + 1 := by simp
 have i2 : ∀ k, ρ' k ≠ 0 → I k := fun k hk => by
  rcases hi2 k hk with h1 | h1
  ·
   exact hi k h1
  ·
   exact hnw k (by omega)
 have b2 : Btw I w w3 := (Btw.of_below (below_new w o)).trans hb2 fun k _ hk => hi k (by have hk : ρ k = 5 := hk; rw [hk]; decide)
 have n2 : ∀ k, w3.heap.size ≤ k → I k := fun k hk => hnw k (Nat.le_trans b2.size hk)
 have hc3 : CRow w3 p 41 (rjCells g j m) := (hc.alloc _).btw hb2 (fun e => by have e : ρ p = 5 := e; have := hr.rp; omega)
 have s1 := hc3.setCell 11 (.slice A3 (n + 1) c3)
 have k1 := (Btw.refl (I := fun k => k = p) w3).setCell (p := ⟨p, 11, none⟩) (v := .slice A3 (n + 1) c3) rfl
 have e9 : (rjCells g j m).setIfInBounds 11 (.slice A3 (n + 1) c3) = rjCells g (j.rpush b) { m with aL := A3, cL := c3 } := by simp [rjCells, Jd.rpush, hln]
 exact ⟨i2, b2, n2, hc3, e9 ▸ s1, hr2.btw k1 fun k e => .inr (by have e : k = p := e; rw [e]; exact hr2.rp), b2.trans k1 fun k _ e => i2 k (by have e : k = p := e; rw [e, hr2.rp]; decide), fun k hk => n2 k (Nat.le_trans k1.size hk)⟩
set_option maxHeartbeats 16000000 in
theorem raddr (b : Nat) (hb8 : b < 256) (hl : j.listed.length ≤ 1000) (h8 : ∀ x ∈ j.listed, x < 256) (hop : j.op ≤ 9) (h : RJ I w p g j) : Calls Try.prog 33 #[.pointer (some ⟨p, 0, none⟩), .int .i64 (b : Int)] w (ActsR I p g (.bool (j.raddr g b).1) (j.raddr g b).2 w) := by
 have hg := h.ok
 obtain ⟨ρ, m, hc, hr, hi, hnw⟩ := h
 have C0 := Lib.hid hc
 have R0 := Lib.hid hr
 have I0 := Lib.hid hi
 have N0 := Lib.hid hnw
 obtain ⟨n, hn⟩ : ∃ n, n = j.listed.length := ⟨_, rfl⟩
 have HN := Lib.hid hn
 have X11 := Lib.hid (show w.cell? ⟨p, 11, none⟩ = some (.slice m.aL n m.cL) by rw [hn]; exact hc.cell_at 11 _ rfl)
 have LJ := Lib.hid (show (JI j.listed).length = n by rw [JI_length, hn])
 have OL := Lib.hid (show w.ownsRow 0 3 1 (.slice m.aL n m.cL) n (I64 (JI j.listed)) by rw [hn]; exact hr.lis)
 have LN := Lib.hid (show n ≤ 1000 by omega)
 have LN2 := LN.out
 have L8 := Lib.hid (show ∀ x ∈ (j.rpush b).listed, x < 256 from fun x hx => by
  rcases List.mem_append.1 hx with h1 | h1
  ·
   exact h8 x h1
  ·
   rw [List.mem_singleton.1 h1]; exact hb8)
 have LP := Lib.hid (show (j.rpush b).listed.length = n + 1 by show (j.listed ++ [b]).length = n + 1; simp [hn])
 have HTW := Lib.hid (fun W (k : Nat) (hk : k + 1 < n + 1) (hh : RJ I W p g (j.rpush b)) => rtwo k (by rw [LP.out]; exact hk) (by rw [LP.out]; omega) L8.out hh)
 have HRQ := Lib.hid (fun W => RefRaw_any g W hg)
 have hraw0 : 0 ≤ g.raw ∧ g.raw ≤ 9000 := by
  have hb := Gm.bounds_of hg
  have e7 : g.raw = g.c * (g.k + 2) + 31 := by unfold Gm.raw; rw [if_pos hg]
  have := mul_le (m := 16) (n := 514) (show 0 ≤ g.c by omega) (by omega) (show 0 ≤ g.k + 2 by omega) (by omega)
  omega
 obtain ⟨N, hN⟩ : ∃ N, N = g.raw.toNat := ⟨_, rfl⟩
 have HNN := Lib.hid hN
 have hraw : g.raw = (N : Int) := by rw [hN]; omega
 have HRAW := Lib.hid hraw
 rw [hraw] at HRQ
 obtain ⟨R, hR⟩ : ∃ R, R = g.rows_ := ⟨_, rfl⟩
 have HRR := Lib.hid hR
 have HBB := Lib.hid hb8
 obtain ⟨o, ho⟩ : ∃ o, o = j.op := ⟨_, rfl⟩
 have HOO := Lib.hid ho
 have ho9 : o ≤ 9 := by omega
 clear hc hr hi hnw hn hl h8 hop hN hraw hR ho hg hraw0
 have hcs : o = 2 ∨ o = 4 ∨ o = 3 ∨ o = 5 ∨ o = 8 ∨ o = 7 ∨ o = 9 ∨ (o ≠ 2 ∧ o ≠ 4 ∧ o ≠ 3 ∧ o ≠ 5 ∧ o ≠ 8 ∧ o ≠ 7 ∧ o ≠ 9) := by omega
 rcases hcs with rfl | rfl | rfl | rfl | rfl | rfl | rfl | ⟨h2, h4, h3, h5, h8, h7, h9⟩
 ·
  skip
  have HO := Lib.hid (show j.op = 2 from HOO.out.symm)
  by_cases hn : n = 0
  ·
   skip
   have bn0 : (((n : Nat) : Int) == 0) = true := by simp; omega
   have jn0 : (((n : Nat) : Int) = 0) = True := eq_true (by omega)
   have kn0 : (n = 0) = True := eq_true (by omega)
   have dn0 : decide (((n : Nat) : Int) = 0) = true := decide_eq_true (by omega)
   have g0 : decide ((0 : Int) < (n : Int)) = false := decide_eq_false (by omega)
   have g1 : decide (0 < n) = false := decide_eq_false (by omega)
   have g2 : (0 < n) = False := eq_false (by omega)
   by_cases hb : b = 0
   ·
    subst hb
    have HR := Lib.hid (show j.raddr g 0 = (true, j.rpush 0) by unfold Jd.raddr; rw [HO.out, if_pos rfl, ← HN.out, hn]; rfl)
    clear HBB hb8 hn
    go_enter Try.func33, Try.ntmps33
    have x11 : w.cell? ⟨p, 11, none⟩ = some (.slice m.aL n m.cL) := X11.out
    go_wp2_with (at_builtin; refine japp64 (w.alloc (.cells #[.int .i64 0] 3)) rfl (.tmp 15) (.tmp 17) rfl 0 _ (JI j.listed) n LJ.out rfl (OL.out.alloc _) ⟨w.heap.size, 0, none⟩ 1 0 rfl (jone64 w 0 _) (by have := LN.out; omega) (Nat.zero_le _) ?_)
    intro v3 w3 hown hg hwh
    obtain ⟨A3, c3, rfl⟩ := jown_form hown
    have hln : n = j.listed.length := HN.out
    have hpu := (R0.out.below (below_new w (.cells #[.int .i64 0] 3))).pushL (w3 := w3) (A3 := A3) (c3 := c3) 0 (by rw [← hln]; exact hown) (by rw [← hln]; exact hg) (by
     rw [← hln]
     first
     | exact hwh
     | (have e9 : (w.alloc (.cells #[.int .i64 0] 3)).heap.size = w.heap.size + 1 := by simp
        rw [e9]
        exact hwh))
    obtain ⟨ρ', hr2, hi2, hb2⟩ := hpu
    obtain ⟨i2, b2, n2, hc3, hp, r3, b3, n3⟩ := rpushed C0.out R0.out I0.out N0.out hln (show RjR ρ' w3 p g (j.rpush 0) { m with aL := A3, cL := c3 } from hr2) hi2 hb2
    have I2 := Lib.hid i2
    have y11 : w3.cell? ⟨p, 11, none⟩ = some (.slice m.aL n m.cL) := by rw [hln]; exact hc3.cell_at 11 _ rfl
    have f11 := hc3.frozen 11
    have HP := Lib.hid hp
    have R3 := Lib.hid r3
    have B3 := Lib.hid b3
    have N3 := Lib.hid n3
    have HJ := Lib.hid (show RJ I (w3.setCell ⟨p, 11, none⟩ (.slice A3 (n + 1) c3)) p g (j.rpush 0) from ⟨ρ', _, hp, r3, i2, n3⟩)
    clear i2 b2 n2 hp r3 b3 n3
    obtain ⟨w4, hw4⟩ : ∃ w4, w4 = w3.setCell ⟨p, 11, none⟩ (.slice A3 (n + 1) c3) := ⟨_, rfl⟩
    rw [← hw4] at HP R3 B3 N3 HJ
    have H4 := Lib.hid hw4
    have X10 := Lib.hid (show ∀ W, CRow W p 41 (rjCells g (j.rpush 0) { m with aL := A3, cL := c3 }) → W.cell? ⟨p, 10, none⟩ = some (.int .i64 2) from fun W h => by have h0 := h.cell_at 10 (.int .i64 (j.op : Int)) rfl; rw [HO.out] at h0; exact h0)
    clear hown hg hwh hln hr2 hi2 hb2 hc3 x11 hw4
    have x10 : (w3.setCell ⟨p, 11, none⟩ (.slice A3 (n + 1) c3)).cell? ⟨p, 10, none⟩ = some (.int .i64 2) := by rw [← H4.out]; exact X10.out _ HP.out
    go_wp2
    go_ret
    rw [HR.out]
    rw [← H4.out]
    exact ⟨rfl, HJ.out, B3.out⟩
   ·
    skip
    have b0 : (((b : Nat) : Int) == 0) = false := by simp; omega
    have j0 : (((b : Nat) : Int) = 0) = False := eq_false (by omega)
    have k0 : (b = 0) = False := eq_false (by omega)
    have d0 : decide (((b : Nat) : Int) = 0) = false := decide_eq_false (by omega)
    have HR := Lib.hid (show j.raddr g b = (false, j.rpush b) by unfold Jd.raddr; rw [HO.out, if_pos rfl, decide_eq_false (fun h => hb h.2)])
    clear hb8 hb hn
    go_enter Try.func33, Try.ntmps33
    have x11 : w.cell? ⟨p, 11, none⟩ = some (.slice m.aL n m.cL) := X11.out
    go_wp2_with (at_builtin; refine japp64 (w.alloc (.cells #[.int .i64 (b : Int)] 3)) rfl (.tmp 15) (.tmp 17) rfl 0 _ (JI j.listed) n LJ.out rfl (OL.out.alloc _) ⟨w.heap.size, 0, none⟩ 1 (b : Int) rfl (jone64 w (b : Int) _) (by have := LN.out; omega) (Nat.zero_le _) ?_)
    intro v3 w3 hown hg hwh
    obtain ⟨A3, c3, rfl⟩ := jown_form hown
    have hln : n = j.listed.length := HN.out
    have hpu := (R0.out.below (below_new w (.cells #[.int .i64 (b : Int)] 3))).pushL (w3 := w3) (A3 := A3) (c3 := c3) b (by rw [← hln]; exact hown) (by rw [← hln]; exact hg) (by
     rw [← hln]
     first
     | exact hwh
     | (have e9 : (w.alloc (.cells #[.int .i64 (b : Int)] 3)).heap.size = w.heap.size + 1 := by simp
        rw [e9]
        exact hwh))
    obtain ⟨ρ', hr2, hi2, hb2⟩ := hpu
    obtain ⟨i2, b2, n2, hc3, hp, r3, b3, n3⟩ := rpushed C0.out R0.out I0.out N0.out hln (show RjR ρ' w3 p g (j.rpush b) { m with aL := A3, cL := c3 } from hr2) hi2 hb2
    have I2 := Lib.hid i2
    have y11 : w3.cell? ⟨p, 11, none⟩ = some (.slice m.aL n m.cL) := by rw [hln]; exact hc3.cell_at 11 _ rfl
    have f11 := hc3.frozen 11
    have HP := Lib.hid hp
    have R3 := Lib.hid r3
    have B3 := Lib.hid b3
    have N3 := Lib.hid n3
    have HJ := Lib.hid (show RJ I (w3.setCell ⟨p, 11, none⟩ (.slice A3 (n + 1) c3)) p g (j.rpush b) from ⟨ρ', _, hp, r3, i2, n3⟩)
    clear i2 b2 n2 hp r3 b3 n3
    obtain ⟨w4, hw4⟩ : ∃ w4, w4 = w3.setCell ⟨p, 11, none⟩ (.slice A3 (n + 1) c3) := ⟨_, rfl⟩
    rw [← hw4] at HP R3 B3 N3 HJ
    have H4 := Lib.hid hw4
    have X10 := Lib.hid (show ∀ W, CRow W p 41 (rjCells g (j.rpush b) { m with aL := A3, cL := c3 }) → W.cell? ⟨p, 10, none⟩ = some (.int .i64 2) from fun W h => by have h0 := h.cell_at 10 (.int .i64 (j.op : Int)) rfl; rw [HO.out] at h0; exact h0)
    clear hown hg hwh hln hr2 hi2 hb2 hc3 x11 hw4
    have x10 : (w3.setCell ⟨p, 11, none⟩ (.slice A3 (n + 1) c3)).cell? ⟨p, 10, none⟩ = some (.int .i64 2) := by rw [← H4.out]; exact X10.out _ HP.out
    go_wp2
    go_ret
    rw [HR.out]
    rw [← H4.out]
    exact ⟨rfl, HJ.out, B3.out⟩
  ·
   skip
   have bn0 : (((n : Nat) : Int) == 0) = false := by simp; omega
   have jn0 : (((n : Nat) : Int) = 0) = False := eq_false (by omega)
   have kn0 : (n = 0) = False := eq_false (by omega)
   have dn0 : decide (((n : Nat) : Int) = 0) = false := decide_eq_false (by omega)
   have HR := Lib.hid (show j.raddr g b = (false, j.rpush b) by unfold Jd.raddr; rw [HO.out, if_pos rfl, ← HN.out, decide_eq_false (fun h => hn h.1)])
   clear hb8 hn
   go_enter Try.func33, Try.ntmps33
   have x11 : w.cell? ⟨p, 11, none⟩ = some (.slice m.aL n m.cL) := X11.out
   go_wp2_with (at_builtin; refine japp64 (w.alloc (.cells #[.int .i64 (b : Int)] 3)) rfl (.tmp 15) (.tmp 17) rfl 0 _ (JI j.listed) n LJ.out rfl (OL.out.alloc _) ⟨w.heap.size, 0, none⟩ 1 (b : Int) rfl (jone64 w (b : Int) _) (by have := LN.out; omega) (Nat.zero_le _) ?_)
   intro v3 w3 hown hg hwh
   obtain ⟨A3, c3, rfl⟩ := jown_form hown
   have hln : n = j.listed.length := HN.out
   have hpu := (R0.out.below (below_new w (.cells #[.int .i64 (b : Int)] 3))).pushL (w3 := w3) (A3 := A3) (c3 := c3) b (by rw [← hln]; exact hown) (by rw [← hln]; exact hg) (by
    rw [← hln]
    first
    | exact hwh
    | (have e9 : (w.alloc (.cells #[.int .i64 (b : Int)] 3)).heap.size = w.heap.size + 1 := by simp
       rw [e9]
       exact hwh))
   obtain ⟨ρ', hr2, hi2, hb2⟩ := hpu
   obtain ⟨i2, b2, n2, hc3, hp, r3, b3, n3⟩ := rpushed C0.out R0.out I0.out N0.out hln (show RjR ρ' w3 p g (j.rpush b) { m with aL := A3, cL := c3 } from hr2) hi2 hb2
   have I2 := Lib.hid i2
   have y11 : w3.cell? ⟨p, 11, none⟩ = some (.slice m.aL n m.cL) := by rw [hln]; exact hc3.cell_at 11 _ rfl
   have f11 := hc3.frozen 11
   have HP := Lib.hid hp
   have R3 := Lib.hid r3
   have B3 := Lib.hid b3
   have N3 := Lib.hid n3
   have HJ := Lib.hid (show RJ I (w3.setCell ⟨p, 11, none⟩ (.slice A3 (n + 1) c3)) p g (j.rpush b) from ⟨ρ', _, hp, r3, i2, n3⟩)
   clear i2 b2 n2 hp r3 b3 n3
   obtain ⟨w4, hw4⟩ : ∃ w4, w4 = w3.setCell ⟨p, 11, none⟩ (.slice A3 (n + 1) c3) := ⟨_, rfl⟩
   rw [← hw4] at HP R3 B3 N3 HJ
   have H4 := Lib.hid hw4
   have X10 := Lib.hid (show ∀ W, CRow W p 41 (rjCells g (j.rpush b) { m with aL := A3, cL := c3 }) → W.cell? ⟨p, 10, none⟩ = some (.int .i64 2) from fun W h => by have h0 := h.cell_at 10 (.int .i64 (j.op : Int)) rfl; rw [HO.out] at h0; exact h0)
   clear hown hg hwh hln hr2 hi2 hb2 hc3 x11 hw4
   have x10 : (w3.setCell ⟨p, 11, none⟩ (.slice A3 (n + 1) c3)).cell? ⟨p, 10, none⟩ = some (.int .i64 2) := by rw [← H4.out]; exact X10.out _ HP.out
   go_wp2
   go_ret
   rw [HR.out]
   rw [← H4.out]
   exact ⟨rfl, HJ.out, B3.out⟩
 ·
  skip
  have HO := Lib.hid (show j.op = 4 from HOO.out.symm)
  by_cases hn : n = 0
  ·
   skip
   have bn0 : (((n : Nat) : Int) == 0) = true := by simp; omega
   have jn0 : (((n : Nat) : Int) = 0) = True := eq_true (by omega)
   have kn0 : (n = 0) = True := eq_true (by omega)
   have dn0 : decide (((n : Nat) : Int) = 0) = true := decide_eq_true (by omega)
   have g0 : decide ((0 : Int) < (n : Int)) = false := decide_eq_false (by omega)
   have g1 : decide (0 < n) = false := decide_eq_false (by omega)
   have g2 : (0 < n) = False := eq_false (by omega)
   by_cases hb : b = 137
   ·
    subst hb
    have HR := Lib.hid (show j.raddr g 137 = (true, j.rpush 137) by unfold Jd.raddr; rw [HO.out, if_neg (by decide), if_pos rfl, ← HN.out, hn]; rfl)
    clear HBB hb8 hn
    go_enter Try.func33, Try.ntmps33
    have x11 : w.cell? ⟨p, 11, none⟩ = some (.slice m.aL n m.cL) := X11.out
    go_wp2_with (at_builtin; refine japp64 (w.alloc (.cells #[.int .i64 137] 3)) rfl (.tmp 15) (.tmp 17) rfl 0 _ (JI j.listed) n LJ.out rfl (OL.out.alloc _) ⟨w.heap.size, 0, none⟩ 1 137 rfl (jone64 w 137 _) (by have := LN.out; omega) (Nat.zero_le _) ?_)
    intro v3 w3 hown hg hwh
    obtain ⟨A3, c3, rfl⟩ := jown_form hown
    have hln : n = j.listed.length := HN.out
    have hpu := (R0.out.below (below_new w (.cells #[.int .i64 137] 3))).pushL (w3 := w3) (A3 := A3) (c3 := c3) 137 (by rw [← hln]; exact hown) (by rw [← hln]; exact hg) (by
     rw [← hln]
     first
     | exact hwh
     | (have e9 : (w.alloc (.cells #[.int .i64 137] 3)).heap.size = w.heap.size + 1 := by simp
        rw [e9]
        exact hwh))
    obtain ⟨ρ', hr2, hi2, hb2⟩ := hpu
    obtain ⟨i2, b2, n2, hc3, hp, r3, b3, n3⟩ := rpushed C0.out R0.out I0.out N0.out hln (show RjR ρ' w3 p g (j.rpush 137) { m with aL := A3, cL := c3 } from hr2) hi2 hb2
    have I2 := Lib.hid i2
    have y11 : w3.cell? ⟨p, 11, none⟩ = some (.slice m.aL n m.cL) := by rw [hln]; exact hc3.cell_at 11 _ rfl
    have f11 := hc3.frozen 11
    have HP := Lib.hid hp
    have R3 := Lib.hid r3
    have B3 := Lib.hid b3
    have N3 := Lib.hid n3
    have HJ := Lib.hid (show RJ I (w3.setCell ⟨p, 11, none⟩ (.slice A3 (n + 1) c3)) p g (j.rpush 137) from ⟨ρ', _, hp, r3, i2, n3⟩)
    clear i2 b2 n2 hp r3 b3 n3
    obtain ⟨w4, hw4⟩ : ∃ w4, w4 = w3.setCell ⟨p, 11, none⟩ (.slice A3 (n + 1) c3) := ⟨_, rfl⟩
    rw [← hw4] at HP R3 B3 N3 HJ
    have H4 := Lib.hid hw4
    have X10 := Lib.hid (show ∀ W, CRow W p 41 (rjCells g (j.rpush 137) { m with aL := A3, cL := c3 }) → W.cell? ⟨p, 10, none⟩ = some (.int .i64 4) from fun W h => by have h0 := h.cell_at 10 (.int .i64 (j.op : Int)) rfl; rw [HO.out] at h0; exact h0)
    clear hown hg hwh hln hr2 hi2 hb2 hc3 x11 hw4
    have x10 : (w3.setCell ⟨p, 11, none⟩ (.slice A3 (n + 1) c3)).cell? ⟨p, 10, none⟩ = some (.int .i64 4) := by rw [← H4.out]; exact X10.out _ HP.out
    go_wp2
    go_ret
    rw [HR.out]
    rw [← H4.out]
    exact ⟨rfl, HJ.out, B3.out⟩
   ·
    skip
    have b137 : (((b : Nat) : Int) == 137) = false := by simp; omega
    have j137 : (((b : Nat) : Int) = 137) = False := eq_false (by omega)
    have k137 : (b = 137) = False := eq_false (by omega)
    have d137 : decide (((b : Nat) : Int) = 137) = false := decide_eq_false (by omega)
    have HR := Lib.hid (show j.raddr g b = (false, j.rpush b) by unfold Jd.raddr; rw [HO.out, if_neg (by decide), if_pos rfl, decide_eq_false (fun h => hb h.2)])
    clear hb8 hb hn
    go_enter Try.func33, Try.ntmps33
    have x11 : w.cell? ⟨p, 11, none⟩ = some (.slice m.aL n m.cL) := X11.out
    go_wp2_with (at_builtin; refine japp64 (w.alloc (.cells #[.int .i64 (b : Int)] 3)) rfl (.tmp 15) (.tmp 17) rfl 0 _ (JI j.listed) n LJ.out rfl (OL.out.alloc _) ⟨w.heap.size, 0, none⟩ 1 (b : Int) rfl (jone64 w (b : Int) _) (by have := LN.out; omega) (Nat.zero_le _) ?_)
    intro v3 w3 hown hg hwh
    obtain ⟨A3, c3, rfl⟩ := jown_form hown
    have hln : n = j.listed.length := HN.out
    have hpu := (R0.out.below (below_new w (.cells #[.int .i64 (b : Int)] 3))).pushL (w3 := w3) (A3 := A3) (c3 := c3) b (by rw [← hln]; exact hown) (by rw [← hln]; exact hg) (by
     rw [← hln]
     first
     | exact hwh
     | (have e9 : (w.alloc (.cells #[.int .i64 (b : Int)] 3)).heap.size = w.heap.size + 1 := by simp
        rw [e9]
        exact hwh))
    obtain ⟨ρ', hr2, hi2, hb2⟩ := hpu
    obtain ⟨i2, b2, n2, hc3, hp, r3, b3, n3⟩ := rpushed C0.out R0.out I0.out N0.out hln (show RjR ρ' w3 p g (j.rpush b) { m with aL := A3, cL := c3 } from hr2) hi2 hb2
    have I2 := Lib.hid i2
    have y11 : w3.cell? ⟨p, 11, none⟩ = some (.slice m.aL n m.cL) := by rw [hln]; exact hc3.cell_at 11 _ rfl
    have f11 := hc3.frozen 11
    have HP := Lib.hid hp
    have R3 := Lib.hid r3
    have B3 := Lib.hid b3
    have N3 := Lib.hid n3
    have HJ := Lib.hid (show RJ I (w3.setCell ⟨p, 11, none⟩ (.slice A3 (n + 1) c3)) p g (j.rpush b) from ⟨ρ', _, hp, r3, i2, n3⟩)
    clear i2 b2 n2 hp r3 b3 n3
    obtain ⟨w4, hw4⟩ : ∃ w4, w4 = w3.setCell ⟨p, 11, none⟩ (.slice A3 (n + 1) c3) := ⟨_, rfl⟩
    rw [← hw4] at HP R3 B3 N3 HJ
    have H4 := Lib.hid hw4
    have X10 := Lib.hid (show ∀ W, CRow W p 41 (rjCells g (j.rpush b) { m with aL := A3, cL := c3 }) → W.cell? ⟨p, 10, none⟩ = some (.int .i64 4) from fun W h => by have h0 := h.cell_at 10 (.int .i64 (j.op : Int)) rfl; rw [HO.out] at h0; exact h0)
    clear hown hg hwh hln hr2 hi2 hb2 hc3 x11 hw4
    have x10 : (w3.setCell ⟨p, 11, none⟩ (.slice A3 (n + 1) c3)).cell? ⟨p, 10, none⟩ = some (.int .i64 4) := by rw [← H4.out]; exact X10.out _ HP.out
    go_wp2
    go_ret
    rw [HR.out]
    rw [← H4.out]
    exact ⟨rfl, HJ.out, B3.out⟩
  ·
   skip
   have bn0 : (((n : Nat) : Int) == 0) = false := by simp; omega
   have jn0 : (((n : Nat) : Int) = 0) = False := eq_false (by omega)
   have kn0 : (n = 0) = False := eq_false (by omega)
   have dn0 : decide (((n : Nat) : Int) = 0) = false := decide_eq_false (by omega)
   have HR := Lib.hid (show j.raddr g b = (false, j.rpush b) by unfold Jd.raddr; rw [HO.out, if_neg (by decide), if_pos rfl, ← HN.out, decide_eq_false (fun h => hn h.1)])
   clear hb8 hn
   go_enter Try.func33, Try.ntmps33
   have x11 : w.cell? ⟨p, 11, none⟩ = some (.slice m.aL n m.cL) := X11.out
   go_wp2_with (at_builtin; refine japp64 (w.alloc (.cells #[.int .i64 (b : Int)] 3)) rfl (.tmp 15) (.tmp 17) rfl 0 _ (JI j.listed) n LJ.out rfl (OL.out.alloc _) ⟨w.heap.size, 0, none⟩ 1 (b : Int) rfl (jone64 w (b : Int) _) (by have := LN.out; omega) (Nat.zero_le _) ?_)
   intro v3 w3 hown hg hwh
   obtain ⟨A3, c3, rfl⟩ := jown_form hown
   have hln : n = j.listed.length := HN.out
   have hpu := (R0.out.below (below_new w (.cells #[.int .i64 (b : Int)] 3))).pushL (w3 := w3) (A3 := A3) (c3 := c3) b (by rw [← hln]; exact hown) (by rw [← hln]; exact hg) (by
    rw [← hln]
    first
    | exact hwh
    | (have e9 : (w.alloc (.cells #[.int .i64 (b : Int)] 3)).heap.size = w.heap.size + 1 := by simp
       rw [e9]
       exact hwh))
   obtain ⟨ρ', hr2, hi2, hb2⟩ := hpu
   obtain ⟨i2, b2, n2, hc3, hp, r3, b3, n3⟩ := rpushed C0.out R0.out I0.out N0.out hln (show RjR ρ' w3 p g (j.rpush b) { m with aL := A3, cL := c3 } from hr2) hi2 hb2
   have I2 := Lib.hid i2
   have y11 : w3.cell? ⟨p, 11, none⟩ = some (.slice m.aL n m.cL) := by rw [hln]; exact hc3.cell_at 11 _ rfl
   have f11 := hc3.frozen 11
   have HP := Lib.hid hp
   have R3 := Lib.hid r3
   have B3 := Lib.hid b3
   have N3 := Lib.hid n3
   have HJ := Lib.hid (show RJ I (w3.setCell ⟨p, 11, none⟩ (.slice A3 (n + 1) c3)) p g (j.rpush b) from ⟨ρ', _, hp, r3, i2, n3⟩)
   clear i2 b2 n2 hp r3 b3 n3
   obtain ⟨w4, hw4⟩ : ∃ w4, w4 = w3.setCell ⟨p, 11, none⟩ (.slice A3 (n + 1) c3) := ⟨_, rfl⟩
   rw [← hw4] at HP R3 B3 N3 HJ
   have H4 := Lib.hid hw4
   have X10 := Lib.hid (show ∀ W, CRow W p 41 (rjCells g (j.rpush b) { m with aL := A3, cL := c3 }) → W.cell? ⟨p, 10, none⟩ = some (.int .i64 4) from fun W h => by have h0 := h.cell_at 10 (.int .i64 (j.op : Int)) rfl; rw [HO.out] at h0; exact h0)
   clear hown hg hwh hln hr2 hi2 hb2 hc3 x11 hw4
   have x10 : (w3.setCell ⟨p, 11, none⟩ (.slice A3 (n + 1) c3)).cell? ⟨p, 10, none⟩ = some (.int .i64 4) := by rw [← H4.out]; exact X10.out _ HP.out
   go_wp2
   go_ret
   rw [HR.out]
   rw [← H4.out]
   exact ⟨rfl, HJ.out, B3.out⟩
 ·
  skip
  have HO := Lib.hid (show j.op = 3 from HOO.out.symm)
  by_cases hn : n = 0
  ·
   skip
   have bn0 : (((n : Nat) : Int) == 0) = true := by simp; omega
   have jn0 : (((n : Nat) : Int) = 0) = True := eq_true (by omega)
   have kn0 : (n = 0) = True := eq_true (by omega)
   have dn0 : decide (((n : Nat) : Int) = 0) = true := decide_eq_true (by omega)
   have g0 : decide ((0 : Int) < (n : Int)) = false := decide_eq_false (by omega)
   have g1 : decide (0 < n) = false := decide_eq_false (by omega)
   have g2 : (0 < n) = False := eq_false (by omega)
   by_cases hb : b = 0
   ·
    subst hb
    have HR := Lib.hid (show j.raddr g 0 = (true, ({ j.rpush 0 with col := 0, data := true } : Jd).start) by unfold Jd.raddr; rw [HO.out, if_neg (by decide), if_neg (by decide), if_pos rfl, if_pos ⟨HN.out.symm.trans hn, rfl⟩])
    clear HBB hb8 hn
    go_enter Try.func33, Try.ntmps33
    have x11 : w.cell? ⟨p, 11, none⟩ = some (.slice m.aL n m.cL) := X11.out
    go_wp2_with (at_builtin; refine japp64 (w.alloc (.cells #[.int .i64 0] 3)) rfl (.tmp 15) (.tmp 17) rfl 0 _ (JI j.listed) n LJ.out rfl (OL.out.alloc _) ⟨w.heap.size, 0, none⟩ 1 0 rfl (jone64 w 0 _) (by have := LN.out; omega) (Nat.zero_le _) ?_)
    intro v3 w3 hown hg hwh
    obtain ⟨A3, c3, rfl⟩ := jown_form hown
    have hln : n = j.listed.length := HN.out
    have hpu := (R0.out.below (below_new w (.cells #[.int .i64 0] 3))).pushL (w3 := w3) (A3 := A3) (c3 := c3) 0 (by rw [← hln]; exact hown) (by rw [← hln]; exact hg) (by
     rw [← hln]
     first
     | exact hwh
     | (have e9 : (w.alloc (.cells #[.int .i64 0] 3)).heap.size = w.heap.size + 1 := by simp
        rw [e9]
        exact hwh))
    obtain ⟨ρ', hr2, hi2, hb2⟩ := hpu
    obtain ⟨i2, b2, n2, hc3, hp, r3, b3, n3⟩ := rpushed C0.out R0.out I0.out N0.out hln (show RjR ρ' w3 p g (j.rpush 0) { m with aL := A3, cL := c3 } from hr2) hi2 hb2
    have I2 := Lib.hid i2
    have y11 : w3.cell? ⟨p, 11, none⟩ = some (.slice m.aL n m.cL) := by rw [hln]; exact hc3.cell_at 11 _ rfl
    have f11 := hc3.frozen 11
    have HP := Lib.hid hp
    have R3 := Lib.hid r3
    have B3 := Lib.hid b3
    have N3 := Lib.hid n3
    have HJ := Lib.hid (show RJ I (w3.setCell ⟨p, 11, none⟩ (.slice A3 (n + 1) c3)) p g (j.rpush 0) from ⟨ρ', _, hp, r3, i2, n3⟩)
    clear i2 b2 n2 hp r3 b3 n3
    obtain ⟨w4, hw4⟩ : ∃ w4, w4 = w3.setCell ⟨p, 11, none⟩ (.slice A3 (n + 1) c3) := ⟨_, rfl⟩
    rw [← hw4] at HP R3 B3 N3 HJ
    have H4 := Lib.hid hw4
    have X10 := Lib.hid (show ∀ W, CRow W p 41 (rjCells g (j.rpush 0) { m with aL := A3, cL := c3 }) → W.cell? ⟨p, 10, none⟩ = some (.int .i64 3) from fun W h => by have h0 := h.cell_at 10 (.int .i64 (j.op : Int)) rfl; rw [HO.out] at h0; exact h0)
    clear hown hg hwh hln hr2 hi2 hb2 hc3 x11 hw4
    have x10 : (w3.setCell ⟨p, 11, none⟩ (.slice A3 (n + 1) c3)).cell? ⟨p, 10, none⟩ = some (.int .i64 3) := by rw [← H4.out]; exact X10.out _ HP.out
    have x18 := HP.out.cell_at 18 (.int .i64 ((j.rpush 0).col : Int)) rfl
    have f18 := HP.out.frozen 18
    have T1 := Lib.hid (HP.out.setCell 18 (.int .i64 0))
    have J1 := Lib.hid (((Btw.refl (I := fun k => k = p) w4)).setCell (p := ⟨p, 18, none⟩) (v := .int .i64 0) rfl)
    have x17 := T1.out.cell_at 17 (.bool (j.rpush 0).data) rfl
    have f17 := T1.out.frozen 17
    have T2 := Lib.hid (T1.out.setCell 17 (.bool true))
    have J2 := Lib.hid ((J1.out).setCell (p := ⟨p, 17, none⟩) (v := .bool true) rfl)
    have H6 := Lib.hid (RJ.of (I := I) (j' := { j.rpush 0 with col := 0, data := true }) (m' := { m with aL := A3, cL := c3 }) R3.out I2.out N3.out (by
     have h0 := T2.out
     simpa [rjCells, Jd.rpush] using h0) J2.out fun W h => { h with })
    have HST := Lib.hid (rstart H6.out.1)
    rw [H4.out] at x18 f18 x17 f17
    have HSX := Lib.hid (H4.out ▸ HST.out)
    go_wp2_with fail
    refine HSX.out.mono ?_
    rintro _ w5 ⟨rfl, h5, b5⟩
    have H5 := Lib.hid h5
    have B5 := Lib.hid ((B3.out.trans H6.out.2 fun _ _ h => h).trans (show Btw I _ w5 by rw [H4.out]; exact b5) fun _ _ h => h)
    clear h5 b5
    go_wp2
    go_ret
    rw [HR.out]
    exact ⟨rfl, H5.out, B5.out⟩
   ·
    skip
    have b0 : (((b : Nat) : Int) == 0) = false := by simp; omega
    have j0 : (((b : Nat) : Int) = 0) = False := eq_false (by omega)
    have k0 : (b = 0) = False := eq_false (by omega)
    have d0 : decide (((b : Nat) : Int) = 0) = false := decide_eq_false (by omega)
    have HR := Lib.hid (show j.raddr g b = (false, j.rpush b) by unfold Jd.raddr; rw [HO.out, if_neg (by decide), if_neg (by decide), if_pos rfl, if_neg (fun h => hb h.2)])
    clear hb8 hb hn
    go_enter Try.func33, Try.ntmps33
    have x11 : w.cell? ⟨p, 11, none⟩ = some (.slice m.aL n m.cL) := X11.out
    go_wp2_with (at_builtin; refine japp64 (w.alloc (.cells #[.int .i64 (b : Int)] 3)) rfl (.tmp 15) (.tmp 17) rfl 0 _ (JI j.listed) n LJ.out rfl (OL.out.alloc _) ⟨w.heap.size, 0, none⟩ 1 (b : Int) rfl (jone64 w (b : Int) _) (by have := LN.out; omega) (Nat.zero_le _) ?_)
    intro v3 w3 hown hg hwh
    obtain ⟨A3, c3, rfl⟩ := jown_form hown
    have hln : n = j.listed.length := HN.out
    have hpu := (R0.out.below (below_new w (.cells #[.int .i64 (b : Int)] 3))).pushL (w3 := w3) (A3 := A3) (c3 := c3) b (by rw [← hln]; exact hown) (by rw [← hln]; exact hg) (by
     rw [← hln]
     first
     | exact hwh
     | (have e9 : (w.alloc (.cells #[.int .i64 (b : Int)] 3)).heap.size = w.heap.size + 1 := by simp
        rw [e9]
        exact hwh))
    obtain ⟨ρ', hr2, hi2, hb2⟩ := hpu
    obtain ⟨i2, b2, n2, hc3, hp, r3, b3, n3⟩ := rpushed C0.out R0.out I0.out N0.out hln (show RjR ρ' w3 p g (j.rpush b) { m with aL := A3, cL := c3 } from hr2) hi2 hb2
    have I2 := Lib.hid i2
    have y11 : w3.cell? ⟨p, 11, none⟩ = some (.slice m.aL n m.cL) := by rw [hln]; exact hc3.cell_at 11 _ rfl
    have f11 := hc3.frozen 11
    have HP := Lib.hid hp
    have R3 := Lib.hid r3
    have B3 := Lib.hid b3
    have N3 := Lib.hid n3
    have HJ := Lib.hid (show RJ I (w3.setCell ⟨p, 11, none⟩ (.slice A3 (n + 1) c3)) p g (j.rpush b) from ⟨ρ', _, hp, r3, i2, n3⟩)
    clear i2 b2 n2 hp r3 b3 n3
    obtain ⟨w4, hw4⟩ : ∃ w4, w4 = w3.setCell ⟨p, 11, none⟩ (.slice A3 (n + 1) c3) := ⟨_, rfl⟩
    rw [← hw4] at HP R3 B3 N3 HJ
    have H4 := Lib.hid hw4
    have X10 := Lib.hid (show ∀ W, CRow W p 41 (rjCells g (j.rpush b) { m with aL := A3, cL := c3 }) → W.cell? ⟨p, 10, none⟩ = some (.int .i64 3) from fun W h => by have h0 := h.cell_at 10 (.int .i64 (j.op : Int)) rfl; rw [HO.out] at h0; exact h0)
    clear hown hg hwh hln hr2 hi2 hb2 hc3 x11 hw4
    have x10 : (w3.setCell ⟨p, 11, none⟩ (.slice A3 (n + 1) c3)).cell? ⟨p, 10, none⟩ = some (.int .i64 3) := by rw [← H4.out]; exact X10.out _ HP.out
    go_wp2
    go_ret
    rw [HR.out]
    rw [← H4.out]
    exact ⟨rfl, HJ.out, B3.out⟩
  ·
   skip
   have bn0 : (((n : Nat) : Int) == 0) = false := by simp; omega
   have jn0 : (((n : Nat) : Int) = 0) = False := eq_false (by omega)
   have kn0 : (n = 0) = False := eq_false (by omega)
   have dn0 : decide (((n : Nat) : Int) = 0) = false := decide_eq_false (by omega)
   have e1 : decide ((0 : Int) < (n : Int)) = true := decide_eq_true (by omega)
   have e2 : decide (0 < n) = true := decide_eq_true (by omega)
   have HR := Lib.hid (show j.raddr g b = (false, j.rpush b) by unfold Jd.raddr; rw [HO.out, if_neg (by decide), if_neg (by decide), if_pos rfl, ← HN.out, if_neg (fun h => hn h.1)])
   clear hb8 hn
   go_enter Try.func33, Try.ntmps33
   have x11 : w.cell? ⟨p, 11, none⟩ = some (.slice m.aL n m.cL) := X11.out
   go_wp2_with (at_builtin; refine japp64 (w.alloc (.cells #[.int .i64 (b : Int)] 3)) rfl (.tmp 15) (.tmp 17) rfl 0 _ (JI j.listed) n LJ.out rfl (OL.out.alloc _) ⟨w.heap.size, 0, none⟩ 1 (b : Int) rfl (jone64 w (b : Int) _) (by have := LN.out; omega) (Nat.zero_le _) ?_)
   intro v3 w3 hown hg hwh
   obtain ⟨A3, c3, rfl⟩ := jown_form hown
   have hln : n = j.listed.length := HN.out
   have hpu := (R0.out.below (below_new w (.cells #[.int .i64 (b : Int)] 3))).pushL (w3 := w3) (A3 := A3) (c3 := c3) b (by rw [← hln]; exact hown) (by rw [← hln]; exact hg) (by
    rw [← hln]
    first
    | exact hwh
    | (have e9 : (w.alloc (.cells #[.int .i64 (b : Int)] 3)).heap.size = w.heap.size + 1 := by simp
       rw [e9]
       exact hwh))
   obtain ⟨ρ', hr2, hi2, hb2⟩ := hpu
   obtain ⟨i2, b2, n2, hc3, hp, r3, b3, n3⟩ := rpushed C0.out R0.out I0.out N0.out hln (show RjR ρ' w3 p g (j.rpush b) { m with aL := A3, cL := c3 } from hr2) hi2 hb2
   have I2 := Lib.hid i2
   have y11 : w3.cell? ⟨p, 11, none⟩ = some (.slice m.aL n m.cL) := by rw [hln]; exact hc3.cell_at 11 _ rfl
   have f11 := hc3.frozen 11
   have HP := Lib.hid hp
   have R3 := Lib.hid r3
   have B3 := Lib.hid b3
   have N3 := Lib.hid n3
   have HJ := Lib.hid (show RJ I (w3.setCell ⟨p, 11, none⟩ (.slice A3 (n + 1) c3)) p g (j.rpush b) from ⟨ρ', _, hp, r3, i2, n3⟩)
   clear i2 b2 n2 hp r3 b3 n3
   obtain ⟨w4, hw4⟩ : ∃ w4, w4 = w3.setCell ⟨p, 11, none⟩ (.slice A3 (n + 1) c3) := ⟨_, rfl⟩
   rw [← hw4] at HP R3 B3 N3 HJ
   have H4 := Lib.hid hw4
   have X10 := Lib.hid (show ∀ W, CRow W p 41 (rjCells g (j.rpush b) { m with aL := A3, cL := c3 }) → W.cell? ⟨p, 10, none⟩ = some (.int .i64 3) from fun W h => by have h0 := h.cell_at 10 (.int .i64 (j.op : Int)) rfl; rw [HO.out] at h0; exact h0)
   clear hown hg hwh hln hr2 hi2 hb2 hc3 x11 hw4
   have x10 : (w3.setCell ⟨p, 11, none⟩ (.slice A3 (n + 1) c3)).cell? ⟨p, 10, none⟩ = some (.int .i64 3) := by rw [← H4.out]; exact X10.out _ HP.out
   go_wp2
   go_ret
   rw [HR.out]
   rw [← H4.out]
   exact ⟨rfl, HJ.out, B3.out⟩
 ·
  skip
  have HO := Lib.hid (show j.op = 5 from HOO.out.symm)
  by_cases hn : n = 3
  ·
   skip
   have bn3 : (((n : Nat) : Int) == 3) = true := by simp; omega
   have jn3 : (((n : Nat) : Int) = 3) = True := eq_true (by omega)
   have kn3 : (n = 3) = True := eq_true (by omega)
   have dn3 : decide (((n : Nat) : Int) = 3) = true := decide_eq_true (by omega)
   have HN3 := Lib.hid hn
   clear hn
   clear HBB hb8
   go_enter Try.func33, Try.ntmps33
   have x11 : w.cell? ⟨p, 11, none⟩ = some (.slice m.aL n m.cL) := X11.out
   go_wp2_with (at_builtin; refine japp64 (w.alloc (.cells #[.int .i64 (b : Int)] 3)) rfl (.tmp 15) (.tmp 17) rfl 0 _ (JI j.listed) n LJ.out rfl (OL.out.alloc _) ⟨w.heap.size, 0, none⟩ 1 (b : Int) rfl (jone64 w (b : Int) _) (by have := LN.out; omega) (Nat.zero_le _) ?_)
   intro v3 w3 hown hg hwh
   obtain ⟨A3, c3, rfl⟩ := jown_form hown
   have hln : n = j.listed.length := HN.out
   have hpu := (R0.out.below (below_new w (.cells #[.int .i64 (b : Int)] 3))).pushL (w3 := w3) (A3 := A3) (c3 := c3) b (by rw [← hln]; exact hown) (by rw [← hln]; exact hg) (by
    rw [← hln]
    first
    | exact hwh
    | (have e9 : (w.alloc (.cells #[.int .i64 (b : Int)] 3)).heap.size = w.heap.size + 1 := by simp
       rw [e9]
       exact hwh))
   obtain ⟨ρ', hr2, hi2, hb2⟩ := hpu
   obtain ⟨i2, b2, n2, hc3, hp, r3, b3, n3⟩ := rpushed C0.out R0.out I0.out N0.out hln (show RjR ρ' w3 p g (j.rpush b) { m with aL := A3, cL := c3 } from hr2) hi2 hb2
   have I2 := Lib.hid i2
   have y11 : w3.cell? ⟨p, 11, none⟩ = some (.slice m.aL n m.cL) := by rw [hln]; exact hc3.cell_at 11 _ rfl
   have f11 := hc3.frozen 11
   have HP := Lib.hid hp
   have R3 := Lib.hid r3
   have B3 := Lib.hid b3
   have N3 := Lib.hid n3
   have HJ := Lib.hid (show RJ I (w3.setCell ⟨p, 11, none⟩ (.slice A3 (n + 1) c3)) p g (j.rpush b) from ⟨ρ', _, hp, r3, i2, n3⟩)
   clear i2 b2 n2 hp r3 b3 n3
   obtain ⟨w4, hw4⟩ : ∃ w4, w4 = w3.setCell ⟨p, 11, none⟩ (.slice A3 (n + 1) c3) := ⟨_, rfl⟩
   rw [← hw4] at HP R3 B3 N3 HJ
   have H4 := Lib.hid hw4
   have X10 := Lib.hid (show ∀ W, CRow W p 41 (rjCells g (j.rpush b) { m with aL := A3, cL := c3 }) → W.cell? ⟨p, 10, none⟩ = some (.int .i64 5) from fun W h => by have h0 := h.cell_at 10 (.int .i64 (j.op : Int)) rfl; rw [HO.out] at h0; exact h0)
   clear hown hg hwh hln hr2 hi2 hb2 hc3 x11 hw4
   have x10 : (w3.setCell ⟨p, 11, none⟩ (.slice A3 (n + 1) c3)).cell? ⟨p, 10, none⟩ = some (.int .i64 5) := by rw [← H4.out]; exact X10.out _ HP.out
   have x17 := HP.out.cell_at 17 (.bool (j.rpush b).data) rfl
   have f17 := HP.out.frozen 17
   have T1 := Lib.hid (HP.out.setCell 17 (.bool false))
   have J1 := Lib.hid (((Btw.refl (I := fun k => k = p) w4)).setCell (p := ⟨p, 17, none⟩) (v := .bool false) rfl)
   have H6 := Lib.hid (show CRow (w4.setCell ⟨p, 17, none⟩ (.bool false)) p 41 (rjCells g ({ j.rpush b with data := false } : Jd) ({ m with aL := A3, cL := c3 } : RjM)) ∧ RjR ρ' (w4.setCell ⟨p, 17, none⟩ (.bool false)) p g ({ j.rpush b with data := false } : Jd) ({ m with aL := A3, cL := c3 } : RjM) ∧ Btw I w (w4.setCell ⟨p, 17, none⟩ (.bool false)) from
    ⟨by have h0 := T1.out; simpa [rjCells, Jd.rpush] using h0, (fun (h : RjR ρ' _ p g (j.rpush b) ({ m with aL := A3, cL := c3 } : RjM)) => ({ h with } : RjR ρ' _ p g ({ j.rpush b with data := false } : Jd) ({ m with aL := A3, cL := c3 } : RjM))) (R3.out.btw J1.out fun k e => .inr (by have e : k = p := e; rw [e]; exact R3.out.rp)), B3.out.trans J1.out fun k _ e => I2.out k (by have e : k = p := e; rw [e, R3.out.rp]; decide)⟩)
   obtain ⟨w5, hw5⟩ : ∃ w5, w5 = w4.setCell ⟨p, 17, none⟩ (.bool false) := ⟨_, rfl⟩
   rw [← hw5] at H6
   have H5 := Lib.hid hw5
   rw [H4.out] at x17 f17
   clear hw5
   have HWX := Lib.hid (show w5 = (w3.setCell ⟨p, 11, none⟩ (.slice A3 (n + 1) c3)).setCell ⟨p, 17, none⟩ (.bool false) by rw [H5.out, H4.out])
   have HTJ := Lib.hid (fun W (k : Nat) (hk : k + 1 < n + 1) (hh : RJ I W p g ({ j.rpush b with data := false } : Jd)) => show Calls Try.prog 45 #[.pointer (some ⟨p, 0, none⟩), .int .i64 (k : Int)] W (Gives (.int .i64 ((j.rpush b).addr2 k : Int)) W) from rtwo (j := ({ j.rpush b with data := false } : Jd)) k (by show k + 1 < (j.rpush b).listed.length; rw [LP.out]; exact hk) (by show (j.rpush b).listed.length ≤ _; rw [LP.out]; omega) L8.out hh)
   have HT0 := Lib.hid (show Calls Try.prog 45 #[.pointer (some ⟨p, 0, none⟩), .int .i64 0] w5 (Gives (.int .i64 ((j.rpush b).addr2 0 : Int)) w5) from HTJ.out w5 0 (by have := HN3.out; omega) ⟨ρ', _, H6.out.1, H6.out.2.1, I2.out, fun k hk => N0.out k (Nat.le_trans H6.out.2.2.size hk)⟩)
   have HT0X := Lib.hid (HWX.out ▸ HT0.out)
   obtain ⟨A0, hA0⟩ : ∃ A0, A0 = (j.rpush b).addr2 0 := ⟨_, rfl⟩
   rw [← hA0] at HT0X
   have HA0 := Lib.hid hA0
   clear hA0 HT0 HTJ
   go_wp2_with fail
   refine HT0X.out.mono ?_
   rintro _ w6 ⟨rfl, h6⟩
   rw [← HWX.out] at h6
   have C6 := Lib.hid (H6.out.1.below h6)
   have R6 := Lib.hid (H6.out.2.1.below h6)
   have B6 := Lib.hid (H6.out.2.2.trans (Btw.of_below h6) fun _ _ h => h)
   clear h6 HT0X
   have x18 := C6.out.cell_at 18 (.int .i64 ((({ j.rpush b with data := false } : Jd)).col : Int)) rfl
   have f18 := C6.out.frozen 18
   have U1 := Lib.hid (C6.out.setCell 18 (.int .i64 (A0 : Int)))
   have V1 := Lib.hid (((Btw.refl (I := fun k => k = p) w6)).setCell (p := ⟨p, 18, none⟩) (v := .int .i64 (A0 : Int)) rfl)
   have CF := Lib.hid (show CRow (w6.setCell ⟨p, 18, none⟩ (.int .i64 (A0 : Int))) p 41 (rjCells g ({ j.rpush b with data := false, col := A0 } : Jd) ({ m with aL := A3, cL := c3 } : RjM)) ∧ RjR ρ' (w6.setCell ⟨p, 18, none⟩ (.int .i64 (A0 : Int))) p g ({ j.rpush b with data := false, col := A0 } : Jd) ({ m with aL := A3, cL := c3 } : RjM) ∧ Btw I w (w6.setCell ⟨p, 18, none⟩ (.int .i64 (A0 : Int))) from
    ⟨by have h0 := U1.out; simpa [rjCells, Jd.rpush] using h0, (fun (h : RjR ρ' _ p g ({ j.rpush b with data := false } : Jd) ({ m with aL := A3, cL := c3 } : RjM)) => ({ h with } : RjR ρ' _ p g ({ j.rpush b with data := false, col := A0 } : Jd) ({ m with aL := A3, cL := c3 } : RjM))) (R6.out.btw V1.out fun k e => .inr (by have e : k = p := e; rw [e]; exact R6.out.rp)), B6.out.trans V1.out fun k _ e => I2.out k (by have e : k = p := e; rw [e, R6.out.rp]; decide)⟩)
   have X9 := Lib.hid (show ∀ W, CRow W p 41 (rjCells g ({ j.rpush b with data := false, col := A0 } : Jd) ({ m with aL := A3, cL := c3 } : RjM)) → W.cell? ⟨p, 9, none⟩ = some (.slice (some ⟨m.q, 0, none⟩) R m.cq) from fun W h => by rw [HRR.out]; exact h.cell_at 9 _ rfl)
   have X18 := Lib.hid (show ∀ W, CRow W p 41 (rjCells g ({ j.rpush b with data := false, col := A0 } : Jd) ({ m with aL := A3, cL := c3 } : RjM)) → W.cell? ⟨p, 18, none⟩ = some (.int .i64 (A0 : Int)) from fun W h => h.cell_at 18 _ rfl)
   go_wp2_with fail
   obtain ⟨w7, hw7⟩ : ∃ w7, w7 = w6.setCell ⟨p, 18, none⟩ (.int .i64 (A0 : Int)) := ⟨_, rfl⟩
   rw [← hw7] at CF
   try rw [← hw7]
   clear hw7 x18 f18
   have HTJ := Lib.hid (fun W (k : Nat) (hk : k + 1 < n + 1) (hh : RJ I W p g ({ j.rpush b with data := false, col := A0 } : Jd)) => show Calls Try.prog 45 #[.pointer (some ⟨p, 0, none⟩), .int .i64 (k : Int)] W (Gives (.int .i64 ((j.rpush b).addr2 k : Int)) W) from rtwo (j := ({ j.rpush b with data := false, col := A0 } : Jd)) k (by show k + 1 < (j.rpush b).listed.length; rw [LP.out]; exact hk) (by show (j.rpush b).listed.length ≤ _; rw [LP.out]; omega) L8.out hh)
   obtain ⟨A2, hA2⟩ : ∃ A2, A2 = (j.rpush b).addr2 2 := ⟨_, rfl⟩
   have HA2 := Lib.hid hA2
   have HTJ := Lib.hid (fun W (hh : RJ I W p g ({ j.rpush b with data := false, col := A0 } : Jd)) => show Calls Try.prog 45 #[.pointer (some ⟨p, 0, none⟩), .int .i64 2] W (Gives (.int .i64 (A2 : Int)) W) from hA2 ▸ HTJ.out W 2 (by have := HN3.out; omega) hh)
   clear hA2
   simp only [Gm.val] at HRQ
   have HR0 := Lib.hid (show j.raddr g b = (decide (A2 < R) && decide (A0 < N), ({ j.rpush b with data := false, col := A0 } : Jd)) by unfold Jd.raddr; rw [HO.out, if_neg (by decide), if_neg (by decide), if_neg (by decide), if_pos (by decide), if_pos (HN.out.symm.trans HN3.out), HA2.out, HA0.out, HRR.out, HNN.out]; rfl)
   clear bn3 jn3 kn3 dn3
   by_cases h1 : A2 < R
   ·
    have e1 : decide ((A2 : Int) < (R : Int)) = true := decide_eq_true (by omega)
    have e2 : decide (A2 < R) = true := decide_eq_true h1
    by_cases h2 : A0 < N
    ·
     have e3 : decide ((A0 : Int) < (N : Int)) = true := decide_eq_true (by omega)
     have e4 : decide (A0 < N) = true := decide_eq_true h2
     have HR := Lib.hid (show j.raddr g b = (true, ({ j.rpush b with data := false, col := A0 } : Jd)) by rw [HR0.out, e2, e4]; rfl)
     clear h1 h2
     refine wp_region_noPanic ?_
     refine wp_region_held_drew (S := fun w' => CRow w' p 41 (rjCells g ({ j.rpush b with data := false, col := A0 } : Jd) ({ m with aL := A3, cL := c3 } : RjM)) ∧ RjR ρ' w' p g ({ j.rpush b with data := false, col := A0 } : Jd) ({ m with aL := A3, cL := c3 } : RjM) ∧ Btw I w w') (by kernel_rfl) ⟨CF.out.1.drew, CF.out.2.1.below ((Below.refl _ _).drew), CF.out.2.2.drew⟩ (fun C0 => ?_)
     refine tkH 0 zR0 _ C0 rfl (by kernel_rfl) rfl (fun W h => by clear h; dsimp only [zR0]; go_simp <;> with_reducible rfl) ?_
     try simp only [zR0, Act.put, zzI, zzO, zzS]
     refine tkH 2 zR1 _ C0 rfl (by kernel_rfl) rfl (fun W h => by clear h; dsimp only [zR1]; go_simp <;> with_reducible rfl) ?_
     try simp only [zR1, Act.put, zzI, zzO, zzS]
     refine tkH 3 zR2 _ C0 rfl (by kernel_rfl) rfl (fun W h => by clear h; dsimp only [zR2]; go_simp <;> with_reducible rfl) ?_
     try simp only [zR2, Act.put, zzI, zzO, zzS]
     refine tkH 4 zR3 _ C0 rfl (by kernel_rfl) rfl (fun W h => by clear h; dsimp only [zR3]; go_simp <;> with_reducible rfl) ?_
     try simp only [zR3, Act.put, zzI, zzO, zzS]
     refine tkH 5 zR4 _ C0 rfl (by kernel_rfl) rfl (fun W' hSw => by obtain ⟨hs, -, -⟩ := hSw; have x9 := X9.out W' hs; clear hs; dsimp only [zR4]; go_simp <;> with_reducible rfl) ?_
     try simp only [zR4, Act.put, zzI, zzO, zzS]
     refine tkH 6 zR5 _ C0 rfl (by kernel_rfl) rfl (fun W h => by clear h; dsimp only [zR5]; go_simp <;> with_reducible rfl) ?_
     try simp only [zR5, Act.put, zzI, zzO, zzS]
     refine wpAnyH_ready (rs := [1]) (by kernel_rfl) (by simp) ?_
     refine AllReadyH.cons (o := zRc0) rfl (fun K hK => ?_) AllReadyH.nil
     dsimp only [zRc0]
     go_simp
     refine (HTJ.out _ ⟨ρ', _, (C0).1, (C0).2.1, I2.out, fun k hk => N0.out k (Nat.le_trans (C0).2.2.size hk)⟩).mono ?_
     rintro _ wz ⟨rfl, hz⟩
     have ZC1 := Lib.hid (show CRow wz p 41 (rjCells g ({ j.rpush b with data := false, col := A0 } : Jd) ({ m with aL := A3, cL := c3 } : RjM)) ∧ RjR ρ' wz p g ({ j.rpush b with data := false, col := A0 } : Jd) ({ m with aL := A3, cL := c3 } : RjM) ∧ Btw I w wz from ⟨(C0).1.below hz, (C0).2.1.below hz, (C0).2.2.trans (Btw.of_below hz) fun _ _ h => h⟩)
     clear hz
     go_wp2_with fail
     refine hK.out _ _ ZC1.out (fun C1 => ?_)
     clear hK K
     try simp only [Act.put, zzI, zzO, zzS]
     refine tkH 7 zR6 _ C1 rfl (by kernel_rfl) rfl (fun W h => by clear h; dsimp only [zR6]; go_simp <;> with_reducible rfl) ?_
     try simp only [zR6, Act.put, zzI, zzO, zzS]
     refine tkH 8 zR7 _ C1 rfl (by kernel_rfl) rfl (fun W h => by clear h; dsimp only [zR7]; go_simp <;> with_reducible rfl) ?_
     try simp only [zR7, Act.put, zzI, zzO, zzS]
     refine tkH 9 zR8 _ C1 rfl (by kernel_rfl) rfl (fun W h => by clear h; dsimp only [zR8]; go_simp <;> with_reducible rfl) ?_
     try simp only [zR8, Act.put, zzI, zzO, zzS]
     refine tkH 10 zR9 _ C1 rfl (by kernel_rfl) rfl (fun W h => by clear h; dsimp only [zR9]; go_simp <;> with_reducible rfl) ?_
     try simp only [zR9, Act.put, zzI, zzO, zzS]
     refine tkH 11 zR10 _ C1 rfl (by kernel_rfl) rfl (fun W h => by clear h; dsimp only [zR10]; go_simp <;> with_reducible rfl) ?_
     try simp only [zR10, Act.put, zzI, zzO, zzS]
     refine tkH 12 zR11 _ C1 rfl (by kernel_rfl) rfl (fun W' hSw => by obtain ⟨hs, -, -⟩ := hSw; have x18 := X18.out W' hs; clear hs; dsimp only [zR11]; go_simp <;> with_reducible rfl) ?_
     try simp only [zR11, Act.put, zzI, zzO, zzS]
     refine tkH 13 zR12 _ C1 rfl (by kernel_rfl) rfl (fun W h => by clear h; dsimp only [zR12]; go_simp <;> with_reducible rfl) ?_
     try simp only [zR12, Act.put, zzI, zzO, zzS]
     refine tkH 14 zR13 _ C1 rfl (by kernel_rfl) rfl (fun W h => by clear h; dsimp only [zR13]; go_simp <;> with_reducible rfl) ?_
     try simp only [zR13, Act.put, zzI, zzO, zzS]
     refine tkH 15 zR14 _ C1 rfl (by kernel_rfl) rfl (fun W h => by clear h; dsimp only [zR14]; go_simp <;> with_reducible rfl) ?_
     try simp only [zR14, Act.put, zzI, zzO, zzS]
     refine tkH 16 zR15 _ C1 rfl (by kernel_rfl) rfl (fun W' hSw => by obtain ⟨hs, -, -⟩ := hSw; have g0 := hs.cell_at 0 (.int .i64 g.p) rfl; have g1 := hs.cell_at 1 (.int .i64 g.b) rfl; have g2 := hs.cell_at 2 (.int .i64 g.s) rfl; have g3 := hs.cell_at 3 (.int .i64 g.c) rfl; have g4 := hs.cell_at 4 (.int .i64 g.k) rfl; have g5 := hs.cell_at 5 (.int .i64 g.r) rfl; have g6 := hs.cell_at 6 (.int .i64 g.q) rfl; clear hs; dsimp only [zR15]; go_simp <;> with_reducible rfl) ?_
     try simp only [zR15, Act.put, zzI, zzO, zzS]
     refine wpAnyH_ready (rs := [17]) (by kernel_rfl) (by simp) ?_
     refine AllReadyH.cons (o := zRc1) rfl (fun K hK => ?_) AllReadyH.nil
     dsimp only [zRc1]
     go_simp
     refine (HRQ.out _).mono ?_
     rintro _ wz ⟨rfl, hz⟩
     have ZC2 := Lib.hid (show CRow wz p 41 (rjCells g ({ j.rpush b with data := false, col := A0 } : Jd) ({ m with aL := A3, cL := c3 } : RjM)) ∧ RjR ρ' wz p g ({ j.rpush b with data := false, col := A0 } : Jd) ({ m with aL := A3, cL := c3 } : RjM) ∧ Btw I w wz from ⟨(C1).1.below hz, (C1).2.1.below hz, (C1).2.2.trans (Btw.of_below hz) fun _ _ h => h⟩)
     clear hz
     go_wp2_with fail
     refine hK.out _ _ ZC2.out (fun C2 => ?_)
     clear hK K
     try simp only [Act.put, zzI, zzO, zzS]
     refine tkH 18 zR16 _ C2 rfl (by kernel_rfl) rfl (fun W h => by clear h; dsimp only [zR16]; go_simp <;> with_reducible rfl) ?_
     try simp only [zR16, Act.put, zzI, zzO, zzS]
     refine tkH 19 zR17 _ C2 rfl (by kernel_rfl) rfl (fun W h => by clear h; dsimp only [zR17]; go_simp <;> with_reducible rfl) ?_
     try simp only [zR17, Act.put, zzI, zzO, zzS]
     refine tkH 20 zR18 _ C2 rfl (by kernel_rfl) rfl (fun W h => by clear h; dsimp only [zR18]; go_simp <;> with_reducible rfl) ?_
     try simp only [zR18, Act.put, zzI, zzO, zzS]
     have CE := Lib.hid C2
     refine wpAnyH_done (by kernel_rfl) ?_ _
     refine NoPanic.normal ?_
     go_wp2
     go_ret
     rw [HR.out]
     exact ⟨rfl, ⟨ρ', _, (CE.out).1, (CE.out).2.1, I2.out, fun k hk => N0.out k (Nat.le_trans (CE.out).2.2.size hk)⟩, CE.out.2.2⟩
    ·
     have e3 : decide ((A0 : Int) < (N : Int)) = false := decide_eq_false (by omega)
     have e4 : decide (A0 < N) = false := decide_eq_false h2
     have HR := Lib.hid (show j.raddr g b = (false, ({ j.rpush b with data := false, col := A0 } : Jd)) by rw [HR0.out, e2, e4]; rfl)
     clear h1 h2
     refine wp_region_noPanic ?_
     refine wp_region_held_drew (S := fun w' => CRow w' p 41 (rjCells g ({ j.rpush b with data := false, col := A0 } : Jd) ({ m with aL := A3, cL := c3 } : RjM)) ∧ RjR ρ' w' p g ({ j.rpush b with data := false, col := A0 } : Jd) ({ m with aL := A3, cL := c3 } : RjM) ∧ Btw I w w') (by kernel_rfl) ⟨CF.out.1.drew, CF.out.2.1.below ((Below.refl _ _).drew), CF.out.2.2.drew⟩ (fun C0 => ?_)
     refine tkH 0 zR0 _ C0 rfl (by kernel_rfl) rfl (fun W h => by clear h; dsimp only [zR0]; go_simp <;> with_reducible rfl) ?_
     try simp only [zR0, Act.put, zzI, zzO, zzS]
     refine tkH 2 zR1 _ C0 rfl (by kernel_rfl) rfl (fun W h => by clear h; dsimp only [zR1]; go_simp <;> with_reducible rfl) ?_
     try simp only [zR1, Act.put, zzI, zzO, zzS]
     refine tkH 3 zR2 _ C0 rfl (by kernel_rfl) rfl (fun W h => by clear h; dsimp only [zR2]; go_simp <;> with_reducible rfl) ?_
     try simp only [zR2, Act.put, zzI, zzO, zzS]
     refine tkH 4 zR3 _ C0 rfl (by kernel_rfl) rfl (fun W h => by clear h; dsimp only [zR3]; go_simp <;> with_reducible rfl) ?_
     try simp only [zR3, Act.put, zzI, zzO, zzS]
     refine tkH 5 zR4 _ C0 rfl (by kernel_rfl) rfl (fun W' hSw => by obtain ⟨hs, -, -⟩ := hSw; have x9 := X9.out W' hs; clear hs; dsimp only [zR4]; go_simp <;> with_reducible rfl) ?_
     try simp only [zR4, Act.put, zzI, zzO, zzS]
     refine tkH 6 zR5 _ C0 rfl (by kernel_rfl) rfl (fun W h => by clear h; dsimp only [zR5]; go_simp <;> with_reducible rfl) ?_
     try simp only [zR5, Act.put, zzI, zzO, zzS]
     refine wpAnyH_ready (rs := [1]) (by kernel_rfl) (by simp) ?_
     refine AllReadyH.cons (o := zRc0) rfl (fun K hK => ?_) AllReadyH.nil
     dsimp only [zRc0]
     go_simp
     refine (HTJ.out _ ⟨ρ', _, (C0).1, (C0).2.1, I2.out, fun k hk => N0.out k (Nat.le_trans (C0).2.2.size hk)⟩).mono ?_
     rintro _ wz ⟨rfl, hz⟩
     have ZC1 := Lib.hid (show CRow wz p 41 (rjCells g ({ j.rpush b with data := false, col := A0 } : Jd) ({ m with aL := A3, cL := c3 } : RjM)) ∧ RjR ρ' wz p g ({ j.rpush b with data := false, col := A0 } : Jd) ({ m with aL := A3, cL := c3 } : RjM) ∧ Btw I w wz from ⟨(C0).1.below hz, (C0).2.1.below hz, (C0).2.2.trans (Btw.of_below hz) fun _ _ h => h⟩)
     clear hz
     go_wp2_with fail
     refine hK.out _ _ ZC1.out (fun C1 => ?_)
     clear hK K
     try simp only [Act.put, zzI, zzO, zzS]
     refine tkH 7 zR6 _ C1 rfl (by kernel_rfl) rfl (fun W h => by clear h; dsimp only [zR6]; go_simp <;> with_reducible rfl) ?_
     try simp only [zR6, Act.put, zzI, zzO, zzS]
     refine tkH 8 zR7 _ C1 rfl (by kernel_rfl) rfl (fun W h => by clear h; dsimp only [zR7]; go_simp <;> with_reducible rfl) ?_
     try simp only [zR7, Act.put, zzI, zzO, zzS]
     refine tkH 9 zR8 _ C1 rfl (by kernel_rfl) rfl (fun W h => by clear h; dsimp only [zR8]; go_simp <;> with_reducible rfl) ?_
     try simp only [zR8, Act.put, zzI, zzO, zzS]
     refine tkH 10 zR9 _ C1 rfl (by kernel_rfl) rfl (fun W h => by clear h; dsimp only [zR9]; go_simp <;> with_reducible rfl) ?_
     try simp only [zR9, Act.put, zzI, zzO, zzS]
     refine tkH 11 zR10 _ C1 rfl (by kernel_rfl) rfl (fun W h => by clear h; dsimp only [zR10]; go_simp <;> with_reducible rfl) ?_
     try simp only [zR10, Act.put, zzI, zzO, zzS]
     refine tkH 12 zR11 _ C1 rfl (by kernel_rfl) rfl (fun W' hSw => by obtain ⟨hs, -, -⟩ := hSw; have x18 := X18.out W' hs; clear hs; dsimp only [zR11]; go_simp <;> with_reducible rfl) ?_
     try simp only [zR11, Act.put, zzI, zzO, zzS]
     refine tkH 13 zR12 _ C1 rfl (by kernel_rfl) rfl (fun W h => by clear h; dsimp only [zR12]; go_simp <;> with_reducible rfl) ?_
     try simp only [zR12, Act.put, zzI, zzO, zzS]
     refine tkH 14 zR13 _ C1 rfl (by kernel_rfl) rfl (fun W h => by clear h; dsimp only [zR13]; go_simp <;> with_reducible rfl) ?_
     try simp only [zR13, Act.put, zzI, zzO, zzS]
     refine tkH 15 zR14 _ C1 rfl (by kernel_rfl) rfl (fun W h => by clear h; dsimp only [zR14]; go_simp <;> with_reducible rfl) ?_
     try simp only [zR14, Act.put, zzI, zzO, zzS]
     refine tkH 16 zR15 _ C1 rfl (by kernel_rfl) rfl (fun W' hSw => by obtain ⟨hs, -, -⟩ := hSw; have g0 := hs.cell_at 0 (.int .i64 g.p) rfl; have g1 := hs.cell_at 1 (.int .i64 g.b) rfl; have g2 := hs.cell_at 2 (.int .i64 g.s) rfl; have g3 := hs.cell_at 3 (.int .i64 g.c) rfl; have g4 := hs.cell_at 4 (.int .i64 g.k) rfl; have g5 := hs.cell_at 5 (.int .i64 g.r) rfl; have g6 := hs.cell_at 6 (.int .i64 g.q) rfl; clear hs; dsimp only [zR15]; go_simp <;> with_reducible rfl) ?_
     try simp only [zR15, Act.put, zzI, zzO, zzS]
     refine wpAnyH_ready (rs := [17]) (by kernel_rfl) (by simp) ?_
     refine AllReadyH.cons (o := zRc1) rfl (fun K hK => ?_) AllReadyH.nil
     dsimp only [zRc1]
     go_simp
     refine (HRQ.out _).mono ?_
     rintro _ wz ⟨rfl, hz⟩
     have ZC2 := Lib.hid (show CRow wz p 41 (rjCells g ({ j.rpush b with data := false, col := A0 } : Jd) ({ m with aL := A3, cL := c3 } : RjM)) ∧ RjR ρ' wz p g ({ j.rpush b with data := false, col := A0 } : Jd) ({ m with aL := A3, cL := c3 } : RjM) ∧ Btw I w wz from ⟨(C1).1.below hz, (C1).2.1.below hz, (C1).2.2.trans (Btw.of_below hz) fun _ _ h => h⟩)
     clear hz
     go_wp2_with fail
     refine hK.out _ _ ZC2.out (fun C2 => ?_)
     clear hK K
     try simp only [Act.put, zzI, zzO, zzS]
     refine tkH 18 zR16 _ C2 rfl (by kernel_rfl) rfl (fun W h => by clear h; dsimp only [zR16]; go_simp <;> with_reducible rfl) ?_
     try simp only [zR16, Act.put, zzI, zzO, zzS]
     refine tkH 19 zR17 _ C2 rfl (by kernel_rfl) rfl (fun W h => by clear h; dsimp only [zR17]; go_simp <;> with_reducible rfl) ?_
     try simp only [zR17, Act.put, zzI, zzO, zzS]
     refine tkH 20 zR18 _ C2 rfl (by kernel_rfl) rfl (fun W h => by clear h; dsimp only [zR18]; go_simp <;> with_reducible rfl) ?_
     try simp only [zR18, Act.put, zzI, zzO, zzS]
     have CE := Lib.hid C2
     refine wpAnyH_done (by kernel_rfl) ?_ _
     refine NoPanic.normal ?_
     go_wp2
     go_ret
     rw [HR.out]
     exact ⟨rfl, ⟨ρ', _, (CE.out).1, (CE.out).2.1, I2.out, fun k hk => N0.out k (Nat.le_trans (CE.out).2.2.size hk)⟩, CE.out.2.2⟩
   ·
    have e1 : decide ((A2 : Int) < (R : Int)) = false := decide_eq_false (by omega)
    have e2 : decide (A2 < R) = false := decide_eq_false h1
    have HR := Lib.hid (show j.raddr g b = (false, ({ j.rpush b with data := false, col := A0 } : Jd)) by rw [HR0.out, e2]; rfl)
    clear h1
    refine wp_region_noPanic ?_
    refine wp_region_held_drew (S := fun w' => CRow w' p 41 (rjCells g ({ j.rpush b with data := false, col := A0 } : Jd) ({ m with aL := A3, cL := c3 } : RjM)) ∧ RjR ρ' w' p g ({ j.rpush b with data := false, col := A0 } : Jd) ({ m with aL := A3, cL := c3 } : RjM) ∧ Btw I w w') (by kernel_rfl) ⟨CF.out.1.drew, CF.out.2.1.below ((Below.refl _ _).drew), CF.out.2.2.drew⟩ (fun C0 => ?_)
    refine tkH 0 zR0 _ C0 rfl (by kernel_rfl) rfl (fun W h => by clear h; dsimp only [zR0]; go_simp <;> with_reducible rfl) ?_
    try simp only [zR0, Act.put, zzI, zzO, zzS]
    refine tkH 2 zR1 _ C0 rfl (by kernel_rfl) rfl (fun W h => by clear h; dsimp only [zR1]; go_simp <;> with_reducible rfl) ?_
    try simp only [zR1, Act.put, zzI, zzO, zzS]
    refine tkH 3 zR2 _ C0 rfl (by kernel_rfl) rfl (fun W h => by clear h; dsimp only [zR2]; go_simp <;> with_reducible rfl) ?_
    try simp only [zR2, Act.put, zzI, zzO, zzS]
    refine tkH 4 zR3 _ C0 rfl (by kernel_rfl) rfl (fun W h => by clear h; dsimp only [zR3]; go_simp <;> with_reducible rfl) ?_
    try simp only [zR3, Act.put, zzI, zzO, zzS]
    refine tkH 5 zR4 _ C0 rfl (by kernel_rfl) rfl (fun W' hSw => by obtain ⟨hs, -, -⟩ := hSw; have x9 := X9.out W' hs; clear hs; dsimp only [zR4]; go_simp <;> with_reducible rfl) ?_
    try simp only [zR4, Act.put, zzI, zzO, zzS]
    refine tkH 6 zR5 _ C0 rfl (by kernel_rfl) rfl (fun W h => by clear h; dsimp only [zR5]; go_simp <;> with_reducible rfl) ?_
    try simp only [zR5, Act.put, zzI, zzO, zzS]
    refine wpAnyH_ready (rs := [1]) (by kernel_rfl) (by simp) ?_
    refine AllReadyH.cons (o := zRc0) rfl (fun K hK => ?_) AllReadyH.nil
    dsimp only [zRc0]
    go_simp
    refine (HTJ.out _ ⟨ρ', _, (C0).1, (C0).2.1, I2.out, fun k hk => N0.out k (Nat.le_trans (C0).2.2.size hk)⟩).mono ?_
    rintro _ wz ⟨rfl, hz⟩
    have ZC1 := Lib.hid (show CRow wz p 41 (rjCells g ({ j.rpush b with data := false, col := A0 } : Jd) ({ m with aL := A3, cL := c3 } : RjM)) ∧ RjR ρ' wz p g ({ j.rpush b with data := false, col := A0 } : Jd) ({ m with aL := A3, cL := c3 } : RjM) ∧ Btw I w wz from ⟨(C0).1.below hz, (C0).2.1.below hz, (C0).2.2.trans (Btw.of_below hz) fun _ _ h => h⟩)
    clear hz
    go_wp2_with fail
    refine hK.out _ _ ZC1.out (fun C1 => ?_)
    clear hK K
    try simp only [Act.put, zzI, zzO, zzS]
    refine tkH 7 zR6 _ C1 rfl (by kernel_rfl) rfl (fun W h => by clear h; dsimp only [zR6]; go_simp <;> with_reducible rfl) ?_
    try simp only [zR6, Act.put, zzI, zzO, zzS]
    refine tkH 8 zR7 _ C1 rfl (by kernel_rfl) rfl (fun W h => by clear h; dsimp only [zR7]; go_simp <;> with_reducible rfl) ?_
    try simp only [zR7, Act.put, zzI, zzO, zzS]
    refine tkN 9 zR8 C1 rfl (by kernel_rfl) rfl ?_
    try simp only [zR8, Act.put, zzI, zzO, zzS]
    refine tkN 10 zR9 C1 rfl (by kernel_rfl) rfl ?_
    try simp only [zR9, Act.put, zzI, zzO, zzS]
    refine tkN 11 zR10 C1 rfl (by kernel_rfl) rfl ?_
    try simp only [zR10, Act.put, zzI, zzO, zzS]
    refine tkN 12 zR11 C1 rfl (by kernel_rfl) rfl ?_
    try simp only [zR11, Act.put, zzI, zzO, zzS]
    refine tkN 13 zR12 C1 rfl (by kernel_rfl) rfl ?_
    try simp only [zR12, Act.put, zzI, zzO, zzS]
    refine tkN 14 zR13 C1 rfl (by kernel_rfl) rfl ?_
    try simp only [zR13, Act.put, zzI, zzO, zzS]
    refine tkN 15 zR14 C1 rfl (by kernel_rfl) rfl ?_
    try simp only [zR14, Act.put, zzI, zzO, zzS]
    refine tkN 16 zR15 C1 rfl (by kernel_rfl) rfl ?_
    try simp only [zR15, Act.put, zzI, zzO, zzS]
    refine tkN 17 zR19 C1 rfl (by kernel_rfl) rfl ?_
    try simp only [zR19, Act.put, zzI, zzO, zzS]
    refine tkN 18 zR16 C1 rfl (by kernel_rfl) rfl ?_
    try simp only [zR16, Act.put, zzI, zzO, zzS]
    refine tkH 19 zR17 _ C1 rfl (by kernel_rfl) rfl (fun W h => by clear h; dsimp only [zR17]; go_simp <;> with_reducible rfl) ?_
    try simp only [zR17, Act.put, zzI, zzO, zzS]
    refine tkH 20 zR18 _ C1 rfl (by kernel_rfl) rfl (fun W h => by clear h; dsimp only [zR18]; go_simp <;> with_reducible rfl) ?_
    try simp only [zR18, Act.put, zzI, zzO, zzS]
    have CE := Lib.hid C1
    refine wpAnyH_done (by kernel_rfl) ?_ _
    refine NoPanic.normal ?_
    go_wp2
    go_ret
    rw [HR.out]
    exact ⟨rfl, ⟨ρ', _, (CE.out).1, (CE.out).2.1, I2.out, fun k hk => N0.out k (Nat.le_trans (CE.out).2.2.size hk)⟩, CE.out.2.2⟩
  ·
   skip
   have bn3 : (((n : Nat) : Int) == 3) = false := by simp; omega
   have jn3 : (((n : Nat) : Int) = 3) = False := eq_false (by omega)
   have kn3 : (n = 3) = False := eq_false (by omega)
   have dn3 : decide (((n : Nat) : Int) = 3) = false := decide_eq_false (by omega)
   by_cases hlt : n < 3
   ·
    have e1 : decide ((n : Int) < 3) = true := decide_eq_true (by omega)
    have e2 : decide (n < 3) = true := decide_eq_true (by omega)
    have HR := Lib.hid (show j.raddr g b = (true, ({ j.rpush b with data := false } : Jd)) by unfold Jd.raddr; rw [HO.out, if_neg (by decide), if_neg (by decide), if_neg (by decide), if_pos (by decide), ← HN.out, if_neg hn, e2]; rfl)
    clear hn hlt
    clear HBB hb8
    go_enter Try.func33, Try.ntmps33
    have x11 : w.cell? ⟨p, 11, none⟩ = some (.slice m.aL n m.cL) := X11.out
    go_wp2_with (at_builtin; refine japp64 (w.alloc (.cells #[.int .i64 (b : Int)] 3)) rfl (.tmp 15) (.tmp 17) rfl 0 _ (JI j.listed) n LJ.out rfl (OL.out.alloc _) ⟨w.heap.size, 0, none⟩ 1 (b : Int) rfl (jone64 w (b : Int) _) (by have := LN.out; omega) (Nat.zero_le _) ?_)
    intro v3 w3 hown hg hwh
    obtain ⟨A3, c3, rfl⟩ := jown_form hown
    have hln : n = j.listed.length := HN.out
    have hpu := (R0.out.below (below_new w (.cells #[.int .i64 (b : Int)] 3))).pushL (w3 := w3) (A3 := A3) (c3 := c3) b (by rw [← hln]; exact hown) (by rw [← hln]; exact hg) (by
     rw [← hln]
     first
     | exact hwh
     | (have e9 : (w.alloc (.cells #[.int .i64 (b : Int)] 3)).heap.size = w.heap.size + 1 := by simp
        rw [e9]
        exact hwh))
    obtain ⟨ρ', hr2, hi2, hb2⟩ := hpu
    obtain ⟨i2, b2, n2, hc3, hp, r3, b3, n3⟩ := rpushed C0.out R0.out I0.out N0.out hln (show RjR ρ' w3 p g (j.rpush b) { m with aL := A3, cL := c3 } from hr2) hi2 hb2
    have I2 := Lib.hid i2
    have y11 : w3.cell? ⟨p, 11, none⟩ = some (.slice m.aL n m.cL) := by rw [hln]; exact hc3.cell_at 11 _ rfl
    have f11 := hc3.frozen 11
    have HP := Lib.hid hp
    have R3 := Lib.hid r3
    have B3 := Lib.hid b3
    have N3 := Lib.hid n3
    have HJ := Lib.hid (show RJ I (w3.setCell ⟨p, 11, none⟩ (.slice A3 (n + 1) c3)) p g (j.rpush b) from ⟨ρ', _, hp, r3, i2, n3⟩)
    clear i2 b2 n2 hp r3 b3 n3
    obtain ⟨w4, hw4⟩ : ∃ w4, w4 = w3.setCell ⟨p, 11, none⟩ (.slice A3 (n + 1) c3) := ⟨_, rfl⟩
    rw [← hw4] at HP R3 B3 N3 HJ
    have H4 := Lib.hid hw4
    have X10 := Lib.hid (show ∀ W, CRow W p 41 (rjCells g (j.rpush b) { m with aL := A3, cL := c3 }) → W.cell? ⟨p, 10, none⟩ = some (.int .i64 5) from fun W h => by have h0 := h.cell_at 10 (.int .i64 (j.op : Int)) rfl; rw [HO.out] at h0; exact h0)
    clear hown hg hwh hln hr2 hi2 hb2 hc3 x11 hw4
    have x10 : (w3.setCell ⟨p, 11, none⟩ (.slice A3 (n + 1) c3)).cell? ⟨p, 10, none⟩ = some (.int .i64 5) := by rw [← H4.out]; exact X10.out _ HP.out
    have x17 := HP.out.cell_at 17 (.bool (j.rpush b).data) rfl
    have f17 := HP.out.frozen 17
    have T1 := Lib.hid (HP.out.setCell 17 (.bool false))
    have J1 := Lib.hid (((Btw.refl (I := fun k => k = p) w4)).setCell (p := ⟨p, 17, none⟩) (v := .bool false) rfl)
    have H6 := Lib.hid (show CRow (w4.setCell ⟨p, 17, none⟩ (.bool false)) p 41 (rjCells g ({ j.rpush b with data := false } : Jd) ({ m with aL := A3, cL := c3 } : RjM)) ∧ RjR ρ' (w4.setCell ⟨p, 17, none⟩ (.bool false)) p g ({ j.rpush b with data := false } : Jd) ({ m with aL := A3, cL := c3 } : RjM) ∧ Btw I w (w4.setCell ⟨p, 17, none⟩ (.bool false)) from
     ⟨by have h0 := T1.out; simpa [rjCells, Jd.rpush] using h0, (fun (h : RjR ρ' _ p g (j.rpush b) ({ m with aL := A3, cL := c3 } : RjM)) => ({ h with } : RjR ρ' _ p g ({ j.rpush b with data := false } : Jd) ({ m with aL := A3, cL := c3 } : RjM))) (R3.out.btw J1.out fun k e => .inr (by have e : k = p := e; rw [e]; exact R3.out.rp)), B3.out.trans J1.out fun k _ e => I2.out k (by have e : k = p := e; rw [e, R3.out.rp]; decide)⟩)
    obtain ⟨w5, hw5⟩ : ∃ w5, w5 = w4.setCell ⟨p, 17, none⟩ (.bool false) := ⟨_, rfl⟩
    rw [← hw5] at H6
    have H5 := Lib.hid hw5
    rw [H4.out] at x17 f17
    clear hw5
    go_wp2
    go_ret
    rw [HR.out]
    rw [← H4.out]
    rw [← H5.out]
    exact ⟨rfl, ⟨ρ', _, H6.out.1, H6.out.2.1, I2.out, fun k hk => N0.out k (Nat.le_trans H6.out.2.2.size hk)⟩, H6.out.2.2⟩
   ·
    have e1 : decide ((n : Int) < 3) = false := decide_eq_false (by omega)
    have e2 : decide (n < 3) = false := decide_eq_false (by omega)
    have HR := Lib.hid (show j.raddr g b = (false, ({ j.rpush b with data := false } : Jd)) by unfold Jd.raddr; rw [HO.out, if_neg (by decide), if_neg (by decide), if_neg (by decide), if_pos (by decide), ← HN.out, if_neg hn, e2]; rfl)
    clear hn hlt
    clear HBB hb8
    go_enter Try.func33, Try.ntmps33
    have x11 : w.cell? ⟨p, 11, none⟩ = some (.slice m.aL n m.cL) := X11.out
    go_wp2_with (at_builtin; refine japp64 (w.alloc (.cells #[.int .i64 (b : Int)] 3)) rfl (.tmp 15) (.tmp 17) rfl 0 _ (JI j.listed) n LJ.out rfl (OL.out.alloc _) ⟨w.heap.size, 0, none⟩ 1 (b : Int) rfl (jone64 w (b : Int) _) (by have := LN.out; omega) (Nat.zero_le _) ?_)
    intro v3 w3 hown hg hwh
    obtain ⟨A3, c3, rfl⟩ := jown_form hown
    have hln : n = j.listed.length := HN.out
    have hpu := (R0.out.below (below_new w (.cells #[.int .i64 (b : Int)] 3))).pushL (w3 := w3) (A3 := A3) (c3 := c3) b (by rw [← hln]; exact hown) (by rw [← hln]; exact hg) (by
     rw [← hln]
     first
     | exact hwh
     | (have e9 : (w.alloc (.cells #[.int .i64 (b : Int)] 3)).heap.size = w.heap.size + 1 := by simp
        rw [e9]
        exact hwh))
    obtain ⟨ρ', hr2, hi2, hb2⟩ := hpu
    obtain ⟨i2, b2, n2, hc3, hp, r3, b3, n3⟩ := rpushed C0.out R0.out I0.out N0.out hln (show RjR ρ' w3 p g (j.rpush b) { m with aL := A3, cL := c3 } from hr2) hi2 hb2
    have I2 := Lib.hid i2
    have y11 : w3.cell? ⟨p, 11, none⟩ = some (.slice m.aL n m.cL) := by rw [hln]; exact hc3.cell_at 11 _ rfl
    have f11 := hc3.frozen 11
    have HP := Lib.hid hp
    have R3 := Lib.hid r3
    have B3 := Lib.hid b3
    have N3 := Lib.hid n3
    have HJ := Lib.hid (show RJ I (w3.setCell ⟨p, 11, none⟩ (.slice A3 (n + 1) c3)) p g (j.rpush b) from ⟨ρ', _, hp, r3, i2, n3⟩)
    clear i2 b2 n2 hp r3 b3 n3
    obtain ⟨w4, hw4⟩ : ∃ w4, w4 = w3.setCell ⟨p, 11, none⟩ (.slice A3 (n + 1) c3) := ⟨_, rfl⟩
    rw [← hw4] at HP R3 B3 N3 HJ
    have H4 := Lib.hid hw4
    have X10 := Lib.hid (show ∀ W, CRow W p 41 (rjCells g (j.rpush b) { m with aL := A3, cL := c3 }) → W.cell? ⟨p, 10, none⟩ = some (.int .i64 5) from fun W h => by have h0 := h.cell_at 10 (.int .i64 (j.op : Int)) rfl; rw [HO.out] at h0; exact h0)
    clear hown hg hwh hln hr2 hi2 hb2 hc3 x11 hw4
    have x10 : (w3.setCell ⟨p, 11, none⟩ (.slice A3 (n + 1) c3)).cell? ⟨p, 10, none⟩ = some (.int .i64 5) := by rw [← H4.out]; exact X10.out _ HP.out
    have x17 := HP.out.cell_at 17 (.bool (j.rpush b).data) rfl
    have f17 := HP.out.frozen 17
    have T1 := Lib.hid (HP.out.setCell 17 (.bool false))
    have J1 := Lib.hid (((Btw.refl (I := fun k => k = p) w4)).setCell (p := ⟨p, 17, none⟩) (v := .bool false) rfl)
    have H6 := Lib.hid (show CRow (w4.setCell ⟨p, 17, none⟩ (.bool false)) p 41 (rjCells g ({ j.rpush b with data := false } : Jd) ({ m with aL := A3, cL := c3 } : RjM)) ∧ RjR ρ' (w4.setCell ⟨p, 17, none⟩ (.bool false)) p g ({ j.rpush b with data := false } : Jd) ({ m with aL := A3, cL := c3 } : RjM) ∧ Btw I w (w4.setCell ⟨p, 17, none⟩ (.bool false)) from
     ⟨by have h0 := T1.out; simpa [rjCells, Jd.rpush] using h0, (fun (h : RjR ρ' _ p g (j.rpush b) ({ m with aL := A3, cL := c3 } : RjM)) => ({ h with } : RjR ρ' _ p g ({ j.rpush b with data := false } : Jd) ({ m with aL := A3, cL := c3 } : RjM))) (R3.out.btw J1.out fun k e => .inr (by have e : k = p := e; rw [e]; exact R3.out.rp)), B3.out.trans J1.out fun k _ e => I2.out k (by have e : k = p := e; rw [e, R3.out.rp]; decide)⟩)
    obtain ⟨w5, hw5⟩ : ∃ w5, w5 = w4.setCell ⟨p, 17, none⟩ (.bool false) := ⟨_, rfl⟩
    rw [← hw5] at H6
    have H5 := Lib.hid hw5
    rw [H4.out] at x17 f17
    clear hw5
    go_wp2
    go_ret
    rw [HR.out]
    rw [← H4.out]
    rw [← H5.out]
    exact ⟨rfl, ⟨ρ', _, H6.out.1, H6.out.2.1, I2.out, fun k hk => N0.out k (Nat.le_trans H6.out.2.2.size hk)⟩, H6.out.2.2⟩
 ·
  skip
  have HO := Lib.hid (show j.op = 8 from HOO.out.symm)
  by_cases hn : n = 3
  ·
   skip
   have bn3 : (((n : Nat) : Int) == 3) = true := by simp; omega
   have jn3 : (((n : Nat) : Int) = 3) = True := eq_true (by omega)
   have kn3 : (n = 3) = True := eq_true (by omega)
   have dn3 : decide (((n : Nat) : Int) = 3) = true := decide_eq_true (by omega)
   have HN3 := Lib.hid hn
   clear hn
   clear HBB hb8
   go_enter Try.func33, Try.ntmps33
   have x11 : w.cell? ⟨p, 11, none⟩ = some (.slice m.aL n m.cL) := X11.out
   go_wp2_with (at_builtin; refine japp64 (w.alloc (.cells #[.int .i64 (b : Int)] 3)) rfl (.tmp 15) (.tmp 17) rfl 0 _ (JI j.listed) n LJ.out rfl (OL.out.alloc _) ⟨w.heap.size, 0, none⟩ 1 (b : Int) rfl (jone64 w (b : Int) _) (by have := LN.out; omega) (Nat.zero_le _) ?_)
   intro v3 w3 hown hg hwh
   obtain ⟨A3, c3, rfl⟩ := jown_form hown
   have hln : n = j.listed.length := HN.out
   have hpu := (R0.out.below (below_new w (.cells #[.int .i64 (b : Int)] 3))).pushL (w3 := w3) (A3 := A3) (c3 := c3) b (by rw [← hln]; exact hown) (by rw [← hln]; exact hg) (by
    rw [← hln]
    first
    | exact hwh
    | (have e9 : (w.alloc (.cells #[.int .i64 (b : Int)] 3)).heap.size = w.heap.size + 1 := by simp
       rw [e9]
       exact hwh))
   obtain ⟨ρ', hr2, hi2, hb2⟩ := hpu
   obtain ⟨i2, b2, n2, hc3, hp, r3, b3, n3⟩ := rpushed C0.out R0.out I0.out N0.out hln (show RjR ρ' w3 p g (j.rpush b) { m with aL := A3, cL := c3 } from hr2) hi2 hb2
   have I2 := Lib.hid i2
   have y11 : w3.cell? ⟨p, 11, none⟩ = some (.slice m.aL n m.cL) := by rw [hln]; exact hc3.cell_at 11 _ rfl
   have f11 := hc3.frozen 11
   have HP := Lib.hid hp
   have R3 := Lib.hid r3
   have B3 := Lib.hid b3
   have N3 := Lib.hid n3
   have HJ := Lib.hid (show RJ I (w3.setCell ⟨p, 11, none⟩ (.slice A3 (n + 1) c3)) p g (j.rpush b) from ⟨ρ', _, hp, r3, i2, n3⟩)
   clear i2 b2 n2 hp r3 b3 n3
   obtain ⟨w4, hw4⟩ : ∃ w4, w4 = w3.setCell ⟨p, 11, none⟩ (.slice A3 (n + 1) c3) := ⟨_, rfl⟩
   rw [← hw4] at HP R3 B3 N3 HJ
   have H4 := Lib.hid hw4
   have X10 := Lib.hid (show ∀ W, CRow W p 41 (rjCells g (j.rpush b) { m with aL := A3, cL := c3 }) → W.cell? ⟨p, 10, none⟩ = some (.int .i64 8) from fun W h => by have h0 := h.cell_at 10 (.int .i64 (j.op : Int)) rfl; rw [HO.out] at h0; exact h0)
   clear hown hg hwh hln hr2 hi2 hb2 hc3 x11 hw4
   have x10 : (w3.setCell ⟨p, 11, none⟩ (.slice A3 (n + 1) c3)).cell? ⟨p, 10, none⟩ = some (.int .i64 8) := by rw [← H4.out]; exact X10.out _ HP.out
   have H6 := Lib.hid (show CRow w4 p 41 (rjCells g (j.rpush b) ({ m with aL := A3, cL := c3 } : RjM)) ∧ RjR ρ' w4 p g (j.rpush b) ({ m with aL := A3, cL := c3 } : RjM) ∧ Btw I w w4 from ⟨HP.out, R3.out, B3.out⟩)
   have HWX := H4
   have HTJ := Lib.hid (fun W (k : Nat) (hk : k + 1 < n + 1) (hh : RJ I W p g (j.rpush b)) => show Calls Try.prog 45 #[.pointer (some ⟨p, 0, none⟩), .int .i64 (k : Int)] W (Gives (.int .i64 ((j.rpush b).addr2 k : Int)) W) from rtwo (j := (j.rpush b)) k (by show k + 1 < (j.rpush b).listed.length; rw [LP.out]; exact hk) (by show (j.rpush b).listed.length ≤ _; rw [LP.out]; omega) L8.out hh)
   have HT0 := Lib.hid (show Calls Try.prog 45 #[.pointer (some ⟨p, 0, none⟩), .int .i64 0] w4 (Gives (.int .i64 ((j.rpush b).addr2 0 : Int)) w4) from HTJ.out w4 0 (by have := HN3.out; omega) ⟨ρ', _, H6.out.1, H6.out.2.1, I2.out, fun k hk => N0.out k (Nat.le_trans H6.out.2.2.size hk)⟩)
   have HT0X := Lib.hid (HWX.out ▸ HT0.out)
   obtain ⟨A0, hA0⟩ : ∃ A0, A0 = (j.rpush b).addr2 0 := ⟨_, rfl⟩
   rw [← hA0] at HT0X
   have HA0 := Lib.hid hA0
   clear hA0 HT0 HTJ
   go_wp2_with fail
   refine HT0X.out.mono ?_
   rintro _ w6 ⟨rfl, h6⟩
   rw [← HWX.out] at h6
   have C6 := Lib.hid (H6.out.1.below h6)
   have R6 := Lib.hid (H6.out.2.1.below h6)
   have B6 := Lib.hid (H6.out.2.2.trans (Btw.of_below h6) fun _ _ h => h)
   clear h6 HT0X
   have x18 := C6.out.cell_at 18 (.int .i64 (((j.rpush b)).col : Int)) rfl
   have f18 := C6.out.frozen 18
   have U1 := Lib.hid (C6.out.setCell 18 (.int .i64 (A0 : Int)))
   have V1 := Lib.hid (((Btw.refl (I := fun k => k = p) w6)).setCell (p := ⟨p, 18, none⟩) (v := .int .i64 (A0 : Int)) rfl)
   have CF := Lib.hid (show CRow (w6.setCell ⟨p, 18, none⟩ (.int .i64 (A0 : Int))) p 41 (rjCells g ({ j.rpush b with col := A0 } : Jd) ({ m with aL := A3, cL := c3 } : RjM)) ∧ RjR ρ' (w6.setCell ⟨p, 18, none⟩ (.int .i64 (A0 : Int))) p g ({ j.rpush b with col := A0 } : Jd) ({ m with aL := A3, cL := c3 } : RjM) ∧ Btw I w (w6.setCell ⟨p, 18, none⟩ (.int .i64 (A0 : Int))) from
    ⟨by have h0 := U1.out; simpa [rjCells, Jd.rpush] using h0, (fun (h : RjR ρ' _ p g (j.rpush b) ({ m with aL := A3, cL := c3 } : RjM)) => ({ h with } : RjR ρ' _ p g ({ j.rpush b with col := A0 } : Jd) ({ m with aL := A3, cL := c3 } : RjM))) (R6.out.btw V1.out fun k e => .inr (by have e : k = p := e; rw [e]; exact R6.out.rp)), B6.out.trans V1.out fun k _ e => I2.out k (by have e : k = p := e; rw [e, R6.out.rp]; decide)⟩)
   have X9 := Lib.hid (show ∀ W, CRow W p 41 (rjCells g ({ j.rpush b with col := A0 } : Jd) ({ m with aL := A3, cL := c3 } : RjM)) → W.cell? ⟨p, 9, none⟩ = some (.slice (some ⟨m.q, 0, none⟩) R m.cq) from fun W h => by rw [HRR.out]; exact h.cell_at 9 _ rfl)
   have X18 := Lib.hid (show ∀ W, CRow W p 41 (rjCells g ({ j.rpush b with col := A0 } : Jd) ({ m with aL := A3, cL := c3 } : RjM)) → W.cell? ⟨p, 18, none⟩ = some (.int .i64 (A0 : Int)) from fun W h => h.cell_at 18 _ rfl)
   go_wp2_with fail
   obtain ⟨w7, hw7⟩ : ∃ w7, w7 = w6.setCell ⟨p, 18, none⟩ (.int .i64 (A0 : Int)) := ⟨_, rfl⟩
   rw [← hw7] at CF
   try rw [← hw7]
   clear hw7 x18 f18
   have HTJ := Lib.hid (fun W (k : Nat) (hk : k + 1 < n + 1) (hh : RJ I W p g ({ j.rpush b with col := A0 } : Jd)) => show Calls Try.prog 45 #[.pointer (some ⟨p, 0, none⟩), .int .i64 (k : Int)] W (Gives (.int .i64 ((j.rpush b).addr2 k : Int)) W) from rtwo (j := ({ j.rpush b with col := A0 } : Jd)) k (by show k + 1 < (j.rpush b).listed.length; rw [LP.out]; exact hk) (by show (j.rpush b).listed.length ≤ _; rw [LP.out]; omega) L8.out hh)
   obtain ⟨A2, hA2⟩ : ∃ A2, A2 = (j.rpush b).addr2 2 := ⟨_, rfl⟩
   have HA2 := Lib.hid hA2
   have HTJ := Lib.hid (fun W (hh : RJ I W p g ({ j.rpush b with col := A0 } : Jd)) => show Calls Try.prog 45 #[.pointer (some ⟨p, 0, none⟩), .int .i64 2] W (Gives (.int .i64 (A2 : Int)) W) from hA2 ▸ HTJ.out W 2 (by have := HN3.out; omega) hh)
   clear hA2
   simp only [Gm.val] at HRQ
   have HR0 := Lib.hid (show j.raddr g b = (decide (A2 < R) && decide (A0 < N), ({ j.rpush b with col := A0 } : Jd)) by unfold Jd.raddr; rw [HO.out, if_neg (by decide), if_neg (by decide), if_neg (by decide), if_pos (by decide), if_pos (HN.out.symm.trans HN3.out), HA2.out, HA0.out, HRR.out, HNN.out]; rfl)
   clear bn3 jn3 kn3 dn3
   by_cases h1 : A2 < R
   ·
    have e1 : decide ((A2 : Int) < (R : Int)) = true := decide_eq_true (by omega)
    have e2 : decide (A2 < R) = true := decide_eq_true h1
    by_cases h2 : A0 < N
    ·
     have e3 : decide ((A0 : Int) < (N : Int)) = true := decide_eq_true (by omega)
     have e4 : decide (A0 < N) = true := decide_eq_true h2
     have HR := Lib.hid (show j.raddr g b = (true, ({ j.rpush b with col := A0 } : Jd)) by rw [HR0.out, e2, e4]; rfl)
     clear h1 h2
     refine wp_region_noPanic ?_
     refine wp_region_held_drew (S := fun w' => CRow w' p 41 (rjCells g ({ j.rpush b with col := A0 } : Jd) ({ m with aL := A3, cL := c3 } : RjM)) ∧ RjR ρ' w' p g ({ j.rpush b with col := A0 } : Jd) ({ m with aL := A3, cL := c3 } : RjM) ∧ Btw I w w') (by kernel_rfl) ⟨CF.out.1.drew, CF.out.2.1.below ((Below.refl _ _).drew), CF.out.2.2.drew⟩ (fun C0 => ?_)
     refine tkH 0 zR0 _ C0 rfl (by kernel_rfl) rfl (fun W h => by clear h; dsimp only [zR0]; go_simp <;> with_reducible rfl) ?_
     try simp only [zR0, Act.put, zzI, zzO, zzS]
     refine tkH 2 zR1 _ C0 rfl (by kernel_rfl) rfl (fun W h => by clear h; dsimp only [zR1]; go_simp <;> with_reducible rfl) ?_
     try simp only [zR1, Act.put, zzI, zzO, zzS]
     refine tkH 3 zR2 _ C0 rfl (by kernel_rfl) rfl (fun W h => by clear h; dsimp only [zR2]; go_simp <;> with_reducible rfl) ?_
     try simp only [zR2, Act.put, zzI, zzO, zzS]
     refine tkH 4 zR3 _ C0 rfl (by kernel_rfl) rfl (fun W h => by clear h; dsimp only [zR3]; go_simp <;> with_reducible rfl) ?_
     try simp only [zR3, Act.put, zzI, zzO, zzS]
     refine tkH 5 zR4 _ C0 rfl (by kernel_rfl) rfl (fun W' hSw => by obtain ⟨hs, -, -⟩ := hSw; have x9 := X9.out W' hs; clear hs; dsimp only [zR4]; go_simp <;> with_reducible rfl) ?_
     try simp only [zR4, Act.put, zzI, zzO, zzS]
     refine tkH 6 zR5 _ C0 rfl (by kernel_rfl) rfl (fun W h => by clear h; dsimp only [zR5]; go_simp <;> with_reducible rfl) ?_
     try simp only [zR5, Act.put, zzI, zzO, zzS]
     refine wpAnyH_ready (rs := [1]) (by kernel_rfl) (by simp) ?_
     refine AllReadyH.cons (o := zRc0) rfl (fun K hK => ?_) AllReadyH.nil
     dsimp only [zRc0]
     go_simp
     refine (HTJ.out _ ⟨ρ', _, (C0).1, (C0).2.1, I2.out, fun k hk => N0.out k (Nat.le_trans (C0).2.2.size hk)⟩).mono ?_
     rintro _ wz ⟨rfl, hz⟩
     have ZC1 := Lib.hid (show CRow wz p 41 (rjCells g ({ j.rpush b with col := A0 } : Jd) ({ m with aL := A3, cL := c3 } : RjM)) ∧ RjR ρ' wz p g ({ j.rpush b with col := A0 } : Jd) ({ m with aL := A3, cL := c3 } : RjM) ∧ Btw I w wz from ⟨(C0).1.below hz, (C0).2.1.below hz, (C0).2.2.trans (Btw.of_below hz) fun _ _ h => h⟩)
     clear hz
     go_wp2_with fail
     refine hK.out _ _ ZC1.out (fun C1 => ?_)
     clear hK K
     try simp only [Act.put, zzI, zzO, zzS]
     refine tkH 7 zR6 _ C1 rfl (by kernel_rfl) rfl (fun W h => by clear h; dsimp only [zR6]; go_simp <;> with_reducible rfl) ?_
     try simp only [zR6, Act.put, zzI, zzO, zzS]
     refine tkH 8 zR7 _ C1 rfl (by kernel_rfl) rfl (fun W h => by clear h; dsimp only [zR7]; go_simp <;> with_reducible rfl) ?_
     try simp only [zR7, Act.put, zzI, zzO, zzS]
     refine tkH 9 zR8 _ C1 rfl (by kernel_rfl) rfl (fun W h => by clear h; dsimp only [zR8]; go_simp <;> with_reducible rfl) ?_
     try simp only [zR8, Act.put, zzI, zzO, zzS]
     refine tkH 10 zR9 _ C1 rfl (by kernel_rfl) rfl (fun W h => by clear h; dsimp only [zR9]; go_simp <;> with_reducible rfl) ?_
     try simp only [zR9, Act.put, zzI, zzO, zzS]
     refine tkH 11 zR10 _ C1 rfl (by kernel_rfl) rfl (fun W h => by clear h; dsimp only [zR10]; go_simp <;> with_reducible rfl) ?_
     try simp only [zR10, Act.put, zzI, zzO, zzS]
     refine tkH 12 zR11 _ C1 rfl (by kernel_rfl) rfl (fun W' hSw => by obtain ⟨hs, -, -⟩ := hSw; have x18 := X18.out W' hs; clear hs; dsimp only [zR11]; go_simp <;> with_reducible rfl) ?_
     try simp only [zR11, Act.put, zzI, zzO, zzS]
     refine tkH 13 zR12 _ C1 rfl (by kernel_rfl) rfl (fun W h => by clear h; dsimp only [zR12]; go_simp <;> with_reducible rfl) ?_
     try simp only [zR12, Act.put, zzI, zzO, zzS]
     refine tkH 14 zR13 _ C1 rfl (by kernel_rfl) rfl (fun W h => by clear h; dsimp only [zR13]; go_simp <;> with_reducible rfl) ?_
     try simp only [zR13, Act.put, zzI, zzO, zzS]
     refine tkH 15 zR14 _ C1 rfl (by kernel_rfl) rfl (fun W h => by clear h; dsimp only [zR14]; go_simp <;> with_reducible rfl) ?_
     try simp only [zR14, Act.put, zzI, zzO, zzS]
     refine tkH 16 zR15 _ C1 rfl (by kernel_rfl) rfl (fun W' hSw => by obtain ⟨hs, -, -⟩ := hSw; have g0 := hs.cell_at 0 (.int .i64 g.p) rfl; have g1 := hs.cell_at 1 (.int .i64 g.b) rfl; have g2 := hs.cell_at 2 (.int .i64 g.s) rfl; have g3 := hs.cell_at 3 (.int .i64 g.c) rfl; have g4 := hs.cell_at 4 (.int .i64 g.k) rfl; have g5 := hs.cell_at 5 (.int .i64 g.r) rfl; have g6 := hs.cell_at 6 (.int .i64 g.q) rfl; clear hs; dsimp only [zR15]; go_simp <;> with_reducible rfl) ?_
     try simp only [zR15, Act.put, zzI, zzO, zzS]
     refine wpAnyH_ready (rs := [17]) (by kernel_rfl) (by simp) ?_
     refine AllReadyH.cons (o := zRc1) rfl (fun K hK => ?_) AllReadyH.nil
     dsimp only [zRc1]
     go_simp
     refine (HRQ.out _).mono ?_
     rintro _ wz ⟨rfl, hz⟩
     have ZC2 := Lib.hid (show CRow wz p 41 (rjCells g ({ j.rpush b with col := A0 } : Jd) ({ m with aL := A3, cL := c3 } : RjM)) ∧ RjR ρ' wz p g ({ j.rpush b with col := A0 } : Jd) ({ m with aL := A3, cL := c3 } : RjM) ∧ Btw I w wz from ⟨(C1).1.below hz, (C1).2.1.below hz, (C1).2.2.trans (Btw.of_below hz) fun _ _ h => h⟩)
     clear hz
     go_wp2_with fail
     refine hK.out _ _ ZC2.out (fun C2 => ?_)
     clear hK K
     try simp only [Act.put, zzI, zzO, zzS]
     refine tkH 18 zR16 _ C2 rfl (by kernel_rfl) rfl (fun W h => by clear h; dsimp only [zR16]; go_simp <;> with_reducible rfl) ?_
     try simp only [zR16, Act.put, zzI, zzO, zzS]
     refine tkH 19 zR17 _ C2 rfl (by kernel_rfl) rfl (fun W h => by clear h; dsimp only [zR17]; go_simp <;> with_reducible rfl) ?_
     try simp only [zR17, Act.put, zzI, zzO, zzS]
     refine tkH 20 zR18 _ C2 rfl (by kernel_rfl) rfl (fun W h => by clear h; dsimp only [zR18]; go_simp <;> with_reducible rfl) ?_
     try simp only [zR18, Act.put, zzI, zzO, zzS]
     have CE := Lib.hid C2
     refine wpAnyH_done (by kernel_rfl) ?_ _
     refine NoPanic.normal ?_
     go_wp2
     go_ret
     rw [HR.out]
     exact ⟨rfl, ⟨ρ', _, (CE.out).1, (CE.out).2.1, I2.out, fun k hk => N0.out k (Nat.le_trans (CE.out).2.2.size hk)⟩, CE.out.2.2⟩
    ·
     have e3 : decide ((A0 : Int) < (N : Int)) = false := decide_eq_false (by omega)
     have e4 : decide (A0 < N) = false := decide_eq_false h2
     have HR := Lib.hid (show j.raddr g b = (false, ({ j.rpush b with col := A0 } : Jd)) by rw [HR0.out, e2, e4]; rfl)
     clear h1 h2
     refine wp_region_noPanic ?_
     refine wp_region_held_drew (S := fun w' => CRow w' p 41 (rjCells g ({ j.rpush b with col := A0 } : Jd) ({ m with aL := A3, cL := c3 } : RjM)) ∧ RjR ρ' w' p g ({ j.rpush b with col := A0 } : Jd) ({ m with aL := A3, cL := c3 } : RjM) ∧ Btw I w w') (by kernel_rfl) ⟨CF.out.1.drew, CF.out.2.1.below ((Below.refl _ _).drew), CF.out.2.2.drew⟩ (fun C0 => ?_)
     refine tkH 0 zR0 _ C0 rfl (by kernel_rfl) rfl (fun W h => by clear h; dsimp only [zR0]; go_simp <;> with_reducible rfl) ?_
     try simp only [zR0, Act.put, zzI, zzO, zzS]
     refine tkH 2 zR1 _ C0 rfl (by kernel_rfl) rfl (fun W h => by clear h; dsimp only [zR1]; go_simp <;> with_reducible rfl) ?_
     try simp only [zR1, Act.put, zzI, zzO, zzS]
     refine tkH 3 zR2 _ C0 rfl (by kernel_rfl) rfl (fun W h => by clear h; dsimp only [zR2]; go_simp <;> with_reducible rfl) ?_
     try simp only [zR2, Act.put, zzI, zzO, zzS]
     refine tkH 4 zR3 _ C0 rfl (by kernel_rfl) rfl (fun W h => by clear h; dsimp only [zR3]; go_simp <;> with_reducible rfl) ?_
     try simp only [zR3, Act.put, zzI, zzO, zzS]
     refine tkH 5 zR4 _ C0 rfl (by kernel_rfl) rfl (fun W' hSw => by obtain ⟨hs, -, -⟩ := hSw; have x9 := X9.out W' hs; clear hs; dsimp only [zR4]; go_simp <;> with_reducible rfl) ?_
     try simp only [zR4, Act.put, zzI, zzO, zzS]
     refine tkH 6 zR5 _ C0 rfl (by kernel_rfl) rfl (fun W h => by clear h; dsimp only [zR5]; go_simp <;> with_reducible rfl) ?_
     try simp only [zR5, Act.put, zzI, zzO, zzS]
     refine wpAnyH_ready (rs := [1]) (by kernel_rfl) (by simp) ?_
     refine AllReadyH.cons (o := zRc0) rfl (fun K hK => ?_) AllReadyH.nil
     dsimp only [zRc0]
     go_simp
     refine (HTJ.out _ ⟨ρ', _, (C0).1, (C0).2.1, I2.out, fun k hk => N0.out k (Nat.le_trans (C0).2.2.size hk)⟩).mono ?_
     rintro _ wz ⟨rfl, hz⟩
     have ZC1 := Lib.hid (show CRow wz p 41 (rjCells g ({ j.rpush b with col := A0 } : Jd) ({ m with aL := A3, cL := c3 } : RjM)) ∧ RjR ρ' wz p g ({ j.rpush b with col := A0 } : Jd) ({ m with aL := A3, cL := c3 } : RjM) ∧ Btw I w wz from ⟨(C0).1.below hz, (C0).2.1.below hz, (C0).2.2.trans (Btw.of_below hz) fun _ _ h => h⟩)
     clear hz
     go_wp2_with fail
     refine hK.out _ _ ZC1.out (fun C1 => ?_)
     clear hK K
     try simp only [Act.put, zzI, zzO, zzS]
     refine tkH 7 zR6 _ C1 rfl (by kernel_rfl) rfl (fun W h => by clear h; dsimp only [zR6]; go_simp <;> with_reducible rfl) ?_
     try simp only [zR6, Act.put, zzI, zzO, zzS]
     refine tkH 8 zR7 _ C1 rfl (by kernel_rfl) rfl (fun W h => by clear h; dsimp only [zR7]; go_simp <;> with_reducible rfl) ?_
     try simp only [zR7, Act.put, zzI, zzO, zzS]
     refine tkH 9 zR8 _ C1 rfl (by kernel_rfl) rfl (fun W h => by clear h; dsimp only [zR8]; go_simp <;> with_reducible rfl) ?_
     try simp only [zR8, Act.put, zzI, zzO, zzS]
     refine tkH 10 zR9 _ C1 rfl (by kernel_rfl) rfl (fun W h => by clear h; dsimp only [zR9]; go_simp <;> with_reducible rfl) ?_
     try simp only [zR9, Act.put, zzI, zzO, zzS]
     refine tkH 11 zR10 _ C1 rfl (by kernel_rfl) rfl (fun W h => by clear h; dsimp only [zR10]; go_simp <;> with_reducible rfl) ?_
     try simp only [zR10, Act.put, zzI, zzO, zzS]
     refine tkH 12 zR11 _ C1 rfl (by kernel_rfl) rfl (fun W' hSw => by obtain ⟨hs, -, -⟩ := hSw; have x18 := X18.out W' hs; clear hs; dsimp only [zR11]; go_simp <;> with_reducible rfl) ?_
     try simp only [zR11, Act.put, zzI, zzO, zzS]
     refine tkH 13 zR12 _ C1 rfl (by kernel_rfl) rfl (fun W h => by clear h; dsimp only [zR12]; go_simp <;> with_reducible rfl) ?_
     try simp only [zR12, Act.put, zzI, zzO, zzS]
     refine tkH 14 zR13 _ C1 rfl (by kernel_rfl) rfl (fun W h => by clear h; dsimp only [zR13]; go_simp <;> with_reducible rfl) ?_
     try simp only [zR13, Act.put, zzI, zzO, zzS]
     refine tkH 15 zR14 _ C1 rfl (by kernel_rfl) rfl (fun W h => by clear h; dsimp only [zR14]; go_simp <;> with_reducible rfl) ?_
     try simp only [zR14, Act.put, zzI, zzO, zzS]
     refine tkH 16 zR15 _ C1 rfl (by kernel_rfl) rfl (fun W' hSw => by obtain ⟨hs, -, -⟩ := hSw; have g0 := hs.cell_at 0 (.int .i64 g.p) rfl; have g1 := hs.cell_at 1 (.int .i64 g.b) rfl; have g2 := hs.cell_at 2 (.int .i64 g.s) rfl; have g3 := hs.cell_at 3 (.int .i64 g.c) rfl; have g4 := hs.cell_at 4 (.int .i64 g.k) rfl; have g5 := hs.cell_at 5 (.int .i64 g.r) rfl; have g6 := hs.cell_at 6 (.int .i64 g.q) rfl; clear hs; dsimp only [zR15]; go_simp <;> with_reducible rfl) ?_
     try simp only [zR15, Act.put, zzI, zzO, zzS]
     refine wpAnyH_ready (rs := [17]) (by kernel_rfl) (by simp) ?_
     refine AllReadyH.cons (o := zRc1) rfl (fun K hK => ?_) AllReadyH.nil
     dsimp only [zRc1]
     go_simp
     refine (HRQ.out _).mono ?_
     rintro _ wz ⟨rfl, hz⟩
     have ZC2 := Lib.hid (show CRow wz p 41 (rjCells g ({ j.rpush b with col := A0 } : Jd) ({ m with aL := A3, cL := c3 } : RjM)) ∧ RjR ρ' wz p g ({ j.rpush b with col := A0 } : Jd) ({ m with aL := A3, cL := c3 } : RjM) ∧ Btw I w wz from ⟨(C1).1.below hz, (C1).2.1.below hz, (C1).2.2.trans (Btw.of_below hz) fun _ _ h => h⟩)
     clear hz
     go_wp2_with fail
     refine hK.out _ _ ZC2.out (fun C2 => ?_)
     clear hK K
     try simp only [Act.put, zzI, zzO, zzS]
     refine tkH 18 zR16 _ C2 rfl (by kernel_rfl) rfl (fun W h => by clear h; dsimp only [zR16]; go_simp <;> with_reducible rfl) ?_
     try simp only [zR16, Act.put, zzI, zzO, zzS]
     refine tkH 19 zR17 _ C2 rfl (by kernel_rfl) rfl (fun W h => by clear h; dsimp only [zR17]; go_simp <;> with_reducible rfl) ?_
     try simp only [zR17, Act.put, zzI, zzO, zzS]
     refine tkH 20 zR18 _ C2 rfl (by kernel_rfl) rfl (fun W h => by clear h; dsimp only [zR18]; go_simp <;> with_reducible rfl) ?_
     try simp only [zR18, Act.put, zzI, zzO, zzS]
     have CE := Lib.hid C2
     refine wpAnyH_done (by kernel_rfl) ?_ _
     refine NoPanic.normal ?_
     go_wp2
     go_ret
     rw [HR.out]
     exact ⟨rfl, ⟨ρ', _, (CE.out).1, (CE.out).2.1, I2.out, fun k hk => N0.out k (Nat.le_trans (CE.out).2.2.size hk)⟩, CE.out.2.2⟩
   ·
    have e1 : decide ((A2 : Int) < (R : Int)) = false := decide_eq_false (by omega)
    have e2 : decide (A2 < R) = false := decide_eq_false h1
    have HR := Lib.hid (show j.raddr g b = (false, ({ j.rpush b with col := A0 } : Jd)) by rw [HR0.out, e2]; rfl)
    clear h1
    refine wp_region_noPanic ?_
    refine wp_region_held_drew (S := fun w' => CRow w' p 41 (rjCells g ({ j.rpush b with col := A0 } : Jd) ({ m with aL := A3, cL := c3 } : RjM)) ∧ RjR ρ' w' p g ({ j.rpush b with col := A0 } : Jd) ({ m with aL := A3, cL := c3 } : RjM) ∧ Btw I w w') (by kernel_rfl) ⟨CF.out.1.drew, CF.out.2.1.below ((Below.refl _ _).drew), CF.out.2.2.drew⟩ (fun C0 => ?_)
    refine tkH 0 zR0 _ C0 rfl (by kernel_rfl) rfl (fun W h => by clear h; dsimp only [zR0]; go_simp <;> with_reducible rfl) ?_
    try simp only [zR0, Act.put, zzI, zzO, zzS]
    refine tkH 2 zR1 _ C0 rfl (by kernel_rfl) rfl (fun W h => by clear h; dsimp only [zR1]; go_simp <;> with_reducible rfl) ?_
    try simp only [zR1, Act.put, zzI, zzO, zzS]
    refine tkH 3 zR2 _ C0 rfl (by kernel_rfl) rfl (fun W h => by clear h; dsimp only [zR2]; go_simp <;> with_reducible rfl) ?_
    try simp only [zR2, Act.put, zzI, zzO, zzS]
    refine tkH 4 zR3 _ C0 rfl (by kernel_rfl) rfl (fun W h => by clear h; dsimp only [zR3]; go_simp <;> with_reducible rfl) ?_
    try simp only [zR3, Act.put, zzI, zzO, zzS]
    refine tkH 5 zR4 _ C0 rfl (by kernel_rfl) rfl (fun W' hSw => by obtain ⟨hs, -, -⟩ := hSw; have x9 := X9.out W' hs; clear hs; dsimp only [zR4]; go_simp <;> with_reducible rfl) ?_
    try simp only [zR4, Act.put, zzI, zzO, zzS]
    refine tkH 6 zR5 _ C0 rfl (by kernel_rfl) rfl (fun W h => by clear h; dsimp only [zR5]; go_simp <;> with_reducible rfl) ?_
    try simp only [zR5, Act.put, zzI, zzO, zzS]
    refine wpAnyH_ready (rs := [1]) (by kernel_rfl) (by simp) ?_
    refine AllReadyH.cons (o := zRc0) rfl (fun K hK => ?_) AllReadyH.nil
    dsimp only [zRc0]
    go_simp
    refine (HTJ.out _ ⟨ρ', _, (C0).1, (C0).2.1, I2.out, fun k hk => N0.out k (Nat.le_trans (C0).2.2.size hk)⟩).mono ?_
    rintro _ wz ⟨rfl, hz⟩
    have ZC1 := Lib.hid (show CRow wz p 41 (rjCells g ({ j.rpush b with col := A0 } : Jd) ({ m with aL := A3, cL := c3 } : RjM)) ∧ RjR ρ' wz p g ({ j.rpush b with col := A0 } : Jd) ({ m with aL := A3, cL := c3 } : RjM) ∧ Btw I w wz from ⟨(C0).1.below hz, (C0).2.1.below hz, (C0).2.2.trans (Btw.of_below hz) fun _ _ h => h⟩)
    clear hz
    go_wp2_with fail
    refine hK.out _ _ ZC1.out (fun C1 => ?_)
    clear hK K
    try simp only [Act.put, zzI, zzO, zzS]
    refine tkH 7 zR6 _ C1 rfl (by kernel_rfl) rfl (fun W h => by clear h; dsimp only [zR6]; go_simp <;> with_reducible rfl) ?_
    try simp only [zR6, Act.put, zzI, zzO, zzS]
    refine tkH 8 zR7 _ C1 rfl (by kernel_rfl) rfl (fun W h => by clear h; dsimp only [zR7]; go_simp <;> with_reducible rfl) ?_
    try simp only [zR7, Act.put, zzI, zzO, zzS]
    refine tkN 9 zR8 C1 rfl (by kernel_rfl) rfl ?_
    try simp only [zR8, Act.put, zzI, zzO, zzS]
    refine tkN 10 zR9 C1 rfl (by kernel_rfl) rfl ?_
    try simp only [zR9, Act.put, zzI, zzO, zzS]
    refine tkN 11 zR10 C1 rfl (by kernel_rfl) rfl ?_
    try simp only [zR10, Act.put, zzI, zzO, zzS]
    refine tkN 12 zR11 C1 rfl (by kernel_rfl) rfl ?_
    try simp only [zR11, Act.put, zzI, zzO, zzS]
    refine tkN 13 zR12 C1 rfl (by kernel_rfl) rfl ?_
    try simp only [zR12, Act.put, zzI, zzO, zzS]
    refine tkN 14 zR13 C1 rfl (by kernel_rfl) rfl ?_
    try simp only [zR13, Act.put, zzI, zzO, zzS]
    refine tkN 15 zR14 C1 rfl (by kernel_rfl) rfl ?_
    try simp only [zR14, Act.put, zzI, zzO, zzS]
    refine tkN 16 zR15 C1 rfl (by kernel_rfl) rfl ?_
    try simp only [zR15, Act.put, zzI, zzO, zzS]
    refine tkN 17 zR19 C1 rfl (by kernel_rfl) rfl ?_
    try simp only [zR19, Act.put, zzI, zzO, zzS]
    refine tkN 18 zR16 C1 rfl (by kernel_rfl) rfl ?_
    try simp only [zR16, Act.put, zzI, zzO, zzS]
    refine tkH 19 zR17 _ C1 rfl (by kernel_rfl) rfl (fun W h => by clear h; dsimp only [zR17]; go_simp <;> with_reducible rfl) ?_
    try simp only [zR17, Act.put, zzI, zzO, zzS]
    refine tkH 20 zR18 _ C1 rfl (by kernel_rfl) rfl (fun W h => by clear h; dsimp only [zR18]; go_simp <;> with_reducible rfl) ?_
    try simp only [zR18, Act.put, zzI, zzO, zzS]
    have CE := Lib.hid C1
    refine wpAnyH_done (by kernel_rfl) ?_ _
    refine NoPanic.normal ?_
    go_wp2
    go_ret
    rw [HR.out]
    exact ⟨rfl, ⟨ρ', _, (CE.out).1, (CE.out).2.1, I2.out, fun k hk => N0.out k (Nat.le_trans (CE.out).2.2.size hk)⟩, CE.out.2.2⟩
  ·
   skip
   have bn3 : (((n : Nat) : Int) == 3) = false := by simp; omega
   have jn3 : (((n : Nat) : Int) = 3) = False := eq_false (by omega)
   have kn3 : (n = 3) = False := eq_false (by omega)
   have dn3 : decide (((n : Nat) : Int) = 3) = false := decide_eq_false (by omega)
   by_cases hlt : n < 3
   ·
    have e1 : decide ((n : Int) < 3) = true := decide_eq_true (by omega)
    have e2 : decide (n < 3) = true := decide_eq_true (by omega)
    have HR := Lib.hid (show j.raddr g b = (true, (j.rpush b)) by unfold Jd.raddr; rw [HO.out, if_neg (by decide), if_neg (by decide), if_neg (by decide), if_pos (by decide), ← HN.out, if_neg hn, e2]; rfl)
    clear hn hlt
    clear HBB hb8
    go_enter Try.func33, Try.ntmps33
    have x11 : w.cell? ⟨p, 11, none⟩ = some (.slice m.aL n m.cL) := X11.out
    go_wp2_with (at_builtin; refine japp64 (w.alloc (.cells #[.int .i64 (b : Int)] 3)) rfl (.tmp 15) (.tmp 17) rfl 0 _ (JI j.listed) n LJ.out rfl (OL.out.alloc _) ⟨w.heap.size, 0, none⟩ 1 (b : Int) rfl (jone64 w (b : Int) _) (by have := LN.out; omega) (Nat.zero_le _) ?_)
    intro v3 w3 hown hg hwh
    obtain ⟨A3, c3, rfl⟩ := jown_form hown
    have hln : n = j.listed.length := HN.out
    have hpu := (R0.out.below (below_new w (.cells #[.int .i64 (b : Int)] 3))).pushL (w3 := w3) (A3 := A3) (c3 := c3) b (by rw [← hln]; exact hown) (by rw [← hln]; exact hg) (by
     rw [← hln]
     first
     | exact hwh
     | (have e9 : (w.alloc (.cells #[.int .i64 (b : Int)] 3)).heap.size = w.heap.size + 1 := by simp
        rw [e9]
        exact hwh))
    obtain ⟨ρ', hr2, hi2, hb2⟩ := hpu
    obtain ⟨i2, b2, n2, hc3, hp, r3, b3, n3⟩ := rpushed C0.out R0.out I0.out N0.out hln (show RjR ρ' w3 p g (j.rpush b) { m with aL := A3, cL := c3 } from hr2) hi2 hb2
    have I2 := Lib.hid i2
    have y11 : w3.cell? ⟨p, 11, none⟩ = some (.slice m.aL n m.cL) := by rw [hln]; exact hc3.cell_at 11 _ rfl
    have f11 := hc3.frozen 11
    have HP := Lib.hid hp
    have R3 := Lib.hid r3
    have B3 := Lib.hid b3
    have N3 := Lib.hid n3
    have HJ := Lib.hid (show RJ I (w3.setCell ⟨p, 11, none⟩ (.slice A3 (n + 1) c3)) p g (j.rpush b) from ⟨ρ', _, hp, r3, i2, n3⟩)
    clear i2 b2 n2 hp r3 b3 n3
    obtain ⟨w4, hw4⟩ : ∃ w4, w4 = w3.setCell ⟨p, 11, none⟩ (.slice A3 (n + 1) c3) := ⟨_, rfl⟩
    rw [← hw4] at HP R3 B3 N3 HJ
    have H4 := Lib.hid hw4
    have X10 := Lib.hid (show ∀ W, CRow W p 41 (rjCells g (j.rpush b) { m with aL := A3, cL := c3 }) → W.cell? ⟨p, 10, none⟩ = some (.int .i64 8) from fun W h => by have h0 := h.cell_at 10 (.int .i64 (j.op : Int)) rfl; rw [HO.out] at h0; exact h0)
    clear hown hg hwh hln hr2 hi2 hb2 hc3 x11 hw4
    have x10 : (w3.setCell ⟨p, 11, none⟩ (.slice A3 (n + 1) c3)).cell? ⟨p, 10, none⟩ = some (.int .i64 8) := by rw [← H4.out]; exact X10.out _ HP.out
    have H6 := Lib.hid (show CRow w4 p 41 (rjCells g (j.rpush b) ({ m with aL := A3, cL := c3 } : RjM)) ∧ RjR ρ' w4 p g (j.rpush b) ({ m with aL := A3, cL := c3 } : RjM) ∧ Btw I w w4 from ⟨HP.out, R3.out, B3.out⟩)
    go_wp2
    go_ret
    rw [HR.out]
    rw [← H4.out]
    exact ⟨rfl, ⟨ρ', _, H6.out.1, H6.out.2.1, I2.out, fun k hk => N0.out k (Nat.le_trans H6.out.2.2.size hk)⟩, H6.out.2.2⟩
   ·
    have e1 : decide ((n : Int) < 3) = false := decide_eq_false (by omega)
    have e2 : decide (n < 3) = false := decide_eq_false (by omega)
    have HR := Lib.hid (show j.raddr g b = (false, (j.rpush b)) by unfold Jd.raddr; rw [HO.out, if_neg (by decide), if_neg (by decide), if_neg (by decide), if_pos (by decide), ← HN.out, if_neg hn, e2]; rfl)
    clear hn hlt
    clear HBB hb8
    go_enter Try.func33, Try.ntmps33
    have x11 : w.cell? ⟨p, 11, none⟩ = some (.slice m.aL n m.cL) := X11.out
    go_wp2_with (at_builtin; refine japp64 (w.alloc (.cells #[.int .i64 (b : Int)] 3)) rfl (.tmp 15) (.tmp 17) rfl 0 _ (JI j.listed) n LJ.out rfl (OL.out.alloc _) ⟨w.heap.size, 0, none⟩ 1 (b : Int) rfl (jone64 w (b : Int) _) (by have := LN.out; omega) (Nat.zero_le _) ?_)
    intro v3 w3 hown hg hwh
    obtain ⟨A3, c3, rfl⟩ := jown_form hown
    have hln : n = j.listed.length := HN.out
    have hpu := (R0.out.below (below_new w (.cells #[.int .i64 (b : Int)] 3))).pushL (w3 := w3) (A3 := A3) (c3 := c3) b (by rw [← hln]; exact hown) (by rw [← hln]; exact hg) (by
     rw [← hln]
     first
     | exact hwh
     | (have e9 : (w.alloc (.cells #[.int .i64 (b : Int)] 3)).heap.size = w.heap.size + 1 := by simp
        rw [e9]
        exact hwh))
    obtain ⟨ρ', hr2, hi2, hb2⟩ := hpu
    obtain ⟨i2, b2, n2, hc3, hp, r3, b3, n3⟩ := rpushed C0.out R0.out I0.out N0.out hln (show RjR ρ' w3 p g (j.rpush b) { m with aL := A3, cL := c3 } from hr2) hi2 hb2
    have I2 := Lib.hid i2
    have y11 : w3.cell? ⟨p, 11, none⟩ = some (.slice m.aL n m.cL) := by rw [hln]; exact hc3.cell_at 11 _ rfl
    have f11 := hc3.frozen 11
    have HP := Lib.hid hp
    have R3 := Lib.hid r3
    have B3 := Lib.hid b3
    have N3 := Lib.hid n3
    have HJ := Lib.hid (show RJ I (w3.setCell ⟨p, 11, none⟩ (.slice A3 (n + 1) c3)) p g (j.rpush b) from ⟨ρ', _, hp, r3, i2, n3⟩)
    clear i2 b2 n2 hp r3 b3 n3
    obtain ⟨w4, hw4⟩ : ∃ w4, w4 = w3.setCell ⟨p, 11, none⟩ (.slice A3 (n + 1) c3) := ⟨_, rfl⟩
    rw [← hw4] at HP R3 B3 N3 HJ
    have H4 := Lib.hid hw4
    have X10 := Lib.hid (show ∀ W, CRow W p 41 (rjCells g (j.rpush b) { m with aL := A3, cL := c3 }) → W.cell? ⟨p, 10, none⟩ = some (.int .i64 8) from fun W h => by have h0 := h.cell_at 10 (.int .i64 (j.op : Int)) rfl; rw [HO.out] at h0; exact h0)
    clear hown hg hwh hln hr2 hi2 hb2 hc3 x11 hw4
    have x10 : (w3.setCell ⟨p, 11, none⟩ (.slice A3 (n + 1) c3)).cell? ⟨p, 10, none⟩ = some (.int .i64 8) := by rw [← H4.out]; exact X10.out _ HP.out
    have H6 := Lib.hid (show CRow w4 p 41 (rjCells g (j.rpush b) ({ m with aL := A3, cL := c3 } : RjM)) ∧ RjR ρ' w4 p g (j.rpush b) ({ m with aL := A3, cL := c3 } : RjM) ∧ Btw I w w4 from ⟨HP.out, R3.out, B3.out⟩)
    go_wp2
    go_ret
    rw [HR.out]
    rw [← H4.out]
    exact ⟨rfl, ⟨ρ', _, H6.out.1, H6.out.2.1, I2.out, fun k hk => N0.out k (Nat.le_trans H6.out.2.2.size hk)⟩, H6.out.2.2⟩
 ·
  skip
  have HO := Lib.hid (show j.op = 7 from HOO.out.symm)
  by_cases hn : n = 0
  ·
   skip
   have bn0 : (((n : Nat) : Int) == 0) = true := by simp; omega
   have jn0 : (((n : Nat) : Int) = 0) = True := eq_true (by omega)
   have kn0 : (n = 0) = True := eq_true (by omega)
   have dn0 : decide (((n : Nat) : Int) = 0) = true := decide_eq_true (by omega)
   have HR := Lib.hid (show j.raddr g b = (true, (j.rpush b)) by unfold Jd.raddr; rw [HO.out, if_neg (by decide), if_neg (by decide), if_neg (by decide), if_neg (by decide), if_pos rfl, ← HN.out, decide_eq_true (.inl hn)])
   clear hn
   clear HBB hb8
   go_enter Try.func33, Try.ntmps33
   have x11 : w.cell? ⟨p, 11, none⟩ = some (.slice m.aL n m.cL) := X11.out
   go_wp2_with (at_builtin; refine japp64 (w.alloc (.cells #[.int .i64 (b : Int)] 3)) rfl (.tmp 15) (.tmp 17) rfl 0 _ (JI j.listed) n LJ.out rfl (OL.out.alloc _) ⟨w.heap.size, 0, none⟩ 1 (b : Int) rfl (jone64 w (b : Int) _) (by have := LN.out; omega) (Nat.zero_le _) ?_)
   intro v3 w3 hown hg hwh
   obtain ⟨A3, c3, rfl⟩ := jown_form hown
   have hln : n = j.listed.length := HN.out
   have hpu := (R0.out.below (below_new w (.cells #[.int .i64 (b : Int)] 3))).pushL (w3 := w3) (A3 := A3) (c3 := c3) b (by rw [← hln]; exact hown) (by rw [← hln]; exact hg) (by
    rw [← hln]
    first
    | exact hwh
    | (have e9 : (w.alloc (.cells #[.int .i64 (b : Int)] 3)).heap.size = w.heap.size + 1 := by simp
       rw [e9]
       exact hwh))
   obtain ⟨ρ', hr2, hi2, hb2⟩ := hpu
   obtain ⟨i2, b2, n2, hc3, hp, r3, b3, n3⟩ := rpushed C0.out R0.out I0.out N0.out hln (show RjR ρ' w3 p g (j.rpush b) { m with aL := A3, cL := c3 } from hr2) hi2 hb2
   have I2 := Lib.hid i2
   have y11 : w3.cell? ⟨p, 11, none⟩ = some (.slice m.aL n m.cL) := by rw [hln]; exact hc3.cell_at 11 _ rfl
   have f11 := hc3.frozen 11
   have HP := Lib.hid hp
   have R3 := Lib.hid r3
   have B3 := Lib.hid b3
   have N3 := Lib.hid n3
   have HJ := Lib.hid (show RJ I (w3.setCell ⟨p, 11, none⟩ (.slice A3 (n + 1) c3)) p g (j.rpush b) from ⟨ρ', _, hp, r3, i2, n3⟩)
   clear i2 b2 n2 hp r3 b3 n3
   obtain ⟨w4, hw4⟩ : ∃ w4, w4 = w3.setCell ⟨p, 11, none⟩ (.slice A3 (n + 1) c3) := ⟨_, rfl⟩
   rw [← hw4] at HP R3 B3 N3 HJ
   have H4 := Lib.hid hw4
   have X10 := Lib.hid (show ∀ W, CRow W p 41 (rjCells g (j.rpush b) { m with aL := A3, cL := c3 }) → W.cell? ⟨p, 10, none⟩ = some (.int .i64 7) from fun W h => by have h0 := h.cell_at 10 (.int .i64 (j.op : Int)) rfl; rw [HO.out] at h0; exact h0)
   clear hown hg hwh hln hr2 hi2 hb2 hc3 x11 hw4
   have x10 : (w3.setCell ⟨p, 11, none⟩ (.slice A3 (n + 1) c3)).cell? ⟨p, 10, none⟩ = some (.int .i64 7) := by rw [← H4.out]; exact X10.out _ HP.out
   have CF := Lib.hid (show CRow w4 p 41 (rjCells g (j.rpush b) ({ m with aL := A3, cL := c3 } : RjM)) ∧ RjR ρ' w4 p g (j.rpush b) ({ m with aL := A3, cL := c3 } : RjM) ∧ Btw I w w4 from ⟨HP.out, R3.out, B3.out⟩)
   have X9 := Lib.hid (show ∀ W, CRow W p 41 (rjCells g (j.rpush b) ({ m with aL := A3, cL := c3 } : RjM)) → W.cell? ⟨p, 9, none⟩ = some (.slice (some ⟨m.q, 0, none⟩) R m.cq) from fun W h => by rw [HRR.out]; exact h.cell_at 9 _ rfl)
   go_wp2_with fail
   try rw [← H4.out]
   clear x10
   refine wp_region_noPanic ?_
   refine wp_region_held_drew (S := fun w' => CRow w' p 41 (rjCells g (j.rpush b) ({ m with aL := A3, cL := c3 } : RjM)) ∧ RjR ρ' w' p g (j.rpush b) ({ m with aL := A3, cL := c3 } : RjM) ∧ Btw I w w') (by kernel_rfl) ⟨CF.out.1.drew, CF.out.2.1.below ((Below.refl _ _).drew), CF.out.2.2.drew⟩ (fun C0 => ?_)
   refine tkH 0 zR20 _ C0 rfl (by kernel_rfl) rfl (fun W h => by clear h; dsimp only [zR20]; go_simp <;> with_reducible rfl) ?_
   try simp only [zR20, Act.put, zzI, zzO, zzS]
   refine tkH 1 zR21 _ C0 rfl (by kernel_rfl) rfl (fun W h => by clear h; dsimp only [zR21]; go_simp <;> with_reducible rfl) ?_
   try simp only [zR21, Act.put, zzI, zzO, zzS]
   refine tkH 2 zR22 _ C0 rfl (by kernel_rfl) rfl (fun W h => by clear h; dsimp only [zR22]; go_simp <;> with_reducible rfl) ?_
   try simp only [zR22, Act.put, zzI, zzO, zzS]
   refine tkN 3 zR23 C0 rfl (by kernel_rfl) rfl ?_
   try simp only [zR23, Act.put, zzI, zzO, zzS]
   refine tkN 4 zR24 C0 rfl (by kernel_rfl) rfl ?_
   try simp only [zR24, Act.put, zzI, zzO, zzS]
   refine tkN 5 zR25 C0 rfl (by kernel_rfl) rfl ?_
   try simp only [zR25, Act.put, zzI, zzO, zzS]
   refine tkN 6 zR26 C0 rfl (by kernel_rfl) rfl ?_
   try simp only [zR26, Act.put, zzI, zzO, zzS]
   refine tkN 7 zR27 C0 rfl (by kernel_rfl) rfl ?_
   try simp only [zR27, Act.put, zzI, zzO, zzS]
   refine tkN 8 zR28 C0 rfl (by kernel_rfl) rfl ?_
   try simp only [zR28, Act.put, zzI, zzO, zzS]
   refine tkN 9 zR29 C0 rfl (by kernel_rfl) rfl ?_
   try simp only [zR29, Act.put, zzI, zzO, zzS]
   refine tkN 10 zR30 C0 rfl (by kernel_rfl) rfl ?_
   try simp only [zR30, Act.put, zzI, zzO, zzS]
   refine tkN 11 zR31 C0 rfl (by kernel_rfl) rfl ?_
   try simp only [zR31, Act.put, zzI, zzO, zzS]
   refine tkN 12 zR32 C0 rfl (by kernel_rfl) rfl ?_
   try simp only [zR32, Act.put, zzI, zzO, zzS]
   refine tkN 13 zR33 C0 rfl (by kernel_rfl) rfl ?_
   try simp only [zR33, Act.put, zzI, zzO, zzS]
   refine tkN 14 zR34 C0 rfl (by kernel_rfl) rfl ?_
   try simp only [zR34, Act.put, zzI, zzO, zzS]
   refine tkH 15 zR35 _ C0 rfl (by kernel_rfl) rfl (fun W h => by clear h; dsimp only [zR35]; go_simp <;> with_reducible rfl) ?_
   try simp only [zR35, Act.put, zzI, zzO, zzS]
   refine tkH 16 zR36 _ C0 rfl (by kernel_rfl) rfl (fun W h => by clear h; dsimp only [zR36]; go_simp <;> with_reducible rfl) ?_
   try simp only [zR36, Act.put, zzI, zzO, zzS]
   have CE := Lib.hid C0
   refine wpAnyH_done (by kernel_rfl) ?_ _
   refine NoPanic.normal ?_
   go_wp2
   go_ret
   rw [HR.out]
   exact ⟨rfl, ⟨ρ', _, (CE.out).1, (CE.out).2.1, I2.out, fun k hk => N0.out k (Nat.le_trans (CE.out).2.2.size hk)⟩, CE.out.2.2⟩
  ·
   skip
   have bn0 : (((n : Nat) : Int) == 0) = false := by simp; omega
   have jn0 : (((n : Nat) : Int) = 0) = False := eq_false (by omega)
   have kn0 : (n = 0) = False := eq_false (by omega)
   have dn0 : decide (((n : Nat) : Int) = 0) = false := decide_eq_false (by omega)
   by_cases hn1 : n = 1
   ·
    skip
    have bn1 : (((n : Nat) : Int) == 1) = true := by simp; omega
    have jn1 : (((n : Nat) : Int) = 1) = True := eq_true (by omega)
    have kn1 : (n = 1) = True := eq_true (by omega)
    have dn1 : decide (((n : Nat) : Int) = 1) = true := decide_eq_true (by omega)
    obtain ⟨A0, hA0⟩ : ∃ A0, A0 = (j.rpush b).addr2 0 := ⟨_, rfl⟩
    have HA0 := Lib.hid hA0
    have HTJ := Lib.hid (fun W (hh : RJ I W p g (j.rpush b)) => show Calls Try.prog 45 #[.pointer (some ⟨p, 0, none⟩), .int .i64 0] W (Gives (.int .i64 (A0 : Int)) W) from hA0 ▸ HTW.out W 0 (by omega) hh)
    clear hA0
    simp only [Gm.val] at HRQ
    by_cases hlt : A0 < N
    ·
     have e1 : decide ((A0 : Int) < (N : Int)) = true := decide_eq_true (by omega)
     have e2 : decide (A0 < N) = true := decide_eq_true (by omega)
     have HR := Lib.hid (show j.raddr g b = (true, (j.rpush b)) by unfold Jd.raddr; rw [HO.out, if_neg (by decide), if_neg (by decide), if_neg (by decide), if_neg (by decide), if_pos rfl, decide_eq_true (.inr ⟨HN.out.symm.trans hn1, by rw [← HA0.out, ← HNN.out]; exact hlt⟩)])
     clear hn hn1 hlt
     clear HBB hb8
     go_enter Try.func33, Try.ntmps33
     have x11 : w.cell? ⟨p, 11, none⟩ = some (.slice m.aL n m.cL) := X11.out
     go_wp2_with (at_builtin; refine japp64 (w.alloc (.cells #[.int .i64 (b : Int)] 3)) rfl (.tmp 15) (.tmp 17) rfl 0 _ (JI j.listed) n LJ.out rfl (OL.out.alloc _) ⟨w.heap.size, 0, none⟩ 1 (b : Int) rfl (jone64 w (b : Int) _) (by have := LN.out; omega) (Nat.zero_le _) ?_)
     intro v3 w3 hown hg hwh
     obtain ⟨A3, c3, rfl⟩ := jown_form hown
     have hln : n = j.listed.length := HN.out
     have hpu := (R0.out.below (below_new w (.cells #[.int .i64 (b : Int)] 3))).pushL (w3 := w3) (A3 := A3) (c3 := c3) b (by rw [← hln]; exact hown) (by rw [← hln]; exact hg) (by
      rw [← hln]
      first
      | exact hwh
      | (have e9 : (w.alloc (.cells #[.int .i64 (b : Int)] 3)).heap.size = w.heap.size + 1 := by simp
         rw [e9]
         exact hwh))
     obtain ⟨ρ', hr2, hi2, hb2⟩ := hpu
     obtain ⟨i2, b2, n2, hc3, hp, r3, b3, n3⟩ := rpushed C0.out R0.out I0.out N0.out hln (show RjR ρ' w3 p g (j.rpush b) { m with aL := A3, cL := c3 } from hr2) hi2 hb2
     have I2 := Lib.hid i2
     have y11 : w3.cell? ⟨p, 11, none⟩ = some (.slice m.aL n m.cL) := by rw [hln]; exact hc3.cell_at 11 _ rfl
     have f11 := hc3.frozen 11
     have HP := Lib.hid hp
     have R3 := Lib.hid r3
     have B3 := Lib.hid b3
     have N3 := Lib.hid n3
     have HJ := Lib.hid (show RJ I (w3.setCell ⟨p, 11, none⟩ (.slice A3 (n + 1) c3)) p g (j.rpush b) from ⟨ρ', _, hp, r3, i2, n3⟩)
     clear i2 b2 n2 hp r3 b3 n3
     obtain ⟨w4, hw4⟩ : ∃ w4, w4 = w3.setCell ⟨p, 11, none⟩ (.slice A3 (n + 1) c3) := ⟨_, rfl⟩
     rw [← hw4] at HP R3 B3 N3 HJ
     have H4 := Lib.hid hw4
     have X10 := Lib.hid (show ∀ W, CRow W p 41 (rjCells g (j.rpush b) { m with aL := A3, cL := c3 }) → W.cell? ⟨p, 10, none⟩ = some (.int .i64 7) from fun W h => by have h0 := h.cell_at 10 (.int .i64 (j.op : Int)) rfl; rw [HO.out] at h0; exact h0)
     clear hown hg hwh hln hr2 hi2 hb2 hc3 x11 hw4
     have x10 : (w3.setCell ⟨p, 11, none⟩ (.slice A3 (n + 1) c3)).cell? ⟨p, 10, none⟩ = some (.int .i64 7) := by rw [← H4.out]; exact X10.out _ HP.out
     have CF := Lib.hid (show CRow w4 p 41 (rjCells g (j.rpush b) ({ m with aL := A3, cL := c3 } : RjM)) ∧ RjR ρ' w4 p g (j.rpush b) ({ m with aL := A3, cL := c3 } : RjM) ∧ Btw I w w4 from ⟨HP.out, R3.out, B3.out⟩)
     have X9 := Lib.hid (show ∀ W, CRow W p 41 (rjCells g (j.rpush b) ({ m with aL := A3, cL := c3 } : RjM)) → W.cell? ⟨p, 9, none⟩ = some (.slice (some ⟨m.q, 0, none⟩) R m.cq) from fun W h => by rw [HRR.out]; exact h.cell_at 9 _ rfl)
     go_wp2_with fail
     try rw [← H4.out]
     clear x10
     refine wp_region_noPanic ?_
     refine wp_region_held_drew (S := fun w' => CRow w' p 41 (rjCells g (j.rpush b) ({ m with aL := A3, cL := c3 } : RjM)) ∧ RjR ρ' w' p g (j.rpush b) ({ m with aL := A3, cL := c3 } : RjM) ∧ Btw I w w') (by kernel_rfl) ⟨CF.out.1.drew, CF.out.2.1.below ((Below.refl _ _).drew), CF.out.2.2.drew⟩ (fun C0 => ?_)
     refine tkH 0 zR20 _ C0 rfl (by kernel_rfl) rfl (fun W h => by clear h; dsimp only [zR20]; go_simp <;> with_reducible rfl) ?_
     try simp only [zR20, Act.put, zzI, zzO, zzS]
     refine tkH 1 zR21 _ C0 rfl (by kernel_rfl) rfl (fun W h => by clear h; dsimp only [zR21]; go_simp <;> with_reducible rfl) ?_
     try simp only [zR21, Act.put, zzI, zzO, zzS]
     refine tkH 2 zR22 _ C0 rfl (by kernel_rfl) rfl (fun W h => by clear h; dsimp only [zR22]; go_simp <;> with_reducible rfl) ?_
     try simp only [zR22, Act.put, zzI, zzO, zzS]
     refine tkH 3 zR23 _ C0 rfl (by kernel_rfl) rfl (fun W h => by clear h; dsimp only [zR23]; go_simp <;> with_reducible rfl) ?_
     try simp only [zR23, Act.put, zzI, zzO, zzS]
     refine tkH 4 zR24 _ C0 rfl (by kernel_rfl) rfl (fun W h => by clear h; dsimp only [zR24]; go_simp <;> with_reducible rfl) ?_
     try simp only [zR24, Act.put, zzI, zzO, zzS]
     refine tkH 5 zR25 _ C0 rfl (by kernel_rfl) rfl (fun W h => by clear h; dsimp only [zR25]; go_simp <;> with_reducible rfl) ?_
     try simp only [zR25, Act.put, zzI, zzO, zzS]
     refine tkH 6 zR26 _ C0 rfl (by kernel_rfl) rfl (fun W h => by clear h; dsimp only [zR26]; go_simp <;> with_reducible rfl) ?_
     try simp only [zR26, Act.put, zzI, zzO, zzS]
     refine tkH 8 zR28 _ C0 rfl (by kernel_rfl) rfl (fun W h => by clear h; dsimp only [zR28]; go_simp <;> with_reducible rfl) ?_
     try simp only [zR28, Act.put, zzI, zzO, zzS]
     refine tkH 9 zR29 _ C0 rfl (by kernel_rfl) rfl (fun W h => by clear h; dsimp only [zR29]; go_simp <;> with_reducible rfl) ?_
     try simp only [zR29, Act.put, zzI, zzO, zzS]
     refine tkH 10 zR30 _ C0 rfl (by kernel_rfl) rfl (fun W h => by clear h; dsimp only [zR30]; go_simp <;> with_reducible rfl) ?_
     try simp only [zR30, Act.put, zzI, zzO, zzS]
     refine tkH 11 zR31 _ C0 rfl (by kernel_rfl) rfl (fun W' hSw => by obtain ⟨hs, -, -⟩ := hSw; have g0 := hs.cell_at 0 (.int .i64 g.p) rfl; have g1 := hs.cell_at 1 (.int .i64 g.b) rfl; have g2 := hs.cell_at 2 (.int .i64 g.s) rfl; have g3 := hs.cell_at 3 (.int .i64 g.c) rfl; have g4 := hs.cell_at 4 (.int .i64 g.k) rfl; have g5 := hs.cell_at 5 (.int .i64 g.r) rfl; have g6 := hs.cell_at 6 (.int .i64 g.q) rfl; clear hs; dsimp only [zR31]; go_simp <;> with_reducible rfl) ?_
     try simp only [zR31, Act.put, zzI, zzO, zzS]
     refine wpAnyH_ready (rs := [7]) (by kernel_rfl) (by simp) ?_
     refine AllReadyH.cons (o := zRc2) rfl (fun K hK => ?_) AllReadyH.nil
     dsimp only [zRc2]
     go_simp
     refine (HTJ.out _ ⟨ρ', _, (C0).1, (C0).2.1, I2.out, fun k hk => N0.out k (Nat.le_trans (C0).2.2.size hk)⟩).mono ?_
     rintro _ wz ⟨rfl, hz⟩
     have ZC1 := Lib.hid (show CRow wz p 41 (rjCells g (j.rpush b) ({ m with aL := A3, cL := c3 } : RjM)) ∧ RjR ρ' wz p g (j.rpush b) ({ m with aL := A3, cL := c3 } : RjM) ∧ Btw I w wz from ⟨(C0).1.below hz, (C0).2.1.below hz, (C0).2.2.trans (Btw.of_below hz) fun _ _ h => h⟩)
     clear hz
     go_wp2_with fail
     refine hK.out _ _ ZC1.out (fun C1 => ?_)
     clear hK K
     try simp only [Act.put, zzI, zzO, zzS]
     refine wpAnyH_ready (rs := [12]) (by kernel_rfl) (by simp) ?_
     refine AllReadyH.cons (o := zRc3) rfl (fun K hK => ?_) AllReadyH.nil
     dsimp only [zRc3]
     go_simp
     refine (HRQ.out _).mono ?_
     rintro _ wz ⟨rfl, hz⟩
     have ZC2 := Lib.hid (show CRow wz p 41 (rjCells g (j.rpush b) ({ m with aL := A3, cL := c3 } : RjM)) ∧ RjR ρ' wz p g (j.rpush b) ({ m with aL := A3, cL := c3 } : RjM) ∧ Btw I w wz from ⟨(C1).1.below hz, (C1).2.1.below hz, (C1).2.2.trans (Btw.of_below hz) fun _ _ h => h⟩)
     clear hz
     go_wp2_with fail
     refine hK.out _ _ ZC2.out (fun C2 => ?_)
     clear hK K
     try simp only [Act.put, zzI, zzO, zzS]
     refine tkH 13 zR33 _ C2 rfl (by kernel_rfl) rfl (fun W h => by clear h; dsimp only [zR33]; go_simp <;> with_reducible rfl) ?_
     try simp only [zR33, Act.put, zzI, zzO, zzS]
     refine tkH 14 zR34 _ C2 rfl (by kernel_rfl) rfl (fun W h => by clear h; dsimp only [zR34]; go_simp <;> with_reducible rfl) ?_
     try simp only [zR34, Act.put, zzI, zzO, zzS]
     refine tkH 15 zR35 _ C2 rfl (by kernel_rfl) rfl (fun W h => by clear h; dsimp only [zR35]; go_simp <;> with_reducible rfl) ?_
     try simp only [zR35, Act.put, zzI, zzO, zzS]
     refine tkH 16 zR36 _ C2 rfl (by kernel_rfl) rfl (fun W h => by clear h; dsimp only [zR36]; go_simp <;> with_reducible rfl) ?_
     try simp only [zR36, Act.put, zzI, zzO, zzS]
     have CE := Lib.hid C2
     refine wpAnyH_done (by kernel_rfl) ?_ _
     refine NoPanic.normal ?_
     go_wp2
     go_ret
     rw [HR.out]
     exact ⟨rfl, ⟨ρ', _, (CE.out).1, (CE.out).2.1, I2.out, fun k hk => N0.out k (Nat.le_trans (CE.out).2.2.size hk)⟩, CE.out.2.2⟩
    ·
     have e1 : decide ((A0 : Int) < (N : Int)) = false := decide_eq_false (by omega)
     have e2 : decide (A0 < N) = false := decide_eq_false (by omega)
     have HR := Lib.hid (show j.raddr g b = (false, (j.rpush b)) by unfold Jd.raddr; rw [HO.out, if_neg (by decide), if_neg (by decide), if_neg (by decide), if_neg (by decide), if_pos rfl, decide_eq_false (fun h => h.elim (fun h => hn (HN.out.trans h)) fun h => hlt (by rw [HNN.out, HA0.out]; exact h.2))])
     clear hn hn1 hlt
     clear HBB hb8
     go_enter Try.func33, Try.ntmps33
     have x11 : w.cell? ⟨p, 11, none⟩ = some (.slice m.aL n m.cL) := X11.out
     go_wp2_with (at_builtin; refine japp64 (w.alloc (.cells #[.int .i64 (b : Int)] 3)) rfl (.tmp 15) (.tmp 17) rfl 0 _ (JI j.listed) n LJ.out rfl (OL.out.alloc _) ⟨w.heap.size, 0, none⟩ 1 (b : Int) rfl (jone64 w (b : Int) _) (by have := LN.out; omega) (Nat.zero_le _) ?_)
     intro v3 w3 hown hg hwh
     obtain ⟨A3, c3, rfl⟩ := jown_form hown
     have hln : n = j.listed.length := HN.out
     have hpu := (R0.out.below (below_new w (.cells #[.int .i64 (b : Int)] 3))).pushL (w3 := w3) (A3 := A3) (c3 := c3) b (by rw [← hln]; exact hown) (by rw [← hln]; exact hg) (by
      rw [← hln]
      first
      | exact hwh
      | (have e9 : (w.alloc (.cells #[.int .i64 (b : Int)] 3)).heap.size = w.heap.size + 1 := by simp
         rw [e9]
         exact hwh))
     obtain ⟨ρ', hr2, hi2, hb2⟩ := hpu
     obtain ⟨i2, b2, n2, hc3, hp, r3, b3, n3⟩ := rpushed C0.out R0.out I0.out N0.out hln (show RjR ρ' w3 p g (j.rpush b) { m with aL := A3, cL := c3 } from hr2) hi2 hb2
     have I2 := Lib.hid i2
     have y11 : w3.cell? ⟨p, 11, none⟩ = some (.slice m.aL n m.cL) := by rw [hln]; exact hc3.cell_at 11 _ rfl
     have f11 := hc3.frozen 11
     have HP := Lib.hid hp
     have R3 := Lib.hid r3
     have B3 := Lib.hid b3
     have N3 := Lib.hid n3
     have HJ := Lib.hid (show RJ I (w3.setCell ⟨p, 11, none⟩ (.slice A3 (n + 1) c3)) p g (j.rpush b) from ⟨ρ', _, hp, r3, i2, n3⟩)
     clear i2 b2 n2 hp r3 b3 n3
     obtain ⟨w4, hw4⟩ : ∃ w4, w4 = w3.setCell ⟨p, 11, none⟩ (.slice A3 (n + 1) c3) := ⟨_, rfl⟩
     rw [← hw4] at HP R3 B3 N3 HJ
     have H4 := Lib.hid hw4
     have X10 := Lib.hid (show ∀ W, CRow W p 41 (rjCells g (j.rpush b) { m with aL := A3, cL := c3 }) → W.cell? ⟨p, 10, none⟩ = some (.int .i64 7) from fun W h => by have h0 := h.cell_at 10 (.int .i64 (j.op : Int)) rfl; rw [HO.out] at h0; exact h0)
     clear hown hg hwh hln hr2 hi2 hb2 hc3 x11 hw4
     have x10 : (w3.setCell ⟨p, 11, none⟩ (.slice A3 (n + 1) c3)).cell? ⟨p, 10, none⟩ = some (.int .i64 7) := by rw [← H4.out]; exact X10.out _ HP.out
     have CF := Lib.hid (show CRow w4 p 41 (rjCells g (j.rpush b) ({ m with aL := A3, cL := c3 } : RjM)) ∧ RjR ρ' w4 p g (j.rpush b) ({ m with aL := A3, cL := c3 } : RjM) ∧ Btw I w w4 from ⟨HP.out, R3.out, B3.out⟩)
     have X9 := Lib.hid (show ∀ W, CRow W p 41 (rjCells g (j.rpush b) ({ m with aL := A3, cL := c3 } : RjM)) → W.cell? ⟨p, 9, none⟩ = some (.slice (some ⟨m.q, 0, none⟩) R m.cq) from fun W h => by rw [HRR.out]; exact h.cell_at 9 _ rfl)
     go_wp2_with fail
     try rw [← H4.out]
     clear x10
     refine wp_region_noPanic ?_
     refine wp_region_held_drew (S := fun w' => CRow w' p 41 (rjCells g (j.rpush b) ({ m with aL := A3, cL := c3 } : RjM)) ∧ RjR ρ' w' p g (j.rpush b) ({ m with aL := A3, cL := c3 } : RjM) ∧ Btw I w w') (by kernel_rfl) ⟨CF.out.1.drew, CF.out.2.1.below ((Below.refl _ _).drew), CF.out.2.2.drew⟩ (fun C0 => ?_)
     refine tkH 0 zR20 _ C0 rfl (by kernel_rfl) rfl (fun W h => by clear h; dsimp only [zR20]; go_simp <;> with_reducible rfl) ?_
     try simp only [zR20, Act.put, zzI, zzO, zzS]
     refine tkH 1 zR21 _ C0 rfl (by kernel_rfl) rfl (fun W h => by clear h; dsimp only [zR21]; go_simp <;> with_reducible rfl) ?_
     try simp only [zR21, Act.put, zzI, zzO, zzS]
     refine tkH 2 zR22 _ C0 rfl (by kernel_rfl) rfl (fun W h => by clear h; dsimp only [zR22]; go_simp <;> with_reducible rfl) ?_
     try simp only [zR22, Act.put, zzI, zzO, zzS]
     refine tkH 3 zR23 _ C0 rfl (by kernel_rfl) rfl (fun W h => by clear h; dsimp only [zR23]; go_simp <;> with_reducible rfl) ?_
     try simp only [zR23, Act.put, zzI, zzO, zzS]
     refine tkH 4 zR24 _ C0 rfl (by kernel_rfl) rfl (fun W h => by clear h; dsimp only [zR24]; go_simp <;> with_reducible rfl) ?_
     try simp only [zR24, Act.put, zzI, zzO, zzS]
     refine tkH 5 zR25 _ C0 rfl (by kernel_rfl) rfl (fun W h => by clear h; dsimp only [zR25]; go_simp <;> with_reducible rfl) ?_
     try simp only [zR25, Act.put, zzI, zzO, zzS]
     refine tkH 6 zR26 _ C0 rfl (by kernel_rfl) rfl (fun W h => by clear h; dsimp only [zR26]; go_simp <;> with_reducible rfl) ?_
     try simp only [zR26, Act.put, zzI, zzO, zzS]
     refine tkH 8 zR28 _ C0 rfl (by kernel_rfl) rfl (fun W h => by clear h; dsimp only [zR28]; go_simp <;> with_reducible rfl) ?_
     try simp only [zR28, Act.put, zzI, zzO, zzS]
     refine tkH 9 zR29 _ C0 rfl (by kernel_rfl) rfl (fun W h => by clear h; dsimp only [zR29]; go_simp <;> with_reducible rfl) ?_
     try simp only [zR29, Act.put, zzI, zzO, zzS]
     refine tkH 10 zR30 _ C0 rfl (by kernel_rfl) rfl (fun W h => by clear h; dsimp only [zR30]; go_simp <;> with_reducible rfl) ?_
     try simp only [zR30, Act.put, zzI, zzO, zzS]
     refine tkH 11 zR31 _ C0 rfl (by kernel_rfl) rfl (fun W' hSw => by obtain ⟨hs, -, -⟩ := hSw; have g0 := hs.cell_at 0 (.int .i64 g.p) rfl; have g1 := hs.cell_at 1 (.int .i64 g.b) rfl; have g2 := hs.cell_at 2 (.int .i64 g.s) rfl; have g3 := hs.cell_at 3 (.int .i64 g.c) rfl; have g4 := hs.cell_at 4 (.int .i64 g.k) rfl; have g5 := hs.cell_at 5 (.int .i64 g.r) rfl; have g6 := hs.cell_at 6 (.int .i64 g.q) rfl; clear hs; dsimp only [zR31]; go_simp <;> with_reducible rfl) ?_
     try simp only [zR31, Act.put, zzI, zzO, zzS]
     refine wpAnyH_ready (rs := [7]) (by kernel_rfl) (by simp) ?_
     refine AllReadyH.cons (o := zRc2) rfl (fun K hK => ?_) AllReadyH.nil
     dsimp only [zRc2]
     go_simp
     refine (HTJ.out _ ⟨ρ', _, (C0).1, (C0).2.1, I2.out, fun k hk => N0.out k (Nat.le_trans (C0).2.2.size hk)⟩).mono ?_
     rintro _ wz ⟨rfl, hz⟩
     have ZC1 := Lib.hid (show CRow wz p 41 (rjCells g (j.rpush b) ({ m with aL := A3, cL := c3 } : RjM)) ∧ RjR ρ' wz p g (j.rpush b) ({ m with aL := A3, cL := c3 } : RjM) ∧ Btw I w wz from ⟨(C0).1.below hz, (C0).2.1.below hz, (C0).2.2.trans (Btw.of_below hz) fun _ _ h => h⟩)
     clear hz
     go_wp2_with fail
     refine hK.out _ _ ZC1.out (fun C1 => ?_)
     clear hK K
     try simp only [Act.put, zzI, zzO, zzS]
     refine wpAnyH_ready (rs := [12]) (by kernel_rfl) (by simp) ?_
     refine AllReadyH.cons (o := zRc3) rfl (fun K hK => ?_) AllReadyH.nil
     dsimp only [zRc3]
     go_simp
     refine (HRQ.out _).mono ?_
     rintro _ wz ⟨rfl, hz⟩
     have ZC2 := Lib.hid (show CRow wz p 41 (rjCells g (j.rpush b) ({ m with aL := A3, cL := c3 } : RjM)) ∧ RjR ρ' wz p g (j.rpush b) ({ m with aL := A3, cL := c3 } : RjM) ∧ Btw I w wz from ⟨(C1).1.below hz, (C1).2.1.below hz, (C1).2.2.trans (Btw.of_below hz) fun _ _ h => h⟩)
     clear hz
     go_wp2_with fail
     refine hK.out _ _ ZC2.out (fun C2 => ?_)
     clear hK K
     try simp only [Act.put, zzI, zzO, zzS]
     refine tkH 13 zR33 _ C2 rfl (by kernel_rfl) rfl (fun W h => by clear h; dsimp only [zR33]; go_simp <;> with_reducible rfl) ?_
     try simp only [zR33, Act.put, zzI, zzO, zzS]
     refine tkH 14 zR34 _ C2 rfl (by kernel_rfl) rfl (fun W h => by clear h; dsimp only [zR34]; go_simp <;> with_reducible rfl) ?_
     try simp only [zR34, Act.put, zzI, zzO, zzS]
     refine tkH 15 zR35 _ C2 rfl (by kernel_rfl) rfl (fun W h => by clear h; dsimp only [zR35]; go_simp <;> with_reducible rfl) ?_
     try simp only [zR35, Act.put, zzI, zzO, zzS]
     refine tkH 16 zR36 _ C2 rfl (by kernel_rfl) rfl (fun W h => by clear h; dsimp only [zR36]; go_simp <;> with_reducible rfl) ?_
     try simp only [zR36, Act.put, zzI, zzO, zzS]
     have CE := Lib.hid C2
     refine wpAnyH_done (by kernel_rfl) ?_ _
     refine NoPanic.normal ?_
     go_wp2
     go_ret
     rw [HR.out]
     exact ⟨rfl, ⟨ρ', _, (CE.out).1, (CE.out).2.1, I2.out, fun k hk => N0.out k (Nat.le_trans (CE.out).2.2.size hk)⟩, CE.out.2.2⟩
   ·
    skip
    have bn1 : (((n : Nat) : Int) == 1) = false := by simp; omega
    have jn1 : (((n : Nat) : Int) = 1) = False := eq_false (by omega)
    have kn1 : (n = 1) = False := eq_false (by omega)
    have dn1 : decide (((n : Nat) : Int) = 1) = false := decide_eq_false (by omega)
    have HR := Lib.hid (show j.raddr g b = (false, (j.rpush b)) by unfold Jd.raddr; rw [HO.out, if_neg (by decide), if_neg (by decide), if_neg (by decide), if_neg (by decide), if_pos rfl, decide_eq_false (fun h => h.elim (fun h => hn (HN.out.trans h)) fun h => hn1 (HN.out.trans h.1))])
    clear hn hn1
    clear HBB hb8
    go_enter Try.func33, Try.ntmps33
    have x11 : w.cell? ⟨p, 11, none⟩ = some (.slice m.aL n m.cL) := X11.out
    go_wp2_with (at_builtin; refine japp64 (w.alloc (.cells #[.int .i64 (b : Int)] 3)) rfl (.tmp 15) (.tmp 17) rfl 0 _ (JI j.listed) n LJ.out rfl (OL.out.alloc _) ⟨w.heap.size, 0, none⟩ 1 (b : Int) rfl (jone64 w (b : Int) _) (by have := LN.out; omega) (Nat.zero_le _) ?_)
    intro v3 w3 hown hg hwh
    obtain ⟨A3, c3, rfl⟩ := jown_form hown
    have hln : n = j.listed.length := HN.out
    have hpu := (R0.out.below (below_new w (.cells #[.int .i64 (b : Int)] 3))).pushL (w3 := w3) (A3 := A3) (c3 := c3) b (by rw [← hln]; exact hown) (by rw [← hln]; exact hg) (by
     rw [← hln]
     first
     | exact hwh
     | (have e9 : (w.alloc (.cells #[.int .i64 (b : Int)] 3)).heap.size = w.heap.size + 1 := by simp
        rw [e9]
        exact hwh))
    obtain ⟨ρ', hr2, hi2, hb2⟩ := hpu
    obtain ⟨i2, b2, n2, hc3, hp, r3, b3, n3⟩ := rpushed C0.out R0.out I0.out N0.out hln (show RjR ρ' w3 p g (j.rpush b) { m with aL := A3, cL := c3 } from hr2) hi2 hb2
    have I2 := Lib.hid i2
    have y11 : w3.cell? ⟨p, 11, none⟩ = some (.slice m.aL n m.cL) := by rw [hln]; exact hc3.cell_at 11 _ rfl
    have f11 := hc3.frozen 11
    have HP := Lib.hid hp
    have R3 := Lib.hid r3
    have B3 := Lib.hid b3
    have N3 := Lib.hid n3
    have HJ := Lib.hid (show RJ I (w3.setCell ⟨p, 11, none⟩ (.slice A3 (n + 1) c3)) p g (j.rpush b) from ⟨ρ', _, hp, r3, i2, n3⟩)
    clear i2 b2 n2 hp r3 b3 n3
    obtain ⟨w4, hw4⟩ : ∃ w4, w4 = w3.setCell ⟨p, 11, none⟩ (.slice A3 (n + 1) c3) := ⟨_, rfl⟩
    rw [← hw4] at HP R3 B3 N3 HJ
    have H4 := Lib.hid hw4
    have X10 := Lib.hid (show ∀ W, CRow W p 41 (rjCells g (j.rpush b) { m with aL := A3, cL := c3 }) → W.cell? ⟨p, 10, none⟩ = some (.int .i64 7) from fun W h => by have h0 := h.cell_at 10 (.int .i64 (j.op : Int)) rfl; rw [HO.out] at h0; exact h0)
    clear hown hg hwh hln hr2 hi2 hb2 hc3 x11 hw4
    have x10 : (w3.setCell ⟨p, 11, none⟩ (.slice A3 (n + 1) c3)).cell? ⟨p, 10, none⟩ = some (.int .i64 7) := by rw [← H4.out]; exact X10.out _ HP.out
    have CF := Lib.hid (show CRow w4 p 41 (rjCells g (j.rpush b) ({ m with aL := A3, cL := c3 } : RjM)) ∧ RjR ρ' w4 p g (j.rpush b) ({ m with aL := A3, cL := c3 } : RjM) ∧ Btw I w w4 from ⟨HP.out, R3.out, B3.out⟩)
    have X9 := Lib.hid (show ∀ W, CRow W p 41 (rjCells g (j.rpush b) ({ m with aL := A3, cL := c3 } : RjM)) → W.cell? ⟨p, 9, none⟩ = some (.slice (some ⟨m.q, 0, none⟩) R m.cq) from fun W h => by rw [HRR.out]; exact h.cell_at 9 _ rfl)
    go_wp2_with fail
    try rw [← H4.out]
    clear x10
    refine wp_region_noPanic ?_
    refine wp_region_held_drew (S := fun w' => CRow w' p 41 (rjCells g (j.rpush b) ({ m with aL := A3, cL := c3 } : RjM)) ∧ RjR ρ' w' p g (j.rpush b) ({ m with aL := A3, cL := c3 } : RjM) ∧ Btw I w w') (by kernel_rfl) ⟨CF.out.1.drew, CF.out.2.1.below ((Below.refl _ _).drew), CF.out.2.2.drew⟩ (fun C0 => ?_)
    refine tkH 0 zR20 _ C0 rfl (by kernel_rfl) rfl (fun W h => by clear h; dsimp only [zR20]; go_simp <;> with_reducible rfl) ?_
    try simp only [zR20, Act.put, zzI, zzO, zzS]
    refine tkH 1 zR21 _ C0 rfl (by kernel_rfl) rfl (fun W h => by clear h; dsimp only [zR21]; go_simp <;> with_reducible rfl) ?_
    try simp only [zR21, Act.put, zzI, zzO, zzS]
    refine tkH 2 zR22 _ C0 rfl (by kernel_rfl) rfl (fun W h => by clear h; dsimp only [zR22]; go_simp <;> with_reducible rfl) ?_
    try simp only [zR22, Act.put, zzI, zzO, zzS]
    refine tkH 3 zR23 _ C0 rfl (by kernel_rfl) rfl (fun W h => by clear h; dsimp only [zR23]; go_simp <;> with_reducible rfl) ?_
    try simp only [zR23, Act.put, zzI, zzO, zzS]
    refine tkH 4 zR24 _ C0 rfl (by kernel_rfl) rfl (fun W h => by clear h; dsimp only [zR24]; go_simp <;> with_reducible rfl) ?_
    try simp only [zR24, Act.put, zzI, zzO, zzS]
    refine tkH 5 zR25 _ C0 rfl (by kernel_rfl) rfl (fun W h => by clear h; dsimp only [zR25]; go_simp <;> with_reducible rfl) ?_
    try simp only [zR25, Act.put, zzI, zzO, zzS]
    refine tkN 6 zR26 C0 rfl (by kernel_rfl) rfl ?_
    try simp only [zR26, Act.put, zzI, zzO, zzS]
    refine tkN 7 zR27 C0 rfl (by kernel_rfl) rfl ?_
    try simp only [zR27, Act.put, zzI, zzO, zzS]
    refine tkN 8 zR28 C0 rfl (by kernel_rfl) rfl ?_
    try simp only [zR28, Act.put, zzI, zzO, zzS]
    refine tkN 9 zR29 C0 rfl (by kernel_rfl) rfl ?_
    try simp only [zR29, Act.put, zzI, zzO, zzS]
    refine tkN 10 zR30 C0 rfl (by kernel_rfl) rfl ?_
    try simp only [zR30, Act.put, zzI, zzO, zzS]
    refine tkN 11 zR31 C0 rfl (by kernel_rfl) rfl ?_
    try simp only [zR31, Act.put, zzI, zzO, zzS]
    refine tkN 12 zR32 C0 rfl (by kernel_rfl) rfl ?_
    try simp only [zR32, Act.put, zzI, zzO, zzS]
    refine tkN 13 zR33 C0 rfl (by kernel_rfl) rfl ?_
    try simp only [zR33, Act.put, zzI, zzO, zzS]
    refine tkH 14 zR34 _ C0 rfl (by kernel_rfl) rfl (fun W h => by clear h; dsimp only [zR34]; go_simp <;> with_reducible rfl) ?_
    try simp only [zR34, Act.put, zzI, zzO, zzS]
    refine tkH 15 zR35 _ C0 rfl (by kernel_rfl) rfl (fun W h => by clear h; dsimp only [zR35]; go_simp <;> with_reducible rfl) ?_
    try simp only [zR35, Act.put, zzI, zzO, zzS]
    refine tkH 16 zR36 _ C0 rfl (by kernel_rfl) rfl (fun W h => by clear h; dsimp only [zR36]; go_simp <;> with_reducible rfl) ?_
    try simp only [zR36, Act.put, zzI, zzO, zzS]
    have CE := Lib.hid C0
    refine wpAnyH_done (by kernel_rfl) ?_ _
    refine NoPanic.normal ?_
    go_wp2
    go_ret
    rw [HR.out]
    exact ⟨rfl, ⟨ρ', _, (CE.out).1, (CE.out).2.1, I2.out, fun k hk => N0.out k (Nat.le_trans (CE.out).2.2.size hk)⟩, CE.out.2.2⟩
 ·
  skip
  have HO := Lib.hid (show j.op = 9 from HOO.out.symm)
  by_cases hn : n = 0
  ·
   skip
   have bn0 : (((n : Nat) : Int) == 0) = true := by simp; omega
   have jn0 : (((n : Nat) : Int) = 0) = True := eq_true (by omega)
   have kn0 : (n = 0) = True := eq_true (by omega)
   have dn0 : decide (((n : Nat) : Int) = 0) = true := decide_eq_true (by omega)
   have HR := Lib.hid (show j.raddr g b = (true, (j.rpush b)) by unfold Jd.raddr; rw [HO.out, if_neg (by decide), if_neg (by decide), if_neg (by decide), if_neg (by decide), if_neg (by decide), if_pos rfl, ← HN.out, decide_eq_true (.inl hn)])
   clear hn
   clear HBB hb8
   go_enter Try.func33, Try.ntmps33
   have x11 : w.cell? ⟨p, 11, none⟩ = some (.slice m.aL n m.cL) := X11.out
   go_wp2_with (at_builtin; refine japp64 (w.alloc (.cells #[.int .i64 (b : Int)] 3)) rfl (.tmp 15) (.tmp 17) rfl 0 _ (JI j.listed) n LJ.out rfl (OL.out.alloc _) ⟨w.heap.size, 0, none⟩ 1 (b : Int) rfl (jone64 w (b : Int) _) (by have := LN.out; omega) (Nat.zero_le _) ?_)
   intro v3 w3 hown hg hwh
   obtain ⟨A3, c3, rfl⟩ := jown_form hown
   have hln : n = j.listed.length := HN.out
   have hpu := (R0.out.below (below_new w (.cells #[.int .i64 (b : Int)] 3))).pushL (w3 := w3) (A3 := A3) (c3 := c3) b (by rw [← hln]; exact hown) (by rw [← hln]; exact hg) (by
    rw [← hln]
    first
    | exact hwh
    | (have e9 : (w.alloc (.cells #[.int .i64 (b : Int)] 3)).heap.size = w.heap.size + 1 := by simp
       rw [e9]
       exact hwh))
   obtain ⟨ρ', hr2, hi2, hb2⟩ := hpu
   obtain ⟨i2, b2, n2, hc3, hp, r3, b3, n3⟩ := rpushed C0.out R0.out I0.out N0.out hln (show RjR ρ' w3 p g (j.rpush b) { m with aL := A3, cL := c3 } from hr2) hi2 hb2
   have I2 := Lib.hid i2
   have y11 : w3.cell? ⟨p, 11, none⟩ = some (.slice m.aL n m.cL) := by rw [hln]; exact hc3.cell_at 11 _ rfl
   have f11 := hc3.frozen 11
   have HP := Lib.hid hp
   have R3 := Lib.hid r3
   have B3 := Lib.hid b3
   have N3 := Lib.hid n3
   have HJ := Lib.hid (show RJ I (w3.setCell ⟨p, 11, none⟩ (.slice A3 (n + 1) c3)) p g (j.rpush b) from ⟨ρ', _, hp, r3, i2, n3⟩)
   clear i2 b2 n2 hp r3 b3 n3
   obtain ⟨w4, hw4⟩ : ∃ w4, w4 = w3.setCell ⟨p, 11, none⟩ (.slice A3 (n + 1) c3) := ⟨_, rfl⟩
   rw [← hw4] at HP R3 B3 N3 HJ
   have H4 := Lib.hid hw4
   have X10 := Lib.hid (show ∀ W, CRow W p 41 (rjCells g (j.rpush b) { m with aL := A3, cL := c3 }) → W.cell? ⟨p, 10, none⟩ = some (.int .i64 9) from fun W h => by have h0 := h.cell_at 10 (.int .i64 (j.op : Int)) rfl; rw [HO.out] at h0; exact h0)
   clear hown hg hwh hln hr2 hi2 hb2 hc3 x11 hw4
   have x10 : (w3.setCell ⟨p, 11, none⟩ (.slice A3 (n + 1) c3)).cell? ⟨p, 10, none⟩ = some (.int .i64 9) := by rw [← H4.out]; exact X10.out _ HP.out
   have CF := Lib.hid (show CRow w4 p 41 (rjCells g (j.rpush b) ({ m with aL := A3, cL := c3 } : RjM)) ∧ RjR ρ' w4 p g (j.rpush b) ({ m with aL := A3, cL := c3 } : RjM) ∧ Btw I w w4 from ⟨HP.out, R3.out, B3.out⟩)
   have X9 := Lib.hid (show ∀ W, CRow W p 41 (rjCells g (j.rpush b) ({ m with aL := A3, cL := c3 } : RjM)) → W.cell? ⟨p, 9, none⟩ = some (.slice (some ⟨m.q, 0, none⟩) R m.cq) from fun W h => by rw [HRR.out]; exact h.cell_at 9 _ rfl)
   go_wp2_with fail
   try rw [← H4.out]
   clear x10
   refine wp_region_noPanic ?_
   refine wp_region_held_drew (S := fun w' => CRow w' p 41 (rjCells g (j.rpush b) ({ m with aL := A3, cL := c3 } : RjM)) ∧ RjR ρ' w' p g (j.rpush b) ({ m with aL := A3, cL := c3 } : RjM) ∧ Btw I w w') (by kernel_rfl) ⟨CF.out.1.drew, CF.out.2.1.below ((Below.refl _ _).drew), CF.out.2.2.drew⟩ (fun C0 => ?_)
   refine tkH 0 zR37 _ C0 rfl (by kernel_rfl) rfl (fun W h => by clear h; dsimp only [zR37]; go_simp <;> with_reducible rfl) ?_
   try simp only [zR37, Act.put, zzI, zzO, zzS]
   refine tkH 1 zR38 _ C0 rfl (by kernel_rfl) rfl (fun W h => by clear h; dsimp only [zR38]; go_simp <;> with_reducible rfl) ?_
   try simp only [zR38, Act.put, zzI, zzO, zzS]
   refine tkH 2 zR39 _ C0 rfl (by kernel_rfl) rfl (fun W h => by clear h; dsimp only [zR39]; go_simp <;> with_reducible rfl) ?_
   try simp only [zR39, Act.put, zzI, zzO, zzS]
   refine tkN 3 zR40 C0 rfl (by kernel_rfl) rfl ?_
   try simp only [zR40, Act.put, zzI, zzO, zzS]
   refine tkN 4 zR41 C0 rfl (by kernel_rfl) rfl ?_
   try simp only [zR41, Act.put, zzI, zzO, zzS]
   refine tkN 5 zR42 C0 rfl (by kernel_rfl) rfl ?_
   try simp only [zR42, Act.put, zzI, zzO, zzS]
   refine tkN 6 zR43 C0 rfl (by kernel_rfl) rfl ?_
   try simp only [zR43, Act.put, zzI, zzO, zzS]
   refine tkN 7 zR44 C0 rfl (by kernel_rfl) rfl ?_
   try simp only [zR44, Act.put, zzI, zzO, zzS]
   refine tkN 8 zR45 C0 rfl (by kernel_rfl) rfl ?_
   try simp only [zR45, Act.put, zzI, zzO, zzS]
   refine tkN 9 zR46 C0 rfl (by kernel_rfl) rfl ?_
   try simp only [zR46, Act.put, zzI, zzO, zzS]
   refine tkN 10 zR47 C0 rfl (by kernel_rfl) rfl ?_
   try simp only [zR47, Act.put, zzI, zzO, zzS]
   refine tkN 11 zR48 C0 rfl (by kernel_rfl) rfl ?_
   try simp only [zR48, Act.put, zzI, zzO, zzS]
   refine tkN 12 zR49 C0 rfl (by kernel_rfl) rfl ?_
   try simp only [zR49, Act.put, zzI, zzO, zzS]
   refine tkN 13 zR50 C0 rfl (by kernel_rfl) rfl ?_
   try simp only [zR50, Act.put, zzI, zzO, zzS]
   refine tkN 14 zR51 C0 rfl (by kernel_rfl) rfl ?_
   try simp only [zR51, Act.put, zzI, zzO, zzS]
   refine tkH 15 zR52 _ C0 rfl (by kernel_rfl) rfl (fun W h => by clear h; dsimp only [zR52]; go_simp <;> with_reducible rfl) ?_
   try simp only [zR52, Act.put, zzI, zzO, zzS]
   refine tkH 16 zR53 _ C0 rfl (by kernel_rfl) rfl (fun W h => by clear h; dsimp only [zR53]; go_simp <;> with_reducible rfl) ?_
   try simp only [zR53, Act.put, zzI, zzO, zzS]
   have CE := Lib.hid C0
   refine wpAnyH_done (by kernel_rfl) ?_ _
   refine NoPanic.normal ?_
   go_wp2
   go_ret
   rw [HR.out]
   exact ⟨rfl, ⟨ρ', _, (CE.out).1, (CE.out).2.1, I2.out, fun k hk => N0.out k (Nat.le_trans (CE.out).2.2.size hk)⟩, CE.out.2.2⟩
  ·
   skip
   have bn0 : (((n : Nat) : Int) == 0) = false := by simp; omega
   have jn0 : (((n : Nat) : Int) = 0) = False := eq_false (by omega)
   have kn0 : (n = 0) = False := eq_false (by omega)
   have dn0 : decide (((n : Nat) : Int) = 0) = false := decide_eq_false (by omega)
   by_cases hn1 : n = 1
   ·
    skip
    have bn1 : (((n : Nat) : Int) == 1) = true := by simp; omega
    have jn1 : (((n : Nat) : Int) = 1) = True := eq_true (by omega)
    have kn1 : (n = 1) = True := eq_true (by omega)
    have dn1 : decide (((n : Nat) : Int) = 1) = true := decide_eq_true (by omega)
    obtain ⟨A0, hA0⟩ : ∃ A0, A0 = (j.rpush b).addr2 0 := ⟨_, rfl⟩
    have HA0 := Lib.hid hA0
    have HTJ := Lib.hid (fun W (hh : RJ I W p g (j.rpush b)) => show Calls Try.prog 45 #[.pointer (some ⟨p, 0, none⟩), .int .i64 0] W (Gives (.int .i64 (A0 : Int)) W) from hA0 ▸ HTW.out W 0 (by omega) hh)
    clear hA0
    simp only [Gm.val] at HRQ
    by_cases hlt : A0 < R
    ·
     have e1 : decide ((A0 : Int) < (R : Int)) = true := decide_eq_true (by omega)
     have e2 : decide (A0 < R) = true := decide_eq_true (by omega)
     have HR := Lib.hid (show j.raddr g b = (true, (j.rpush b)) by unfold Jd.raddr; rw [HO.out, if_neg (by decide), if_neg (by decide), if_neg (by decide), if_neg (by decide), if_neg (by decide), if_pos rfl, decide_eq_true (.inr ⟨HN.out.symm.trans hn1, by rw [← HA0.out, ← HRR.out]; exact hlt⟩)])
     clear hn hn1 hlt
     clear HBB hb8
     go_enter Try.func33, Try.ntmps33
     have x11 : w.cell? ⟨p, 11, none⟩ = some (.slice m.aL n m.cL) := X11.out
     go_wp2_with (at_builtin; refine japp64 (w.alloc (.cells #[.int .i64 (b : Int)] 3)) rfl (.tmp 15) (.tmp 17) rfl 0 _ (JI j.listed) n LJ.out rfl (OL.out.alloc _) ⟨w.heap.size, 0, none⟩ 1 (b : Int) rfl (jone64 w (b : Int) _) (by have := LN.out; omega) (Nat.zero_le _) ?_)
     intro v3 w3 hown hg hwh
     obtain ⟨A3, c3, rfl⟩ := jown_form hown
     have hln : n = j.listed.length := HN.out
     have hpu := (R0.out.below (below_new w (.cells #[.int .i64 (b : Int)] 3))).pushL (w3 := w3) (A3 := A3) (c3 := c3) b (by rw [← hln]; exact hown) (by rw [← hln]; exact hg) (by
      rw [← hln]
      first
      | exact hwh
      | (have e9 : (w.alloc (.cells #[.int .i64 (b : Int)] 3)).heap.size = w.heap.size + 1 := by simp
         rw [e9]
         exact hwh))
     obtain ⟨ρ', hr2, hi2, hb2⟩ := hpu
     obtain ⟨i2, b2, n2, hc3, hp, r3, b3, n3⟩ := rpushed C0.out R0.out I0.out N0.out hln (show RjR ρ' w3 p g (j.rpush b) { m with aL := A3, cL := c3 } from hr2) hi2 hb2
     have I2 := Lib.hid i2
     have y11 : w3.cell? ⟨p, 11, none⟩ = some (.slice m.aL n m.cL) := by rw [hln]; exact hc3.cell_at 11 _ rfl
     have f11 := hc3.frozen 11
     have HP := Lib.hid hp
     have R3 := Lib.hid r3
     have B3 := Lib.hid b3
     have N3 := Lib.hid n3
     have HJ := Lib.hid (show RJ I (w3.setCell ⟨p, 11, none⟩ (.slice A3 (n + 1) c3)) p g (j.rpush b) from ⟨ρ', _, hp, r3, i2, n3⟩)
     clear i2 b2 n2 hp r3 b3 n3
     obtain ⟨w4, hw4⟩ : ∃ w4, w4 = w3.setCell ⟨p, 11, none⟩ (.slice A3 (n + 1) c3) := ⟨_, rfl⟩
     rw [← hw4] at HP R3 B3 N3 HJ
     have H4 := Lib.hid hw4
     have X10 := Lib.hid (show ∀ W, CRow W p 41 (rjCells g (j.rpush b) { m with aL := A3, cL := c3 }) → W.cell? ⟨p, 10, none⟩ = some (.int .i64 9) from fun W h => by have h0 := h.cell_at 10 (.int .i64 (j.op : Int)) rfl; rw [HO.out] at h0; exact h0)
     clear hown hg hwh hln hr2 hi2 hb2 hc3 x11 hw4
     have x10 : (w3.setCell ⟨p, 11, none⟩ (.slice A3 (n + 1) c3)).cell? ⟨p, 10, none⟩ = some (.int .i64 9) := by rw [← H4.out]; exact X10.out _ HP.out
     have CF := Lib.hid (show CRow w4 p 41 (rjCells g (j.rpush b) ({ m with aL := A3, cL := c3 } : RjM)) ∧ RjR ρ' w4 p g (j.rpush b) ({ m with aL := A3, cL := c3 } : RjM) ∧ Btw I w w4 from ⟨HP.out, R3.out, B3.out⟩)
     have X9 := Lib.hid (show ∀ W, CRow W p 41 (rjCells g (j.rpush b) ({ m with aL := A3, cL := c3 } : RjM)) → W.cell? ⟨p, 9, none⟩ = some (.slice (some ⟨m.q, 0, none⟩) R m.cq) from fun W h => by rw [HRR.out]; exact h.cell_at 9 _ rfl)
     go_wp2_with fail
     try rw [← H4.out]
     clear x10
     refine wp_region_noPanic ?_
     refine wp_region_held_drew (S := fun w' => CRow w' p 41 (rjCells g (j.rpush b) ({ m with aL := A3, cL := c3 } : RjM)) ∧ RjR ρ' w' p g (j.rpush b) ({ m with aL := A3, cL := c3 } : RjM) ∧ Btw I w w') (by kernel_rfl) ⟨CF.out.1.drew, CF.out.2.1.below ((Below.refl _ _).drew), CF.out.2.2.drew⟩ (fun C0 => ?_)
     refine tkH 0 zR37 _ C0 rfl (by kernel_rfl) rfl (fun W h => by clear h; dsimp only [zR37]; go_simp <;> with_reducible rfl) ?_
     try simp only [zR37, Act.put, zzI, zzO, zzS]
     refine tkH 1 zR38 _ C0 rfl (by kernel_rfl) rfl (fun W h => by clear h; dsimp only [zR38]; go_simp <;> with_reducible rfl) ?_
     try simp only [zR38, Act.put, zzI, zzO, zzS]
     refine tkH 2 zR39 _ C0 rfl (by kernel_rfl) rfl (fun W h => by clear h; dsimp only [zR39]; go_simp <;> with_reducible rfl) ?_
     try simp only [zR39, Act.put, zzI, zzO, zzS]
     refine tkH 3 zR40 _ C0 rfl (by kernel_rfl) rfl (fun W h => by clear h; dsimp only [zR40]; go_simp <;> with_reducible rfl) ?_
     try simp only [zR40, Act.put, zzI, zzO, zzS]
     refine tkH 4 zR41 _ C0 rfl (by kernel_rfl) rfl (fun W h => by clear h; dsimp only [zR41]; go_simp <;> with_reducible rfl) ?_
     try simp only [zR41, Act.put, zzI, zzO, zzS]
     refine tkH 5 zR42 _ C0 rfl (by kernel_rfl) rfl (fun W h => by clear h; dsimp only [zR42]; go_simp <;> with_reducible rfl) ?_
     try simp only [zR42, Act.put, zzI, zzO, zzS]
     refine tkH 6 zR43 _ C0 rfl (by kernel_rfl) rfl (fun W h => by clear h; dsimp only [zR43]; go_simp <;> with_reducible rfl) ?_
     try simp only [zR43, Act.put, zzI, zzO, zzS]
     refine tkH 8 zR45 _ C0 rfl (by kernel_rfl) rfl (fun W h => by clear h; dsimp only [zR45]; go_simp <;> with_reducible rfl) ?_
     try simp only [zR45, Act.put, zzI, zzO, zzS]
     refine tkH 9 zR46 _ C0 rfl (by kernel_rfl) rfl (fun W h => by clear h; dsimp only [zR46]; go_simp <;> with_reducible rfl) ?_
     try simp only [zR46, Act.put, zzI, zzO, zzS]
     refine tkH 10 zR47 _ C0 rfl (by kernel_rfl) rfl (fun W h => by clear h; dsimp only [zR47]; go_simp <;> with_reducible rfl) ?_
     try simp only [zR47, Act.put, zzI, zzO, zzS]
     refine tkH 11 zR48 _ C0 rfl (by kernel_rfl) rfl (fun W' hSw => by obtain ⟨hs, -, -⟩ := hSw; have x9 := X9.out W' hs; clear hs; dsimp only [zR48]; go_simp <;> with_reducible rfl) ?_
     try simp only [zR48, Act.put, zzI, zzO, zzS]
     refine tkH 12 zR49 _ C0 rfl (by kernel_rfl) rfl (fun W h => by clear h; dsimp only [zR49]; go_simp <;> with_reducible rfl) ?_
     try simp only [zR49, Act.put, zzI, zzO, zzS]
     refine wpAnyH_ready (rs := [7]) (by kernel_rfl) (by simp) ?_
     refine AllReadyH.cons (o := zRc4) rfl (fun K hK => ?_) AllReadyH.nil
     dsimp only [zRc4]
     go_simp
     refine (HTJ.out _ ⟨ρ', _, (C0).1, (C0).2.1, I2.out, fun k hk => N0.out k (Nat.le_trans (C0).2.2.size hk)⟩).mono ?_
     rintro _ wz ⟨rfl, hz⟩
     have ZC1 := Lib.hid (show CRow wz p 41 (rjCells g (j.rpush b) ({ m with aL := A3, cL := c3 } : RjM)) ∧ RjR ρ' wz p g (j.rpush b) ({ m with aL := A3, cL := c3 } : RjM) ∧ Btw I w wz from ⟨(C0).1.below hz, (C0).2.1.below hz, (C0).2.2.trans (Btw.of_below hz) fun _ _ h => h⟩)
     clear hz
     go_wp2_with fail
     refine hK.out _ _ ZC1.out (fun C1 => ?_)
     clear hK K
     try simp only [Act.put, zzI, zzO, zzS]
     refine tkH 13 zR50 _ C1 rfl (by kernel_rfl) rfl (fun W h => by clear h; dsimp only [zR50]; go_simp <;> with_reducible rfl) ?_
     try simp only [zR50, Act.put, zzI, zzO, zzS]
     refine tkH 14 zR51 _ C1 rfl (by kernel_rfl) rfl (fun W h => by clear h; dsimp only [zR51]; go_simp <;> with_reducible rfl) ?_
     try simp only [zR51, Act.put, zzI, zzO, zzS]
     refine tkH 15 zR52 _ C1 rfl (by kernel_rfl) rfl (fun W h => by clear h; dsimp only [zR52]; go_simp <;> with_reducible rfl) ?_
     try simp only [zR52, Act.put, zzI, zzO, zzS]
     refine tkH 16 zR53 _ C1 rfl (by kernel_rfl) rfl (fun W h => by clear h; dsimp only [zR53]; go_simp <;> with_reducible rfl) ?_
     try simp only [zR53, Act.put, zzI, zzO, zzS]
     have CE := Lib.hid C1
     refine wpAnyH_done (by kernel_rfl) ?_ _
     refine NoPanic.normal ?_
     go_wp2
     go_ret
     rw [HR.out]
     exact ⟨rfl, ⟨ρ', _, (CE.out).1, (CE.out).2.1, I2.out, fun k hk => N0.out k (Nat.le_trans (CE.out).2.2.size hk)⟩, CE.out.2.2⟩
    ·
     have e1 : decide ((A0 : Int) < (R : Int)) = false := decide_eq_false (by omega)
     have e2 : decide (A0 < R) = false := decide_eq_false (by omega)
     have HR := Lib.hid (show j.raddr g b = (false, (j.rpush b)) by unfold Jd.raddr; rw [HO.out, if_neg (by decide), if_neg (by decide), if_neg (by decide), if_neg (by decide), if_neg (by decide), if_pos rfl, decide_eq_false (fun h => h.elim (fun h => hn (HN.out.trans h)) fun h => hlt (by rw [HRR.out, HA0.out]; exact h.2))])
     clear hn hn1 hlt
     clear HBB hb8
     go_enter Try.func33, Try.ntmps33
     have x11 : w.cell? ⟨p, 11, none⟩ = some (.slice m.aL n m.cL) := X11.out
     go_wp2_with (at_builtin; refine japp64 (w.alloc (.cells #[.int .i64 (b : Int)] 3)) rfl (.tmp 15) (.tmp 17) rfl 0 _ (JI j.listed) n LJ.out rfl (OL.out.alloc _) ⟨w.heap.size, 0, none⟩ 1 (b : Int) rfl (jone64 w (b : Int) _) (by have := LN.out; omega) (Nat.zero_le _) ?_)
     intro v3 w3 hown hg hwh
     obtain ⟨A3, c3, rfl⟩ := jown_form hown
     have hln : n = j.listed.length := HN.out
     have hpu := (R0.out.below (below_new w (.cells #[.int .i64 (b : Int)] 3))).pushL (w3 := w3) (A3 := A3) (c3 := c3) b (by rw [← hln]; exact hown) (by rw [← hln]; exact hg) (by
      rw [← hln]
      first
      | exact hwh
      | (have e9 : (w.alloc (.cells #[.int .i64 (b : Int)] 3)).heap.size = w.heap.size + 1 := by simp
         rw [e9]
         exact hwh))
     obtain ⟨ρ', hr2, hi2, hb2⟩ := hpu
     obtain ⟨i2, b2, n2, hc3, hp, r3, b3, n3⟩ := rpushed C0.out R0.out I0.out N0.out hln (show RjR ρ' w3 p g (j.rpush b) { m with aL := A3, cL := c3 } from hr2) hi2 hb2
     have I2 := Lib.hid i2
     have y11 : w3.cell? ⟨p, 11, none⟩ = some (.slice m.aL n m.cL) := by rw [hln]; exact hc3.cell_at 11 _ rfl
     have f11 := hc3.frozen 11
     have HP := Lib.hid hp
     have R3 := Lib.hid r3
     have B3 := Lib.hid b3
     have N3 := Lib.hid n3
     have HJ := Lib.hid (show RJ I (w3.setCell ⟨p, 11, none⟩ (.slice A3 (n + 1) c3)) p g (j.rpush b) from ⟨ρ', _, hp, r3, i2, n3⟩)
     clear i2 b2 n2 hp r3 b3 n3
     obtain ⟨w4, hw4⟩ : ∃ w4, w4 = w3.setCell ⟨p, 11, none⟩ (.slice A3 (n + 1) c3) := ⟨_, rfl⟩
     rw [← hw4] at HP R3 B3 N3 HJ
     have H4 := Lib.hid hw4
     have X10 := Lib.hid (show ∀ W, CRow W p 41 (rjCells g (j.rpush b) { m with aL := A3, cL := c3 }) → W.cell? ⟨p, 10, none⟩ = some (.int .i64 9) from fun W h => by have h0 := h.cell_at 10 (.int .i64 (j.op : Int)) rfl; rw [HO.out] at h0; exact h0)
     clear hown hg hwh hln hr2 hi2 hb2 hc3 x11 hw4
     have x10 : (w3.setCell ⟨p, 11, none⟩ (.slice A3 (n + 1) c3)).cell? ⟨p, 10, none⟩ = some (.int .i64 9) := by rw [← H4.out]; exact X10.out _ HP.out
     have CF := Lib.hid (show CRow w4 p 41 (rjCells g (j.rpush b) ({ m with aL := A3, cL := c3 } : RjM)) ∧ RjR ρ' w4 p g (j.rpush b) ({ m with aL := A3, cL := c3 } : RjM) ∧ Btw I w w4 from ⟨HP.out, R3.out, B3.out⟩)
     have X9 := Lib.hid (show ∀ W, CRow W p 41 (rjCells g (j.rpush b) ({ m with aL := A3, cL := c3 } : RjM)) → W.cell? ⟨p, 9, none⟩ = some (.slice (some ⟨m.q, 0, none⟩) R m.cq) from fun W h => by rw [HRR.out]; exact h.cell_at 9 _ rfl)
     go_wp2_with fail
     try rw [← H4.out]
     clear x10
     refine wp_region_noPanic ?_
     refine wp_region_held_drew (S := fun w' => CRow w' p 41 (rjCells g (j.rpush b) ({ m with aL := A3, cL := c3 } : RjM)) ∧ RjR ρ' w' p g (j.rpush b) ({ m with aL := A3, cL := c3 } : RjM) ∧ Btw I w w') (by kernel_rfl) ⟨CF.out.1.drew, CF.out.2.1.below ((Below.refl _ _).drew), CF.out.2.2.drew⟩ (fun C0 => ?_)
     refine tkH 0 zR37 _ C0 rfl (by kernel_rfl) rfl (fun W h => by clear h; dsimp only [zR37]; go_simp <;> with_reducible rfl) ?_
     try simp only [zR37, Act.put, zzI, zzO, zzS]
     refine tkH 1 zR38 _ C0 rfl (by kernel_rfl) rfl (fun W h => by clear h; dsimp only [zR38]; go_simp <;> with_reducible rfl) ?_
     try simp only [zR38, Act.put, zzI, zzO, zzS]
     refine tkH 2 zR39 _ C0 rfl (by kernel_rfl) rfl (fun W h => by clear h; dsimp only [zR39]; go_simp <;> with_reducible rfl) ?_
     try simp only [zR39, Act.put, zzI, zzO, zzS]
     refine tkH 3 zR40 _ C0 rfl (by kernel_rfl) rfl (fun W h => by clear h; dsimp only [zR40]; go_simp <;> with_reducible rfl) ?_
     try simp only [zR40, Act.put, zzI, zzO, zzS]
     refine tkH 4 zR41 _ C0 rfl (by kernel_rfl) rfl (fun W h => by clear h; dsimp only [zR41]; go_simp <;> with_reducible rfl) ?_
     try simp only [zR41, Act.put, zzI, zzO, zzS]
     refine tkH 5 zR42 _ C0 rfl (by kernel_rfl) rfl (fun W h => by clear h; dsimp only [zR42]; go_simp <;> with_reducible rfl) ?_
     try simp only [zR42, Act.put, zzI, zzO, zzS]
     refine tkH 6 zR43 _ C0 rfl (by kernel_rfl) rfl (fun W h => by clear h; dsimp only [zR43]; go_simp <;> with_reducible rfl) ?_
     try simp only [zR43, Act.put, zzI, zzO, zzS]
     refine tkH 8 zR45 _ C0 rfl (by kernel_rfl) rfl (fun W h => by clear h; dsimp only [zR45]; go_simp <;> with_reducible rfl) ?_
     try simp only [zR45, Act.put, zzI, zzO, zzS]
     refine tkH 9 zR46 _ C0 rfl (by kernel_rfl) rfl (fun W h => by clear h; dsimp only [zR46]; go_simp <;> with_reducible rfl) ?_
     try simp only [zR46, Act.put, zzI, zzO, zzS]
     refine tkH 10 zR47 _ C0 rfl (by kernel_rfl) rfl (fun W h => by clear h; dsimp only [zR47]; go_simp <;> with_reducible rfl) ?_
     try simp only [zR47, Act.put, zzI, zzO, zzS]
     refine tkH 11 zR48 _ C0 rfl (by kernel_rfl) rfl (fun W' hSw => by obtain ⟨hs, -, -⟩ := hSw; have x9 := X9.out W' hs; clear hs; dsimp only [zR48]; go_simp <;> with_reducible rfl) ?_
     try simp only [zR48, Act.put, zzI, zzO, zzS]
     refine tkH 12 zR49 _ C0 rfl (by kernel_rfl) rfl (fun W h => by clear h; dsimp only [zR49]; go_simp <;> with_reducible rfl) ?_
     try simp only [zR49, Act.put, zzI, zzO, zzS]
     refine wpAnyH_ready (rs := [7]) (by kernel_rfl) (by simp) ?_
     refine AllReadyH.cons (o := zRc4) rfl (fun K hK => ?_) AllReadyH.nil
     dsimp only [zRc4]
     go_simp
     refine (HTJ.out _ ⟨ρ', _, (C0).1, (C0).2.1, I2.out, fun k hk => N0.out k (Nat.le_trans (C0).2.2.size hk)⟩).mono ?_
     rintro _ wz ⟨rfl, hz⟩
     have ZC1 := Lib.hid (show CRow wz p 41 (rjCells g (j.rpush b) ({ m with aL := A3, cL := c3 } : RjM)) ∧ RjR ρ' wz p g (j.rpush b) ({ m with aL := A3, cL := c3 } : RjM) ∧ Btw I w wz from ⟨(C0).1.below hz, (C0).2.1.below hz, (C0).2.2.trans (Btw.of_below hz) fun _ _ h => h⟩)
     clear hz
     go_wp2_with fail
     refine hK.out _ _ ZC1.out (fun C1 => ?_)
     clear hK K
     try simp only [Act.put, zzI, zzO, zzS]
     refine tkH 13 zR50 _ C1 rfl (by kernel_rfl) rfl (fun W h => by clear h; dsimp only [zR50]; go_simp <;> with_reducible rfl) ?_
     try simp only [zR50, Act.put, zzI, zzO, zzS]
     refine tkH 14 zR51 _ C1 rfl (by kernel_rfl) rfl (fun W h => by clear h; dsimp only [zR51]; go_simp <;> with_reducible rfl) ?_
     try simp only [zR51, Act.put, zzI, zzO, zzS]
     refine tkH 15 zR52 _ C1 rfl (by kernel_rfl) rfl (fun W h => by clear h; dsimp only [zR52]; go_simp <;> with_reducible rfl) ?_
     try simp only [zR52, Act.put, zzI, zzO, zzS]
     refine tkH 16 zR53 _ C1 rfl (by kernel_rfl) rfl (fun W h => by clear h; dsimp only [zR53]; go_simp <;> with_reducible rfl) ?_
     try simp only [zR53, Act.put, zzI, zzO, zzS]
     have CE := Lib.hid C1
     refine wpAnyH_done (by kernel_rfl) ?_ _
     refine NoPanic.normal ?_
     go_wp2
     go_ret
     rw [HR.out]
     exact ⟨rfl, ⟨ρ', _, (CE.out).1, (CE.out).2.1, I2.out, fun k hk => N0.out k (Nat.le_trans (CE.out).2.2.size hk)⟩, CE.out.2.2⟩
   ·
    skip
    have bn1 : (((n : Nat) : Int) == 1) = false := by simp; omega
    have jn1 : (((n : Nat) : Int) = 1) = False := eq_false (by omega)
    have kn1 : (n = 1) = False := eq_false (by omega)
    have dn1 : decide (((n : Nat) : Int) = 1) = false := decide_eq_false (by omega)
    have HR := Lib.hid (show j.raddr g b = (false, (j.rpush b)) by unfold Jd.raddr; rw [HO.out, if_neg (by decide), if_neg (by decide), if_neg (by decide), if_neg (by decide), if_neg (by decide), if_pos rfl, decide_eq_false (fun h => h.elim (fun h => hn (HN.out.trans h)) fun h => hn1 (HN.out.trans h.1))])
    clear hn hn1
    clear HBB hb8
    go_enter Try.func33, Try.ntmps33
    have x11 : w.cell? ⟨p, 11, none⟩ = some (.slice m.aL n m.cL) := X11.out
    go_wp2_with (at_builtin; refine japp64 (w.alloc (.cells #[.int .i64 (b : Int)] 3)) rfl (.tmp 15) (.tmp 17) rfl 0 _ (JI j.listed) n LJ.out rfl (OL.out.alloc _) ⟨w.heap.size, 0, none⟩ 1 (b : Int) rfl (jone64 w (b : Int) _) (by have := LN.out; omega) (Nat.zero_le _) ?_)
    intro v3 w3 hown hg hwh
    obtain ⟨A3, c3, rfl⟩ := jown_form hown
    have hln : n = j.listed.length := HN.out
    have hpu := (R0.out.below (below_new w (.cells #[.int .i64 (b : Int)] 3))).pushL (w3 := w3) (A3 := A3) (c3 := c3) b (by rw [← hln]; exact hown) (by rw [← hln]; exact hg) (by
     rw [← hln]
     first
     | exact hwh
     | (have e9 : (w.alloc (.cells #[.int .i64 (b : Int)] 3)).heap.size = w.heap.size + 1 := by simp
        rw [e9]
        exact hwh))
    obtain ⟨ρ', hr2, hi2, hb2⟩ := hpu
    obtain ⟨i2, b2, n2, hc3, hp, r3, b3, n3⟩ := rpushed C0.out R0.out I0.out N0.out hln (show RjR ρ' w3 p g (j.rpush b) { m with aL := A3, cL := c3 } from hr2) hi2 hb2
    have I2 := Lib.hid i2
    have y11 : w3.cell? ⟨p, 11, none⟩ = some (.slice m.aL n m.cL) := by rw [hln]; exact hc3.cell_at 11 _ rfl
    have f11 := hc3.frozen 11
    have HP := Lib.hid hp
    have R3 := Lib.hid r3
    have B3 := Lib.hid b3
    have N3 := Lib.hid n3
    have HJ := Lib.hid (show RJ I (w3.setCell ⟨p, 11, none⟩ (.slice A3 (n + 1) c3)) p g (j.rpush b) from ⟨ρ', _, hp, r3, i2, n3⟩)
    clear i2 b2 n2 hp r3 b3 n3
    obtain ⟨w4, hw4⟩ : ∃ w4, w4 = w3.setCell ⟨p, 11, none⟩ (.slice A3 (n + 1) c3) := ⟨_, rfl⟩
    rw [← hw4] at HP R3 B3 N3 HJ
    have H4 := Lib.hid hw4
    have X10 := Lib.hid (show ∀ W, CRow W p 41 (rjCells g (j.rpush b) { m with aL := A3, cL := c3 }) → W.cell? ⟨p, 10, none⟩ = some (.int .i64 9) from fun W h => by have h0 := h.cell_at 10 (.int .i64 (j.op : Int)) rfl; rw [HO.out] at h0; exact h0)
    clear hown hg hwh hln hr2 hi2 hb2 hc3 x11 hw4
    have x10 : (w3.setCell ⟨p, 11, none⟩ (.slice A3 (n + 1) c3)).cell? ⟨p, 10, none⟩ = some (.int .i64 9) := by rw [← H4.out]; exact X10.out _ HP.out
    have CF := Lib.hid (show CRow w4 p 41 (rjCells g (j.rpush b) ({ m with aL := A3, cL := c3 } : RjM)) ∧ RjR ρ' w4 p g (j.rpush b) ({ m with aL := A3, cL := c3 } : RjM) ∧ Btw I w w4 from ⟨HP.out, R3.out, B3.out⟩)
    have X9 := Lib.hid (show ∀ W, CRow W p 41 (rjCells g (j.rpush b) ({ m with aL := A3, cL := c3 } : RjM)) → W.cell? ⟨p, 9, none⟩ = some (.slice (some ⟨m.q, 0, none⟩) R m.cq) from fun W h => by rw [HRR.out]; exact h.cell_at 9 _ rfl)
    go_wp2_with fail
    try rw [← H4.out]
    clear x10
    refine wp_region_noPanic ?_
    refine wp_region_held_drew (S := fun w' => CRow w' p 41 (rjCells g (j.rpush b) ({ m with aL := A3, cL := c3 } : RjM)) ∧ RjR ρ' w' p g (j.rpush b) ({ m with aL := A3, cL := c3 } : RjM) ∧ Btw I w w') (by kernel_rfl) ⟨CF.out.1.drew, CF.out.2.1.below ((Below.refl _ _).drew), CF.out.2.2.drew⟩ (fun C0 => ?_)
    refine tkH 0 zR37 _ C0 rfl (by kernel_rfl) rfl (fun W h => by clear h; dsimp only [zR37]; go_simp <;> with_reducible rfl) ?_
    try simp only [zR37, Act.put, zzI, zzO, zzS]
    refine tkH 1 zR38 _ C0 rfl (by kernel_rfl) rfl (fun W h => by clear h; dsimp only [zR38]; go_simp <;> with_reducible rfl) ?_
    try simp only [zR38, Act.put, zzI, zzO, zzS]
    refine tkH 2 zR39 _ C0 rfl (by kernel_rfl) rfl (fun W h => by clear h; dsimp only [zR39]; go_simp <;> with_reducible rfl) ?_
    try simp only [zR39, Act.put, zzI, zzO, zzS]
    refine tkH 3 zR40 _ C0 rfl (by kernel_rfl) rfl (fun W h => by clear h; dsimp only [zR40]; go_simp <;> with_reducible rfl) ?_
    try simp only [zR40, Act.put, zzI, zzO, zzS]
    refine tkH 4 zR41 _ C0 rfl (by kernel_rfl) rfl (fun W h => by clear h; dsimp only [zR41]; go_simp <;> with_reducible rfl) ?_
    try simp only [zR41, Act.put, zzI, zzO, zzS]
    refine tkH 5 zR42 _ C0 rfl (by kernel_rfl) rfl (fun W h => by clear h; dsimp only [zR42]; go_simp <;> with_reducible rfl) ?_
    try simp only [zR42, Act.put, zzI, zzO, zzS]
    refine tkN 6 zR43 C0 rfl (by kernel_rfl) rfl ?_
    try simp only [zR43, Act.put, zzI, zzO, zzS]
    refine tkN 7 zR44 C0 rfl (by kernel_rfl) rfl ?_
    try simp only [zR44, Act.put, zzI, zzO, zzS]
    refine tkN 8 zR45 C0 rfl (by kernel_rfl) rfl ?_
    try simp only [zR45, Act.put, zzI, zzO, zzS]
    refine tkN 9 zR46 C0 rfl (by kernel_rfl) rfl ?_
    try simp only [zR46, Act.put, zzI, zzO, zzS]
    refine tkN 10 zR47 C0 rfl (by kernel_rfl) rfl ?_
    try simp only [zR47, Act.put, zzI, zzO, zzS]
    refine tkN 11 zR48 C0 rfl (by kernel_rfl) rfl ?_
    try simp only [zR48, Act.put, zzI, zzO, zzS]
    refine tkN 12 zR49 C0 rfl (by kernel_rfl) rfl ?_
    try simp only [zR49, Act.put, zzI, zzO, zzS]
    refine tkN 13 zR50 C0 rfl (by kernel_rfl) rfl ?_
    try simp only [zR50, Act.put, zzI, zzO, zzS]
    refine tkH 14 zR51 _ C0 rfl (by kernel_rfl) rfl (fun W h => by clear h; dsimp only [zR51]; go_simp <;> with_reducible rfl) ?_
    try simp only [zR51, Act.put, zzI, zzO, zzS]
    refine tkH 15 zR52 _ C0 rfl (by kernel_rfl) rfl (fun W h => by clear h; dsimp only [zR52]; go_simp <;> with_reducible rfl) ?_
    try simp only [zR52, Act.put, zzI, zzO, zzS]
    refine tkH 16 zR53 _ C0 rfl (by kernel_rfl) rfl (fun W h => by clear h; dsimp only [zR53]; go_simp <;> with_reducible rfl) ?_
    try simp only [zR53, Act.put, zzI, zzO, zzS]
    have CE := Lib.hid C0
    refine wpAnyH_done (by kernel_rfl) ?_ _
    refine NoPanic.normal ?_
    go_wp2
    go_ret
    rw [HR.out]
    exact ⟨rfl, ⟨ρ', _, (CE.out).1, (CE.out).2.1, I2.out, fun k hk => N0.out k (Nat.le_trans (CE.out).2.2.size hk)⟩, CE.out.2.2⟩
 ·
  have HO := Lib.hid (show j.op = o from HOO.out.symm)
  have bo2 : (((o : Nat) : Int) == 2) = false := by simp; omega
  have jo2 : (((o : Nat) : Int) = 2) = False := eq_false (by omega)
  have ko2 : (o = 2) = False := eq_false (by omega)
  have do2 : decide (((o : Nat) : Int) = 2) = false := decide_eq_false (by omega)
  have bo4 : (((o : Nat) : Int) == 4) = false := by simp; omega
  have jo4 : (((o : Nat) : Int) = 4) = False := eq_false (by omega)
  have ko4 : (o = 4) = False := eq_false (by omega)
  have do4 : decide (((o : Nat) : Int) = 4) = false := decide_eq_false (by omega)
  have bo3 : (((o : Nat) : Int) == 3) = false := by simp; omega
  have jo3 : (((o : Nat) : Int) = 3) = False := eq_false (by omega)
  have ko3 : (o = 3) = False := eq_false (by omega)
  have do3 : decide (((o : Nat) : Int) = 3) = false := decide_eq_false (by omega)
  have bo5 : (((o : Nat) : Int) == 5) = false := by simp; omega
  have jo5 : (((o : Nat) : Int) = 5) = False := eq_false (by omega)
  have ko5 : (o = 5) = False := eq_false (by omega)
  have do5 : decide (((o : Nat) : Int) = 5) = false := decide_eq_false (by omega)
  have bo8 : (((o : Nat) : Int) == 8) = false := by simp; omega
  have jo8 : (((o : Nat) : Int) = 8) = False := eq_false (by omega)
  have ko8 : (o = 8) = False := eq_false (by omega)
  have do8 : decide (((o : Nat) : Int) = 8) = false := decide_eq_false (by omega)
  have bo7 : (((o : Nat) : Int) == 7) = false := by simp; omega
  have jo7 : (((o : Nat) : Int) = 7) = False := eq_false (by omega)
  have ko7 : (o = 7) = False := eq_false (by omega)
  have do7 : decide (((o : Nat) : Int) = 7) = false := decide_eq_false (by omega)
  have bo9 : (((o : Nat) : Int) == 9) = false := by simp; omega
  have jo9 : (((o : Nat) : Int) = 9) = False := eq_false (by omega)
  have ko9 : (o = 9) = False := eq_false (by omega)
  have do9 : decide (((o : Nat) : Int) = 9) = false := decide_eq_false (by omega)
  have HR := Lib.hid (show j.raddr g b = (false, j.rpush b) by unfold Jd.raddr; rw [HO.out, if_neg h2, if_neg h4, if_neg h3, if_neg (fun h => h.elim h5 h8), if_neg h7, if_neg h9])
  clear hb8 h2 h4 h3 h5 h8 h7 h9 ho9
  go_enter Try.func33, Try.ntmps33
  have x11 : w.cell? ⟨p, 11, none⟩ = some (.slice m.aL n m.cL) := X11.out
  go_wp2_with (at_builtin; refine japp64 (w.alloc (.cells #[.int .i64 (b : Int)] 3)) rfl (.tmp 15) (.tmp 17) rfl 0 _ (JI j.listed) n LJ.out rfl (OL.out.alloc _) ⟨w.heap.size, 0, none⟩ 1 (b : Int) rfl (jone64 w (b : Int) _) (by have := LN.out; omega) (Nat.zero_le _) ?_)
  intro v3 w3 hown hg hwh
  obtain ⟨A3, c3, rfl⟩ := jown_form hown
  have hln : n = j.listed.length := HN.out
  have hpu := (R0.out.below (below_new w (.cells #[.int .i64 (b : Int)] 3))).pushL (w3 := w3) (A3 := A3) (c3 := c3) b (by rw [← hln]; exact hown) (by rw [← hln]; exact hg) (by
   rw [← hln]
   first
   | exact hwh
   | (have e9 : (w.alloc (.cells #[.int .i64 (b : Int)] 3)).heap.size = w.heap.size + 1 := by simp
      rw [e9]
      exact hwh))
  obtain ⟨ρ', hr2, hi2, hb2⟩ := hpu
  obtain ⟨i2, b2, n2, hc3, hp, r3, b3, n3⟩ := rpushed C0.out R0.out I0.out N0.out hln (show RjR ρ' w3 p g (j.rpush b) { m with aL := A3, cL := c3 } from hr2) hi2 hb2
  have I2 := Lib.hid i2
  have y11 : w3.cell? ⟨p, 11, none⟩ = some (.slice m.aL n m.cL) := by rw [hln]; exact hc3.cell_at 11 _ rfl
  have f11 := hc3.frozen 11
  have HP := Lib.hid hp
  have R3 := Lib.hid r3
  have B3 := Lib.hid b3
  have N3 := Lib.hid n3
  have HJ := Lib.hid (show RJ I (w3.setCell ⟨p, 11, none⟩ (.slice A3 (n + 1) c3)) p g (j.rpush b) from ⟨ρ', _, hp, r3, i2, n3⟩)
  clear i2 b2 n2 hp r3 b3 n3
  obtain ⟨w4, hw4⟩ : ∃ w4, w4 = w3.setCell ⟨p, 11, none⟩ (.slice A3 (n + 1) c3) := ⟨_, rfl⟩
  rw [← hw4] at HP R3 B3 N3 HJ
  have H4 := Lib.hid hw4
  have X10 := Lib.hid (show ∀ W, CRow W p 41 (rjCells g (j.rpush b) { m with aL := A3, cL := c3 }) → W.cell? ⟨p, 10, none⟩ = some (.int .i64 (o : Int)) from fun W h => by have h0 := h.cell_at 10 (.int .i64 (j.op : Int)) rfl; rw [← HOO.out] at h0; exact h0)
  clear hown hg hwh hln hr2 hi2 hb2 hc3 x11 hw4
  have x10 : (w3.setCell ⟨p, 11, none⟩ (.slice A3 (n + 1) c3)).cell? ⟨p, 10, none⟩ = some (.int .i64 (o : Int)) := by rw [← H4.out]; exact X10.out _ HP.out
  go_wp2
  go_ret
  rw [HR.out]
  rw [← H4.out]
  exact ⟨rfl, HJ.out, B3.out⟩
end
end Go.Proofs.Ytaidgjidpghgnaa
