/-
  The document's judge: Can.
-/
import Derived.Test.YtaidgjidpghgnaaTk
import Derived.Test.YtaidgjidpghgnaaJudgeStepsJ9
namespace Go.Proofs.Ytaidgjidpghgnaa
open Go.RowKit
set_option maxRecDepth 100000
def zB0 : Oper := { dst := some 24, op := Op.move (Operand.tmp 0), type := 33, pos := "ref.go:63", after := #[], guard := none }
def zB1 : Oper := { dst := some 25, op := Op.nilCheck (Operand.tmp 24), type := 0, pos := "ref.go:63", after := #[{ on := 0, ground := Ground.data }], guard := none }
def zB2 : Oper := { dst := some 26, op := Op.fieldAddr 41 (Operand.tmp 25) 1, type := 0, pos := "ref.go:63", after := #[{ on := 1, ground := Ground.data }], guard := none }
def zB3 : Oper := { dst := some 27, op := Op.load 38 (Operand.tmp 26), type := 38, pos := "ref.go:63", after := #[{ on := 2, ground := Ground.data }], guard := none }
def zB4 : Oper := { dst := some 28, op := Op.move (Operand.tmp 5), type := 3, pos := "ref.go:63", after := #[], guard := none }
def zB5 : Oper := { dst := some 29, op := Op.indexAddr 38 (Operand.tmp 27) (Operand.tmp 28), type := 0, pos := "ref.go:63", after := #[{ on := 3, ground := Ground.data }, { on := 4, ground := Ground.data }], guard := none }
def zB6 : Oper := { dst := some 30, op := Op.load 4 (Operand.tmp 29), type := 4, pos := "ref.go:63", after := #[{ on := 5, ground := Ground.data }], guard := none }
def zB7 : Oper := { dst := some 31, op := Op.move (Operand.tmp 30), type := 4, pos := "ref.go:63", after := #[{ on := 6, ground := Ground.data }], guard := none }
def zB8 : Oper := { dst := some 32, op := Op.move (Operand.tmp 1), type := 3, pos := "ref.go:63", after := #[{ on := 7, ground := Ground.guard }], guard := some (7, true) }
def zB9 : Oper := { dst := some 33, op := Op.move (Operand.tmp 0), type := 33, pos := "ref.go:63", after := #[{ on := 7, ground := Ground.guard }], guard := some (7, true) }
def zB10 : Oper := { dst := some 34, op := Op.nilCheck (Operand.tmp 33), type := 0, pos := "ref.go:63", after := #[{ on := 9, ground := Ground.data }, { on := 7, ground := Ground.guard }], guard := some (7, true) }
def zB11 : Oper := { dst := some 35, op := Op.fieldAddr 41 (Operand.tmp 34) 0, type := 0, pos := "ref.go:63", after := #[{ on := 10, ground := Ground.data }, { on := 7, ground := Ground.guard }], guard := some (7, true) }
def zB12 : Oper := { dst := some 36, op := Op.fieldAddr 23 (Operand.tmp 35) 2, type := 0, pos := "ref.go:63", after := #[{ on := 11, ground := Ground.data }, { on := 7, ground := Ground.guard }], guard := some (7, true) }
def zB13 : Oper := { dst := some 37, op := Op.load 3 (Operand.tmp 36), type := 3, pos := "ref.go:63", after := #[{ on := 12, ground := Ground.data }, { on := 7, ground := Ground.guard }], guard := some (7, true) }
def zB14 : Oper := { dst := some 38, op := Op.binOp BinOp.rem 3 (Operand.tmp 32) (Operand.tmp 37) 3, type := 3, pos := "ref.go:63", after := #[{ on := 8, ground := Ground.data }, { on := 13, ground := Ground.data }, { on := 7, ground := Ground.guard }], guard := some (7, true) }
def zB15 : Oper := { dst := some 39, op := Op.move (Operand.tmp 0), type := 33, pos := "ref.go:63", after := #[{ on := 7, ground := Ground.guard }], guard := some (7, true) }
def zB16 : Oper := { dst := some 40, op := Op.nilCheck (Operand.tmp 39), type := 0, pos := "ref.go:63", after := #[{ on := 15, ground := Ground.data }, { on := 7, ground := Ground.guard }], guard := some (7, true) }
def zB17 : Oper := { dst := some 41, op := Op.fieldAddr 41 (Operand.tmp 40) 2, type := 0, pos := "ref.go:63", after := #[{ on := 16, ground := Ground.data }, { on := 7, ground := Ground.guard }], guard := some (7, true) }
def zB18 : Oper := { dst := some 42, op := Op.load 39 (Operand.tmp 41), type := 39, pos := "ref.go:63", after := #[{ on := 17, ground := Ground.data }, { on := 7, ground := Ground.guard }], guard := some (7, true) }
def zB19 : Oper := { dst := some 43, op := Op.move (Operand.tmp 5), type := 3, pos := "ref.go:63", after := #[{ on := 7, ground := Ground.guard }], guard := some (7, true) }
def zB20 : Oper := { dst := some 44, op := Op.indexAddr 39 (Operand.tmp 42) (Operand.tmp 43), type := 0, pos := "ref.go:63", after := #[{ on := 18, ground := Ground.data }, { on := 19, ground := Ground.data }, { on := 7, ground := Ground.guard }], guard := some (7, true) }
def zB21 : Oper := { dst := some 45, op := Op.load 3 (Operand.tmp 44), type := 3, pos := "ref.go:63", after := #[{ on := 20, ground := Ground.data }, { on := 7, ground := Ground.guard }], guard := some (7, true) }
def zB22 : Oper := { dst := some 46, op := Op.binOp BinOp.geq 3 (Operand.tmp 38) (Operand.tmp 45) 3, type := 4, pos := "ref.go:63", after := #[{ on := 14, ground := Ground.data }, { on := 21, ground := Ground.data }, { on := 7, ground := Ground.guard }], guard := some (7, true) }
def zB23 : Oper := { dst := some 47, op := Op.pick (Operand.tmp 31) (Operand.tmp 46) (Operand.const (Value.bool false)), type := 4, pos := "ref.go:63", after := #[{ on := 7, ground := Ground.data }, { on := 22, ground := Ground.data }], guard := none }
def zB24 : Oper := { dst := some 48, op := Op.move (Operand.tmp 47), type := 4, pos := "ref.go:63", after := #[{ on := 23, ground := Ground.data }, { on := 7, ground := Ground.chain }], guard := none }
def zB25 : Oper := { dst := some 49, op := Op.move (Operand.tmp 0), type := 33, pos := "ref.go:63", after := #[{ on := 24, ground := Ground.guard }], guard := some (24, true) }
def zB26 : Oper := { dst := some 50, op := Op.nilCheck (Operand.tmp 49), type := 0, pos := "ref.go:63", after := #[{ on := 25, ground := Ground.data }, { on := 24, ground := Ground.guard }], guard := some (24, true) }
def zB27 : Oper := { dst := some 51, op := Op.fieldAddr 41 (Operand.tmp 50) 3, type := 0, pos := "ref.go:63", after := #[{ on := 26, ground := Ground.data }, { on := 24, ground := Ground.guard }], guard := some (24, true) }
def zB28 : Oper := { dst := some 52, op := Op.load 39 (Operand.tmp 51), type := 39, pos := "ref.go:63", after := #[{ on := 27, ground := Ground.data }, { on := 24, ground := Ground.guard }], guard := some (24, true) }
def zB29 : Oper := { dst := some 53, op := Op.move (Operand.tmp 1), type := 3, pos := "ref.go:63", after := #[{ on := 24, ground := Ground.guard }], guard := some (24, true) }
def zB30 : Oper := { dst := some 54, op := Op.indexAddr 39 (Operand.tmp 52) (Operand.tmp 53), type := 0, pos := "ref.go:63", after := #[{ on := 28, ground := Ground.data }, { on := 29, ground := Ground.data }, { on := 24, ground := Ground.guard }], guard := some (24, true) }
def zB31 : Oper := { dst := some 55, op := Op.load 3 (Operand.tmp 54), type := 3, pos := "ref.go:63", after := #[{ on := 30, ground := Ground.data }, { on := 24, ground := Ground.guard }], guard := some (24, true) }
def zB32 : Oper := { dst := some 56, op := Op.move (Operand.tmp 0), type := 33, pos := "ref.go:63", after := #[{ on := 24, ground := Ground.guard }], guard := some (24, true) }
def zB33 : Oper := { dst := some 57, op := Op.nilCheck (Operand.tmp 56), type := 0, pos := "ref.go:63", after := #[{ on := 32, ground := Ground.data }, { on := 24, ground := Ground.guard }], guard := some (24, true) }
def zB34 : Oper := { dst := some 58, op := Op.fieldAddr 41 (Operand.tmp 57) 0, type := 0, pos := "ref.go:63", after := #[{ on := 33, ground := Ground.data }, { on := 24, ground := Ground.guard }], guard := some (24, true) }
def zB35 : Oper := { dst := some 59, op := Op.fieldAddr 23 (Operand.tmp 58) 6, type := 0, pos := "ref.go:63", after := #[{ on := 34, ground := Ground.data }, { on := 24, ground := Ground.guard }], guard := some (24, true) }
def zB36 : Oper := { dst := some 60, op := Op.load 3 (Operand.tmp 59), type := 3, pos := "ref.go:63", after := #[{ on := 35, ground := Ground.data }, { on := 24, ground := Ground.guard }], guard := some (24, true) }
def zB37 : Oper := { dst := some 61, op := Op.binOp BinOp.lss 3 (Operand.tmp 55) (Operand.tmp 60) 3, type := 4, pos := "ref.go:63", after := #[{ on := 31, ground := Ground.data }, { on := 36, ground := Ground.data }, { on := 24, ground := Ground.guard }], guard := some (24, true) }
def zB38 : Oper := { dst := some 62, op := Op.pick (Operand.tmp 48) (Operand.tmp 61) (Operand.const (Value.bool false)), type := 4, pos := "ref.go:63", after := #[{ on := 24, ground := Ground.data }, { on := 37, ground := Ground.data }], guard := none }
def zB39 : Oper := { dst := some 4, op := Op.assign (Operand.tmp 62), type := 4, pos := "ref.go:63", after := #[{ on := 38, ground := Ground.data }, { on := 24, ground := Ground.chain }, { on := 0, ground := Ground.phase }, { on := 1, ground := Ground.phase }, { on := 2, ground := Ground.phase }, { on := 3, ground := Ground.phase }, { on := 4, ground := Ground.phase }, { on := 5, ground := Ground.phase }, { on := 6, ground := Ground.phase }, { on := 7, ground := Ground.phase }, { on := 8, ground := Ground.phase }, { on := 9, ground := Ground.phase }, { on := 10, ground := Ground.phase }, { on := 11, ground := Ground.phase }, { on := 12, ground := Ground.phase }, { on := 13, ground := Ground.phase }, { on := 14, ground := Ground.phase }, { on := 15, ground := Ground.phase }, { on := 16, ground := Ground.phase }, { on := 17, ground := Ground.phase }, { on := 18, ground := Ground.phase }, { on := 19, ground := Ground.phase }, { on := 20, ground := Ground.phase }, { on := 21, ground := Ground.phase }, { on := 22, ground := Ground.phase }, { on := 23, ground := Ground.phase }, { on := 24, ground := Ground.phase }, { on := 25, ground := Ground.phase }, { on := 26, ground := Ground.phase }, { on := 27, ground := Ground.phase }, { on := 28, ground := Ground.phase }, { on := 29, ground := Ground.phase }, { on := 30, ground := Ground.phase }, { on := 31, ground := Ground.phase }, { on := 32, ground := Ground.phase }, { on := 33, ground := Ground.phase }, { on := 34, ground := Ground.phase }, { on := 35, ground := Ground.phase }, { on := 36, ground := Ground.phase }, { on := 37, ground := Ground.phase }, { on := 38, ground := Ground.phase }], guard := none }

section
variable {ρ : Nat → Nat} {I K : Nat → Prop} {w w' : World} {p : Nat} {g : Gm} {j j' : Jd} {m m' : RjM}
theorem rcan_neg (x : Int) (hx : x < 0) (w : World) : Calls Try.prog 16 #[.pointer (some ⟨p, 0, none⟩), .int .i64 x] w (Gives (.bool false) w) := by
 have d0 : decide (x < 0) = true := decide_eq_true hx
 go_enter Try.func16, Try.ntmps16
 go_wp2
 go_ret
 exact ⟨rfl, Below.refl _ _⟩
theorem rcan_out (x : Nat) (hx : g.rows_ ≤ x) (h : RJ I w p g j) : Calls Try.prog 16 #[.pointer (some ⟨p, 0, none⟩), .int .i64 (x : Int)] w (Gives (.bool (j.can g x)) w) := by
 obtain ⟨ρ, m, hc, hr, hi, hn⟩ := h
 have HV := Lib.hid (show j.can g x = false by unfold Jd.can; rw [decide_eq_false (by omega)]; rfl)
 obtain ⟨R, hR⟩ : ∃ R, R = g.rows_ := ⟨_, rfl⟩
 have x9 : w.cell? ⟨p, 9, none⟩ = some (.slice (some ⟨m.q, 0, none⟩) R m.cq) := by rw [hR]; exact hc.cell_at 9 _ rfl
 have d0 : decide ((x : Int) < 0) = false := decide_eq_false (by omega)
 have d1 : decide ((R : Int) ≤ (x : Int)) = true := decide_eq_true (by omega)
 have d2 : decide (R ≤ x) = true := decide_eq_true (by omega)
 clear hc hr hi hn hR hx
 go_enter Try.func16, Try.ntmps16
 go_wp2
 go_ret
 rw [HV.out]
 exact ⟨rfl, Below.refl _ _⟩
set_option maxHeartbeats 2000000 in
theorem rcan_in (x : Nat) (hx : x < g.rows_) (h : RJ I w p g j) : Calls Try.prog 16 #[.pointer (some ⟨p, 0, none⟩), .int .i64 (x : Int)] w (Gives (.bool (j.can g x)) w) := by
 obtain ⟨ρ, m, hc, hr, hi, hn⟩ := h
 have hg := Gm.bounds_of hr.ok
 obtain ⟨S, hS⟩ : ∃ S, S = g.s.toNat := ⟨_, rfl⟩
 have hS1 : g.s = (S : Int) := by omega
 obtain ⟨b, hb⟩ : ∃ b, b = x / S := ⟨_, rfl⟩
 obtain ⟨q, hq⟩ : ∃ q, q = x % S := ⟨_, rfl⟩
 obtain ⟨NB, hNB⟩ : ∃ NB, NB = g.b.toNat := ⟨_, rfl⟩
 obtain ⟨R, hR⟩ : ∃ R, R = g.rows_ := ⟨_, rfl⟩
 have hRR : R = NB * S := by rw [hR, hNB, hS]; rfl
 have hS4 : 4 ≤ S ∧ S ≤ 64 := by omega
 have hNB2 : NB ≤ 256 := by omega
 have hR2 : R ≤ 16384 := by rw [hRR]; exact Nat.mul_le_mul hNB2 hS4.2
 have hxR : x < R := by omega
 have hbN : b < NB := by rw [hb]; exact Nat.div_lt_of_lt_mul (by rw [Nat.mul_comm]; omega)
 have hsp : spB g x = b ∧ spP g x = q ∧ b * S + q = x := by
  refine ⟨?_, ?_, ?_⟩
  ·
   unfold spB; rw [if_pos hx, ← hS, ← hb]
  ·
   unfold spP; rw [if_pos hx, ← hS, ← hq]
  ·
   rw [hb, hq, Nat.mul_comm]; exact Nat.div_add_mod x S
 have HV0 := Lib.hid (show j.can g x = (j.er b && decide (j.la b ≤ (q : Int)) && decide ((j.pr x : Int) < g.q)) by
  unfold Jd.can
  rw [decide_eq_true hx, hsp.1, hsp.2.1, ← hS, hsp.2.2, Bool.true_and, Bool.and_assoc])
 have C0 := Lib.hid hc
 have C2 := Lib.hid (show ∀ W, CRow W p 41 (rjCells g j m) → W.cell? ⟨p, 2, none⟩ = some (.int .i64 (S : Int)) from fun W h => by rw [← hS1]; exact h.cell_at 2 _ rfl)
 have C7 := Lib.hid (show ∀ W, CRow W p 41 (rjCells g j m) → W.cell? ⟨p, 7, none⟩ = some (.slice (some ⟨m.e, 0, none⟩) NB m.ce) from fun W h => by rw [hNB]; exact h.cell_at 7 _ rfl)
 have C8 := Lib.hid (show ∀ W, CRow W p 41 (rjCells g j m) → W.cell? ⟨p, 8, none⟩ = some (.slice (some ⟨m.l, 0, none⟩) NB m.cl) from fun W h => by rw [hNB]; exact h.cell_at 8 _ rfl)
 have C9 := Lib.hid (show ∀ W, CRow W p 41 (rjCells g j m) → W.cell? ⟨p, 9, none⟩ = some (.slice (some ⟨m.q, 0, none⟩) R m.cq) from fun W h => by rw [hR]; exact h.cell_at 9 _ rfl)
 obtain ⟨er0, he0⟩ : ∃ e, e = j.er b := ⟨_, rfl⟩
 obtain ⟨la0, hl0⟩ : ∃ e, e = j.la b := ⟨_, rfl⟩
 obtain ⟨pr0, hp0⟩ : ∃ e, e = j.pr x := ⟨_, rfl⟩
 have E0 := Lib.hid (show w.cell? ⟨m.e, b, none⟩ = some (.bool er0) from hr.ce.cell (by unfold erF; rw [if_pos (by omega), he0]))
 have L0 := Lib.hid (show w.cell? ⟨m.l, b, none⟩ = some (.int .i64 la0) from hr.cl.cell (by unfold laF; rw [if_pos (by omega), hl0]))
 have Q0 := Lib.hid (show w.cell? ⟨m.q, x, none⟩ = some (.int .i64 (pr0 : Int)) from hr.cq.cell (by unfold prF; rw [if_pos hx, hp0]))
 rw [← he0, ← hl0, ← hp0] at HV0
 obtain ⟨gq, hgq⟩ : ∃ e, e = g.q := ⟨_, rfl⟩
 rw [← hgq] at HV0
 have C6 := Lib.hid (show ∀ W, CRow W p 41 (rjCells g j m) → W.cell? ⟨p, 6, none⟩ = some (.int .i64 gq) from fun W h => by rw [hgq]; exact h.cell_at 6 _ rfl)
 have x2 := C2.out w hc
 have x9 := C9.out w hc
 have d0 : decide ((x : Int) < 0) = false := decide_eq_false (by omega)
 have d1 : decide ((R : Int) ≤ (x : Int)) = false := decide_eq_false (by omega)
 have d2 : decide (R ≤ x) = false := decide_eq_false (by omega)
 have s0 : ((S : Int) == 0) = false := by simp; omega
 have s1 : ((S : Int) = 0) = False := eq_false (by omega)
 have s2 : (S = 0) = False := eq_false (by omega)
 have t0 : (x : Int).tdiv (S : Int) = (b : Int) := by rw [hb]; rfl
 have t1 : (x : Int).tmod (S : Int) = (q : Int) := by rw [hq]; rfl
 have w0 : IntKind.i64.wrap (b : Int) = (b : Int) := IntWalk.i64_in _ (by omega)
 have hqS : q < S := by rw [hq]; exact Nat.mod_lt _ (by omega)
 have w1 : IntKind.i64.wrap (q : Int) = (q : Int) := IntWalk.i64_in _ (by omega)
 have i0 : (0 : Int) ≤ (b : Int) := by omega
 have i1 : (b : Int) < (NB : Int) := by omega
 have i2 : (0 : Int) ≤ (x : Int) := by omega
 have i3 : (x : Int) < (R : Int) := by omega
 clear hc hr hi hn hg hqS hS hS1 hb hq hNB hR hRR hS4 hNB2 hR2 hxR hbN hsp hx he0 hl0 hp0 hgq
 go_enter Try.func16, Try.ntmps16
 go_wp2_with fail
 clear x2 x9
 cases er0 with
 | false =>
  have HV := Lib.hid (show j.can g x = false from HV0.out)
  refine wp_region_noPanic ?_
  refine wp_region_held_drew (S := fun w' => CRow w' p 41 (rjCells g j m) ∧ w'.cell? ⟨m.e, b, none⟩ = some (.bool false) ∧ w'.cell? ⟨m.l, b, none⟩ = some (.int .i64 la0) ∧ w'.cell? ⟨m.q, x, none⟩ = some (.int .i64 (pr0 : Int))) (by kernel_rfl) ⟨C0.out.drew, E0.out, L0.out, Q0.out⟩ (fun C0 => ?_)
  refine tkH 0 zB0 _ C0 rfl (by kernel_rfl) rfl (fun W h => by clear h; dsimp only [zB0]; go_simp <;> with_reducible rfl) ?_
  try simp only [zB0, Act.put, zzI, zzO, zzS]
  refine tkH 1 zB1 _ C0 rfl (by kernel_rfl) rfl (fun W h => by clear h; dsimp only [zB1]; go_simp <;> with_reducible rfl) ?_
  try simp only [zB1, Act.put, zzI, zzO, zzS]
  refine tkH 2 zB2 _ C0 rfl (by kernel_rfl) rfl (fun W h => by clear h; dsimp only [zB2]; go_simp <;> with_reducible rfl) ?_
  try simp only [zB2, Act.put, zzI, zzO, zzS]
  refine tkH 3 zB3 _ C0 rfl (by kernel_rfl) rfl (fun W' hSw => by obtain ⟨hs, y1, y2, y3⟩ := hSw; have x2 := C2.out W' hs; have x6 := C6.out W' hs; have x7 := C7.out W' hs; have x8 := C8.out W' hs; have x9 := C9.out W' hs; clear hs; dsimp only [zB3]; go_simp <;> with_reducible rfl) ?_
  try simp only [zB3, Act.put, zzI, zzO, zzS]
  refine tkH 4 zB4 _ C0 rfl (by kernel_rfl) rfl (fun W h => by clear h; dsimp only [zB4]; go_simp <;> with_reducible rfl) ?_
  try simp only [zB4, Act.put, zzI, zzO, zzS]
  refine tkH 5 zB5 _ C0 rfl (by kernel_rfl) rfl (fun W h => by clear h; dsimp only [zB5]; go_simp <;> with_reducible rfl) ?_
  try simp only [zB5, Act.put, zzI, zzO, zzS]
  refine tkH 6 zB6 _ C0 rfl (by kernel_rfl) rfl (fun W' hSw => by obtain ⟨hs, y1, y2, y3⟩ := hSw; have x2 := C2.out W' hs; have x6 := C6.out W' hs; have x7 := C7.out W' hs; have x8 := C8.out W' hs; have x9 := C9.out W' hs; clear hs; dsimp only [zB6]; go_simp <;> with_reducible rfl) ?_
  try simp only [zB6, Act.put, zzI, zzO, zzS]
  refine tkH 7 zB7 _ C0 rfl (by kernel_rfl) rfl (fun W h => by clear h; dsimp only [zB7]; go_simp <;> with_reducible rfl) ?_
  try simp only [zB7, Act.put, zzI, zzO, zzS]
  refine tkN 8 zB8 C0 rfl (by kernel_rfl) rfl ?_
  try simp only [zB8, Act.put, zzI, zzO, zzS]
  refine tkN 9 zB9 C0 rfl (by kernel_rfl) rfl ?_
  try simp only [zB9, Act.put, zzI, zzO, zzS]
  refine tkN 10 zB10 C0 rfl (by kernel_rfl) rfl ?_
  try simp only [zB10, Act.put, zzI, zzO, zzS]
  refine tkN 11 zB11 C0 rfl (by kernel_rfl) rfl ?_
  try simp only [zB11, Act.put, zzI, zzO, zzS]
  refine tkN 12 zB12 C0 rfl (by kernel_rfl) rfl ?_
  try simp only [zB12, Act.put, zzI, zzO, zzS]
  refine tkN 13 zB13 C0 rfl (by kernel_rfl) rfl ?_
  try simp only [zB13, Act.put, zzI, zzO, zzS]
  refine tkN 14 zB14 C0 rfl (by kernel_rfl) rfl ?_
  try simp only [zB14, Act.put, zzI, zzO, zzS]
  refine tkN 15 zB15 C0 rfl (by kernel_rfl) rfl ?_
  try simp only [zB15, Act.put, zzI, zzO, zzS]
  refine tkN 16 zB16 C0 rfl (by kernel_rfl) rfl ?_
  try simp only [zB16, Act.put, zzI, zzO, zzS]
  refine tkN 17 zB17 C0 rfl (by kernel_rfl) rfl ?_
  try simp only [zB17, Act.put, zzI, zzO, zzS]
  refine tkN 18 zB18 C0 rfl (by kernel_rfl) rfl ?_
  try simp only [zB18, Act.put, zzI, zzO, zzS]
  refine tkN 19 zB19 C0 rfl (by kernel_rfl) rfl ?_
  try simp only [zB19, Act.put, zzI, zzO, zzS]
  refine tkN 20 zB20 C0 rfl (by kernel_rfl) rfl ?_
  try simp only [zB20, Act.put, zzI, zzO, zzS]
  refine tkN 21 zB21 C0 rfl (by kernel_rfl) rfl ?_
  try simp only [zB21, Act.put, zzI, zzO, zzS]
  refine tkN 22 zB22 C0 rfl (by kernel_rfl) rfl ?_
  try simp only [zB22, Act.put, zzI, zzO, zzS]
  refine tkH 23 zB23 _ C0 rfl (by kernel_rfl) rfl (fun W h => by clear h; dsimp only [zB23]; go_simp <;> with_reducible rfl) ?_
  try simp only [zB23, Act.put, zzI, zzO, zzS]
  refine tkH 24 zB24 _ C0 rfl (by kernel_rfl) rfl (fun W h => by clear h; dsimp only [zB24]; go_simp <;> with_reducible rfl) ?_
  try simp only [zB24, Act.put, zzI, zzO, zzS]
  refine tkN 25 zB25 C0 rfl (by kernel_rfl) rfl ?_
  try simp only [zB25, Act.put, zzI, zzO, zzS]
  refine tkN 26 zB26 C0 rfl (by kernel_rfl) rfl ?_
  try simp only [zB26, Act.put, zzI, zzO, zzS]
  refine tkN 27 zB27 C0 rfl (by kernel_rfl) rfl ?_
  try simp only [zB27, Act.put, zzI, zzO, zzS]
  refine tkN 28 zB28 C0 rfl (by kernel_rfl) rfl ?_
  try simp only [zB28, Act.put, zzI, zzO, zzS]
  refine tkN 29 zB29 C0 rfl (by kernel_rfl) rfl ?_
  try simp only [zB29, Act.put, zzI, zzO, zzS]
  refine tkN 30 zB30 C0 rfl (by kernel_rfl) rfl ?_
  try simp only [zB30, Act.put, zzI, zzO, zzS]
  refine tkN 31 zB31 C0 rfl (by kernel_rfl) rfl ?_
  try simp only [zB31, Act.put, zzI, zzO, zzS]
  refine tkN 32 zB32 C0 rfl (by kernel_rfl) rfl ?_
  try simp only [zB32, Act.put, zzI, zzO, zzS]
  refine tkN 33 zB33 C0 rfl (by kernel_rfl) rfl ?_
  try simp only [zB33, Act.put, zzI, zzO, zzS]
  refine tkN 34 zB34 C0 rfl (by kernel_rfl) rfl ?_
  try simp only [zB34, Act.put, zzI, zzO, zzS]
  refine tkN 35 zB35 C0 rfl (by kernel_rfl) rfl ?_
  try simp only [zB35, Act.put, zzI, zzO, zzS]
  refine tkN 36 zB36 C0 rfl (by kernel_rfl) rfl ?_
  try simp only [zB36, Act.put, zzI, zzO, zzS]
  refine tkN 37 zB37 C0 rfl (by kernel_rfl) rfl ?_
  try simp only [zB37, Act.put, zzI, zzO, zzS]
  refine tkH 38 zB38 _ C0 rfl (by kernel_rfl) rfl (fun W h => by clear h; dsimp only [zB38]; go_simp <;> with_reducible rfl) ?_
  try simp only [zB38, Act.put, zzI, zzO, zzS]
  refine tkH 39 zB39 _ C0 rfl (by kernel_rfl) rfl (fun W h => by clear h; dsimp only [zB39]; go_simp <;> with_reducible rfl) ?_
  try simp only [zB39, Act.put, zzI, zzO, zzS]
  refine wpAnyH_done (by kernel_rfl) ?_ _
  refine NoPanic.normal ?_
  go_wp2
  go_ret
  rw [HV.out]
  exact ⟨rfl, (Below.refl _ _).drew⟩
 | true =>
  by_cases hl : la0 ≤ (q : Int)
  ·
   have e0 : decide (la0 ≤ (q : Int)) = true := decide_eq_true hl
   have HL := Lib.hid e0
   by_cases hp : (pr0 : Int) < gq
   ·
    have e1 : decide ((pr0 : Int) < gq) = true := decide_eq_true hp
    have HV := Lib.hid (show j.can g x = true by rw [HV0.out, HL.out, e1]; rfl)
    clear hl hp
    refine wp_region_noPanic ?_
    refine wp_region_held_drew (S := fun w' => CRow w' p 41 (rjCells g j m) ∧ w'.cell? ⟨m.e, b, none⟩ = some (.bool true) ∧ w'.cell? ⟨m.l, b, none⟩ = some (.int .i64 la0) ∧ w'.cell? ⟨m.q, x, none⟩ = some (.int .i64 (pr0 : Int))) (by kernel_rfl) ⟨C0.out.drew, E0.out, L0.out, Q0.out⟩ (fun C0 => ?_)
    refine tkH 0 zB0 _ C0 rfl (by kernel_rfl) rfl (fun W h => by clear h; dsimp only [zB0]; go_simp <;> with_reducible rfl) ?_
    try simp only [zB0, Act.put, zzI, zzO, zzS]
    refine tkH 1 zB1 _ C0 rfl (by kernel_rfl) rfl (fun W h => by clear h; dsimp only [zB1]; go_simp <;> with_reducible rfl) ?_
    try simp only [zB1, Act.put, zzI, zzO, zzS]
    refine tkH 2 zB2 _ C0 rfl (by kernel_rfl) rfl (fun W h => by clear h; dsimp only [zB2]; go_simp <;> with_reducible rfl) ?_
    try simp only [zB2, Act.put, zzI, zzO, zzS]
    refine tkH 3 zB3 _ C0 rfl (by kernel_rfl) rfl (fun W' hSw => by obtain ⟨hs, y1, y2, y3⟩ := hSw; have x2 := C2.out W' hs; have x6 := C6.out W' hs; have x7 := C7.out W' hs; have x8 := C8.out W' hs; have x9 := C9.out W' hs; clear hs; dsimp only [zB3]; go_simp <;> with_reducible rfl) ?_
    try simp only [zB3, Act.put, zzI, zzO, zzS]
    refine tkH 4 zB4 _ C0 rfl (by kernel_rfl) rfl (fun W h => by clear h; dsimp only [zB4]; go_simp <;> with_reducible rfl) ?_
    try simp only [zB4, Act.put, zzI, zzO, zzS]
    refine tkH 5 zB5 _ C0 rfl (by kernel_rfl) rfl (fun W h => by clear h; dsimp only [zB5]; go_simp <;> with_reducible rfl) ?_
    try simp only [zB5, Act.put, zzI, zzO, zzS]
    refine tkH 6 zB6 _ C0 rfl (by kernel_rfl) rfl (fun W' hSw => by obtain ⟨hs, y1, y2, y3⟩ := hSw; have x2 := C2.out W' hs; have x6 := C6.out W' hs; have x7 := C7.out W' hs; have x8 := C8.out W' hs; have x9 := C9.out W' hs; clear hs; dsimp only [zB6]; go_simp <;> with_reducible rfl) ?_
    try simp only [zB6, Act.put, zzI, zzO, zzS]
    refine tkH 7 zB7 _ C0 rfl (by kernel_rfl) rfl (fun W h => by clear h; dsimp only [zB7]; go_simp <;> with_reducible rfl) ?_
    try simp only [zB7, Act.put, zzI, zzO, zzS]
    refine tkH 8 zB8 _ C0 rfl (by kernel_rfl) rfl (fun W h => by clear h; dsimp only [zB8]; go_simp <;> with_reducible rfl) ?_
    try simp only [zB8, Act.put, zzI, zzO, zzS]
    refine tkH 9 zB9 _ C0 rfl (by kernel_rfl) rfl (fun W h => by clear h; dsimp only [zB9]; go_simp <;> with_reducible rfl) ?_
    try simp only [zB9, Act.put, zzI, zzO, zzS]
    refine tkH 10 zB10 _ C0 rfl (by kernel_rfl) rfl (fun W h => by clear h; dsimp only [zB10]; go_simp <;> with_reducible rfl) ?_
    try simp only [zB10, Act.put, zzI, zzO, zzS]
    refine tkH 11 zB11 _ C0 rfl (by kernel_rfl) rfl (fun W h => by clear h; dsimp only [zB11]; go_simp <;> with_reducible rfl) ?_
    try simp only [zB11, Act.put, zzI, zzO, zzS]
    refine tkH 12 zB12 _ C0 rfl (by kernel_rfl) rfl (fun W h => by clear h; dsimp only [zB12]; go_simp <;> with_reducible rfl) ?_
    try simp only [zB12, Act.put, zzI, zzO, zzS]
    refine tkH 13 zB13 _ C0 rfl (by kernel_rfl) rfl (fun W' hSw => by obtain ⟨hs, y1, y2, y3⟩ := hSw; have x2 := C2.out W' hs; have x6 := C6.out W' hs; have x7 := C7.out W' hs; have x8 := C8.out W' hs; have x9 := C9.out W' hs; clear hs; dsimp only [zB13]; go_simp <;> with_reducible rfl) ?_
    try simp only [zB13, Act.put, zzI, zzO, zzS]
    refine tkH 14 zB14 _ C0 rfl (by kernel_rfl) rfl (fun W h => by clear h; dsimp only [zB14]; go_simp <;> with_reducible rfl) ?_
    try simp only [zB14, Act.put, zzI, zzO, zzS]
    refine tkH 15 zB15 _ C0 rfl (by kernel_rfl) rfl (fun W h => by clear h; dsimp only [zB15]; go_simp <;> with_reducible rfl) ?_
    try simp only [zB15, Act.put, zzI, zzO, zzS]
    refine tkH 16 zB16 _ C0 rfl (by kernel_rfl) rfl (fun W h => by clear h; dsimp only [zB16]; go_simp <;> with_reducible rfl) ?_
    try simp only [zB16, Act.put, zzI, zzO, zzS]
    refine tkH 17 zB17 _ C0 rfl (by kernel_rfl) rfl (fun W h => by clear h; dsimp only [zB17]; go_simp <;> with_reducible rfl) ?_
    try simp only [zB17, Act.put, zzI, zzO, zzS]
    refine tkH 18 zB18 _ C0 rfl (by kernel_rfl) rfl (fun W' hSw => by obtain ⟨hs, y1, y2, y3⟩ := hSw; have x2 := C2.out W' hs; have x6 := C6.out W' hs; have x7 := C7.out W' hs; have x8 := C8.out W' hs; have x9 := C9.out W' hs; clear hs; dsimp only [zB18]; go_simp <;> with_reducible rfl) ?_
    try simp only [zB18, Act.put, zzI, zzO, zzS]
    refine tkH 19 zB19 _ C0 rfl (by kernel_rfl) rfl (fun W h => by clear h; dsimp only [zB19]; go_simp <;> with_reducible rfl) ?_
    try simp only [zB19, Act.put, zzI, zzO, zzS]
    refine tkH 20 zB20 _ C0 rfl (by kernel_rfl) rfl (fun W h => by clear h; dsimp only [zB20]; go_simp <;> with_reducible rfl) ?_
    try simp only [zB20, Act.put, zzI, zzO, zzS]
    refine tkH 21 zB21 _ C0 rfl (by kernel_rfl) rfl (fun W' hSw => by obtain ⟨hs, y1, y2, y3⟩ := hSw; have x2 := C2.out W' hs; have x6 := C6.out W' hs; have x7 := C7.out W' hs; have x8 := C8.out W' hs; have x9 := C9.out W' hs; clear hs; dsimp only [zB21]; go_simp <;> with_reducible rfl) ?_
    try simp only [zB21, Act.put, zzI, zzO, zzS]
    refine tkH 22 zB22 _ C0 rfl (by kernel_rfl) rfl (fun W h => by clear h; dsimp only [zB22]; go_simp <;> with_reducible rfl) ?_
    try simp only [zB22, Act.put, zzI, zzO, zzS]
    refine tkH 23 zB23 _ C0 rfl (by kernel_rfl) rfl (fun W h => by clear h; dsimp only [zB23]; go_simp <;> with_reducible rfl) ?_
    try simp only [zB23, Act.put, zzI, zzO, zzS]
    refine tkH 24 zB24 _ C0 rfl (by kernel_rfl) rfl (fun W h => by clear h; dsimp only [zB24]; go_simp <;> with_reducible rfl) ?_
    try simp only [zB24, Act.put, zzI, zzO, zzS]
    refine tkH 25 zB25 _ C0 rfl (by kernel_rfl) rfl (fun W h => by clear h; dsimp only [zB25]; go_simp <;> with_reducible rfl) ?_
    try simp only [zB25, Act.put, zzI, zzO, zzS]
    refine tkH 26 zB26 _ C0 rfl (by kernel_rfl) rfl (fun W h => by clear h; dsimp only [zB26]; go_simp <;> with_reducible rfl) ?_
    try simp only [zB26, Act.put, zzI, zzO, zzS]
    refine tkH 27 zB27 _ C0 rfl (by kernel_rfl) rfl (fun W h => by clear h; dsimp only [zB27]; go_simp <;> with_reducible rfl) ?_
    try simp only [zB27, Act.put, zzI, zzO, zzS]
    refine tkH 28 zB28 _ C0 rfl (by kernel_rfl) rfl (fun W' hSw => by obtain ⟨hs, y1, y2, y3⟩ := hSw; have x2 := C2.out W' hs; have x6 := C6.out W' hs; have x7 := C7.out W' hs; have x8 := C8.out W' hs; have x9 := C9.out W' hs; clear hs; dsimp only [zB28]; go_simp <;> with_reducible rfl) ?_
    try simp only [zB28, Act.put, zzI, zzO, zzS]
    refine tkH 29 zB29 _ C0 rfl (by kernel_rfl) rfl (fun W h => by clear h; dsimp only [zB29]; go_simp <;> with_reducible rfl) ?_
    try simp only [zB29, Act.put, zzI, zzO, zzS]
    refine tkH 30 zB30 _ C0 rfl (by kernel_rfl) rfl (fun W h => by clear h; dsimp only [zB30]; go_simp <;> with_reducible rfl) ?_
    try simp only [zB30, Act.put, zzI, zzO, zzS]
    refine tkH 31 zB31 _ C0 rfl (by kernel_rfl) rfl (fun W' hSw => by obtain ⟨hs, y1, y2, y3⟩ := hSw; have x2 := C2.out W' hs; have x6 := C6.out W' hs; have x7 := C7.out W' hs; have x8 := C8.out W' hs; have x9 := C9.out W' hs; clear hs; dsimp only [zB31]; go_simp <;> with_reducible rfl) ?_
    try simp only [zB31, Act.put, zzI, zzO, zzS]
    refine tkH 32 zB32 _ C0 rfl (by kernel_rfl) rfl (fun W h => by clear h; dsimp only [zB32]; go_simp <;> with_reducible rfl) ?_
    try simp only [zB32, Act.put, zzI, zzO, zzS]
    refine tkH 33 zB33 _ C0 rfl (by kernel_rfl) rfl (fun W h => by clear h; dsimp only [zB33]; go_simp <;> with_reducible rfl) ?_
    try simp only [zB33, Act.put, zzI, zzO, zzS]
    refine tkH 34 zB34 _ C0 rfl (by kernel_rfl) rfl (fun W h => by clear h; dsimp only [zB34]; go_simp <;> with_reducible rfl) ?_
    try simp only [zB34, Act.put, zzI, zzO, zzS]
    refine tkH 35 zB35 _ C0 rfl (by kernel_rfl) rfl (fun W h => by clear h; dsimp only [zB35]; go_simp <;> with_reducible rfl) ?_
    try simp only [zB35, Act.put, zzI, zzO, zzS]
    refine tkH 36 zB36 _ C0 rfl (by kernel_rfl) rfl (fun W' hSw => by obtain ⟨hs, y1, y2, y3⟩ := hSw; have x2 := C2.out W' hs; have x6 := C6.out W' hs; have x7 := C7.out W' hs; have x8 := C8.out W' hs; have x9 := C9.out W' hs; clear hs; dsimp only [zB36]; go_simp <;> with_reducible rfl) ?_
    try simp only [zB36, Act.put, zzI, zzO, zzS]
    refine tkH 37 zB37 _ C0 rfl (by kernel_rfl) rfl (fun W h => by clear h; dsimp only [zB37]; go_simp <;> with_reducible rfl) ?_
    try simp only [zB37, Act.put, zzI, zzO, zzS]
    refine tkH 38 zB38 _ C0 rfl (by kernel_rfl) rfl (fun W h => by clear h; dsimp only [zB38]; go_simp <;> with_reducible rfl) ?_
    try simp only [zB38, Act.put, zzI, zzO, zzS]
    refine tkH 39 zB39 _ C0 rfl (by kernel_rfl) rfl (fun W h => by clear h; dsimp only [zB39]; go_simp <;> with_reducible rfl) ?_
    try simp only [zB39, Act.put, zzI, zzO, zzS]
    refine wpAnyH_done (by kernel_rfl) ?_ _
    refine NoPanic.normal ?_
    go_wp2
    go_ret
    rw [HV.out]
    exact ⟨rfl, (Below.refl _ _).drew⟩
   ·
    have e1 : decide ((pr0 : Int) < gq) = false := decide_eq_false hp
    have HV := Lib.hid (show j.can g x = false by rw [HV0.out, HL.out, e1]; rfl)
    clear hl hp
    refine wp_region_noPanic ?_
    refine wp_region_held_drew (S := fun w' => CRow w' p 41 (rjCells g j m) ∧ w'.cell? ⟨m.e, b, none⟩ = some (.bool true) ∧ w'.cell? ⟨m.l, b, none⟩ = some (.int .i64 la0) ∧ w'.cell? ⟨m.q, x, none⟩ = some (.int .i64 (pr0 : Int))) (by kernel_rfl) ⟨C0.out.drew, E0.out, L0.out, Q0.out⟩ (fun C0 => ?_)
    refine tkH 0 zB0 _ C0 rfl (by kernel_rfl) rfl (fun W h => by clear h; dsimp only [zB0]; go_simp <;> with_reducible rfl) ?_
    try simp only [zB0, Act.put, zzI, zzO, zzS]
    refine tkH 1 zB1 _ C0 rfl (by kernel_rfl) rfl (fun W h => by clear h; dsimp only [zB1]; go_simp <;> with_reducible rfl) ?_
    try simp only [zB1, Act.put, zzI, zzO, zzS]
    refine tkH 2 zB2 _ C0 rfl (by kernel_rfl) rfl (fun W h => by clear h; dsimp only [zB2]; go_simp <;> with_reducible rfl) ?_
    try simp only [zB2, Act.put, zzI, zzO, zzS]
    refine tkH 3 zB3 _ C0 rfl (by kernel_rfl) rfl (fun W' hSw => by obtain ⟨hs, y1, y2, y3⟩ := hSw; have x2 := C2.out W' hs; have x6 := C6.out W' hs; have x7 := C7.out W' hs; have x8 := C8.out W' hs; have x9 := C9.out W' hs; clear hs; dsimp only [zB3]; go_simp <;> with_reducible rfl) ?_
    try simp only [zB3, Act.put, zzI, zzO, zzS]
    refine tkH 4 zB4 _ C0 rfl (by kernel_rfl) rfl (fun W h => by clear h; dsimp only [zB4]; go_simp <;> with_reducible rfl) ?_
    try simp only [zB4, Act.put, zzI, zzO, zzS]
    refine tkH 5 zB5 _ C0 rfl (by kernel_rfl) rfl (fun W h => by clear h; dsimp only [zB5]; go_simp <;> with_reducible rfl) ?_
    try simp only [zB5, Act.put, zzI, zzO, zzS]
    refine tkH 6 zB6 _ C0 rfl (by kernel_rfl) rfl (fun W' hSw => by obtain ⟨hs, y1, y2, y3⟩ := hSw; have x2 := C2.out W' hs; have x6 := C6.out W' hs; have x7 := C7.out W' hs; have x8 := C8.out W' hs; have x9 := C9.out W' hs; clear hs; dsimp only [zB6]; go_simp <;> with_reducible rfl) ?_
    try simp only [zB6, Act.put, zzI, zzO, zzS]
    refine tkH 7 zB7 _ C0 rfl (by kernel_rfl) rfl (fun W h => by clear h; dsimp only [zB7]; go_simp <;> with_reducible rfl) ?_
    try simp only [zB7, Act.put, zzI, zzO, zzS]
    refine tkH 8 zB8 _ C0 rfl (by kernel_rfl) rfl (fun W h => by clear h; dsimp only [zB8]; go_simp <;> with_reducible rfl) ?_
    try simp only [zB8, Act.put, zzI, zzO, zzS]
    refine tkH 9 zB9 _ C0 rfl (by kernel_rfl) rfl (fun W h => by clear h; dsimp only [zB9]; go_simp <;> with_reducible rfl) ?_
    try simp only [zB9, Act.put, zzI, zzO, zzS]
    refine tkH 10 zB10 _ C0 rfl (by kernel_rfl) rfl (fun W h => by clear h; dsimp only [zB10]; go_simp <;> with_reducible rfl) ?_
    try simp only [zB10, Act.put, zzI, zzO, zzS]
    refine tkH 11 zB11 _ C0 rfl (by kernel_rfl) rfl (fun W h => by clear h; dsimp only [zB11]; go_simp <;> with_reducible rfl) ?_
    try simp only [zB11, Act.put, zzI, zzO, zzS]
    refine tkH 12 zB12 _ C0 rfl (by kernel_rfl) rfl (fun W h => by clear h; dsimp only [zB12]; go_simp <;> with_reducible rfl) ?_
    try simp only [zB12, Act.put, zzI, zzO, zzS]
    refine tkH 13 zB13 _ C0 rfl (by kernel_rfl) rfl (fun W' hSw => by obtain ⟨hs, y1, y2, y3⟩ := hSw; have x2 := C2.out W' hs; have x6 := C6.out W' hs; have x7 := C7.out W' hs; have x8 := C8.out W' hs; have x9 := C9.out W' hs; clear hs; dsimp only [zB13]; go_simp <;> with_reducible rfl) ?_
    try simp only [zB13, Act.put, zzI, zzO, zzS]
    refine tkH 14 zB14 _ C0 rfl (by kernel_rfl) rfl (fun W h => by clear h; dsimp only [zB14]; go_simp <;> with_reducible rfl) ?_
    try simp only [zB14, Act.put, zzI, zzO, zzS]
    refine tkH 15 zB15 _ C0 rfl (by kernel_rfl) rfl (fun W h => by clear h; dsimp only [zB15]; go_simp <;> with_reducible rfl) ?_
    try simp only [zB15, Act.put, zzI, zzO, zzS]
    refine tkH 16 zB16 _ C0 rfl (by kernel_rfl) rfl (fun W h => by clear h; dsimp only [zB16]; go_simp <;> with_reducible rfl) ?_
    try simp only [zB16, Act.put, zzI, zzO, zzS]
    refine tkH 17 zB17 _ C0 rfl (by kernel_rfl) rfl (fun W h => by clear h; dsimp only [zB17]; go_simp <;> with_reducible rfl) ?_
    try simp only [zB17, Act.put, zzI, zzO, zzS]
    refine tkH 18 zB18 _ C0 rfl (by kernel_rfl) rfl (fun W' hSw => by obtain ⟨hs, y1, y2, y3⟩ := hSw; have x2 := C2.out W' hs; have x6 := C6.out W' hs; have x7 := C7.out W' hs; have x8 := C8.out W' hs; have x9 := C9.out W' hs; clear hs; dsimp only [zB18]; go_simp <;> with_reducible rfl) ?_
    try simp only [zB18, Act.put, zzI, zzO, zzS]
    refine tkH 19 zB19 _ C0 rfl (by kernel_rfl) rfl (fun W h => by clear h; dsimp only [zB19]; go_simp <;> with_reducible rfl) ?_
    try simp only [zB19, Act.put, zzI, zzO, zzS]
    refine tkH 20 zB20 _ C0 rfl (by kernel_rfl) rfl (fun W h => by clear h; dsimp only [zB20]; go_simp <;> with_reducible rfl) ?_
    try simp only [zB20, Act.put, zzI, zzO, zzS]
    refine tkH 21 zB21 _ C0 rfl (by kernel_rfl) rfl (fun W' hSw => by obtain ⟨hs, y1, y2, y3⟩ := hSw; have x2 := C2.out W' hs; have x6 := C6.out W' hs; have x7 := C7.out W' hs; have x8 := C8.out W' hs; have x9 := C9.out W' hs; clear hs; dsimp only [zB21]; go_simp <;> with_reducible rfl) ?_
    try simp only [zB21, Act.put, zzI, zzO, zzS]
    refine tkH 22 zB22 _ C0 rfl (by kernel_rfl) rfl (fun W h => by clear h; dsimp only [zB22]; go_simp <;> with_reducible rfl) ?_
    try simp only [zB22, Act.put, zzI, zzO, zzS]
    refine tkH 23 zB23 _ C0 rfl (by kernel_rfl) rfl (fun W h => by clear h; dsimp only [zB23]; go_simp <;> with_reducible rfl) ?_
    try simp only [zB23, Act.put, zzI, zzO, zzS]
    refine tkH 24 zB24 _ C0 rfl (by kernel_rfl) rfl (fun W h => by clear h; dsimp only [zB24]; go_simp <;> with_reducible rfl) ?_
    try simp only [zB24, Act.put, zzI, zzO, zzS]
    refine tkH 25 zB25 _ C0 rfl (by kernel_rfl) rfl (fun W h => by clear h; dsimp only [zB25]; go_simp <;> with_reducible rfl) ?_
    try simp only [zB25, Act.put, zzI, zzO, zzS]
    refine tkH 26 zB26 _ C0 rfl (by kernel_rfl) rfl (fun W h => by clear h; dsimp only [zB26]; go_simp <;> with_reducible rfl) ?_
    try simp only [zB26, Act.put, zzI, zzO, zzS]
    refine tkH 27 zB27 _ C0 rfl (by kernel_rfl) rfl (fun W h => by clear h; dsimp only [zB27]; go_simp <;> with_reducible rfl) ?_
    try simp only [zB27, Act.put, zzI, zzO, zzS]
    refine tkH 28 zB28 _ C0 rfl (by kernel_rfl) rfl (fun W' hSw => by obtain ⟨hs, y1, y2, y3⟩ := hSw; have x2 := C2.out W' hs; have x6 := C6.out W' hs; have x7 := C7.out W' hs; have x8 := C8.out W' hs; have x9 := C9.out W' hs; clear hs; dsimp only [zB28]; go_simp <;> with_reducible rfl) ?_
    try simp only [zB28, Act.put, zzI, zzO, zzS]
    refine tkH 29 zB29 _ C0 rfl (by kernel_rfl) rfl (fun W h => by clear h; dsimp only [zB29]; go_simp <;> with_reducible rfl) ?_
    try simp only [zB29, Act.put, zzI, zzO, zzS]
    refine tkH 30 zB30 _ C0 rfl (by kernel_rfl) rfl (fun W h => by clear h; dsimp only [zB30]; go_simp <;> with_reducible rfl) ?_
    try simp only [zB30, Act.put, zzI, zzO, zzS]
    refine tkH 31 zB31 _ C0 rfl (by kernel_rfl) rfl (fun W' hSw => by obtain ⟨hs, y1, y2, y3⟩ := hSw; have x2 := C2.out W' hs; have x6 := C6.out W' hs; have x7 := C7.out W' hs; have x8 := C8.out W' hs; have x9 := C9.out W' hs; clear hs; dsimp only [zB31]; go_simp <;> with_reducible rfl) ?_
    try simp only [zB31, Act.put, zzI, zzO, zzS]
    refine tkH 32 zB32 _ C0 rfl (by kernel_rfl) rfl (fun W h => by clear h; dsimp only [zB32]; go_simp <;> with_reducible rfl) ?_
    try simp only [zB32, Act.put, zzI, zzO, zzS]
    refine tkH 33 zB33 _ C0 rfl (by kernel_rfl) rfl (fun W h => by clear h; dsimp only [zB33]; go_simp <;> with_reducible rfl) ?_
    try simp only [zB33, Act.put, zzI, zzO, zzS]
    refine tkH 34 zB34 _ C0 rfl (by kernel_rfl) rfl (fun W h => by clear h; dsimp only [zB34]; go_simp <;> with_reducible rfl) ?_
    try simp only [zB34, Act.put, zzI, zzO, zzS]
    refine tkH 35 zB35 _ C0 rfl (by kernel_rfl) rfl (fun W h => by clear h; dsimp only [zB35]; go_simp <;> with_reducible rfl) ?_
    try simp only [zB35, Act.put, zzI, zzO, zzS]
    refine tkH 36 zB36 _ C0 rfl (by kernel_rfl) rfl (fun W' hSw => by obtain ⟨hs, y1, y2, y3⟩ := hSw; have x2 := C2.out W' hs; have x6 := C6.out W' hs; have x7 := C7.out W' hs; have x8 := C8.out W' hs; have x9 := C9.out W' hs; clear hs; dsimp only [zB36]; go_simp <;> with_reducible rfl) ?_
    try simp only [zB36, Act.put, zzI, zzO, zzS]
    refine tkH 37 zB37 _ C0 rfl (by kernel_rfl) rfl (fun W h => by clear h; dsimp only [zB37]; go_simp <;> with_reducible rfl) ?_
    try simp only [zB37, Act.put, zzI, zzO, zzS]
    refine tkH 38 zB38 _ C0 rfl (by kernel_rfl) rfl (fun W h => by clear h; dsimp only [zB38]; go_simp <;> with_reducible rfl) ?_
    try simp only [zB38, Act.put, zzI, zzO, zzS]
    refine tkH 39 zB39 _ C0 rfl (by kernel_rfl) rfl (fun W h => by clear h; dsimp only [zB39]; go_simp <;> with_reducible rfl) ?_
    try simp only [zB39, Act.put, zzI, zzO, zzS]
    refine wpAnyH_done (by kernel_rfl) ?_ _
    refine NoPanic.normal ?_
    go_wp2
    go_ret
    rw [HV.out]
    exact ⟨rfl, (Below.refl _ _).drew⟩
  ·
   have e0 : decide (la0 ≤ (q : Int)) = false := decide_eq_false hl
   have HV := Lib.hid (show j.can g x = false by rw [HV0.out, e0]; rfl)
   clear hl
   refine wp_region_noPanic ?_
   refine wp_region_held_drew (S := fun w' => CRow w' p 41 (rjCells g j m) ∧ w'.cell? ⟨m.e, b, none⟩ = some (.bool true) ∧ w'.cell? ⟨m.l, b, none⟩ = some (.int .i64 la0) ∧ w'.cell? ⟨m.q, x, none⟩ = some (.int .i64 (pr0 : Int))) (by kernel_rfl) ⟨C0.out.drew, E0.out, L0.out, Q0.out⟩ (fun C0 => ?_)
   refine tkH 0 zB0 _ C0 rfl (by kernel_rfl) rfl (fun W h => by clear h; dsimp only [zB0]; go_simp <;> with_reducible rfl) ?_
   try simp only [zB0, Act.put, zzI, zzO, zzS]
   refine tkH 1 zB1 _ C0 rfl (by kernel_rfl) rfl (fun W h => by clear h; dsimp only [zB1]; go_simp <;> with_reducible rfl) ?_
   try simp only [zB1, Act.put, zzI, zzO, zzS]
   refine tkH 2 zB2 _ C0 rfl (by kernel_rfl) rfl (fun W h => by clear h; dsimp only [zB2]; go_simp <;> with_reducible rfl) ?_
   try simp only [zB2, Act.put, zzI, zzO, zzS]
   refine tkH 3 zB3 _ C0 rfl (by kernel_rfl) rfl (fun W' hSw => by obtain ⟨hs, y1, y2, y3⟩ := hSw; have x2 := C2.out W' hs; have x6 := C6.out W' hs; have x7 := C7.out W' hs; have x8 := C8.out W' hs; have x9 := C9.out W' hs; clear hs; dsimp only [zB3]; go_simp <;> with_reducible rfl) ?_
   try simp only [zB3, Act.put, zzI, zzO, zzS]
   refine tkH 4 zB4 _ C0 rfl (by kernel_rfl) rfl (fun W h => by clear h; dsimp only [zB4]; go_simp <;> with_reducible rfl) ?_
   try simp only [zB4, Act.put, zzI, zzO, zzS]
   refine tkH 5 zB5 _ C0 rfl (by kernel_rfl) rfl (fun W h => by clear h; dsimp only [zB5]; go_simp <;> with_reducible rfl) ?_
   try simp only [zB5, Act.put, zzI, zzO, zzS]
   refine tkH 6 zB6 _ C0 rfl (by kernel_rfl) rfl (fun W' hSw => by obtain ⟨hs, y1, y2, y3⟩ := hSw; have x2 := C2.out W' hs; have x6 := C6.out W' hs; have x7 := C7.out W' hs; have x8 := C8.out W' hs; have x9 := C9.out W' hs; clear hs; dsimp only [zB6]; go_simp <;> with_reducible rfl) ?_
   try simp only [zB6, Act.put, zzI, zzO, zzS]
   refine tkH 7 zB7 _ C0 rfl (by kernel_rfl) rfl (fun W h => by clear h; dsimp only [zB7]; go_simp <;> with_reducible rfl) ?_
   try simp only [zB7, Act.put, zzI, zzO, zzS]
   refine tkH 8 zB8 _ C0 rfl (by kernel_rfl) rfl (fun W h => by clear h; dsimp only [zB8]; go_simp <;> with_reducible rfl) ?_
   try simp only [zB8, Act.put, zzI, zzO, zzS]
   refine tkH 9 zB9 _ C0 rfl (by kernel_rfl) rfl (fun W h => by clear h; dsimp only [zB9]; go_simp <;> with_reducible rfl) ?_
   try simp only [zB9, Act.put, zzI, zzO, zzS]
   refine tkH 10 zB10 _ C0 rfl (by kernel_rfl) rfl (fun W h => by clear h; dsimp only [zB10]; go_simp <;> with_reducible rfl) ?_
   try simp only [zB10, Act.put, zzI, zzO, zzS]
   refine tkH 11 zB11 _ C0 rfl (by kernel_rfl) rfl (fun W h => by clear h; dsimp only [zB11]; go_simp <;> with_reducible rfl) ?_
   try simp only [zB11, Act.put, zzI, zzO, zzS]
   refine tkH 12 zB12 _ C0 rfl (by kernel_rfl) rfl (fun W h => by clear h; dsimp only [zB12]; go_simp <;> with_reducible rfl) ?_
   try simp only [zB12, Act.put, zzI, zzO, zzS]
   refine tkH 13 zB13 _ C0 rfl (by kernel_rfl) rfl (fun W' hSw => by obtain ⟨hs, y1, y2, y3⟩ := hSw; have x2 := C2.out W' hs; have x6 := C6.out W' hs; have x7 := C7.out W' hs; have x8 := C8.out W' hs; have x9 := C9.out W' hs; clear hs; dsimp only [zB13]; go_simp <;> with_reducible rfl) ?_
   try simp only [zB13, Act.put, zzI, zzO, zzS]
   refine tkH 14 zB14 _ C0 rfl (by kernel_rfl) rfl (fun W h => by clear h; dsimp only [zB14]; go_simp <;> with_reducible rfl) ?_
   try simp only [zB14, Act.put, zzI, zzO, zzS]
   refine tkH 15 zB15 _ C0 rfl (by kernel_rfl) rfl (fun W h => by clear h; dsimp only [zB15]; go_simp <;> with_reducible rfl) ?_
   try simp only [zB15, Act.put, zzI, zzO, zzS]
   refine tkH 16 zB16 _ C0 rfl (by kernel_rfl) rfl (fun W h => by clear h; dsimp only [zB16]; go_simp <;> with_reducible rfl) ?_
   try simp only [zB16, Act.put, zzI, zzO, zzS]
   refine tkH 17 zB17 _ C0 rfl (by kernel_rfl) rfl (fun W h => by clear h; dsimp only [zB17]; go_simp <;> with_reducible rfl) ?_
   try simp only [zB17, Act.put, zzI, zzO, zzS]
   refine tkH 18 zB18 _ C0 rfl (by kernel_rfl) rfl (fun W' hSw => by obtain ⟨hs, y1, y2, y3⟩ := hSw; have x2 := C2.out W' hs; have x6 := C6.out W' hs; have x7 := C7.out W' hs; have x8 := C8.out W' hs; have x9 := C9.out W' hs; clear hs; dsimp only [zB18]; go_simp <;> with_reducible rfl) ?_
   try simp only [zB18, Act.put, zzI, zzO, zzS]
   refine tkH 19 zB19 _ C0 rfl (by kernel_rfl) rfl (fun W h => by clear h; dsimp only [zB19]; go_simp <;> with_reducible rfl) ?_
   try simp only [zB19, Act.put, zzI, zzO, zzS]
   refine tkH 20 zB20 _ C0 rfl (by kernel_rfl) rfl (fun W h => by clear h; dsimp only [zB20]; go_simp <;> with_reducible rfl) ?_
   try simp only [zB20, Act.put, zzI, zzO, zzS]
   refine tkH 21 zB21 _ C0 rfl (by kernel_rfl) rfl (fun W' hSw => by obtain ⟨hs, y1, y2, y3⟩ := hSw; have x2 := C2.out W' hs; have x6 := C6.out W' hs; have x7 := C7.out W' hs; have x8 := C8.out W' hs; have x9 := C9.out W' hs; clear hs; dsimp only [zB21]; go_simp <;> with_reducible rfl) ?_
   try simp only [zB21, Act.put, zzI, zzO, zzS]
   refine tkH 22 zB22 _ C0 rfl (by kernel_rfl) rfl (fun W h => by clear h; dsimp only [zB22]; go_simp <;> with_reducible rfl) ?_
   try simp only [zB22, Act.put, zzI, zzO, zzS]
   refine tkH 23 zB23 _ C0 rfl (by kernel_rfl) rfl (fun W h => by clear h; dsimp only [zB23]; go_simp <;> with_reducible rfl) ?_
   try simp only [zB23, Act.put, zzI, zzO, zzS]
   refine tkH 24 zB24 _ C0 rfl (by kernel_rfl) rfl (fun W h => by clear h; dsimp only [zB24]; go_simp <;> with_reducible rfl) ?_
   try simp only [zB24, Act.put, zzI, zzO, zzS]
   refine tkN 25 zB25 C0 rfl (by kernel_rfl) rfl ?_
   try simp only [zB25, Act.put, zzI, zzO, zzS]
   refine tkN 26 zB26 C0 rfl (by kernel_rfl) rfl ?_
   try simp only [zB26, Act.put, zzI, zzO, zzS]
   refine tkN 27 zB27 C0 rfl (by kernel_rfl) rfl ?_
   try simp only [zB27, Act.put, zzI, zzO, zzS]
   refine tkN 28 zB28 C0 rfl (by kernel_rfl) rfl ?_
   try simp only [zB28, Act.put, zzI, zzO, zzS]
   refine tkN 29 zB29 C0 rfl (by kernel_rfl) rfl ?_
   try simp only [zB29, Act.put, zzI, zzO, zzS]
   refine tkN 30 zB30 C0 rfl (by kernel_rfl) rfl ?_
   try simp only [zB30, Act.put, zzI, zzO, zzS]
   refine tkN 31 zB31 C0 rfl (by kernel_rfl) rfl ?_
   try simp only [zB31, Act.put, zzI, zzO, zzS]
   refine tkN 32 zB32 C0 rfl (by kernel_rfl) rfl ?_
   try simp only [zB32, Act.put, zzI, zzO, zzS]
   refine tkN 33 zB33 C0 rfl (by kernel_rfl) rfl ?_
   try simp only [zB33, Act.put, zzI, zzO, zzS]
   refine tkN 34 zB34 C0 rfl (by kernel_rfl) rfl ?_
   try simp only [zB34, Act.put, zzI, zzO, zzS]
   refine tkN 35 zB35 C0 rfl (by kernel_rfl) rfl ?_
   try simp only [zB35, Act.put, zzI, zzO, zzS]
   refine tkN 36 zB36 C0 rfl (by kernel_rfl) rfl ?_
   try simp only [zB36, Act.put, zzI, zzO, zzS]
   refine tkN 37 zB37 C0 rfl (by kernel_rfl) rfl ?_
   try simp only [zB37, Act.put, zzI, zzO, zzS]
   refine tkH 38 zB38 _ C0 rfl (by kernel_rfl) rfl (fun W h => by clear h; dsimp only [zB38]; go_simp <;> with_reducible rfl) ?_
   try simp only [zB38, Act.put, zzI, zzO, zzS]
   refine tkH 39 zB39 _ C0 rfl (by kernel_rfl) rfl (fun W h => by clear h; dsimp only [zB39]; go_simp <;> with_reducible rfl) ?_
   try simp only [zB39, Act.put, zzI, zzO, zzS]
   refine wpAnyH_done (by kernel_rfl) ?_ _
   refine NoPanic.normal ?_
   go_wp2
   go_ret
   rw [HV.out]
   exact ⟨rfl, (Below.refl _ _).drew⟩
theorem rcan (x : Nat) (h : RJ I w p g j) : Calls Try.prog 16 #[.pointer (some ⟨p, 0, none⟩), .int .i64 (x : Int)] w (Gives (.bool (j.can g x)) w) := by
 by_cases hx : x < g.rows_
 ·
  exact rcan_in x hx h
 ·
  exact rcan_out x (by omega) h
end
end Go.Proofs.Ytaidgjidpghgnaa

/-
  The document's judge: poll, begin.
-/
namespace Go.Proofs.Ytaidgjidpghgnaa
open Go.RowKit
set_option maxRecDepth 100000

section
variable {ρ : Nat → Nat} {I K : Nat → Prop} {w w' : World} {p : Nat} {g : Gm} {j j' : Jd} {m m' : RjM}
/-- A status. -/
def Jd.rpoll (j : Jd) (b : Nat) : Jd := if b / 64 % 2 = 0 then j else { (if j.busy = true ∧ b % 2 = 1 then j.lost else j) with busy := false, erases := [], bg := if b / 32 % 2 = 1 then false else j.bg }
set_option maxHeartbeats 2000000 in
theorem rpoll (b : Nat) (hb8 : b < 256) (hE : ∀ b ∈ j.erases, b < g.b.toNat) (hn : j.erases.length ≤ 1000000) (h : RJ I w p g j) : Calls Try.prog 31 #[.pointer (some ⟨p, 0, none⟩), .int .u8 (b : Int)] w (ActsR I p g (.tuple #[]) (j.rpoll b) w) := by
 have HL := Lib.hid (rlost hE hn h)
 have H0 := Lib.hid h
 obtain ⟨u, hu⟩ : ∃ u, u = b / 64 := ⟨_, rfl⟩
 obtain ⟨a, ha⟩ : ∃ a, a = u % 2 := ⟨_, rfl⟩
 obtain ⟨c, hc2⟩ : ∃ c, c = b % 2 := ⟨_, rfl⟩
 obtain ⟨v, hv⟩ : ∃ v, v = b / 32 := ⟨_, rfl⟩
 obtain ⟨d, hd⟩ : ∃ d, d = v % 2 := ⟨_, rfl⟩
 have t1 : (b : Int).tdiv 64 = (u : Int) := by rw [hu]; rfl
 have t2 : (u : Int).tmod 2 = (a : Int) := by rw [ha]; rfl
 have t3 : (b : Int).tmod 2 = (c : Int) := by rw [hc2]; rfl
 have t4 : (b : Int).tdiv 32 = (v : Int) := by rw [hv]; rfl
 have t5 : (v : Int).tmod 2 = (d : Int) := by rw [hd]; rfl
 have w1 : IntKind.i64.wrap (u : Int) = (u : Int) := IntWalk.i64_in _ (by omega)
 have w2 : IntKind.i64.wrap (v : Int) = (v : Int) := IntWalk.i64_in _ (by omega)
 have wb : IntKind.i64.wrap (b : Int) = (b : Int) := IntWalk.i64_in _ (by omega)
 have HP := Lib.hid (show j.rpoll b = if a = 0 then j else { (if j.busy = true ∧ c = 1 then j.lost else j) with busy := false, erases := [], bg := if d = 1 then false else j.bg } by unfold Jd.rpoll; rw [ha, hu, hc2, hd, hv])
 have ha2 : a = 0 ∨ a = 1 := by omega
 have hc3 : c = 0 ∨ c = 1 := by omega
 have hd2 : d = 0 ∨ d = 1 := by omega
 have BE := Lib.hid hb8
 clear h hE hn hu ha hc2 hv hd hb8
 rcases ha2 with rfl | rfl
 ·
  have wa : IntKind.i64.wrap (((0 : Nat)) : Int) = 0 := by decide
  clear hc3 hd2 t3 t4 t5
  rw [HP.out, if_pos rfl]
  go_enter Try.func31, Try.ntmps31
  go_wp2
  go_end0
  exact ⟨rfl, H0.out, Btw.refl w⟩
 ·
  have HP := Lib.hid (show j.rpoll b = { (if j.busy = true ∧ c = 1 then j.lost else j) with busy := false, erases := [], bg := if d = 1 then false else j.bg } by rw [HP.out, if_neg (by decide)])
  have H0 := H0.out
  obtain ⟨bu, hbu⟩ : ∃ bu, bu = j.busy := ⟨_, rfl⟩
  rw [← hbu] at HP
  have hx14 : ∃ m, CRow w p 41 (rjCells g j m) := by
   obtain ⟨ρ, m, hc, _⟩ := H0
   exact ⟨m, hc⟩
  obtain ⟨m0, hx14⟩ := hx14
  have x14 : w.cell? ⟨p, 14, none⟩ = some (.bool bu) := by rw [hbu]; exact hx14.cell_at 14 _ rfl
  clear hx14 hbu
  cases bu with
  | true =>
   rcases hc3 with rfl | rfl
   ·
    have HP := Lib.hid (show j.rpoll b = { j with busy := false, erases := [], bg := if d = 1 then false else j.bg } by rw [HP.out, if_neg (by simp)])
    obtain ⟨ρ, m, hc, hr, hi, hnw⟩ := H0
    have C0 := Lib.hid hc
    have R0 := Lib.hid hr
    have I0 := Lib.hid hi
    have N0 := Lib.hid hnw
    clear hc hr hi hnw HL
    rcases hd2 with rfl | rfl
    ·
     have HP2 := Lib.hid (show j.rpoll b = { j with busy := false, erases := [] } by rw [HP.out]; rfl)
     have x14 := C0.out.cell_at 14 (.bool j.busy) rfl
     have f14 := C0.out.frozen 14
     have S1 := Lib.hid (C0.out.setCell 14 (.bool false))
     have K1 := Lib.hid (((Btw.refl (I := fun k => k = p) w)).setCell (p := ⟨p, 14, none⟩) (v := .bool false) rfl)
     have x21 := S1.out.cell_at 21 (.slice m.aE j.erases.length m.cE) rfl
     have f21 := S1.out.frozen 21
     have S2 := Lib.hid (S1.out.setCell 21 (.slice none 0 0))
     have K2 := Lib.hid ((K1.out).setCell (p := ⟨p, 21, none⟩) (v := .slice none 0 0) rfl)
     go_enter Try.func31, Try.ntmps31
     go_wp2
     go_end0
     have H := RJ.of (I := I) (j' := { j with busy := false, erases := [] }) (m' := { m with aE := none, cE := 0 }) R0.out I0.out N0.out (by
      have h0 := S2.out
      simpa [rjCells] using h0) K2.out fun W h => { h with ers := ⟨rfl, .inl ⟨rfl, rfl⟩⟩, rE := fun k hk => by cases hk }
     rw [HP2.out]
     exact ⟨rfl, H.1, H.2⟩
    ·
     have HP2 := Lib.hid (show j.rpoll b = { j with busy := false, erases := [], bg := false } by rw [HP.out]; rfl)
     have x14 := C0.out.cell_at 14 (.bool j.busy) rfl
     have f14 := C0.out.frozen 14
     have S1 := Lib.hid (C0.out.setCell 14 (.bool false))
     have K1 := Lib.hid (((Btw.refl (I := fun k => k = p) w)).setCell (p := ⟨p, 14, none⟩) (v := .bool false) rfl)
     have x21 := S1.out.cell_at 21 (.slice m.aE j.erases.length m.cE) rfl
     have f21 := S1.out.frozen 21
     have S2 := Lib.hid (S1.out.setCell 21 (.slice none 0 0))
     have K2 := Lib.hid ((K1.out).setCell (p := ⟨p, 21, none⟩) (v := .slice none 0 0) rfl)
     have x15 := S2.out.cell_at 15 (.bool j.bg) rfl
     have f15 := S2.out.frozen 15
     have S3 := Lib.hid (S2.out.setCell 15 (.bool false))
     have K3 := Lib.hid ((K2.out).setCell (p := ⟨p, 15, none⟩) (v := .bool false) rfl)
     go_enter Try.func31, Try.ntmps31
     go_wp2
     go_end0
     have H := RJ.of (I := I) (j' := { j with busy := false, erases := [], bg := false }) (m' := { m with aE := none, cE := 0 }) R0.out I0.out N0.out (by
      have h0 := S3.out
      simpa [rjCells] using h0) K3.out fun W h => { h with ers := ⟨rfl, .inl ⟨rfl, rfl⟩⟩, rE := fun k hk => by cases hk }
     rw [HP2.out]
     exact ⟨rfl, H.1, H.2⟩
   ·
    have HP := Lib.hid (show j.rpoll b = { j.lost with busy := false, erases := [], bg := if d = 1 then false else j.bg } by rw [HP.out, if_pos (by simp)])
    go_enter Try.func31, Try.ntmps31
    go_wp2_with fail
    clear x14
    refine HL.out.mono ?_
    rintro _ w1 ⟨rfl, h1, b1⟩
    obtain ⟨ρ, m, hc, hr, hi, hnw⟩ := h1
    have C0 := Lib.hid hc
    have R0 := Lib.hid hr
    have I0 := Lib.hid hi
    have N0 := Lib.hid hnw
    have B1 := Lib.hid b1
    clear hc hr hi hnw b1 HL
    rcases hd2 with rfl | rfl
    ·
     have HP2 := Lib.hid (show j.rpoll b = { j.lost with busy := false, erases := [] } by rw [HP.out]; rfl)
     have x14 := C0.out.cell_at 14 (.bool (j.lost).busy) rfl
     have f14 := C0.out.frozen 14
     have S1 := Lib.hid (C0.out.setCell 14 (.bool false))
     have K1 := Lib.hid (((Btw.refl (I := fun k => k = p) w1)).setCell (p := ⟨p, 14, none⟩) (v := .bool false) rfl)
     have x21 := S1.out.cell_at 21 (.slice m.aE (j.lost).erases.length m.cE) rfl
     have f21 := S1.out.frozen 21
     have S2 := Lib.hid (S1.out.setCell 21 (.slice none 0 0))
     have K2 := Lib.hid ((K1.out).setCell (p := ⟨p, 21, none⟩) (v := .slice none 0 0) rfl)
     go_wp2
     go_end0
     have H := RJ.of (I := I) (j' := { j.lost with busy := false, erases := [] }) (m' := { m with aE := none, cE := 0 }) R0.out I0.out N0.out (by
      have h0 := S2.out
      simpa [rjCells, Jd.lost] using h0) K2.out fun W h => { h with ers := ⟨rfl, .inl ⟨rfl, rfl⟩⟩, rE := fun k hk => by cases hk }
     rw [HP2.out]
     exact ⟨rfl, H.1, B1.out.trans H.2 fun _ _ h => h⟩
    ·
     have HP2 := Lib.hid (show j.rpoll b = { j.lost with busy := false, erases := [], bg := false } by rw [HP.out]; rfl)
     have x14 := C0.out.cell_at 14 (.bool (j.lost).busy) rfl
     have f14 := C0.out.frozen 14
     have S1 := Lib.hid (C0.out.setCell 14 (.bool false))
     have K1 := Lib.hid (((Btw.refl (I := fun k => k = p) w1)).setCell (p := ⟨p, 14, none⟩) (v := .bool false) rfl)
     have x21 := S1.out.cell_at 21 (.slice m.aE (j.lost).erases.length m.cE) rfl
     have f21 := S1.out.frozen 21
     have S2 := Lib.hid (S1.out.setCell 21 (.slice none 0 0))
     have K2 := Lib.hid ((K1.out).setCell (p := ⟨p, 21, none⟩) (v := .slice none 0 0) rfl)
     have x15 := S2.out.cell_at 15 (.bool (j.lost).bg) rfl
     have f15 := S2.out.frozen 15
     have S3 := Lib.hid (S2.out.setCell 15 (.bool false))
     have K3 := Lib.hid ((K2.out).setCell (p := ⟨p, 15, none⟩) (v := .bool false) rfl)
     go_wp2
     go_end0
     have H := RJ.of (I := I) (j' := { j.lost with busy := false, erases := [], bg := false }) (m' := { m with aE := none, cE := 0 }) R0.out I0.out N0.out (by
      have h0 := S3.out
      simpa [rjCells, Jd.lost] using h0) K3.out fun W h => { h with ers := ⟨rfl, .inl ⟨rfl, rfl⟩⟩, rE := fun k hk => by cases hk }
     rw [HP2.out]
     exact ⟨rfl, H.1, B1.out.trans H.2 fun _ _ h => h⟩
  | false =>
   have HP := Lib.hid (show j.rpoll b = { j with busy := false, erases := [], bg := if d = 1 then false else j.bg } by rw [HP.out, if_neg (by simp)])
   clear hc3
   obtain ⟨ρ, m, hc, hr, hi, hnw⟩ := H0
   have C0 := Lib.hid hc
   have R0 := Lib.hid hr
   have I0 := Lib.hid hi
   have N0 := Lib.hid hnw
   clear hc hr hi hnw HL
   rcases hd2 with rfl | rfl
   ·
    have HP2 := Lib.hid (show j.rpoll b = { j with busy := false, erases := [] } by rw [HP.out]; rfl)
    have x14 := C0.out.cell_at 14 (.bool j.busy) rfl
    have f14 := C0.out.frozen 14
    have S1 := Lib.hid (C0.out.setCell 14 (.bool false))
    have K1 := Lib.hid (((Btw.refl (I := fun k => k = p) w)).setCell (p := ⟨p, 14, none⟩) (v := .bool false) rfl)
    have x21 := S1.out.cell_at 21 (.slice m.aE j.erases.length m.cE) rfl
    have f21 := S1.out.frozen 21
    have S2 := Lib.hid (S1.out.setCell 21 (.slice none 0 0))
    have K2 := Lib.hid ((K1.out).setCell (p := ⟨p, 21, none⟩) (v := .slice none 0 0) rfl)
    go_enter Try.func31, Try.ntmps31
    go_wp2
    go_end0
    have H := RJ.of (I := I) (j' := { j with busy := false, erases := [] }) (m' := { m with aE := none, cE := 0 }) R0.out I0.out N0.out (by
     have h0 := S2.out
     simpa [rjCells] using h0) K2.out fun W h => { h with ers := ⟨rfl, .inl ⟨rfl, rfl⟩⟩, rE := fun k hk => by cases hk }
    rw [HP2.out]
    exact ⟨rfl, H.1, H.2⟩
   ·
    have HP2 := Lib.hid (show j.rpoll b = { j with busy := false, erases := [], bg := false } by rw [HP.out]; rfl)
    have x14 := C0.out.cell_at 14 (.bool j.busy) rfl
    have f14 := C0.out.frozen 14
    have S1 := Lib.hid (C0.out.setCell 14 (.bool false))
    have K1 := Lib.hid (((Btw.refl (I := fun k => k = p) w)).setCell (p := ⟨p, 14, none⟩) (v := .bool false) rfl)
    have x21 := S1.out.cell_at 21 (.slice m.aE j.erases.length m.cE) rfl
    have f21 := S1.out.frozen 21
    have S2 := Lib.hid (S1.out.setCell 21 (.slice none 0 0))
    have K2 := Lib.hid ((K1.out).setCell (p := ⟨p, 21, none⟩) (v := .slice none 0 0) rfl)
    have x15 := S2.out.cell_at 15 (.bool j.bg) rfl
    have f15 := S2.out.frozen 15
    have S3 := Lib.hid (S2.out.setCell 15 (.bool false))
    have K3 := Lib.hid ((K2.out).setCell (p := ⟨p, 15, none⟩) (v := .bool false) rfl)
    go_enter Try.func31, Try.ntmps31
    go_wp2
    go_end0
    have H := RJ.of (I := I) (j' := { j with busy := false, erases := [], bg := false }) (m' := { m with aE := none, cE := 0 }) R0.out I0.out N0.out (by
     have h0 := S3.out
     simpa [rjCells] using h0) K3.out fun W h => { h with ers := ⟨rfl, .inl ⟨rfl, rfl⟩⟩, rE := fun k hk => by cases hk }
    rw [HP2.out]
    exact ⟨rfl, H.1, H.2⟩
/-- What a command opens. -/
def ropen (d : Bool) (c : Nat) : Option Nat := if c = 144 then some 2 else if c = 236 then some 3 else if c = 239 then some 4 else if c = 0 then some 5 else if c = 5 then (if d then some 7 else none) else if c = 128 then some 8 else if c = 96 then some 9 else none
def Jd.rbars (j : Jd) (c : Nat) : Bool := if j.bg = true ∨ 0 < j.rows.length then decide (c ≠ 128) else decide (0 < j.blocks.length ∧ c ≠ 96)
def Jd.opened (j : Jd) (o : Nat) : Jd := { j.enter o with data := if o = 5 ∨ o = 7 then j.data else false }
def Jd.rbegin (j : Jd) (c : Nat) : Bool × Jd := if j.rbars c = true then (false, j) else match ropen j.data c with
 | none => (false, j)
 | some o => (true, j.opened o)
set_option maxHeartbeats 8000000 in
theorem rbegin (c : Nat) (hc8 : c < 256) (hrn : j.rows.length ≤ 1000000) (hbn : j.blocks.length ≤ 1000000) (h : RJ I w p g j) : Calls Try.prog 46 #[.pointer (some ⟨p, 0, none⟩), .int .i64 (c : Int)] w (ActsR I p g (.bool (j.rbegin c).1) (j.rbegin c).2 w) := by
 have HF := Lib.hid (rfree h)
 have H0 := Lib.hid h
 obtain ⟨ρ, m, hc, hr, hi, hnw⟩ := h
 obtain ⟨bg, hbg⟩ : ∃ x, x = j.bg := ⟨_, rfl⟩
 obtain ⟨rn, hrn0⟩ : ∃ x, x = j.rows.length := ⟨_, rfl⟩
 obtain ⟨bn, hbn0⟩ : ∃ x, x = j.blocks.length := ⟨_, rfl⟩
 obtain ⟨da, hda⟩ : ∃ x, x = j.data := ⟨_, rfl⟩
 have x15 : w.cell? ⟨p, 15, none⟩ = some (.bool bg) := by rw [hbg]; exact hc.cell_at 15 _ rfl
 have x19 : w.cell? ⟨p, 19, none⟩ = some (.slice m.aR rn m.cR) := by rw [hrn0]; exact hc.cell_at 19 _ rfl
 have x20 : w.cell? ⟨p, 20, none⟩ = some (.slice m.aB bn m.cB) := by rw [hbn0]; exact hc.cell_at 20 _ rfl
 have x17 : w.cell? ⟨p, 17, none⟩ = some (.bool da) := by rw [hda]; exact hc.cell_at 17 _ rfl
 have HBA := Lib.hid (show j.rbars c = if bg = true ∨ 0 < rn then decide (c ≠ 128) else decide (0 < bn ∧ c ≠ 96) by unfold Jd.rbars; rw [hbg, hrn0, hbn0])
 have HDA := Lib.hid hda
 have RN := Lib.hid (show rn ≤ 1000000 by omega)
 have BN := Lib.hid (show bn ≤ 1000000 by omega)
 clear hc hr hi hnw hbg hrn0 hbn0 hda hrn hbn
 have hcase : bg = true ∨ (bg = false ∧ 0 < rn) ∨ (bg = false ∧ rn = 0 ∧ 0 < bn) ∨ (bg = false ∧ rn = 0 ∧ bn = 0) := by
  cases bg with
  | true => exact .inl rfl
  | false =>
   rcases Nat.eq_zero_or_pos rn with h1 | h1
   ·
    rcases Nat.eq_zero_or_pos bn with h2 | h2
    ·
     exact .inr (.inr (.inr ⟨rfl, h1, h2⟩))
    ·
     exact .inr (.inr (.inl ⟨rfl, h1, h2⟩))
   ·
    exact .inr (.inl ⟨rfl, h1⟩)
 rcases hcase with rfl | ⟨rfl, hr1⟩ | ⟨rfl, rfl, hb1⟩ | ⟨rfl, rfl, rfl⟩
 ·
  by_cases h1 : c = 128
  ·
   subst h1
   have HR := Lib.hid (show j.rbegin 128 = (true, j.opened 8) by unfold Jd.rbegin; rw [if_neg (by rw [HBA.out]; simp), show ropen j.data 128 = some 8 from rfl])
   clear hc8
   go_enter Try.func46, Try.ntmps46
   go_wp2_with fail
   refine HF.out.mono ?_
   rintro _ w1 ⟨rfl, h1, b1⟩
   obtain ⟨ρ1, m1, hc, hr, hi, hnw⟩ := h1
   have C1 := Lib.hid hc
   have R1 := Lib.hid hr
   have I1 := Lib.hid hi
   have N1 := Lib.hid hnw
   have B1 := Lib.hid b1
   clear hc hr hi hnw b1 HF
   try clear x15
   try clear x19
   try clear x20
   try clear x17
   have x10 := C1.out.cell_at 10 (.int .i64 ((j.enter 1).op : Int)) rfl
   have f10 := C1.out.frozen 10
   have S1 := Lib.hid (C1.out.setCell 10 (.int .i64 8))
   have K1 := Lib.hid (((Btw.refl (I := fun k => k = p) w1)).setCell (p := ⟨p, 10, none⟩) (v := .int .i64 8) rfl)
   have x17 := S1.out.cell_at 17 (.bool (j.enter 1).data) rfl
   have f17 := S1.out.frozen 17
   have S2 := Lib.hid (S1.out.setCell 17 (.bool false))
   have K2 := Lib.hid ((K1.out).setCell (p := ⟨p, 17, none⟩) (v := .bool false) rfl)
   go_wp2
   go_ret
   have H := RJ.of (I := I) (j' := j.opened 8) (m' := m1) R1.out I1.out N1.out (by
    have h0 := S2.out
    simpa [rjCells, Jd.opened, Jd.enter] using h0) K2.out fun W h => { h with }
   rw [HR.out]
   exact ⟨rfl, H.1, B1.out.trans H.2 fun _ _ h => h⟩
  ·
   skip
   have b128 : (((c : Nat) : Int) == 128) = false := by simp; omega
   have j128 : (((c : Nat) : Int) = 128) = False := eq_false (by omega)
   have k128 : (c = 128) = False := eq_false (by omega)
   have d128 : decide (((c : Nat) : Int) = 128) = false := decide_eq_false (by omega)
   have HR := Lib.hid (show j.rbegin c = (false, j) by unfold Jd.rbegin; rw [if_pos (by rw [HBA.out]; simp [h1])])
   clear hc8 h1 HF
   go_enter Try.func46, Try.ntmps46
   go_wp2
   go_ret
   rw [HR.out]
   exact ⟨rfl, H0.out, Btw.refl w⟩
 ·
  by_cases h1 : c = 128
  ·
   subst h1
   have e1 : decide ((0 : Int) < (rn : Int)) = true := decide_eq_true (by omega)
   have e2 : decide (0 < rn) = true := decide_eq_true hr1
   have e3 : (0 < rn) = True := eq_true hr1
   have HR := Lib.hid (show j.rbegin 128 = (true, j.opened 8) by unfold Jd.rbegin; rw [if_neg (by rw [HBA.out]; simp [hr1]), show ropen j.data 128 = some 8 from rfl])
   clear hc8 hr1
   go_enter Try.func46, Try.ntmps46
   go_wp2_with fail
   refine HF.out.mono ?_
   rintro _ w1 ⟨rfl, h1, b1⟩
   obtain ⟨ρ1, m1, hc, hr, hi, hnw⟩ := h1
   have C1 := Lib.hid hc
   have R1 := Lib.hid hr
   have I1 := Lib.hid hi
   have N1 := Lib.hid hnw
   have B1 := Lib.hid b1
   clear hc hr hi hnw b1 HF
   try clear x15
   try clear x19
   try clear x20
   try clear x17
   have x10 := C1.out.cell_at 10 (.int .i64 ((j.enter 1).op : Int)) rfl
   have f10 := C1.out.frozen 10
   have S1 := Lib.hid (C1.out.setCell 10 (.int .i64 8))
   have K1 := Lib.hid (((Btw.refl (I := fun k => k = p) w1)).setCell (p := ⟨p, 10, none⟩) (v := .int .i64 8) rfl)
   have x17 := S1.out.cell_at 17 (.bool (j.enter 1).data) rfl
   have f17 := S1.out.frozen 17
   have S2 := Lib.hid (S1.out.setCell 17 (.bool false))
   have K2 := Lib.hid ((K1.out).setCell (p := ⟨p, 17, none⟩) (v := .bool false) rfl)
   go_wp2
   go_ret
   have H := RJ.of (I := I) (j' := j.opened 8) (m' := m1) R1.out I1.out N1.out (by
    have h0 := S2.out
    simpa [rjCells, Jd.opened, Jd.enter] using h0) K2.out fun W h => { h with }
   rw [HR.out]
   exact ⟨rfl, H.1, B1.out.trans H.2 fun _ _ h => h⟩
  ·
   skip
   have e1 : decide ((0 : Int) < (rn : Int)) = true := decide_eq_true (by omega)
   have e2 : decide (0 < rn) = true := decide_eq_true hr1
   have e3 : (0 < rn) = True := eq_true hr1
   have b128 : (((c : Nat) : Int) == 128) = false := by simp; omega
   have j128 : (((c : Nat) : Int) = 128) = False := eq_false (by omega)
   have k128 : (c = 128) = False := eq_false (by omega)
   have d128 : decide (((c : Nat) : Int) = 128) = false := decide_eq_false (by omega)
   have HR := Lib.hid (show j.rbegin c = (false, j) by unfold Jd.rbegin; rw [if_pos (by rw [HBA.out]; simp [h1, hr1])])
   clear hc8 h1 hr1 HF
   go_enter Try.func46, Try.ntmps46
   go_wp2
   go_ret
   rw [HR.out]
   exact ⟨rfl, H0.out, Btw.refl w⟩
 ·
  by_cases h1 : c = 96
  ·
   subst h1
   have e1 : decide ((0 : Int) < (bn : Int)) = true := decide_eq_true (by omega)
   have e2 : decide (0 < bn) = true := decide_eq_true hb1
   have e3 : (0 < bn) = True := eq_true hb1
   have HR := Lib.hid (show j.rbegin 96 = (true, j.opened 9) by unfold Jd.rbegin; rw [if_neg (by rw [HBA.out]; simp), show ropen j.data 96 = some 9 from rfl])
   clear hc8 hb1
   go_enter Try.func46, Try.ntmps46
   go_wp2_with fail
   refine HF.out.mono ?_
   rintro _ w1 ⟨rfl, h1, b1⟩
   obtain ⟨ρ1, m1, hc, hr, hi, hnw⟩ := h1
   have C1 := Lib.hid hc
   have R1 := Lib.hid hr
   have I1 := Lib.hid hi
   have N1 := Lib.hid hnw
   have B1 := Lib.hid b1
   clear hc hr hi hnw b1 HF
   try clear x15
   try clear x19
   try clear x20
   try clear x17
   have x10 := C1.out.cell_at 10 (.int .i64 ((j.enter 1).op : Int)) rfl
   have f10 := C1.out.frozen 10
   have S1 := Lib.hid (C1.out.setCell 10 (.int .i64 9))
   have K1 := Lib.hid (((Btw.refl (I := fun k => k = p) w1)).setCell (p := ⟨p, 10, none⟩) (v := .int .i64 9) rfl)
   have x17 := S1.out.cell_at 17 (.bool (j.enter 1).data) rfl
   have f17 := S1.out.frozen 17
   have S2 := Lib.hid (S1.out.setCell 17 (.bool false))
   have K2 := Lib.hid ((K1.out).setCell (p := ⟨p, 17, none⟩) (v := .bool false) rfl)
   go_wp2
   go_ret
   have H := RJ.of (I := I) (j' := j.opened 9) (m' := m1) R1.out I1.out N1.out (by
    have h0 := S2.out
    simpa [rjCells, Jd.opened, Jd.enter] using h0) K2.out fun W h => { h with }
   rw [HR.out]
   exact ⟨rfl, H.1, B1.out.trans H.2 fun _ _ h => h⟩
  ·
   skip
   have e1 : decide ((0 : Int) < (bn : Int)) = true := decide_eq_true (by omega)
   have e2 : decide (0 < bn) = true := decide_eq_true hb1
   have e3 : (0 < bn) = True := eq_true hb1
   have b96 : (((c : Nat) : Int) == 96) = false := by simp; omega
   have j96 : (((c : Nat) : Int) = 96) = False := eq_false (by omega)
   have k96 : (c = 96) = False := eq_false (by omega)
   have d96 : decide (((c : Nat) : Int) = 96) = false := decide_eq_false (by omega)
   have HR := Lib.hid (show j.rbegin c = (false, j) by unfold Jd.rbegin; rw [if_pos (by rw [HBA.out]; simp [h1, hb1])])
   clear hc8 h1 hb1 HF
   go_enter Try.func46, Try.ntmps46
   go_wp2
   go_ret
   rw [HR.out]
   exact ⟨rfl, H0.out, Btw.refl w⟩
 ·
  have HB2 := Lib.hid (show ¬ j.rbars c = true by rw [HBA.out]; simp)
  by_cases h144 : c = 144
  ·
   subst h144
   have HR := Lib.hid (show j.rbegin 144 = (true, j.opened 2) by unfold Jd.rbegin; rw [if_neg HB2.out, show ropen j.data 144 = some 2 from rfl])
   clear hc8
   go_enter Try.func46, Try.ntmps46
   go_wp2_with fail
   refine HF.out.mono ?_
   rintro _ w1 ⟨rfl, h1, b1⟩
   obtain ⟨ρ1, m1, hc, hr, hi, hnw⟩ := h1
   have C1 := Lib.hid hc
   have R1 := Lib.hid hr
   have I1 := Lib.hid hi
   have N1 := Lib.hid hnw
   have B1 := Lib.hid b1
   clear hc hr hi hnw b1 HF
   try clear x15
   try clear x19
   try clear x20
   try clear x17
   have x10 := C1.out.cell_at 10 (.int .i64 ((j.enter 1).op : Int)) rfl
   have f10 := C1.out.frozen 10
   have S1 := Lib.hid (C1.out.setCell 10 (.int .i64 2))
   have K1 := Lib.hid (((Btw.refl (I := fun k => k = p) w1)).setCell (p := ⟨p, 10, none⟩) (v := .int .i64 2) rfl)
   have x17 := S1.out.cell_at 17 (.bool (j.enter 1).data) rfl
   have f17 := S1.out.frozen 17
   have S2 := Lib.hid (S1.out.setCell 17 (.bool false))
   have K2 := Lib.hid ((K1.out).setCell (p := ⟨p, 17, none⟩) (v := .bool false) rfl)
   go_wp2
   go_ret
   have H := RJ.of (I := I) (j' := j.opened 2) (m' := m1) R1.out I1.out N1.out (by
    have h0 := S2.out
    simpa [rjCells, Jd.opened, Jd.enter] using h0) K2.out fun W h => { h with }
   rw [HR.out]
   exact ⟨rfl, H.1, B1.out.trans H.2 fun _ _ h => h⟩
  by_cases h236 : c = 236
  ·
   subst h236
   have HR := Lib.hid (show j.rbegin 236 = (true, j.opened 3) by unfold Jd.rbegin; rw [if_neg HB2.out, show ropen j.data 236 = some 3 from rfl])
   clear hc8
   go_enter Try.func46, Try.ntmps46
   go_wp2_with fail
   refine HF.out.mono ?_
   rintro _ w1 ⟨rfl, h1, b1⟩
   obtain ⟨ρ1, m1, hc, hr, hi, hnw⟩ := h1
   have C1 := Lib.hid hc
   have R1 := Lib.hid hr
   have I1 := Lib.hid hi
   have N1 := Lib.hid hnw
   have B1 := Lib.hid b1
   clear hc hr hi hnw b1 HF
   try clear x15
   try clear x19
   try clear x20
   try clear x17
   have x10 := C1.out.cell_at 10 (.int .i64 ((j.enter 1).op : Int)) rfl
   have f10 := C1.out.frozen 10
   have S1 := Lib.hid (C1.out.setCell 10 (.int .i64 3))
   have K1 := Lib.hid (((Btw.refl (I := fun k => k = p) w1)).setCell (p := ⟨p, 10, none⟩) (v := .int .i64 3) rfl)
   have x17 := S1.out.cell_at 17 (.bool (j.enter 1).data) rfl
   have f17 := S1.out.frozen 17
   have S2 := Lib.hid (S1.out.setCell 17 (.bool false))
   have K2 := Lib.hid ((K1.out).setCell (p := ⟨p, 17, none⟩) (v := .bool false) rfl)
   go_wp2
   go_ret
   have H := RJ.of (I := I) (j' := j.opened 3) (m' := m1) R1.out I1.out N1.out (by
    have h0 := S2.out
    simpa [rjCells, Jd.opened, Jd.enter] using h0) K2.out fun W h => { h with }
   rw [HR.out]
   exact ⟨rfl, H.1, B1.out.trans H.2 fun _ _ h => h⟩
  by_cases h239 : c = 239
  ·
   subst h239
   have HR := Lib.hid (show j.rbegin 239 = (true, j.opened 4) by unfold Jd.rbegin; rw [if_neg HB2.out, show ropen j.data 239 = some 4 from rfl])
   clear hc8
   go_enter Try.func46, Try.ntmps46
   go_wp2_with fail
   refine HF.out.mono ?_
   rintro _ w1 ⟨rfl, h1, b1⟩
   obtain ⟨ρ1, m1, hc, hr, hi, hnw⟩ := h1
   have C1 := Lib.hid hc
   have R1 := Lib.hid hr
   have I1 := Lib.hid hi
   have N1 := Lib.hid hnw
   have B1 := Lib.hid b1
   clear hc hr hi hnw b1 HF
   try clear x15
   try clear x19
   try clear x20
   try clear x17
   have x10 := C1.out.cell_at 10 (.int .i64 ((j.enter 1).op : Int)) rfl
   have f10 := C1.out.frozen 10
   have S1 := Lib.hid (C1.out.setCell 10 (.int .i64 4))
   have K1 := Lib.hid (((Btw.refl (I := fun k => k = p) w1)).setCell (p := ⟨p, 10, none⟩) (v := .int .i64 4) rfl)
   have x17 := S1.out.cell_at 17 (.bool (j.enter 1).data) rfl
   have f17 := S1.out.frozen 17
   have S2 := Lib.hid (S1.out.setCell 17 (.bool false))
   have K2 := Lib.hid ((K1.out).setCell (p := ⟨p, 17, none⟩) (v := .bool false) rfl)
   go_wp2
   go_ret
   have H := RJ.of (I := I) (j' := j.opened 4) (m' := m1) R1.out I1.out N1.out (by
    have h0 := S2.out
    simpa [rjCells, Jd.opened, Jd.enter] using h0) K2.out fun W h => { h with }
   rw [HR.out]
   exact ⟨rfl, H.1, B1.out.trans H.2 fun _ _ h => h⟩
  by_cases h0 : c = 0
  ·
   subst h0
   have HR := Lib.hid (show j.rbegin 0 = (true, j.opened 5) by unfold Jd.rbegin; rw [if_neg HB2.out, show ropen j.data 0 = some 5 from rfl])
   clear hc8
   go_enter Try.func46, Try.ntmps46
   go_wp2_with fail
   refine HF.out.mono ?_
   rintro _ w1 ⟨rfl, h1, b1⟩
   obtain ⟨ρ1, m1, hc, hr, hi, hnw⟩ := h1
   have C1 := Lib.hid hc
   have R1 := Lib.hid hr
   have I1 := Lib.hid hi
   have N1 := Lib.hid hnw
   have B1 := Lib.hid b1
   clear hc hr hi hnw b1 HF
   try clear x15
   try clear x19
   try clear x20
   try clear x17
   have x10 := C1.out.cell_at 10 (.int .i64 ((j.enter 1).op : Int)) rfl
   have f10 := C1.out.frozen 10
   have S1 := Lib.hid (C1.out.setCell 10 (.int .i64 5))
   have K1 := Lib.hid (((Btw.refl (I := fun k => k = p) w1)).setCell (p := ⟨p, 10, none⟩) (v := .int .i64 5) rfl)
   go_wp2
   go_ret
   have H := RJ.of (I := I) (j' := j.opened 5) (m' := m1) R1.out I1.out N1.out (by
    have h0 := S1.out
    simpa [rjCells, Jd.opened, Jd.enter] using h0) K1.out fun W h => { h with }
   rw [HR.out]
   exact ⟨rfl, H.1, B1.out.trans H.2 fun _ _ h => h⟩
  by_cases h5 : c = 5
  ·
   subst h5
   cases da with
   | true =>
    have HR := Lib.hid (show j.rbegin 5 = (true, j.opened 7) by unfold Jd.rbegin; rw [if_neg HB2.out, ← HDA.out]; rfl)
    clear hc8
    go_enter Try.func46, Try.ntmps46
    go_wp2_with fail
    refine HF.out.mono ?_
    rintro _ w1 ⟨rfl, h1, b1⟩
    obtain ⟨ρ1, m1, hc, hr, hi, hnw⟩ := h1
    have C1 := Lib.hid hc
    have R1 := Lib.hid hr
    have I1 := Lib.hid hi
    have N1 := Lib.hid hnw
    have B1 := Lib.hid b1
    clear hc hr hi hnw b1 HF
    try clear x15
    try clear x19
    try clear x20
    try clear x17
    have x10 := C1.out.cell_at 10 (.int .i64 ((j.enter 1).op : Int)) rfl
    have f10 := C1.out.frozen 10
    have S1 := Lib.hid (C1.out.setCell 10 (.int .i64 7))
    have K1 := Lib.hid (((Btw.refl (I := fun k => k = p) w1)).setCell (p := ⟨p, 10, none⟩) (v := .int .i64 7) rfl)
    go_wp2
    go_ret
    have H := RJ.of (I := I) (j' := j.opened 7) (m' := m1) R1.out I1.out N1.out (by
     have h0 := S1.out
     simpa [rjCells, Jd.opened, Jd.enter] using h0) K1.out fun W h => { h with }
    rw [HR.out]
    exact ⟨rfl, H.1, B1.out.trans H.2 fun _ _ h => h⟩
   | false =>
    have HR := Lib.hid (show j.rbegin 5 = (false, j) by unfold Jd.rbegin; rw [if_neg HB2.out, ← HDA.out]; rfl)
    clear hc8 HF
    go_enter Try.func46, Try.ntmps46
    go_wp2
    go_ret
    rw [HR.out]
    exact ⟨rfl, H0.out, Btw.refl w⟩
  by_cases h128 : c = 128
  ·
   subst h128
   have HR := Lib.hid (show j.rbegin 128 = (true, j.opened 8) by unfold Jd.rbegin; rw [if_neg HB2.out, show ropen j.data 128 = some 8 from rfl])
   clear hc8
   go_enter Try.func46, Try.ntmps46
   go_wp2_with fail
   refine HF.out.mono ?_
   rintro _ w1 ⟨rfl, h1, b1⟩
   obtain ⟨ρ1, m1, hc, hr, hi, hnw⟩ := h1
   have C1 := Lib.hid hc
   have R1 := Lib.hid hr
   have I1 := Lib.hid hi
   have N1 := Lib.hid hnw
   have B1 := Lib.hid b1
   clear hc hr hi hnw b1 HF
   try clear x15
   try clear x19
   try clear x20
   try clear x17
   have x10 := C1.out.cell_at 10 (.int .i64 ((j.enter 1).op : Int)) rfl
   have f10 := C1.out.frozen 10
   have S1 := Lib.hid (C1.out.setCell 10 (.int .i64 8))
   have K1 := Lib.hid (((Btw.refl (I := fun k => k = p) w1)).setCell (p := ⟨p, 10, none⟩) (v := .int .i64 8) rfl)
   have x17 := S1.out.cell_at 17 (.bool (j.enter 1).data) rfl
   have f17 := S1.out.frozen 17
   have S2 := Lib.hid (S1.out.setCell 17 (.bool false))
   have K2 := Lib.hid ((K1.out).setCell (p := ⟨p, 17, none⟩) (v := .bool false) rfl)
   go_wp2
   go_ret
   have H := RJ.of (I := I) (j' := j.opened 8) (m' := m1) R1.out I1.out N1.out (by
    have h0 := S2.out
    simpa [rjCells, Jd.opened, Jd.enter] using h0) K2.out fun W h => { h with }
   rw [HR.out]
   exact ⟨rfl, H.1, B1.out.trans H.2 fun _ _ h => h⟩
  by_cases h96 : c = 96
  ·
   subst h96
   have HR := Lib.hid (show j.rbegin 96 = (true, j.opened 9) by unfold Jd.rbegin; rw [if_neg HB2.out, show ropen j.data 96 = some 9 from rfl])
   clear hc8
   go_enter Try.func46, Try.ntmps46
   go_wp2_with fail
   refine HF.out.mono ?_
   rintro _ w1 ⟨rfl, h1, b1⟩
   obtain ⟨ρ1, m1, hc, hr, hi, hnw⟩ := h1
   have C1 := Lib.hid hc
   have R1 := Lib.hid hr
   have I1 := Lib.hid hi
   have N1 := Lib.hid hnw
   have B1 := Lib.hid b1
   clear hc hr hi hnw b1 HF
   try clear x15
   try clear x19
   try clear x20
   try clear x17
   have x10 := C1.out.cell_at 10 (.int .i64 ((j.enter 1).op : Int)) rfl
   have f10 := C1.out.frozen 10
   have S1 := Lib.hid (C1.out.setCell 10 (.int .i64 9))
   have K1 := Lib.hid (((Btw.refl (I := fun k => k = p) w1)).setCell (p := ⟨p, 10, none⟩) (v := .int .i64 9) rfl)
   have x17 := S1.out.cell_at 17 (.bool (j.enter 1).data) rfl
   have f17 := S1.out.frozen 17
   have S2 := Lib.hid (S1.out.setCell 17 (.bool false))
   have K2 := Lib.hid ((K1.out).setCell (p := ⟨p, 17, none⟩) (v := .bool false) rfl)
   go_wp2
   go_ret
   have H := RJ.of (I := I) (j' := j.opened 9) (m' := m1) R1.out I1.out N1.out (by
    have h0 := S2.out
    simpa [rjCells, Jd.opened, Jd.enter] using h0) K2.out fun W h => { h with }
   rw [HR.out]
   exact ⟨rfl, H.1, B1.out.trans H.2 fun _ _ h => h⟩
  have b144 : (((c : Nat) : Int) == 144) = false := by simp; omega
  have j144 : (((c : Nat) : Int) = 144) = False := eq_false (by omega)
  have k144 : (c = 144) = False := eq_false (by omega)
  have d144 : decide (((c : Nat) : Int) = 144) = false := decide_eq_false (by omega)
  have b236 : (((c : Nat) : Int) == 236) = false := by simp; omega
  have j236 : (((c : Nat) : Int) = 236) = False := eq_false (by omega)
  have k236 : (c = 236) = False := eq_false (by omega)
  have d236 : decide (((c : Nat) : Int) = 236) = false := decide_eq_false (by omega)
  have b239 : (((c : Nat) : Int) == 239) = false := by simp; omega
  have j239 : (((c : Nat) : Int) = 239) = False := eq_false (by omega)
  have k239 : (c = 239) = False := eq_false (by omega)
  have d239 : decide (((c : Nat) : Int) = 239) = false := decide_eq_false (by omega)
  have b0 : (((c : Nat) : Int) == 0) = false := by simp; omega
  have j0 : (((c : Nat) : Int) = 0) = False := eq_false (by omega)
  have k0 : (c = 0) = False := eq_false (by omega)
  have d0 : decide (((c : Nat) : Int) = 0) = false := decide_eq_false (by omega)
  have b5 : (((c : Nat) : Int) == 5) = false := by simp; omega
  have j5 : (((c : Nat) : Int) = 5) = False := eq_false (by omega)
  have k5 : (c = 5) = False := eq_false (by omega)
  have d5 : decide (((c : Nat) : Int) = 5) = false := decide_eq_false (by omega)
  have b128 : (((c : Nat) : Int) == 128) = false := by simp; omega
  have j128 : (((c : Nat) : Int) = 128) = False := eq_false (by omega)
  have k128 : (c = 128) = False := eq_false (by omega)
  have d128 : decide (((c : Nat) : Int) = 128) = false := decide_eq_false (by omega)
  have b96 : (((c : Nat) : Int) == 96) = false := by simp; omega
  have j96 : (((c : Nat) : Int) = 96) = False := eq_false (by omega)
  have k96 : (c = 96) = False := eq_false (by omega)
  have d96 : decide (((c : Nat) : Int) = 96) = false := decide_eq_false (by omega)
  have HR := Lib.hid (show j.rbegin c = (false, j) by unfold Jd.rbegin; rw [if_neg HB2.out, show ropen j.data c = none by unfold ropen; rw [if_neg h144, if_neg h236, if_neg h239, if_neg h0, if_neg h5, if_neg h128, if_neg h96]])
  clear hc8 HF h144 h236 h239 h0 h5 h128 h96
  go_enter Try.func46, Try.ntmps46
  go_wp2
  go_ret
  rw [HR.out]
  exact ⟨rfl, H0.out, Btw.refl w⟩
end
end Go.Proofs.Ytaidgjidpghgnaa
