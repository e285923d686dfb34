/-
  Both judges at once: what ends a load and an erase, a command, a cycle, the power.
-/
import Derived.Test.YtaidgjidpghgnaaTk
import Derived.Test.YtaidgjidpghgnaaJudgeStepsJ12
import Derived.Test.YtaidgjidpghgnaaJudgeStepsJ10
import Derived.Test.YtaidgjidpghgnaaJudgeStepsJ9
namespace Go.Proofs.Ytaidgjidpghgnaa
open Go.RowKit
set_option maxRecDepth 100000
def zEc0 : Oper := { dst := some 90, op := Op.call { callee := Callee.value (Operand.func 14), args := #[Operand.tmp 89], argTypes := #[27] }, type := 4, pos := "law.go:52", after := #[{ on := 0, ground := Ground.data }], guard := none }
def zEc1 : Oper := { dst := some 84, op := Op.call { callee := Callee.value (Operand.func 13), args := #[Operand.tmp 82, Operand.tmp 83], argTypes := #[27, 36] }, type := 4, pos := "law.go:49", after := #[{ on := 0, ground := Ground.data }, { on := 1, ground := Ground.data }], guard := none }
def zEc2 : Oper := { dst := some 87, op := Op.call { callee := Callee.value (Operand.func 10), args := #[Operand.tmp 85, Operand.tmp 86], argTypes := #[33, 36] }, type := 4, pos := "law.go:49", after := #[{ on := 3, ground := Ground.data }, { on := 4, ground := Ground.data }, { on := 2, ground := Ground.chain }], guard := none }
def zE0 : Oper := { dst := some 56, op := Op.load 23 (Operand.tmp 2), type := 23, pos := "law.go:40", after := #[], guard := none }
def zE1 : Oper := { dst := some 58, op := Op.load 23 (Operand.tmp 2), type := 23, pos := "law.go:40", after := #[], guard := none }
def zE2 : Oper := { dst := some 9, op := Op.assign (Operand.tmp 57), type := 33, pos := "law.go:40", after := #[{ on := 1, ground := Ground.data }, { on := 3, ground := Ground.chain }, { on := 0, ground := Ground.phase }, { on := 1, ground := Ground.phase }, { on := 2, ground := Ground.textOnly Departure.lateStores }, { on := 3, ground := Ground.textOnly Departure.lateStoresUnsure }], guard := none }
def zE3 : Oper := { dst := some 10, op := Op.assign (Operand.tmp 59), type := 33, pos := "law.go:40", after := #[{ on := 3, ground := Ground.data }, { on := 4, ground := Ground.chain }, { on := 0, ground := Ground.phase }, { on := 1, ground := Ground.phase }, { on := 2, ground := Ground.phase }, { on := 3, ground := Ground.phase }, { on := 4, ground := Ground.phase }], guard := none }
def zE4 : Oper := { dst := some 89, op := Op.move (Operand.tmp 5), type := 27, pos := "law.go:52", after := #[], guard := none }
def zE5 : Oper := { dst := some 91, op := Op.move (Operand.tmp 9), type := 33, pos := "law.go:52", after := #[], guard := none }
def zE6 : Oper := { dst := some 92, op := Op.nilCheck (Operand.tmp 91), type := 0, pos := "law.go:52", after := #[{ on := 2, ground := Ground.data }], guard := none }
def zE7 : Oper := { dst := some 93, op := Op.fieldAddr 41 (Operand.tmp 92) 8, type := 0, pos := "law.go:52", after := #[{ on := 3, ground := Ground.data }], guard := none }
def zE8 : Oper := { dst := some 94, op := Op.load 4 (Operand.tmp 93), type := 4, pos := "law.go:52", after := #[{ on := 4, ground := Ground.data }], guard := none }
def zE9 : Oper := { dst := some 95, op := Op.binOp BinOp.neq 4 (Operand.tmp 90) (Operand.tmp 94) 4, type := 4, pos := "law.go:52", after := #[{ on := 1, ground := Ground.data }, { on := 5, ground := Ground.data }], guard := none }
def zE10 : Oper := { dst := some 82, op := Op.move (Operand.tmp 5), type := 27, pos := "law.go:49", after := #[], guard := none }
def zE11 : Oper := { dst := some 83, op := Op.load 36 (Operand.tmp 14), type := 36, pos := "law.go:49", after := #[], guard := none }
def zE12 : Oper := { dst := some 85, op := Op.move (Operand.tmp 9), type := 33, pos := "law.go:49", after := #[], guard := none }
def zE13 : Oper := { dst := some 86, op := Op.load 36 (Operand.tmp 14), type := 36, pos := "law.go:49", after := #[], guard := none }
def zE14 : Oper := { dst := some 88, op := Op.binOp BinOp.neq 4 (Operand.tmp 84) (Operand.tmp 87) 4, type := 4, pos := "law.go:49", after := #[{ on := 2, ground := Ground.data }, { on := 5, ground := Ground.data }], guard := none }
section
variable {g : Gm} {a b : Jd}
theorem spB_in {r : Nat} (h : r < g.rows_) : spB g r = r / g.s.toNat := if_pos h
theorem spP_in {r : Nat} (h : r < g.rows_) : spP g r = r % g.s.toNat := if_pos h
theorem joins_all {l : List Nat} {r : Nat} (hl : ∀ x ∈ l, x < g.rows_) : l.all (joinR g (r / g.s.toNat) (r % g.s.toNat)) = l.all (rjoin g r) := by
 rw [Bool.eq_iff_iff, List.all_eq_true, List.all_eq_true]
 refine forall_congr' fun x => forall_congr' fun hx => ?_
 unfold joinR rjoin
 rw [spB_in (hl x hx), spP_in (hl x hx)]
theorem no_ {x : Jd} {P : Prop} : ((false, x) : Bool × Jd).1 = true → P := fun e => absurd e (by simp)
theorem sim_endLoad (h : Sm g a b) (h8 : a.op = 8) (c : Nat) : ((if b.listed.length = 4 ∧ 0 < b.count then b.rload g c else (false, b)) : Bool × Jd).1 = (a.endLoad g c).1 ∧
  ((a.endLoad g c).1 = true → Sm g (a.endLoad g c).2 ((if b.listed.length = 4 ∧ 0 < b.count then b.rload g c else (false, b)) : Bool × Jd).2) := by
 obtain ⟨x, y, rfl⟩ := h.out
 have hd : a.data = false := h.i3 (.inr (.inr (.inr (.inl h8))))
 have hia := h.ia
 by_cases hl : a.listed.length = 4 ∧ 0 < a.count
 rotate_left
 ·
  unfold Jd.endLoad
  rw [if_neg (show ¬ (({ a with col := x, bgb := y } : Jd).listed.length = 4 ∧ 0 < ({ a with col := x, bgb := y } : Jd).count) from hl), if_pos (by omega)]
  exact ⟨rfl, no_⟩
 rw [if_pos (show ({ a with col := x, bgb := y } : Jd).listed.length = 4 ∧ 0 < ({ a with col := x, bgb := y } : Jd).count from hl)]
 have hrow := (h.i5 (.inr h8) hl.1).2
 have hB := spB_in hrow
 have hP := spP_in hrow
 have hj : a.joins g (a.addr2 2 / g.s.toNat) (a.addr2 2 % g.s.toNat) = ((!a.bg || decide (a.bgb = a.addr2 2 / g.s.toNat)) && a.rows.all (rjoin g (a.addr2 2))) := by
  unfold Jd.joins
  rw [joins_all h.ib]
 have hpr : a.addr2 2 / g.s.toNat * g.s.toNat + a.addr2 2 % g.s.toNat = a.addr2 2 := Nat.div_add_mod' _ _
 have hbg := h.bgb
 have hib := h.ib
 have eb : ({ a with col := x, bgb := y } : Jd).rload g c = if ¬ ((c = 16 ∨ c = 17 ∨ c = 21) ∧ a.can g (a.addr2 2) = true) then (false, { a with col := x, bgb := y })
  else if ¬ a.rows.all (rjoin g (a.addr2 2)) = true then (false, { a with col := x, bgb := y })
  else if (a.bg = true ∧ (a.addr2 2 / g.s.toNat ≠ y ∨ c = 17)) ∨ (c = 21 ∧ 0 < a.rows.length) then (false, { a with col := x, bgb := y })
  else (true, (({ a with col := x, data := false, la := fun x => if x = a.addr2 2 / g.s.toNat then ((a.addr2 2 % g.s.toNat : Nat) : Int) else a.la x, pr := fun x => if x = a.addr2 2 then a.pr x + 1 else a.pr x, rows := if c = 17 then a.rows ++ [a.addr2 2] else [], bg := if c = 21 then true else a.bg, bgb := if c = 21 then a.addr2 2 / g.s.toNat else y } : Jd)).start) := rfl
 rw [eb]
 unfold Jd.endLoad
 rw [hB, hP, hj, if_neg (show ¬ (a.listed.length < 4 ∨ a.count = 0) by omega)]
 have epr : ∀ A : Jd, A.prog g (a.addr2 2 / g.s.toNat) (a.addr2 2 % g.s.toNat) = { A with la := fun k => if k = a.addr2 2 / g.s.toNat then ((a.addr2 2 % g.s.toNat : Nat) : Int) else A.la k, pr := fun r => if r = a.addr2 2 then A.pr r + 1 else A.pr r } := fun A => by
  unfold Jd.prog
  rw [hpr]
 simp only [epr]
 clear eb epr hj hB hP hpr
 generalize a.addr2 2 = r at *
 generalize r / g.s.toNat = B at *
 generalize r % g.s.toNat = P at *
 cases hcan : a.can g r with
 | false =>
  rw [if_pos (show ¬ ((c = 16 ∨ c = 17 ∨ c = 21) ∧ false = true) from fun e => by cases e.2), if_pos (show false = false ∨ ((!a.bg || decide (a.bgb = B)) && a.rows.all (rjoin g r)) = false from .inl rfl)]
  exact ⟨rfl, no_⟩
 | true =>
  cases hall : a.rows.all (rjoin g r) with
  | false =>
   rw [if_pos (show true = false ∨ ((!a.bg || decide (a.bgb = B)) && false) = false from .inr (Bool.and_false _))]
   by_cases hc : c = 16 ∨ c = 17 ∨ c = 21
   ·
    rw [if_neg (show ¬ ¬ ((c = 16 ∨ c = 17 ∨ c = 21) ∧ true = true) from fun e => e ⟨hc, rfl⟩), if_pos (show ¬ (false = true) by decide)]
    exact ⟨rfl, no_⟩
   ·
    rw [if_pos (show ¬ ((c = 16 ∨ c = 17 ∨ c = 21) ∧ true = true) from fun e => hc e.1)]
    exact ⟨rfl, no_⟩
  | true =>
   by_cases hc : c = 16 ∨ c = 17 ∨ c = 21
   rotate_left
   ·
    rw [if_pos (show ¬ ((c = 16 ∨ c = 17 ∨ c = 21) ∧ true = true) from fun e => hc e.1)]
    rw [if_neg (show ¬ c = 16 by omega), if_neg (show ¬ c = 21 by omega), if_neg (show ¬ c = 17 by omega)]
    split
    ·
     exact ⟨rfl, no_⟩
    ·
     exact ⟨rfl, no_⟩
   rw [if_neg (show ¬ ¬ ((c = 16 ∨ c = 17 ∨ c = 21) ∧ true = true) from fun e => e ⟨hc, rfl⟩), if_neg (show ¬ ¬ (true = true) from fun e => e rfl)]
   by_cases hbb : a.bg = true ∧ a.bgb ≠ B
   ·
    have hy := hbg hbb.1
    have hy : y = a.bgb := hy
    rw [if_pos (show true = false ∨ ((!a.bg || decide (a.bgb = B)) && true) = false from .inr (by rw [hbb.1, decide_eq_false hbb.2]; rfl)),
     if_pos (show (a.bg = true ∧ (B ≠ y ∨ c = 17)) ∨ (c = 21 ∧ 0 < a.rows.length) from .inl ⟨hbb.1, .inl (by rw [hy]; exact fun e => hbb.2 e.symm)⟩)]
    exact ⟨rfl, no_⟩
   have hyb : a.bg = true → y = B := fun e => by
    have hy : y = a.bgb := hbg e
    rw [hy]
    exact Classical.byContradiction fun e2 => hbb ⟨e, e2⟩
   rw [if_neg (show ¬ (true = false ∨ ((!a.bg || decide (a.bgb = B)) && true) = false) from fun e => by
    rcases e with e | e
    ·
     cases e
    ·
     cases hg : a.bg with
     | false => rw [hg] at e; cases e
     | true =>
      have : a.bgb = B := Classical.byContradiction fun e2 => hbb ⟨hg, e2⟩
      rw [hg, decide_eq_true this] at e
      cases e)]
   rcases hc with hc | hc | hc
   ·
    subst hc
    rw [if_pos (show (16 : Nat) = 16 from rfl), if_neg (show ¬ ((a.bg = true ∧ (B ≠ y ∨ 16 = 17)) ∨ (16 = 21 ∧ 0 < a.rows.length)) from fun e => by
     rcases e with ⟨e1, e2 | e2⟩ | ⟨e1, _⟩
     ·
      exact e2 (hyb e1).symm
     ·
      cases e2
     ·
      cases e1)]
    refine ⟨rfl, fun _ => sm_start (x := x) (y := y) ?_ hbg (fun e => by rw [show a.data = true from e] at hd; cases hd) (fun z hz => by cases hz)⟩
    simp [hd]
   ·
    subst hc
    rw [if_neg (show ¬ (17 : Nat) = 16 by decide), if_neg (show ¬ (17 : Nat) = 21 by decide), if_pos (show (17 : Nat) = 17 from rfl)]
    by_cases hg : a.bg = true
    ·
     rw [if_pos hg, if_pos (show (a.bg = true ∧ (B ≠ y ∨ 17 = 17)) ∨ (17 = 21 ∧ 0 < a.rows.length) from .inl ⟨hg, .inr rfl⟩)]
     exact ⟨rfl, no_⟩
    ·
     have hg : a.bg = false := by simpa using hg
     rw [if_neg (show ¬ a.bg = true by rw [hg]; decide), if_neg (show ¬ ((a.bg = true ∧ (B ≠ y ∨ 17 = 17)) ∨ (17 = 21 ∧ 0 < a.rows.length)) from fun e => by
      rcases e with ⟨e1, _⟩ | ⟨e1, _⟩
      ·
       rw [hg] at e1; cases e1
      ·
       cases e1)]
     refine ⟨rfl, fun _ => sm_start (x := x) (y := y) ?_ (fun e => by rw [show a.bg = true from e] at hg; cases hg) (fun e => by rw [show a.data = true from e] at hd; cases hd) (fun z hz => ?_)⟩
     ·
      simp [hd]
     ·
      have hz : z ∈ a.rows ++ [r] := hz
      rcases List.mem_append.1 hz with hz | hz
      ·
       exact hib z hz
      ·
       rw [List.mem_singleton.1 hz]; exact hrow
   ·
    subst hc
    rw [if_neg (show ¬ (21 : Nat) = 16 by decide), if_pos (show (21 : Nat) = 21 from rfl)]
    by_cases hr : 0 < a.rows.length
    ·
     rw [if_pos hr, if_pos (show (a.bg = true ∧ (B ≠ y ∨ 21 = 17)) ∨ (21 = 21 ∧ 0 < a.rows.length) from .inr ⟨rfl, hr⟩)]
     exact ⟨rfl, no_⟩
    ·
     have hnil : a.rows = [] := List.eq_nil_of_length_eq_zero (by omega)
     rw [if_neg hr, if_neg (show ¬ ((a.bg = true ∧ (B ≠ y ∨ 21 = 17)) ∨ (21 = 21 ∧ 0 < a.rows.length)) from fun e => by
      rcases e with ⟨e1, e2 | e2⟩ | ⟨_, e1⟩
      ·
       exact e2 (hyb e1).symm
      ·
       cases e2
      ·
       exact hr e1)]
     refine ⟨rfl, fun _ => sm_start (x := x) (y := B) ?_ (fun _ => rfl) (fun e => by rw [show a.data = true from e] at hd; cases hd) (fun z hz => by rw [show ({ a with bg := true, bgb := B } : Jd).rows = [] from hnil] at hz; cases hz)⟩
     simp [hd, hnil]
theorem sim_endErase (h : Sm g a b) (h9 : a.op = 9) (c : Nat) : ((if b.listed.length = 2 then b.rerase g c else (false, b)) : Bool × Jd).1 = (a.endErase g c).1 ∧
  ((a.endErase g c).1 = true → Sm g (a.endErase g c).2 ((if b.listed.length = 2 then b.rerase g c else (false, b)) : Bool × Jd).2) := by
 obtain ⟨x, y, rfl⟩ := h.out
 have hd : a.data = false := h.i3 (.inr (.inr (.inr (.inr h9))))
 have hi9 := h.i9 (.inr h9)
 have hic := h.ic h9
 have hbg := h.bgb
 have hib := h.ib
 unfold Jd.endErase
 by_cases hl : a.listed.length = 2
 rotate_left
 ·
  rw [if_neg (show ¬ ({ a with col := x, bgb := y } : Jd).listed.length = 2 from hl), if_pos (show ¬ (c = 208 ∨ c = 209) ∨ a.listed.length < 2 from .inr (by omega))]
  exact ⟨rfl, no_⟩
 have hB := spB_in (hic hl)
 rw [if_pos (show ({ a with col := x, bgb := y } : Jd).listed.length = 2 from hl), show a.listed.length - 2 = 0 by omega, hB]
 have eb : ({ a with col := x, bgb := y } : Jd).rerase g c = if ¬ (c = 208 ∨ c = 209) then (false, { a with col := x, bgb := y })
  else if ¬ a.blocks.all (fun k => !decide (k % g.p.toNat = a.addr2 0 / g.s.toNat % g.p.toNat)) = true then (false, { a with col := x, bgb := y })
  else if c = 209 then (true, ({ a with col := x, bgb := y, blocks := a.blocks ++ [a.addr2 0 / g.s.toNat], data := false } : Jd).start)
  else (true, (Jd.erase g ({ a with col := x, bgb := y, blocks := a.blocks ++ [a.addr2 0 / g.s.toNat], data := false } : Jd)).start) := rfl
 rw [eb]
 generalize a.addr2 0 / g.s.toNat = B at *
 by_cases hc : c = 208 ∨ c = 209
 rotate_left
 ·
  rw [if_pos hc, if_pos (show ¬ (c = 208 ∨ c = 209) ∨ a.listed.length < 2 from .inl hc)]
  exact ⟨rfl, no_⟩
 rw [if_neg (show ¬ ¬ (c = 208 ∨ c = 209) from fun e => e hc), if_neg (show ¬ (¬ (c = 208 ∨ c = 209) ∨ a.listed.length < 2) by omega)]
 have hq : a.blocks.all (fun k => !decide (k % g.p.toNat = B % g.p.toNat)) = !a.blocks.any (fun k => decide (k % g.p.toNat = B % g.p.toNat)) := by
  rw [List.not_any_eq_all_not]
 rw [hq]
 cases hany : a.blocks.any (fun k => decide (k % g.p.toNat = B % g.p.toNat)) with
 | true =>
  rw [if_pos (show ¬ (!true) = true by decide), if_pos (show true = true from rfl)]
  exact ⟨rfl, no_⟩
 | false =>
  rw [if_neg (show ¬ ¬ (!false) = true by decide), if_neg (show ¬ false = true by decide)]
  rcases hc with hc | hc
  ·
   subst hc
   rw [if_neg (show ¬ (208 : Nat) = 209 by decide), if_pos (show (208 : Nat) = 208 from rfl)]
   refine ⟨rfl, fun _ => sm_start (x := x) (y := y) ?_ hbg (fun e => by rw [show a.data = true from e] at hd; cases hd) hib⟩
   simp [hd, Jd.erase]
  ·
   subst hc
   rw [if_pos (show (209 : Nat) = 209 from rfl), if_neg (show ¬ (209 : Nat) = 208 by decide)]
   refine ⟨rfl, fun _ => sm_start (x := x) (y := y) ?_ hbg (fun e => by rw [show a.data = true from e] at hd; cases hd) hib⟩
   simp [hd]
theorem sim_command (h : Sm g a b) (hbu : a.busy = false) (c : Nat) : (b.rcommand g c).1 = (a.command g c).1 ∧ ((a.command g c).1 = true → Sm g (a.command g c).2 (b.rcommand g c).2) := by
 have hs := h.same
 have ho := hs.1
 have hls := hs.2.1
 have hda := h.data
 have hid := h.id
 have hia := h.ia
 have hi8 := h.i8
 have hcs : a.op = 8 ∨ a.op = 9 ∨ a.op = 7 ∨ a.op = 2 ∨ a.op = 5 ∨ (a.op = 1 ∨ a.op = 6) ∨ (a.op = 0 ∨ a.op = 3 ∨ a.op = 4) := by omega
 unfold Jd.command Jd.rcommand
 rcases hcs with h8 | h9 | h7 | h2 | h5 | h1 | h0
 ·
  rw [if_pos (show b.op = 8 by omega), if_pos h8]
  exact sim_endLoad h h8 c
 ·
  rw [if_neg (show ¬ b.op = 8 by omega), if_pos (show b.op = 9 by omega), if_neg (show ¬ a.op = 8 by omega), if_pos h9]
  exact sim_endErase h h9 c
 ·
  rw [if_neg (show ¬ b.op = 8 by omega), if_neg (show ¬ b.op = 9 by omega), if_neg (show ¬ (b.op = 5 ∧ b.listed.length = 4) by omega), if_pos (show b.op = 7 by omega), if_neg (show ¬ a.op = 8 by omega), if_neg (show ¬ a.op = 9 by omega), if_pos h7]
  exact sim_endMove h hbu h7 c
 ·
  rw [if_neg (show ¬ b.op = 8 by omega), if_neg (show ¬ b.op = 9 by omega), if_neg (show ¬ (b.op = 5 ∧ b.listed.length = 4) by omega), if_neg (show ¬ b.op = 7 by omega), if_neg (show ¬ a.op = 8 by omega), if_neg (show ¬ a.op = 9 by omega), if_neg (show ¬ a.op = 7 by omega), if_pos h2]
  by_cases hl : 0 < a.listed.length
  ·
   rw [if_pos hl, if_pos (show b.op = 1 ∨ b.op = 6 ∨ (b.op = 2 ∧ b.listed.length = 1) ∨ (b.op = 5 ∧ b.listed.length = 0 ∧ b.data = true) from .inr (.inr (.inl ⟨by omega, by rw [hls]; have := hi8 (.inl h2); omega⟩)))]
   exact sim_begin h hbu c
  ·
   rw [if_neg hl, if_neg (show ¬ (b.op = 1 ∨ b.op = 6 ∨ (b.op = 2 ∧ b.listed.length = 1) ∨ (b.op = 5 ∧ b.listed.length = 0 ∧ b.data = true)) by rw [hls]; omega)]
   exact ⟨rfl, no_⟩
 ·
  rw [if_neg (show ¬ b.op = 8 by omega), if_neg (show ¬ b.op = 9 by omega), if_neg (show ¬ a.op = 8 by omega), if_neg (show ¬ a.op = 9 by omega), if_neg (show ¬ a.op = 7 by omega), if_neg (show ¬ a.op = 2 by omega), if_pos h5]
  by_cases hl4 : a.listed.length = 4
  ·
   rw [if_pos (show b.op = 5 ∧ b.listed.length = 4 from ⟨by omega, by rw [hls]; exact hl4⟩), if_pos (show 0 < a.listed.length by omega)]
   exact sim_endFetch h h5 hl4 c
  ·
   rw [if_neg (show ¬ (b.op = 5 ∧ b.listed.length = 4) by rw [hls]; omega), if_neg (show ¬ b.op = 7 by omega)]
   by_cases hl : 0 < a.listed.length
   ·
    rw [if_pos hl, if_neg (show ¬ (b.op = 1 ∨ b.op = 6 ∨ (b.op = 2 ∧ b.listed.length = 1) ∨ (b.op = 5 ∧ b.listed.length = 0 ∧ b.data = true)) by rw [hls]; omega)]
    unfold Jd.endFetch
    rw [if_neg (show ¬ (c = 48 ∧ 4 ≤ a.listed.length) by omega)]
    exact ⟨rfl, no_⟩
   ·
    rw [if_neg hl]
    cases hd : a.data with
    | false =>
     rw [if_pos rfl, if_neg (show ¬ (b.op = 1 ∨ b.op = 6 ∨ (b.op = 2 ∧ b.listed.length = 1) ∨ (b.op = 5 ∧ b.listed.length = 0 ∧ b.data = true)) from fun e => by
      rw [hda, hd] at e
      rcases e with e | e | e | e
      ·
       omega
      ·
       omega
      ·
       omega
      ·
       cases e.2.2)]
     exact ⟨rfl, no_⟩
    | true =>
     rw [if_neg (show ¬ true = false by decide), if_pos (show b.op = 1 ∨ b.op = 6 ∨ (b.op = 2 ∧ b.listed.length = 1) ∨ (b.op = 5 ∧ b.listed.length = 0 ∧ b.data = true) from .inr (.inr (.inr ⟨by omega, by rw [hls]; omega, by rw [hda, hd]⟩)))]
     exact sim_begin h hbu c
 ·
  rw [if_neg (show ¬ b.op = 8 by omega), if_neg (show ¬ b.op = 9 by omega), if_neg (show ¬ (b.op = 5 ∧ b.listed.length = 4) by omega), if_neg (show ¬ b.op = 7 by omega), if_neg (show ¬ a.op = 8 by omega), if_neg (show ¬ a.op = 9 by omega), if_neg (show ¬ a.op = 7 by omega), if_neg (show ¬ a.op = 2 by omega), if_neg (show ¬ a.op = 5 by omega), if_pos h1,
   if_pos (show b.op = 1 ∨ b.op = 6 ∨ (b.op = 2 ∧ b.listed.length = 1) ∨ (b.op = 5 ∧ b.listed.length = 0 ∧ b.data = true) by omega)]
  exact sim_begin h hbu c
 ·
  rw [if_neg (show ¬ b.op = 8 by omega), if_neg (show ¬ b.op = 9 by omega), if_neg (show ¬ (b.op = 5 ∧ b.listed.length = 4) by omega), if_neg (show ¬ b.op = 7 by omega), if_neg (show ¬ a.op = 8 by omega), if_neg (show ¬ a.op = 9 by omega), if_neg (show ¬ a.op = 7 by omega), if_neg (show ¬ a.op = 2 by omega), if_neg (show ¬ a.op = 5 by omega), if_neg (show ¬ (a.op = 1 ∨ a.op = 6) by omega),
   if_neg (show ¬ (b.op = 1 ∨ b.op = 6 ∨ (b.op = 2 ∧ b.listed.length = 1) ∨ (b.op = 5 ∧ b.listed.length = 0 ∧ b.data = true)) by omega)]
  exact ⟨rfl, no_⟩
/-- The note of polls is looked at by nobody but a cycle. -/
def polled (v : Bool) (r : Bool × Jd) : Bool × Jd := (r.1, { r.2 with pol := v })
theorem pol_begin (v : Bool) (c : Nat) : ({ a with pol := v } : Jd).begin c = polled v (a.begin c) := by
 unfold Jd.begin polled
 show (if jopen c = 0 ∨ a.may (jopen c) = false then _ else _) = _
 by_cases h : jopen c = 0 ∨ a.may (jopen c) = false
 ·
  rw [if_pos h, if_pos h]
 ·
  rw [if_neg h, if_neg h]
  by_cases h2 : jopen c ≠ 5 ∧ jopen c ≠ 7
  ·
   rw [if_pos h2, if_pos h2]; rfl
  ·
   rw [if_neg h2, if_neg h2]; rfl
theorem pol_endFetch (v : Bool) (c : Nat) : ({ a with pol := v } : Jd).endFetch c = polled v (a.endFetch c) := by
 unfold Jd.endFetch polled
 show (if c = 48 ∧ 4 ≤ a.listed.length then _ else _) = _
 split <;> rfl
theorem pol_endMove (v : Bool) (c : Nat) : ({ a with pol := v } : Jd).endMove c = polled v (a.endMove c) := by
 unfold Jd.endMove polled
 show (if c = 224 ∧ 2 ≤ a.listed.length then _ else _) = _
 split <;> rfl
theorem pol_endLoad (v : Bool) (c : Nat) : ({ a with pol := v } : Jd).endLoad g c = polled v (a.endLoad g c) := by
 unfold Jd.endLoad polled
 show (if a.listed.length < 4 ∨ a.count = 0 then _ else if a.can g (a.addr2 2) = false ∨ a.joins g (spB g (a.addr2 2)) (spP g (a.addr2 2)) = false then _ else if c = 16 then _ else if c = 21 then (if 0 < a.rows.length then _ else _) else if c = 17 then (if a.bg = true then _ else _) else _) = _
 repeat' split
 all_goals first | rfl | contradiction
theorem pol_endErase (v : Bool) (c : Nat) : ({ a with pol := v } : Jd).endErase g c = polled v (a.endErase g c) := by
 unfold Jd.endErase polled
 show (if ¬ (c = 208 ∨ c = 209) ∨ a.listed.length < 2 then _ else if a.blocks.any (fun x => decide (x % g.p.toNat = spB g (a.addr2 (a.listed.length - 2)) % g.p.toNat)) = true then _ else if c = 208 then _ else _) = _
 repeat' split
 all_goals first | rfl | contradiction
theorem pol_ite {p : Prop} [Decidable p] (v : Bool) (A B : Bool × Jd) : (if p then polled v A else polled v B) = polled v (if p then A else B) := by split <;> rfl
theorem pol_command (v : Bool) (c : Nat) : ({ a with pol := v } : Jd).command g c = polled v (a.command g c) := by
 unfold Jd.command
 rw [pol_begin, pol_endFetch, pol_endMove, pol_endLoad, pol_endErase]
 show (if a.op = 8 then polled v (a.endLoad g c) else if a.op = 9 then polled v (a.endErase g c) else if a.op = 7 then polled v (a.endMove c) else if a.op = 2 then (if 0 < a.listed.length then polled v (a.begin c) else polled v (false, a))
  else if a.op = 5 then (if 0 < a.listed.length then polled v (a.endFetch c) else if a.data = false then polled v (false, a) else polled v (a.begin c)) else if a.op = 1 ∨ a.op = 6 then polled v (a.begin c) else polled v (false, a)) = _
 simp only [pol_ite]
theorem pol_addr4 (v : Bool) : ({ a with pol := v } : Jd).addr4 g = polled v (a.addr4 g) := by
 unfold Jd.addr4 polled
 show (if a.listed.length = 4 then _ else _) = _
 split <;> rfl
theorem pol_addr (v : Bool) (c : Nat) : ({ a with pol := v } : Jd).addr g c = polled v (a.addr g c) := by
 have e1 := pol_addr4 (g := g) (a := { a.push c with data := false }) v
 have e2 := pol_addr4 (g := g) (a := a.push c) v
 unfold Jd.addr
 show (if a.lists c = false then polled v (false, a) else if a.op = 3 then polled v (true, ({ a.push c with data := true, col := 0 } : Jd).start)
  else if a.op = 5 then ({ ({ a.push c with data := false } : Jd) with pol := v } : Jd).addr4 g else if a.op = 8 then ({ a.push c with pol := v } : Jd).addr4 g
  else if a.op = 7 then polled v (decide ((a.push c).listed.length < 2) || decide ((a.push c).addr2 0 < g.raw.toNat), a.push c) else if a.op = 9 then polled v (decide ((a.push c).listed.length < 2) || decide ((a.push c).addr2 0 < g.rows_), a.push c) else polled v (true, a.push c)) = _
 rw [e1, e2]
 simp only [pol_ite]
theorem pol_write (v : Bool) : ({ a with pol := v } : Jd).write g = polled v (a.write g) := by
 unfold Jd.write polled
 dsimp only
 repeat' split
 all_goals first | rfl | contradiction | (simp_all; done)
theorem pol_read (v : Bool) : ({ a with pol := v } : Jd).read g = polled v (a.read g) := by
 unfold Jd.read polled Jd.readOut
 dsimp only
 repeat' split
 all_goals first | rfl | contradiction | (simp_all; done)
theorem pol_poll (v : Bool) (c : Nat) : ({ a with pol := v } : Jd).poll c = { a.poll c with pol := v } := by
 unfold Jd.poll Jd.spoil
 dsimp only
 repeat' split
 all_goals first | rfl | contradiction | (simp_all; done)
/-- What both judges have in common also behind what is rejected. -/
def Kp (a b : Jd) : Prop := b.er = a.er ∧ b.la = a.la ∧ b.pr = a.pr ∧ b.erases = a.erases ∧ b.busy = a.busy
theorem Kp.rfl_ : Kp a a := ⟨rfl, rfl, rfl, rfl, rfl⟩
theorem kp_no {x : Jd} (h : Kp a x) : ((false, x) : Bool × Jd).1 = false → Kp a ((false, x) : Bool × Jd).2 := fun _ => h
theorem kp_yes {x : Jd} : ((true, x) : Bool × Jd).1 = false → Kp a ((true, x) : Bool × Jd).2 := fun e => by cases e
theorem kp_ite {p : Prop} [Decidable p] {A B : Bool × Jd} (h1 : A.1 = false → Kp a A.2) (h2 : B.1 = false → Kp a B.2) : (if p then A else B).1 = false → Kp a (if p then A else B).2 := by
 split
 ·
  exact h1
 ·
  exact h2
theorem kp_any {v : Bool} {x : Jd} (h : Kp a x) : ((v, x) : Bool × Jd).1 = false → Kp a ((v, x) : Bool × Jd).2 := fun _ => h
theorem kp_begin (c : Nat) : (a.begin c).1 = false → Kp a (a.begin c).2 := kp_ite (kp_no Kp.rfl_) kp_yes
theorem kp_endFetch (c : Nat) : (a.endFetch c).1 = false → Kp a (a.endFetch c).2 := kp_ite kp_yes (kp_no Kp.rfl_)
theorem kp_endMove (c : Nat) : (a.endMove c).1 = false → Kp a (a.endMove c).2 := kp_ite kp_yes (kp_no Kp.rfl_)
theorem kp_endLoad (c : Nat) : (a.endLoad g c).1 = false → Kp a (a.endLoad g c).2 :=
 kp_ite (kp_no Kp.rfl_) (kp_ite (kp_no Kp.rfl_) (kp_ite kp_yes (kp_ite (kp_ite (kp_no Kp.rfl_) kp_yes) (kp_ite (kp_ite (kp_no Kp.rfl_) kp_yes) (kp_no Kp.rfl_)))))
theorem kp_endErase (c : Nat) : (a.endErase g c).1 = false → Kp a (a.endErase g c).2 := kp_ite (kp_no Kp.rfl_) (kp_ite (kp_no Kp.rfl_) (kp_ite kp_yes kp_yes))
theorem kp_command (c : Nat) : (a.command g c).1 = false → Kp a (a.command g c).2 :=
 kp_ite (kp_endLoad c) (kp_ite (kp_endErase c) (kp_ite (kp_endMove c) (kp_ite (kp_ite (kp_begin c) (kp_no Kp.rfl_)) (kp_ite (kp_ite (kp_endFetch c) (kp_ite (kp_no Kp.rfl_) (kp_begin c))) (kp_ite (kp_begin c) (kp_no Kp.rfl_))))))
theorem kp_addr (c : Nat) : (a.addr g c).1 = false → Kp a (a.addr g c).2 :=
 kp_ite (kp_no Kp.rfl_) (kp_ite kp_yes (kp_ite (kp_ite (kp_any ⟨rfl, rfl, rfl, rfl, rfl⟩) kp_yes) (kp_ite (kp_ite (kp_any ⟨rfl, rfl, rfl, rfl, rfl⟩) kp_yes) (kp_ite (kp_any ⟨rfl, rfl, rfl, rfl, rfl⟩) (kp_ite (kp_any ⟨rfl, rfl, rfl, rfl, rfl⟩) kp_yes)))))
theorem kp_write : (a.write g).1 = false → Kp a (a.write g).2 := kp_ite kp_yes (kp_ite (kp_any ⟨rfl, rfl, rfl, rfl, rfl⟩) (kp_no Kp.rfl_))
theorem kp_read : (a.read g).1 = false → Kp a (a.read g).2 :=
 kp_ite (kp_any ⟨rfl, rfl, rfl, rfl, rfl⟩) (kp_ite (kp_ite (kp_no Kp.rfl_) (kp_any ⟨rfl, rfl, rfl, rfl, rfl⟩)) (kp_ite (kp_any ⟨rfl, rfl, rfl, rfl, rfl⟩) (kp_no Kp.rfl_)))
theorem kp_acc (k : Int) (c : Nat) : (a.acc g k c).1 = false → Kp a (a.acc g k c).2 :=
 kp_ite kp_yes (kp_ite (kp_no Kp.rfl_) (kp_ite kp_yes (kp_ite kp_yes (kp_ite (kp_no Kp.rfl_) (kp_ite (kp_command c) (kp_ite (kp_addr c) (kp_ite kp_write (kp_ite kp_read (kp_no Kp.rfl_)))))))))
theorem kp_rbegin (c : Nat) : (b.rbegin c).1 = false → Kp b (b.rbegin c).2 := by
 unfold Jd.rbegin
 refine kp_ite (kp_no Kp.rfl_) ?_
 split
 ·
  exact kp_no Kp.rfl_
 ·
  exact kp_yes
theorem kp_rload (c : Nat) : (b.rload g c).1 = false → Kp b (b.rload g c).2 := kp_ite (kp_no Kp.rfl_) (kp_ite (kp_no Kp.rfl_) (kp_ite (kp_no Kp.rfl_) kp_yes))
theorem kp_rerase (c : Nat) : (b.rerase g c).1 = false → Kp b (b.rerase g c).2 := kp_ite (kp_no Kp.rfl_) (kp_ite (kp_no Kp.rfl_) (kp_ite kp_yes kp_yes))
theorem kp_rcommand (c : Nat) : (b.rcommand g c).1 = false → Kp b (b.rcommand g c).2 :=
 kp_ite (kp_ite (kp_rload c) (kp_no Kp.rfl_)) (kp_ite (kp_ite (kp_rerase c) (kp_no Kp.rfl_)) (kp_ite (kp_ite kp_yes (kp_no Kp.rfl_)) (kp_ite (kp_ite kp_yes (kp_no Kp.rfl_)) (kp_ite (kp_rbegin c) (kp_no Kp.rfl_)))))
theorem kp_raddr (c : Nat) : (b.raddr g c).1 = false → Kp b (b.raddr g c).2 :=
 kp_ite (kp_any ⟨rfl, rfl, rfl, rfl, rfl⟩) (kp_ite (kp_any ⟨rfl, rfl, rfl, rfl, rfl⟩) (kp_ite (kp_ite kp_yes (kp_no ⟨rfl, rfl, rfl, rfl, rfl⟩)) (kp_ite (kp_ite (kp_any ⟨rfl, rfl, rfl, rfl, rfl⟩) (kp_any ⟨rfl, rfl, rfl, rfl, rfl⟩))
  (kp_ite (kp_any ⟨rfl, rfl, rfl, rfl, rfl⟩) (kp_ite (kp_any ⟨rfl, rfl, rfl, rfl, rfl⟩) (kp_no ⟨rfl, rfl, rfl, rfl, rfl⟩))))))
theorem kp_rwrite : (b.rwrite g).1 = false → Kp b (b.rwrite g).2 := kp_ite kp_yes (kp_any ⟨rfl, rfl, rfl, rfl, rfl⟩)
theorem kp_rread : (b.rread g).1 = false → Kp b (b.rread g).2 := kp_ite (kp_any ⟨rfl, rfl, rfl, rfl, rfl⟩) (kp_ite (kp_any ⟨rfl, rfl, rfl, rfl, rfl⟩) (kp_any ⟨rfl, rfl, rfl, rfl, rfl⟩))
theorem kp_rtk (st : Bool) (k : Int) (c : Nat) : (b.rtk g st k c).1 = false → Kp b (b.rtk g st k c).2 :=
 kp_ite kp_yes (kp_ite (kp_no Kp.rfl_) (kp_ite kp_yes (kp_ite kp_yes (kp_ite (kp_no Kp.rfl_) (kp_ite (kp_rcommand c) (kp_ite (kp_raddr c) (kp_ite kp_rwrite (kp_ite kp_rread (kp_no Kp.rfl_)))))))))
theorem Sm.pol (h : Sm g a b) (v : Bool) : Sm g { a with pol := v } { b with pol := v } := by
 obtain ⟨x, y, rfl⟩ := h.out
 exact { h with eq := rfl }
theorem enter_idle (h1 : a.op = 1) (h2 : a.listed = []) (h3 : a.count = 0) : a.enter 1 = a := by
 cases a
 simp_all [Jd.enter]
theorem sim_reset {v : Bool} (h : Sm g a b) : Sm g { a.stop.start with pol := v } ({ b with pol := v } : Jd).rreset.start := by
 obtain ⟨x, y, rfl⟩ := h.out
 show Sm g ({ ({ a.stop with pol := v } : Jd).enter 1 with busy := a.busy } : Jd).start _
 exact sm_start (x := x) (y := y) rfl (fun e => by cases (show false = true from e)) (fun e => by cases (show false = true from e)) (fun z hz => by cases (show z ∈ ([] : List Nat) from hz))
theorem sim_tk (h : Sm g a b) (v : Bool) (k : Int) (c : Nat) : (Jd.rtk g { b with pol := v } (a.pol && decide (k = 4)) k c).1 = (a.acc g k c).1 ∧ ((a.acc g k c).1 = true → Sm g { (a.acc g k c).2 with pol := v } (Jd.rtk g { b with pol := v } (a.pol && decide (k = 4)) k c).2) := by
 have h0 := h.pol v
 have ho : b.op = a.op := h.same.1
 have hbs : b.busy = a.busy := h.same.2.2.2.1
 unfold Jd.rtk Jd.acc Jd.cont
 by_cases hff : k = 1 ∧ c = 255
 ·
  rw [if_pos hff, if_pos hff]
  exact ⟨rfl, fun _ => sim_reset h⟩
 rw [if_neg hff, if_neg hff]
 by_cases h0p : a.op = 0
 ·
  rw [if_pos (show ({ b with pol := v } : Jd).op = 0 from ho.trans h0p), if_pos h0p]
  exact ⟨rfl, no_⟩
 rw [if_neg (show ¬ ({ b with pol := v } : Jd).op = 0 from fun e => h0p (ho.symm.trans e)), if_neg h0p]
 by_cases h70 : k = 1 ∧ c = 112
 ·
  rw [if_pos h70, if_pos h70]
  refine ⟨rfl, fun _ => ?_⟩
  by_cases hbu : a.busy = true
  ·
   obtain ⟨e1, e2, e3⟩ := h.i1 hbu
   have e : (true, if ({ b with pol := v } : Jd).busy = true then ({ b with pol := v } : Jd) else ({ b with pol := v } : Jd).enter 1).2 = { b with pol := v } := if_pos (show b.busy = true from hbs.trans hbu)
   rw [e]
   show Sm g { a.enter 1 with pol := v } _
   rw [enter_idle e1 e2 e3]
   exact h0
  ·
   have e : (true, if ({ b with pol := v } : Jd).busy = true then ({ b with pol := v } : Jd) else ({ b with pol := v } : Jd).enter 1).2 = ({ b with pol := v } : Jd).enter 1 := if_neg (show ¬ b.busy = true from fun e => hbu (hbs.symm.trans e))
   rw [e]
   obtain ⟨x, y, rfl⟩ := h.out
   exact sm_enter h0 (by simpa using hbu) 1 a.data (fun e => e) (fun e => by omega) (fun e => by omega) (by omega)
 rw [if_neg h70, if_neg h70]
 by_cases h4 : k = 4 ∧ a.pol = true
 ·
  rw [if_pos (show (a.pol && decide (k = 4)) = true by rw [h4.2, decide_eq_true h4.1]; rfl), if_pos h4]
  refine ⟨rfl, fun _ => ?_⟩
  have := sim_poll h0 c
  rw [pol_poll] at this
  exact this
 rw [if_neg (show ¬ (a.pol && decide (k = 4)) = true from fun e => h4 (by rw [Bool.and_eq_true] at e; exact ⟨of_decide_eq_true e.2, e.1⟩)), if_neg h4]
 by_cases hbu : a.busy = true
 ·
  rw [if_pos (show ({ b with pol := v } : Jd).busy = true from hbs.trans hbu), if_pos hbu]
  exact ⟨rfl, no_⟩
 rw [if_neg (show ¬ ({ b with pol := v } : Jd).busy = true from fun e => hbu (hbs.symm.trans e)), if_neg hbu]
 have hbf : a.busy = false := by simpa using hbu
 by_cases h1 : k = 1
 ·
  rw [if_pos h1, if_pos h1]
  have := sim_command h0 hbf c
  rw [pol_command] at this
  exact this
 rw [if_neg h1, if_neg h1]
 by_cases h2 : k = 2
 ·
  rw [if_pos h2, if_pos h2]
  have := sim_addr h0 hbf c
  rw [pol_addr] at this
  exact this
 rw [if_neg h2, if_neg h2]
 by_cases h3 : k = 3
 ·
  rw [if_pos h3, if_pos h3]
  have := sim_write h0 hbf
  rw [pol_write] at this
  exact this
 rw [if_neg h3, if_neg h3]
 by_cases h44 : k = 4
 ·
  rw [if_pos h44, if_pos h44]
  have := sim_read h0 hbf
  rw [pol_read] at this
  exact this
 rw [if_neg h44, if_neg h44]
 exact ⟨rfl, no_⟩
theorem pol_read4 : (a.read g).2.pol = a.pol := by
 unfold Jd.read Jd.readOut
 repeat' split
 all_goals rfl
theorem pol_poll4 (c : Nat) : (a.poll c).pol = a.pol := by
 unfold Jd.poll Jd.spoil
 repeat' split
 all_goals rfl
theorem pol_acc4 (c : Nat) : (a.acc g 4 c).2.pol = a.pol := by
 unfold Jd.acc Jd.cont
 rw [if_neg (show ¬ ((4 : Int) = 1 ∧ c = 255) by omega), if_neg (show ¬ ((4 : Int) = 1 ∧ c = 112) by omega), if_neg (show ¬ (4 : Int) = 1 by omega), if_neg (show ¬ (4 : Int) = 2 by omega), if_neg (show ¬ (4 : Int) = 3 by omega), if_pos (show (4 : Int) = 4 from rfl)]
 repeat' split
 all_goals first | rfl | exact pol_read4 | exact pol_poll4 c
/-- A judge and a judge, whatever was rejected. -/
structure Sim (g : Gm) (a b : Jd) : Prop where
 rej : b.rej = a.rej
 kp : Kp a b
 sm : a.rej = false → Sm g a b
theorem Sm.kp (h : Sm g a b) : Kp a b := by
 obtain ⟨x, y, rfl⟩ := h.out
 exact ⟨rfl, rfl, rfl, rfl, rfl⟩
theorem Kp.both {a' b' : Jd} (h : Kp a b) (ha : Kp a a') (hb : Kp b b') : Kp a' b' :=
 ⟨hb.1.trans (h.1.trans ha.1.symm), hb.2.1.trans (h.2.1.trans ha.2.1.symm), hb.2.2.1.trans (h.2.2.1.trans ha.2.2.1.symm), hb.2.2.2.1.trans (h.2.2.2.1.trans ha.2.2.2.1.symm), hb.2.2.2.2.trans (h.2.2.2.2.trans ha.2.2.2.2.symm)⟩
theorem Sim.step (h : Sim g a b) (k : Int) (c : Nat) : (b.rstep g k c).1 = (a.step g k c).1 ∧ Sim g (a.step g k c).2 (b.rstep g k c).2 := by
 unfold Jd.rstep Jd.step
 by_cases hr : a.rej = true
 ·
  rw [if_pos (h.rej.trans hr), if_pos hr]
  exact ⟨rfl, h⟩
 rw [if_neg (show ¬ b.rej = true from fun e => hr (h.rej.symm.trans e)), if_neg hr]
 have hrf : a.rej = false := by simpa using hr
 have hm := h.sm hrf
 have hp : b.pol = a.pol := hm.same.2.2.2.2.1
 have ht := sim_tk hm ((a.pol && decide (k = 4)) || (decide (k = 1) && decide (c = 112))) k c
 have e : b.rtakes g k c = Jd.rtk g { b with pol := (a.pol && decide (k = 4)) || (decide (k = 1) && decide (c = 112)) } (a.pol && decide (k = 4)) k c := by unfold Jd.rtakes; rw [hp]
 have hra := rej_acc (g := g) (j := a) k c
 have hrb := rtakes_rej (g := g) (j := b) k c
 rw [← e] at ht
 cases hv : (a.acc g k c).1 with
 | false =>
  rw [hv] at ht
  rw [if_neg (show ¬ (b.rtakes g k c).1 = true by rw [ht.1]; decide), if_pos rfl]
  have ka := kp_acc (g := g) (a := a) k c hv
  have kb : Kp b (b.rtakes g k c).2 := by
   have h1 := ht.1
   rw [e] at h1 ⊢
   have := kp_rtk (g := g) (b := { b with pol := (a.pol && decide (k = 4)) || (decide (k = 1) && decide (c = 112)) }) (a.pol && decide (k = 4)) k c h1
   exact this
  exact ⟨rfl, rfl, h.kp.both ka kb, fun e => by cases (show true = false from e)⟩
 | true =>
  rw [hv] at ht
  rw [if_pos ht.1, if_neg (show ¬ true = false by decide)]
  have hs := ht.2 rfl
  have e2 : (if k = 4 then (a.acc g k c).2 else { (a.acc g k c).2 with pol := decide (k = 1 ∧ c = 112) } : Jd) = { (a.acc g k c).2 with pol := (a.pol && decide (k = 4)) || (decide (k = 1) && decide (c = 112)) } := by
   by_cases h4 : k = 4
   ·
    subst h4
    rw [if_pos rfl, decide_eq_true (show (4 : Int) = 4 from rfl), decide_eq_false (show ¬ (4 : Int) = 1 by omega), Bool.and_true, Bool.false_and, Bool.or_false, ← pol_acc4 (g := g) (a := a) c]
   ·
    rw [if_neg h4, decide_eq_false h4, Bool.and_false, Bool.false_or, Bool.decide_and]
  rw [e2]
  exact ⟨rfl, by
   show (b.rtakes g k c).2.rej = (a.acc g k c).2.rej
   rw [hra, hrb, h.rej], hs.kp, fun _ => hs⟩
theorem Sim.power (h : Sim g a b) : Sim g a.power b.rpower := by
 obtain ⟨h1, h2, h3, h4, _⟩ := h.kp
 have e : b.rpower = { a.power with col := b.col, bgb := b.bgb } := by
  unfold Jd.rpower Jd.rreset Jd.lost Jd.power Jd.stop Jd.spoil Jd.enter
  rw [h1, h2, h3, h4]
 have hs : Sm g a.power b.rpower :=
  {
   eq := e
   bgb := fun e => by cases (show false = true from e)
   col := fun e => by
    rcases e with e | e
    ·
     cases (show false = true from e)
    ·
     exact absurd (show (0 : Nat) = 4 from e) (by decide)
   i1 := fun e => by cases (show false = true from e)
   i2 := fun e => absurd (show (0 : Nat) = 6 ∨ (0 : Nat) = 7 from e) (by decide)
   i3 := fun e => absurd (show (0 : Nat) = 2 ∨ (0 : Nat) = 3 ∨ (0 : Nat) = 4 ∨ (0 : Nat) = 8 ∨ (0 : Nat) = 9 from e) (by decide)
   i4 := fun _ e => absurd rfl e
   i5 := fun _ e => absurd (show (0 : Nat) = 4 from e) (by decide)
   i6 := fun e => absurd rfl e
   i7 := fun _ => rfl
   i8 := fun _ => Nat.zero_le _
   i9 := fun _ => Nat.zero_le _
   ia := Nat.zero_le _
   ib := fun x hx => by cases (show x ∈ ([] : List Nat) from hx)
   ic := fun _ e => absurd (show (0 : Nat) = 2 from e) (by decide)
   id := Nat.zero_le _ }
 exact ⟨rfl, hs.kp, fun _ => hs⟩
theorem Sim.new (g : Gm) : Sim g Jd.new Jd.new := by
 have hs : Sm g Jd.new Jd.new :=
  {
   eq := rfl
   bgb := fun _ => rfl
   col := fun _ => rfl
   i1 := fun e => by cases (show false = true from e)
   i2 := fun e => absurd (show (0 : Nat) = 6 ∨ (0 : Nat) = 7 from e) (by decide)
   i3 := fun e => absurd (show (0 : Nat) = 2 ∨ (0 : Nat) = 3 ∨ (0 : Nat) = 4 ∨ (0 : Nat) = 8 ∨ (0 : Nat) = 9 from e) (by decide)
   i4 := fun _ e => absurd rfl e
   i5 := fun _ e => absurd (show (0 : Nat) = 4 from e) (by decide)
   i6 := fun e => absurd rfl e
   i7 := fun _ => rfl
   i8 := fun _ => Nat.zero_le _
   i9 := fun _ => Nat.zero_le _
   ia := Nat.zero_le _
   ib := fun x hx => by cases (show x ∈ ([] : List Nat) from hx)
   ic := fun _ e => absurd (show (0 : Nat) = 2 from e) (by decide)
   id := Nat.zero_le _ }
 exact ⟨rfl, hs.kp, fun _ => hs⟩
theorem Sim.can (h : Sim g a b) (x : Nat) : b.can g x = a.can g x := by
 unfold Jd.can
 rw [h.kp.1, h.kp.2.1, h.kp.2.2.1]
/-- The column of the document's judge stays small. -/
def Cl (M : Nat) (r : Bool × Jd) : Prop := r.2.col ≤ M
theorem cl_ite {M : Nat} {p : Prop} [Decidable p] {A B : Bool × Jd} (h1 : Cl M A) (h2 : Cl M B) : Cl M (if p then A else B) := by
 split
 ·
  exact h1
 ·
  exact h2
theorem cl_rbegin {M : Nat} (h : b.col ≤ M) (c : Nat) : Cl M (b.rbegin c) := by
 unfold Jd.rbegin
 refine cl_ite h ?_
 split
 ·
  exact h
 ·
  exact h
theorem cl_rcommand {M : Nat} (h : b.col ≤ M) (hM : 65535 ≤ M) (h8 : ∀ x ∈ b.listed, x < 256) (c : Nat) : Cl M (b.rcommand g c) := by
 have h2 : b.addr2 0 ≤ M := Nat.le_trans (jaddr2_le h8 0) hM
 exact cl_ite (cl_ite (cl_ite h (cl_ite h (cl_ite h h))) h) (cl_ite (cl_ite (cl_ite h (cl_ite h (cl_ite h h))) h) (cl_ite (cl_ite h2 h) (cl_ite (cl_ite h2 h) (cl_ite (cl_rbegin h c) h))))
theorem cl_raddr {M : Nat} (h : b.col ≤ M) (hM : 65535 ≤ M) (h8 : ∀ x ∈ b.listed, x < 256) (c : Nat) (hc : c < 256) : Cl M (b.raddr g c) := by
 have h2 : (b.rpush c).addr2 0 ≤ M := Nat.le_trans (jaddr2_le (j := b.rpush c) (fun x hx => by
  rcases List.mem_append.1 (show x ∈ b.listed ++ [c] from hx) with hx | hx
  ·
   exact h8 x hx
  ·
   rw [List.mem_singleton.1 hx]; exact hc) 0) hM
 exact cl_ite h (cl_ite h (cl_ite (cl_ite (Nat.zero_le _) h) (cl_ite (cl_ite h2 h) (cl_ite h (cl_ite h h)))))
theorem cl_rwrite {M : Nat} (h : b.col ≤ M) : Cl M (b.rwrite g) := by
 unfold Jd.rwrite
 refine cl_ite ?_ h
 show (if b.count + 1 = 4 then ({ b with count := b.count + 1 } : Jd).start else { b with count := b.count + 1 } : Jd).col ≤ M
 split
 ·
  exact h
 ·
  exact h
theorem cl_rread {M : Nat} (h : b.col + 1 ≤ M) : Cl M (b.rread g) := cl_ite (show b.col ≤ M by omega) (cl_ite h h)
theorem cl_rpoll {M : Nat} (h : b.col ≤ M) (c : Nat) : (b.rpoll c).col ≤ M := by
 unfold Jd.rpoll
 split
 ·
  exact h
 ·
  show (if b.busy = true ∧ c % 2 = 1 then b.lost else b : Jd).col ≤ M
  split
  ·
   exact h
  ·
   exact h
theorem cl_rtk {M : Nat} (h : b.col + 1 ≤ M) (hM : 65535 ≤ M) (h8 : ∀ x ∈ b.listed, x < 256) (st : Bool) (k : Int) (c : Nat) (hc : c < 256) : Cl M (b.rtk g st k c) := by
 have h0 : b.col ≤ M := by omega
 refine cl_ite h0 (cl_ite h0 (cl_ite ?_ (cl_ite (cl_rpoll h0 c) (cl_ite h0 (cl_ite (cl_rcommand h0 hM h8 c) (cl_ite (cl_raddr h0 hM h8 c hc) (cl_ite (cl_rwrite h0) (cl_ite (cl_rread h) h0))))))))
 show (if b.busy = true then b else b.enter 1 : Jd).col ≤ M
 split
 ·
  exact h0
 ·
  exact h0
theorem cl_rstep {q : Nat} (h : b.col ≤ 65536 + q) (h8 : b.rej = false → ∀ x ∈ b.listed, x < 256) (k : Int) (c : Nat) (hc : c < 256) : (b.rstep g k c).2.col ≤ 65536 + (q + 1) := by
 unfold Jd.rstep
 by_cases hr : b.rej = true
 ·
  rw [if_pos hr]
  exact Nat.le_trans h (by omega)
 rw [if_neg hr]
 have h0 : Cl (65536 + (q + 1)) (b.rtakes g k c) := cl_rtk (b := { b with pol := (b.pol && decide (k = 4)) || (decide (k = 1) && decide (c = 112)) }) (show b.col + 1 ≤ _ by omega) (by omega) (h8 (by simpa using hr)) _ k c hc
 exact cl_ite (p := (b.rtakes g k c).1 = true) (A := (true, (b.rtakes g k c).2)) (B := (false, { (b.rtakes g k c).2 with rej := true })) h0 h0
theorem Sim.rok {q : Nat} (h : Sim g a b) (hr : b.rej = false) (hf : Jf g q a) (h8 : ∀ x ∈ a.listed, x < 256) (hc : b.col ≤ 65536 + q) (hq : q ≤ 100000) : Rok g b := by
 have hs := h.sm (h.rej.symm.trans hr)
 obtain ⟨x, y, rfl⟩ := hs.out
 exact {
     l8 := h8
     ln := Nat.le_trans hf.ls (by omega)
     cn := Nat.le_trans hf.ct (by omega)
     cl := Nat.le_trans hc (by omega)
     rn := Nat.le_trans hf.rn (by omega)
     bn := Nat.le_trans hf.bn (by omega)
     rw_ := hs.ib
     bl := hf.bb
     pr := fun x => Nat.le_trans (hf.pr x) (by omega)
     op := hs.id
     e2 := hs.ic }
end
end Go.Proofs.Ytaidgjidpghgnaa

/-
  The document's judge: New.
-/
namespace Go.Proofs.Ytaidgjidpghgnaa
open Go.RowKit
set_option maxRecDepth 100000

section
variable {ρ : Nat → Nat} {I K : Nat → Prop} {w w' : World} {p : Nat} {g : Gm} {j j' : Jd} {m m' : RjM}
theorem Cells.of_own {w : World} {base : Nat} {e : TypeId} {A : Option Addr} {n c : Nat} {xs : List Value} {f : Nat → Option Value} (h : w.ownsRow base e 1 (.slice A n c) n xs) (hn : 0 < n) (hf : ∀ i v, f i = some v → i < n ∧ xs[i]? = some v) :
  ∃ b, A = some ⟨b, 0, none⟩ ∧ base ≤ b ∧ Cells w b e f ∧ (Value.slice A n c).ownBlock = some b := by
 obtain ⟨b, hA, _, _, _, _, _⟩ := own_at h hn
 have hob : (Value.slice A n c).ownBlock = some b := by rw [hA]; rfl
 obtain ⟨hb, cur, hg⟩ := own_at1 h b hob
 have hC : CRow w b e cur := hg
 refine ⟨b, hA, hb, ⟨cur, hC, fun i v hv => ?_⟩, hob⟩
 obtain ⟨hi, hx⟩ := hf i v hv
 obtain ⟨b2, hA2, _, _, y, _, _⟩ := own_at h hi
 rw [hA] at hA2
 injection hA2 with hA2
 injection hA2 with hA2 _
 rw [← hA2, hx, hC.cell] at y
 exact y
theorem repl_succ (x : Value) (k : Nat) : List.replicate k x ++ [x] = List.replicate (k + 1) x := List.replicate_succ'.symm
/-- A judge under way: n blocks, r rows. -/
structure Nw (w0 : World) (w : World) (p : Nat) (g : Gm) (n r : Nat) (aE : Option Addr) (cE : Nat) (aL : Option Addr) (cL : Nat) (aP : Option Addr) (cP : Nat) : Prop where
 row : CRow w p 41 #[.int .i64 g.p, .int .i64 g.b, .int .i64 g.s, .int .i64 g.c, .int .i64 g.k, .int .i64 g.r, .int .i64 g.q, .slice aE n cE, .slice aL n cL, .slice aP r cP, .int .i64 0, .slice none 0 0, .int .i64 0, .bool false, .bool false, .bool false, .int .i64 0, .bool false, .int .i64 0, .slice none 0 0, .slice none 0 0, .slice none 0 0, .bool false]
 pz : w0.heap.size ≤ p
 er : w.ownsRow w0.heap.size 4 1 (.slice aE n cE) n (List.replicate n (.bool false))
 la : w.ownsRow w0.heap.size 3 1 (.slice aL n cL) n (List.replicate n (.int .i64 (-1)))
 pr : w.ownsRow w0.heap.size 3 1 (.slice aP r cP) r (List.replicate r (.int .i64 0))
 ap : ∀ k, (Value.slice aL n cL).ownBlock = some k → ¬ (Value.slice aP r cP).ownBlock = some k
 be : Below w0.heap.size w0 w
/-- Behind both loops. -/
theorem Nw.done {w0 : World} {aE aL aP : Option Addr} {cE cL cP n r : Nat} (h : Nw w0 w p g n r aE cE aL cL aP cP) (hg : g.ok = true) (hn : n = g.b.toNat) (hr : r = g.rows_) : RJ (fun k => w0.heap.size ≤ k) w p g Jd.new := by
 have hb := Gm.bounds_of hg
 have hn0 : 0 < n := by omega
 have hr0 : 0 < r := by
  rw [hr]
  exact Nat.mul_pos (by omega) (by omega)
 obtain ⟨e, hE, he, cE', oE⟩ := Cells.of_own (f := erF g Jd.new) h.er hn0 fun i v hv => by
  unfold erF at hv
  split at hv
  ·
   exact ⟨by omega, by rw [List.getElem?_replicate, if_pos (by omega)]; exact hv⟩
  ·
   cases hv
 obtain ⟨l, hL, hl, cL', oL⟩ := Cells.of_own (f := laF g Jd.new) h.la hn0 fun i v hv => by
  unfold laF at hv
  split at hv
  ·
   exact ⟨by omega, by rw [List.getElem?_replicate, if_pos (by omega)]; exact hv⟩
  ·
   cases hv
 obtain ⟨q, hP, hq, cP', oP⟩ := Cells.of_own (f := prF g Jd.new) h.pr hr0 fun i v hv => by
  unfold prF at hv
  split at hv
  ·
   exact ⟨by omega, by rw [List.getElem?_replicate, if_pos (by omega)]; exact hv⟩
  ·
   cases hv
 have hlq : l ≠ q := fun e => h.ap l oL (e ▸ oP)
 have hel : e ≠ l := cE'.ne cL' (by decide)
 have heq : e ≠ q := cE'.ne cP' (by decide)
 have hpc := Cells.of_row h.row
 have hpe : e ≠ p := cE'.ne hpc (by decide)
 have hpl : l ≠ p := cL'.ne hpc (by decide)
 have hpq : q ≠ p := cP'.ne hpc (by decide)
 have hel2 := cE'.lt
 have hll2 := cL'.lt
 have hql2 := cP'.lt
 have hpp2 := h.row.lt
 refine ⟨fun k => if k = p then 1 else if k = e then 2 else if k = l then 3 else if k = q then 4 else 0, ⟨e, cE, l, cL, q, cP, none, 0, none, 0, none, 0, none, 0⟩, ?_, ?_, ?_, ?_⟩
 ·
  have h0 := h.row
  rw [hE, hL, hP, hn, hr] at h0
  exact h0
 ·
  exact {
      ok := hg
      lt := fun k hk => by
       by_cases h1 : k = p
       ·
        omega
       ·
        by_cases h2 : k = e
        ·
         omega
        ·
         by_cases h3 : k = l
         ·
          omega
         ·
          by_cases h4 : k = q
          ·
           omega
          ·
           simp [h1, h2, h3, h4] at hk
      rp := if_pos rfl
      ce := cE'
      re := by simp [hpe]
      cl := cL'
      rl := by simp [hpl, Ne.symm hel]
      cq := cP'
      rq := by simp [hpq, Ne.symm heq, Ne.symm hlq]
      lis := ⟨rfl, .inl ⟨rfl, rfl⟩⟩
      rL := fun k hk => by cases hk
      row := ⟨rfl, .inl ⟨rfl, rfl⟩⟩
      rR := fun k hk => by cases hk
      blk := ⟨rfl, .inl ⟨rfl, rfl⟩⟩
      rB := fun k hk => by cases hk
      ers := ⟨rfl, .inl ⟨rfl, rfl⟩⟩
      rE := fun k hk => by cases hk }
 ·
  intro k hk
  show w0.heap.size ≤ k
  by_cases h1 : k = p
  ·
   have := h.pz; omega
  ·
   by_cases h2 : k = e
   ·
    omega
   ·
    by_cases h3 : k = l
    ·
     omega
    ·
     by_cases h4 : k = q
     ·
      omega
     ·
      simp [h1, h2, h3, h4] at hk
 ·
  intro k hk
  show w0.heap.size ≤ k
  have := h.be.size
  omega
theorem info_bool : (Try.prog.info? 4).map (fun i => (i.zero, i.size, i.bytes)) = some (some (.bool false), 1, 1) := by kernel_rfl
theorem one_at (w : World) (v : Value) (t : TypeId) : ∀ j u, [v][j]? = some u → (w.alloc (.cells #[v] t)).cell? ((⟨w.heap.size, 0, none⟩ : Addr).add j) = some u := fun j u hu => by
 match j, hu with
 | 0, hu =>
  injection hu with hu
  rw [← hu]
  exact (CRow.new w #[v] t).cell 0
/-- One append, told of the judge under way: what of it another row's append leaves. -/
theorem grow_keep {w0 W w1 : World} {v : Value} {bx : Obj} (hb : Below w0.heap.size w0 W) (hgb : Btw (fun x => v.ownBlock = some x) (W.alloc bx) w1) (hv : ∀ x, v.ownBlock = some x → w0.heap.size ≤ x) : Below w0.heap.size w0 w1 :=
 (hb.alloc hb.size bx).trans (hgb.below hv (hb.alloc hb.size bx).size)
set_option maxHeartbeats 8000000 in
theorem rNew (hg : g.ok = true) (w : World) : Calls Try.prog 9 #[g.val] w fun e w' => ∃ p, e = .returned (.pointer (some ⟨p, 0, none⟩)) ∧ Below w.heap.size w w' ∧ RJ (fun k => w.heap.size ≤ k) w' p g Jd.new := by
 have hb := Gm.bounds_of hg
 obtain ⟨NB, hNB⟩ : ∃ NB, NB = g.b.toNat := ⟨_, rfl⟩
 obtain ⟨S, hS⟩ : ∃ S, S = g.s.toNat := ⟨_, rfl⟩
 obtain ⟨R, hR⟩ : ∃ R, R = g.rows_ := ⟨_, rfl⟩
 have hb1 : g.b = (NB : Int) := by omega
 have hs1 : g.s = (S : Int) := by omega
 have hNB2 : NB ≤ 256 := by omega
 have hS2 : S ≤ 64 := by omega
 have hRR : R = NB * S := by rw [hR, hNB, hS]; rfl
 have hR2 : R ≤ 16384 := by rw [hRR]; exact Nat.mul_le_mul hNB2 hS2
 have t0 : (NB : Int) * (S : Int) = (R : Int) := by rw [hRR]; simp
 have t1 : IntKind.i64.wrap (R : Int) = (R : Int) := IntWalk.i64_in _ (by omega)
 obtain ⟨ibi, ib1, ib2, ib3, ib4⟩ := info_parts info_bool
 obtain ⟨iji, ij1, ij2, ij3, ij4⟩ := info_parts info_int
 have Z0 := Lib.hid (CRow.new w #[.int .i64 g.p, .int .i64 g.b, .int .i64 g.s, .int .i64 g.c, .int .i64 g.k, .int .i64 g.r, .int .i64 g.q] 23)
 have Z1 := Lib.hid (Z0.out.alloc (.cells #[.int .i64 g.p, .int .i64 g.b, .int .i64 g.s, .int .i64 g.c, .int .i64 g.k, .int .i64 g.r, .int .i64 g.q, .slice none 0 0, .slice none 0 0, .slice none 0 0, .int .i64 0, .slice none 0 0, .int .i64 0, .bool false, .bool false, .bool false, .int .i64 0, .bool false, .int .i64 0, .slice none 0 0, .slice none 0 0, .slice none 0 0, .bool false] 41))
 have B1 := Lib.hid ((below_new w (.cells #[.int .i64 g.p, .int .i64 g.b, .int .i64 g.s, .int .i64 g.c, .int .i64 g.k, .int .i64 g.r, .int .i64 g.q] 23)).alloc (by simp) (.cells #[.int .i64 g.p, .int .i64 g.b, .int .i64 g.s, .int .i64 g.c, .int .i64 g.k, .int .i64 g.r, .int .i64 g.q, .slice none 0 0, .slice none 0 0, .slice none 0 0, .int .i64 0, .slice none 0 0, .int .i64 0, .bool false, .bool false, .bool false, .int .i64 0, .bool false, .int .i64 0, .slice none 0 0, .slice none 0 0, .slice none 0 0, .bool false] 41))
 have P1 := Lib.hid (CRow.new (w.alloc (.cells #[.int .i64 g.p, .int .i64 g.b, .int .i64 g.s, .int .i64 g.c, .int .i64 g.k, .int .i64 g.r, .int .i64 g.q] 23)) #[.int .i64 g.p, .int .i64 g.b, .int .i64 g.s, .int .i64 g.c, .int .i64 g.k, .int .i64 g.r, .int .i64 g.q, .slice none 0 0, .slice none 0 0, .slice none 0 0, .int .i64 0, .slice none 0 0, .int .i64 0, .bool false, .bool false, .bool false, .int .i64 0, .bool false, .int .i64 0, .slice none 0 0, .slice none 0 0, .slice none 0 0, .bool false] 41)
 have hsz : (w.alloc (.cells #[.int .i64 g.p, .int .i64 g.b, .int .i64 g.s, .int .i64 g.c, .int .i64 g.k, .int .i64 g.r, .int .i64 g.q] 23)).heap.size = w.heap.size + 1 := by simp
 rw [hsz] at P1
 obtain ⟨p, hp⟩ : ∃ p, p = w.heap.size + 1 := ⟨_, rfl⟩
 have N1 := Lib.hid (show Nw w ((w.alloc (.cells #[.int .i64 g.p, .int .i64 g.b, .int .i64 g.s, .int .i64 g.c, .int .i64 g.k, .int .i64 g.r, .int .i64 g.q] 23)).alloc (.cells #[.int .i64 g.p, .int .i64 g.b, .int .i64 g.s, .int .i64 g.c, .int .i64 g.k, .int .i64 g.r, .int .i64 g.q, .slice none 0 0, .slice none 0 0, .slice none 0 0, .int .i64 0, .slice none 0 0, .int .i64 0, .bool false, .bool false, .bool false, .int .i64 0, .bool false, .int .i64 0, .slice none 0 0, .slice none 0 0, .slice none 0 0, .bool false] 41)) p g 0 0 none 0 none 0 none 0 from
  ⟨by rw [hp]; exact P1.out, by omega, World.ownsRow_nil _ _ _ _, World.ownsRow_nil _ _ _ _, World.ownsRow_nil _ _ _ _, fun k hk => (by cases hk), B1.out⟩)
 have HPW := Lib.hid (show p ≠ w.heap.size by omega)
 have HP := Lib.hid hp
 have gz : ∀ i v, #[.int .i64 g.p, .int .i64 g.b, .int .i64 g.s, .int .i64 g.c, .int .i64 g.k, .int .i64 g.r, .int .i64 g.q][i]? = some v → (w.alloc (.cells #[.int .i64 g.p, .int .i64 g.b, .int .i64 g.s, .int .i64 g.c, .int .i64 g.k, .int .i64 g.r, .int .i64 g.q] 23)).cell? ⟨w.heap.size, i, none⟩ = some v := fun i v h => Z0.out.cell_at i v h
 have g0 := gz 0 _ rfl
 have g1 := gz 1 _ rfl
 have g2 := gz 2 _ rfl
 have g3 := gz 3 _ rfl
 have g4 := gz 4 _ rfl
 have g5 := gz 5 _ rfl
 have g6 := gz 6 _ rfl
 have HOK := Lib.hid hg
 have HNB := Lib.hid hNB
 have HR := Lib.hid hR
 have G1 := Lib.hid (show ∀ W, CRow W w.heap.size 23 #[.int .i64 g.p, .int .i64 g.b, .int .i64 g.s, .int .i64 g.c, .int .i64 g.k, .int .i64 g.r, .int .i64 g.q] → W.cell? ⟨w.heap.size, 1, none⟩ = some (.int .i64 (NB : Int)) from fun W h => by rw [← hb1]; exact h.cell_at 1 _ rfl)
 have G2 := Lib.hid (show ∀ W, CRow W w.heap.size 23 #[.int .i64 g.p, .int .i64 g.b, .int .i64 g.s, .int .i64 g.c, .int .i64 g.k, .int .i64 g.r, .int .i64 g.q] → W.cell? ⟨w.heap.size, 2, none⟩ = some (.int .i64 (S : Int)) from fun W h => by rw [← hs1]; exact h.cell_at 2 _ rfl)
 simp only [Gm.val]
 clear hb hNB hS hR hb1 hs1 hRR hsz hp hg gz P1 B1 Z0
 go_enter Try.func9, Try.ntmps9
 go_wp2
 clear g0 g1 g2 g3 g4 g5 g6
 rw [← HP.out]
 go_loopw [4] (fun i wr => ∃ (k : Nat) (aE : Option Addr) (cE : Nat) (aL : Option Addr) (cL : Nat), k ≤ NB ∧ i = .int .i64 (k : Int) ∧ Hid (Nw w wr p g k 0 aE cE aL cL none 0) ∧ Hid (CRow wr w.heap.size 23 #[.int .i64 g.p, .int .i64 g.b, .int .i64 g.s, .int .i64 g.c, .int .i64 g.k, .int .i64 g.r, .int .i64 g.q])) (fun i _ => NB - (intOf i).toNat)
 case atStart => exact ⟨0, none, 0, none, 0, Nat.zero_le _, rfl, N1, Z1⟩
 case round =>
  obtain ⟨k, aE, cE, aL, cL, hk, rfl, HN, HG⟩ := hrel
  rename World => wr
  clear N1 Z1
  have y1 := G1.out _ HG.out
  by_cases hlt : k < NB
  ·
   have d1 : decide ((k : Int) < (NB : Int)) = true := decide_eq_true (by omega)
   have ZW := Lib.hid (show w.heap.size ≤ wr.heap.size from HN.out.be.size)
   have x7 := HN.out.row.cell_at 7 (.slice aE k cE) rfl
   go_wp2_with (at_builtin; refine japp_at1 (wr.alloc (.cells #[.bool false] 4)) rfl (.tmp 19) (.tmp 20) 38 rfl w.heap.size 4 ibi _ 1 Try.underlying38 ib1 ib2 ib3 ib4 rfl _ k (List.replicate k (.bool false)) rfl (HN.out.er.alloc _) ⟨wr.heap.size, 0, none⟩ 1 1 [.bool false] rfl rfl (one_at wr (.bool false) 4) (by simp [Value.oneCell']) (by unfold maxLen; omega) (by omega) (by have h9 := ZW.out; have h8 : (wr.alloc (.cells #[.bool false] 4)).heap.size = wr.heap.size + 1 := (by simp); omega) ?_)
   intro v3 w1 hown hgr hwh
   obtain ⟨A1, c1, rfl⟩ := jown_form hown
   rw [repl_succ] at hown
   have hgb := Btw.of_grown (I := fun x => (Value.slice aE k cE).ownBlock = some x) hgr (fun _ h => h)
   have hwh : (Value.slice A1 (k + 1) c1).ownBlock = (Value.slice aE k cE).ownBlock ∨ (Value.slice A1 (k + 1) c1).ownBlock = some (wr.heap.size + 1) := by
    first
    | exact hwh
    | simpa using hwh
   have hbE : ∀ x, (Value.slice aE k cE).ownBlock = some x → w.heap.size ≤ x := fun x hx => (own_at1 HN.out.er x hx).1
   have r1 : CRow w1 p 41 #[.int .i64 g.p, .int .i64 g.b, .int .i64 g.s, .int .i64 g.c, .int .i64 g.k, .int .i64 g.r, .int .i64 g.q, .slice aE k cE, .slice aL k cL, .slice none 0 0, .int .i64 0, .slice none 0 0, .int .i64 0, .bool false, .bool false, .bool false, .int .i64 0, .bool false, .int .i64 0, .slice none 0 0, .slice none 0 0, .slice none 0 0, .bool false] := (HN.out.row.alloc _).btw hgb fun e => own_ne HN.out.er HN.out.row (by decide) p e rfl
   have z7 := r1.cell_at 7 (.slice aE k cE) rfl
   have f7 := r1.frozen 7
   have s1 := r1.setCell 7 (.slice A1 (k + 1) c1)
   have k1 := (Btw.refl (I := fun x => x = p) w1).setCell (p := ⟨p, 7, none⟩) (v := .slice A1 (k + 1) c1) rfl
   have G0 := ((HG.out.alloc (.cells #[.bool false] 4)).btw hgb fun e => own_ne HN.out.er HG.out (by decide) _ e rfl).btw k1 fun e => HPW.out e.symm
   have LA2 := Lib.hid (own_btw1 (own_btw1 (HN.out.la.alloc (.cells #[.bool false] 4)) hgb (own_ne2 HN.out.la HN.out.er (by decide))) k1 fun x hx e => own_ne HN.out.la HN.out.row (by decide) x hx e)
   have ER2 := Lib.hid (own_btw1 hown k1 fun x hx e => own_ne hown r1 (by decide) x hx e)
   have BE2 := Lib.hid ((grow_keep HN.out.be hgb hbE).trans (k1.below (S := w.heap.size) (fun x e => by have e : x = p := e; rw [e]; exact HN.out.pz) (grow_keep HN.out.be hgb hbE).size))
   have S1 := Lib.hid s1
   have GG := Lib.hid G0
   have x8 : (w1.setCell ⟨p, 7, none⟩ (.slice A1 (k + 1) c1)).cell? ⟨p, 8, none⟩ = some (.slice aL k cL) := s1.cell_at 8 _ rfl
   have ZW := Lib.hid (show w.heap.size ≤ (w1.setCell ⟨p, 7, none⟩ (.slice A1 (k + 1) c1)).heap.size from BE2.out.size)
   have HSZ2 := Lib.hid (show (w1.setCell ⟨p, 7, none⟩ (.slice A1 (k + 1) c1)).heap.size = w1.heap.size by simp)
   clear hown hgr hwh hgb hbE r1 s1 k1 G0
   go_wp2_with (at_builtin; refine japp_at1 ((w1.setCell ⟨p, 7, none⟩ (.slice A1 (k + 1) c1)).alloc (.cells #[.int .i64 (-1)] 3)) rfl (.tmp 28) (.tmp 29) 39 rfl w.heap.size 3 iji _ 8 Try.underlying39 ij1 ij2 ij3 ij4 rfl _ k (List.replicate k (.int .i64 (-1))) rfl (LA2.out.alloc _) ⟨w1.heap.size, 0, none⟩ 1 1 [.int .i64 (-1)] rfl rfl (HSZ2.out ▸ one_at (w1.setCell ⟨p, 7, none⟩ (.slice A1 (k + 1) c1)) (.int .i64 (-1)) 3) (by simp [Value.oneCell']) (by unfold maxLen; omega) (by omega) (by have h9 := ZW.out; have h8 : ((w1.setCell ⟨p, 7, none⟩ (.slice A1 (k + 1) c1)).alloc (.cells #[.int .i64 (-1)] 3)).heap.size = (w1.setCell ⟨p, 7, none⟩ (.slice A1 (k + 1) c1)).heap.size + 1 := (by simp); omega) ?_)
   intro v3 w3 hown hgr hwh
   obtain ⟨A2, c2, rfl⟩ := jown_form hown
   rw [repl_succ] at hown
   have hgb := Btw.of_grown (I := fun x => (Value.slice aL k cL).ownBlock = some x) hgr (fun _ h => h)
   have hwh : (Value.slice A2 (k + 1) c2).ownBlock = (Value.slice aL k cL).ownBlock ∨ (Value.slice A2 (k + 1) c2).ownBlock = some ((w1.setCell ⟨p, 7, none⟩ (.slice A1 (k + 1) c1)).heap.size + 1) := by
    first
    | exact hwh
    | simpa using hwh
   have hbL : ∀ x, (Value.slice aL k cL).ownBlock = some x → w.heap.size ≤ x := fun x hx => (own_at1 LA2.out x hx).1
   have r1 : CRow w3 p 41 #[.int .i64 g.p, .int .i64 g.b, .int .i64 g.s, .int .i64 g.c, .int .i64 g.k, .int .i64 g.r, .int .i64 g.q, .slice A1 (k + 1) c1, .slice aL k cL, .slice none 0 0, .int .i64 0, .slice none 0 0, .int .i64 0, .bool false, .bool false, .bool false, .int .i64 0, .bool false, .int .i64 0, .slice none 0 0, .slice none 0 0, .slice none 0 0, .bool false] := (S1.out.alloc _).btw hgb fun e => own_ne LA2.out S1.out (by decide) p e rfl
   have z8 := r1.cell_at 8 (.slice aL k cL) rfl
   have f8 := r1.frozen 8
   have s1 := r1.setCell 8 (.slice A2 (k + 1) c2)
   have k1 := (Btw.refl (I := fun x => x = p) w3).setCell (p := ⟨p, 8, none⟩) (v := .slice A2 (k + 1) c2) rfl
   have G0 := ((GG.out.alloc (.cells #[.int .i64 (-1)] 3)).btw hgb fun e => own_ne LA2.out GG.out (by decide) _ e rfl).btw k1 fun e => HPW.out e.symm
   have ER3 := own_btw1 (own_btw1 (ER2.out.alloc (.cells #[.int .i64 (-1)] 3)) hgb (own_ne2 ER2.out LA2.out (by decide))) k1 fun x hx e => own_ne ER2.out S1.out (by decide) x hx e
   have LA3 := own_btw1 hown k1 fun x hx e => own_ne hown r1 (by decide) x hx e
   have BE3 := (grow_keep BE2.out hgb hbL).trans (k1.below (S := w.heap.size) (fun x e => by have e : x = p := e; rw [e]; exact HN.out.pz) (grow_keep BE2.out hgb hbL).size)
   have NN := Lib.hid (show Nw w (w3.setCell ⟨p, 8, none⟩ (.slice A2 (k + 1) c2)) p g (k + 1) 0 A1 c1 A2 c2 none 0 from ⟨s1, HN.out.pz, ER3, LA3, World.ownsRow_nil _ _ _ _, fun x _ e => (by cases e), BE3⟩)
   have GN := Lib.hid G0
   clear hown hgr hwh hgb hbL r1 s1 k1 G0 ER3 LA3 BE3 GG S1 LA2 ER2 BE2
   go_wp2
   go_roundw
   case rel => exact ⟨k + 1, A1, c1, A2, c2, by omega, by go_num, NN, GN⟩
   case measure => simp [intOf]; omega
  ·
   obtain rfl : k = NB := by omega
   have d1 : decide ((k : Int) < (k : Int)) = false := decide_eq_false (by omega)
   go_wp2
   go_loopw [5] (fun i wr => ∃ (r : Nat) (aP : Option Addr) (cP : Nat), r ≤ R ∧ i = .int .i64 (r : Int) ∧ Hid (Nw w wr p g k r aE cE aL cL aP cP) ∧ Hid (CRow wr w.heap.size 23 #[.int .i64 g.p, .int .i64 g.b, .int .i64 g.s, .int .i64 g.c, .int .i64 g.k, .int .i64 g.r, .int .i64 g.q])) (fun i _ => R - (intOf i).toNat)
   case atStart => exact ⟨0, none, 0, Nat.zero_le _, rfl, HN, HG⟩
   case round =>
    obtain ⟨r, aP, cP, hr, rfl, HN2, HG2⟩ := hrel
    rename World => wr
    clear HN HG y1
    have y1 := G1.out _ HG2.out
    have y2 := G2.out _ HG2.out
    by_cases hlt : r < R
    ·
     have d2 : decide ((r : Int) < (R : Int)) = true := decide_eq_true (by omega)
     have ZW := Lib.hid (show w.heap.size ≤ wr.heap.size from HN2.out.be.size)
     have x9 := HN2.out.row.cell_at 9 (.slice aP r cP) rfl
     go_wp2_with (at_builtin; refine japp_at1 (wr.alloc (.cells #[.int .i64 0] 3)) rfl (.tmp 46) (.tmp 47) 39 rfl w.heap.size 3 iji _ 8 Try.underlying39 ij1 ij2 ij3 ij4 rfl _ r (List.replicate r (.int .i64 0)) rfl (HN2.out.pr.alloc _) ⟨wr.heap.size, 0, none⟩ 1 1 [.int .i64 0] rfl rfl (one_at wr (.int .i64 0) 3) (by simp [Value.oneCell']) (by unfold maxLen; omega) (by omega) (by have h9 := ZW.out; have h8 : (wr.alloc (.cells #[.int .i64 0] 3)).heap.size = wr.heap.size + 1 := (by simp); omega) ?_)
     intro v3 w1 hown hgr hwh
     obtain ⟨A1, c1, rfl⟩ := jown_form hown
     rw [repl_succ] at hown
     have hgb := Btw.of_grown (I := fun x => (Value.slice aP r cP).ownBlock = some x) hgr (fun _ h => h)
     have hwh : (Value.slice A1 (r + 1) c1).ownBlock = (Value.slice aP r cP).ownBlock ∨ (Value.slice A1 (r + 1) c1).ownBlock = some (wr.heap.size + 1) := by
      first
      | exact hwh
      | simpa using hwh
     have hbP : ∀ x, (Value.slice aP r cP).ownBlock = some x → w.heap.size ≤ x := fun x hx => (own_at1 HN2.out.pr x hx).1
     have r1 : CRow w1 p 41 #[.int .i64 g.p, .int .i64 g.b, .int .i64 g.s, .int .i64 g.c, .int .i64 g.k, .int .i64 g.r, .int .i64 g.q, .slice aE k cE, .slice aL k cL, .slice aP r cP, .int .i64 0, .slice none 0 0, .int .i64 0, .bool false, .bool false, .bool false, .int .i64 0, .bool false, .int .i64 0, .slice none 0 0, .slice none 0 0, .slice none 0 0, .bool false] := (HN2.out.row.alloc _).btw hgb fun e => own_ne HN2.out.pr HN2.out.row (by decide) p e rfl
     have z9 := r1.cell_at 9 (.slice aP r cP) rfl
     have f9 := r1.frozen 9
     have s1 := r1.setCell 9 (.slice A1 (r + 1) c1)
     have k1 := (Btw.refl (I := fun x => x = p) w1).setCell (p := ⟨p, 9, none⟩) (v := .slice A1 (r + 1) c1) rfl
     have G0 := ((HG2.out.alloc (.cells #[.int .i64 0] 3)).btw hgb fun e => own_ne HN2.out.pr HG2.out (by decide) _ e rfl).btw k1 fun e => HPW.out e.symm
     have ER3 := own_btw1 (own_btw1 (HN2.out.er.alloc (.cells #[.int .i64 0] 3)) hgb (own_ne2 HN2.out.er HN2.out.pr (by decide))) k1 fun x hx e => own_ne HN2.out.er HN2.out.row (by decide) x hx e
     have LA3 := own_btw1 (own_btw1 (HN2.out.la.alloc (.cells #[.int .i64 0] 3)) hgb HN2.out.ap) k1 fun x hx e => own_ne HN2.out.la HN2.out.row (by decide) x hx e
     have PR3 := own_btw1 hown k1 fun x hx e => own_ne hown r1 (by decide) x hx e
     have BE3 := (grow_keep HN2.out.be hgb hbP).trans (k1.below (S := w.heap.size) (fun x e => by have e : x = p := e; rw [e]; exact HN2.out.pz) (grow_keep HN2.out.be hgb hbP).size)
     have AP3 : ∀ x, (Value.slice aL k cL).ownBlock = some x → ¬ (Value.slice A1 (r + 1) c1).ownBlock = some x := fun x hx e => by
      rcases hwh with h1 | h1
      ·
       exact HN2.out.ap x hx (h1 ▸ e)
      ·
       rw [h1] at e
       injection e with e
       obtain ⟨_, cur, h9⟩ := own_at1 HN2.out.la x hx
       have := (Array.getElem?_eq_some_iff.1 h9).1
       omega
     have NN := Lib.hid (show Nw w (w1.setCell ⟨p, 9, none⟩ (.slice A1 (r + 1) c1)) p g k (r + 1) aE cE aL cL A1 c1 from ⟨s1, HN2.out.pz, ER3, LA3, PR3, AP3, BE3⟩)
     have GN := Lib.hid G0
     clear hown hgr hwh hgb hbP r1 s1 k1 G0 ER3 LA3 PR3 BE3 AP3
     go_wp2
     go_roundw
     case rel => exact ⟨r + 1, A1, c1, by omega, by go_num, NN, GN⟩
     case measure => simp [intOf]; omega
    ·
     have hrR : r = R := by omega
     have d2 : decide ((r : Int) < (R : Int)) = false := decide_eq_false (by omega)
     have HD := Lib.hid (HN2.out.done HOK.out HNB.out (hrR.trans HR.out))
     clear hrR
     go_wp2
     go_ret
     exact ⟨p, rfl, HN2.out.be, HD.out⟩
end
end Go.Proofs.Ytaidgjidpghgnaa

/-
  The closure of JudgeErases; a judge's states, call by call.
-/
namespace Go.Proofs.Ytaidgjidpghgnaa
open Go.RowKit
set_option maxRecDepth 100000

section
variable {I K : Nat → Prop} {w w' : World} {p : Nat} {g : Gm} {j : Jd} {m : Jm}
/-- Bytes of a kind, one behind the other: the judge behind them; all are accepted. -/
def stepsJ (g : Gm) (k : Int) (j : Jd) : List Nat → Jd
 | [] => j
 | b :: r => stepsJ g k (j.step g k b).2 r
def Acc (g : Gm) (k : Int) (j : Jd) : List Nat → Prop
 | [] => True
 | b :: r => (j.step g k b).1 = true ∧ Acc g k (j.step g k b).2 r
theorem jBox_btw {x : Nat} (h : GBox w x g) (hb : Btw I w w') (hn : ¬ I x) : GBox w' x g := by
 obtain ⟨hl, g0, g1, g2, g3, g4, g5, g6⟩ := h
 have K : ∀ i v, w.cell? ⟨x, i, none⟩ = some v → w'.cell? ⟨x, i, none⟩ = some v := fun i v hv => by
  have e := hb.block x hl hn
  unfold World.cell? at hv ⊢
  rw [e]
  exact hv
 exact ⟨Nat.lt_of_lt_of_le hl hb.size, K _ _ g0, K _ _ g1, K _ _ g2, K _ _ g3, K _ _ g4, K _ _ g5, K _ _ g6⟩
def jIdle (E : Nat → Bool) (L : Nat → Int) (P : Nat → Nat) : Jd := { op := 1, listed := [], count := 0, busy := false, pol := true, bg := false, bgb := 0, data := false, col := 0, rows := [], blocks := [], erases := [], er := E, la := L, pr := P, rej := false }
variable {E : Nat → Bool} {L : Nat → Int} {P : Nat → Nat} {lo hi b q : Nat}
def ersE (E : Nat → Bool) (b : Nat) (x : Nat) : Bool := if x ∈ [b] then true else E x
def ersL (L : Nat → Int) (b : Nat) (x : Nat) : Int := if x ∈ [b] then -1 else L x
def ersP (g : Gm) (P : Nat → Nat) (b : Nat) (r : Nat) : Nat := if r / g.s.toNat ∈ [b] then 0 else P r
def spE (E : Nat → Bool) (b : Nat) (x : Nat) : Bool := if x ∈ [b] then false else E x
def prgL (L : Nat → Int) (b q : Nat) (x : Nat) : Int := if x = b then (q : Int) else L x
def prgP (g : Gm) (P : Nat → Nat) (b q : Nat) (r : Nat) : Nat := if r = b * g.s.toNat + q then P r + 1 else P r
end
end Go.Proofs.Ytaidgjidpghgnaa

/-
  Three judges in memory, apart; their calls, as the walk of JudgeSteps makes them.
-/
namespace Go.Proofs.Ytaidgjidpghgnaa
open Go.RowKit
set_option maxRecDepth 100000
section
variable {X : Nat → Prop} {w0 w w' : World} {p q r n : Nat} {g : Gm} {a b c : Jd}
/-- Bytes that are listed. -/
def L8 (r : Bool × Jd) : Prop := ∀ x ∈ r.2.listed, x < 256
theorem l8_ite {p : Prop} [Decidable p] {A B : Bool × Jd} (h1 : L8 A) (h2 : L8 B) : L8 (if p then A else B) := by
 split
 ·
  exact h1
 ·
  exact h2
theorem l8_nil {v : Bool} {j : Jd} (h : j.listed = []) : L8 (v, j) := fun x hx => by
 rw [show ((v, j) : Bool × Jd).2.listed = [] from h] at hx
 cases hx
theorem l8_begin (h : ∀ x ∈ a.listed, x < 256) (k : Nat) : L8 (a.begin k) := l8_ite h (l8_nil rfl)
theorem l8_endFetch (h : ∀ x ∈ a.listed, x < 256) (k : Nat) : L8 (a.endFetch k) := l8_ite (l8_nil rfl) h
theorem l8_endMove (h : ∀ x ∈ a.listed, x < 256) (k : Nat) : L8 (a.endMove k) := l8_ite (l8_nil rfl) h
theorem l8_endLoad (h : ∀ x ∈ a.listed, x < 256) (k : Nat) : L8 (a.endLoad g k) := l8_ite h (l8_ite h (l8_ite (l8_nil rfl) (l8_ite (l8_ite h (l8_nil rfl)) (l8_ite (l8_ite h (l8_nil rfl)) h))))
theorem l8_endErase (h : ∀ x ∈ a.listed, x < 256) (k : Nat) : L8 (a.endErase g k) := l8_ite h (l8_ite h (l8_ite (l8_nil rfl) (l8_nil rfl)))
theorem l8_command (h : ∀ x ∈ a.listed, x < 256) (k : Nat) : L8 (a.command g k) :=
 l8_ite (l8_endLoad h k) (l8_ite (l8_endErase h k) (l8_ite (l8_endMove h k) (l8_ite (l8_ite (l8_begin h k) h) (l8_ite (l8_ite (l8_endFetch h k) (l8_ite h (l8_begin h k))) (l8_ite (l8_begin h k) h)))))
theorem l8_addr (h : ∀ x ∈ a.listed, x < 256) (k : Nat) (hk : k < 256) : L8 (a.addr g k) := by
 have h2 : ∀ x ∈ (a.push k).listed, x < 256 := fun x hx => by
  rcases List.mem_append.1 (show x ∈ a.listed ++ [k] from hx) with hx | hx
  ·
   exact h x hx
  ·
   rw [List.mem_singleton.1 hx]; exact hk
 exact l8_ite h (l8_ite (l8_nil rfl) (l8_ite (l8_ite h2 h2) (l8_ite (l8_ite h2 h2) (l8_ite h2 (l8_ite h2 h2)))))
theorem l8_write (h : ∀ x ∈ a.listed, x < 256) : L8 (a.write g) := by
 refine l8_ite ?_ (l8_ite h h)
 show ∀ x ∈ (if a.count + 1 = 4 then ({ a with count := a.count + 1 } : Jd).start else { a with count := a.count + 1 } : Jd).listed, x < 256
 split
 ·
  exact l8_nil (v := true) rfl
 ·
  exact h
theorem l8_read (h : ∀ x ∈ a.listed, x < 256) : L8 (a.read g) := l8_ite h (l8_ite (l8_ite h h) (l8_ite h h))
theorem l8_poll (h : ∀ x ∈ a.listed, x < 256) (k : Nat) : ∀ x ∈ (a.poll k).listed, x < 256 := by
 unfold Jd.poll
 split
 ·
  exact h
 ·
  show ∀ x ∈ (if k % 2 = 1 then a.spoil else a : Jd).listed, x < 256
  split
  ·
   exact h
  ·
   exact h
theorem l8_step (h : ∀ x ∈ a.listed, x < 256) (kk : Int) (bb : Nat) (hb : bb < 256) : ∀ x ∈ (a.step g kk bb).2.listed, x < 256 := by
 have h1 : L8 (a.acc g kk bb) := l8_ite (l8_nil rfl) (l8_ite h (l8_ite (l8_nil rfl) (l8_ite (l8_poll h bb) (l8_ite h (l8_ite (l8_command h bb) (l8_ite (l8_addr h bb hb) (l8_ite (l8_write h) (l8_ite (l8_read h) h))))))))
 refine l8_ite (p := a.rej = true) (A := (false, a)) h (l8_ite (p := (a.acc g kk bb).1 = false) (A := (false, { (a.acc g kk bb).2 with rej := true })) h1 ?_)
 show ∀ x ∈ (if kk = 4 then (a.acc g kk bb).2 else { (a.acc g kk bb).2 with pol := decide (kk = 1 ∧ bb = 112) } : Jd).listed, x < 256
 split
 ·
  exact h1
 ·
  exact h1
/-- What is so of both judges behind n cycles. -/
structure St (g : Gm) (n : Nat) (a b : Jd) : Prop where
 sim : Sim g a b
 jf : Jf g n a
 l8 : ∀ x ∈ a.listed, x < 256
 cb : b.col ≤ 65536 + n
theorem St.new (g : Gm) : St g 0 Jd.new Jd.new := ⟨Sim.new g, Jf.new g, fun x hx => (by cases (show x ∈ ([] : List Nat) from hx)), Nat.zero_le _⟩
theorem St.l8b (h : St g n a b) (hr : b.rej = false) : ∀ x ∈ b.listed, x < 256 := by
 have hs := h.sim.sm (h.sim.rej.symm.trans hr)
 rw [hs.same.2.1]
 exact h.l8
theorem St.step (hg : g.ok = true) (h : St g n a b) (kk : Int) (bb : Nat) (hb : bb < 256) : St g (n + 1) (a.step g kk bb).2 (b.rstep g kk bb).2 :=
 ⟨(h.sim.step kk bb).2, h.jf.step hg h.l8 kk bb hb, l8_step h.l8 kk bb hb, cl_rstep h.cb h.l8b kk bb hb⟩
theorem St.power (h : St g n a b) : St g (n + 1) a.power b.rpower :=
 ⟨h.sim.power, (show Jf g n a.power from { h.jf.stop with }).more (by omega), fun x hx => (by cases (show x ∈ ([] : List Nat) from hx)), Nat.le_trans (show b.rpower.col ≤ 65536 + n from h.cb) (by omega)⟩
theorem St.rok (h : St g n a b) (hn : n ≤ 100000) (hr : b.rej = false) : Rok g b := h.sim.rok hr h.jf h.l8 h.cb hn
theorem St.ers (h : St g n a b) : (∀ x ∈ b.erases, x < g.b.toNat) ∧ b.erases.length ≤ n := by
 rw [h.sim.kp.2.2.2.1]
 exact ⟨h.jf.eb, h.jf.en⟩
theorem Btw.old_ {I : Nat → Prop} (h : Btw I w w') : Btw (fun j => I j ∧ j < w.heap.size) w w' := ⟨h.os, h.tape, h.output, h.size, fun k hk hn => h.block k hk fun h1 => hn ⟨h1, hk⟩⟩
theorem Btw.more_ {I J : Nat → Prop} (h : Btw I w w') (hJ : ∀ j, I j → J j) : Btw J w w' := ⟨h.os, h.tape, h.output, h.size, fun k hk hn => h.block k hk fun h1 => hn (hJ k h1)⟩
/-- The code's judge a at p, the document's b at q and c at r: none has a block of another, nor one of X, nor one from before w0. -/
def J3 (w0 : World) (X : Nat → Prop) (w : World) (p q r : Nat) (g : Gm) (a b c : Jd) : Prop :=
 ∃ I1 I2 I3 : Nat → Prop, JH I1 w p g a ∧ RJ I2 w q g b ∧ RJ I3 w r g c ∧ (∀ k, k < w.heap.size → (I1 k → ¬ I2 k ∧ ¬ I3 k) ∧ (I2 k → ¬ I3 k)) ∧ ∀ k, I1 k ∨ I2 k ∨ I3 k → w0.heap.size ≤ k ∧ ¬ X k
theorem J3.shrunk (h : J3 w0 X w p q r g a b c) (hb : Below w.heap.size w w') : J3 w0 (fun k => X k ∨ (w.heap.size ≤ k ∧ k < w'.heap.size)) w' p q r g a b c := by
 obtain ⟨I1, I2, I3, h1, h2, h3, hd, hx⟩ := h
 have hbt : Btw (fun _ => False) w w' := Btw.of_below hb
 refine ⟨_, _, _, h1.shrink hb, h2.away hbt (fun _ _ e => e.elim), h3.away hbt (fun _ _ e => e.elim), fun k hk => ⟨fun e => ⟨fun e2 => ?_, fun e2 => ?_⟩, fun e e2 => ?_⟩, fun k hk => ?_⟩
 ·
  have h4 := e.2
  have h5 := (hd k (by omega)).1 e.1
  exact h5.1 e2.1
 ·
  have h4 := e.2
  have h5 := (hd k (by omega)).1 e.1
  exact h5.2 e2.1
 ·
  have h4 := e.2
  have h5 := (hd k (by omega)).2 e.1
  exact h5 e2.1
 ·
  have h6 : (I1 k ∨ I2 k ∨ I3 k) ∧ (k < w.heap.size ∨ w'.heap.size ≤ k) := by
   rcases hk with e | e | e
   ·
    exact ⟨.inl e.1, e.2⟩
   ·
    exact ⟨.inr (.inl e.1), e.2⟩
   ·
    exact ⟨.inr (.inr e.1), e.2⟩
  have h7 := hx k h6.1
  exact ⟨h7.1, fun e => by
   rcases e with e | e
   ·
    exact h7.2 e
   ·
    omega⟩
theorem J3.weak {X' : Nat → Prop} (h : J3 w0 X w p q r g a b c) (hX : ∀ k, X' k → X k) : J3 w0 X' w p q r g a b c := by
 obtain ⟨I1, I2, I3, h1, h2, h3, hd, hx⟩ := h
 exact ⟨I1, I2, I3, h1, h2, h3, hd, fun k hk => ⟨(hx k hk).1, fun e => (hx k hk).2 (hX k e)⟩⟩
theorem J3.below (h : J3 w0 X w p q r g a b c) (hb : Below w.heap.size w w') : J3 w0 X w' p q r g a b c := (h.shrunk hb).weak fun _ e => .inl e
theorem J3.box (h : J3 w0 X w p q r g a b c) (o : Obj) : J3 w0 (fun k => k = w.heap.size) (w.alloc o) p q r g a b c :=
 (h.shrunk (below_new w o)).weak fun k e => .inr (by
  have e2 : (w.alloc o).heap.size = w.heap.size + 1 := by simp
  omega)
theorem J3.busy (h : J3 w0 X w p q r g a b c) : w.cell? ⟨q, 14, none⟩ = some (.bool b.busy) := by
 obtain ⟨_, _, _, _, h2, _⟩ := h
 obtain ⟨_, _, hc, _⟩ := h2
 exact hc.cell_at 14 _ rfl
theorem t_step (h : J3 w0 X w p q r g a b c) (hf : Jf g n a) (hn : n ≤ 100000) (kk : Int) (bb : Nat) (hb : bb < 256) :
  Calls Try.prog 13 #[.pointer (some ⟨p, 0, none⟩), .agg #[.int .i64 kk, .int .u8 (bb : Int)]] w fun e w' => e = .returned (.bool (a.step g kk bb).1) ∧ J3 w0 X w' p q r g (a.step g kk bb).2 b c ∧ Btw (fun k => w0.heap.size ≤ k ∧ ¬ X k) w w' := by
 obtain ⟨I1, I2, I3, h1, h2, h3, hd, hx⟩ := h
 refine (jStep kk bb hb hn hf h1).mono ?_
 rintro e w' ⟨he, hj, hbt⟩
 refine ⟨he, ⟨I1, _, _, hj, h2.away hbt (fun k hk e1 e2 => ((hd k hk).1 e1).1 e2), h3.away hbt (fun k hk e1 e2 => ((hd k hk).1 e1).2 e2), fun k hk => ⟨fun e => ⟨fun e2 => ?_, fun e2 => ?_⟩, fun e e2 => ?_⟩, fun k hk => hx k (by
  rcases hk with e | e | e
  ·
   exact .inl e
  ·
   exact .inr (.inl e.1)
  ·
   exact .inr (.inr e.1))⟩, hbt.more_ fun k hk => hx k (.inl hk)⟩
 ·
  have h4 := e2.2
  exact ((hd k (by omega)).1 e).1 e2.1
 ·
  have h4 := e2.2
  exact ((hd k (by omega)).1 e).2 e2.1
 ·
  have h4 := e2.2
  exact (hd k (by omega)).2 e.1 e2.1
theorem t_power (h : J3 w0 X w p q r g a b c) (hf : Jf g n a) (hn : n ≤ 100000) :
  Calls Try.prog 11 #[.pointer (some ⟨p, 0, none⟩)] w fun e w' => e = .returned (.tuple #[]) ∧ J3 w0 X w' p q r g a.power b c ∧ Btw (fun k => w0.heap.size ≤ k ∧ ¬ X k) w w' := by
 obtain ⟨I1, I2, I3, h1, h2, h3, hd, hx⟩ := h
 refine (jPower hn hf h1).mono ?_
 rintro e w' ⟨he, hj, hbt⟩
 refine ⟨he, ⟨I1, _, _, hj, h2.away hbt (fun k hk e1 e2 => ((hd k hk).1 e1).1 e2), h3.away hbt (fun k hk e1 e2 => ((hd k hk).1 e1).2 e2), fun k hk => ⟨fun e => ⟨fun e2 => ?_, fun e2 => ?_⟩, fun e e2 => ?_⟩, fun k hk => hx k (by
  rcases hk with e | e | e
  ·
   exact .inl e
  ·
   exact .inr (.inl e.1)
  ·
   exact .inr (.inr e.1))⟩, hbt.more_ fun k hk => hx k (.inl hk)⟩
 ·
  have h4 := e2.2
  exact ((hd k (by omega)).1 e).1 e2.1
 ·
  have h4 := e2.2
  exact ((hd k (by omega)).1 e).2 e2.1
 ·
  have h4 := e2.2
  exact (hd k (by omega)).2 e.1 e2.1
theorem u_turn {I1 I2 I3 : Nat → Prop} {b' : Jd} (h1 : JH I1 w p g a) (h3 : RJ I3 w r g c) (hd : ∀ k, k < w.heap.size → (I1 k → ¬ I2 k ∧ ¬ I3 k) ∧ (I2 k → ¬ I3 k)) (hx : ∀ k, I1 k ∨ I2 k ∨ I3 k → w0.heap.size ≤ k ∧ ¬ X k)
  (hj : RJ I2 w' q g b') (hbt : Btw I2 w w') : J3 w0 X w' p q r g a b' c ∧ Btw (fun k => w0.heap.size ≤ k ∧ ¬ X k) w w' := by
 refine ⟨⟨_, I2, _, h1.away hbt.old_ (fun k e1 e2 => ((hd k e1.2).1 e2).1 e1.1), hj, h3.away hbt (fun k hk e1 e2 => (hd k hk).2 e1 e2), fun k hk => ⟨fun e => ⟨fun e2 => ?_, fun e2 => ?_⟩, fun e e2 => ?_⟩, fun k hk => hx k (by
  rcases hk with e | e | e
  ·
   exact .inl e.1
  ·
   exact .inr (.inl e)
  ·
   exact .inr (.inr e.1))⟩, hbt.more_ fun k hk => hx k (.inr (.inl hk))⟩
 ·
  have h4 := e.2
  exact ((hd k (by omega)).1 e.1).1 e2
 ·
  have h4 := e.2
  exact ((hd k (by omega)).1 e.1).2 e2.1
 ·
  have h4 := e2.2
  exact (hd k (by omega)).2 e e2.1
theorem u_step {j : Jd} (h : J3 w0 X w p q r g a b c) (hs : St g n j b) (hn : n ≤ 100000) (kk : Int) (bb : Nat) (hb : bb < 256) :
  Calls Try.prog 10 #[.pointer (some ⟨q, 0, none⟩), .agg #[.int .i64 kk, .int .u8 (bb : Int)]] w fun e w' => e = .returned (.bool (b.rstep g kk bb).1) ∧ J3 w0 X w' p q r g a (b.rstep g kk bb).2 c ∧ Btw (fun k => w0.heap.size ≤ k ∧ ¬ X k) w w' := by
 obtain ⟨I1, I2, I3, h1, h2, h3, hd, hx⟩ := h
 refine (rStep kk bb hb (hs.rok hn) hs.ers.1 (Nat.le_trans hs.ers.2 (by omega)) h2).mono ?_
 rintro e w' ⟨he, hj, hbt⟩
 exact ⟨he, u_turn h1 h3 hd hx hj hbt⟩
theorem u_power {j : Jd} (h : J3 w0 X w p q r g a b c) (hs : St g n j b) (hn : n ≤ 100000) :
  Calls Try.prog 12 #[.pointer (some ⟨q, 0, none⟩)] w fun e w' => e = .returned (.tuple #[]) ∧ J3 w0 X w' p q r g a b.rpower c ∧ Btw (fun k => w0.heap.size ≤ k ∧ ¬ X k) w w' := by
 obtain ⟨I1, I2, I3, h1, h2, h3, hd, hx⟩ := h
 refine (rpower hs.ers.1 (Nat.le_trans hs.ers.2 (by omega)) h2).mono ?_
 rintro e w' ⟨he, hj, hbt⟩
 exact ⟨he, u_turn h1 h3 hd hx hj hbt⟩
theorem v_step {j : Jd} (h : J3 w0 X w p q r g a b c) (hs : St g n j c) (hn : n ≤ 100000) (kk : Int) (bb : Nat) (hb : bb < 256) :
  Calls Try.prog 10 #[.pointer (some ⟨r, 0, none⟩), .agg #[.int .i64 kk, .int .u8 (bb : Int)]] w fun e w' => e = .returned (.bool (c.rstep g kk bb).1) ∧ J3 w0 X w' p q r g a b (c.rstep g kk bb).2 ∧ Btw (fun k => w0.heap.size ≤ k ∧ ¬ X k) w w' := by
 obtain ⟨I1, I2, I3, h1, h2, h3, hd, hx⟩ := h
 refine (rStep kk bb hb (hs.rok hn) hs.ers.1 (Nat.le_trans hs.ers.2 (by omega)) h3).mono ?_
 rintro e w' ⟨he, hj, hbt⟩
 refine ⟨he, ⟨_, _, I3, h1.away hbt.old_ (fun k e1 e2 => ((hd k e1.2).1 e2).2 e1.1), h2.away hbt (fun k hk e1 e2 => (hd k hk).2 e2 e1), hj, fun k hk => ⟨fun e => ⟨fun e2 => ?_, fun e2 => ?_⟩, fun e e2 => ?_⟩, fun k hk => hx k (by
  rcases hk with e | e | e
  ·
   exact .inl e.1
  ·
   exact .inr (.inl e.1)
  ·
   exact .inr (.inr e))⟩, hbt.more_ fun k hk => hx k (.inr (.inr hk))⟩
 ·
  have h4 := e.2
  exact ((hd k (by omega)).1 e.1).1 e2.1
 ·
  have h4 := e.2
  exact ((hd k (by omega)).1 e.1).2 e2
 ·
  have h4 := e.2
  exact (hd k (by omega)).2 e.1 e2
theorem t_busy (h : J3 w0 X w p q r g a b c) : Calls Try.prog 14 #[.pointer (some ⟨p, 0, none⟩)] w (Gives (.bool a.busy) w) := by
 obtain ⟨_, _, _, h1, _⟩ := h
 exact jBusy h1
theorem t_can (h : J3 w0 X w p q r g a b c) (x : Nat) : Calls Try.prog 15 #[.pointer (some ⟨p, 0, none⟩), .int .i64 (x : Int)] w (Gives (.bool (a.can g x)) w) := by
 obtain ⟨_, _, _, h1, _⟩ := h
 exact jCanN x h1
theorem t_can_neg (h : J3 w0 X w p q r g a b c) : Calls Try.prog 15 #[.pointer (some ⟨p, 0, none⟩), .int .i64 (-1)] w (Gives (.bool false) w) := by
 obtain ⟨_, _, _, h1, _⟩ := h
 exact jCan_no (-1) (fun e => by have h := e.2.1; omega) h1
theorem u_can (h : J3 w0 X w p q r g a b c) (x : Nat) : Calls Try.prog 16 #[.pointer (some ⟨q, 0, none⟩), .int .i64 (x : Int)] w (Gives (.bool (b.can g x)) w) := by
 obtain ⟨_, _, _, _, h2, _⟩ := h
 exact rcan x h2
theorem J3.start {wA w1 w2 w3 w4 : World} (h1 : JH (fun k => wA.heap.size ≤ k) w1 p g a) (h0 : wA.heap.size ≤ w1.heap.size) (h2 : Below w1.heap.size w1 w2) (h3 : Below w2.heap.size w2 w3) (h4 : RJ (fun k => w2.heap.size ≤ k) w3 q g b) (h5 : Below w3.heap.size w3 w4)
  (h6 : RJ (fun k => w3.heap.size ≤ k) w4 r g c) : J3 wA (fun _ => False) w4 p q r g a b c := by
 have s2 := h2.size
 have s3 := h3.size
 have s5 := h5.size
 have hbt : Btw (fun _ => False) w3 w4 := Btw.of_below h5
 refine ⟨_, _, _, h1.shrink (below_step (below_step h2 h3) h5), h4.away hbt (fun _ _ e => e.elim), h6, fun k hk => ⟨fun e => ⟨fun e2 => ?_, fun e2 => ?_⟩, fun e e2 => ?_⟩, fun k hk => ⟨?_, fun e => e⟩⟩
 ·
  have e3 := e.2
  have e4 : w2.heap.size ≤ k := e2.1
  omega
 ·
  have e3 := e.2
  have e4 : w3.heap.size ≤ k := e2
  omega
 ·
  have e3 := e.2
  have e4 : w3.heap.size ≤ k := e2
  omega
 ·
  rcases hk with e | e | e
  ·
   exact e.1
  ·
   have e4 : w2.heap.size ≤ k := e.1
   omega
  ·
   have e4 : w3.heap.size ≤ k := e
   omega
/-- What the walk keeps between a round's calls: the three judges, the geometry's box, the cycle's box xb. -/
def Wx (w w3 : World) (xb : Nat) (kk : Int) (bb : Nat) (W : World) (p q r : Nat) (g : Gm) (a b c : Jd) : Prop :=
 J3 w3 (fun x => x = xb) W p q r g a b c ∧ GBox W w.heap.size g ∧ Below w.heap.size w W ∧ w.heap.size < w3.heap.size ∧ CRow W xb 36 #[.int .i64 kk, .int .u8 (bb : Int)]
/-- And between the rounds. -/
def Wo (w w3 : World) (W : World) (p q r : Nat) (g : Gm) (a b c : Jd) : Prop :=
 J3 w3 (fun _ => False) W p q r g a b c ∧ GBox W w.heap.size g ∧ Below w.heap.size w W ∧ w.heap.size < w3.heap.size
section
variable {w3 W W' : World} {xb bb : Nat} {kk : Int} {a' b' c' : Jd}
theorem Wo.box (h : Wo w w3 W p q r g a b c) (kk : Int) (bb : Nat) : Wx w w3 W.heap.size kk bb (W.alloc (.cells #[.int .i64 kk, .int .u8 (bb : Int)] 36)) p q r g a b c := by
 obtain ⟨h1, h2, h3, h4⟩ := h
 have N := below_new W (.cells #[.int .i64 kk, .int .u8 (bb : Int)] 36)
 exact ⟨h1.box _, h2.below N, below_step h3 N, h4, CRow.new W #[.int .i64 kk, .int .u8 (bb : Int)] 36⟩
theorem Wx.fin (h : Wx w w3 xb kk bb W p q r g a b c) : Wo w w3 W p q r g a b c := ⟨h.1.weak fun _ e => e.elim, h.2.1, h.2.2.1, h.2.2.2.1⟩
theorem Wx.below (h : Wx w w3 xb kk bb W p q r g a b c) (hb : Below W.heap.size W W') : Wx w w3 xb kk bb W' p q r g a b c :=
 ⟨h.1.below hb, h.2.1.below hb, below_step h.2.2.1 hb, h.2.2.2.1, h.2.2.2.2.below hb⟩
theorem Wo.below (h : Wo w w3 W p q r g a b c) (hb : Below W.heap.size W W') : Wo w w3 W' p q r g a b c :=
 ⟨h.1.below hb, h.2.1.below hb, below_step h.2.2.1 hb, h.2.2.2⟩
theorem Wx.row (h : Wx w w3 xb kk bb W p q r g a b c) : CRow W xb 36 #[.int .i64 kk, .int .u8 (bb : Int)] := h.2.2.2.2
theorem Wx.turn (h : Wx w w3 xb kk bb W p q r g a b c) (hj : J3 w3 (fun x => x = xb) W' p q r g a' b' c') (hb : Btw (fun k => w3.heap.size ≤ k ∧ ¬ k = xb) W W') : Wx w w3 xb kk bb W' p q r g a' b' c' := by
 obtain ⟨_, h2, h3, h4, h5⟩ := h
 exact ⟨hj, jBox_btw h2 hb (fun e => by have := e.1; omega), h3.trans (hb.below (S := w.heap.size) (fun q hq => Nat.le_trans (Nat.le_of_lt h4) hq.1) h3.size), h4, h5.btw hb (fun e => e.2 rfl)⟩
theorem x_t (h : Wx w w3 xb kk bb W p q r g a b c) (hs : St g n a b) (hn : n ≤ 100000) (hb : bb < 256) :
  Calls Try.prog 13 #[.pointer (some ⟨p, 0, none⟩), .agg #[.int .i64 kk, .int .u8 (bb : Int)]] W fun e w' => e = .returned (.bool (a.step g kk bb).1) ∧ Wx w w3 xb kk bb w' p q r g (a.step g kk bb).2 b c := by
 refine (t_step h.1 hs.jf hn kk bb hb).mono ?_
 rintro e w' ⟨h1, h2, h3⟩
 exact ⟨h1, h.turn h2 h3⟩
theorem x_u (h : Wx w w3 xb kk bb W p q r g a' b c) (hs : St g n a b) (hn : n ≤ 100000) (hb : bb < 256) :
  Calls Try.prog 10 #[.pointer (some ⟨q, 0, none⟩), .agg #[.int .i64 kk, .int .u8 (bb : Int)]] W fun e w' => e = .returned (.bool (a.step g kk bb).1) ∧ Wx w w3 xb kk bb w' p q r g a' (b.rstep g kk bb).2 c := by
 refine (u_step h.1 hs hn kk bb hb).mono ?_
 rintro e w' ⟨h1, h2, h3⟩
 exact ⟨by rw [h1, (hs.sim.step kk bb).1], h.turn h2 h3⟩
theorem x_v {j : Jd} (h : Wx w w3 xb kk bb W p q r g a b c) (hs : St g n j c) (hn : n ≤ 100000) (hb : bb < 256) {v : Bool} (hv : (j.step g kk bb).1 = v) :
  Calls Try.prog 10 #[.pointer (some ⟨r, 0, none⟩), .agg #[.int .i64 kk, .int .u8 (bb : Int)]] W fun e w' => e = .returned (.bool v) ∧ Wx w w3 xb kk bb w' p q r g a b (c.rstep g kk bb).2 := by
 refine (v_step h.1 hs hn kk bb hb).mono ?_
 rintro e w' ⟨h1, h2, h3⟩
 exact ⟨by rw [h1, (hs.sim.step kk bb).1, hv], h.turn h2 h3⟩
theorem x_tp (h : Wx w w3 xb kk bb W p q r g a b c) (hs : St g n a b) (hn : n ≤ 100000) :
  Calls Try.prog 11 #[.pointer (some ⟨p, 0, none⟩)] W fun e w' => e = .returned (.tuple #[]) ∧ Wx w w3 xb kk bb w' p q r g a.power b c := by
 refine (t_power h.1 hs.jf hn).mono ?_
 rintro e w' ⟨h1, h2, h3⟩
 exact ⟨h1, h.turn h2 h3⟩
theorem x_up (h : Wx w w3 xb kk bb W p q r g a' b c) (hs : St g n a b) (hn : n ≤ 100000) :
  Calls Try.prog 12 #[.pointer (some ⟨q, 0, none⟩)] W fun e w' => e = .returned (.tuple #[]) ∧ Wx w w3 xb kk bb w' p q r g a' b.rpower c := by
 refine (u_power h.1 hs hn).mono ?_
 rintro e w' ⟨h1, h2, h3⟩
 exact ⟨h1, h.turn h2 h3⟩
end
end
end Go.Proofs.Ytaidgjidpghgnaa

/-
  The walk of JudgeSteps.
-/
namespace Go.Proofs.Ytaidgjidpghgnaa
open Go.RowKit
set_option maxRecDepth 100000

section
variable {I K : Nat → Prop} {w w' : World} {p : Nat} {g : Gm} {j : Jd} {m : Jm}
set_option maxHeartbeats 16000000 in
theorem JudgeSteps_walk (g : Gm) (A : Option Addr) (n d : Nat) (l : List Cy) (w : World) (hl : RC w A n l) (hn : n ≤ 9223372036854775807) :
  Calls Try.prog 3 #[g.val, .slice A n d] w (Gives (.bool true) w) := by
 have HR := Lib.hid hl
 have HS := Lib.hid (fun W => jSmall_any g W)
 have B1 := Lib.hid (below_new w (.cells #[.int .i64 g.p, .int .i64 g.b, .int .i64 g.s, .int .i64 g.c, .int .i64 g.k, .int .i64 g.r, .int .i64 g.q] 23))
 have Y1 := Lib.hid (GBox.new w g 23)
 clear hl
 simp only [Gm.val] at HS ⊢
 go_enter Try.func3, Try.ntmps3
 go_wp2_with fail
 refine (awake15_any _).mono ?_
 rintro _ w2 ⟨rfl, hB⟩
 have B2 := Lib.hid (below_step B1.out hB)
 have Y2 := Lib.hid (Y1.out.below hB)
 clear hB B1 Y1
 obtain ⟨_, g0, g1, g2, g3, g4, g5, g6⟩ := Y2.out
 go_wp2_with fail
 clear g0 g1 g2 g3 g4 g5 g6
 obtain ⟨v, hv, hc⟩ := HS.out w2
 refine hc.mono ?_
 rintro _ w3 ⟨rfl, hB⟩
 have B3 := Lib.hid (below_step B2.out hB)
 have Y3 := Lib.hid (Y2.out.below hB)
 clear hB B2 Y2 HS hc hv
 cases v
 ·
  go_wp2
  go_ret
  exact ⟨rfl, B3.out⟩
 by_cases h8 : n ≤ 800
 rotate_left
 ·
  have d1 : decide (800 < (n : Int)) = true := decide_eq_true (by omega)
  go_wp2
  go_ret
  exact ⟨rfl, B3.out⟩
 have d1 : decide (800 < (n : Int)) = false := decide_eq_false (by omega)
 have h800 := Lib.hid h8
 by_cases hok : g.ok = true
 rotate_left
 ·
  have hno : g.ok = false := by simpa using hok
  have HRN := Lib.hid (fun W => jRun_no hno A n d W)
  have HRG := Lib.hid (fun W => RefRight_any g W)
  rw [hno] at HRG
  have HNW := Lib.hid (fun W => jNew_no g hno W)
  simp only [Gm.val] at HRN HRG HNW
  clear hok hno
  obtain ⟨_, g0, g1, g2, g3, g4, g5, g6⟩ := Y3.out
  go_wp2_with fail
  clear g0 g1 g2 g3 g4 g5 g6
  refine (HNW.out _).mono ?_
  rintro _ w4 ⟨rfl, hB⟩
  have B4 := Lib.hid (below_step B3.out hB)
  have Y4 := Lib.hid (Y3.out.below hB)
  clear hB B3 Y3
  obtain ⟨_, g0, g1, g2, g3, g4, g5, g6⟩ := Y4.out
  go_wp2_with fail
  clear g0 g1 g2 g3 g4 g5 g6
  refine (HRN.out _).mono ?_
  rintro _ w5 ⟨rfl, hB⟩
  have B5 := Lib.hid (below_step B4.out hB)
  have Y5 := Lib.hid (Y4.out.below hB)
  clear hB B4 Y4
  obtain ⟨_, g0, g1, g2, g3, g4, g5, g6⟩ := Y5.out
  go_wp2_with fail
  clear g0 g1 g2 g3 g4 g5 g6
  refine (HRG.out _).mono ?_
  rintro _ w6 ⟨rfl, hB⟩
  have B6 := Lib.hid (below_step B5.out hB)
  have Y6 := Lib.hid (Y5.out.below hB)
  clear hB B5 Y5
  go_wp2
  go_ret
  exact ⟨rfl, B6.out⟩
 have HOK := Lib.hid hok
 have HRN := Lib.hid (fun W hr => jRun hok A n d l (by omega) W hr)
 have HRG := Lib.hid (fun W => RefRight_any g W)
 rw [hok] at HRG
 have HNW := Lib.hid (fun W => jNew g hok W)
 have HQN := Lib.hid (fun W => rNew hok W)
 simp only [Gm.val] at HRN HRG HNW HQN
 have L3 := Lib.hid B3.out
 clear hok
 obtain ⟨_, g0, g1, g2, g3, g4, g5, g6⟩ := Y3.out
 go_wp2_with fail
 clear g0 g1 g2 g3 g4 g5 g6
 refine (HNW.out _).mono ?_
 rintro _ w4 ⟨p, rfl, hB, hJ⟩
 have B4 := Lib.hid (below_step B3.out hB)
 have Y4 := Lib.hid (Y3.out.below hB)
 have K4 := Lib.hid hB.size
 have J4 := Lib.hid hJ
 clear hB hJ B3
 obtain ⟨_, g0, g1, g2, g3, g4, g5, g6⟩ := Y4.out
 go_wp2_with fail
 clear g0 g1 g2 g3 g4 g5 g6
 refine (HRN.out _ (HR.out.below B4.out)).mono ?_
 rintro _ w5 ⟨c, hc, rfl, hB⟩
 have HRI := Lib.hid hc
 have HRC := Lib.hid hc.1
 have B5 := Lib.hid (below_step B4.out hB)
 have Y5 := Lib.hid (Y4.out.below hB)
 have E5 := Lib.hid hB
 clear hB hc B4 Y4
 obtain ⟨_, g0, g1, g2, g3, g4, g5, g6⟩ := Y5.out
 go_wp2_with fail
 clear g0 g1 g2 g3 g4 g5 g6
 refine (HRG.out _).mono ?_
 rintro _ w6 ⟨rfl, hB⟩
 have B6 := Lib.hid (below_step B5.out hB)
 have Y6 := Lib.hid (Y5.out.below hB)
 have E6 := Lib.hid (below_step E5.out hB)
 clear hB B5 Y5 E5 HRG HRN HNW
 go_wp2
 refine wp_region_noPanic ?_
 refine wp_region_held_drew (S := fun w' => Below w6.heap.size w6 w') (by kernel_rfl) ((Below.refl _ _).drew) (fun C0 => ?_)
 refine tkH 0 zE0 _ C0 rfl (by kernel_rfl) rfl (fun W' hSw => by obtain ⟨_, y0, y1, y2, y3, y4, y5, y6⟩ := Y6.out.below hSw; clear hSw; dsimp only [zE0]; go_simp <;> with_reducible rfl) ?_
 try simp only [zE0, Act.put, zzI, zzO, zzS]
 refine tkH 2 zE1 _ C0 rfl (by kernel_rfl) rfl (fun W' hSw => by obtain ⟨_, y0, y1, y2, y3, y4, y5, y6⟩ := Y6.out.below hSw; clear hSw; dsimp only [zE1]; go_simp <;> with_reducible rfl) ?_
 try simp only [zE1, Act.put, zzI, zzO, zzS]
 refine wpAnyH_ready (rs := [1]) (by kernel_rfl) (by simp) ?_
 refine AllReadyH.cons (o := { dst := some 57, op := Op.call { callee := Callee.value (Operand.func 9), args := #[Operand.tmp 56], argTypes := #[23] }, type := 33, pos := "law.go:40", after := #[{ on := 0, ground := Ground.data }], guard := none }) rfl (fun K hK => ?_) AllReadyH.nil
 go_simp
 refine (HQN.out _).mono ?_
 rintro _ w7 ⟨q, rfl, hb, hQ⟩
 have HA := Lib.hid C0
 have HBW := Lib.hid hb
 have HQ7 := Lib.hid hQ
 have C7 := Lib.hid (show Below w6.heap.size w6 w7 from C0.trans (hb.mono C0.size))
 clear hb hQ
 go_wp2_with fail
 refine hK.out _ _ C7.out (fun C1 => ?_)
 clear hK K
 try simp only [Act.put, zzI, zzO, zzS]
 refine wpAnyH_ready (rs := [3]) (by kernel_rfl) (by simp) ?_
 refine AllReadyH.cons (o := { dst := some 59, op := Op.call { callee := Callee.value (Operand.func 9), args := #[Operand.tmp 58], argTypes := #[23] }, type := 33, pos := "law.go:40", after := #[{ on := 2, ground := Ground.data }, { on := 1, ground := Ground.chain }], guard := none }) rfl (fun K hK => ?_) AllReadyH.nil
 go_simp
 refine (HQN.out _).mono ?_
 rintro _ w8 ⟨r, rfl, hb, hQ⟩
 have HR8 := Lib.hid hQ
 have HBV := Lib.hid hb
 have C8 := Lib.hid (show Below w6.heap.size w6 w8 from C1.trans (hb.mono C1.size))
 clear hb hQ
 go_wp2_with fail
 refine hK.out _ _ C8.out (fun C2 => ?_)
 clear hK K
 try simp only [Act.put, zzI, zzO, zzS]
 refine tkH 4 zE2 _ C2 rfl (by kernel_rfl) rfl (fun W h => by clear h; dsimp only [zE2]; go_simp <;> with_reducible rfl) ?_
 try simp only [zE2, Act.put, zzI, zzO, zzS]
 refine tkH 5 zE3 _ C2 rfl (by kernel_rfl) rfl (fun W h => by clear h; dsimp only [zE3]; go_simp <;> with_reducible rfl) ?_
 try simp only [zE3, Act.put, zzI, zzO, zzS]
 refine wpAnyH_done (by kernel_rfl) ?_ _
 refine NoPanic.normal ?_
 have K8 := Lib.hid (show Wo w w3 w8 p q r g Jd.new Jd.new Jd.new from ⟨J3.start J4.out K4.out (below_step E6.out HA.out) HBW.out HQ7.out HBV.out HR8.out, Y6.out.below C8.out, below_step B6.out C8.out, Y3.out.1⟩)
 have S8 := Lib.hid (St.new g)
 clear HA HBW HQ7 HBV HR8 B6 Y6 E6 K4 J4 C7 C8 L3 HQN Y3
 go_wp2
 go_loopw [11, 12, 62] (fun f gd i wr => ∃ (k : Nat) (a b c2 : Jd), k ≤ n ∧ f = .int .i64 ((min k c : Nat) : Int) ∧ gd = .bool (decide (k ≤ c)) ∧ i = .int .i64 (k : Int) ∧ Hid (St g k a b) ∧ Hid (k ≤ c → St g k (stJ g l k) c2) ∧ Hid (Wo w w3 wr p q r g a b c2)) (fun _ _ i _ => n - (intOf i).toNat)
 case atStart => exact ⟨0, Jd.new, Jd.new, Jd.new, Nat.zero_le _, by simp, by simp, rfl, S8, Lib.hid fun _ => St.new g, K8⟩
 case round =>
  obtain ⟨k, a, b, c2, hk, rfl, rfl, rfl, ST, SV, HW⟩ := hrel
  clear K8 S8
  rename World => wr
  by_cases hlt : k < n
  ·
   obtain ⟨b9, o9, u, rfl, hb9, HU, hin, x0, x1⟩ := (HR.out.below HW.out.2.2.1).at_ hlt
   have d1 : decide ((k : Int) < (n : Int)) = true := decide_eq_true (by omega)
   have i0 : (0 : Int) ≤ (k : Int) := by omega
   have HK8 := Lib.hid (show k ≤ 100000 by have := h800.out; omega)
   have HUB := Lib.hid hin.2.2
   have HST := Lib.hid (fun (hc : k ≤ c) => (SV.out hc).step HOK.out u.k u.b hin.2.2)
   have HOKJ := Lib.hid (okJ_is (g := g) HU.out)
   rw [← stJ_succ HU.out] at HST
   have SV0 := Lib.hid SV.out
   obtain ⟨j1, hj1⟩ : ∃ j1, j1 = stJ g l k := ⟨_, rfl⟩
   obtain ⟨j2, hj2⟩ : ∃ j2, j2 = stJ g l (k + 1) := ⟨_, rfl⟩
   rw [← hj1] at SV0 HOKJ
   rw [← hj2] at HST
   have HJ2 := Lib.hid hj2
   have ok1 := HRI.out.2.1 k
   have ok0 := HRI.out.2.2
   obtain ⟨uk, huk⟩ : ∃ uk, uk = u.k := ⟨_, rfl⟩
   obtain ⟨ub, hub⟩ : ∃ ub, ub = u.b := ⟨_, rfl⟩
   rw [← huk] at HOKJ HST x0
   rw [← hub] at HOKJ HST HUB x1
   have XW := Lib.hid (HW.out.box uk ub)
   have STN := Lib.hid (ST.out.step HOK.out uk ub HUB.out)
   have STP := Lib.hid ST.out.power
   have m1 : IntKind.i64.wrap ((k : Int) + 1) = ((k + 1 : Nat) : Int) := by
    have := h800.out
    rw [IntWalk.i64_in _ (by omega)]
    simp
   have M1 := Lib.hid m1
   clear m1 hj1 hj2 huk hub hin hb9 HW SV HU
   by_cases hcc : k ≤ c
   ·
    have dk : decide (k ≤ c) = true := decide_eq_true hcc
    rw [dk]
    by_cases hc1 : k < c
    ·
     have hv : (j1.step g uk ub).1 = true := HOKJ.out.symm.trans (ok1 hc1)
     have MI := Lib.hid (show min k c = k from Nat.min_eq_left hcc)
     rw [MI.out]
     have z0 := XW.out.row.cell_at 0 _ rfl
     have z1 := XW.out.row.cell_at 1 _ rfl
     go_wp2_with fail
     clear x0 x1 z0 z1
     refine (x_v XW.out (SV0.out hcc) HK8.out HUB.out hv).mono ?_
     rintro _ w10 ⟨rfl, h3⟩
     clear XW
     have XW := Lib.hid h3
     clear h3 ok1 ok0
     by_cases h0 : uk = 0
     ·
      have z0 := XW.out.row.cell_at 0 _ rfl
      rw [h0] at z0
      go_wp2_with fail
      clear z0
      refine (x_tp XW.out ST.out HK8.out).mono ?_
      rintro _ w11 ⟨rfl, h3⟩
      have X2 := Lib.hid h3
      clear h3
      go_wp2_with fail
      refine (x_up X2.out ST.out HK8.out).mono ?_
      rintro _ wb ⟨rfl, h3⟩
      have X3 := Lib.hid h3
      clear h3
      have HBE := Lib.hid (show b.rpower.busy = a.power.busy from STP.out.sim.kp.2.2.2.2)
      go_wp2
      refine wp_region_noPanic ?_
      refine wp_region_held_drew (S := fun w' => Below wb.heap.size wb w') (by kernel_rfl) ((Below.refl _ _).drew) (fun C0 => ?_)
      refine tkH 0 zE4 _ C0 rfl (by kernel_rfl) rfl (fun W h => by clear h; dsimp only [zE4]; go_simp <;> with_reducible rfl) ?_
      try simp only [zE4, Act.put, zzI, zzO, zzS]
      refine tkH 2 zE5 _ C0 rfl (by kernel_rfl) rfl (fun W h => by clear h; dsimp only [zE5]; go_simp <;> with_reducible rfl) ?_
      try simp only [zE5, Act.put, zzI, zzO, zzS]
      refine tkH 3 zE6 _ C0 rfl (by kernel_rfl) rfl (fun W h => by clear h; dsimp only [zE6]; go_simp <;> with_reducible rfl) ?_
      try simp only [zE6, Act.put, zzI, zzO, zzS]
      refine tkH 4 zE7 _ C0 rfl (by kernel_rfl) rfl (fun W h => by clear h; dsimp only [zE7]; go_simp <;> with_reducible rfl) ?_
      try simp only [zE7, Act.put, zzI, zzO, zzS]
      refine tkH 5 zE8 _ C0 rfl (by kernel_rfl) rfl (fun W' hSw => by have y14 := (X3.out.below hSw).1.busy; rw [HBE.out] at y14; clear hSw; dsimp only [zE8]; go_simp <;> with_reducible rfl) ?_
      try simp only [zE8, Act.put, zzI, zzO, zzS]
      refine wpAnyH_ready (rs := [1]) (by kernel_rfl) (by simp) ?_
      refine AllReadyH.cons (o := zEc0) rfl (fun K hK => ?_) AllReadyH.nil
      dsimp only [zEc0]
      go_simp
      refine (t_busy (X3.out.below ((Below.refl _ _).drew)).1).mono ?_
      rintro _ w14 ⟨rfl, hb⟩
      have XE := Lib.hid (X3.out.below (below_step ((Below.refl _ _).drew) hb))
      have CE := Lib.hid (below_step (show Below wb.heap.size wb wb.drew from (Below.refl _ _).drew) hb)
      clear hb
      go_wp2_with fail
      refine hK.out _ _ CE.out (fun C1 => ?_)
      clear hK K
      try simp only [Act.put, zzI, zzO, zzS]
      refine tkH 6 zE9 _ C1 rfl (by kernel_rfl) rfl (fun W h => by clear h; dsimp only [zE9]; go_simp <;> with_reducible rfl) ?_
      try simp only [zE9, Act.put, zzI, zzO, zzS]
      refine wpAnyH_done (by kernel_rfl) ?_ _
      refine NoPanic.normal ?_
      go_wp2
      go_roundw
      case rel => exact ⟨k + 1, a.power, b.rpower, (c2.rstep g uk ub).2, by omega, by rw [Nat.min_eq_left (by omega)]; go_num, by rw [decide_eq_true (show k + 1 ≤ c by omega)], by go_num, STP, Lib.hid (fun _ => by rw [← HJ2.out]; exact HST.out hcc), Lib.hid XE.out.fin⟩
      case measure => simp [intOf]; omega
     ·
      have h0f : uk ≠ 0 := h0
      have z0 := XW.out.row.cell_at 0 _ rfl
      have b0 : ((uk : Int) == 0) = false := by simp; omega
      have j0 : ((uk : Int) = 0) = False := eq_false (by omega)
      have d0 : decide ((uk : Int) = 0) = false := decide_eq_false (by omega)
      go_wp2
      clear z0 b0 j0 d0
      refine wp_region_noPanic ?_
      refine wp_region_held_drew (S := fun w' => CRow w' wr.heap.size 36 #[.int .i64 uk, .int .u8 (ub : Int)]) (by kernel_rfl) (XW.out.row.below ((Below.refl _ _).drew)) (fun C0 => ?_)
      refine tkH 0 zE10 _ C0 rfl (by kernel_rfl) rfl (fun W h => by clear h; dsimp only [zE10]; go_simp <;> with_reducible rfl) ?_
      try simp only [zE10, Act.put, zzI, zzO, zzS]
      refine tkH 1 zE11 _ C0 rfl (by kernel_rfl) rfl (fun W' hSw => by have z0 := hSw.cell_at 0 _ rfl; have z1 := hSw.cell_at 1 _ rfl; clear hSw; dsimp only [zE11]; go_simp <;> with_reducible rfl) ?_
      try simp only [zE11, Act.put, zzI, zzO, zzS]
      refine tkH 3 zE12 _ C0 rfl (by kernel_rfl) rfl (fun W h => by clear h; dsimp only [zE12]; go_simp <;> with_reducible rfl) ?_
      try simp only [zE12, Act.put, zzI, zzO, zzS]
      refine tkH 4 zE13 _ C0 rfl (by kernel_rfl) rfl (fun W' hSw => by have z0 := hSw.cell_at 0 _ rfl; have z1 := hSw.cell_at 1 _ rfl; clear hSw; dsimp only [zE13]; go_simp <;> with_reducible rfl) ?_
      try simp only [zE13, Act.put, zzI, zzO, zzS]
      refine wpAnyH_ready (rs := [2]) (by kernel_rfl) (by simp) ?_
      refine AllReadyH.cons (o := zEc1) rfl (fun K hK => ?_) AllReadyH.nil
      dsimp only [zEc1]
      go_simp
      refine (x_t (XW.out.below ((Below.refl _ _).drew)) ST.out HK8.out HUB.out).mono ?_
      rintro _ w11 ⟨rfl, h3⟩
      have X2 := Lib.hid h3
      clear h3
      obtain ⟨v, hvv⟩ : ∃ v, v = (a.step g uk ub).1 := ⟨_, rfl⟩
      have HVV := Lib.hid hvv
      rw [← hvv]
      clear hvv
      go_wp2_with fail
      refine hK.out _ _ X2.out.row (fun C1 => ?_)
      clear hK K
      try simp only [Act.put, zzI, zzO, zzS]
      refine wpAnyH_ready (rs := [5]) (by kernel_rfl) (by simp) ?_
      refine AllReadyH.cons (o := zEc2) rfl (fun K hK => ?_) AllReadyH.nil
      dsimp only [zEc2]
      go_simp
      refine (x_u X2.out ST.out HK8.out HUB.out).mono ?_
      rintro _ w12 ⟨rfl, h3⟩
      rw [← HVV.out]
      have X3 := Lib.hid h3
      clear h3
      go_wp2_with fail
      refine hK.out _ _ X3.out.row (fun C2 => ?_)
      clear hK K
      try simp only [Act.put, zzI, zzO, zzS]
      refine tkH 6 zE14 _ C2 rfl (by kernel_rfl) rfl (fun W h => by clear h; dsimp only [zE14]; go_simp <;> with_reducible rfl) ?_
      try simp only [zE14, Act.put, zzI, zzO, zzS]
      refine wpAnyH_done (by kernel_rfl) ?_ _
      refine NoPanic.normal ?_
      obtain ⟨wb, hwb⟩ : ∃ wb, wb = w12 := ⟨_, rfl⟩
      rw [← hwb] at X3 ⊢
      clear hwb
      have HBE := Lib.hid (show (b.rstep g uk ub).2.busy = (a.step g uk ub).2.busy from STN.out.sim.kp.2.2.2.2)
      have vv : (v != v) = false := bne_self_eq_false v
      have vd : decide (v = v) = true := decide_eq_true rfl
      go_wp2
      clear vv vd
      refine wp_region_noPanic ?_
      refine wp_region_held_drew (S := fun w' => Below wb.heap.size wb w') (by kernel_rfl) ((Below.refl _ _).drew) (fun C0 => ?_)
      refine tkH 0 zE4 _ C0 rfl (by kernel_rfl) rfl (fun W h => by clear h; dsimp only [zE4]; go_simp <;> with_reducible rfl) ?_
      try simp only [zE4, Act.put, zzI, zzO, zzS]
      refine tkH 2 zE5 _ C0 rfl (by kernel_rfl) rfl (fun W h => by clear h; dsimp only [zE5]; go_simp <;> with_reducible rfl) ?_
      try simp only [zE5, Act.put, zzI, zzO, zzS]
      refine tkH 3 zE6 _ C0 rfl (by kernel_rfl) rfl (fun W h => by clear h; dsimp only [zE6]; go_simp <;> with_reducible rfl) ?_
      try simp only [zE6, Act.put, zzI, zzO, zzS]
      refine tkH 4 zE7 _ C0 rfl (by kernel_rfl) rfl (fun W h => by clear h; dsimp only [zE7]; go_simp <;> with_reducible rfl) ?_
      try simp only [zE7, Act.put, zzI, zzO, zzS]
      refine tkH 5 zE8 _ C0 rfl (by kernel_rfl) rfl (fun W' hSw => by have y14 := (X3.out.below hSw).1.busy; rw [HBE.out] at y14; clear hSw; dsimp only [zE8]; go_simp <;> with_reducible rfl) ?_
      try simp only [zE8, Act.put, zzI, zzO, zzS]
      refine wpAnyH_ready (rs := [1]) (by kernel_rfl) (by simp) ?_
      refine AllReadyH.cons (o := zEc0) rfl (fun K hK => ?_) AllReadyH.nil
      dsimp only [zEc0]
      go_simp
      refine (t_busy (X3.out.below ((Below.refl _ _).drew)).1).mono ?_
      rintro _ w14 ⟨rfl, hb⟩
      have XE := Lib.hid (X3.out.below (below_step ((Below.refl _ _).drew) hb))
      have CE := Lib.hid (below_step (show Below wb.heap.size wb wb.drew from (Below.refl _ _).drew) hb)
      clear hb
      go_wp2_with fail
      refine hK.out _ _ CE.out (fun C1 => ?_)
      clear hK K
      try simp only [Act.put, zzI, zzO, zzS]
      refine tkH 6 zE9 _ C1 rfl (by kernel_rfl) rfl (fun W h => by clear h; dsimp only [zE9]; go_simp <;> with_reducible rfl) ?_
      try simp only [zE9, Act.put, zzI, zzO, zzS]
      refine wpAnyH_done (by kernel_rfl) ?_ _
      refine NoPanic.normal ?_
      go_wp2
      go_roundw
      case rel => exact ⟨k + 1, (a.step g uk ub).2, (b.rstep g uk ub).2, (c2.rstep g uk ub).2, by omega, by rw [Nat.min_eq_left (by omega)]; go_num, by rw [decide_eq_true (show k + 1 ≤ c by omega)], by go_num, STN, Lib.hid (fun _ => by rw [← HJ2.out]; exact HST.out hcc), Lib.hid XE.out.fin⟩
      case measure => simp [intOf]; omega
    ·
     obtain rfl : k = c := by omega
     have hv : (j1.step g uk ub).1 = false := HOKJ.out.symm.trans (ok0 hlt)
     have z0 := XW.out.row.cell_at 0 _ rfl
     have z1 := XW.out.row.cell_at 1 _ rfl
     go_wp2_with fail
     clear x0 x1 z0 z1
     refine (x_v XW.out (SV0.out hcc) HK8.out HUB.out hv).mono ?_
     rintro _ w10 ⟨rfl, h3⟩
     clear XW
     have XW := Lib.hid h3
     clear h3 ok1 ok0
     by_cases h0 : uk = 0
     ·
      have z0 := XW.out.row.cell_at 0 _ rfl
      rw [h0] at z0
      go_wp2_with fail
      clear z0
      refine (x_tp XW.out ST.out HK8.out).mono ?_
      rintro _ w11 ⟨rfl, h3⟩
      have X2 := Lib.hid h3
      clear h3
      go_wp2_with fail
      refine (x_up X2.out ST.out HK8.out).mono ?_
      rintro _ wb ⟨rfl, h3⟩
      have X3 := Lib.hid h3
      clear h3
      have HBE := Lib.hid (show b.rpower.busy = a.power.busy from STP.out.sim.kp.2.2.2.2)
      go_wp2
      refine wp_region_noPanic ?_
      refine wp_region_held_drew (S := fun w' => Below wb.heap.size wb w') (by kernel_rfl) ((Below.refl _ _).drew) (fun C0 => ?_)
      refine tkH 0 zE4 _ C0 rfl (by kernel_rfl) rfl (fun W h => by clear h; dsimp only [zE4]; go_simp <;> with_reducible rfl) ?_
      try simp only [zE4, Act.put, zzI, zzO, zzS]
      refine tkH 2 zE5 _ C0 rfl (by kernel_rfl) rfl (fun W h => by clear h; dsimp only [zE5]; go_simp <;> with_reducible rfl) ?_
      try simp only [zE5, Act.put, zzI, zzO, zzS]
      refine tkH 3 zE6 _ C0 rfl (by kernel_rfl) rfl (fun W h => by clear h; dsimp only [zE6]; go_simp <;> with_reducible rfl) ?_
      try simp only [zE6, Act.put, zzI, zzO, zzS]
      refine tkH 4 zE7 _ C0 rfl (by kernel_rfl) rfl (fun W h => by clear h; dsimp only [zE7]; go_simp <;> with_reducible rfl) ?_
      try simp only [zE7, Act.put, zzI, zzO, zzS]
      refine tkH 5 zE8 _ C0 rfl (by kernel_rfl) rfl (fun W' hSw => by have y14 := (X3.out.below hSw).1.busy; rw [HBE.out] at y14; clear hSw; dsimp only [zE8]; go_simp <;> with_reducible rfl) ?_
      try simp only [zE8, Act.put, zzI, zzO, zzS]
      refine wpAnyH_ready (rs := [1]) (by kernel_rfl) (by simp) ?_
      refine AllReadyH.cons (o := zEc0) rfl (fun K hK => ?_) AllReadyH.nil
      dsimp only [zEc0]
      go_simp
      refine (t_busy (X3.out.below ((Below.refl _ _).drew)).1).mono ?_
      rintro _ w14 ⟨rfl, hb⟩
      have XE := Lib.hid (X3.out.below (below_step ((Below.refl _ _).drew) hb))
      have CE := Lib.hid (below_step (show Below wb.heap.size wb wb.drew from (Below.refl _ _).drew) hb)
      clear hb
      go_wp2_with fail
      refine hK.out _ _ CE.out (fun C1 => ?_)
      clear hK K
      try simp only [Act.put, zzI, zzO, zzS]
      refine tkH 6 zE9 _ C1 rfl (by kernel_rfl) rfl (fun W h => by clear h; dsimp only [zE9]; go_simp <;> with_reducible rfl) ?_
      try simp only [zE9, Act.put, zzI, zzO, zzS]
      refine wpAnyH_done (by kernel_rfl) ?_ _
      refine NoPanic.normal ?_
      go_wp2
      go_roundw
      case rel => exact ⟨k + 1, a.power, b.rpower, (c2.rstep g uk ub).2, by omega, by rw [Nat.min_eq_right (by omega)], by rw [decide_eq_false (show ¬ k + 1 ≤ k by omega)], by go_num, STP, Lib.hid (fun e => absurd e (by omega)), Lib.hid XE.out.fin⟩
      case measure => simp [intOf]; omega
     ·
      have h0f : uk ≠ 0 := h0
      have z0 := XW.out.row.cell_at 0 _ rfl
      have b0 : ((uk : Int) == 0) = false := by simp; omega
      have j0 : ((uk : Int) = 0) = False := eq_false (by omega)
      have d0 : decide ((uk : Int) = 0) = false := decide_eq_false (by omega)
      go_wp2
      clear z0 b0 j0 d0
      refine wp_region_noPanic ?_
      refine wp_region_held_drew (S := fun w' => CRow w' wr.heap.size 36 #[.int .i64 uk, .int .u8 (ub : Int)]) (by kernel_rfl) (XW.out.row.below ((Below.refl _ _).drew)) (fun C0 => ?_)
      refine tkH 0 zE10 _ C0 rfl (by kernel_rfl) rfl (fun W h => by clear h; dsimp only [zE10]; go_simp <;> with_reducible rfl) ?_
      try simp only [zE10, Act.put, zzI, zzO, zzS]
      refine tkH 1 zE11 _ C0 rfl (by kernel_rfl) rfl (fun W' hSw => by have z0 := hSw.cell_at 0 _ rfl; have z1 := hSw.cell_at 1 _ rfl; clear hSw; dsimp only [zE11]; go_simp <;> with_reducible rfl) ?_
      try simp only [zE11, Act.put, zzI, zzO, zzS]
      refine tkH 3 zE12 _ C0 rfl (by kernel_rfl) rfl (fun W h => by clear h; dsimp only [zE12]; go_simp <;> with_reducible rfl) ?_
      try simp only [zE12, Act.put, zzI, zzO, zzS]
      refine tkH 4 zE13 _ C0 rfl (by kernel_rfl) rfl (fun W' hSw => by have z0 := hSw.cell_at 0 _ rfl; have z1 := hSw.cell_at 1 _ rfl; clear hSw; dsimp only [zE13]; go_simp <;> with_reducible rfl) ?_
      try simp only [zE13, Act.put, zzI, zzO, zzS]
      refine wpAnyH_ready (rs := [2]) (by kernel_rfl) (by simp) ?_
      refine AllReadyH.cons (o := zEc1) rfl (fun K hK => ?_) AllReadyH.nil
      dsimp only [zEc1]
      go_simp
      refine (x_t (XW.out.below ((Below.refl _ _).drew)) ST.out HK8.out HUB.out).mono ?_
      rintro _ w11 ⟨rfl, h3⟩
      have X2 := Lib.hid h3
      clear h3
      obtain ⟨v, hvv⟩ : ∃ v, v = (a.step g uk ub).1 := ⟨_, rfl⟩
      have HVV := Lib.hid hvv
      rw [← hvv]
      clear hvv
      go_wp2_with fail
      refine hK.out _ _ X2.out.row (fun C1 => ?_)
      clear hK K
      try simp only [Act.put, zzI, zzO, zzS]
      refine wpAnyH_ready (rs := [5]) (by kernel_rfl) (by simp) ?_
      refine AllReadyH.cons (o := zEc2) rfl (fun K hK => ?_) AllReadyH.nil
      dsimp only [zEc2]
      go_simp
      refine (x_u X2.out ST.out HK8.out HUB.out).mono ?_
      rintro _ w12 ⟨rfl, h3⟩
      rw [← HVV.out]
      have X3 := Lib.hid h3
      clear h3
      go_wp2_with fail
      refine hK.out _ _ X3.out.row (fun C2 => ?_)
      clear hK K
      try simp only [Act.put, zzI, zzO, zzS]
      refine tkH 6 zE14 _ C2 rfl (by kernel_rfl) rfl (fun W h => by clear h; dsimp only [zE14]; go_simp <;> with_reducible rfl) ?_
      try simp only [zE14, Act.put, zzI, zzO, zzS]
      refine wpAnyH_done (by kernel_rfl) ?_ _
      refine NoPanic.normal ?_
      obtain ⟨wb, hwb⟩ : ∃ wb, wb = w12 := ⟨_, rfl⟩
      rw [← hwb] at X3 ⊢
      clear hwb
      have HBE := Lib.hid (show (b.rstep g uk ub).2.busy = (a.step g uk ub).2.busy from STN.out.sim.kp.2.2.2.2)
      have vv : (v != v) = false := bne_self_eq_false v
      have vd : decide (v = v) = true := decide_eq_true rfl
      go_wp2
      clear vv vd
      refine wp_region_noPanic ?_
      refine wp_region_held_drew (S := fun w' => Below wb.heap.size wb w') (by kernel_rfl) ((Below.refl _ _).drew) (fun C0 => ?_)
      refine tkH 0 zE4 _ C0 rfl (by kernel_rfl) rfl (fun W h => by clear h; dsimp only [zE4]; go_simp <;> with_reducible rfl) ?_
      try simp only [zE4, Act.put, zzI, zzO, zzS]
      refine tkH 2 zE5 _ C0 rfl (by kernel_rfl) rfl (fun W h => by clear h; dsimp only [zE5]; go_simp <;> with_reducible rfl) ?_
      try simp only [zE5, Act.put, zzI, zzO, zzS]
      refine tkH 3 zE6 _ C0 rfl (by kernel_rfl) rfl (fun W h => by clear h; dsimp only [zE6]; go_simp <;> with_reducible rfl) ?_
      try simp only [zE6, Act.put, zzI, zzO, zzS]
      refine tkH 4 zE7 _ C0 rfl (by kernel_rfl) rfl (fun W h => by clear h; dsimp only [zE7]; go_simp <;> with_reducible rfl) ?_
      try simp only [zE7, Act.put, zzI, zzO, zzS]
      refine tkH 5 zE8 _ C0 rfl (by kernel_rfl) rfl (fun W' hSw => by have y14 := (X3.out.below hSw).1.busy; rw [HBE.out] at y14; clear hSw; dsimp only [zE8]; go_simp <;> with_reducible rfl) ?_
      try simp only [zE8, Act.put, zzI, zzO, zzS]
      refine wpAnyH_ready (rs := [1]) (by kernel_rfl) (by simp) ?_
      refine AllReadyH.cons (o := zEc0) rfl (fun K hK => ?_) AllReadyH.nil
      dsimp only [zEc0]
      go_simp
      refine (t_busy (X3.out.below ((Below.refl _ _).drew)).1).mono ?_
      rintro _ w14 ⟨rfl, hb⟩
      have XE := Lib.hid (X3.out.below (below_step ((Below.refl _ _).drew) hb))
      have CE := Lib.hid (below_step (show Below wb.heap.size wb wb.drew from (Below.refl _ _).drew) hb)
      clear hb
      go_wp2_with fail
      refine hK.out _ _ CE.out (fun C1 => ?_)
      clear hK K
      try simp only [Act.put, zzI, zzO, zzS]
      refine tkH 6 zE9 _ C1 rfl (by kernel_rfl) rfl (fun W h => by clear h; dsimp only [zE9]; go_simp <;> with_reducible rfl) ?_
      try simp only [zE9, Act.put, zzI, zzO, zzS]
      refine wpAnyH_done (by kernel_rfl) ?_ _
      refine NoPanic.normal ?_
      go_wp2
      go_roundw
      case rel => exact ⟨k + 1, (a.step g uk ub).2, (b.rstep g uk ub).2, (c2.rstep g uk ub).2, by omega, by rw [Nat.min_eq_right (by omega)], by rw [decide_eq_false (show ¬ k + 1 ≤ k by omega)], by go_num, STN, Lib.hid (fun e => absurd e (by omega)), Lib.hid XE.out.fin⟩
      case measure => simp [intOf]; omega
   ·
    have dk : decide (k ≤ c) = false := decide_eq_false hcc
    rw [dk]
    have MR := Lib.hid (show min k c = c from Nat.min_eq_right (by omega))
    rw [MR.out]
    clear ok1 ok0
    by_cases h0 : uk = 0
    ·
     subst h0
     have z0 := XW.out.row.cell_at 0 _ rfl
     go_wp2_with fail
     clear z0
     refine (x_tp XW.out ST.out HK8.out).mono ?_
     rintro _ w11 ⟨rfl, h3⟩
     have X2 := Lib.hid h3
     clear h3
     go_wp2_with fail
     refine (x_up X2.out ST.out HK8.out).mono ?_
     rintro _ wb ⟨rfl, h3⟩
     have X3 := Lib.hid h3
     clear h3
     have HBE := Lib.hid (show b.rpower.busy = a.power.busy from STP.out.sim.kp.2.2.2.2)
     go_wp2
     refine wp_region_noPanic ?_
     refine wp_region_held_drew (S := fun w' => Below wb.heap.size wb w') (by kernel_rfl) ((Below.refl _ _).drew) (fun C0 => ?_)
     refine tkH 0 zE4 _ C0 rfl (by kernel_rfl) rfl (fun W h => by clear h; dsimp only [zE4]; go_simp <;> with_reducible rfl) ?_
     try simp only [zE4, Act.put, zzI, zzO, zzS]
     refine tkH 2 zE5 _ C0 rfl (by kernel_rfl) rfl (fun W h => by clear h; dsimp only [zE5]; go_simp <;> with_reducible rfl) ?_
     try simp only [zE5, Act.put, zzI, zzO, zzS]
     refine tkH 3 zE6 _ C0 rfl (by kernel_rfl) rfl (fun W h => by clear h; dsimp only [zE6]; go_simp <;> with_reducible rfl) ?_
     try simp only [zE6, Act.put, zzI, zzO, zzS]
     refine tkH 4 zE7 _ C0 rfl (by kernel_rfl) rfl (fun W h => by clear h; dsimp only [zE7]; go_simp <;> with_reducible rfl) ?_
     try simp only [zE7, Act.put, zzI, zzO, zzS]
     refine tkH 5 zE8 _ C0 rfl (by kernel_rfl) rfl (fun W' hSw => by have y14 := (X3.out.below hSw).1.busy; rw [HBE.out] at y14; clear hSw; dsimp only [zE8]; go_simp <;> with_reducible rfl) ?_
     try simp only [zE8, Act.put, zzI, zzO, zzS]
     refine wpAnyH_ready (rs := [1]) (by kernel_rfl) (by simp) ?_
     refine AllReadyH.cons (o := zEc0) rfl (fun K hK => ?_) AllReadyH.nil
     dsimp only [zEc0]
     go_simp
     refine (t_busy (X3.out.below ((Below.refl _ _).drew)).1).mono ?_
     rintro _ w14 ⟨rfl, hb⟩
     have XE := Lib.hid (X3.out.below (below_step ((Below.refl _ _).drew) hb))
     have CE := Lib.hid (below_step (show Below wb.heap.size wb wb.drew from (Below.refl _ _).drew) hb)
     clear hb
     go_wp2_with fail
     refine hK.out _ _ CE.out (fun C1 => ?_)
     clear hK K
     try simp only [Act.put, zzI, zzO, zzS]
     refine tkH 6 zE9 _ C1 rfl (by kernel_rfl) rfl (fun W h => by clear h; dsimp only [zE9]; go_simp <;> with_reducible rfl) ?_
     try simp only [zE9, Act.put, zzI, zzO, zzS]
     refine wpAnyH_done (by kernel_rfl) ?_ _
     refine NoPanic.normal ?_
     go_wp2
     go_roundw
     case rel => exact ⟨k + 1, a.power, b.rpower, c2, by omega, by rw [Nat.min_eq_right (by omega)], by rw [decide_eq_false (show ¬ k + 1 ≤ c by omega)], by go_num, STP, Lib.hid (fun e => absurd e (by omega)), Lib.hid XE.out.fin⟩
     case measure => simp [intOf]; omega
    ·
     have h0f : uk ≠ 0 := h0
     have z0 := XW.out.row.cell_at 0 _ rfl
     have b0 : ((uk : Int) == 0) = false := by simp; omega
     have j0 : ((uk : Int) = 0) = False := eq_false (by omega)
     have d0 : decide ((uk : Int) = 0) = false := decide_eq_false (by omega)
     go_wp2
     clear z0 b0 j0 d0
     refine wp_region_noPanic ?_
     refine wp_region_held_drew (S := fun w' => CRow w' wr.heap.size 36 #[.int .i64 uk, .int .u8 (ub : Int)]) (by kernel_rfl) (XW.out.row.below ((Below.refl _ _).drew)) (fun C0 => ?_)
     refine tkH 0 zE10 _ C0 rfl (by kernel_rfl) rfl (fun W h => by clear h; dsimp only [zE10]; go_simp <;> with_reducible rfl) ?_
     try simp only [zE10, Act.put, zzI, zzO, zzS]
     refine tkH 1 zE11 _ C0 rfl (by kernel_rfl) rfl (fun W' hSw => by have z0 := hSw.cell_at 0 _ rfl; have z1 := hSw.cell_at 1 _ rfl; clear hSw; dsimp only [zE11]; go_simp <;> with_reducible rfl) ?_
     try simp only [zE11, Act.put, zzI, zzO, zzS]
     refine tkH 3 zE12 _ C0 rfl (by kernel_rfl) rfl (fun W h => by clear h; dsimp only [zE12]; go_simp <;> with_reducible rfl) ?_
     try simp only [zE12, Act.put, zzI, zzO, zzS]
     refine tkH 4 zE13 _ C0 rfl (by kernel_rfl) rfl (fun W' hSw => by have z0 := hSw.cell_at 0 _ rfl; have z1 := hSw.cell_at 1 _ rfl; clear hSw; dsimp only [zE13]; go_simp <;> with_reducible rfl) ?_
     try simp only [zE13, Act.put, zzI, zzO, zzS]
     refine wpAnyH_ready (rs := [2]) (by kernel_rfl) (by simp) ?_
     refine AllReadyH.cons (o := zEc1) rfl (fun K hK => ?_) AllReadyH.nil
     dsimp only [zEc1]
     go_simp
     refine (x_t (XW.out.below ((Below.refl _ _).drew)) ST.out HK8.out HUB.out).mono ?_
     rintro _ w11 ⟨rfl, h3⟩
     have X2 := Lib.hid h3
     clear h3
     obtain ⟨v, hvv⟩ : ∃ v, v = (a.step g uk ub).1 := ⟨_, rfl⟩
     have HVV := Lib.hid hvv
     rw [← hvv]
     clear hvv
     go_wp2_with fail
     refine hK.out _ _ X2.out.row (fun C1 => ?_)
     clear hK K
     try simp only [Act.put, zzI, zzO, zzS]
     refine wpAnyH_ready (rs := [5]) (by kernel_rfl) (by simp) ?_
     refine AllReadyH.cons (o := zEc2) rfl (fun K hK => ?_) AllReadyH.nil
     dsimp only [zEc2]
     go_simp
     refine (x_u X2.out ST.out HK8.out HUB.out).mono ?_
     rintro _ w12 ⟨rfl, h3⟩
     rw [← HVV.out]
     have X3 := Lib.hid h3
     clear h3
     go_wp2_with fail
     refine hK.out _ _ X3.out.row (fun C2 => ?_)
     clear hK K
     try simp only [Act.put, zzI, zzO, zzS]
     refine tkH 6 zE14 _ C2 rfl (by kernel_rfl) rfl (fun W h => by clear h; dsimp only [zE14]; go_simp <;> with_reducible rfl) ?_
     try simp only [zE14, Act.put, zzI, zzO, zzS]
     refine wpAnyH_done (by kernel_rfl) ?_ _
     refine NoPanic.normal ?_
     obtain ⟨wb, hwb⟩ : ∃ wb, wb = w12 := ⟨_, rfl⟩
     rw [← hwb] at X3 ⊢
     clear hwb
     have HBE := Lib.hid (show (b.rstep g uk ub).2.busy = (a.step g uk ub).2.busy from STN.out.sim.kp.2.2.2.2)
     have vv : (v != v) = false := bne_self_eq_false v
     have vd : decide (v = v) = true := decide_eq_true rfl
     go_wp2
     clear vv vd
     refine wp_region_noPanic ?_
     refine wp_region_held_drew (S := fun w' => Below wb.heap.size wb w') (by kernel_rfl) ((Below.refl _ _).drew) (fun C0 => ?_)
     refine tkH 0 zE4 _ C0 rfl (by kernel_rfl) rfl (fun W h => by clear h; dsimp only [zE4]; go_simp <;> with_reducible rfl) ?_
     try simp only [zE4, Act.put, zzI, zzO, zzS]
     refine tkH 2 zE5 _ C0 rfl (by kernel_rfl) rfl (fun W h => by clear h; dsimp only [zE5]; go_simp <;> with_reducible rfl) ?_
     try simp only [zE5, Act.put, zzI, zzO, zzS]
     refine tkH 3 zE6 _ C0 rfl (by kernel_rfl) rfl (fun W h => by clear h; dsimp only [zE6]; go_simp <;> with_reducible rfl) ?_
     try simp only [zE6, Act.put, zzI, zzO, zzS]
     refine tkH 4 zE7 _ C0 rfl (by kernel_rfl) rfl (fun W h => by clear h; dsimp only [zE7]; go_simp <;> with_reducible rfl) ?_
     try simp only [zE7, Act.put, zzI, zzO, zzS]
     refine tkH 5 zE8 _ C0 rfl (by kernel_rfl) rfl (fun W' hSw => by have y14 := (X3.out.below hSw).1.busy; rw [HBE.out] at y14; clear hSw; dsimp only [zE8]; go_simp <;> with_reducible rfl) ?_
     try simp only [zE8, Act.put, zzI, zzO, zzS]
     refine wpAnyH_ready (rs := [1]) (by kernel_rfl) (by simp) ?_
     refine AllReadyH.cons (o := zEc0) rfl (fun K hK => ?_) AllReadyH.nil
     dsimp only [zEc0]
     go_simp
     refine (t_busy (X3.out.below ((Below.refl _ _).drew)).1).mono ?_
     rintro _ w14 ⟨rfl, hb⟩
     have XE := Lib.hid (X3.out.below (below_step ((Below.refl _ _).drew) hb))
     have CE := Lib.hid (below_step (show Below wb.heap.size wb wb.drew from (Below.refl _ _).drew) hb)
     clear hb
     go_wp2_with fail
     refine hK.out _ _ CE.out (fun C1 => ?_)
     clear hK K
     try simp only [Act.put, zzI, zzO, zzS]
     refine tkH 6 zE9 _ C1 rfl (by kernel_rfl) rfl (fun W h => by clear h; dsimp only [zE9]; go_simp <;> with_reducible rfl) ?_
     try simp only [zE9, Act.put, zzI, zzO, zzS]
     refine wpAnyH_done (by kernel_rfl) ?_ _
     refine NoPanic.normal ?_
     go_wp2
     go_roundw
     case rel => exact ⟨k + 1, (a.step g uk ub).2, (b.rstep g uk ub).2, c2, by omega, by rw [Nat.min_eq_right (by omega)], by rw [decide_eq_false (show ¬ k + 1 ≤ c by omega)], by go_num, STN, Lib.hid (fun e => absurd e (by omega)), Lib.hid XE.out.fin⟩
     case measure => simp [intOf]; omega
  ·
   obtain rfl : k = n := by omega
   have d1 : decide ((k : Int) < (k : Int)) = false := decide_eq_false (by omega)
   have CK := HRC.out
   have HGD := Lib.hid (Nat.min_eq_right CK)
   have HGE := Lib.hid (show decide (k ≤ c) = decide (c = k) from decide_eq_decide.2 (by omega))
   have HSI := Lib.hid ST.out.sim
   rw [HGD.out, HGE.out]
   generalize decide (c = k) = vg at *
   obtain ⟨NB, hNB⟩ : ∃ NB, NB = g.b.toNat := ⟨_, rfl⟩
   obtain ⟨S, hS⟩ : ∃ S, S = g.s.toNat := ⟨_, rfl⟩
   obtain ⟨R, hR⟩ : ∃ R, R = g.rows_ := ⟨_, rfl⟩
   have hbd := Gm.bounds_of HOK.out
   have HB1 := Lib.hid (show g.b = (NB : Int) by omega)
   have HS1 := Lib.hid (show g.s = (S : Int) by omega)
   have hRR : R = NB * S := by rw [hR, hNB, hS]; rfl
   have hR2 : R ≤ 16384 := by rw [hRR]; exact Nat.mul_le_mul (show NB ≤ 256 by omega) (show S ≤ 64 by omega)
   have t0 : (NB : Int) * (S : Int) = (R : Int) := by rw [hRR]; simp
   have t1 : IntKind.i64.wrap (R : Int) = (R : Int) := IntWalk.i64_in _ (by omega)
   clear hNB hS hR hbd hRR HGD HGE CK ST SV hk hlt HRI HRC
   go_wp2_with fail
   go_loopw [15] (fun rv wr => ∃ (x : Nat) (z : Int), x ≤ R + 2 ∧ rv = .int .i64 z ∧ Hid (z = (x : Int) - 1) ∧ Hid (Wo w w3 wr p q r g a b c2)) (fun rv _ => R + 2 - (intOf rv + 1).toNat)
   case atStart => exact ⟨0, -1, Nat.zero_le _, rfl, Lib.hid rfl, HW⟩
   case round =>
    obtain ⟨x, z, hx, rfl, HZ, HX⟩ := hrel
    clear HW
    rename World => wl
    have y1 := HX.out.2.1.2.2.1
    have y2 := HX.out.2.1.2.2.2.1
    rw [HB1.out] at y1
    rw [HS1.out] at y2
    by_cases hlt : x ≤ R + 1
    ·
     rcases x with _ | y
     ·
      obtain rfl : z = -1 := by have := HZ.out; omega
      have d2 : decide ((-1 : Int) ≤ (R : Int)) = true := decide_eq_true (by omega)
      go_wp2_with fail
      clear y1 y2
      refine (t_can_neg HX.out.1).mono ?_
      rintro _ w20 ⟨rfl, hb⟩
      have X2 := Lib.hid (HX.out.below hb)
      clear hb
      go_wp2_with fail
      refine (rcan_neg (-1) (by omega) _).mono ?_
      rintro _ w21 ⟨rfl, hb⟩
      have X3 := Lib.hid (X2.out.below hb)
      clear hb
      go_wp2
      go_roundw
      case rel => exact ⟨1, 0, by omega, by go_num, Lib.hid rfl, X3⟩
      case measure => first | (simp [intOf]; done) | (simp [intOf]; omega)
     ·
      obtain rfl : z = (y : Int) := by have := HZ.out; omega
      have d2 : decide ((y : Int) ≤ (R : Int)) = true := decide_eq_true (by omega)
      have m1 : IntKind.i64.wrap ((y : Int) + 1) = ((y + 1 : Nat) : Int) := by
       rw [IntWalk.i64_in _ (by omega)]
       simp
      have M1 := Lib.hid m1
      have HCA := Lib.hid (HSI.out.can y)
      clear m1
      go_wp2_with fail
      clear y1 y2
      refine (t_can HX.out.1 y).mono ?_
      rintro _ w20 ⟨rfl, hb⟩
      have X2 := Lib.hid (HX.out.below hb)
      have HUC := Lib.hid (u_can X2.out.1 y)
      rw [HCA.out] at HUC
      clear hb HCA
      generalize a.can g y = v at *
      go_wp2_with fail
      refine HUC.out.mono ?_
      rintro _ w21 ⟨rfl, hb⟩
      have X3 := Lib.hid (X2.out.below hb)
      clear hb HUC
      cases v
      ·
       go_wp2
       go_roundw
       case rel => exact ⟨y + 1 + 1, ((y + 1 : Nat) : Int), by omega, by go_num, Lib.hid (by simp), X3⟩
       case measure => simp [intOf]; omega
      ·
       go_wp2
       go_roundw
       case rel => exact ⟨y + 1 + 1, ((y + 1 : Nat) : Int), by omega, by go_num, Lib.hid (by simp), X3⟩
       case measure => simp [intOf]; omega
    ·
     obtain rfl : z = ((R + 1 : Nat) : Int) := by have := HZ.out; simp; omega
     have d2 : decide (((R + 1 : Nat) : Int) ≤ (R : Int)) = false := decide_eq_false (by omega)
     cases vg
     ·
      go_wp2
      go_ret
      exact ⟨rfl, HX.out.2.2.1⟩
     ·
      go_wp2
      go_ret
      exact ⟨rfl, HX.out.2.2.1⟩
end
end Go.Proofs.Ytaidgjidpghgnaa
