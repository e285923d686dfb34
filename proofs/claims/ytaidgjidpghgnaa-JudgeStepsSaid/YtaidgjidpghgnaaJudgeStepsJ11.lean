/-
  The document's judge: erase.
-/
import Derived.Deep.RegionHeld3
import Derived.Test.YtaidgjidpghgnaaTk
import Derived.Test.YtaidgjidpghgnaaJudgeStepsJ10
import Derived.Test.YtaidgjidpghgnaaJudgeStepsJ9
import Derived.Test.YtaidgjidpghgnaaJudgeStepsJRjD
import Derived.Test.YtaidgjidpghgnaaJudgeStepsJRjE
import Derived.Test.YtaidgjidpghgnaaJudgeStepsJRjF
namespace Go.Proofs.Ytaidgjidpghgnaa
open Go.RowKit
set_option maxRecDepth 100000
def zCc0 : Oper := { dst := some 17, op := Op.call { callee := Callee.value (Operand.func 45), args := #[Operand.tmp 16, Operand.const (Value.int IntKind.i64 0)], argTypes := #[33, 3] }, type := 3, pos := "ref.go:156", after := #[{ on := 0, ground := Ground.data }], guard := none }
def zC0 : Oper := { dst := some 16, op := Op.move (Operand.tmp 0), type := 33, pos := "ref.go:156", after := #[], guard := none }
def zC1 : Oper := { dst := some 18, op := Op.move (Operand.tmp 0), type := 33, pos := "ref.go:156", after := #[], guard := none }
def zC2 : Oper := { dst := some 19, op := Op.nilCheck (Operand.tmp 18), type := 0, pos := "ref.go:156", after := #[{ on := 2, ground := Ground.data }], guard := none }
def zC3 : Oper := { dst := some 20, op := Op.fieldAddr 41 (Operand.tmp 19) 0, type := 0, pos := "ref.go:156", after := #[{ on := 3, ground := Ground.data }], guard := none }
def zC4 : Oper := { dst := some 21, op := Op.fieldAddr 23 (Operand.tmp 20) 2, type := 0, pos := "ref.go:156", after := #[{ on := 4, ground := Ground.data }], guard := none }
def zC5 : Oper := { dst := some 22, op := Op.load 3 (Operand.tmp 21), type := 3, pos := "ref.go:156", after := #[{ on := 5, ground := Ground.data }], guard := none }
def zC6 : Oper := { dst := some 23, op := Op.binOp BinOp.quo 3 (Operand.tmp 17) (Operand.tmp 22) 3, type := 3, pos := "ref.go:156", after := #[{ on := 1, ground := Ground.data }, { on := 6, ground := Ground.data }], guard := none }
def zC7 : Oper := { dst := some 5, op := Op.assign (Operand.tmp 23), type := 3, pos := "ref.go:156", after := #[{ on := 7, ground := Ground.data }, { on := 1, ground := Ground.chain }, { on := 0, ground := Ground.phase }, { on := 1, ground := Ground.phase }, { on := 2, ground := Ground.phase }, { on := 3, ground := Ground.phase }, { on := 4, ground := Ground.phase }, { on := 5, ground := Ground.phase }, { on := 6, ground := Ground.phase }, { on := 7, ground := Ground.phase }], guard := none }
def zC8 : Oper := { dst := some 108, op := Op.move (Operand.tmp 0), type := 33, pos := "ref.go:173", after := #[], guard := none }
def zC9 : Oper := { dst := some 109, op := Op.nilCheck (Operand.tmp 108), type := 0, pos := "ref.go:173", after := #[{ on := 0, ground := Ground.data }], guard := none }
def zC10 : Oper := { dst := some 110, op := Op.fieldAddr 41 (Operand.tmp 109) 3, type := 0, pos := "ref.go:173", after := #[{ on := 1, ground := Ground.data }], guard := none }
def zC11 : Oper := { dst := some 111, op := Op.load 39 (Operand.tmp 110), type := 39, pos := "ref.go:173", after := #[{ on := 2, ground := Ground.data }], guard := none }
def zC12 : Oper := { dst := some 112, op := Op.move (Operand.tmp 8), type := 3, pos := "ref.go:173", after := #[], guard := none }
def zC13 : Oper := { dst := some 113, op := Op.move (Operand.tmp 0), type := 33, pos := "ref.go:173", after := #[], guard := none }
def zC14 : Oper := { dst := some 114, op := Op.nilCheck (Operand.tmp 113), type := 0, pos := "ref.go:173", after := #[{ on := 5, ground := Ground.data }], guard := none }
def zC15 : Oper := { dst := some 115, op := Op.fieldAddr 41 (Operand.tmp 114) 0, type := 0, pos := "ref.go:173", after := #[{ on := 6, ground := Ground.data }], guard := none }
def zC16 : Oper := { dst := some 116, op := Op.fieldAddr 23 (Operand.tmp 115) 2, type := 0, pos := "ref.go:173", after := #[{ on := 7, ground := Ground.data }], guard := none }
def zC17 : Oper := { dst := some 117, op := Op.load 3 (Operand.tmp 116), type := 3, pos := "ref.go:173", after := #[{ on := 8, ground := Ground.data }], guard := none }
def zC18 : Oper := { dst := some 118, op := Op.binOp BinOp.mul 3 (Operand.tmp 112) (Operand.tmp 117) 3, type := 3, pos := "ref.go:173", after := #[{ on := 4, ground := Ground.data }, { on := 9, ground := Ground.data }], guard := none }
def zC19 : Oper := { dst := some 119, op := Op.move (Operand.tmp 9), type := 3, pos := "ref.go:173", after := #[], guard := none }
def zC20 : Oper := { dst := some 120, op := Op.binOp BinOp.add 3 (Operand.tmp 118) (Operand.tmp 119) 3, type := 3, pos := "ref.go:173", after := #[{ on := 10, ground := Ground.data }, { on := 11, ground := Ground.data }], guard := none }
def zC21 : Oper := { dst := some 121, op := Op.indexAddr 39 (Operand.tmp 111) (Operand.tmp 120), type := 0, pos := "ref.go:173", after := #[{ on := 3, ground := Ground.data }, { on := 12, ground := Ground.data }, { on := 0, ground := Ground.phase }, { on := 1, ground := Ground.phase }, { on := 2, ground := Ground.phase }, { on := 3, ground := Ground.phase }, { on := 4, ground := Ground.phase }, { on := 5, ground := Ground.phase }, { on := 6, ground := Ground.phase }, { on := 7, ground := Ground.phase }, { on := 8, ground := Ground.phase }, { on := 9, ground := Ground.phase }, { on := 10, ground := Ground.phase }, { on := 11, ground := Ground.phase }, { on := 12, ground := Ground.phase }], guard := none }

section
variable {ρ : Nat → Nat} {I K : Nat → Prop} {w w' : World} {p : Nat} {g : Gm} {j j' : Jd} {m m' : RjM}
theorem ite_mem {α : Type} {l l' : List Nat} (e : l = l') (y : Nat) (a b : α) : (if y ∈ l then a else b) = if y ∈ l' then a else b := by subst e; rfl
def Jd.rerase (g : Gm) (j : Jd) (c : Nat) : Bool × Jd :=
 if ¬ (c = 208 ∨ c = 209) then (false, j)
 else if ¬ j.blocks.all (fun k => !decide (k % g.p.toNat = j.addr2 0 / g.s.toNat % g.p.toNat)) = true then (false, j)
 else if c = 209 then (true, ({ j with blocks := j.blocks ++ [j.addr2 0 / g.s.toNat], data := false } : Jd).start)
 else (true, Jd.erase g ({ j with blocks := j.blocks ++ [j.addr2 0 / g.s.toNat], data := false } : Jd).start)
set_option maxHeartbeats 16000000 in
/-- Erase, up to where the named blocks are erased: what fails, and what is only named. -/
theorem rerase_fail (c : Nat) (hc8 : c ≠ 208 ∧ c ≠ 209) (h : RJ I w p g j) : Calls Try.prog 44 #[.pointer (some ⟨p, 0, none⟩), .int .i64 (c : Int)] w (ActsR I p g (.bool (j.rerase g c).1) (j.rerase g c).2 w) := by
 have HR := Lib.hid (show j.rerase g c = (false, j) by unfold Jd.rerase; rw [if_pos (fun h => h.elim hc8.1 hc8.2)])
 have H0 := Lib.hid h
 obtain ⟨ha, hb⟩ := hc8
 have bc208 : (((c : Nat) : Int) == 208) = false := by simp; omega
 have jc208 : (((c : Nat) : Int) = 208) = False := eq_false (by omega)
 have kc208 : (c = 208) = False := eq_false (by omega)
 have dc208 : decide (((c : Nat) : Int) = 208) = false := decide_eq_false (by omega)
 have bc209 : (((c : Nat) : Int) == 209) = false := by simp; omega
 have jc209 : (((c : Nat) : Int) = 209) = False := eq_false (by omega)
 have kc209 : (c = 209) = False := eq_false (by omega)
 have dc209 : decide (((c : Nat) : Int) = 209) = false := decide_eq_false (by omega)
 have q1 : ((c : Int) != 208) = true := by simp; omega
 have q2 : ((c : Int) != 209) = true := by simp; omega
 clear ha hb h
 go_enter Try.func44, Try.ntmps44
 go_wp2
 go_ret
 rw [HR.out]
 exact ⟨rfl, H0.out, Btw.refl w⟩
set_option maxHeartbeats 16000000 in
theorem rerase_209 (h2 : j.listed.length = 2) (h8 : ∀ x ∈ j.listed, x < 256) (hrow : j.addr2 0 < g.rows_) (hbl : ∀ x ∈ j.blocks, x < g.b.toNat) (hbn : j.blocks.length ≤ 1000000) (h : RJ I w p g j) : Calls Try.prog 44 #[.pointer (some ⟨p, 0, none⟩), .int .i64 209] w (ActsR I p g (.bool (j.rerase g 209).1) (j.rerase g 209).2 w) := by
 have HTX := Lib.hid (fun W (hh : RJ I W p g j) => rtwo 0 (by omega) (by omega) h8 hh)
 have H0 := Lib.hid h
 have HTW := Lib.hid (rtwo 0 (by omega) (by omega) h8 h)
 obtain ⟨ρ, m, hc, hr, hi, hnw⟩ := h
 have hg := Gm.bounds_of hr.ok
 have C0 := Lib.hid hc
 have R0 := Lib.hid hr
 have I0 := Lib.hid hi
 have N0 := Lib.hid hnw
 obtain ⟨row, hrw0⟩ : ∃ row, row = j.addr2 0 := ⟨_, rfl⟩
 obtain ⟨S, hS⟩ : ∃ S, S = g.s.toNat := ⟨_, rfl⟩
 obtain ⟨P, hP⟩ : ∃ P, P = g.p.toNat := ⟨_, rfl⟩
 obtain ⟨NB, hNB⟩ : ∃ NB, NB = g.b.toNat := ⟨_, rfl⟩
 obtain ⟨R, hR⟩ : ∃ R, R = g.rows_ := ⟨_, rfl⟩
 have hRR : R = NB * S := by rw [hR, hNB, hS]; rfl
 have hS4 : 4 ≤ S ∧ S ≤ 64 := by omega
 have hP4 : 1 ≤ P ∧ P ≤ 4 := by omega
 have hNB2 : NB ≤ 256 := by omega
 have hR2 : R ≤ 16384 := by rw [hRR]; exact Nat.mul_le_mul hNB2 hS4.2
 have hxR : row < R := by omega
 obtain ⟨b, hb⟩ : ∃ b, b = row / S := ⟨_, rfl⟩
 have hbN : b < NB := by rw [hb]; exact Nat.div_lt_of_lt_mul (by rw [Nat.mul_comm]; omega)
 obtain ⟨pb, hpb⟩ : ∃ pb, pb = b % P := ⟨_, rfl⟩
 obtain ⟨n, hn⟩ : ∃ n, n = j.blocks.length := ⟨_, rfl⟩
 have HN := Lib.hid hn
 have hS1 : g.s = (S : Int) := by omega
 have hP1 : g.p = (P : Int) := by omega
 have HRL := Lib.hid (show j.rerase g 209 = if ¬ j.blocks.all (fun k => !decide (k % P = pb)) = true then (false, j) else if 209 = 209 then (true, ({ j with blocks := j.blocks ++ [b], data := false } : Jd).start) else (true, Jd.erase g ({ j with blocks := j.blocks ++ [b], data := false } : Jd).start) by
  unfold Jd.rerase
  rw [if_neg (not_not_intro (by decide : 209 = 208 ∨ 209 = 209)), ← hrw0, ← hS, ← hb, ← hP, ← hpb])
 have Q2 := Lib.hid (show ∀ W (J : Jd) M, CRow W p 41 (rjCells g J M) → W.cell? ⟨p, 2, none⟩ = some (.int .i64 (S : Int)) from fun W J M h => by rw [← hS1]; exact h.cell_at 2 _ rfl)
 have Q0 := Lib.hid (show ∀ W (J : Jd) M, CRow W p 41 (rjCells g J M) → W.cell? ⟨p, 0, none⟩ = some (.int .i64 (P : Int)) from fun W J M h => by rw [← hP1]; exact h.cell_at 0 _ rfl)
 obtain ⟨zB, hz⟩ : ∃ z, z = m.aB := ⟨_, rfl⟩
 have HZ := Lib.hid hz
 have Q20 := Lib.hid (show ∀ W, CRow W p 41 (rjCells g j m) → W.cell? ⟨p, 20, none⟩ = some (.slice zB n m.cB) from fun W h => by rw [hz, hn]; exact h.cell_at 20 _ rfl)
 have HRWS := Lib.hid (show ∀ x ∈ j.blocks, x < 256 from fun x hx => Nat.lt_of_lt_of_le (hbl x hx) (by omega))
 have HBN := Lib.hid (show b < g.b.toNat by omega)
 rw [← hrw0] at HTW
 have s0 : ((S : Int) == 0) = false := by simp; omega
 have s1 : ((S : Int) = 0) = False := eq_false (by omega)
 have s2 : (S = 0) = False := eq_false (by omega)
 have u0 : ((P : Int) == 0) = false := by simp; omega
 have u1 : ((P : Int) = 0) = False := eq_false (by omega)
 have u2 : (P = 0) = False := eq_false (by omega)
 have t0 : (row : Int).tdiv (S : Int) = (b : Int) := by rw [hb]; rfl
 have t2 : (b : Int).tmod (P : Int) = (pb : Int) := by rw [hpb]; rfl
 have hpb4 : pb < P := by rw [hpb]; exact Nat.mod_lt _ (by omega)
 have v0 : IntKind.i64.wrap (b : Int) = (b : Int) := IntWalk.i64_in _ (by omega)
 have v2 : IntKind.i64.wrap (pb : Int) = (pb : Int) := IntWalk.i64_in _ (by omega)
 have hn6 : n ≤ 1000000 := by omega
 have HNB := Lib.hid hNB
 have HRR := Lib.hid hR
 have HSS := Lib.hid hS
 have HBLT := Lib.hid (show ∀ x ∈ j.blocks, x < NB from fun x hx => by rw [hNB]; exact hbl x hx)
 have HRX := Lib.hid hRR
 have HNL := Lib.hid hNB2
 have PS := Lib.hid (show 0 < S ∧ 0 < P ∧ P ≤ 4 ∧ S ≤ 64 by omega)
 rw [← hrw0] at HTX
 clear hc hr hi hnw hg hrow hrw0 hS hP hNB hR hRR hS4 hP4 hNB2 hR2 hxR hb hbN hpb hn hS1 hP1 hz hpb4 hbl hbn h2 h8 HTW
 go_enter Try.func44, Try.ntmps44
 go_wp2_with fail
 refine wp_region_noPanic ?_
 refine wp_region_held_drew (S := fun w' => CRow w' p 41 (rjCells g j m) ∧ RjR ρ w' p g j m ∧ Btw I w w') (by kernel_rfl) ⟨C0.out.drew, R0.out.below ((Below.refl _ _).drew), (Btw.refl (I := I) w).drew⟩ (fun C0 => ?_)
 refine tkH 0 zC0 _ C0 rfl (by kernel_rfl) rfl (fun W h => by clear h; dsimp only [zC0]; go_simp <;> with_reducible rfl) ?_
 try simp only [zC0, Act.put, zzI, zzO, zzS]
 refine tkH 2 zC1 _ C0 rfl (by kernel_rfl) rfl (fun W h => by clear h; dsimp only [zC1]; go_simp <;> with_reducible rfl) ?_
 try simp only [zC1, Act.put, zzI, zzO, zzS]
 refine tkH 3 zC2 _ C0 rfl (by kernel_rfl) rfl (fun W h => by clear h; dsimp only [zC2]; go_simp <;> with_reducible rfl) ?_
 try simp only [zC2, Act.put, zzI, zzO, zzS]
 refine tkH 4 zC3 _ C0 rfl (by kernel_rfl) rfl (fun W h => by clear h; dsimp only [zC3]; go_simp <;> with_reducible rfl) ?_
 try simp only [zC3, Act.put, zzI, zzO, zzS]
 refine tkH 5 zC4 _ C0 rfl (by kernel_rfl) rfl (fun W h => by clear h; dsimp only [zC4]; go_simp <;> with_reducible rfl) ?_
 try simp only [zC4, Act.put, zzI, zzO, zzS]
 refine tkH 6 zC5 _ C0 rfl (by kernel_rfl) rfl (fun W' hSw => by obtain ⟨hs, -, -⟩ := hSw; have x2 := Q2.out W' j m hs; clear hs; dsimp only [zC5]; go_simp <;> with_reducible rfl) ?_
 try simp only [zC5, Act.put, zzI, zzO, zzS]
 refine wpAnyH_ready (rs := [1]) (by kernel_rfl) (by simp) ?_
 refine AllReadyH.cons (o := zCc0) rfl (fun K hK => ?_) AllReadyH.nil
 dsimp only [zCc0]
 go_simp
 refine (HTX.out _ ⟨ρ, m, (C0).1, (C0).2.1, I0.out, fun k hk => N0.out k (Nat.le_trans (C0).2.2.size hk)⟩).mono ?_
 rintro _ wz ⟨rfl, hz⟩
 have CA := Lib.hid (show CRow wz p 41 (rjCells g j m) ∧ RjR ρ wz p g j m ∧ Btw I w wz from ⟨(C0).1.below hz, (C0).2.1.below hz, (C0).2.2.trans (Btw.of_below hz) fun _ _ h => h⟩)
 clear hz
 go_wp2_with fail
 refine hK.out _ _ CA.out (fun C1 => ?_)
 clear hK K
 try simp only [Act.put, zzI, zzO, zzS]
 refine tkH 7 zC6 _ C1 rfl (by kernel_rfl) rfl (fun W h => by clear h; dsimp only [zC6]; go_simp <;> with_reducible rfl) ?_
 try simp only [zC6, Act.put, zzI, zzO, zzS]
 refine tkH 8 zC7 _ C1 rfl (by kernel_rfl) rfl (fun W h => by clear h; dsimp only [zC7]; go_simp <;> with_reducible rfl) ?_
 try simp only [zC7, Act.put, zzI, zzO, zzS]
 refine wpAnyH_done (by kernel_rfl) ?_ _
 refine NoPanic.normal ?_
 go_wp2
 go_loopw [6] (fun i wr => ∃ k : Nat, k ≤ n ∧ i = .int .i64 (k : Int) ∧ Hid (CRow wr p 41 (rjCells g j m) ∧ RjR ρ wr p g j m ∧ Btw I w wr) ∧ Hid (∀ x ∈ j.blocks.take k, decide (x % P = pb) = false)) (fun i _ => n - (intOf i).toNat)
 case atStart => exact ⟨0, Nat.zero_le _, rfl, CA, Lib.hid (by simp)⟩
 case round =>
  obtain ⟨k, hk, rfl, C1, HA⟩ := hrel
  rename World => wr
  clear CA
  have x20 := Q20.out _ C1.out.1
  by_cases hlt : k < n
  ·
   obtain ⟨x, hx⟩ : ∃ x, j.blocks[k]? = some x := ⟨_, List.getElem?_eq_getElem (by rw [← HN.out]; exact hlt)⟩
   obtain ⟨b9, hA9, _, _, y0', _, _⟩ := own_at C1.out.2.1.blk (k := k) (by rw [← HN.out]; exact hlt)
   obtain rfl : zB = some ⟨b9, 0, none⟩ := HZ.out.trans hA9
   have y0 : wr.cell? ⟨b9, k, none⟩ = some (.int .i64 (x : Int)) := by
    rw [y0', I64_JI, hx]
    rfl
   have hx16 := HRWS.out x (List.mem_of_getElem? hx)
   have HX := Lib.hid hx
   obtain ⟨xp, hxp⟩ : ∃ xp, xp = x % P := ⟨_, rfl⟩
   have HXP := Lib.hid hxp
   have a2 : (x : Int).tmod (P : Int) = (xp : Int) := by rw [hxp]; rfl
   have l2 : xp < P := by rw [hxp]; exact Nat.mod_lt _ PS.out.2.1
   have l3 := PS.out
   have z2 : IntKind.i64.wrap (xp : Int) = (xp : Int) := IntWalk.i64_in _ (by omega)
   have d1 : decide ((k : Int) < (n : Int)) = true := decide_eq_true (by omega)
   have i4 : (0 : Int) ≤ (k : Int) := by omega
   have i5 : (k : Int) < (n : Int) := by omega
   clear hA9 y0' hx hx16 hxp l2 l3
   go_wp2_with fail
   clear x20
   by_cases h1 : xp = pb
   ·
    subst h1
    have HR := Lib.hid (show j.rerase g 209 = (false, j) by rw [HRL.out, if_pos (fun h => by rw [List.all_eq_true] at h; have := h x (List.mem_of_getElem? HX.out); rw [← HXP.out] at this; simp at this)])
    refine wp_region_noPanic ?_
    go_region_held3 (fun w' => w'.cell? ⟨p, 0, none⟩ = some (.int .i64 (P : Int)) ∧ w'.cell? ⟨p, 20, none⟩ = some (.slice (some ⟨b9, 0, none⟩) n m.cB) ∧ w'.cell? ⟨b9, k, none⟩ = some (.int .i64 (x : Int))) (exact ⟨Q0.out _ j m C1.out.1.drew, Q20.out _ C1.out.1.drew, y0⟩) (fail)
    refine NoPanic.normal ?_
    have CX := Lib.hid (show CRow _ p 41 (rjCells g j m) ∧ RjR ρ _ p g j m ∧ Btw I w _ from ⟨C1.out.1.drew, C1.out.2.1.below ((Below.refl _ _).drew), C1.out.2.2.drew⟩)
    go_wp2
    go_ret
    rw [HR.out]
    exact ⟨rfl, ⟨ρ, m, (CX.out).1, (CX.out).2.1, I0.out, fun k hk => N0.out k (Nat.le_trans (CX.out).2.2.size hk)⟩, CX.out.2.2⟩
   ·
    have HV := Lib.hid (show decide (x % P = pb) = false by rw [← HXP.out]; exact decide_eq_false h1)
    have m0 : ((xp : Int) == (pb : Int)) = false := by simp; omega
    have m1 : ((xp : Int) = (pb : Int)) = False := eq_false (by omega)
    have m2 : (xp = pb) = False := eq_false h1
    have m3 : decide ((xp : Int) = (pb : Int)) = false := decide_eq_false (by omega)
    clear h1
    refine wp_region_noPanic ?_
    go_region_held3 (fun w' => w'.cell? ⟨p, 0, none⟩ = some (.int .i64 (P : Int)) ∧ w'.cell? ⟨p, 20, none⟩ = some (.slice (some ⟨b9, 0, none⟩) n m.cB) ∧ w'.cell? ⟨b9, k, none⟩ = some (.int .i64 (x : Int))) (exact ⟨Q0.out _ j m C1.out.1.drew, Q20.out _ C1.out.1.drew, y0⟩) (fail)
    refine NoPanic.normal ?_
    have CX := Lib.hid (show CRow _ p 41 (rjCells g j m) ∧ RjR ρ _ p g j m ∧ Btw I w _ from ⟨C1.out.1.drew, C1.out.2.1.below ((Below.refl _ _).drew), C1.out.2.2.drew⟩)
    go_wp2
    go_roundw
    case rel => exact ⟨k + 1, by omega, by go_num, CX, Lib.hid (fun y hy => by
     rcases (mem_take_succ HX.out y).1 hy with h | h
     ·
      exact HA.out y h
     ·
      rw [h]; exact HV.out)⟩
    case measure => simp [intOf]; omega
  ·
   obtain rfl : k = n := by omega
   have d1 : decide ((k : Int) < (k : Int)) = false := decide_eq_false (by omega)
   have HALL := Lib.hid (show j.blocks.all (fun k => !decide (k % P = pb)) = true by rw [List.all_eq_true]; intro x hx; rw [HA.out x (by rw [HN.out, List.take_length]; exact hx)]; rfl)
   have OR := Lib.hid (show wr.ownsRow 0 3 1 (.slice zB k m.cB) k (I64 (JI j.blocks)) by rw [HN.out, HZ.out]; exact C1.out.2.1.blk)
   have LJ := Lib.hid (show (JI j.blocks).length = k by rw [JI_length, ← HN.out])
   go_wp2_with (at_builtin; refine japp64 (wr.alloc (.cells #[.int .i64 (b : Int)] 3)) rfl (.tmp 58) (.tmp 60) rfl 0 _ (JI j.blocks) k LJ.out rfl (OR.out.alloc _) ⟨wr.heap.size, 0, none⟩ 1 (b : Int) rfl (jone64 wr (b : Int) _) (by omega) (Nat.zero_le _) ?_)
   intro v3 w4 hown hgr hwh
   obtain ⟨A3, c3, rfl⟩ := jown_form hown
   have hln : k = j.blocks.length := HN.out
   have hpu := RjR.pushB (w3 := w4) (A3 := A3) (c3 := c3) b (C1.out.2.1.below (below_new wr (.cells #[.int .i64 (b : Int)] 3))) (by rw [← hln]; exact hown) (by rw [← hln, ← HZ.out]; exact hgr) (by
    rw [← hln, ← HZ.out]
    first
    | exact hwh
    | (have e9 : (wr.alloc (.cells #[.int .i64 (b : Int)] 3)).heap.size = wr.heap.size + 1 := by simp
       rw [e9]
       exact hwh))
   obtain ⟨ρ', hr2, hi2, hb2⟩ := hpu
   have I7 := Lib.hid (show ∀ k, ρ' k ≠ 0 → I k from fun k hk => by
    rcases hi2 k hk with h1 | h1
    ·
     exact I0.out k h1
    ·
     have e : (wr.alloc (.cells #[.int .i64 (b : Int)] 3)).heap.size = wr.heap.size + 1 := by simp
     have := C1.out.2.2.size
     exact N0.out k (by omega))
   have B4 := Lib.hid (show Btw I w w4 from (C1.out.2.2.trans (Btw.of_below (below_new wr (.cells #[.int .i64 (b : Int)] 3))) fun _ _ h => h).trans hb2 fun k _ hk => I0.out k (by have hk : ρ k = 7 := hk; rw [hk]; decide))
   have hc4 : CRow w4 p 41 (rjCells g j m) := (C1.out.1.alloc _).btw hb2 (fun e => by have e : ρ p = 7 := e; have := R0.out.rp; omega)
   have y20 : w4.cell? ⟨p, 20, none⟩ = some (.slice zB k m.cB) := Q20.out _ hc4
   have f20 := hc4.frozen 20
   have S4 := Lib.hid (hc4.setCell 20 (.slice A3 (k + 1) c3))
   have K4 := Lib.hid ((Btw.refl (I := fun k => k = p) w4).setCell (p := ⟨p, 20, none⟩) (v := .slice A3 (k + 1) c3) rfl)
   have C4 := Lib.hid (show CRow (w4.setCell ⟨p, 20, none⟩ (.slice A3 (k + 1) c3)) p 41 (rjCells g ({ j with blocks := j.blocks ++ [b] } : Jd) ({ m with aB := A3, cB := c3 } : RjM)) ∧ RjR ρ' (w4.setCell ⟨p, 20, none⟩ (.slice A3 (k + 1) c3)) p g ({ j with blocks := j.blocks ++ [b] } : Jd) ({ m with aB := A3, cB := c3 } : RjM) ∧ Btw I w (w4.setCell ⟨p, 20, none⟩ (.slice A3 (k + 1) c3)) from
    ⟨by
     have e9 : (rjCells g j m).setIfInBounds 20 (.slice A3 (k + 1) c3) = rjCells g ({ j with blocks := j.blocks ++ [b] } : Jd) ({ m with aB := A3, cB := c3 } : RjM) := by simp [rjCells, hln]
     exact e9 ▸ S4.out, hr2.btw K4.out fun k e => .inr (by have e : k = p := e; rw [e]; exact hr2.rp), B4.out.trans K4.out fun k _ e => I7.out k (by have e : k = p := e; rw [e, hr2.rp]; decide)⟩)
   clear hown hgr hwh hln hr2 hi2 hb2 hc4 x20
   have x17 := C4.out.1.cell_at 17 (.bool j.data) rfl
   have f17 := C4.out.1.frozen 17
   have S5 := Lib.hid (C4.out.1.setCell 17 (.bool false))
   have S5K := Lib.hid ((Btw.refl (I := fun k => k = p) (w4.setCell ⟨p, 20, none⟩ (.slice A3 (k + 1) c3))).setCell (p := ⟨p, 17, none⟩) (v := .bool false) rfl)
   have C5 := Lib.hid (show CRow ((w4.setCell ⟨p, 20, none⟩ (.slice A3 (k + 1) c3)).setCell ⟨p, 17, none⟩ (.bool false)) p 41 (rjCells g ({ j with blocks := j.blocks ++ [b], data := false } : Jd) ({ m with aB := A3, cB := c3 } : RjM)) ∧ RjR ρ' ((w4.setCell ⟨p, 20, none⟩ (.slice A3 (k + 1) c3)).setCell ⟨p, 17, none⟩ (.bool false)) p g ({ j with blocks := j.blocks ++ [b], data := false } : Jd) ({ m with aB := A3, cB := c3 } : RjM) ∧ Btw I w ((w4.setCell ⟨p, 20, none⟩ (.slice A3 (k + 1) c3)).setCell ⟨p, 17, none⟩ (.bool false)) from
    ⟨by have h0 := S5.out; simpa [rjCells] using h0, (fun (h : RjR ρ' _ p g ({ j with blocks := j.blocks ++ [b] } : Jd) ({ m with aB := A3, cB := c3 } : RjM)) => ({ h with  } : RjR ρ' _ p g ({ j with blocks := j.blocks ++ [b], data := false } : Jd) ({ m with aB := A3, cB := c3 } : RjM))) (C4.out.2.1.btw S5K.out fun k e => .inr (by have e : k = p := e; rw [e]; exact C4.out.2.1.rp)), C4.out.2.2.trans S5K.out fun k _ e => I7.out k (by have e : k = p := e; rw [e, C4.out.2.1.rp]; decide)⟩)
   have HST := Lib.hid (rstart (j := ({ j with blocks := j.blocks ++ [b], data := false } : Jd)) ⟨ρ', ({ m with aB := A3, cB := c3 } : RjM), (C5.out).1, (C5.out).2.1, I7.out, fun k hk => N0.out k (Nat.le_trans (C5.out).2.2.size hk)⟩)
   go_wp2_with fail
   refine HST.out.mono ?_
   rintro _ w9 ⟨rfl, h9, b9⟩
   have B9 := Lib.hid (C5.out.2.2.trans b9 fun _ _ h => h)
   have H9 := Lib.hid h9
   clear h9 b9 HST
   have HR := Lib.hid (show j.rerase g 209 = (true, ({ j with blocks := j.blocks ++ [b], data := false } : Jd).start) by rw [HRL.out, if_neg (not_not_intro HALL.out), if_pos (by simp)])
   go_wp2
   go_ret
   rw [HR.out]
   exact ⟨rfl, H9.out, B9.out⟩
set_option maxHeartbeats 16000000 in
theorem rerase_208 (h2 : j.listed.length = 2) (h8 : ∀ x ∈ j.listed, x < 256) (hrow : j.addr2 0 < g.rows_) (hbl : ∀ x ∈ j.blocks, x < g.b.toNat) (hbn : j.blocks.length ≤ 1000000) (h : RJ I w p g j) : Calls Try.prog 44 #[.pointer (some ⟨p, 0, none⟩), .int .i64 208] w (ActsR I p g (.bool (j.rerase g 208).1) (j.rerase g 208).2 w) := by
 have HTX := Lib.hid (fun W (hh : RJ I W p g j) => rtwo 0 (by omega) (by omega) h8 hh)
 have H0 := Lib.hid h
 have HTW := Lib.hid (rtwo 0 (by omega) (by omega) h8 h)
 obtain ⟨ρ, m, hc, hr, hi, hnw⟩ := h
 have hg := Gm.bounds_of hr.ok
 have C0 := Lib.hid hc
 have R0 := Lib.hid hr
 have I0 := Lib.hid hi
 have N0 := Lib.hid hnw
 obtain ⟨row, hrw0⟩ : ∃ row, row = j.addr2 0 := ⟨_, rfl⟩
 obtain ⟨S, hS⟩ : ∃ S, S = g.s.toNat := ⟨_, rfl⟩
 obtain ⟨P, hP⟩ : ∃ P, P = g.p.toNat := ⟨_, rfl⟩
 obtain ⟨NB, hNB⟩ : ∃ NB, NB = g.b.toNat := ⟨_, rfl⟩
 obtain ⟨R, hR⟩ : ∃ R, R = g.rows_ := ⟨_, rfl⟩
 have hRR : R = NB * S := by rw [hR, hNB, hS]; rfl
 have hS4 : 4 ≤ S ∧ S ≤ 64 := by omega
 have hP4 : 1 ≤ P ∧ P ≤ 4 := by omega
 have hNB2 : NB ≤ 256 := by omega
 have hR2 : R ≤ 16384 := by rw [hRR]; exact Nat.mul_le_mul hNB2 hS4.2
 have hxR : row < R := by omega
 obtain ⟨b, hb⟩ : ∃ b, b = row / S := ⟨_, rfl⟩
 have hbN : b < NB := by rw [hb]; exact Nat.div_lt_of_lt_mul (by rw [Nat.mul_comm]; omega)
 obtain ⟨pb, hpb⟩ : ∃ pb, pb = b % P := ⟨_, rfl⟩
 obtain ⟨n, hn⟩ : ∃ n, n = j.blocks.length := ⟨_, rfl⟩
 have HN := Lib.hid hn
 have hS1 : g.s = (S : Int) := by omega
 have hP1 : g.p = (P : Int) := by omega
 have HRL := Lib.hid (show j.rerase g 208 = if ¬ j.blocks.all (fun k => !decide (k % P = pb)) = true then (false, j) else if 208 = 209 then (true, ({ j with blocks := j.blocks ++ [b], data := false } : Jd).start) else (true, Jd.erase g ({ j with blocks := j.blocks ++ [b], data := false } : Jd).start) by
  unfold Jd.rerase
  rw [if_neg (not_not_intro (by decide : 208 = 208 ∨ 208 = 209)), ← hrw0, ← hS, ← hb, ← hP, ← hpb])
 have Q2 := Lib.hid (show ∀ W (J : Jd) M, CRow W p 41 (rjCells g J M) → W.cell? ⟨p, 2, none⟩ = some (.int .i64 (S : Int)) from fun W J M h => by rw [← hS1]; exact h.cell_at 2 _ rfl)
 have Q0 := Lib.hid (show ∀ W (J : Jd) M, CRow W p 41 (rjCells g J M) → W.cell? ⟨p, 0, none⟩ = some (.int .i64 (P : Int)) from fun W J M h => by rw [← hP1]; exact h.cell_at 0 _ rfl)
 obtain ⟨zB, hz⟩ : ∃ z, z = m.aB := ⟨_, rfl⟩
 have HZ := Lib.hid hz
 have Q20 := Lib.hid (show ∀ W, CRow W p 41 (rjCells g j m) → W.cell? ⟨p, 20, none⟩ = some (.slice zB n m.cB) from fun W h => by rw [hz, hn]; exact h.cell_at 20 _ rfl)
 have HRWS := Lib.hid (show ∀ x ∈ j.blocks, x < 256 from fun x hx => Nat.lt_of_lt_of_le (hbl x hx) (by omega))
 have HBN := Lib.hid (show b < g.b.toNat by omega)
 rw [← hrw0] at HTW
 have s0 : ((S : Int) == 0) = false := by simp; omega
 have s1 : ((S : Int) = 0) = False := eq_false (by omega)
 have s2 : (S = 0) = False := eq_false (by omega)
 have u0 : ((P : Int) == 0) = false := by simp; omega
 have u1 : ((P : Int) = 0) = False := eq_false (by omega)
 have u2 : (P = 0) = False := eq_false (by omega)
 have t0 : (row : Int).tdiv (S : Int) = (b : Int) := by rw [hb]; rfl
 have t2 : (b : Int).tmod (P : Int) = (pb : Int) := by rw [hpb]; rfl
 have hpb4 : pb < P := by rw [hpb]; exact Nat.mod_lt _ (by omega)
 have v0 : IntKind.i64.wrap (b : Int) = (b : Int) := IntWalk.i64_in _ (by omega)
 have v2 : IntKind.i64.wrap (pb : Int) = (pb : Int) := IntWalk.i64_in _ (by omega)
 have hn6 : n ≤ 1000000 := by omega
 have HNB := Lib.hid hNB
 have HRR := Lib.hid hR
 have HSS := Lib.hid hS
 have HBLT := Lib.hid (show ∀ x ∈ j.blocks, x < NB from fun x hx => by rw [hNB]; exact hbl x hx)
 have HRX := Lib.hid hRR
 have HNL := Lib.hid hNB2
 have PS := Lib.hid (show 0 < S ∧ 0 < P ∧ P ≤ 4 ∧ S ≤ 64 by omega)
 rw [← hrw0] at HTX
 clear hc hr hi hnw hg hrow hrw0 hS hP hNB hR hRR hS4 hP4 hNB2 hR2 hxR hb hbN hpb hn hS1 hP1 hz hpb4 hbl hbn h2 h8 HTW
 go_enter Try.func44, Try.ntmps44
 go_wp2_with fail
 refine wp_region_noPanic ?_
 refine wp_region_held_drew (S := fun w' => CRow w' p 41 (rjCells g j m) ∧ RjR ρ w' p g j m ∧ Btw I w w') (by kernel_rfl) ⟨C0.out.drew, R0.out.below ((Below.refl _ _).drew), (Btw.refl (I := I) w).drew⟩ (fun C0 => ?_)
 refine tkH 0 zC0 _ C0 rfl (by kernel_rfl) rfl (fun W h => by clear h; dsimp only [zC0]; go_simp <;> with_reducible rfl) ?_
 try simp only [zC0, Act.put, zzI, zzO, zzS]
 refine tkH 2 zC1 _ C0 rfl (by kernel_rfl) rfl (fun W h => by clear h; dsimp only [zC1]; go_simp <;> with_reducible rfl) ?_
 try simp only [zC1, Act.put, zzI, zzO, zzS]
 refine tkH 3 zC2 _ C0 rfl (by kernel_rfl) rfl (fun W h => by clear h; dsimp only [zC2]; go_simp <;> with_reducible rfl) ?_
 try simp only [zC2, Act.put, zzI, zzO, zzS]
 refine tkH 4 zC3 _ C0 rfl (by kernel_rfl) rfl (fun W h => by clear h; dsimp only [zC3]; go_simp <;> with_reducible rfl) ?_
 try simp only [zC3, Act.put, zzI, zzO, zzS]
 refine tkH 5 zC4 _ C0 rfl (by kernel_rfl) rfl (fun W h => by clear h; dsimp only [zC4]; go_simp <;> with_reducible rfl) ?_
 try simp only [zC4, Act.put, zzI, zzO, zzS]
 refine tkH 6 zC5 _ C0 rfl (by kernel_rfl) rfl (fun W' hSw => by obtain ⟨hs, -, -⟩ := hSw; have x2 := Q2.out W' j m hs; clear hs; dsimp only [zC5]; go_simp <;> with_reducible rfl) ?_
 try simp only [zC5, Act.put, zzI, zzO, zzS]
 refine wpAnyH_ready (rs := [1]) (by kernel_rfl) (by simp) ?_
 refine AllReadyH.cons (o := zCc0) rfl (fun K hK => ?_) AllReadyH.nil
 dsimp only [zCc0]
 go_simp
 refine (HTX.out _ ⟨ρ, m, (C0).1, (C0).2.1, I0.out, fun k hk => N0.out k (Nat.le_trans (C0).2.2.size hk)⟩).mono ?_
 rintro _ wz ⟨rfl, hz⟩
 have CA := Lib.hid (show CRow wz p 41 (rjCells g j m) ∧ RjR ρ wz p g j m ∧ Btw I w wz from ⟨(C0).1.below hz, (C0).2.1.below hz, (C0).2.2.trans (Btw.of_below hz) fun _ _ h => h⟩)
 clear hz
 go_wp2_with fail
 refine hK.out _ _ CA.out (fun C1 => ?_)
 clear hK K
 try simp only [Act.put, zzI, zzO, zzS]
 refine tkH 7 zC6 _ C1 rfl (by kernel_rfl) rfl (fun W h => by clear h; dsimp only [zC6]; go_simp <;> with_reducible rfl) ?_
 try simp only [zC6, Act.put, zzI, zzO, zzS]
 refine tkH 8 zC7 _ C1 rfl (by kernel_rfl) rfl (fun W h => by clear h; dsimp only [zC7]; go_simp <;> with_reducible rfl) ?_
 try simp only [zC7, Act.put, zzI, zzO, zzS]
 refine wpAnyH_done (by kernel_rfl) ?_ _
 refine NoPanic.normal ?_
 go_wp2
 go_loopw [6] (fun i wr => ∃ k : Nat, k ≤ n ∧ i = .int .i64 (k : Int) ∧ Hid (CRow wr p 41 (rjCells g j m) ∧ RjR ρ wr p g j m ∧ Btw I w wr) ∧ Hid (∀ x ∈ j.blocks.take k, decide (x % P = pb) = false)) (fun i _ => n - (intOf i).toNat)
 case atStart => exact ⟨0, Nat.zero_le _, rfl, CA, Lib.hid (by simp)⟩
 case round =>
  obtain ⟨k, hk, rfl, C1, HA⟩ := hrel
  rename World => wr
  clear CA
  have x20 := Q20.out _ C1.out.1
  by_cases hlt : k < n
  ·
   obtain ⟨x, hx⟩ : ∃ x, j.blocks[k]? = some x := ⟨_, List.getElem?_eq_getElem (by rw [← HN.out]; exact hlt)⟩
   obtain ⟨b9, hA9, _, _, y0', _, _⟩ := own_at C1.out.2.1.blk (k := k) (by rw [← HN.out]; exact hlt)
   obtain rfl : zB = some ⟨b9, 0, none⟩ := HZ.out.trans hA9
   have y0 : wr.cell? ⟨b9, k, none⟩ = some (.int .i64 (x : Int)) := by
    rw [y0', I64_JI, hx]
    rfl
   have hx16 := HRWS.out x (List.mem_of_getElem? hx)
   have HX := Lib.hid hx
   obtain ⟨xp, hxp⟩ : ∃ xp, xp = x % P := ⟨_, rfl⟩
   have HXP := Lib.hid hxp
   have a2 : (x : Int).tmod (P : Int) = (xp : Int) := by rw [hxp]; rfl
   have l2 : xp < P := by rw [hxp]; exact Nat.mod_lt _ PS.out.2.1
   have l3 := PS.out
   have z2 : IntKind.i64.wrap (xp : Int) = (xp : Int) := IntWalk.i64_in _ (by omega)
   have d1 : decide ((k : Int) < (n : Int)) = true := decide_eq_true (by omega)
   have i4 : (0 : Int) ≤ (k : Int) := by omega
   have i5 : (k : Int) < (n : Int) := by omega
   clear hA9 y0' hx hx16 hxp l2 l3
   go_wp2_with fail
   clear x20
   by_cases h1 : xp = pb
   ·
    subst h1
    have HR := Lib.hid (show j.rerase g 208 = (false, j) by rw [HRL.out, if_pos (fun h => by rw [List.all_eq_true] at h; have := h x (List.mem_of_getElem? HX.out); rw [← HXP.out] at this; simp at this)])
    refine wp_region_noPanic ?_
    go_region_held3 (fun w' => w'.cell? ⟨p, 0, none⟩ = some (.int .i64 (P : Int)) ∧ w'.cell? ⟨p, 20, none⟩ = some (.slice (some ⟨b9, 0, none⟩) n m.cB) ∧ w'.cell? ⟨b9, k, none⟩ = some (.int .i64 (x : Int))) (exact ⟨Q0.out _ j m C1.out.1.drew, Q20.out _ C1.out.1.drew, y0⟩) (fail)
    refine NoPanic.normal ?_
    have CX := Lib.hid (show CRow _ p 41 (rjCells g j m) ∧ RjR ρ _ p g j m ∧ Btw I w _ from ⟨C1.out.1.drew, C1.out.2.1.below ((Below.refl _ _).drew), C1.out.2.2.drew⟩)
    go_wp2
    go_ret
    rw [HR.out]
    exact ⟨rfl, ⟨ρ, m, (CX.out).1, (CX.out).2.1, I0.out, fun k hk => N0.out k (Nat.le_trans (CX.out).2.2.size hk)⟩, CX.out.2.2⟩
   ·
    have HV := Lib.hid (show decide (x % P = pb) = false by rw [← HXP.out]; exact decide_eq_false h1)
    have m0 : ((xp : Int) == (pb : Int)) = false := by simp; omega
    have m1 : ((xp : Int) = (pb : Int)) = False := eq_false (by omega)
    have m2 : (xp = pb) = False := eq_false h1
    have m3 : decide ((xp : Int) = (pb : Int)) = false := decide_eq_false (by omega)
    clear h1
    refine wp_region_noPanic ?_
    go_region_held3 (fun w' => w'.cell? ⟨p, 0, none⟩ = some (.int .i64 (P : Int)) ∧ w'.cell? ⟨p, 20, none⟩ = some (.slice (some ⟨b9, 0, none⟩) n m.cB) ∧ w'.cell? ⟨b9, k, none⟩ = some (.int .i64 (x : Int))) (exact ⟨Q0.out _ j m C1.out.1.drew, Q20.out _ C1.out.1.drew, y0⟩) (fail)
    refine NoPanic.normal ?_
    have CX := Lib.hid (show CRow _ p 41 (rjCells g j m) ∧ RjR ρ _ p g j m ∧ Btw I w _ from ⟨C1.out.1.drew, C1.out.2.1.below ((Below.refl _ _).drew), C1.out.2.2.drew⟩)
    go_wp2
    go_roundw
    case rel => exact ⟨k + 1, by omega, by go_num, CX, Lib.hid (fun y hy => by
     rcases (mem_take_succ HX.out y).1 hy with h | h
     ·
      exact HA.out y h
     ·
      rw [h]; exact HV.out)⟩
    case measure => simp [intOf]; omega
  ·
   obtain rfl : k = n := by omega
   have d1 : decide ((k : Int) < (k : Int)) = false := decide_eq_false (by omega)
   have HALL := Lib.hid (show j.blocks.all (fun k => !decide (k % P = pb)) = true by rw [List.all_eq_true]; intro x hx; rw [HA.out x (by rw [HN.out, List.take_length]; exact hx)]; rfl)
   have OR := Lib.hid (show wr.ownsRow 0 3 1 (.slice zB k m.cB) k (I64 (JI j.blocks)) by rw [HN.out, HZ.out]; exact C1.out.2.1.blk)
   have LJ := Lib.hid (show (JI j.blocks).length = k by rw [JI_length, ← HN.out])
   go_wp2_with (at_builtin; refine japp64 (wr.alloc (.cells #[.int .i64 (b : Int)] 3)) rfl (.tmp 58) (.tmp 60) rfl 0 _ (JI j.blocks) k LJ.out rfl (OR.out.alloc _) ⟨wr.heap.size, 0, none⟩ 1 (b : Int) rfl (jone64 wr (b : Int) _) (by omega) (Nat.zero_le _) ?_)
   intro v3 w4 hown hgr hwh
   obtain ⟨A3, c3, rfl⟩ := jown_form hown
   have hln : k = j.blocks.length := HN.out
   have hpu := RjR.pushB (w3 := w4) (A3 := A3) (c3 := c3) b (C1.out.2.1.below (below_new wr (.cells #[.int .i64 (b : Int)] 3))) (by rw [← hln]; exact hown) (by rw [← hln, ← HZ.out]; exact hgr) (by
    rw [← hln, ← HZ.out]
    first
    | exact hwh
    | (have e9 : (wr.alloc (.cells #[.int .i64 (b : Int)] 3)).heap.size = wr.heap.size + 1 := by simp
       rw [e9]
       exact hwh))
   obtain ⟨ρ', hr2, hi2, hb2⟩ := hpu
   have I7 := Lib.hid (show ∀ k, ρ' k ≠ 0 → I k from fun k hk => by
    rcases hi2 k hk with h1 | h1
    ·
     exact I0.out k h1
    ·
     have e : (wr.alloc (.cells #[.int .i64 (b : Int)] 3)).heap.size = wr.heap.size + 1 := by simp
     have := C1.out.2.2.size
     exact N0.out k (by omega))
   have B4 := Lib.hid (show Btw I w w4 from (C1.out.2.2.trans (Btw.of_below (below_new wr (.cells #[.int .i64 (b : Int)] 3))) fun _ _ h => h).trans hb2 fun k _ hk => I0.out k (by have hk : ρ k = 7 := hk; rw [hk]; decide))
   have hc4 : CRow w4 p 41 (rjCells g j m) := (C1.out.1.alloc _).btw hb2 (fun e => by have e : ρ p = 7 := e; have := R0.out.rp; omega)
   have y20 : w4.cell? ⟨p, 20, none⟩ = some (.slice zB k m.cB) := Q20.out _ hc4
   have f20 := hc4.frozen 20
   have S4 := Lib.hid (hc4.setCell 20 (.slice A3 (k + 1) c3))
   have K4 := Lib.hid ((Btw.refl (I := fun k => k = p) w4).setCell (p := ⟨p, 20, none⟩) (v := .slice A3 (k + 1) c3) rfl)
   have C4 := Lib.hid (show CRow (w4.setCell ⟨p, 20, none⟩ (.slice A3 (k + 1) c3)) p 41 (rjCells g ({ j with blocks := j.blocks ++ [b] } : Jd) ({ m with aB := A3, cB := c3 } : RjM)) ∧ RjR ρ' (w4.setCell ⟨p, 20, none⟩ (.slice A3 (k + 1) c3)) p g ({ j with blocks := j.blocks ++ [b] } : Jd) ({ m with aB := A3, cB := c3 } : RjM) ∧ Btw I w (w4.setCell ⟨p, 20, none⟩ (.slice A3 (k + 1) c3)) from
    ⟨by
     have e9 : (rjCells g j m).setIfInBounds 20 (.slice A3 (k + 1) c3) = rjCells g ({ j with blocks := j.blocks ++ [b] } : Jd) ({ m with aB := A3, cB := c3 } : RjM) := by simp [rjCells, hln]
     exact e9 ▸ S4.out, hr2.btw K4.out fun k e => .inr (by have e : k = p := e; rw [e]; exact hr2.rp), B4.out.trans K4.out fun k _ e => I7.out k (by have e : k = p := e; rw [e, hr2.rp]; decide)⟩)
   clear hown hgr hwh hln hr2 hi2 hb2 hc4 x20
   have x17 := C4.out.1.cell_at 17 (.bool j.data) rfl
   have f17 := C4.out.1.frozen 17
   have S5 := Lib.hid (C4.out.1.setCell 17 (.bool false))
   have S5K := Lib.hid ((Btw.refl (I := fun k => k = p) (w4.setCell ⟨p, 20, none⟩ (.slice A3 (k + 1) c3))).setCell (p := ⟨p, 17, none⟩) (v := .bool false) rfl)
   have C5 := Lib.hid (show CRow ((w4.setCell ⟨p, 20, none⟩ (.slice A3 (k + 1) c3)).setCell ⟨p, 17, none⟩ (.bool false)) p 41 (rjCells g ({ j with blocks := j.blocks ++ [b], data := false } : Jd) ({ m with aB := A3, cB := c3 } : RjM)) ∧ RjR ρ' ((w4.setCell ⟨p, 20, none⟩ (.slice A3 (k + 1) c3)).setCell ⟨p, 17, none⟩ (.bool false)) p g ({ j with blocks := j.blocks ++ [b], data := false } : Jd) ({ m with aB := A3, cB := c3 } : RjM) ∧ Btw I w ((w4.setCell ⟨p, 20, none⟩ (.slice A3 (k + 1) c3)).setCell ⟨p, 17, none⟩ (.bool false)) from
    ⟨by have h0 := S5.out; simpa [rjCells] using h0, (fun (h : RjR ρ' _ p g ({ j with blocks := j.blocks ++ [b] } : Jd) ({ m with aB := A3, cB := c3 } : RjM)) => ({ h with  } : RjR ρ' _ p g ({ j with blocks := j.blocks ++ [b], data := false } : Jd) ({ m with aB := A3, cB := c3 } : RjM))) (C4.out.2.1.btw S5K.out fun k e => .inr (by have e : k = p := e; rw [e]; exact C4.out.2.1.rp)), C4.out.2.2.trans S5K.out fun k _ e => I7.out k (by have e : k = p := e; rw [e, C4.out.2.1.rp]; decide)⟩)
   have HST := Lib.hid (rstart (j := ({ j with blocks := j.blocks ++ [b], data := false } : Jd)) ⟨ρ', ({ m with aB := A3, cB := c3 } : RjM), (C5.out).1, (C5.out).2.1, I7.out, fun k hk => N0.out k (Nat.le_trans (C5.out).2.2.size hk)⟩)
   go_wp2_with fail
   refine HST.out.mono ?_
   rintro _ w9 ⟨rfl, h9, b9⟩
   have B9 := Lib.hid (C5.out.2.2.trans b9 fun _ _ h => h)
   have H9 := Lib.hid h9
   clear h9 b9 HST
   obtain ⟨ρ9, m9, c9, r9, i9, n9⟩ := H9.out
   have I9 := Lib.hid i9
   have CK := Lib.hid (show CRow w9 p 41 (rjCells g (Jd.eraseK g (({ j with blocks := j.blocks ++ [b], data := false } : Jd).start) 0) m9) ∧ RjR ρ9 w9 p g (Jd.eraseK g (({ j with blocks := j.blocks ++ [b], data := false } : Jd).start) 0) m9 ∧ Btw I w w9 from ⟨c9, { r9 with }, B9.out⟩)
   obtain ⟨bl, hbl⟩ : ∃ bl, bl = j.blocks ++ [b] := ⟨_, rfl⟩
   have HBL := Lib.hid hbl
   obtain ⟨L, hL⟩ : ∃ L, L = bl.length := ⟨_, rfl⟩
   have HLB := Lib.hid hL
   have hLk : L = k + 1 := by rw [hL, hbl, List.length_append, ← HN.out]; rfl
   have hL6 : L ≤ 1000001 := by omega
   obtain ⟨z9, hz9⟩ : ∃ z, z = m9.aB := ⟨_, rfl⟩
   have HZ9 := Lib.hid hz9
   have X20 := Lib.hid (show ∀ W (J : Jd), J.blocks = bl → CRow W p 41 (rjCells g J m9) → W.cell? ⟨p, 20, none⟩ = some (.slice z9 L m9.cB) from fun W J e h => by rw [hz9, hL, ← e]; exact h.cell_at 20 _ rfl)
   have X7 := Lib.hid (show ∀ W (J : Jd), CRow W p 41 (rjCells g J m9) → W.cell? ⟨p, 7, none⟩ = some (.slice (some ⟨m9.e, 0, none⟩) NB m9.ce) from fun W J h => by rw [HNB.out]; exact h.cell_at 7 _ rfl)
   have X8 := Lib.hid (show ∀ W (J : Jd), CRow W p 41 (rjCells g J m9) → W.cell? ⟨p, 8, none⟩ = some (.slice (some ⟨m9.l, 0, none⟩) NB m9.cl) from fun W J h => by rw [HNB.out]; exact h.cell_at 8 _ rfl)
   have X9 := Lib.hid (show ∀ W (J : Jd), CRow W p 41 (rjCells g J m9) → W.cell? ⟨p, 9, none⟩ = some (.slice (some ⟨m9.q, 0, none⟩) R m9.cq) from fun W J h => by rw [HRR.out]; exact h.cell_at 9 _ rfl)
   have BLT := Lib.hid (show ∀ x ∈ bl, x < NB from fun x hx => by
    rw [hbl] at hx
    rcases List.mem_append.1 hx with h | h
    ·
     exact HBLT.out x h
    ·
     rw [List.mem_singleton.1 h, HNB.out]; exact HBN.out)
   obtain ⟨JI2, hJI⟩ : ∃ JI2 : Nat → Nat → Nat → Jd, JI2 = fun q x t => { (Jd.eraseK g (({ j with blocks := j.blocks ++ [b], data := false } : Jd).start) q) with er := fun y => if y ∈ bl.take (q + 1) then true else j.er y, la := fun y => if y ∈ bl.take (q + 1) then -1 else j.la y, pr := fun y => if y / S ∈ bl.take q ∨ (y / S = x ∧ y % S < t) then 0 else j.pr y } := ⟨_, rfl⟩
   have HJI := Lib.hid hJI
   have NR := Lib.hid (show w.heap.size ≤ w9.heap.size from B9.out.size)
   clear c9 r9 i9 n9 H9 hbl hL hz9 hJI hLk
   go_wp2
   go_loopw [7] (fun i wr => ∃ q : Nat, q ≤ L ∧ i = .int .i64 (q : Int) ∧ Hid (CRow wr p 41 (rjCells g (Jd.eraseK g (({ j with blocks := j.blocks ++ [b], data := false } : Jd).start) q) m9) ∧ RjR ρ9 wr p g (Jd.eraseK g (({ j with blocks := j.blocks ++ [b], data := false } : Jd).start) q) m9 ∧ Btw I w wr)) (fun i _ => L - (intOf i).toNat)
   case atStart => exact ⟨0, Nat.zero_le _, rfl, CK⟩
   case round =>
    obtain ⟨q, hq, rfl, C1⟩ := hrel
    rename World => wr
    clear CK
    have x20 := X20.out _ _ HBL.out.symm C1.out.1
    by_cases hlt : q < L
    ·
     obtain ⟨x, hx⟩ : ∃ x, bl[q]? = some x := ⟨_, List.getElem?_eq_getElem (by rw [← HLB.out]; exact hlt)⟩
     have hbk := C1.out.2.1.blk
     obtain ⟨b9, hA9, _, _, y0', _, _⟩ := own_at hbk (k := q) (by show q < (j.blocks ++ [b]).length; rw [← HBL.out, ← HLB.out]; exact hlt)
     obtain rfl : z9 = some ⟨b9, 0, none⟩ := HZ9.out.trans hA9
     have y0 : wr.cell? ⟨b9, q, none⟩ = some (.int .i64 (x : Int)) := by
      rw [y0']
      show (I64 (JI (j.blocks ++ [b])))[q]? = _
      rw [I64_JI, ← HBL.out, hx]
      rfl
     have hxN := BLT.out x (List.mem_of_getElem? hx)
     have HX := Lib.hid hx
     have HXN := Lib.hid hxN
     have HB8 := Lib.hid (show ρ9 b9 = 7 from C1.out.2.1.rB b9 (by show (Value.slice m9.aB _ _).ownBlock = _; rw [hA9]; rfl))
     have d1 : decide ((q : Int) < (L : Int)) = true := decide_eq_true (by omega)
     have i4 : (0 : Int) ≤ (q : Int) := by omega
     have i5 : (q : Int) < (L : Int) := by omega
     have i6 : (0 : Int) ≤ (x : Int) := by omega
     have i7 : (x : Int) < (NB : Int) := by omega
     have x7 := X7.out _ _ C1.out.1
     have HE0 := Lib.hid (show erF g (Jd.eraseK g (({ j with blocks := j.blocks ++ [b], data := false } : Jd).start) q) x = some (.bool ((Jd.eraseK g (({ j with blocks := j.blocks ++ [b], data := false } : Jd).start) q).er x)) from if_pos (by rw [← HNB.out]; exact hxN))
     have e0 := C1.out.2.1.ce.cell HE0.out
     have f0 := C1.out.2.1.ce.frozen x
     have hse := RJ.set_er (i := x) (er' := (JI2 q x 0).er) C1.out.1 C1.out.2.1 (by rw [HE0.out]; rfl) (fun y hy => by
      rw [HJI.out]
      show (if y ∈ bl.take (q + 1) then true else j.er y) = (if y ∈ (j.blocks ++ [b]).take q then true else j.er y)
      rw [← HBL.out]
      have := mem_take_succ HX.out y
      by_cases h2 : y ∈ bl.take q
      ·
       rw [if_pos h2, if_pos (this.2 (.inl h2))]
      ·
       rw [if_neg h2, if_neg (fun h3 => (this.1 h3).elim h2 hy)])
     rw [show (JI2 q x 0).er x = true from by rw [HJI.out]; exact if_pos ((mem_take_succ HX.out x).2 (.inr rfl))] at hse
     have B1 := Lib.hid (C1.out.2.2.trans hse.2.2 fun y _ e => I9.out y (by have e : y = m9.e := e; rw [e, C1.out.2.1.re]; decide))
     have x8 := X8.out _ _ hse.1
     have HL0 := Lib.hid (show laF g _ x = some (.int .i64 ((Jd.eraseK g (({ j with blocks := j.blocks ++ [b], data := false } : Jd).start) q).la x)) from (if_pos (by rw [← HNB.out]; exact hxN) : laF g { (Jd.eraseK g (({ j with blocks := j.blocks ++ [b], data := false } : Jd).start) q) with er := (JI2 q x 0).er } x = _))
     have e1 := hse.2.1.cl.cell HL0.out
     have f1 := hse.2.1.cl.frozen x
     have hsl := RJ.set_la (i := x) (la' := (JI2 q x 0).la) hse.1 hse.2.1 (by rw [HL0.out]; rfl) (fun y hy => by
      rw [HJI.out]
      show (if y ∈ bl.take (q + 1) then -1 else j.la y) = (if y ∈ (j.blocks ++ [b]).take q then -1 else j.la y)
      rw [← HBL.out]
      have := mem_take_succ HX.out y
      by_cases h2 : y ∈ bl.take q
      ·
       rw [if_pos h2, if_pos (this.2 (.inl h2))]
      ·
       rw [if_neg h2, if_neg (fun h3 => (this.1 h3).elim h2 hy)])
     rw [show (JI2 q x 0).la x = -1 from by rw [HJI.out]; exact if_pos ((mem_take_succ HX.out x).2 (.inr rfl))] at hsl
     have B2 := Lib.hid (B1.out.trans hsl.2.2 fun y _ e => I9.out y (by have e : y = m9.l := e; rw [e, C1.out.2.1.rl]; decide))
     have C2 := Lib.hid (show CRow _ p 41 (rjCells g (JI2 q x 0) m9) ∧ RjR ρ9 _ p g (JI2 q x 0) m9 ∧ Btw I w _ from ⟨by
      have h0 := hsl.1
      rw [HJI.out]
      exact h0, by
      have h0 := hsl.2.1
      have e9 : ({ (Jd.eraseK g (({ j with blocks := j.blocks ++ [b], data := false } : Jd).start) q) with er := (JI2 q x 0).er, la := (JI2 q x 0).la } : Jd) = JI2 q x 0 := by
       rw [HJI.out]
       simp only [Jd.eraseK, Jd.start, Jd.enter, Jd.mk.injEq, true_and, and_true]
       funext y
       rw [← HBL.out, ← HSS.out]
       by_cases h : y / S ∈ bl.take q <;> simp [h]
      rw [← e9]
      exact h0, B2.out⟩)
     clear hA9 y0' hx hxN hse hsl hbk
     go_wp2
     clear x20 x7 x8 e0 f0 e1 f1 y0
     go_loopw [9] (fun i wi => ∃ t : Nat, t ≤ S ∧ i = .int .i64 (t : Int) ∧ Hid (CRow wi p 41 (rjCells g (JI2 q x t) m9) ∧ RjR ρ9 wi p g (JI2 q x t) m9 ∧ Btw I w wi)) (fun i _ => S - (intOf i).toNat)
     case atStart => exact ⟨0, Nat.zero_le _, rfl, C2⟩
     case round =>
      obtain ⟨t, ht, rfl, C3⟩ := hrel
      rename World => wi
      clear C2
      have x2 := Q2.out _ (JI2 q x t) m9 C3.out.1
      have hxN := HXN.out
      have hS5 := PS.out
      have hxs : (x + 1) * S ≤ NB * S := Nat.mul_le_mul_right _ hxN
      have hxs2 : (x + 1) * S = x * S + S := Nat.succ_mul x S
      have hRX := HRX.out
      have hNS : NB * S ≤ 256 * 64 := Nat.mul_le_mul (by have := HNL.out; omega) (by omega)
      by_cases hts : t < S
      ·
       have HTS := Lib.hid hts
       have d2 : decide ((t : Int) < (S : Int)) = true := decide_eq_true (by omega)
       have HRT := Lib.hid (show x * S + t < g.rows_ by rw [← HRR.out]; omega)
       have hd : (x * S + t) / S = x := by rw [Nat.add_comm, Nat.add_mul_div_right _ _ hS5.1, Nat.div_eq_of_lt hts, Nat.zero_add]
       have hm : (x * S + t) % S = t := by rw [Nat.add_comm, Nat.add_mul_mod_self_right, Nat.mod_eq_of_lt hts]
       have HP0 := Lib.hid (show (JI2 q x (t + 1)).pr (x * S + t) = 0 by rw [HJI.out]; exact if_pos (.inr ⟨hd, by omega⟩))
       have HPR := Lib.hid (show ∀ y, y ≠ x * S + t → (JI2 q x (t + 1)).pr y = (JI2 q x t).pr y from fun y hy => by
        rw [HJI.out]
        show (if y / S ∈ bl.take q ∨ (y / S = x ∧ y % S < t + 1) then 0 else j.pr y) = if y / S ∈ bl.take q ∨ (y / S = x ∧ y % S < t) then 0 else j.pr y
        have e : (y / S = x ∧ y % S < t + 1) ↔ (y / S = x ∧ y % S < t) := ⟨fun h => ⟨h.1, by
         have h9 := Nat.div_add_mod y S
         rw [h.1, Nat.mul_comm] at h9
         have := h.2
         omega⟩, fun h => ⟨h.1, by omega⟩⟩
        simp only [e])
       have c0 : (x : Int) * (S : Int) = ((x * S : Nat) : Int) := by simp
       obtain ⟨xs, hxs3⟩ : ∃ xs, xs = x * S := ⟨_, rfl⟩
       have HXS := Lib.hid hxs3
       rw [← hxs3] at c0
       have c1 : IntKind.i64.wrap ((xs : Nat) : Int) = (xs : Int) := IntWalk.i64_in _ (by omega)
       have c2 : IntKind.i64.wrap ((xs : Int) + (t : Int)) = (xs : Int) + (t : Int) := IntWalk.i64_in _ (by omega)
       have c3 : (0 : Int) ≤ (xs : Int) + (t : Int) := by omega
       have c4 : (xs : Int) + (t : Int) < (R : Int) := by omega
       have c5 : ((xs : Int) + (t : Int)).toNat = xs + t := by omega
       rw [← hxs3] at HRT HP0 HPR
       have HEJ := Lib.hid (show ({ JI2 q x t with pr := (JI2 q x (t + 1)).pr } : Jd) = JI2 q x (t + 1) by rw [HJI.out])
       have hS64 : S ≤ 64 := hS5.2.2.2
       clear hxN hS5 hxs hxs2 hRX hNS hd hm hxs3
       go_wp2_with fail
       clear x2
       refine wp_region_noPanic ?_
       refine wp_region_held_drew (S := fun w' => w'.cell? ⟨p, 2, none⟩ = some (.int .i64 (S : Int)) ∧ w'.cell? ⟨p, 9, none⟩ = some (.slice (some ⟨m9.q, 0, none⟩) R m9.cq)) (by kernel_rfl) ⟨Q2.out _ (JI2 q x t) m9 C3.out.1.drew, X9.out _ _ C3.out.1.drew⟩ (fun C0 => ?_)
       refine tkH 0 zC8 _ C0 rfl (by kernel_rfl) rfl (fun W h => by clear h; dsimp only [zC8]; go_simp <;> with_reducible rfl) ?_
       try simp only [zC8, Act.put, zzI, zzO, zzS]
       refine tkH 1 zC9 _ C0 rfl (by kernel_rfl) rfl (fun W h => by clear h; dsimp only [zC9]; go_simp <;> with_reducible rfl) ?_
       try simp only [zC9, Act.put, zzI, zzO, zzS]
       refine tkH 2 zC10 _ C0 rfl (by kernel_rfl) rfl (fun W h => by clear h; dsimp only [zC10]; go_simp <;> with_reducible rfl) ?_
       try simp only [zC10, Act.put, zzI, zzO, zzS]
       refine tkH 3 zC11 _ C0 rfl (by kernel_rfl) rfl (fun W' hSw => by obtain ⟨x2, x9⟩ := hSw; dsimp only [zC11]; go_simp <;> with_reducible rfl) ?_
       try simp only [zC11, Act.put, zzI, zzO, zzS]
       refine tkH 4 zC12 _ C0 rfl (by kernel_rfl) rfl (fun W h => by clear h; dsimp only [zC12]; go_simp <;> with_reducible rfl) ?_
       try simp only [zC12, Act.put, zzI, zzO, zzS]
       refine tkH 5 zC13 _ C0 rfl (by kernel_rfl) rfl (fun W h => by clear h; dsimp only [zC13]; go_simp <;> with_reducible rfl) ?_
       try simp only [zC13, Act.put, zzI, zzO, zzS]
       refine tkH 6 zC14 _ C0 rfl (by kernel_rfl) rfl (fun W h => by clear h; dsimp only [zC14]; go_simp <;> with_reducible rfl) ?_
       try simp only [zC14, Act.put, zzI, zzO, zzS]
       refine tkH 7 zC15 _ C0 rfl (by kernel_rfl) rfl (fun W h => by clear h; dsimp only [zC15]; go_simp <;> with_reducible rfl) ?_
       try simp only [zC15, Act.put, zzI, zzO, zzS]
       refine tkH 8 zC16 _ C0 rfl (by kernel_rfl) rfl (fun W h => by clear h; dsimp only [zC16]; go_simp <;> with_reducible rfl) ?_
       try simp only [zC16, Act.put, zzI, zzO, zzS]
       refine tkH 9 zC17 _ C0 rfl (by kernel_rfl) rfl (fun W' hSw => by obtain ⟨x2, x9⟩ := hSw; dsimp only [zC17]; go_simp <;> with_reducible rfl) ?_
       try simp only [zC17, Act.put, zzI, zzO, zzS]
       refine tkH 10 zC18 _ C0 rfl (by kernel_rfl) rfl (fun W h => by clear h; dsimp only [zC18]; go_simp <;> with_reducible rfl) ?_
       try simp only [zC18, Act.put, zzI, zzO, zzS]
       refine tkH 11 zC19 _ C0 rfl (by kernel_rfl) rfl (fun W h => by clear h; dsimp only [zC19]; go_simp <;> with_reducible rfl) ?_
       try simp only [zC19, Act.put, zzI, zzO, zzS]
       refine tkH 12 zC20 _ C0 rfl (by kernel_rfl) rfl (fun W h => by clear h; dsimp only [zC20]; go_simp <;> with_reducible rfl) ?_
       try simp only [zC20, Act.put, zzI, zzO, zzS]
       refine tkH 13 zC21 _ C0 rfl (by kernel_rfl) rfl (fun W h => by clear h; dsimp only [zC21]; go_simp <;> with_reducible rfl) ?_
       try simp only [zC21, Act.put, zzI, zzO, zzS]
       refine wpAnyH_ready (rs := [14]) (by kernel_rfl) (by simp) ?_
       refine AllReadyH.cons (o := { dst := none, op := Op.store 3 (Operand.tmp 121) (Operand.const (Value.int IntKind.i64 0)), type := 0, pos := "ref.go:173", after := #[{ on := 13, ground := Ground.data }, { on := 0, ground := Ground.phase }, { on := 1, ground := Ground.phase }, { on := 2, ground := Ground.phase }, { on := 3, ground := Ground.phase }, { on := 4, ground := Ground.phase }, { on := 5, ground := Ground.phase }, { on := 6, ground := Ground.phase }, { on := 7, ground := Ground.phase }, { on := 8, ground := Ground.phase }, { on := 9, ground := Ground.phase }, { on := 10, ground := Ground.phase }, { on := 11, ground := Ground.phase }, { on := 12, ground := Ground.phase }], guard := none }) rfl (fun K hK => ?_) AllReadyH.nil
       have ce := C3.out.2.1.cq
       have f0 := ce.frozen (xs + t)
       have hb0 : prF g (JI2 q x t) (xs + t) = some (.int .i64 (((JI2 q x t).pr (xs + t) : Nat) : Int)) := if_pos HRT.out
       have e0 := ce.cell hb0
       go_simp
       have hq := RJ.set_pr (i := xs + t) (pr' := (JI2 q x (t + 1)).pr) C3.out.1.drew (C3.out.2.1.below ((Below.refl _ _).drew)) (by rw [hb0]; rfl) HPR.out
       rw [show (JI2 q x (t + 1)).pr (xs + t) = 0 from HP0.out, HEJ.out] at hq
       have C4 := Lib.hid (show CRow _ p 41 (rjCells g (JI2 q x (t + 1)) m9) ∧ RjR ρ9 _ p g (JI2 q x (t + 1)) m9 ∧ Btw I w _ from ⟨hq.1, hq.2.1, C3.out.2.2.drew.trans hq.2.2 fun y _ e => I9.out y (by have e : y = m9.q := e; rw [e, C3.out.2.1.rq]; decide)⟩)
       clear hq f0 e0 ce hb0
       refine hK.out _ _ ⟨Q2.out _ (JI2 q x (t + 1)) m9 C4.out.1, X9.out _ _ C4.out.1⟩ (fun C1 => ?_)
       clear hK K
       try simp only [Act.put]
       refine wpAnyH_done (by kernel_rfl) ?_ _
       refine NoPanic.normal ?_
       go_wp2
       go_roundw
       case rel => exact ⟨t + 1, by have := HTS.out; omega, by go_num, C4⟩
       case measure =>
        have := HTS.out
        simp [intOf]
        omega
      ·
       have d2 : decide ((t : Int) < (S : Int)) = false := decide_eq_false (by omega)
       have e9 : JI2 q x t = (Jd.eraseK g (({ j with blocks := j.blocks ++ [b], data := false } : Jd).start) (q + 1)) := by
        rw [HJI.out]
        simp only [Jd.eraseK, Jd.start, Jd.enter, Jd.mk.injEq, true_and, and_true]
        rw [← HBL.out, ← HSS.out]
        refine ⟨rfl, rfl, ?_⟩
        funext y
        have h1 := mem_take_succ HX.out (y / S)
        have h2 : y % S < t := by have := Nat.mod_lt y hS5.1; omega
        by_cases h3 : y / S ∈ bl.take q
        ·
         exact (if_pos (.inl h3)).trans (if_pos (h1.2 (.inl h3))).symm
        ·
         by_cases h4 : y / S = x
         ·
          exact (if_pos (.inr ⟨h4, h2⟩)).trans (if_pos (h1.2 (.inr h4))).symm
         ·
          exact (if_neg (fun h => h.elim h3 fun h => h4 h.1)).trans (if_neg (fun h => (h1.1 h).elim h3 h4)).symm
       have CN := Lib.hid (show CRow wi p 41 (rjCells g (Jd.eraseK g (({ j with blocks := j.blocks ++ [b], data := false } : Jd).start) (q + 1)) m9) ∧ RjR ρ9 wi p g (Jd.eraseK g (({ j with blocks := j.blocks ++ [b], data := false } : Jd).start) (q + 1)) m9 ∧ Btw I w wi from e9 ▸ C3.out)
       clear hxN hS5 hxs hxs2 hRX hNS e9
       go_wp2
       go_roundw
       case rel => exact ⟨q + 1, by omega, by go_num, CN⟩
       case measure => simp [intOf]; omega
    ·
     have hql : q = L := by omega
     have d1 : decide ((q : Int) < (L : Int)) = false := decide_eq_false (by omega)
     obtain ⟨JE, hJE⟩ : ∃ JE, JE = Jd.erase g (({ j with blocks := j.blocks ++ [b], data := false } : Jd).start) := ⟨_, rfl⟩
     have HJE := Lib.hid hJE
     have eK : (Jd.eraseK g (({ j with blocks := j.blocks ++ [b], data := false } : Jd).start) q) = ({ (({ j with blocks := j.blocks ++ [b], data := false } : Jd).start) with er := JE.er, la := JE.la, pr := JE.pr } : Jd) := by
      rw [hJE]
      have e1 : List.take q (j.blocks ++ [b]) = j.blocks ++ [b] := List.take_of_length_le (by rw [← HBL.out, ← HLB.out]; omega)
      unfold Jd.eraseK Jd.erase
      simp only [Jd.start, Jd.enter, Jd.mk.injEq, true_and, and_true]
      exact ⟨funext fun y => ite_mem e1 y _ _, funext fun y => ite_mem e1 y _ _, funext fun y => ite_mem e1 _ _ _⟩
     have CE := Lib.hid (show CRow wr p 41 (rjCells g ({ (({ j with blocks := j.blocks ++ [b], data := false } : Jd).start) with er := JE.er, la := JE.la, pr := JE.pr } : Jd) m9) ∧ RjR ρ9 wr p g ({ (({ j with blocks := j.blocks ++ [b], data := false } : Jd).start) with er := JE.er, la := JE.la, pr := JE.pr } : Jd) m9 ∧ Btw I w wr from eK ▸ C1.out)
     have x21 := CE.out.1.cell_at 21 (.slice m9.aE j.erases.length m9.cE) rfl
     have f21 := CE.out.1.frozen 21
     have T1 := Lib.hid (CE.out.1.setCell 21 (.slice z9 L m9.cB))
     have y20 : (wr.setCell ⟨p, 21, none⟩ (.slice z9 L m9.cB)).cell? ⟨p, 20, none⟩ = some (.slice z9 L m9.cB) := by
      have h0 := T1.out.cell_at 20 (.slice m9.aB (j.blocks ++ [b]).length m9.cB) rfl
      rw [← HBL.out, ← HLB.out, ← HZ9.out] at h0
      exact h0
     have f20 := T1.out.frozen 20
     have f20w := CE.out.1.frozen 20
     have T2 := Lib.hid (T1.out.setCell 20 (.slice none 0 0))
     have K2 := Lib.hid (((Btw.refl (I := fun k => k = p) wr).setCell (p := ⟨p, 21, none⟩) (v := .slice z9 L m9.cB) rfl).setCell (p := ⟨p, 20, none⟩) (v := .slice none 0 0) rfl)
     have HR := Lib.hid (show j.rerase g 208 = (true, JE) by rw [HRL.out, if_neg (not_not_intro HALL.out), if_neg (by simp), HJE.out])
     clear hql hJE eK C1
     go_wp2
     go_ret
     rw [HR.out]
     have r1 := CE.out.2.1.btw K2.out fun k e => .inr (by have e : k = p := e; rw [e]; exact CE.out.2.1.rp)
     have hro : ∀ y, (if ρ9 y = 7 then 8 else if ρ9 y = 8 then 0 else ρ9 y) ≠ 0 → ρ9 y ≠ 0 := fun y h e => by rw [e] at h; simp at h
     have hrr : ∀ y n, ρ9 y = n → n ≠ 7 → n ≠ 8 → (if ρ9 y = 7 then 8 else if ρ9 y = 8 then 0 else ρ9 y) = n := fun y n e h7 h8 => by rw [e, if_neg h7, if_neg h8]
     have c1 : CRow ((wr.setCell ⟨p, 21, none⟩ (.slice z9 L m9.cB)).setCell ⟨p, 20, none⟩ (.slice none 0 0)) p 41 (rjCells g JE { m9 with aE := z9, cE := m9.cB, aB := none, cB := 0 }) := by
      have h0 := T2.out
      have e9 : ((rjCells g ({ (({ j with blocks := j.blocks ++ [b], data := false } : Jd).start) with er := JE.er, la := JE.la, pr := JE.pr } : Jd) m9).setIfInBounds 21 (.slice z9 L m9.cB)).setIfInBounds 20 (.slice none 0 0) = rjCells g JE ({ m9 with aE := z9, cE := m9.cB, aB := none, cB := 0 } : RjM) := by
       rw [HLB.out, HBL.out, HJE.out]
       simp [rjCells, Jd.erase, Jd.start, Jd.enter]
      exact e9 ▸ h0
     have r2 : RjR (fun y => if ρ9 y = 7 then 8 else if ρ9 y = 8 then 0 else ρ9 y) ((wr.setCell ⟨p, 21, none⟩ (.slice z9 L m9.cB)).setCell ⟨p, 20, none⟩ (.slice none 0 0)) p g JE ({ m9 with aE := z9, cE := m9.cB, aB := none, cB := 0 } : RjM) :=
      {
       ok := r1.ok
       lt := fun y h => r1.lt y (hro y h)
       rp := hrr _ _ r1.rp (by decide) (by decide)
       ce := r1.ce
       re := hrr _ _ r1.re (by decide) (by decide)
       cl := r1.cl
       rl := hrr _ _ r1.rl (by decide) (by decide)
       cq := r1.cq
       rq := hrr _ _ r1.rq (by decide) (by decide)
       lis := by rw [HJE.out]; exact r1.lis
       rL := fun y h => hrr _ _ (r1.rL y (by rw [HJE.out] at h; exact h)) (by decide) (by decide)
       row := by rw [HJE.out]; exact r1.row
       rR := fun y h => hrr _ _ (r1.rR y (by rw [HJE.out] at h; exact h)) (by decide) (by decide)
       blk := by rw [HJE.out]; exact ⟨rfl, .inl ⟨rfl, rfl⟩⟩
       rB := fun y h => by rw [HJE.out] at h; cases h
       ers := by
        have hb := r1.blk
        rw [← HZ9.out] at hb
        rw [HJE.out]
        exact hb
       rE := fun y h => by
        have h7 : ρ9 y = 7 := r1.rB y (by rw [← HZ9.out]; rw [HJE.out] at h; exact h)
        show (if ρ9 y = 7 then 8 else _) = 8
        rw [if_pos h7] }
     exact ⟨rfl, ⟨_, _, c1, r2, fun y h => I9.out y (hro y h), fun y hy => N0.out y (Nat.le_trans (Nat.le_trans CE.out.2.2.size K2.out.size) hy)⟩, CE.out.2.2.trans K2.out fun y _ e => I9.out y (by have e : y = p := e; rw [e, CE.out.2.1.rp]; decide)⟩
theorem rerase (c : Nat) (hc8 : c < 256) (h2 : j.listed.length = 2) (h8 : ∀ x ∈ j.listed, x < 256) (hrow : j.addr2 0 < g.rows_) (hbl : ∀ x ∈ j.blocks, x < g.b.toNat) (hbn : j.blocks.length ≤ 1000000) (h : RJ I w p g j) : Calls Try.prog 44 #[.pointer (some ⟨p, 0, none⟩), .int .i64 (c : Int)] w (ActsR I p g (.bool (j.rerase g c).1) (j.rerase g c).2 w) := by
 by_cases h1 : c = 208
 ·
  subst h1
  exact rerase_208 h2 h8 hrow hbl hbn h
 ·
  by_cases h3 : c = 209
  ·
   subst h3
   exact rerase_209 h2 h8 hrow hbl hbn h
  ·
   exact rerase_fail c ⟨h1, h3⟩ h
end
end Go.Proofs.Ytaidgjidpghgnaa

/-
  The document's judge: command.
-/
namespace Go.Proofs.Ytaidgjidpghgnaa
open Go.RowKit
set_option maxRecDepth 100000

section
variable {ρ : Nat → Nat} {I K : Nat → Prop} {w w' : World} {p : Nat} {g : Gm} {j j' : Jd} {m m' : RjM}
def Jd.rcommand (g : Gm) (j : Jd) (c : Nat) : Bool × Jd :=
 if j.op = 8 then (if j.listed.length = 4 ∧ 0 < j.count then j.rload g c else (false, j))
 else if j.op = 9 then (if j.listed.length = 2 then j.rerase g c else (false, j))
 else if j.op = 5 ∧ j.listed.length = 4 then (if c = 48 then (true, ({ j with col := j.addr2 0, data := true } : Jd).start) else (false, j))
 else if j.op = 7 then (if j.listed.length = 2 ∧ c = 224 then (true, ({ j with col := j.addr2 0 } : Jd).enter 6) else (false, j))
 else if j.op = 1 ∨ j.op = 6 ∨ (j.op = 2 ∧ j.listed.length = 1) ∨ (j.op = 5 ∧ j.listed.length = 0 ∧ j.data = true) then j.rbegin c else (false, j)
/-- What the document's judge is, as long as it took all. -/
structure Rok (g : Gm) (j : Jd) : Prop where
 l8 : ∀ x ∈ j.listed, x < 256
 ln : j.listed.length ≤ 1000
 cn : j.count ≤ 1000000
 cl : j.col ≤ 1000000
 rn : j.rows.length ≤ 1000000
 bn : j.blocks.length ≤ 1000000
 rw_ : ∀ x ∈ j.rows, x < g.rows_
 bl : ∀ x ∈ j.blocks, x < g.b.toNat
 pr : ∀ x, j.pr x ≤ 1000000
 op : j.op ≤ 9
 e2 : j.op = 9 → j.listed.length = 2 → j.addr2 0 < g.rows_
set_option maxHeartbeats 16000000 in
theorem rcommand (c : Nat) (hc8 : c < 256) (hk : Rok g j) (h : RJ I w p g j) : Calls Try.prog 32 #[.pointer (some ⟨p, 0, none⟩), .int .i64 (c : Int)] w (ActsR I p g (.bool (j.rcommand g c).1) (j.rcommand g c).2 w) := by
 have H0 := Lib.hid h
 have HK := Lib.hid hk
 have H8 := Lib.hid hc8
 obtain ⟨ρ, m, hc, hr, hi, hnw⟩ := h
 have C0 := Lib.hid hc
 have R0 := Lib.hid hr
 have I0 := Lib.hid hi
 have N0 := Lib.hid hnw
 obtain ⟨n, hn⟩ : ∃ n, n = j.listed.length := ⟨_, rfl⟩
 have HN := Lib.hid hn
 obtain ⟨o, ho⟩ : ∃ o, o = j.op := ⟨_, rfl⟩
 have HOO := Lib.hid ho
 obtain ⟨cn, hcn⟩ : ∃ cn, cn = j.count := ⟨_, rfl⟩
 have HCN := Lib.hid hcn
 obtain ⟨da, hda⟩ : ∃ da, da = j.data := ⟨_, rfl⟩
 have HDA := Lib.hid hda
 have x10 : w.cell? ⟨p, 10, none⟩ = some (.int .i64 (o : Int)) := by rw [ho]; exact hc.cell_at 10 _ rfl
 have x11 : w.cell? ⟨p, 11, none⟩ = some (.slice m.aL n m.cL) := by rw [hn]; exact hc.cell_at 11 _ rfl
 have x12 : w.cell? ⟨p, 12, none⟩ = some (.int .i64 (cn : Int)) := by rw [hcn]; exact hc.cell_at 12 _ rfl
 have x17 : w.cell? ⟨p, 17, none⟩ = some (.bool da) := by rw [hda]; exact hc.cell_at 17 _ rfl
 have BB := Lib.hid (show CRow w p 41 (rjCells g j m) ∧ RjR ρ w p g j m ∧ Btw I w w from ⟨hc, hr, Btw.refl w⟩)
 have HRC := Lib.hid (show j.rcommand g c = if o = 8 then (if n = 4 ∧ 0 < cn then j.rload g c else (false, j))
  else if o = 9 then (if n = 2 then j.rerase g c else (false, j))
  else if o = 5 ∧ n = 4 then (if c = 48 then (true, ({ j with col := j.addr2 0, data := true } : Jd).start) else (false, j))
  else if o = 7 then (if n = 2 ∧ c = 224 then (true, ({ j with col := j.addr2 0 } : Jd).enter 6) else (false, j))
  else if o = 1 ∨ o = 6 ∨ (o = 2 ∧ n = 1) ∨ (o = 5 ∧ n = 0 ∧ da = true) then j.rbegin c else (false, j) by unfold Jd.rcommand; rw [hn, ho, hcn, hda])
 clear hc hr hi hnw hn ho hcn hda hk hc8
 by_cases h8 : o = 8
 ·
  by_cases h4 : n = 4
  ·
   by_cases h0 : 0 < cn
   ·
    skip
    have bo8 : (((o : Nat) : Int) == 8) = true := by simp; omega
    have jo8 : (((o : Nat) : Int) = 8) = True := eq_true (by omega)
    have ko8 : (o = 8) = True := eq_true (by omega)
    have do8 : decide (((o : Nat) : Int) = 8) = true := decide_eq_true (by omega)
    have qo8 : (((o : Nat) : Int) != 8) = false := by simp; omega
    have bn4 : (((n : Nat) : Int) == 4) = true := by simp; omega
    have jn4 : (((n : Nat) : Int) = 4) = True := eq_true (by omega)
    have kn4 : (n = 4) = True := eq_true (by omega)
    have dn4 : decide (((n : Nat) : Int) = 4) = true := decide_eq_true (by omega)
    have qn4 : (((n : Nat) : Int) != 4) = false := by simp; omega
    have e1 : decide ((0 : Int) < (cn : Int)) = true := decide_eq_true (by omega)
    have e2 : decide (0 < cn) = true := decide_eq_true h0
    have e3 : (0 < cn) = True := eq_true h0
    have HR := Lib.hid (show j.rcommand g c = j.rload g c by rw [HRC.out, if_pos h8, if_pos ⟨h4, h0⟩])
    have HX := Lib.hid (rload c H8.out (HN.out.symm.trans h4) HK.out.l8 HK.out.rw_ HK.out.rn HK.out.pr H0.out)
    clear h8 h4 h0
    obtain ⟨z, hz⟩ : ∃ z, z = j.rload g c := ⟨_, rfl⟩
    rw [← hz] at HX HR
    clear hz
    obtain ⟨v, jz⟩ := z
    simp only at HX HR
    go_enter Try.func32, Try.ntmps32
    go_wp2_with fail
    refine HX.out.mono ?_
    rintro _ w2 ⟨rfl, h2, b2⟩
    have H2 := Lib.hid h2
    have B2 := Lib.hid b2
    clear h2 b2 HX
    go_wp2
    go_ret
    rw [HR.out]
    exact ⟨rfl, H2.out, B2.out⟩
   ·
    skip
    have bo8 : (((o : Nat) : Int) == 8) = true := by simp; omega
    have jo8 : (((o : Nat) : Int) = 8) = True := eq_true (by omega)
    have ko8 : (o = 8) = True := eq_true (by omega)
    have do8 : decide (((o : Nat) : Int) = 8) = true := decide_eq_true (by omega)
    have qo8 : (((o : Nat) : Int) != 8) = false := by simp; omega
    have bn4 : (((n : Nat) : Int) == 4) = true := by simp; omega
    have jn4 : (((n : Nat) : Int) = 4) = True := eq_true (by omega)
    have kn4 : (n = 4) = True := eq_true (by omega)
    have dn4 : decide (((n : Nat) : Int) = 4) = true := decide_eq_true (by omega)
    have qn4 : (((n : Nat) : Int) != 4) = false := by simp; omega
    have e1 : decide ((0 : Int) < (cn : Int)) = false := decide_eq_false (by omega)
    have e2 : decide (0 < cn) = false := decide_eq_false h0
    have e3 : (0 < cn) = False := eq_false h0
    have HR := Lib.hid (show j.rcommand g c = (false, j) by rw [HRC.out, if_pos h8, if_neg (fun h => h0 h.2)])
    clear h8 h4 h0
    go_enter Try.func32, Try.ntmps32
    go_wp2
    go_ret
    rw [HR.out]
    exact ⟨rfl, H0.out, Btw.refl w⟩
  ·
   skip
   have bo8 : (((o : Nat) : Int) == 8) = true := by simp; omega
   have jo8 : (((o : Nat) : Int) = 8) = True := eq_true (by omega)
   have ko8 : (o = 8) = True := eq_true (by omega)
   have do8 : decide (((o : Nat) : Int) = 8) = true := decide_eq_true (by omega)
   have qo8 : (((o : Nat) : Int) != 8) = false := by simp; omega
   have bn4 : (((n : Nat) : Int) == 4) = false := by simp; omega
   have jn4 : (((n : Nat) : Int) = 4) = False := eq_false (by omega)
   have kn4 : (n = 4) = False := eq_false (by omega)
   have dn4 : decide (((n : Nat) : Int) = 4) = false := decide_eq_false (by omega)
   have qn4 : (((n : Nat) : Int) != 4) = true := by simp; omega
   have HR := Lib.hid (show j.rcommand g c = (false, j) by rw [HRC.out, if_pos h8, if_neg (fun h => h4 h.1)])
   clear h8 h4
   go_enter Try.func32, Try.ntmps32
   go_wp2
   go_ret
   rw [HR.out]
   exact ⟨rfl, H0.out, Btw.refl w⟩
 ·
  skip
  have bo8 : (((o : Nat) : Int) == 8) = false := by simp; omega
  have jo8 : (((o : Nat) : Int) = 8) = False := eq_false (by omega)
  have ko8 : (o = 8) = False := eq_false (by omega)
  have do8 : decide (((o : Nat) : Int) = 8) = false := decide_eq_false (by omega)
  have qo8 : (((o : Nat) : Int) != 8) = true := by simp; omega
  by_cases h9 : o = 9
  ·
   by_cases h2 : n = 2
   ·
    skip
    have bo9 : (((o : Nat) : Int) == 9) = true := by simp; omega
    have jo9 : (((o : Nat) : Int) = 9) = True := eq_true (by omega)
    have ko9 : (o = 9) = True := eq_true (by omega)
    have do9 : decide (((o : Nat) : Int) = 9) = true := decide_eq_true (by omega)
    have qo9 : (((o : Nat) : Int) != 9) = false := by simp; omega
    have bn2 : (((n : Nat) : Int) == 2) = true := by simp; omega
    have jn2 : (((n : Nat) : Int) = 2) = True := eq_true (by omega)
    have kn2 : (n = 2) = True := eq_true (by omega)
    have dn2 : decide (((n : Nat) : Int) = 2) = true := decide_eq_true (by omega)
    have qn2 : (((n : Nat) : Int) != 2) = false := by simp; omega
    have HR := Lib.hid (show j.rcommand g c = j.rerase g c by rw [HRC.out, if_neg h8, if_pos h9, if_pos h2])
    have HX := Lib.hid (rerase c H8.out (HN.out.symm.trans h2) HK.out.l8 (HK.out.e2 (HOO.out.symm.trans h9) (HN.out.symm.trans h2)) HK.out.bl HK.out.bn H0.out)
    clear h8 h9 h2
    obtain ⟨z, hz⟩ : ∃ z, z = j.rerase g c := ⟨_, rfl⟩
    rw [← hz] at HX HR
    clear hz
    obtain ⟨v, jz⟩ := z
    simp only at HX HR
    go_enter Try.func32, Try.ntmps32
    go_wp2_with fail
    refine HX.out.mono ?_
    rintro _ w2 ⟨rfl, h2, b2⟩
    have H2 := Lib.hid h2
    have B2 := Lib.hid b2
    clear h2 b2 HX
    go_wp2
    go_ret
    rw [HR.out]
    exact ⟨rfl, H2.out, B2.out⟩
   ·
    skip
    have bo9 : (((o : Nat) : Int) == 9) = true := by simp; omega
    have jo9 : (((o : Nat) : Int) = 9) = True := eq_true (by omega)
    have ko9 : (o = 9) = True := eq_true (by omega)
    have do9 : decide (((o : Nat) : Int) = 9) = true := decide_eq_true (by omega)
    have qo9 : (((o : Nat) : Int) != 9) = false := by simp; omega
    have bn2 : (((n : Nat) : Int) == 2) = false := by simp; omega
    have jn2 : (((n : Nat) : Int) = 2) = False := eq_false (by omega)
    have kn2 : (n = 2) = False := eq_false (by omega)
    have dn2 : decide (((n : Nat) : Int) = 2) = false := decide_eq_false (by omega)
    have qn2 : (((n : Nat) : Int) != 2) = true := by simp; omega
    have HR := Lib.hid (show j.rcommand g c = (false, j) by rw [HRC.out, if_neg h8, if_pos h9, if_neg h2])
    clear h8 h9 h2
    go_enter Try.func32, Try.ntmps32
    go_wp2
    go_ret
    rw [HR.out]
    exact ⟨rfl, H0.out, Btw.refl w⟩
  ·
   skip
   have bo9 : (((o : Nat) : Int) == 9) = false := by simp; omega
   have jo9 : (((o : Nat) : Int) = 9) = False := eq_false (by omega)
   have ko9 : (o = 9) = False := eq_false (by omega)
   have do9 : decide (((o : Nat) : Int) = 9) = false := decide_eq_false (by omega)
   have qo9 : (((o : Nat) : Int) != 9) = true := by simp; omega
   by_cases h54 : o = 5 ∧ n = 4
   ·
    obtain ⟨h5, h4⟩ := h54
    by_cases hc : c = 48
    ·
     subst hc
     have bo5 : (((o : Nat) : Int) == 5) = true := by simp; omega
     have jo5 : (((o : Nat) : Int) = 5) = True := eq_true (by omega)
     have ko5 : (o = 5) = True := eq_true (by omega)
     have do5 : decide (((o : Nat) : Int) = 5) = true := decide_eq_true (by omega)
     have qo5 : (((o : Nat) : Int) != 5) = false := by simp; omega
     have bn4 : (((n : Nat) : Int) == 4) = true := by simp; omega
     have jn4 : (((n : Nat) : Int) = 4) = True := eq_true (by omega)
     have kn4 : (n = 4) = True := eq_true (by omega)
     have dn4 : decide (((n : Nat) : Int) = 4) = true := decide_eq_true (by omega)
     have qn4 : (((n : Nat) : Int) != 4) = false := by simp; omega
     have HR := Lib.hid (show j.rcommand g 48 = (true, ({ j with col := j.addr2 0, data := true } : Jd).start) by rw [HRC.out, if_neg h8, if_neg h9, if_pos ⟨h5, h4⟩, if_pos rfl])
     have HTW := Lib.hid (rtwo 0 (by have := HN.out; omega) (by have := HK.out.ln; omega) HK.out.l8 H0.out)
     clear h8 h9 h5 h4
     go_enter Try.func32, Try.ntmps32
     go_wp2_with fail
     refine HTW.out.mono ?_
     rintro _ w1 ⟨rfl, h1⟩
     have CA := Lib.hid (show CRow w1 p 41 (rjCells g j m) ∧ RjR ρ w1 p g j m ∧ Btw I w w1 from ⟨C0.out.below h1, R0.out.below h1, Btw.of_below h1⟩)
     clear h1 HTW x10 x11 x12 x17
     have x18 := CA.out.1.cell_at 18 (.int .i64 (j.col : Int)) rfl
     have f18 := CA.out.1.frozen 18
     have S1 := Lib.hid (CA.out.1.setCell 18 (.int .i64 (j.addr2 0 : Int)))
     have S1K := Lib.hid ((Btw.refl (I := fun k => k = p) w1).setCell (p := ⟨p, 18, none⟩) (v := .int .i64 (j.addr2 0 : Int)) rfl)
     have C1 := Lib.hid (show CRow (w1.setCell ⟨p, 18, none⟩ (.int .i64 (j.addr2 0 : Int))) p 41 (rjCells g ({ j with col := j.addr2 0 } : Jd) m) ∧ RjR ρ (w1.setCell ⟨p, 18, none⟩ (.int .i64 (j.addr2 0 : Int))) p g ({ j with col := j.addr2 0 } : Jd) m ∧ Btw I w (w1.setCell ⟨p, 18, none⟩ (.int .i64 (j.addr2 0 : Int))) from
      ⟨by have h0 := S1.out; simpa [rjCells] using h0, (fun (h : RjR ρ _ p g j m) => ({ h with  } : RjR ρ _ p g ({ j with col := j.addr2 0 } : Jd) m)) (CA.out.2.1.btw S1K.out fun k e => .inr (by have e : k = p := e; rw [e]; exact CA.out.2.1.rp)), CA.out.2.2.trans S1K.out fun k _ e => I0.out k (by have e : k = p := e; rw [e, CA.out.2.1.rp]; decide)⟩)
     have x17 := C1.out.1.cell_at 17 (.bool j.data) rfl
     have f17 := C1.out.1.frozen 17
     have S2 := Lib.hid (C1.out.1.setCell 17 (.bool true))
     have S2K := Lib.hid ((Btw.refl (I := fun k => k = p) (w1.setCell ⟨p, 18, none⟩ (.int .i64 (j.addr2 0 : Int)))).setCell (p := ⟨p, 17, none⟩) (v := .bool true) rfl)
     have C2 := Lib.hid (show CRow ((w1.setCell ⟨p, 18, none⟩ (.int .i64 (j.addr2 0 : Int))).setCell ⟨p, 17, none⟩ (.bool true)) p 41 (rjCells g ({ j with col := j.addr2 0, data := true } : Jd) m) ∧ RjR ρ ((w1.setCell ⟨p, 18, none⟩ (.int .i64 (j.addr2 0 : Int))).setCell ⟨p, 17, none⟩ (.bool true)) p g ({ j with col := j.addr2 0, data := true } : Jd) m ∧ Btw I w ((w1.setCell ⟨p, 18, none⟩ (.int .i64 (j.addr2 0 : Int))).setCell ⟨p, 17, none⟩ (.bool true)) from
      ⟨by have h0 := S2.out; simpa [rjCells] using h0, (fun (h : RjR ρ _ p g ({ j with col := j.addr2 0 } : Jd) m) => ({ h with  } : RjR ρ _ p g ({ j with col := j.addr2 0, data := true } : Jd) m)) (C1.out.2.1.btw S2K.out fun k e => .inr (by have e : k = p := e; rw [e]; exact C1.out.2.1.rp)), C1.out.2.2.trans S2K.out fun k _ e => I0.out k (by have e : k = p := e; rw [e, C1.out.2.1.rp]; decide)⟩)
     have HST := Lib.hid (rstart (j := ({ j with col := j.addr2 0, data := true } : Jd)) ⟨ρ, m, (C2.out).1, (C2.out).2.1, I0.out, fun k hk => N0.out k (Nat.le_trans (C2.out).2.2.size hk)⟩)
     go_wp2_with fail
     refine HST.out.mono ?_
     rintro _ w9 ⟨rfl, h9, b9⟩
     have H9 := Lib.hid h9
     have B9 := Lib.hid (C2.out.2.2.trans b9 fun _ _ h => h)
     clear h9 b9 HST
     go_wp2
     go_ret
     rw [HR.out]
     exact ⟨rfl, H9.out, B9.out⟩
    ·
     skip
     have bo5 : (((o : Nat) : Int) == 5) = true := by simp; omega
     have jo5 : (((o : Nat) : Int) = 5) = True := eq_true (by omega)
     have ko5 : (o = 5) = True := eq_true (by omega)
     have do5 : decide (((o : Nat) : Int) = 5) = true := decide_eq_true (by omega)
     have qo5 : (((o : Nat) : Int) != 5) = false := by simp; omega
     have bn4 : (((n : Nat) : Int) == 4) = true := by simp; omega
     have jn4 : (((n : Nat) : Int) = 4) = True := eq_true (by omega)
     have kn4 : (n = 4) = True := eq_true (by omega)
     have dn4 : decide (((n : Nat) : Int) = 4) = true := decide_eq_true (by omega)
     have qn4 : (((n : Nat) : Int) != 4) = false := by simp; omega
     have bc48 : (((c : Nat) : Int) == 48) = false := by simp; omega
     have jc48 : (((c : Nat) : Int) = 48) = False := eq_false (by omega)
     have kc48 : (c = 48) = False := eq_false (by omega)
     have dc48 : decide (((c : Nat) : Int) = 48) = false := decide_eq_false (by omega)
     have qc48 : (((c : Nat) : Int) != 48) = true := by simp; omega
     have HR := Lib.hid (show j.rcommand g c = (false, j) by rw [HRC.out, if_neg h8, if_neg h9, if_pos ⟨h5, h4⟩, if_neg hc])
     clear h8 h9 h5 h4 hc
     go_enter Try.func32, Try.ntmps32
     go_wp2
     go_ret
     rw [HR.out]
     exact ⟨rfl, H0.out, Btw.refl w⟩
   ·
    by_cases h7 : o = 7
    ·
     by_cases h2 : n = 2
     ·
      by_cases hc : c = 224
      ·
       subst hc
       have bo7 : (((o : Nat) : Int) == 7) = true := by simp; omega
       have jo7 : (((o : Nat) : Int) = 7) = True := eq_true (by omega)
       have ko7 : (o = 7) = True := eq_true (by omega)
       have do7 : decide (((o : Nat) : Int) = 7) = true := decide_eq_true (by omega)
       have qo7 : (((o : Nat) : Int) != 7) = false := by simp; omega
       have bn2 : (((n : Nat) : Int) == 2) = true := by simp; omega
       have jn2 : (((n : Nat) : Int) = 2) = True := eq_true (by omega)
       have kn2 : (n = 2) = True := eq_true (by omega)
       have dn2 : decide (((n : Nat) : Int) = 2) = true := decide_eq_true (by omega)
       have qn2 : (((n : Nat) : Int) != 2) = false := by simp; omega
       have bo5 : (((o : Nat) : Int) == 5) = false := by simp; omega
       have jo5 : (((o : Nat) : Int) = 5) = False := eq_false (by omega)
       have ko5 : (o = 5) = False := eq_false (by omega)
       have do5 : decide (((o : Nat) : Int) = 5) = false := decide_eq_false (by omega)
       have qo5 : (((o : Nat) : Int) != 5) = true := by simp; omega
       have HR := Lib.hid (show j.rcommand g 224 = (true, ({ j with col := j.addr2 0 } : Jd).enter 6) by rw [HRC.out, if_neg h8, if_neg h9, if_neg h54, if_pos h7, if_pos ⟨h2, rfl⟩])
       have HTW := Lib.hid (rtwo 0 (by have := HN.out; omega) (by have := HK.out.ln; omega) HK.out.l8 H0.out)
       clear h8 h9 h54 h7 h2
       go_enter Try.func32, Try.ntmps32
       go_wp2_with fail
       refine HTW.out.mono ?_
       rintro _ w1 ⟨rfl, h1⟩
       have CA := Lib.hid (show CRow w1 p 41 (rjCells g j m) ∧ RjR ρ w1 p g j m ∧ Btw I w w1 from ⟨C0.out.below h1, R0.out.below h1, Btw.of_below h1⟩)
       clear h1 HTW x10 x11 x12 x17
       have x18 := CA.out.1.cell_at 18 (.int .i64 (j.col : Int)) rfl
       have f18 := CA.out.1.frozen 18
       have S1 := Lib.hid (CA.out.1.setCell 18 (.int .i64 (j.addr2 0 : Int)))
       have S1K := Lib.hid ((Btw.refl (I := fun k => k = p) w1).setCell (p := ⟨p, 18, none⟩) (v := .int .i64 (j.addr2 0 : Int)) rfl)
       have C1 := Lib.hid (show CRow (w1.setCell ⟨p, 18, none⟩ (.int .i64 (j.addr2 0 : Int))) p 41 (rjCells g ({ j with col := j.addr2 0 } : Jd) m) ∧ RjR ρ (w1.setCell ⟨p, 18, none⟩ (.int .i64 (j.addr2 0 : Int))) p g ({ j with col := j.addr2 0 } : Jd) m ∧ Btw I w (w1.setCell ⟨p, 18, none⟩ (.int .i64 (j.addr2 0 : Int))) from
        ⟨by have h0 := S1.out; simpa [rjCells] using h0, (fun (h : RjR ρ _ p g j m) => ({ h with  } : RjR ρ _ p g ({ j with col := j.addr2 0 } : Jd) m)) (CA.out.2.1.btw S1K.out fun k e => .inr (by have e : k = p := e; rw [e]; exact CA.out.2.1.rp)), CA.out.2.2.trans S1K.out fun k _ e => I0.out k (by have e : k = p := e; rw [e, CA.out.2.1.rp]; decide)⟩)
       have HST := Lib.hid (rfree (j := ({ j with col := j.addr2 0 } : Jd)) ⟨ρ, m, (C1.out).1, (C1.out).2.1, I0.out, fun k hk => N0.out k (Nat.le_trans (C1.out).2.2.size hk)⟩)
       go_wp2_with fail
       refine HST.out.mono ?_
       rintro _ w9 ⟨rfl, h9, b9⟩
       obtain ⟨ρ9, m9, c9, r9, i9, n9⟩ := h9
       have C9 := Lib.hid c9
       have R9 := Lib.hid r9
       have I9 := Lib.hid i9
       have N9 := Lib.hid n9
       have B9 := Lib.hid (C1.out.2.2.trans b9 fun _ _ h => h)
       clear c9 r9 i9 n9 b9 HST
       have z10 := C9.out.cell_at 10 (.int .i64 1) rfl
       have g10 := C9.out.frozen 10
       have S3 := Lib.hid (C9.out.setCell 10 (.int .i64 6))
       have K3 := Lib.hid ((Btw.refl (I := fun k => k = p) w9).setCell (p := ⟨p, 10, none⟩) (v := .int .i64 6) rfl)
       go_wp2
       go_ret
       have H := RJ.of (I := I) (j' := ({ j with col := j.addr2 0 } : Jd).enter 6) (m' := m9) R9.out I9.out N9.out (by
        have h0 := S3.out
        simpa [rjCells, Jd.enter] using h0) K3.out fun W h => { h with }
       rw [HR.out]
       exact ⟨rfl, H.1, B9.out.trans H.2 fun _ _ h => h⟩
      ·
       skip
       have bo7 : (((o : Nat) : Int) == 7) = true := by simp; omega
       have jo7 : (((o : Nat) : Int) = 7) = True := eq_true (by omega)
       have ko7 : (o = 7) = True := eq_true (by omega)
       have do7 : decide (((o : Nat) : Int) = 7) = true := decide_eq_true (by omega)
       have qo7 : (((o : Nat) : Int) != 7) = false := by simp; omega
       have bn2 : (((n : Nat) : Int) == 2) = true := by simp; omega
       have jn2 : (((n : Nat) : Int) = 2) = True := eq_true (by omega)
       have kn2 : (n = 2) = True := eq_true (by omega)
       have dn2 : decide (((n : Nat) : Int) = 2) = true := decide_eq_true (by omega)
       have qn2 : (((n : Nat) : Int) != 2) = false := by simp; omega
       have bo5 : (((o : Nat) : Int) == 5) = false := by simp; omega
       have jo5 : (((o : Nat) : Int) = 5) = False := eq_false (by omega)
       have ko5 : (o = 5) = False := eq_false (by omega)
       have do5 : decide (((o : Nat) : Int) = 5) = false := decide_eq_false (by omega)
       have qo5 : (((o : Nat) : Int) != 5) = true := by simp; omega
       have bc224 : (((c : Nat) : Int) == 224) = false := by simp; omega
       have jc224 : (((c : Nat) : Int) = 224) = False := eq_false (by omega)
       have kc224 : (c = 224) = False := eq_false (by omega)
       have dc224 : decide (((c : Nat) : Int) = 224) = false := decide_eq_false (by omega)
       have qc224 : (((c : Nat) : Int) != 224) = true := by simp; omega
       have HR := Lib.hid (show j.rcommand g c = (false, j) by rw [HRC.out, if_neg h8, if_neg h9, if_neg h54, if_pos h7, if_neg (fun h => hc h.2)])
       clear h8 h9 h54 h7 h2 hc
       go_enter Try.func32, Try.ntmps32
       go_wp2
       go_ret
       rw [HR.out]
       exact ⟨rfl, H0.out, Btw.refl w⟩
     ·
      skip
      have bo7 : (((o : Nat) : Int) == 7) = true := by simp; omega
      have jo7 : (((o : Nat) : Int) = 7) = True := eq_true (by omega)
      have ko7 : (o = 7) = True := eq_true (by omega)
      have do7 : decide (((o : Nat) : Int) = 7) = true := decide_eq_true (by omega)
      have qo7 : (((o : Nat) : Int) != 7) = false := by simp; omega
      have bn2 : (((n : Nat) : Int) == 2) = false := by simp; omega
      have jn2 : (((n : Nat) : Int) = 2) = False := eq_false (by omega)
      have kn2 : (n = 2) = False := eq_false (by omega)
      have dn2 : decide (((n : Nat) : Int) = 2) = false := decide_eq_false (by omega)
      have qn2 : (((n : Nat) : Int) != 2) = true := by simp; omega
      have bo5 : (((o : Nat) : Int) == 5) = false := by simp; omega
      have jo5 : (((o : Nat) : Int) = 5) = False := eq_false (by omega)
      have ko5 : (o = 5) = False := eq_false (by omega)
      have do5 : decide (((o : Nat) : Int) = 5) = false := decide_eq_false (by omega)
      have qo5 : (((o : Nat) : Int) != 5) = true := by simp; omega
      have HR := Lib.hid (show j.rcommand g c = (false, j) by rw [HRC.out, if_neg h8, if_neg h9, if_neg h54, if_pos h7, if_neg (fun h => h2 h.1)])
      clear h8 h9 h54 h7 h2
      go_enter Try.func32, Try.ntmps32
      go_wp2
      go_ret
      rw [HR.out]
      exact ⟨rfl, H0.out, Btw.refl w⟩
    ·
     skip
     have bo7 : (((o : Nat) : Int) == 7) = false := by simp; omega
     have jo7 : (((o : Nat) : Int) = 7) = False := eq_false (by omega)
     have ko7 : (o = 7) = False := eq_false (by omega)
     have do7 : decide (((o : Nat) : Int) = 7) = false := decide_eq_false (by omega)
     have qo7 : (((o : Nat) : Int) != 7) = true := by simp; omega
     by_cases h1 : o = 1
     ·
      skip
      have bo1 : (((o : Nat) : Int) == 1) = true := by simp; omega
      have jo1 : (((o : Nat) : Int) = 1) = True := eq_true (by omega)
      have ko1 : (o = 1) = True := eq_true (by omega)
      have do1 : decide (((o : Nat) : Int) = 1) = true := decide_eq_true (by omega)
      have qo1 : (((o : Nat) : Int) != 1) = false := by simp; omega
      have bo5 : (((o : Nat) : Int) == 5) = false := by simp; omega
      have jo5 : (((o : Nat) : Int) = 5) = False := eq_false (by omega)
      have ko5 : (o = 5) = False := eq_false (by omega)
      have do5 : decide (((o : Nat) : Int) = 5) = false := decide_eq_false (by omega)
      have qo5 : (((o : Nat) : Int) != 5) = true := by simp; omega
      have HR := Lib.hid (show j.rcommand g c = j.rbegin c by rw [HRC.out, if_neg h8, if_neg h9, if_neg h54, if_neg h7, if_pos (.inl h1)])
      have HX := Lib.hid (rbegin c H8.out HK.out.rn HK.out.bn H0.out)
      clear h8 h9 h54 h7 h1
      obtain ⟨z, hz⟩ : ∃ z, z = j.rbegin c := ⟨_, rfl⟩
      rw [← hz] at HX HR
      clear hz
      obtain ⟨v, jz⟩ := z
      simp only at HX HR
      go_enter Try.func32, Try.ntmps32
      go_wp2_with fail
      refine HX.out.mono ?_
      rintro _ w2 ⟨rfl, h2, b2⟩
      have H2 := Lib.hid h2
      have B2 := Lib.hid b2
      clear h2 b2 HX
      go_wp2
      go_ret
      rw [HR.out]
      exact ⟨rfl, H2.out, B2.out⟩
     ·
      skip
      have bo1 : (((o : Nat) : Int) == 1) = false := by simp; omega
      have jo1 : (((o : Nat) : Int) = 1) = False := eq_false (by omega)
      have ko1 : (o = 1) = False := eq_false (by omega)
      have do1 : decide (((o : Nat) : Int) = 1) = false := decide_eq_false (by omega)
      have qo1 : (((o : Nat) : Int) != 1) = true := by simp; omega
      by_cases h6 : o = 6
      ·
       skip
       have bo6 : (((o : Nat) : Int) == 6) = true := by simp; omega
       have jo6 : (((o : Nat) : Int) = 6) = True := eq_true (by omega)
       have ko6 : (o = 6) = True := eq_true (by omega)
       have do6 : decide (((o : Nat) : Int) = 6) = true := decide_eq_true (by omega)
       have qo6 : (((o : Nat) : Int) != 6) = false := by simp; omega
       have bo5 : (((o : Nat) : Int) == 5) = false := by simp; omega
       have jo5 : (((o : Nat) : Int) = 5) = False := eq_false (by omega)
       have ko5 : (o = 5) = False := eq_false (by omega)
       have do5 : decide (((o : Nat) : Int) = 5) = false := decide_eq_false (by omega)
       have qo5 : (((o : Nat) : Int) != 5) = true := by simp; omega
       have HR := Lib.hid (show j.rcommand g c = j.rbegin c by rw [HRC.out, if_neg h8, if_neg h9, if_neg h54, if_neg h7, if_pos (.inr (.inl h6))])
       have HX := Lib.hid (rbegin c H8.out HK.out.rn HK.out.bn H0.out)
       clear h8 h9 h54 h7 h1 h6
       obtain ⟨z, hz⟩ : ∃ z, z = j.rbegin c := ⟨_, rfl⟩
       rw [← hz] at HX HR
       clear hz
       obtain ⟨v, jz⟩ := z
       simp only at HX HR
       go_enter Try.func32, Try.ntmps32
       go_wp2_with fail
       refine HX.out.mono ?_
       rintro _ w2 ⟨rfl, h2, b2⟩
       have H2 := Lib.hid h2
       have B2 := Lib.hid b2
       clear h2 b2 HX
       go_wp2
       go_ret
       rw [HR.out]
       exact ⟨rfl, H2.out, B2.out⟩
      ·
       skip
       have bo6 : (((o : Nat) : Int) == 6) = false := by simp; omega
       have jo6 : (((o : Nat) : Int) = 6) = False := eq_false (by omega)
       have ko6 : (o = 6) = False := eq_false (by omega)
       have do6 : decide (((o : Nat) : Int) = 6) = false := decide_eq_false (by omega)
       have qo6 : (((o : Nat) : Int) != 6) = true := by simp; omega
       by_cases h2 : o = 2
       ·
        skip
        have bo2 : (((o : Nat) : Int) == 2) = true := by simp; omega
        have jo2 : (((o : Nat) : Int) = 2) = True := eq_true (by omega)
        have ko2 : (o = 2) = True := eq_true (by omega)
        have do2 : decide (((o : Nat) : Int) = 2) = true := decide_eq_true (by omega)
        have qo2 : (((o : Nat) : Int) != 2) = false := by simp; omega
        have bo5 : (((o : Nat) : Int) == 5) = false := by simp; omega
        have jo5 : (((o : Nat) : Int) = 5) = False := eq_false (by omega)
        have ko5 : (o = 5) = False := eq_false (by omega)
        have do5 : decide (((o : Nat) : Int) = 5) = false := decide_eq_false (by omega)
        have qo5 : (((o : Nat) : Int) != 5) = true := by simp; omega
        by_cases hn1 : n = 1
        ·
         skip
         have bn1 : (((n : Nat) : Int) == 1) = true := by simp; omega
         have jn1 : (((n : Nat) : Int) = 1) = True := eq_true (by omega)
         have kn1 : (n = 1) = True := eq_true (by omega)
         have dn1 : decide (((n : Nat) : Int) = 1) = true := decide_eq_true (by omega)
         have qn1 : (((n : Nat) : Int) != 1) = false := by simp; omega
         have HR := Lib.hid (show j.rcommand g c = j.rbegin c by rw [HRC.out, if_neg h8, if_neg h9, if_neg h54, if_neg h7, if_pos (.inr (.inr (.inl ⟨h2, hn1⟩)))])
         have HX := Lib.hid (rbegin c H8.out HK.out.rn HK.out.bn H0.out)
         clear h8 h9 h54 h7 h1 h6 h2 hn1
         obtain ⟨z, hz⟩ : ∃ z, z = j.rbegin c := ⟨_, rfl⟩
         rw [← hz] at HX HR
         clear hz
         obtain ⟨v, jz⟩ := z
         simp only at HX HR
         go_enter Try.func32, Try.ntmps32
         go_wp2_with fail
         refine HX.out.mono ?_
         rintro _ w2 ⟨rfl, h2, b2⟩
         have H2 := Lib.hid h2
         have B2 := Lib.hid b2
         clear h2 b2 HX
         go_wp2
         go_ret
         rw [HR.out]
         exact ⟨rfl, H2.out, B2.out⟩
        ·
         skip
         have bn1 : (((n : Nat) : Int) == 1) = false := by simp; omega
         have jn1 : (((n : Nat) : Int) = 1) = False := eq_false (by omega)
         have kn1 : (n = 1) = False := eq_false (by omega)
         have dn1 : decide (((n : Nat) : Int) = 1) = false := decide_eq_false (by omega)
         have qn1 : (((n : Nat) : Int) != 1) = true := by simp; omega
         have HR := Lib.hid (show j.rcommand g c = (false, j) by rw [HRC.out, if_neg h8, if_neg h9, if_neg h54, if_neg h7, if_neg (fun h => h.elim h1 fun h => h.elim h6 fun h => h.elim (fun h => hn1 h.2) fun h => by omega)])
         clear h8 h9 h54 h7 h1 h6 h2 hn1
         go_enter Try.func32, Try.ntmps32
         go_wp2
         go_ret
         rw [HR.out]
         exact ⟨rfl, H0.out, Btw.refl w⟩
       ·
        skip
        have bo2 : (((o : Nat) : Int) == 2) = false := by simp; omega
        have jo2 : (((o : Nat) : Int) = 2) = False := eq_false (by omega)
        have ko2 : (o = 2) = False := eq_false (by omega)
        have do2 : decide (((o : Nat) : Int) = 2) = false := decide_eq_false (by omega)
        have qo2 : (((o : Nat) : Int) != 2) = true := by simp; omega
        by_cases h5 : o = 5
        ·
         have hn4 : n ≠ 4 := fun e => h54 ⟨h5, e⟩
         have bo5 : (((o : Nat) : Int) == 5) = true := by simp; omega
         have jo5 : (((o : Nat) : Int) = 5) = True := eq_true (by omega)
         have ko5 : (o = 5) = True := eq_true (by omega)
         have do5 : decide (((o : Nat) : Int) = 5) = true := decide_eq_true (by omega)
         have qo5 : (((o : Nat) : Int) != 5) = false := by simp; omega
         have bn4 : (((n : Nat) : Int) == 4) = false := by simp; omega
         have jn4 : (((n : Nat) : Int) = 4) = False := eq_false (by omega)
         have kn4 : (n = 4) = False := eq_false (by omega)
         have dn4 : decide (((n : Nat) : Int) = 4) = false := decide_eq_false (by omega)
         have qn4 : (((n : Nat) : Int) != 4) = true := by simp; omega
         by_cases hn0 : n = 0
         ·
          skip
          have bn0 : (((n : Nat) : Int) == 0) = true := by simp; omega
          have jn0 : (((n : Nat) : Int) = 0) = True := eq_true (by omega)
          have kn0 : (n = 0) = True := eq_true (by omega)
          have dn0 : decide (((n : Nat) : Int) = 0) = true := decide_eq_true (by omega)
          have qn0 : (((n : Nat) : Int) != 0) = false := by simp; omega
          cases da with
          | true =>
           have HR := Lib.hid (show j.rcommand g c = j.rbegin c by rw [HRC.out, if_neg h8, if_neg h9, if_neg h54, if_neg h7, if_pos (.inr (.inr (.inr ⟨h5, hn0, rfl⟩)))])
           have HX := Lib.hid (rbegin c H8.out HK.out.rn HK.out.bn H0.out)
           clear h8 h9 h54 h7 h1 h6 h2 h5 hn4 hn0
           obtain ⟨z, hz⟩ : ∃ z, z = j.rbegin c := ⟨_, rfl⟩
           rw [← hz] at HX HR
           clear hz
           obtain ⟨v, jz⟩ := z
           simp only at HX HR
           go_enter Try.func32, Try.ntmps32
           go_wp2_with fail
           refine HX.out.mono ?_
           rintro _ w2 ⟨rfl, h2, b2⟩
           have H2 := Lib.hid h2
           have B2 := Lib.hid b2
           clear h2 b2 HX
           go_wp2
           go_ret
           rw [HR.out]
           exact ⟨rfl, H2.out, B2.out⟩
          | false =>
           have HR := Lib.hid (show j.rcommand g c = (false, j) by rw [HRC.out, if_neg h8, if_neg h9, if_neg h54, if_neg h7, if_neg (fun h => h.elim h1 fun h => h.elim h6 fun h => h.elim (fun h => h2 h.1) fun h => absurd h.2.2 (by decide))])
           clear h8 h9 h54 h7 h1 h6 h2 h5 hn4 hn0
           go_enter Try.func32, Try.ntmps32
           go_wp2
           go_ret
           rw [HR.out]
           exact ⟨rfl, H0.out, Btw.refl w⟩
         ·
          skip
          have bn0 : (((n : Nat) : Int) == 0) = false := by simp; omega
          have jn0 : (((n : Nat) : Int) = 0) = False := eq_false (by omega)
          have kn0 : (n = 0) = False := eq_false (by omega)
          have dn0 : decide (((n : Nat) : Int) = 0) = false := decide_eq_false (by omega)
          have qn0 : (((n : Nat) : Int) != 0) = true := by simp; omega
          have HR := Lib.hid (show j.rcommand g c = (false, j) by rw [HRC.out, if_neg h8, if_neg h9, if_neg h54, if_neg h7, if_neg (fun h => h.elim h1 fun h => h.elim h6 fun h => h.elim (fun h => h2 h.1) fun h => hn0 h.2.1)])
          clear h8 h9 h54 h7 h1 h6 h2 h5 hn4 hn0
          go_enter Try.func32, Try.ntmps32
          go_wp2
          go_ret
          rw [HR.out]
          exact ⟨rfl, H0.out, Btw.refl w⟩
        ·
         skip
         have bo5 : (((o : Nat) : Int) == 5) = false := by simp; omega
         have jo5 : (((o : Nat) : Int) = 5) = False := eq_false (by omega)
         have ko5 : (o = 5) = False := eq_false (by omega)
         have do5 : decide (((o : Nat) : Int) = 5) = false := decide_eq_false (by omega)
         have qo5 : (((o : Nat) : Int) != 5) = true := by simp; omega
         have HR := Lib.hid (show j.rcommand g c = (false, j) by rw [HRC.out, if_neg h8, if_neg h9, if_neg h54, if_neg h7, if_neg (fun h => h.elim h1 fun h => h.elim h6 fun h => h.elim (fun h => h2 h.1) fun h => h5 h.1)])
         clear h8 h9 h54 h7 h1 h6 h2 h5
         go_enter Try.func32, Try.ntmps32
         go_wp2
         go_ret
         rw [HR.out]
         exact ⟨rfl, H0.out, Btw.refl w⟩
end
end Go.Proofs.Ytaidgjidpghgnaa
