/-
  The document's judge: takes, Step.
-/
import Derived.Test.YtaidgjidpghgnaaJudgeStepsJ11
namespace Go.Proofs.Ytaidgjidpghgnaa
open Go.RowKit
set_option maxRecDepth 100000

section
variable {ρ : Nat → Nat} {I K : Nat → Prop} {w w' : World} {p : Nat} {g : Gm} {j j' : Jd} {m m' : RjM}
/-- Behind the note on polls: st tells whether it is one. -/
def Jd.rtk (g : Gm) (j : Jd) (st : Bool) (k : Int) (b : Nat) : Bool × Jd :=
 if k = 1 ∧ b = 255 then (true, j.rreset.start)
 else if j.op = 0 then (false, j)
 else if k = 1 ∧ b = 112 then (true, if j.busy = true then j else j.enter 1)
 else if st = true then (true, j.rpoll b)
 else if j.busy = true then (false, j)
 else if k = 1 then j.rcommand g b
 else if k = 2 then j.raddr g b
 else if k = 3 then j.rwrite g
 else if k = 4 then j.rread g
 else (false, j)
/-- Whether a cycle is taken, and what is known behind it. -/
def Jd.rtakes (g : Gm) (j : Jd) (k : Int) (b : Nat) : Bool × Jd :=
 Jd.rtk g { j with pol := (j.pol && decide (k = 4)) || (decide (k = 1) && decide (b = 112)) } (j.pol && decide (k = 4)) k b
def Jd.rstep (g : Gm) (j : Jd) (k : Int) (b : Nat) : Bool × Jd := if j.rej = true then (false, j) else if (j.rtakes g k b).1 = true then (true, (j.rtakes g k b).2) else (false, { (j.rtakes g k b).2 with rej := true })
theorem Rok.polled (h : Rok g j) (x : Bool) : Rok g { j with pol := x } := { h with }
set_option maxHeartbeats 16000000 in
theorem rtakes (kk : Int) (bb : Nat) (hb8 : bb < 256) (hk : Rok g j) (hE : ∀ b ∈ j.erases, b < g.b.toNat) (hn : j.erases.length ≤ 1000000) (h : RJ I w p g j) : Calls Try.prog 21 #[.pointer (some ⟨p, 0, none⟩), .agg #[.int .i64 kk, .int .u8 (bb : Int)]] w (ActsR I p g (.bool (j.rtakes g kk bb).1) (j.rtakes g kk bb).2 w) := by
 have HK := Lib.hid hk
 have HE := Lib.hid hE
 have HEN := Lib.hid hn
 have H8 := Lib.hid hb8
 obtain ⟨ρ, m, hc, hr, hi, hnw⟩ := h
 have A0 := Lib.hid (below_new w (.cells #[.int .i64 kk, .int .u8 (bb : Int)] 36))
 have Z0 := Lib.hid (CRow.new w #[.int .i64 kk, .int .u8 (bb : Int)] 36)
 obtain ⟨w0, hw0⟩ : ∃ w0, w0 = w.alloc (.cells #[.int .i64 kk, .int .u8 (bb : Int)] 36) := ⟨_, rfl⟩
 have HW0 := Lib.hid hw0
 have I0 := Lib.hid hi
 have N0 := Lib.hid hnw
 have CA := Lib.hid (show CRow (w.alloc (.cells #[.int .i64 kk, .int .u8 (bb : Int)] 36)) p 41 (rjCells g j m) ∧ RjR ρ (w.alloc (.cells #[.int .i64 kk, .int .u8 (bb : Int)] 36)) p g j m ∧ Btw I w (w.alloc (.cells #[.int .i64 kk, .int .u8 (bb : Int)] 36)) from ⟨hc.below A0.out, hr.below A0.out, Btw.of_below A0.out⟩)
 obtain ⟨o, ho⟩ : ∃ o, o = j.op := ⟨_, rfl⟩
 have HOO := Lib.hid ho
 obtain ⟨pl, hpl⟩ : ∃ x, x = j.pol := ⟨_, rfl⟩
 have HPL := Lib.hid hpl
 obtain ⟨bu, hbu⟩ : ∃ x, x = j.busy := ⟨_, rfl⟩
 have HBU := Lib.hid hbu
 have x13 : (w.alloc (.cells #[.int .i64 kk, .int .u8 (bb : Int)] 36)).cell? ⟨p, 13, none⟩ = some (.bool pl) := by rw [hpl]; exact CA.out.1.cell_at 13 _ rfl
 have y0 := Z0.out.cell_at 0 (.int .i64 kk) rfl
 have y1 := Z0.out.cell_at 1 (.int .u8 (bb : Int)) rfl
 have NP := Lib.hid (show p ≠ w.heap.size from fun e => by have := hc.lt; omega)
 have wb : IntKind.i64.wrap (bb : Int) = (bb : Int) := IntWalk.i64_in _ (by omega)
 clear hc hr hi hnw hk hE hn hb8 hw0 ho hpl hbu
 cases pl with
 | true =>
  by_cases h1 : kk = 1
  ·
   by_cases h255 : bb = 255
   ·
    skip
    have hx112 : bb ≠ 112 := by omega
    have a1 : (kk == 1) = true := by simp; omega
    have aj1 : (kk = 1) = True := eq_true (by omega)
    have ad1 : decide (kk = 1) = true := decide_eq_true (by omega)
    have a2 : (kk == 2) = false := by simp; omega
    have aj2 : (kk = 2) = False := eq_false (by omega)
    have ad2 : decide (kk = 2) = false := decide_eq_false (by omega)
    have a3 : (kk == 3) = false := by simp; omega
    have aj3 : (kk = 3) = False := eq_false (by omega)
    have ad3 : decide (kk = 3) = false := decide_eq_false (by omega)
    have a4 : (kk == 4) = false := by simp; omega
    have aj4 : (kk = 4) = False := eq_false (by omega)
    have ad4 : decide (kk = 4) = false := decide_eq_false (by omega)
    have bbb255 : (((bb : Nat) : Int) == 255) = true := by simp; omega
    have jbb255 : (((bb : Nat) : Int) = 255) = True := eq_true (by omega)
    have kbb255 : (bb = 255) = True := eq_true (by omega)
    have dbb255 : decide (((bb : Nat) : Int) = 255) = true := decide_eq_true (by omega)
    have qbb255 : (((bb : Nat) : Int) != 255) = false := by simp; omega
    have bbb112 : (((bb : Nat) : Int) == 112) = false := by simp; omega
    have jbb112 : (((bb : Nat) : Int) = 112) = False := eq_false (by omega)
    have kbb112 : (bb = 112) = False := eq_false (by omega)
    have dbb112 : decide (((bb : Nat) : Int) = 112) = false := decide_eq_false (by omega)
    have qbb112 : (((bb : Nat) : Int) != 112) = true := by simp; omega
    have E1 : (j.pol && decide (kk = 4)) = false := by rw [← HPL.out, ad4]; rfl
    have E2 : ((false || false) || (decide (kk = 1) && decide (bb = 112))) = false := by rw [ad1, decide_eq_false (by omega)]; rfl
    have E3 : j.rtakes g kk bb = Jd.rtk g ({ j with pol := false } : Jd) false kk bb := by unfold Jd.rtakes; rw [E1]; rw [Bool.false_or] at E2; rw [E2]
    have HR := Lib.hid (show j.rtakes g kk bb = (true, ({ j with pol := false } : Jd).rreset.start) by rw [E3]; unfold Jd.rtk; rw [if_pos ⟨by omega, by omega⟩])
    clear E1 E2 E3 h1 h255 hx112
    have f13 := CA.out.1.frozen 13
    have S1 := Lib.hid (CA.out.1.setCell 13 (.bool false))
    have S1K := Lib.hid ((Btw.refl (I := fun k => k = p) (w.alloc (.cells #[.int .i64 kk, .int .u8 (bb : Int)] 36))).setCell (p := ⟨p, 13, none⟩) (v := .bool false) rfl)
    have C1 := Lib.hid (show CRow ((w.alloc (.cells #[.int .i64 kk, .int .u8 (bb : Int)] 36)).setCell ⟨p, 13, none⟩ (.bool false)) p 41 (rjCells g ({ j with pol := false } : Jd) m) ∧ RjR ρ ((w.alloc (.cells #[.int .i64 kk, .int .u8 (bb : Int)] 36)).setCell ⟨p, 13, none⟩ (.bool false)) p g ({ j with pol := false } : Jd) m ∧ Btw I w ((w.alloc (.cells #[.int .i64 kk, .int .u8 (bb : Int)] 36)).setCell ⟨p, 13, none⟩ (.bool false)) from
     ⟨by have h0 := S1.out; simpa [rjCells] using h0, (fun (h : RjR ρ _ p g j m) => ({ h with  } : RjR ρ _ p g ({ j with pol := false } : Jd) m)) (CA.out.2.1.btw S1K.out fun k e => .inr (by have e : k = p := e; rw [e]; exact CA.out.2.1.rp)), CA.out.2.2.trans S1K.out fun k _ e => I0.out k (by have e : k = p := e; rw [e, CA.out.2.1.rp]; decide)⟩)
    have z10 : ((w.alloc (.cells #[.int .i64 kk, .int .u8 (bb : Int)] 36)).setCell ⟨p, 13, none⟩ (.bool false)).cell? ⟨p, 10, none⟩ = some (.int .i64 (o : Int)) := by rw [HOO.out]; exact C1.out.1.cell_at 10 _ rfl
    have z14 : ((w.alloc (.cells #[.int .i64 kk, .int .u8 (bb : Int)] 36)).setCell ⟨p, 13, none⟩ (.bool false)).cell? ⟨p, 14, none⟩ = some (.bool bu) := by
     have h0 := C1.out.1.cell_at 14 (.bool j.busy) rfl
     rw [← HBU.out] at h0
     exact h0
    have q0 : ((w.alloc (.cells #[.int .i64 kk, .int .u8 (bb : Int)] 36)).setCell ⟨p, 13, none⟩ (.bool false)).cell? ⟨w.heap.size, 0, none⟩ = some (.int .i64 kk) := (Z0.out.setCell_other (p := ⟨p, 13, none⟩) (fun e => NP.out e.symm) _).cell_at 0 _ rfl
    have q1 : ((w.alloc (.cells #[.int .i64 kk, .int .u8 (bb : Int)] 36)).setCell ⟨p, 13, none⟩ (.bool false)).cell? ⟨w.heap.size, 1, none⟩ = some (.int .u8 (bb : Int)) := (Z0.out.setCell_other (p := ⟨p, 13, none⟩) (fun e => NP.out e.symm) _).cell_at 1 _ rfl
    have HX := Lib.hid (rreset (j := ({ j with pol := false } : Jd)) HE.out HEN.out ⟨ρ, m, (C1.out).1, (C1.out).2.1, I0.out, fun k hk => N0.out k (Nat.le_trans (C1.out).2.2.size hk)⟩)
    go_enter Try.func21, Try.ntmps21
    go_wp2_with fail
    clear x13 y0 y1 q0 q1 z10 z14 f13
    refine HX.out.mono ?_
    rintro _ w2 ⟨rfl, h2, b2⟩
    have H2 := Lib.hid h2
    have B2 := Lib.hid (C1.out.2.2.trans b2 fun _ _ h => h)
    clear h2 b2 HX
    have HY := Lib.hid (rstart H2.out)
    go_wp2_with fail
    refine HY.out.mono ?_
    rintro _ w3 ⟨rfl, h3, b3⟩
    have H3 := Lib.hid h3
    have B3 := Lib.hid (B2.out.trans b3 fun _ _ h => h)
    clear h3 b3 HY
    go_wp2
    go_ret
    rw [HR.out]
    exact ⟨rfl, H3.out, B3.out⟩
   ·
    by_cases h112 : bb = 112
    ·
     skip
     by_cases ho : o = 0
     ·
      skip
      have bo0 : (((o : Nat) : Int) == 0) = true := by simp; omega
      have jo0 : (((o : Nat) : Int) = 0) = True := eq_true (by omega)
      have ko0 : (o = 0) = True := eq_true (by omega)
      have do0 : decide (((o : Nat) : Int) = 0) = true := decide_eq_true (by omega)
      have qo0 : (((o : Nat) : Int) != 0) = false := by simp; omega
      have a1 : (kk == 1) = true := by simp; omega
      have aj1 : (kk = 1) = True := eq_true (by omega)
      have ad1 : decide (kk = 1) = true := decide_eq_true (by omega)
      have a2 : (kk == 2) = false := by simp; omega
      have aj2 : (kk = 2) = False := eq_false (by omega)
      have ad2 : decide (kk = 2) = false := decide_eq_false (by omega)
      have a3 : (kk == 3) = false := by simp; omega
      have aj3 : (kk = 3) = False := eq_false (by omega)
      have ad3 : decide (kk = 3) = false := decide_eq_false (by omega)
      have a4 : (kk == 4) = false := by simp; omega
      have aj4 : (kk = 4) = False := eq_false (by omega)
      have ad4 : decide (kk = 4) = false := decide_eq_false (by omega)
      have bbb255 : (((bb : Nat) : Int) == 255) = false := by simp; omega
      have jbb255 : (((bb : Nat) : Int) = 255) = False := eq_false (by omega)
      have kbb255 : (bb = 255) = False := eq_false (by omega)
      have dbb255 : decide (((bb : Nat) : Int) = 255) = false := decide_eq_false (by omega)
      have qbb255 : (((bb : Nat) : Int) != 255) = true := by simp; omega
      have bbb112 : (((bb : Nat) : Int) == 112) = true := by simp; omega
      have jbb112 : (((bb : Nat) : Int) = 112) = True := eq_true (by omega)
      have kbb112 : (bb = 112) = True := eq_true (by omega)
      have dbb112 : decide (((bb : Nat) : Int) = 112) = true := decide_eq_true (by omega)
      have qbb112 : (((bb : Nat) : Int) != 112) = false := by simp; omega
      have E1 : (j.pol && decide (kk = 4)) = false := by rw [← HPL.out, ad4]; rfl
      have E2 : ((false || false) || (decide (kk = 1) && decide (bb = 112))) = true := by rw [ad1, decide_eq_true (by omega)]; rfl
      have E3 : j.rtakes g kk bb = Jd.rtk g ({ j with pol := true } : Jd) false kk bb := by unfold Jd.rtakes; rw [E1]; rw [Bool.false_or] at E2; rw [E2]
      have HR := Lib.hid (show j.rtakes g kk bb = (false, ({ j with pol := true } : Jd)) by rw [E3]; unfold Jd.rtk; rw [if_neg (fun h => by omega), if_pos (show j.op = 0 by have := HOO.out; omega)])
      clear E1 E2 E3 h1 h255 h112 ho
      have f13 := CA.out.1.frozen 13
      have S1 := Lib.hid (CA.out.1.setCell 13 (.bool true))
      have S1K := Lib.hid ((Btw.refl (I := fun k => k = p) (w.alloc (.cells #[.int .i64 kk, .int .u8 (bb : Int)] 36))).setCell (p := ⟨p, 13, none⟩) (v := .bool true) rfl)
      have C1 := Lib.hid (show CRow ((w.alloc (.cells #[.int .i64 kk, .int .u8 (bb : Int)] 36)).setCell ⟨p, 13, none⟩ (.bool true)) p 41 (rjCells g ({ j with pol := true } : Jd) m) ∧ RjR ρ ((w.alloc (.cells #[.int .i64 kk, .int .u8 (bb : Int)] 36)).setCell ⟨p, 13, none⟩ (.bool true)) p g ({ j with pol := true } : Jd) m ∧ Btw I w ((w.alloc (.cells #[.int .i64 kk, .int .u8 (bb : Int)] 36)).setCell ⟨p, 13, none⟩ (.bool true)) from
       ⟨by have h0 := S1.out; simpa [rjCells] using h0, (fun (h : RjR ρ _ p g j m) => ({ h with  } : RjR ρ _ p g ({ j with pol := true } : Jd) m)) (CA.out.2.1.btw S1K.out fun k e => .inr (by have e : k = p := e; rw [e]; exact CA.out.2.1.rp)), CA.out.2.2.trans S1K.out fun k _ e => I0.out k (by have e : k = p := e; rw [e, CA.out.2.1.rp]; decide)⟩)
      have z10 : ((w.alloc (.cells #[.int .i64 kk, .int .u8 (bb : Int)] 36)).setCell ⟨p, 13, none⟩ (.bool true)).cell? ⟨p, 10, none⟩ = some (.int .i64 (o : Int)) := by rw [HOO.out]; exact C1.out.1.cell_at 10 _ rfl
      have z14 : ((w.alloc (.cells #[.int .i64 kk, .int .u8 (bb : Int)] 36)).setCell ⟨p, 13, none⟩ (.bool true)).cell? ⟨p, 14, none⟩ = some (.bool bu) := by
       have h0 := C1.out.1.cell_at 14 (.bool j.busy) rfl
       rw [← HBU.out] at h0
       exact h0
      have q0 : ((w.alloc (.cells #[.int .i64 kk, .int .u8 (bb : Int)] 36)).setCell ⟨p, 13, none⟩ (.bool true)).cell? ⟨w.heap.size, 0, none⟩ = some (.int .i64 kk) := (Z0.out.setCell_other (p := ⟨p, 13, none⟩) (fun e => NP.out e.symm) _).cell_at 0 _ rfl
      have q1 : ((w.alloc (.cells #[.int .i64 kk, .int .u8 (bb : Int)] 36)).setCell ⟨p, 13, none⟩ (.bool true)).cell? ⟨w.heap.size, 1, none⟩ = some (.int .u8 (bb : Int)) := (Z0.out.setCell_other (p := ⟨p, 13, none⟩) (fun e => NP.out e.symm) _).cell_at 1 _ rfl
      go_enter Try.func21, Try.ntmps21
      go_wp2
      go_ret
      rw [HR.out]
      exact ⟨rfl, ⟨ρ, m, (C1.out).1, (C1.out).2.1, I0.out, fun k hk => N0.out k (Nat.le_trans (C1.out).2.2.size hk)⟩, C1.out.2.2⟩
     ·
      skip
      have bo0 : (((o : Nat) : Int) == 0) = false := by simp; omega
      have jo0 : (((o : Nat) : Int) = 0) = False := eq_false (by omega)
      have ko0 : (o = 0) = False := eq_false (by omega)
      have do0 : decide (((o : Nat) : Int) = 0) = false := decide_eq_false (by omega)
      have qo0 : (((o : Nat) : Int) != 0) = true := by simp; omega
      cases bu with
      | true =>
       have a1 : (kk == 1) = true := by simp; omega
       have aj1 : (kk = 1) = True := eq_true (by omega)
       have ad1 : decide (kk = 1) = true := decide_eq_true (by omega)
       have a2 : (kk == 2) = false := by simp; omega
       have aj2 : (kk = 2) = False := eq_false (by omega)
       have ad2 : decide (kk = 2) = false := decide_eq_false (by omega)
       have a3 : (kk == 3) = false := by simp; omega
       have aj3 : (kk = 3) = False := eq_false (by omega)
       have ad3 : decide (kk = 3) = false := decide_eq_false (by omega)
       have a4 : (kk == 4) = false := by simp; omega
       have aj4 : (kk = 4) = False := eq_false (by omega)
       have ad4 : decide (kk = 4) = false := decide_eq_false (by omega)
       have bbb255 : (((bb : Nat) : Int) == 255) = false := by simp; omega
       have jbb255 : (((bb : Nat) : Int) = 255) = False := eq_false (by omega)
       have kbb255 : (bb = 255) = False := eq_false (by omega)
       have dbb255 : decide (((bb : Nat) : Int) = 255) = false := decide_eq_false (by omega)
       have qbb255 : (((bb : Nat) : Int) != 255) = true := by simp; omega
       have bbb112 : (((bb : Nat) : Int) == 112) = true := by simp; omega
       have jbb112 : (((bb : Nat) : Int) = 112) = True := eq_true (by omega)
       have kbb112 : (bb = 112) = True := eq_true (by omega)
       have dbb112 : decide (((bb : Nat) : Int) = 112) = true := decide_eq_true (by omega)
       have qbb112 : (((bb : Nat) : Int) != 112) = false := by simp; omega
       have E1 : (j.pol && decide (kk = 4)) = false := by rw [← HPL.out, ad4]; rfl
       have E2 : ((false || false) || (decide (kk = 1) && decide (bb = 112))) = true := by rw [ad1, decide_eq_true (by omega)]; rfl
       have E3 : j.rtakes g kk bb = Jd.rtk g ({ j with pol := true } : Jd) false kk bb := by unfold Jd.rtakes; rw [E1]; rw [Bool.false_or] at E2; rw [E2]
       have HR := Lib.hid (show j.rtakes g kk bb = (true, ({ j with pol := true } : Jd)) by rw [E3]; unfold Jd.rtk; rw [if_neg (fun h => by omega), if_neg (show ¬ j.op = 0 by have := HOO.out; omega), if_pos ⟨by omega, by omega⟩, if_pos (show j.busy = true from HBU.out.symm)])
       clear E1 E2 E3 h1 h255 h112 ho
       have f13 := CA.out.1.frozen 13
       have S1 := Lib.hid (CA.out.1.setCell 13 (.bool true))
       have S1K := Lib.hid ((Btw.refl (I := fun k => k = p) (w.alloc (.cells #[.int .i64 kk, .int .u8 (bb : Int)] 36))).setCell (p := ⟨p, 13, none⟩) (v := .bool true) rfl)
       have C1 := Lib.hid (show CRow ((w.alloc (.cells #[.int .i64 kk, .int .u8 (bb : Int)] 36)).setCell ⟨p, 13, none⟩ (.bool true)) p 41 (rjCells g ({ j with pol := true } : Jd) m) ∧ RjR ρ ((w.alloc (.cells #[.int .i64 kk, .int .u8 (bb : Int)] 36)).setCell ⟨p, 13, none⟩ (.bool true)) p g ({ j with pol := true } : Jd) m ∧ Btw I w ((w.alloc (.cells #[.int .i64 kk, .int .u8 (bb : Int)] 36)).setCell ⟨p, 13, none⟩ (.bool true)) from
        ⟨by have h0 := S1.out; simpa [rjCells] using h0, (fun (h : RjR ρ _ p g j m) => ({ h with  } : RjR ρ _ p g ({ j with pol := true } : Jd) m)) (CA.out.2.1.btw S1K.out fun k e => .inr (by have e : k = p := e; rw [e]; exact CA.out.2.1.rp)), CA.out.2.2.trans S1K.out fun k _ e => I0.out k (by have e : k = p := e; rw [e, CA.out.2.1.rp]; decide)⟩)
       have z10 : ((w.alloc (.cells #[.int .i64 kk, .int .u8 (bb : Int)] 36)).setCell ⟨p, 13, none⟩ (.bool true)).cell? ⟨p, 10, none⟩ = some (.int .i64 (o : Int)) := by rw [HOO.out]; exact C1.out.1.cell_at 10 _ rfl
       have z14 : ((w.alloc (.cells #[.int .i64 kk, .int .u8 (bb : Int)] 36)).setCell ⟨p, 13, none⟩ (.bool true)).cell? ⟨p, 14, none⟩ = some (.bool true) := by
        have h0 := C1.out.1.cell_at 14 (.bool j.busy) rfl
        rw [← HBU.out] at h0
        exact h0
       have q0 : ((w.alloc (.cells #[.int .i64 kk, .int .u8 (bb : Int)] 36)).setCell ⟨p, 13, none⟩ (.bool true)).cell? ⟨w.heap.size, 0, none⟩ = some (.int .i64 kk) := (Z0.out.setCell_other (p := ⟨p, 13, none⟩) (fun e => NP.out e.symm) _).cell_at 0 _ rfl
       have q1 : ((w.alloc (.cells #[.int .i64 kk, .int .u8 (bb : Int)] 36)).setCell ⟨p, 13, none⟩ (.bool true)).cell? ⟨w.heap.size, 1, none⟩ = some (.int .u8 (bb : Int)) := (Z0.out.setCell_other (p := ⟨p, 13, none⟩) (fun e => NP.out e.symm) _).cell_at 1 _ rfl
       go_enter Try.func21, Try.ntmps21
       go_wp2
       go_ret
       rw [HR.out]
       exact ⟨rfl, ⟨ρ, m, (C1.out).1, (C1.out).2.1, I0.out, fun k hk => N0.out k (Nat.le_trans (C1.out).2.2.size hk)⟩, C1.out.2.2⟩
      | false =>
       have a1 : (kk == 1) = true := by simp; omega
       have aj1 : (kk = 1) = True := eq_true (by omega)
       have ad1 : decide (kk = 1) = true := decide_eq_true (by omega)
       have a2 : (kk == 2) = false := by simp; omega
       have aj2 : (kk = 2) = False := eq_false (by omega)
       have ad2 : decide (kk = 2) = false := decide_eq_false (by omega)
       have a3 : (kk == 3) = false := by simp; omega
       have aj3 : (kk = 3) = False := eq_false (by omega)
       have ad3 : decide (kk = 3) = false := decide_eq_false (by omega)
       have a4 : (kk == 4) = false := by simp; omega
       have aj4 : (kk = 4) = False := eq_false (by omega)
       have ad4 : decide (kk = 4) = false := decide_eq_false (by omega)
       have bbb255 : (((bb : Nat) : Int) == 255) = false := by simp; omega
       have jbb255 : (((bb : Nat) : Int) = 255) = False := eq_false (by omega)
       have kbb255 : (bb = 255) = False := eq_false (by omega)
       have dbb255 : decide (((bb : Nat) : Int) = 255) = false := decide_eq_false (by omega)
       have qbb255 : (((bb : Nat) : Int) != 255) = true := by simp; omega
       have bbb112 : (((bb : Nat) : Int) == 112) = true := by simp; omega
       have jbb112 : (((bb : Nat) : Int) = 112) = True := eq_true (by omega)
       have kbb112 : (bb = 112) = True := eq_true (by omega)
       have dbb112 : decide (((bb : Nat) : Int) = 112) = true := decide_eq_true (by omega)
       have qbb112 : (((bb : Nat) : Int) != 112) = false := by simp; omega
       have E1 : (j.pol && decide (kk = 4)) = false := by rw [← HPL.out, ad4]; rfl
       have E2 : ((false || false) || (decide (kk = 1) && decide (bb = 112))) = true := by rw [ad1, decide_eq_true (by omega)]; rfl
       have E3 : j.rtakes g kk bb = Jd.rtk g ({ j with pol := true } : Jd) false kk bb := by unfold Jd.rtakes; rw [E1]; rw [Bool.false_or] at E2; rw [E2]
       have HR := Lib.hid (show j.rtakes g kk bb = (true, ({ j with pol := true } : Jd).enter 1) by rw [E3]; unfold Jd.rtk; rw [if_neg (fun h => by omega), if_neg (show ¬ j.op = 0 by have := HOO.out; omega), if_pos ⟨by omega, by omega⟩, if_neg (show ¬ j.busy = true by rw [← HBU.out]; decide)])
       clear E1 E2 E3 h1 h255 h112 ho
       have f13 := CA.out.1.frozen 13
       have S1 := Lib.hid (CA.out.1.setCell 13 (.bool true))
       have S1K := Lib.hid ((Btw.refl (I := fun k => k = p) (w.alloc (.cells #[.int .i64 kk, .int .u8 (bb : Int)] 36))).setCell (p := ⟨p, 13, none⟩) (v := .bool true) rfl)
       have C1 := Lib.hid (show CRow ((w.alloc (.cells #[.int .i64 kk, .int .u8 (bb : Int)] 36)).setCell ⟨p, 13, none⟩ (.bool true)) p 41 (rjCells g ({ j with pol := true } : Jd) m) ∧ RjR ρ ((w.alloc (.cells #[.int .i64 kk, .int .u8 (bb : Int)] 36)).setCell ⟨p, 13, none⟩ (.bool true)) p g ({ j with pol := true } : Jd) m ∧ Btw I w ((w.alloc (.cells #[.int .i64 kk, .int .u8 (bb : Int)] 36)).setCell ⟨p, 13, none⟩ (.bool true)) from
        ⟨by have h0 := S1.out; simpa [rjCells] using h0, (fun (h : RjR ρ _ p g j m) => ({ h with  } : RjR ρ _ p g ({ j with pol := true } : Jd) m)) (CA.out.2.1.btw S1K.out fun k e => .inr (by have e : k = p := e; rw [e]; exact CA.out.2.1.rp)), CA.out.2.2.trans S1K.out fun k _ e => I0.out k (by have e : k = p := e; rw [e, CA.out.2.1.rp]; decide)⟩)
       have z10 : ((w.alloc (.cells #[.int .i64 kk, .int .u8 (bb : Int)] 36)).setCell ⟨p, 13, none⟩ (.bool true)).cell? ⟨p, 10, none⟩ = some (.int .i64 (o : Int)) := by rw [HOO.out]; exact C1.out.1.cell_at 10 _ rfl
       have z14 : ((w.alloc (.cells #[.int .i64 kk, .int .u8 (bb : Int)] 36)).setCell ⟨p, 13, none⟩ (.bool true)).cell? ⟨p, 14, none⟩ = some (.bool false) := by
        have h0 := C1.out.1.cell_at 14 (.bool j.busy) rfl
        rw [← HBU.out] at h0
        exact h0
       have q0 : ((w.alloc (.cells #[.int .i64 kk, .int .u8 (bb : Int)] 36)).setCell ⟨p, 13, none⟩ (.bool true)).cell? ⟨w.heap.size, 0, none⟩ = some (.int .i64 kk) := (Z0.out.setCell_other (p := ⟨p, 13, none⟩) (fun e => NP.out e.symm) _).cell_at 0 _ rfl
       have q1 : ((w.alloc (.cells #[.int .i64 kk, .int .u8 (bb : Int)] 36)).setCell ⟨p, 13, none⟩ (.bool true)).cell? ⟨w.heap.size, 1, none⟩ = some (.int .u8 (bb : Int)) := (Z0.out.setCell_other (p := ⟨p, 13, none⟩) (fun e => NP.out e.symm) _).cell_at 1 _ rfl
       have HX := Lib.hid (rfree (j := ({ j with pol := true } : Jd))  ⟨ρ, m, (C1.out).1, (C1.out).2.1, I0.out, fun k hk => N0.out k (Nat.le_trans (C1.out).2.2.size hk)⟩)
       go_enter Try.func21, Try.ntmps21
       go_wp2_with fail
       clear x13 y0 y1 q0 q1 z10 z14 f13
       refine HX.out.mono ?_
       rintro _ w2 ⟨rfl, h2, b2⟩
       have H2 := Lib.hid h2
       have B2 := Lib.hid (C1.out.2.2.trans b2 fun _ _ h => h)
       clear h2 b2 HX
       go_wp2
       go_ret
       rw [HR.out]
       exact ⟨rfl, H2.out, B2.out⟩
    ·
     skip
     by_cases ho : o = 0
     ·
      skip
      have bo0 : (((o : Nat) : Int) == 0) = true := by simp; omega
      have jo0 : (((o : Nat) : Int) = 0) = True := eq_true (by omega)
      have ko0 : (o = 0) = True := eq_true (by omega)
      have do0 : decide (((o : Nat) : Int) = 0) = true := decide_eq_true (by omega)
      have qo0 : (((o : Nat) : Int) != 0) = false := by simp; omega
      have a1 : (kk == 1) = true := by simp; omega
      have aj1 : (kk = 1) = True := eq_true (by omega)
      have ad1 : decide (kk = 1) = true := decide_eq_true (by omega)
      have a2 : (kk == 2) = false := by simp; omega
      have aj2 : (kk = 2) = False := eq_false (by omega)
      have ad2 : decide (kk = 2) = false := decide_eq_false (by omega)
      have a3 : (kk == 3) = false := by simp; omega
      have aj3 : (kk = 3) = False := eq_false (by omega)
      have ad3 : decide (kk = 3) = false := decide_eq_false (by omega)
      have a4 : (kk == 4) = false := by simp; omega
      have aj4 : (kk = 4) = False := eq_false (by omega)
      have ad4 : decide (kk = 4) = false := decide_eq_false (by omega)
      have bbb255 : (((bb : Nat) : Int) == 255) = false := by simp; omega
      have jbb255 : (((bb : Nat) : Int) = 255) = False := eq_false (by omega)
      have kbb255 : (bb = 255) = False := eq_false (by omega)
      have dbb255 : decide (((bb : Nat) : Int) = 255) = false := decide_eq_false (by omega)
      have qbb255 : (((bb : Nat) : Int) != 255) = true := by simp; omega
      have bbb112 : (((bb : Nat) : Int) == 112) = false := by simp; omega
      have jbb112 : (((bb : Nat) : Int) = 112) = False := eq_false (by omega)
      have kbb112 : (bb = 112) = False := eq_false (by omega)
      have dbb112 : decide (((bb : Nat) : Int) = 112) = false := decide_eq_false (by omega)
      have qbb112 : (((bb : Nat) : Int) != 112) = true := by simp; omega
      have E1 : (j.pol && decide (kk = 4)) = false := by rw [← HPL.out, ad4]; rfl
      have E2 : ((false || false) || (decide (kk = 1) && decide (bb = 112))) = false := by rw [ad1, decide_eq_false (by omega)]; rfl
      have E3 : j.rtakes g kk bb = Jd.rtk g ({ j with pol := false } : Jd) false kk bb := by unfold Jd.rtakes; rw [E1]; rw [Bool.false_or] at E2; rw [E2]
      have HR := Lib.hid (show j.rtakes g kk bb = (false, ({ j with pol := false } : Jd)) by rw [E3]; unfold Jd.rtk; rw [if_neg (fun h => by omega), if_pos (show j.op = 0 by have := HOO.out; omega)])
      clear E1 E2 E3 h1 h255 h112 ho
      have f13 := CA.out.1.frozen 13
      have S1 := Lib.hid (CA.out.1.setCell 13 (.bool false))
      have S1K := Lib.hid ((Btw.refl (I := fun k => k = p) (w.alloc (.cells #[.int .i64 kk, .int .u8 (bb : Int)] 36))).setCell (p := ⟨p, 13, none⟩) (v := .bool false) rfl)
      have C1 := Lib.hid (show CRow ((w.alloc (.cells #[.int .i64 kk, .int .u8 (bb : Int)] 36)).setCell ⟨p, 13, none⟩ (.bool false)) p 41 (rjCells g ({ j with pol := false } : Jd) m) ∧ RjR ρ ((w.alloc (.cells #[.int .i64 kk, .int .u8 (bb : Int)] 36)).setCell ⟨p, 13, none⟩ (.bool false)) p g ({ j with pol := false } : Jd) m ∧ Btw I w ((w.alloc (.cells #[.int .i64 kk, .int .u8 (bb : Int)] 36)).setCell ⟨p, 13, none⟩ (.bool false)) from
       ⟨by have h0 := S1.out; simpa [rjCells] using h0, (fun (h : RjR ρ _ p g j m) => ({ h with  } : RjR ρ _ p g ({ j with pol := false } : Jd) m)) (CA.out.2.1.btw S1K.out fun k e => .inr (by have e : k = p := e; rw [e]; exact CA.out.2.1.rp)), CA.out.2.2.trans S1K.out fun k _ e => I0.out k (by have e : k = p := e; rw [e, CA.out.2.1.rp]; decide)⟩)
      have z10 : ((w.alloc (.cells #[.int .i64 kk, .int .u8 (bb : Int)] 36)).setCell ⟨p, 13, none⟩ (.bool false)).cell? ⟨p, 10, none⟩ = some (.int .i64 (o : Int)) := by rw [HOO.out]; exact C1.out.1.cell_at 10 _ rfl
      have z14 : ((w.alloc (.cells #[.int .i64 kk, .int .u8 (bb : Int)] 36)).setCell ⟨p, 13, none⟩ (.bool false)).cell? ⟨p, 14, none⟩ = some (.bool bu) := by
       have h0 := C1.out.1.cell_at 14 (.bool j.busy) rfl
       rw [← HBU.out] at h0
       exact h0
      have q0 : ((w.alloc (.cells #[.int .i64 kk, .int .u8 (bb : Int)] 36)).setCell ⟨p, 13, none⟩ (.bool false)).cell? ⟨w.heap.size, 0, none⟩ = some (.int .i64 kk) := (Z0.out.setCell_other (p := ⟨p, 13, none⟩) (fun e => NP.out e.symm) _).cell_at 0 _ rfl
      have q1 : ((w.alloc (.cells #[.int .i64 kk, .int .u8 (bb : Int)] 36)).setCell ⟨p, 13, none⟩ (.bool false)).cell? ⟨w.heap.size, 1, none⟩ = some (.int .u8 (bb : Int)) := (Z0.out.setCell_other (p := ⟨p, 13, none⟩) (fun e => NP.out e.symm) _).cell_at 1 _ rfl
      go_enter Try.func21, Try.ntmps21
      go_wp2
      go_ret
      rw [HR.out]
      exact ⟨rfl, ⟨ρ, m, (C1.out).1, (C1.out).2.1, I0.out, fun k hk => N0.out k (Nat.le_trans (C1.out).2.2.size hk)⟩, C1.out.2.2⟩
     ·
      skip
      have bo0 : (((o : Nat) : Int) == 0) = false := by simp; omega
      have jo0 : (((o : Nat) : Int) = 0) = False := eq_false (by omega)
      have ko0 : (o = 0) = False := eq_false (by omega)
      have do0 : decide (((o : Nat) : Int) = 0) = false := decide_eq_false (by omega)
      have qo0 : (((o : Nat) : Int) != 0) = true := by simp; omega
      cases bu with
      | true =>
       have a1 : (kk == 1) = true := by simp; omega
       have aj1 : (kk = 1) = True := eq_true (by omega)
       have ad1 : decide (kk = 1) = true := decide_eq_true (by omega)
       have a2 : (kk == 2) = false := by simp; omega
       have aj2 : (kk = 2) = False := eq_false (by omega)
       have ad2 : decide (kk = 2) = false := decide_eq_false (by omega)
       have a3 : (kk == 3) = false := by simp; omega
       have aj3 : (kk = 3) = False := eq_false (by omega)
       have ad3 : decide (kk = 3) = false := decide_eq_false (by omega)
       have a4 : (kk == 4) = false := by simp; omega
       have aj4 : (kk = 4) = False := eq_false (by omega)
       have ad4 : decide (kk = 4) = false := decide_eq_false (by omega)
       have bbb255 : (((bb : Nat) : Int) == 255) = false := by simp; omega
       have jbb255 : (((bb : Nat) : Int) = 255) = False := eq_false (by omega)
       have kbb255 : (bb = 255) = False := eq_false (by omega)
       have dbb255 : decide (((bb : Nat) : Int) = 255) = false := decide_eq_false (by omega)
       have qbb255 : (((bb : Nat) : Int) != 255) = true := by simp; omega
       have bbb112 : (((bb : Nat) : Int) == 112) = false := by simp; omega
       have jbb112 : (((bb : Nat) : Int) = 112) = False := eq_false (by omega)
       have kbb112 : (bb = 112) = False := eq_false (by omega)
       have dbb112 : decide (((bb : Nat) : Int) = 112) = false := decide_eq_false (by omega)
       have qbb112 : (((bb : Nat) : Int) != 112) = true := by simp; omega
       have E1 : (j.pol && decide (kk = 4)) = false := by rw [← HPL.out, ad4]; rfl
       have E2 : ((false || false) || (decide (kk = 1) && decide (bb = 112))) = false := by rw [ad1, decide_eq_false (by omega)]; rfl
       have E3 : j.rtakes g kk bb = Jd.rtk g ({ j with pol := false } : Jd) false kk bb := by unfold Jd.rtakes; rw [E1]; rw [Bool.false_or] at E2; rw [E2]
       have HR := Lib.hid (show j.rtakes g kk bb = (false, ({ j with pol := false } : Jd)) by rw [E3]; unfold Jd.rtk; rw [if_neg (fun h => by omega), if_neg (show ¬ j.op = 0 by have := HOO.out; omega), if_neg (fun h => by omega), if_neg (by decide), if_pos (show j.busy = true from HBU.out.symm)])
       clear E1 E2 E3 h1 h255 h112 ho
       have f13 := CA.out.1.frozen 13
       have S1 := Lib.hid (CA.out.1.setCell 13 (.bool false))
       have S1K := Lib.hid ((Btw.refl (I := fun k => k = p) (w.alloc (.cells #[.int .i64 kk, .int .u8 (bb : Int)] 36))).setCell (p := ⟨p, 13, none⟩) (v := .bool false) rfl)
       have C1 := Lib.hid (show CRow ((w.alloc (.cells #[.int .i64 kk, .int .u8 (bb : Int)] 36)).setCell ⟨p, 13, none⟩ (.bool false)) p 41 (rjCells g ({ j with pol := false } : Jd) m) ∧ RjR ρ ((w.alloc (.cells #[.int .i64 kk, .int .u8 (bb : Int)] 36)).setCell ⟨p, 13, none⟩ (.bool false)) p g ({ j with pol := false } : Jd) m ∧ Btw I w ((w.alloc (.cells #[.int .i64 kk, .int .u8 (bb : Int)] 36)).setCell ⟨p, 13, none⟩ (.bool false)) from
        ⟨by have h0 := S1.out; simpa [rjCells] using h0, (fun (h : RjR ρ _ p g j m) => ({ h with  } : RjR ρ _ p g ({ j with pol := false } : Jd) m)) (CA.out.2.1.btw S1K.out fun k e => .inr (by have e : k = p := e; rw [e]; exact CA.out.2.1.rp)), CA.out.2.2.trans S1K.out fun k _ e => I0.out k (by have e : k = p := e; rw [e, CA.out.2.1.rp]; decide)⟩)
       have z10 : ((w.alloc (.cells #[.int .i64 kk, .int .u8 (bb : Int)] 36)).setCell ⟨p, 13, none⟩ (.bool false)).cell? ⟨p, 10, none⟩ = some (.int .i64 (o : Int)) := by rw [HOO.out]; exact C1.out.1.cell_at 10 _ rfl
       have z14 : ((w.alloc (.cells #[.int .i64 kk, .int .u8 (bb : Int)] 36)).setCell ⟨p, 13, none⟩ (.bool false)).cell? ⟨p, 14, none⟩ = some (.bool true) := by
        have h0 := C1.out.1.cell_at 14 (.bool j.busy) rfl
        rw [← HBU.out] at h0
        exact h0
       have q0 : ((w.alloc (.cells #[.int .i64 kk, .int .u8 (bb : Int)] 36)).setCell ⟨p, 13, none⟩ (.bool false)).cell? ⟨w.heap.size, 0, none⟩ = some (.int .i64 kk) := (Z0.out.setCell_other (p := ⟨p, 13, none⟩) (fun e => NP.out e.symm) _).cell_at 0 _ rfl
       have q1 : ((w.alloc (.cells #[.int .i64 kk, .int .u8 (bb : Int)] 36)).setCell ⟨p, 13, none⟩ (.bool false)).cell? ⟨w.heap.size, 1, none⟩ = some (.int .u8 (bb : Int)) := (Z0.out.setCell_other (p := ⟨p, 13, none⟩) (fun e => NP.out e.symm) _).cell_at 1 _ rfl
       go_enter Try.func21, Try.ntmps21
       go_wp2
       go_ret
       rw [HR.out]
       exact ⟨rfl, ⟨ρ, m, (C1.out).1, (C1.out).2.1, I0.out, fun k hk => N0.out k (Nat.le_trans (C1.out).2.2.size hk)⟩, C1.out.2.2⟩
      | false =>
       have a1 : (kk == 1) = true := by simp; omega
       have aj1 : (kk = 1) = True := eq_true (by omega)
       have ad1 : decide (kk = 1) = true := decide_eq_true (by omega)
       have a2 : (kk == 2) = false := by simp; omega
       have aj2 : (kk = 2) = False := eq_false (by omega)
       have ad2 : decide (kk = 2) = false := decide_eq_false (by omega)
       have a3 : (kk == 3) = false := by simp; omega
       have aj3 : (kk = 3) = False := eq_false (by omega)
       have ad3 : decide (kk = 3) = false := decide_eq_false (by omega)
       have a4 : (kk == 4) = false := by simp; omega
       have aj4 : (kk = 4) = False := eq_false (by omega)
       have ad4 : decide (kk = 4) = false := decide_eq_false (by omega)
       have bbb255 : (((bb : Nat) : Int) == 255) = false := by simp; omega
       have jbb255 : (((bb : Nat) : Int) = 255) = False := eq_false (by omega)
       have kbb255 : (bb = 255) = False := eq_false (by omega)
       have dbb255 : decide (((bb : Nat) : Int) = 255) = false := decide_eq_false (by omega)
       have qbb255 : (((bb : Nat) : Int) != 255) = true := by simp; omega
       have bbb112 : (((bb : Nat) : Int) == 112) = false := by simp; omega
       have jbb112 : (((bb : Nat) : Int) = 112) = False := eq_false (by omega)
       have kbb112 : (bb = 112) = False := eq_false (by omega)
       have dbb112 : decide (((bb : Nat) : Int) = 112) = false := decide_eq_false (by omega)
       have qbb112 : (((bb : Nat) : Int) != 112) = true := by simp; omega
       have E1 : (j.pol && decide (kk = 4)) = false := by rw [← HPL.out, ad4]; rfl
       have E2 : ((false || false) || (decide (kk = 1) && decide (bb = 112))) = false := by rw [ad1, decide_eq_false (by omega)]; rfl
       have E3 : j.rtakes g kk bb = Jd.rtk g ({ j with pol := false } : Jd) false kk bb := by unfold Jd.rtakes; rw [E1]; rw [Bool.false_or] at E2; rw [E2]
       have HR := Lib.hid (show j.rtakes g kk bb = ({ j with pol := false } : Jd).rcommand g bb by rw [E3]; unfold Jd.rtk; rw [if_neg (fun h => by omega), if_neg (show ¬ j.op = 0 by have := HOO.out; omega), if_neg (fun h => by omega), if_neg (by decide), if_neg (show ¬ j.busy = true by rw [← HBU.out]; decide), if_pos (by omega)])
       clear E1 E2 E3 h1 h255 h112 ho
       have f13 := CA.out.1.frozen 13
       have S1 := Lib.hid (CA.out.1.setCell 13 (.bool false))
       have S1K := Lib.hid ((Btw.refl (I := fun k => k = p) (w.alloc (.cells #[.int .i64 kk, .int .u8 (bb : Int)] 36))).setCell (p := ⟨p, 13, none⟩) (v := .bool false) rfl)
       have C1 := Lib.hid (show CRow ((w.alloc (.cells #[.int .i64 kk, .int .u8 (bb : Int)] 36)).setCell ⟨p, 13, none⟩ (.bool false)) p 41 (rjCells g ({ j with pol := false } : Jd) m) ∧ RjR ρ ((w.alloc (.cells #[.int .i64 kk, .int .u8 (bb : Int)] 36)).setCell ⟨p, 13, none⟩ (.bool false)) p g ({ j with pol := false } : Jd) m ∧ Btw I w ((w.alloc (.cells #[.int .i64 kk, .int .u8 (bb : Int)] 36)).setCell ⟨p, 13, none⟩ (.bool false)) from
        ⟨by have h0 := S1.out; simpa [rjCells] using h0, (fun (h : RjR ρ _ p g j m) => ({ h with  } : RjR ρ _ p g ({ j with pol := false } : Jd) m)) (CA.out.2.1.btw S1K.out fun k e => .inr (by have e : k = p := e; rw [e]; exact CA.out.2.1.rp)), CA.out.2.2.trans S1K.out fun k _ e => I0.out k (by have e : k = p := e; rw [e, CA.out.2.1.rp]; decide)⟩)
       have z10 : ((w.alloc (.cells #[.int .i64 kk, .int .u8 (bb : Int)] 36)).setCell ⟨p, 13, none⟩ (.bool false)).cell? ⟨p, 10, none⟩ = some (.int .i64 (o : Int)) := by rw [HOO.out]; exact C1.out.1.cell_at 10 _ rfl
       have z14 : ((w.alloc (.cells #[.int .i64 kk, .int .u8 (bb : Int)] 36)).setCell ⟨p, 13, none⟩ (.bool false)).cell? ⟨p, 14, none⟩ = some (.bool false) := by
        have h0 := C1.out.1.cell_at 14 (.bool j.busy) rfl
        rw [← HBU.out] at h0
        exact h0
       have q0 : ((w.alloc (.cells #[.int .i64 kk, .int .u8 (bb : Int)] 36)).setCell ⟨p, 13, none⟩ (.bool false)).cell? ⟨w.heap.size, 0, none⟩ = some (.int .i64 kk) := (Z0.out.setCell_other (p := ⟨p, 13, none⟩) (fun e => NP.out e.symm) _).cell_at 0 _ rfl
       have q1 : ((w.alloc (.cells #[.int .i64 kk, .int .u8 (bb : Int)] 36)).setCell ⟨p, 13, none⟩ (.bool false)).cell? ⟨w.heap.size, 1, none⟩ = some (.int .u8 (bb : Int)) := (Z0.out.setCell_other (p := ⟨p, 13, none⟩) (fun e => NP.out e.symm) _).cell_at 1 _ rfl
       have HX := Lib.hid (rcommand (j := ({ j with pol := false } : Jd)) bb H8.out (HK.out.polled _) ⟨ρ, m, (C1.out).1, (C1.out).2.1, I0.out, fun k hk => N0.out k (Nat.le_trans (C1.out).2.2.size hk)⟩)
       obtain ⟨z, hz⟩ : ∃ z, z = ({ j with pol := false } : Jd).rcommand g bb := ⟨_, rfl⟩
       rw [← hz] at HX HR
       clear hz
       obtain ⟨v, jz⟩ := z
       simp only at HX HR
       go_enter Try.func21, Try.ntmps21
       go_wp2_with fail
       clear x13 y0 y1 q0 q1 z10 z14 f13
       refine HX.out.mono ?_
       rintro _ w2 ⟨rfl, h2, b2⟩
       have H2 := Lib.hid h2
       have B2 := Lib.hid (C1.out.2.2.trans b2 fun _ _ h => h)
       clear h2 b2 HX
       go_wp2
       go_ret
       rw [HR.out]
       exact ⟨rfl, H2.out, B2.out⟩
  ·
   by_cases h2 : kk = 2
   ·
    skip
    by_cases ho : o = 0
    ·
     skip
     have bo0 : (((o : Nat) : Int) == 0) = true := by simp; omega
     have jo0 : (((o : Nat) : Int) = 0) = True := eq_true (by omega)
     have ko0 : (o = 0) = True := eq_true (by omega)
     have do0 : decide (((o : Nat) : Int) = 0) = true := decide_eq_true (by omega)
     have qo0 : (((o : Nat) : Int) != 0) = false := by simp; omega
     have a1 : (kk == 1) = false := by simp; omega
     have aj1 : (kk = 1) = False := eq_false (by omega)
     have ad1 : decide (kk = 1) = false := decide_eq_false (by omega)
     have a2 : (kk == 2) = true := by simp; omega
     have aj2 : (kk = 2) = True := eq_true (by omega)
     have ad2 : decide (kk = 2) = true := decide_eq_true (by omega)
     have a3 : (kk == 3) = false := by simp; omega
     have aj3 : (kk = 3) = False := eq_false (by omega)
     have ad3 : decide (kk = 3) = false := decide_eq_false (by omega)
     have a4 : (kk == 4) = false := by simp; omega
     have aj4 : (kk = 4) = False := eq_false (by omega)
     have ad4 : decide (kk = 4) = false := decide_eq_false (by omega)
     have E1 : (j.pol && decide (kk = 4)) = false := by rw [← HPL.out, ad4]; rfl
     have E2 : ((false || false) || (decide (kk = 1) && decide (bb = 112))) = false := by rw [ad1]; rfl
     have E3 : j.rtakes g kk bb = Jd.rtk g ({ j with pol := false } : Jd) false kk bb := by unfold Jd.rtakes; rw [E1]; rw [Bool.false_or] at E2; rw [E2]
     have HR := Lib.hid (show j.rtakes g kk bb = (false, ({ j with pol := false } : Jd)) by rw [E3]; unfold Jd.rtk; rw [if_neg (fun h => by omega), if_pos (show j.op = 0 by have := HOO.out; omega)])
     clear E1 E2 E3 h1 h2 ho
     have f13 := CA.out.1.frozen 13
     have S1 := Lib.hid (CA.out.1.setCell 13 (.bool false))
     have S1K := Lib.hid ((Btw.refl (I := fun k => k = p) (w.alloc (.cells #[.int .i64 kk, .int .u8 (bb : Int)] 36))).setCell (p := ⟨p, 13, none⟩) (v := .bool false) rfl)
     have C1 := Lib.hid (show CRow ((w.alloc (.cells #[.int .i64 kk, .int .u8 (bb : Int)] 36)).setCell ⟨p, 13, none⟩ (.bool false)) p 41 (rjCells g ({ j with pol := false } : Jd) m) ∧ RjR ρ ((w.alloc (.cells #[.int .i64 kk, .int .u8 (bb : Int)] 36)).setCell ⟨p, 13, none⟩ (.bool false)) p g ({ j with pol := false } : Jd) m ∧ Btw I w ((w.alloc (.cells #[.int .i64 kk, .int .u8 (bb : Int)] 36)).setCell ⟨p, 13, none⟩ (.bool false)) from
      ⟨by have h0 := S1.out; simpa [rjCells] using h0, (fun (h : RjR ρ _ p g j m) => ({ h with  } : RjR ρ _ p g ({ j with pol := false } : Jd) m)) (CA.out.2.1.btw S1K.out fun k e => .inr (by have e : k = p := e; rw [e]; exact CA.out.2.1.rp)), CA.out.2.2.trans S1K.out fun k _ e => I0.out k (by have e : k = p := e; rw [e, CA.out.2.1.rp]; decide)⟩)
     have z10 : ((w.alloc (.cells #[.int .i64 kk, .int .u8 (bb : Int)] 36)).setCell ⟨p, 13, none⟩ (.bool false)).cell? ⟨p, 10, none⟩ = some (.int .i64 (o : Int)) := by rw [HOO.out]; exact C1.out.1.cell_at 10 _ rfl
     have z14 : ((w.alloc (.cells #[.int .i64 kk, .int .u8 (bb : Int)] 36)).setCell ⟨p, 13, none⟩ (.bool false)).cell? ⟨p, 14, none⟩ = some (.bool bu) := by
      have h0 := C1.out.1.cell_at 14 (.bool j.busy) rfl
      rw [← HBU.out] at h0
      exact h0
     have q0 : ((w.alloc (.cells #[.int .i64 kk, .int .u8 (bb : Int)] 36)).setCell ⟨p, 13, none⟩ (.bool false)).cell? ⟨w.heap.size, 0, none⟩ = some (.int .i64 kk) := (Z0.out.setCell_other (p := ⟨p, 13, none⟩) (fun e => NP.out e.symm) _).cell_at 0 _ rfl
     have q1 : ((w.alloc (.cells #[.int .i64 kk, .int .u8 (bb : Int)] 36)).setCell ⟨p, 13, none⟩ (.bool false)).cell? ⟨w.heap.size, 1, none⟩ = some (.int .u8 (bb : Int)) := (Z0.out.setCell_other (p := ⟨p, 13, none⟩) (fun e => NP.out e.symm) _).cell_at 1 _ rfl
     go_enter Try.func21, Try.ntmps21
     go_wp2
     go_ret
     rw [HR.out]
     exact ⟨rfl, ⟨ρ, m, (C1.out).1, (C1.out).2.1, I0.out, fun k hk => N0.out k (Nat.le_trans (C1.out).2.2.size hk)⟩, C1.out.2.2⟩
    ·
     skip
     have bo0 : (((o : Nat) : Int) == 0) = false := by simp; omega
     have jo0 : (((o : Nat) : Int) = 0) = False := eq_false (by omega)
     have ko0 : (o = 0) = False := eq_false (by omega)
     have do0 : decide (((o : Nat) : Int) = 0) = false := decide_eq_false (by omega)
     have qo0 : (((o : Nat) : Int) != 0) = true := by simp; omega
     cases bu with
     | true =>
      have a1 : (kk == 1) = false := by simp; omega
      have aj1 : (kk = 1) = False := eq_false (by omega)
      have ad1 : decide (kk = 1) = false := decide_eq_false (by omega)
      have a2 : (kk == 2) = true := by simp; omega
      have aj2 : (kk = 2) = True := eq_true (by omega)
      have ad2 : decide (kk = 2) = true := decide_eq_true (by omega)
      have a3 : (kk == 3) = false := by simp; omega
      have aj3 : (kk = 3) = False := eq_false (by omega)
      have ad3 : decide (kk = 3) = false := decide_eq_false (by omega)
      have a4 : (kk == 4) = false := by simp; omega
      have aj4 : (kk = 4) = False := eq_false (by omega)
      have ad4 : decide (kk = 4) = false := decide_eq_false (by omega)
      have E1 : (j.pol && decide (kk = 4)) = false := by rw [← HPL.out, ad4]; rfl
      have E2 : ((false || false) || (decide (kk = 1) && decide (bb = 112))) = false := by rw [ad1]; rfl
      have E3 : j.rtakes g kk bb = Jd.rtk g ({ j with pol := false } : Jd) false kk bb := by unfold Jd.rtakes; rw [E1]; rw [Bool.false_or] at E2; rw [E2]
      have HR := Lib.hid (show j.rtakes g kk bb = (false, ({ j with pol := false } : Jd)) by rw [E3]; unfold Jd.rtk; rw [if_neg (fun h => by omega), if_neg (show ¬ j.op = 0 by have := HOO.out; omega), if_neg (fun h => by omega), if_neg (by decide), if_pos (show j.busy = true from HBU.out.symm)])
      clear E1 E2 E3 h1 h2 ho
      have f13 := CA.out.1.frozen 13
      have S1 := Lib.hid (CA.out.1.setCell 13 (.bool false))
      have S1K := Lib.hid ((Btw.refl (I := fun k => k = p) (w.alloc (.cells #[.int .i64 kk, .int .u8 (bb : Int)] 36))).setCell (p := ⟨p, 13, none⟩) (v := .bool false) rfl)
      have C1 := Lib.hid (show CRow ((w.alloc (.cells #[.int .i64 kk, .int .u8 (bb : Int)] 36)).setCell ⟨p, 13, none⟩ (.bool false)) p 41 (rjCells g ({ j with pol := false } : Jd) m) ∧ RjR ρ ((w.alloc (.cells #[.int .i64 kk, .int .u8 (bb : Int)] 36)).setCell ⟨p, 13, none⟩ (.bool false)) p g ({ j with pol := false } : Jd) m ∧ Btw I w ((w.alloc (.cells #[.int .i64 kk, .int .u8 (bb : Int)] 36)).setCell ⟨p, 13, none⟩ (.bool false)) from
       ⟨by have h0 := S1.out; simpa [rjCells] using h0, (fun (h : RjR ρ _ p g j m) => ({ h with  } : RjR ρ _ p g ({ j with pol := false } : Jd) m)) (CA.out.2.1.btw S1K.out fun k e => .inr (by have e : k = p := e; rw [e]; exact CA.out.2.1.rp)), CA.out.2.2.trans S1K.out fun k _ e => I0.out k (by have e : k = p := e; rw [e, CA.out.2.1.rp]; decide)⟩)
      have z10 : ((w.alloc (.cells #[.int .i64 kk, .int .u8 (bb : Int)] 36)).setCell ⟨p, 13, none⟩ (.bool false)).cell? ⟨p, 10, none⟩ = some (.int .i64 (o : Int)) := by rw [HOO.out]; exact C1.out.1.cell_at 10 _ rfl
      have z14 : ((w.alloc (.cells #[.int .i64 kk, .int .u8 (bb : Int)] 36)).setCell ⟨p, 13, none⟩ (.bool false)).cell? ⟨p, 14, none⟩ = some (.bool true) := by
       have h0 := C1.out.1.cell_at 14 (.bool j.busy) rfl
       rw [← HBU.out] at h0
       exact h0
      have q0 : ((w.alloc (.cells #[.int .i64 kk, .int .u8 (bb : Int)] 36)).setCell ⟨p, 13, none⟩ (.bool false)).cell? ⟨w.heap.size, 0, none⟩ = some (.int .i64 kk) := (Z0.out.setCell_other (p := ⟨p, 13, none⟩) (fun e => NP.out e.symm) _).cell_at 0 _ rfl
      have q1 : ((w.alloc (.cells #[.int .i64 kk, .int .u8 (bb : Int)] 36)).setCell ⟨p, 13, none⟩ (.bool false)).cell? ⟨w.heap.size, 1, none⟩ = some (.int .u8 (bb : Int)) := (Z0.out.setCell_other (p := ⟨p, 13, none⟩) (fun e => NP.out e.symm) _).cell_at 1 _ rfl
      go_enter Try.func21, Try.ntmps21
      go_wp2
      go_ret
      rw [HR.out]
      exact ⟨rfl, ⟨ρ, m, (C1.out).1, (C1.out).2.1, I0.out, fun k hk => N0.out k (Nat.le_trans (C1.out).2.2.size hk)⟩, C1.out.2.2⟩
     | false =>
      have a1 : (kk == 1) = false := by simp; omega
      have aj1 : (kk = 1) = False := eq_false (by omega)
      have ad1 : decide (kk = 1) = false := decide_eq_false (by omega)
      have a2 : (kk == 2) = true := by simp; omega
      have aj2 : (kk = 2) = True := eq_true (by omega)
      have ad2 : decide (kk = 2) = true := decide_eq_true (by omega)
      have a3 : (kk == 3) = false := by simp; omega
      have aj3 : (kk = 3) = False := eq_false (by omega)
      have ad3 : decide (kk = 3) = false := decide_eq_false (by omega)
      have a4 : (kk == 4) = false := by simp; omega
      have aj4 : (kk = 4) = False := eq_false (by omega)
      have ad4 : decide (kk = 4) = false := decide_eq_false (by omega)
      have E1 : (j.pol && decide (kk = 4)) = false := by rw [← HPL.out, ad4]; rfl
      have E2 : ((false || false) || (decide (kk = 1) && decide (bb = 112))) = false := by rw [ad1]; rfl
      have E3 : j.rtakes g kk bb = Jd.rtk g ({ j with pol := false } : Jd) false kk bb := by unfold Jd.rtakes; rw [E1]; rw [Bool.false_or] at E2; rw [E2]
      have HR := Lib.hid (show j.rtakes g kk bb = ({ j with pol := false } : Jd).raddr g bb by rw [E3]; unfold Jd.rtk; rw [if_neg (fun h => by omega), if_neg (show ¬ j.op = 0 by have := HOO.out; omega), if_neg (fun h => by omega), if_neg (by decide), if_neg (show ¬ j.busy = true by rw [← HBU.out]; decide), if_neg (by omega), if_pos (by omega)])
      clear E1 E2 E3 h1 h2 ho
      have f13 := CA.out.1.frozen 13
      have S1 := Lib.hid (CA.out.1.setCell 13 (.bool false))
      have S1K := Lib.hid ((Btw.refl (I := fun k => k = p) (w.alloc (.cells #[.int .i64 kk, .int .u8 (bb : Int)] 36))).setCell (p := ⟨p, 13, none⟩) (v := .bool false) rfl)
      have C1 := Lib.hid (show CRow ((w.alloc (.cells #[.int .i64 kk, .int .u8 (bb : Int)] 36)).setCell ⟨p, 13, none⟩ (.bool false)) p 41 (rjCells g ({ j with pol := false } : Jd) m) ∧ RjR ρ ((w.alloc (.cells #[.int .i64 kk, .int .u8 (bb : Int)] 36)).setCell ⟨p, 13, none⟩ (.bool false)) p g ({ j with pol := false } : Jd) m ∧ Btw I w ((w.alloc (.cells #[.int .i64 kk, .int .u8 (bb : Int)] 36)).setCell ⟨p, 13, none⟩ (.bool false)) from
       ⟨by have h0 := S1.out; simpa [rjCells] using h0, (fun (h : RjR ρ _ p g j m) => ({ h with  } : RjR ρ _ p g ({ j with pol := false } : Jd) m)) (CA.out.2.1.btw S1K.out fun k e => .inr (by have e : k = p := e; rw [e]; exact CA.out.2.1.rp)), CA.out.2.2.trans S1K.out fun k _ e => I0.out k (by have e : k = p := e; rw [e, CA.out.2.1.rp]; decide)⟩)
      have z10 : ((w.alloc (.cells #[.int .i64 kk, .int .u8 (bb : Int)] 36)).setCell ⟨p, 13, none⟩ (.bool false)).cell? ⟨p, 10, none⟩ = some (.int .i64 (o : Int)) := by rw [HOO.out]; exact C1.out.1.cell_at 10 _ rfl
      have z14 : ((w.alloc (.cells #[.int .i64 kk, .int .u8 (bb : Int)] 36)).setCell ⟨p, 13, none⟩ (.bool false)).cell? ⟨p, 14, none⟩ = some (.bool false) := by
       have h0 := C1.out.1.cell_at 14 (.bool j.busy) rfl
       rw [← HBU.out] at h0
       exact h0
      have q0 : ((w.alloc (.cells #[.int .i64 kk, .int .u8 (bb : Int)] 36)).setCell ⟨p, 13, none⟩ (.bool false)).cell? ⟨w.heap.size, 0, none⟩ = some (.int .i64 kk) := (Z0.out.setCell_other (p := ⟨p, 13, none⟩) (fun e => NP.out e.symm) _).cell_at 0 _ rfl
      have q1 : ((w.alloc (.cells #[.int .i64 kk, .int .u8 (bb : Int)] 36)).setCell ⟨p, 13, none⟩ (.bool false)).cell? ⟨w.heap.size, 1, none⟩ = some (.int .u8 (bb : Int)) := (Z0.out.setCell_other (p := ⟨p, 13, none⟩) (fun e => NP.out e.symm) _).cell_at 1 _ rfl
      have HX := Lib.hid (raddr (j := ({ j with pol := false } : Jd)) bb H8.out (HK.out.polled _).ln (HK.out.polled _).l8 (HK.out.polled _).op ⟨ρ, m, (C1.out).1, (C1.out).2.1, I0.out, fun k hk => N0.out k (Nat.le_trans (C1.out).2.2.size hk)⟩)
      obtain ⟨z, hz⟩ : ∃ z, z = ({ j with pol := false } : Jd).raddr g bb := ⟨_, rfl⟩
      rw [← hz] at HX HR
      clear hz
      obtain ⟨v, jz⟩ := z
      simp only at HX HR
      go_enter Try.func21, Try.ntmps21
      go_wp2_with fail
      clear x13 y0 y1 q0 q1 z10 z14 f13
      refine HX.out.mono ?_
      rintro _ w2 ⟨rfl, h2, b2⟩
      have H2 := Lib.hid h2
      have B2 := Lib.hid (C1.out.2.2.trans b2 fun _ _ h => h)
      clear h2 b2 HX
      go_wp2
      go_ret
      rw [HR.out]
      exact ⟨rfl, H2.out, B2.out⟩
   ·
    by_cases h3 : kk = 3
    ·
     skip
     by_cases ho : o = 0
     ·
      skip
      have bo0 : (((o : Nat) : Int) == 0) = true := by simp; omega
      have jo0 : (((o : Nat) : Int) = 0) = True := eq_true (by omega)
      have ko0 : (o = 0) = True := eq_true (by omega)
      have do0 : decide (((o : Nat) : Int) = 0) = true := decide_eq_true (by omega)
      have qo0 : (((o : Nat) : Int) != 0) = false := by simp; omega
      have a1 : (kk == 1) = false := by simp; omega
      have aj1 : (kk = 1) = False := eq_false (by omega)
      have ad1 : decide (kk = 1) = false := decide_eq_false (by omega)
      have a2 : (kk == 2) = false := by simp; omega
      have aj2 : (kk = 2) = False := eq_false (by omega)
      have ad2 : decide (kk = 2) = false := decide_eq_false (by omega)
      have a3 : (kk == 3) = true := by simp; omega
      have aj3 : (kk = 3) = True := eq_true (by omega)
      have ad3 : decide (kk = 3) = true := decide_eq_true (by omega)
      have a4 : (kk == 4) = false := by simp; omega
      have aj4 : (kk = 4) = False := eq_false (by omega)
      have ad4 : decide (kk = 4) = false := decide_eq_false (by omega)
      have E1 : (j.pol && decide (kk = 4)) = false := by rw [← HPL.out, ad4]; rfl
      have E2 : ((false || false) || (decide (kk = 1) && decide (bb = 112))) = false := by rw [ad1]; rfl
      have E3 : j.rtakes g kk bb = Jd.rtk g ({ j with pol := false } : Jd) false kk bb := by unfold Jd.rtakes; rw [E1]; rw [Bool.false_or] at E2; rw [E2]
      have HR := Lib.hid (show j.rtakes g kk bb = (false, ({ j with pol := false } : Jd)) by rw [E3]; unfold Jd.rtk; rw [if_neg (fun h => by omega), if_pos (show j.op = 0 by have := HOO.out; omega)])
      clear E1 E2 E3 h1 h2 h3 ho
      have f13 := CA.out.1.frozen 13
      have S1 := Lib.hid (CA.out.1.setCell 13 (.bool false))
      have S1K := Lib.hid ((Btw.refl (I := fun k => k = p) (w.alloc (.cells #[.int .i64 kk, .int .u8 (bb : Int)] 36))).setCell (p := ⟨p, 13, none⟩) (v := .bool false) rfl)
      have C1 := Lib.hid (show CRow ((w.alloc (.cells #[.int .i64 kk, .int .u8 (bb : Int)] 36)).setCell ⟨p, 13, none⟩ (.bool false)) p 41 (rjCells g ({ j with pol := false } : Jd) m) ∧ RjR ρ ((w.alloc (.cells #[.int .i64 kk, .int .u8 (bb : Int)] 36)).setCell ⟨p, 13, none⟩ (.bool false)) p g ({ j with pol := false } : Jd) m ∧ Btw I w ((w.alloc (.cells #[.int .i64 kk, .int .u8 (bb : Int)] 36)).setCell ⟨p, 13, none⟩ (.bool false)) from
       ⟨by have h0 := S1.out; simpa [rjCells] using h0, (fun (h : RjR ρ _ p g j m) => ({ h with  } : RjR ρ _ p g ({ j with pol := false } : Jd) m)) (CA.out.2.1.btw S1K.out fun k e => .inr (by have e : k = p := e; rw [e]; exact CA.out.2.1.rp)), CA.out.2.2.trans S1K.out fun k _ e => I0.out k (by have e : k = p := e; rw [e, CA.out.2.1.rp]; decide)⟩)
      have z10 : ((w.alloc (.cells #[.int .i64 kk, .int .u8 (bb : Int)] 36)).setCell ⟨p, 13, none⟩ (.bool false)).cell? ⟨p, 10, none⟩ = some (.int .i64 (o : Int)) := by rw [HOO.out]; exact C1.out.1.cell_at 10 _ rfl
      have z14 : ((w.alloc (.cells #[.int .i64 kk, .int .u8 (bb : Int)] 36)).setCell ⟨p, 13, none⟩ (.bool false)).cell? ⟨p, 14, none⟩ = some (.bool bu) := by
       have h0 := C1.out.1.cell_at 14 (.bool j.busy) rfl
       rw [← HBU.out] at h0
       exact h0
      have q0 : ((w.alloc (.cells #[.int .i64 kk, .int .u8 (bb : Int)] 36)).setCell ⟨p, 13, none⟩ (.bool false)).cell? ⟨w.heap.size, 0, none⟩ = some (.int .i64 kk) := (Z0.out.setCell_other (p := ⟨p, 13, none⟩) (fun e => NP.out e.symm) _).cell_at 0 _ rfl
      have q1 : ((w.alloc (.cells #[.int .i64 kk, .int .u8 (bb : Int)] 36)).setCell ⟨p, 13, none⟩ (.bool false)).cell? ⟨w.heap.size, 1, none⟩ = some (.int .u8 (bb : Int)) := (Z0.out.setCell_other (p := ⟨p, 13, none⟩) (fun e => NP.out e.symm) _).cell_at 1 _ rfl
      go_enter Try.func21, Try.ntmps21
      go_wp2
      go_ret
      rw [HR.out]
      exact ⟨rfl, ⟨ρ, m, (C1.out).1, (C1.out).2.1, I0.out, fun k hk => N0.out k (Nat.le_trans (C1.out).2.2.size hk)⟩, C1.out.2.2⟩
     ·
      skip
      have bo0 : (((o : Nat) : Int) == 0) = false := by simp; omega
      have jo0 : (((o : Nat) : Int) = 0) = False := eq_false (by omega)
      have ko0 : (o = 0) = False := eq_false (by omega)
      have do0 : decide (((o : Nat) : Int) = 0) = false := decide_eq_false (by omega)
      have qo0 : (((o : Nat) : Int) != 0) = true := by simp; omega
      cases bu with
      | true =>
       have a1 : (kk == 1) = false := by simp; omega
       have aj1 : (kk = 1) = False := eq_false (by omega)
       have ad1 : decide (kk = 1) = false := decide_eq_false (by omega)
       have a2 : (kk == 2) = false := by simp; omega
       have aj2 : (kk = 2) = False := eq_false (by omega)
       have ad2 : decide (kk = 2) = false := decide_eq_false (by omega)
       have a3 : (kk == 3) = true := by simp; omega
       have aj3 : (kk = 3) = True := eq_true (by omega)
       have ad3 : decide (kk = 3) = true := decide_eq_true (by omega)
       have a4 : (kk == 4) = false := by simp; omega
       have aj4 : (kk = 4) = False := eq_false (by omega)
       have ad4 : decide (kk = 4) = false := decide_eq_false (by omega)
       have E1 : (j.pol && decide (kk = 4)) = false := by rw [← HPL.out, ad4]; rfl
       have E2 : ((false || false) || (decide (kk = 1) && decide (bb = 112))) = false := by rw [ad1]; rfl
       have E3 : j.rtakes g kk bb = Jd.rtk g ({ j with pol := false } : Jd) false kk bb := by unfold Jd.rtakes; rw [E1]; rw [Bool.false_or] at E2; rw [E2]
       have HR := Lib.hid (show j.rtakes g kk bb = (false, ({ j with pol := false } : Jd)) by rw [E3]; unfold Jd.rtk; rw [if_neg (fun h => by omega), if_neg (show ¬ j.op = 0 by have := HOO.out; omega), if_neg (fun h => by omega), if_neg (by decide), if_pos (show j.busy = true from HBU.out.symm)])
       clear E1 E2 E3 h1 h2 h3 ho
       have f13 := CA.out.1.frozen 13
       have S1 := Lib.hid (CA.out.1.setCell 13 (.bool false))
       have S1K := Lib.hid ((Btw.refl (I := fun k => k = p) (w.alloc (.cells #[.int .i64 kk, .int .u8 (bb : Int)] 36))).setCell (p := ⟨p, 13, none⟩) (v := .bool false) rfl)
       have C1 := Lib.hid (show CRow ((w.alloc (.cells #[.int .i64 kk, .int .u8 (bb : Int)] 36)).setCell ⟨p, 13, none⟩ (.bool false)) p 41 (rjCells g ({ j with pol := false } : Jd) m) ∧ RjR ρ ((w.alloc (.cells #[.int .i64 kk, .int .u8 (bb : Int)] 36)).setCell ⟨p, 13, none⟩ (.bool false)) p g ({ j with pol := false } : Jd) m ∧ Btw I w ((w.alloc (.cells #[.int .i64 kk, .int .u8 (bb : Int)] 36)).setCell ⟨p, 13, none⟩ (.bool false)) from
        ⟨by have h0 := S1.out; simpa [rjCells] using h0, (fun (h : RjR ρ _ p g j m) => ({ h with  } : RjR ρ _ p g ({ j with pol := false } : Jd) m)) (CA.out.2.1.btw S1K.out fun k e => .inr (by have e : k = p := e; rw [e]; exact CA.out.2.1.rp)), CA.out.2.2.trans S1K.out fun k _ e => I0.out k (by have e : k = p := e; rw [e, CA.out.2.1.rp]; decide)⟩)
       have z10 : ((w.alloc (.cells #[.int .i64 kk, .int .u8 (bb : Int)] 36)).setCell ⟨p, 13, none⟩ (.bool false)).cell? ⟨p, 10, none⟩ = some (.int .i64 (o : Int)) := by rw [HOO.out]; exact C1.out.1.cell_at 10 _ rfl
       have z14 : ((w.alloc (.cells #[.int .i64 kk, .int .u8 (bb : Int)] 36)).setCell ⟨p, 13, none⟩ (.bool false)).cell? ⟨p, 14, none⟩ = some (.bool true) := by
        have h0 := C1.out.1.cell_at 14 (.bool j.busy) rfl
        rw [← HBU.out] at h0
        exact h0
       have q0 : ((w.alloc (.cells #[.int .i64 kk, .int .u8 (bb : Int)] 36)).setCell ⟨p, 13, none⟩ (.bool false)).cell? ⟨w.heap.size, 0, none⟩ = some (.int .i64 kk) := (Z0.out.setCell_other (p := ⟨p, 13, none⟩) (fun e => NP.out e.symm) _).cell_at 0 _ rfl
       have q1 : ((w.alloc (.cells #[.int .i64 kk, .int .u8 (bb : Int)] 36)).setCell ⟨p, 13, none⟩ (.bool false)).cell? ⟨w.heap.size, 1, none⟩ = some (.int .u8 (bb : Int)) := (Z0.out.setCell_other (p := ⟨p, 13, none⟩) (fun e => NP.out e.symm) _).cell_at 1 _ rfl
       go_enter Try.func21, Try.ntmps21
       go_wp2
       go_ret
       rw [HR.out]
       exact ⟨rfl, ⟨ρ, m, (C1.out).1, (C1.out).2.1, I0.out, fun k hk => N0.out k (Nat.le_trans (C1.out).2.2.size hk)⟩, C1.out.2.2⟩
      | false =>
       have a1 : (kk == 1) = false := by simp; omega
       have aj1 : (kk = 1) = False := eq_false (by omega)
       have ad1 : decide (kk = 1) = false := decide_eq_false (by omega)
       have a2 : (kk == 2) = false := by simp; omega
       have aj2 : (kk = 2) = False := eq_false (by omega)
       have ad2 : decide (kk = 2) = false := decide_eq_false (by omega)
       have a3 : (kk == 3) = true := by simp; omega
       have aj3 : (kk = 3) = True := eq_true (by omega)
       have ad3 : decide (kk = 3) = true := decide_eq_true (by omega)
       have a4 : (kk == 4) = false := by simp; omega
       have aj4 : (kk = 4) = False := eq_false (by omega)
       have ad4 : decide (kk = 4) = false := decide_eq_false (by omega)
       have E1 : (j.pol && decide (kk = 4)) = false := by rw [← HPL.out, ad4]; rfl
       have E2 : ((false || false) || (decide (kk = 1) && decide (bb = 112))) = false := by rw [ad1]; rfl
       have E3 : j.rtakes g kk bb = Jd.rtk g ({ j with pol := false } : Jd) false kk bb := by unfold Jd.rtakes; rw [E1]; rw [Bool.false_or] at E2; rw [E2]
       have HR := Lib.hid (show j.rtakes g kk bb = ({ j with pol := false } : Jd).rwrite g by rw [E3]; unfold Jd.rtk; rw [if_neg (fun h => by omega), if_neg (show ¬ j.op = 0 by have := HOO.out; omega), if_neg (fun h => by omega), if_neg (by decide), if_neg (show ¬ j.busy = true by rw [← HBU.out]; decide), if_neg (by omega), if_neg (by omega), if_pos (by omega)])
       clear E1 E2 E3 h1 h2 h3 ho
       have f13 := CA.out.1.frozen 13
       have S1 := Lib.hid (CA.out.1.setCell 13 (.bool false))
       have S1K := Lib.hid ((Btw.refl (I := fun k => k = p) (w.alloc (.cells #[.int .i64 kk, .int .u8 (bb : Int)] 36))).setCell (p := ⟨p, 13, none⟩) (v := .bool false) rfl)
       have C1 := Lib.hid (show CRow ((w.alloc (.cells #[.int .i64 kk, .int .u8 (bb : Int)] 36)).setCell ⟨p, 13, none⟩ (.bool false)) p 41 (rjCells g ({ j with pol := false } : Jd) m) ∧ RjR ρ ((w.alloc (.cells #[.int .i64 kk, .int .u8 (bb : Int)] 36)).setCell ⟨p, 13, none⟩ (.bool false)) p g ({ j with pol := false } : Jd) m ∧ Btw I w ((w.alloc (.cells #[.int .i64 kk, .int .u8 (bb : Int)] 36)).setCell ⟨p, 13, none⟩ (.bool false)) from
        ⟨by have h0 := S1.out; simpa [rjCells] using h0, (fun (h : RjR ρ _ p g j m) => ({ h with  } : RjR ρ _ p g ({ j with pol := false } : Jd) m)) (CA.out.2.1.btw S1K.out fun k e => .inr (by have e : k = p := e; rw [e]; exact CA.out.2.1.rp)), CA.out.2.2.trans S1K.out fun k _ e => I0.out k (by have e : k = p := e; rw [e, CA.out.2.1.rp]; decide)⟩)
       have z10 : ((w.alloc (.cells #[.int .i64 kk, .int .u8 (bb : Int)] 36)).setCell ⟨p, 13, none⟩ (.bool false)).cell? ⟨p, 10, none⟩ = some (.int .i64 (o : Int)) := by rw [HOO.out]; exact C1.out.1.cell_at 10 _ rfl
       have z14 : ((w.alloc (.cells #[.int .i64 kk, .int .u8 (bb : Int)] 36)).setCell ⟨p, 13, none⟩ (.bool false)).cell? ⟨p, 14, none⟩ = some (.bool false) := by
        have h0 := C1.out.1.cell_at 14 (.bool j.busy) rfl
        rw [← HBU.out] at h0
        exact h0
       have q0 : ((w.alloc (.cells #[.int .i64 kk, .int .u8 (bb : Int)] 36)).setCell ⟨p, 13, none⟩ (.bool false)).cell? ⟨w.heap.size, 0, none⟩ = some (.int .i64 kk) := (Z0.out.setCell_other (p := ⟨p, 13, none⟩) (fun e => NP.out e.symm) _).cell_at 0 _ rfl
       have q1 : ((w.alloc (.cells #[.int .i64 kk, .int .u8 (bb : Int)] 36)).setCell ⟨p, 13, none⟩ (.bool false)).cell? ⟨w.heap.size, 1, none⟩ = some (.int .u8 (bb : Int)) := (Z0.out.setCell_other (p := ⟨p, 13, none⟩) (fun e => NP.out e.symm) _).cell_at 1 _ rfl
       have HX := Lib.hid (rwrite (j := ({ j with pol := false } : Jd)) (HK.out.polled _).ln (HK.out.polled _).cn (HK.out.polled _).cl ⟨ρ, m, (C1.out).1, (C1.out).2.1, I0.out, fun k hk => N0.out k (Nat.le_trans (C1.out).2.2.size hk)⟩)
       obtain ⟨z, hz⟩ : ∃ z, z = ({ j with pol := false } : Jd).rwrite g := ⟨_, rfl⟩
       rw [← hz] at HX HR
       clear hz
       obtain ⟨v, jz⟩ := z
       simp only at HX HR
       go_enter Try.func21, Try.ntmps21
       go_wp2_with fail
       clear x13 y0 y1 q0 q1 z10 z14 f13
       refine HX.out.mono ?_
       rintro _ w2 ⟨rfl, h2, b2⟩
       have H2 := Lib.hid h2
       have B2 := Lib.hid (C1.out.2.2.trans b2 fun _ _ h => h)
       clear h2 b2 HX
       go_wp2
       go_ret
       rw [HR.out]
       exact ⟨rfl, H2.out, B2.out⟩
    ·
     by_cases h4 : kk = 4
     ·
      skip
      by_cases ho : o = 0
      ·
       skip
       have bo0 : (((o : Nat) : Int) == 0) = true := by simp; omega
       have jo0 : (((o : Nat) : Int) = 0) = True := eq_true (by omega)
       have ko0 : (o = 0) = True := eq_true (by omega)
       have do0 : decide (((o : Nat) : Int) = 0) = true := decide_eq_true (by omega)
       have qo0 : (((o : Nat) : Int) != 0) = false := by simp; omega
       have a1 : (kk == 1) = false := by simp; omega
       have aj1 : (kk = 1) = False := eq_false (by omega)
       have ad1 : decide (kk = 1) = false := decide_eq_false (by omega)
       have a2 : (kk == 2) = false := by simp; omega
       have aj2 : (kk = 2) = False := eq_false (by omega)
       have ad2 : decide (kk = 2) = false := decide_eq_false (by omega)
       have a3 : (kk == 3) = false := by simp; omega
       have aj3 : (kk = 3) = False := eq_false (by omega)
       have ad3 : decide (kk = 3) = false := decide_eq_false (by omega)
       have a4 : (kk == 4) = true := by simp; omega
       have aj4 : (kk = 4) = True := eq_true (by omega)
       have ad4 : decide (kk = 4) = true := decide_eq_true (by omega)
       have E1 : (j.pol && decide (kk = 4)) = true := by rw [← HPL.out, ad4]; rfl
       have E2 : ((false || true) || (decide (kk = 1) && decide (bb = 112))) = true := by rw [ad1]; rfl
       have E3 : j.rtakes g kk bb = Jd.rtk g ({ j with pol := true } : Jd) true kk bb := by unfold Jd.rtakes; rw [E1]; rw [Bool.false_or] at E2; rw [E2]
       have HR := Lib.hid (show j.rtakes g kk bb = (false, ({ j with pol := true } : Jd)) by rw [E3]; unfold Jd.rtk; rw [if_neg (fun h => by omega), if_pos (show j.op = 0 by have := HOO.out; omega)])
       clear E1 E2 E3 h1 h2 h3 h4 ho
       have f13 := CA.out.1.frozen 13
       have S1 := Lib.hid (CA.out.1.setCell 13 (.bool true))
       have S1K := Lib.hid ((Btw.refl (I := fun k => k = p) (w.alloc (.cells #[.int .i64 kk, .int .u8 (bb : Int)] 36))).setCell (p := ⟨p, 13, none⟩) (v := .bool true) rfl)
       have C1 := Lib.hid (show CRow ((w.alloc (.cells #[.int .i64 kk, .int .u8 (bb : Int)] 36)).setCell ⟨p, 13, none⟩ (.bool true)) p 41 (rjCells g ({ j with pol := true } : Jd) m) ∧ RjR ρ ((w.alloc (.cells #[.int .i64 kk, .int .u8 (bb : Int)] 36)).setCell ⟨p, 13, none⟩ (.bool true)) p g ({ j with pol := true } : Jd) m ∧ Btw I w ((w.alloc (.cells #[.int .i64 kk, .int .u8 (bb : Int)] 36)).setCell ⟨p, 13, none⟩ (.bool true)) from
        ⟨by have h0 := S1.out; simpa [rjCells] using h0, (fun (h : RjR ρ _ p g j m) => ({ h with  } : RjR ρ _ p g ({ j with pol := true } : Jd) m)) (CA.out.2.1.btw S1K.out fun k e => .inr (by have e : k = p := e; rw [e]; exact CA.out.2.1.rp)), CA.out.2.2.trans S1K.out fun k _ e => I0.out k (by have e : k = p := e; rw [e, CA.out.2.1.rp]; decide)⟩)
       have z10 : ((w.alloc (.cells #[.int .i64 kk, .int .u8 (bb : Int)] 36)).setCell ⟨p, 13, none⟩ (.bool true)).cell? ⟨p, 10, none⟩ = some (.int .i64 (o : Int)) := by rw [HOO.out]; exact C1.out.1.cell_at 10 _ rfl
       have z14 : ((w.alloc (.cells #[.int .i64 kk, .int .u8 (bb : Int)] 36)).setCell ⟨p, 13, none⟩ (.bool true)).cell? ⟨p, 14, none⟩ = some (.bool bu) := by
        have h0 := C1.out.1.cell_at 14 (.bool j.busy) rfl
        rw [← HBU.out] at h0
        exact h0
       have q0 : ((w.alloc (.cells #[.int .i64 kk, .int .u8 (bb : Int)] 36)).setCell ⟨p, 13, none⟩ (.bool true)).cell? ⟨w.heap.size, 0, none⟩ = some (.int .i64 kk) := (Z0.out.setCell_other (p := ⟨p, 13, none⟩) (fun e => NP.out e.symm) _).cell_at 0 _ rfl
       have q1 : ((w.alloc (.cells #[.int .i64 kk, .int .u8 (bb : Int)] 36)).setCell ⟨p, 13, none⟩ (.bool true)).cell? ⟨w.heap.size, 1, none⟩ = some (.int .u8 (bb : Int)) := (Z0.out.setCell_other (p := ⟨p, 13, none⟩) (fun e => NP.out e.symm) _).cell_at 1 _ rfl
       go_enter Try.func21, Try.ntmps21
       go_wp2
       go_ret
       rw [HR.out]
       exact ⟨rfl, ⟨ρ, m, (C1.out).1, (C1.out).2.1, I0.out, fun k hk => N0.out k (Nat.le_trans (C1.out).2.2.size hk)⟩, C1.out.2.2⟩
      ·
       skip
       have bo0 : (((o : Nat) : Int) == 0) = false := by simp; omega
       have jo0 : (((o : Nat) : Int) = 0) = False := eq_false (by omega)
       have ko0 : (o = 0) = False := eq_false (by omega)
       have do0 : decide (((o : Nat) : Int) = 0) = false := decide_eq_false (by omega)
       have qo0 : (((o : Nat) : Int) != 0) = true := by simp; omega
       have a1 : (kk == 1) = false := by simp; omega
       have aj1 : (kk = 1) = False := eq_false (by omega)
       have ad1 : decide (kk = 1) = false := decide_eq_false (by omega)
       have a2 : (kk == 2) = false := by simp; omega
       have aj2 : (kk = 2) = False := eq_false (by omega)
       have ad2 : decide (kk = 2) = false := decide_eq_false (by omega)
       have a3 : (kk == 3) = false := by simp; omega
       have aj3 : (kk = 3) = False := eq_false (by omega)
       have ad3 : decide (kk = 3) = false := decide_eq_false (by omega)
       have a4 : (kk == 4) = true := by simp; omega
       have aj4 : (kk = 4) = True := eq_true (by omega)
       have ad4 : decide (kk = 4) = true := decide_eq_true (by omega)
       have E1 : (j.pol && decide (kk = 4)) = true := by rw [← HPL.out, ad4]; rfl
       have E2 : ((false || true) || (decide (kk = 1) && decide (bb = 112))) = true := by rw [ad1]; rfl
       have E3 : j.rtakes g kk bb = Jd.rtk g ({ j with pol := true } : Jd) true kk bb := by unfold Jd.rtakes; rw [E1]; rw [Bool.false_or] at E2; rw [E2]
       have HR := Lib.hid (show j.rtakes g kk bb = (true, ({ j with pol := true } : Jd).rpoll bb) by rw [E3]; unfold Jd.rtk; rw [if_neg (fun h => by omega), if_neg (show ¬ j.op = 0 by have := HOO.out; omega), if_neg (fun h => by omega), if_pos rfl])
       clear E1 E2 E3 h1 h2 h3 h4 ho
       have f13 := CA.out.1.frozen 13
       have S1 := Lib.hid (CA.out.1.setCell 13 (.bool true))
       have S1K := Lib.hid ((Btw.refl (I := fun k => k = p) (w.alloc (.cells #[.int .i64 kk, .int .u8 (bb : Int)] 36))).setCell (p := ⟨p, 13, none⟩) (v := .bool true) rfl)
       have C1 := Lib.hid (show CRow ((w.alloc (.cells #[.int .i64 kk, .int .u8 (bb : Int)] 36)).setCell ⟨p, 13, none⟩ (.bool true)) p 41 (rjCells g ({ j with pol := true } : Jd) m) ∧ RjR ρ ((w.alloc (.cells #[.int .i64 kk, .int .u8 (bb : Int)] 36)).setCell ⟨p, 13, none⟩ (.bool true)) p g ({ j with pol := true } : Jd) m ∧ Btw I w ((w.alloc (.cells #[.int .i64 kk, .int .u8 (bb : Int)] 36)).setCell ⟨p, 13, none⟩ (.bool true)) from
        ⟨by have h0 := S1.out; simpa [rjCells] using h0, (fun (h : RjR ρ _ p g j m) => ({ h with  } : RjR ρ _ p g ({ j with pol := true } : Jd) m)) (CA.out.2.1.btw S1K.out fun k e => .inr (by have e : k = p := e; rw [e]; exact CA.out.2.1.rp)), CA.out.2.2.trans S1K.out fun k _ e => I0.out k (by have e : k = p := e; rw [e, CA.out.2.1.rp]; decide)⟩)
       have z10 : ((w.alloc (.cells #[.int .i64 kk, .int .u8 (bb : Int)] 36)).setCell ⟨p, 13, none⟩ (.bool true)).cell? ⟨p, 10, none⟩ = some (.int .i64 (o : Int)) := by rw [HOO.out]; exact C1.out.1.cell_at 10 _ rfl
       have z14 : ((w.alloc (.cells #[.int .i64 kk, .int .u8 (bb : Int)] 36)).setCell ⟨p, 13, none⟩ (.bool true)).cell? ⟨p, 14, none⟩ = some (.bool bu) := by
        have h0 := C1.out.1.cell_at 14 (.bool j.busy) rfl
        rw [← HBU.out] at h0
        exact h0
       have q0 : ((w.alloc (.cells #[.int .i64 kk, .int .u8 (bb : Int)] 36)).setCell ⟨p, 13, none⟩ (.bool true)).cell? ⟨w.heap.size, 0, none⟩ = some (.int .i64 kk) := (Z0.out.setCell_other (p := ⟨p, 13, none⟩) (fun e => NP.out e.symm) _).cell_at 0 _ rfl
       have q1 : ((w.alloc (.cells #[.int .i64 kk, .int .u8 (bb : Int)] 36)).setCell ⟨p, 13, none⟩ (.bool true)).cell? ⟨w.heap.size, 1, none⟩ = some (.int .u8 (bb : Int)) := (Z0.out.setCell_other (p := ⟨p, 13, none⟩) (fun e => NP.out e.symm) _).cell_at 1 _ rfl
       have HX := Lib.hid (rpoll (j := ({ j with pol := true } : Jd)) bb H8.out HE.out HEN.out ⟨ρ, m, (C1.out).1, (C1.out).2.1, I0.out, fun k hk => N0.out k (Nat.le_trans (C1.out).2.2.size hk)⟩)
       go_enter Try.func21, Try.ntmps21
       go_wp2_with fail
       clear x13 y0 y1 q0 q1 z10 z14 f13
       refine HX.out.mono ?_
       rintro _ w2 ⟨rfl, h2, b2⟩
       have H2 := Lib.hid h2
       have B2 := Lib.hid (C1.out.2.2.trans b2 fun _ _ h => h)
       clear h2 b2 HX
       go_wp2
       go_ret
       rw [HR.out]
       exact ⟨rfl, H2.out, B2.out⟩
     ·
      skip
      by_cases ho : o = 0
      ·
       skip
       have bo0 : (((o : Nat) : Int) == 0) = true := by simp; omega
       have jo0 : (((o : Nat) : Int) = 0) = True := eq_true (by omega)
       have ko0 : (o = 0) = True := eq_true (by omega)
       have do0 : decide (((o : Nat) : Int) = 0) = true := decide_eq_true (by omega)
       have qo0 : (((o : Nat) : Int) != 0) = false := by simp; omega
       have a1 : (kk == 1) = false := by simp; omega
       have aj1 : (kk = 1) = False := eq_false (by omega)
       have ad1 : decide (kk = 1) = false := decide_eq_false (by omega)
       have a2 : (kk == 2) = false := by simp; omega
       have aj2 : (kk = 2) = False := eq_false (by omega)
       have ad2 : decide (kk = 2) = false := decide_eq_false (by omega)
       have a3 : (kk == 3) = false := by simp; omega
       have aj3 : (kk = 3) = False := eq_false (by omega)
       have ad3 : decide (kk = 3) = false := decide_eq_false (by omega)
       have a4 : (kk == 4) = false := by simp; omega
       have aj4 : (kk = 4) = False := eq_false (by omega)
       have ad4 : decide (kk = 4) = false := decide_eq_false (by omega)
       have E1 : (j.pol && decide (kk = 4)) = false := by rw [← HPL.out, ad4]; rfl
       have E2 : ((false || false) || (decide (kk = 1) && decide (bb = 112))) = false := by rw [ad1]; rfl
       have E3 : j.rtakes g kk bb = Jd.rtk g ({ j with pol := false } : Jd) false kk bb := by unfold Jd.rtakes; rw [E1]; rw [Bool.false_or] at E2; rw [E2]
       have HR := Lib.hid (show j.rtakes g kk bb = (false, ({ j with pol := false } : Jd)) by rw [E3]; unfold Jd.rtk; rw [if_neg (fun h => by omega), if_pos (show j.op = 0 by have := HOO.out; omega)])
       clear E1 E2 E3 h1 h2 h3 h4 ho
       have f13 := CA.out.1.frozen 13
       have S1 := Lib.hid (CA.out.1.setCell 13 (.bool false))
       have S1K := Lib.hid ((Btw.refl (I := fun k => k = p) (w.alloc (.cells #[.int .i64 kk, .int .u8 (bb : Int)] 36))).setCell (p := ⟨p, 13, none⟩) (v := .bool false) rfl)
       have C1 := Lib.hid (show CRow ((w.alloc (.cells #[.int .i64 kk, .int .u8 (bb : Int)] 36)).setCell ⟨p, 13, none⟩ (.bool false)) p 41 (rjCells g ({ j with pol := false } : Jd) m) ∧ RjR ρ ((w.alloc (.cells #[.int .i64 kk, .int .u8 (bb : Int)] 36)).setCell ⟨p, 13, none⟩ (.bool false)) p g ({ j with pol := false } : Jd) m ∧ Btw I w ((w.alloc (.cells #[.int .i64 kk, .int .u8 (bb : Int)] 36)).setCell ⟨p, 13, none⟩ (.bool false)) from
        ⟨by have h0 := S1.out; simpa [rjCells] using h0, (fun (h : RjR ρ _ p g j m) => ({ h with  } : RjR ρ _ p g ({ j with pol := false } : Jd) m)) (CA.out.2.1.btw S1K.out fun k e => .inr (by have e : k = p := e; rw [e]; exact CA.out.2.1.rp)), CA.out.2.2.trans S1K.out fun k _ e => I0.out k (by have e : k = p := e; rw [e, CA.out.2.1.rp]; decide)⟩)
       have z10 : ((w.alloc (.cells #[.int .i64 kk, .int .u8 (bb : Int)] 36)).setCell ⟨p, 13, none⟩ (.bool false)).cell? ⟨p, 10, none⟩ = some (.int .i64 (o : Int)) := by rw [HOO.out]; exact C1.out.1.cell_at 10 _ rfl
       have z14 : ((w.alloc (.cells #[.int .i64 kk, .int .u8 (bb : Int)] 36)).setCell ⟨p, 13, none⟩ (.bool false)).cell? ⟨p, 14, none⟩ = some (.bool bu) := by
        have h0 := C1.out.1.cell_at 14 (.bool j.busy) rfl
        rw [← HBU.out] at h0
        exact h0
       have q0 : ((w.alloc (.cells #[.int .i64 kk, .int .u8 (bb : Int)] 36)).setCell ⟨p, 13, none⟩ (.bool false)).cell? ⟨w.heap.size, 0, none⟩ = some (.int .i64 kk) := (Z0.out.setCell_other (p := ⟨p, 13, none⟩) (fun e => NP.out e.symm) _).cell_at 0 _ rfl
       have q1 : ((w.alloc (.cells #[.int .i64 kk, .int .u8 (bb : Int)] 36)).setCell ⟨p, 13, none⟩ (.bool false)).cell? ⟨w.heap.size, 1, none⟩ = some (.int .u8 (bb : Int)) := (Z0.out.setCell_other (p := ⟨p, 13, none⟩) (fun e => NP.out e.symm) _).cell_at 1 _ rfl
       go_enter Try.func21, Try.ntmps21
       go_wp2
       go_ret
       rw [HR.out]
       exact ⟨rfl, ⟨ρ, m, (C1.out).1, (C1.out).2.1, I0.out, fun k hk => N0.out k (Nat.le_trans (C1.out).2.2.size hk)⟩, C1.out.2.2⟩
      ·
       skip
       have bo0 : (((o : Nat) : Int) == 0) = false := by simp; omega
       have jo0 : (((o : Nat) : Int) = 0) = False := eq_false (by omega)
       have ko0 : (o = 0) = False := eq_false (by omega)
       have do0 : decide (((o : Nat) : Int) = 0) = false := decide_eq_false (by omega)
       have qo0 : (((o : Nat) : Int) != 0) = true := by simp; omega
       cases bu with
       | true =>
        have a1 : (kk == 1) = false := by simp; omega
        have aj1 : (kk = 1) = False := eq_false (by omega)
        have ad1 : decide (kk = 1) = false := decide_eq_false (by omega)
        have a2 : (kk == 2) = false := by simp; omega
        have aj2 : (kk = 2) = False := eq_false (by omega)
        have ad2 : decide (kk = 2) = false := decide_eq_false (by omega)
        have a3 : (kk == 3) = false := by simp; omega
        have aj3 : (kk = 3) = False := eq_false (by omega)
        have ad3 : decide (kk = 3) = false := decide_eq_false (by omega)
        have a4 : (kk == 4) = false := by simp; omega
        have aj4 : (kk = 4) = False := eq_false (by omega)
        have ad4 : decide (kk = 4) = false := decide_eq_false (by omega)
        have E1 : (j.pol && decide (kk = 4)) = false := by rw [← HPL.out, ad4]; rfl
        have E2 : ((false || false) || (decide (kk = 1) && decide (bb = 112))) = false := by rw [ad1]; rfl
        have E3 : j.rtakes g kk bb = Jd.rtk g ({ j with pol := false } : Jd) false kk bb := by unfold Jd.rtakes; rw [E1]; rw [Bool.false_or] at E2; rw [E2]
        have HR := Lib.hid (show j.rtakes g kk bb = (false, ({ j with pol := false } : Jd)) by rw [E3]; unfold Jd.rtk; rw [if_neg (fun h => by omega), if_neg (show ¬ j.op = 0 by have := HOO.out; omega), if_neg (fun h => by omega), if_neg (by decide), if_pos (show j.busy = true from HBU.out.symm)])
        clear E1 E2 E3 h1 h2 h3 h4 ho
        have f13 := CA.out.1.frozen 13
        have S1 := Lib.hid (CA.out.1.setCell 13 (.bool false))
        have S1K := Lib.hid ((Btw.refl (I := fun k => k = p) (w.alloc (.cells #[.int .i64 kk, .int .u8 (bb : Int)] 36))).setCell (p := ⟨p, 13, none⟩) (v := .bool false) rfl)
        have C1 := Lib.hid (show CRow ((w.alloc (.cells #[.int .i64 kk, .int .u8 (bb : Int)] 36)).setCell ⟨p, 13, none⟩ (.bool false)) p 41 (rjCells g ({ j with pol := false } : Jd) m) ∧ RjR ρ ((w.alloc (.cells #[.int .i64 kk, .int .u8 (bb : Int)] 36)).setCell ⟨p, 13, none⟩ (.bool false)) p g ({ j with pol := false } : Jd) m ∧ Btw I w ((w.alloc (.cells #[.int .i64 kk, .int .u8 (bb : Int)] 36)).setCell ⟨p, 13, none⟩ (.bool false)) from
         ⟨by have h0 := S1.out; simpa [rjCells] using h0, (fun (h : RjR ρ _ p g j m) => ({ h with  } : RjR ρ _ p g ({ j with pol := false } : Jd) m)) (CA.out.2.1.btw S1K.out fun k e => .inr (by have e : k = p := e; rw [e]; exact CA.out.2.1.rp)), CA.out.2.2.trans S1K.out fun k _ e => I0.out k (by have e : k = p := e; rw [e, CA.out.2.1.rp]; decide)⟩)
        have z10 : ((w.alloc (.cells #[.int .i64 kk, .int .u8 (bb : Int)] 36)).setCell ⟨p, 13, none⟩ (.bool false)).cell? ⟨p, 10, none⟩ = some (.int .i64 (o : Int)) := by rw [HOO.out]; exact C1.out.1.cell_at 10 _ rfl
        have z14 : ((w.alloc (.cells #[.int .i64 kk, .int .u8 (bb : Int)] 36)).setCell ⟨p, 13, none⟩ (.bool false)).cell? ⟨p, 14, none⟩ = some (.bool true) := by
         have h0 := C1.out.1.cell_at 14 (.bool j.busy) rfl
         rw [← HBU.out] at h0
         exact h0
        have q0 : ((w.alloc (.cells #[.int .i64 kk, .int .u8 (bb : Int)] 36)).setCell ⟨p, 13, none⟩ (.bool false)).cell? ⟨w.heap.size, 0, none⟩ = some (.int .i64 kk) := (Z0.out.setCell_other (p := ⟨p, 13, none⟩) (fun e => NP.out e.symm) _).cell_at 0 _ rfl
        have q1 : ((w.alloc (.cells #[.int .i64 kk, .int .u8 (bb : Int)] 36)).setCell ⟨p, 13, none⟩ (.bool false)).cell? ⟨w.heap.size, 1, none⟩ = some (.int .u8 (bb : Int)) := (Z0.out.setCell_other (p := ⟨p, 13, none⟩) (fun e => NP.out e.symm) _).cell_at 1 _ rfl
        go_enter Try.func21, Try.ntmps21
        go_wp2
        go_ret
        rw [HR.out]
        exact ⟨rfl, ⟨ρ, m, (C1.out).1, (C1.out).2.1, I0.out, fun k hk => N0.out k (Nat.le_trans (C1.out).2.2.size hk)⟩, C1.out.2.2⟩
       | false =>
        have a1 : (kk == 1) = false := by simp; omega
        have aj1 : (kk = 1) = False := eq_false (by omega)
        have ad1 : decide (kk = 1) = false := decide_eq_false (by omega)
        have a2 : (kk == 2) = false := by simp; omega
        have aj2 : (kk = 2) = False := eq_false (by omega)
        have ad2 : decide (kk = 2) = false := decide_eq_false (by omega)
        have a3 : (kk == 3) = false := by simp; omega
        have aj3 : (kk = 3) = False := eq_false (by omega)
        have ad3 : decide (kk = 3) = false := decide_eq_false (by omega)
        have a4 : (kk == 4) = false := by simp; omega
        have aj4 : (kk = 4) = False := eq_false (by omega)
        have ad4 : decide (kk = 4) = false := decide_eq_false (by omega)
        have E1 : (j.pol && decide (kk = 4)) = false := by rw [← HPL.out, ad4]; rfl
        have E2 : ((false || false) || (decide (kk = 1) && decide (bb = 112))) = false := by rw [ad1]; rfl
        have E3 : j.rtakes g kk bb = Jd.rtk g ({ j with pol := false } : Jd) false kk bb := by unfold Jd.rtakes; rw [E1]; rw [Bool.false_or] at E2; rw [E2]
        have HR := Lib.hid (show j.rtakes g kk bb = (false, ({ j with pol := false } : Jd)) by rw [E3]; unfold Jd.rtk; rw [if_neg (fun h => by omega), if_neg (show ¬ j.op = 0 by have := HOO.out; omega), if_neg (fun h => by omega), if_neg (by decide), if_neg (show ¬ j.busy = true by rw [← HBU.out]; decide), if_neg (by omega), if_neg (by omega), if_neg (by omega), if_neg (by omega)])
        clear E1 E2 E3 h1 h2 h3 h4 ho
        have f13 := CA.out.1.frozen 13
        have S1 := Lib.hid (CA.out.1.setCell 13 (.bool false))
        have S1K := Lib.hid ((Btw.refl (I := fun k => k = p) (w.alloc (.cells #[.int .i64 kk, .int .u8 (bb : Int)] 36))).setCell (p := ⟨p, 13, none⟩) (v := .bool false) rfl)
        have C1 := Lib.hid (show CRow ((w.alloc (.cells #[.int .i64 kk, .int .u8 (bb : Int)] 36)).setCell ⟨p, 13, none⟩ (.bool false)) p 41 (rjCells g ({ j with pol := false } : Jd) m) ∧ RjR ρ ((w.alloc (.cells #[.int .i64 kk, .int .u8 (bb : Int)] 36)).setCell ⟨p, 13, none⟩ (.bool false)) p g ({ j with pol := false } : Jd) m ∧ Btw I w ((w.alloc (.cells #[.int .i64 kk, .int .u8 (bb : Int)] 36)).setCell ⟨p, 13, none⟩ (.bool false)) from
         ⟨by have h0 := S1.out; simpa [rjCells] using h0, (fun (h : RjR ρ _ p g j m) => ({ h with  } : RjR ρ _ p g ({ j with pol := false } : Jd) m)) (CA.out.2.1.btw S1K.out fun k e => .inr (by have e : k = p := e; rw [e]; exact CA.out.2.1.rp)), CA.out.2.2.trans S1K.out fun k _ e => I0.out k (by have e : k = p := e; rw [e, CA.out.2.1.rp]; decide)⟩)
        have z10 : ((w.alloc (.cells #[.int .i64 kk, .int .u8 (bb : Int)] 36)).setCell ⟨p, 13, none⟩ (.bool false)).cell? ⟨p, 10, none⟩ = some (.int .i64 (o : Int)) := by rw [HOO.out]; exact C1.out.1.cell_at 10 _ rfl
        have z14 : ((w.alloc (.cells #[.int .i64 kk, .int .u8 (bb : Int)] 36)).setCell ⟨p, 13, none⟩ (.bool false)).cell? ⟨p, 14, none⟩ = some (.bool false) := by
         have h0 := C1.out.1.cell_at 14 (.bool j.busy) rfl
         rw [← HBU.out] at h0
         exact h0
        have q0 : ((w.alloc (.cells #[.int .i64 kk, .int .u8 (bb : Int)] 36)).setCell ⟨p, 13, none⟩ (.bool false)).cell? ⟨w.heap.size, 0, none⟩ = some (.int .i64 kk) := (Z0.out.setCell_other (p := ⟨p, 13, none⟩) (fun e => NP.out e.symm) _).cell_at 0 _ rfl
        have q1 : ((w.alloc (.cells #[.int .i64 kk, .int .u8 (bb : Int)] 36)).setCell ⟨p, 13, none⟩ (.bool false)).cell? ⟨w.heap.size, 1, none⟩ = some (.int .u8 (bb : Int)) := (Z0.out.setCell_other (p := ⟨p, 13, none⟩) (fun e => NP.out e.symm) _).cell_at 1 _ rfl
        go_enter Try.func21, Try.ntmps21
        go_wp2
        go_ret
        rw [HR.out]
        exact ⟨rfl, ⟨ρ, m, (C1.out).1, (C1.out).2.1, I0.out, fun k hk => N0.out k (Nat.le_trans (C1.out).2.2.size hk)⟩, C1.out.2.2⟩
 | false =>
  by_cases h1 : kk = 1
  ·
   by_cases h255 : bb = 255
   ·
    skip
    have hx112 : bb ≠ 112 := by omega
    have a1 : (kk == 1) = true := by simp; omega
    have aj1 : (kk = 1) = True := eq_true (by omega)
    have ad1 : decide (kk = 1) = true := decide_eq_true (by omega)
    have a2 : (kk == 2) = false := by simp; omega
    have aj2 : (kk = 2) = False := eq_false (by omega)
    have ad2 : decide (kk = 2) = false := decide_eq_false (by omega)
    have a3 : (kk == 3) = false := by simp; omega
    have aj3 : (kk = 3) = False := eq_false (by omega)
    have ad3 : decide (kk = 3) = false := decide_eq_false (by omega)
    have a4 : (kk == 4) = false := by simp; omega
    have aj4 : (kk = 4) = False := eq_false (by omega)
    have ad4 : decide (kk = 4) = false := decide_eq_false (by omega)
    have bbb255 : (((bb : Nat) : Int) == 255) = true := by simp; omega
    have jbb255 : (((bb : Nat) : Int) = 255) = True := eq_true (by omega)
    have kbb255 : (bb = 255) = True := eq_true (by omega)
    have dbb255 : decide (((bb : Nat) : Int) = 255) = true := decide_eq_true (by omega)
    have qbb255 : (((bb : Nat) : Int) != 255) = false := by simp; omega
    have bbb112 : (((bb : Nat) : Int) == 112) = false := by simp; omega
    have jbb112 : (((bb : Nat) : Int) = 112) = False := eq_false (by omega)
    have kbb112 : (bb = 112) = False := eq_false (by omega)
    have dbb112 : decide (((bb : Nat) : Int) = 112) = false := decide_eq_false (by omega)
    have qbb112 : (((bb : Nat) : Int) != 112) = true := by simp; omega
    have E1 : (j.pol && decide (kk = 4)) = false := by rw [← HPL.out, ad4]; rfl
    have E2 : ((false || false) || (decide (kk = 1) && decide (bb = 112))) = false := by rw [ad1, decide_eq_false (by omega)]; rfl
    have E3 : j.rtakes g kk bb = Jd.rtk g ({ j with pol := false } : Jd) false kk bb := by unfold Jd.rtakes; rw [E1]; rw [Bool.false_or] at E2; rw [E2]
    have HR := Lib.hid (show j.rtakes g kk bb = (true, ({ j with pol := false } : Jd).rreset.start) by rw [E3]; unfold Jd.rtk; rw [if_pos ⟨by omega, by omega⟩])
    clear E1 E2 E3 h1 h255 hx112
    have f13 := CA.out.1.frozen 13
    have S1 := Lib.hid (CA.out.1.setCell 13 (.bool false))
    have S1K := Lib.hid ((Btw.refl (I := fun k => k = p) (w.alloc (.cells #[.int .i64 kk, .int .u8 (bb : Int)] 36))).setCell (p := ⟨p, 13, none⟩) (v := .bool false) rfl)
    have C1 := Lib.hid (show CRow ((w.alloc (.cells #[.int .i64 kk, .int .u8 (bb : Int)] 36)).setCell ⟨p, 13, none⟩ (.bool false)) p 41 (rjCells g ({ j with pol := false } : Jd) m) ∧ RjR ρ ((w.alloc (.cells #[.int .i64 kk, .int .u8 (bb : Int)] 36)).setCell ⟨p, 13, none⟩ (.bool false)) p g ({ j with pol := false } : Jd) m ∧ Btw I w ((w.alloc (.cells #[.int .i64 kk, .int .u8 (bb : Int)] 36)).setCell ⟨p, 13, none⟩ (.bool false)) from
     ⟨by have h0 := S1.out; simpa [rjCells] using h0, (fun (h : RjR ρ _ p g j m) => ({ h with  } : RjR ρ _ p g ({ j with pol := false } : Jd) m)) (CA.out.2.1.btw S1K.out fun k e => .inr (by have e : k = p := e; rw [e]; exact CA.out.2.1.rp)), CA.out.2.2.trans S1K.out fun k _ e => I0.out k (by have e : k = p := e; rw [e, CA.out.2.1.rp]; decide)⟩)
    have z10 : ((w.alloc (.cells #[.int .i64 kk, .int .u8 (bb : Int)] 36)).setCell ⟨p, 13, none⟩ (.bool false)).cell? ⟨p, 10, none⟩ = some (.int .i64 (o : Int)) := by rw [HOO.out]; exact C1.out.1.cell_at 10 _ rfl
    have z14 : ((w.alloc (.cells #[.int .i64 kk, .int .u8 (bb : Int)] 36)).setCell ⟨p, 13, none⟩ (.bool false)).cell? ⟨p, 14, none⟩ = some (.bool bu) := by
     have h0 := C1.out.1.cell_at 14 (.bool j.busy) rfl
     rw [← HBU.out] at h0
     exact h0
    have q0 : ((w.alloc (.cells #[.int .i64 kk, .int .u8 (bb : Int)] 36)).setCell ⟨p, 13, none⟩ (.bool false)).cell? ⟨w.heap.size, 0, none⟩ = some (.int .i64 kk) := (Z0.out.setCell_other (p := ⟨p, 13, none⟩) (fun e => NP.out e.symm) _).cell_at 0 _ rfl
    have q1 : ((w.alloc (.cells #[.int .i64 kk, .int .u8 (bb : Int)] 36)).setCell ⟨p, 13, none⟩ (.bool false)).cell? ⟨w.heap.size, 1, none⟩ = some (.int .u8 (bb : Int)) := (Z0.out.setCell_other (p := ⟨p, 13, none⟩) (fun e => NP.out e.symm) _).cell_at 1 _ rfl
    have HX := Lib.hid (rreset (j := ({ j with pol := false } : Jd)) HE.out HEN.out ⟨ρ, m, (C1.out).1, (C1.out).2.1, I0.out, fun k hk => N0.out k (Nat.le_trans (C1.out).2.2.size hk)⟩)
    go_enter Try.func21, Try.ntmps21
    go_wp2_with fail
    clear x13 y0 y1 q0 q1 z10 z14 f13
    refine HX.out.mono ?_
    rintro _ w2 ⟨rfl, h2, b2⟩
    have H2 := Lib.hid h2
    have B2 := Lib.hid (C1.out.2.2.trans b2 fun _ _ h => h)
    clear h2 b2 HX
    have HY := Lib.hid (rstart H2.out)
    go_wp2_with fail
    refine HY.out.mono ?_
    rintro _ w3 ⟨rfl, h3, b3⟩
    have H3 := Lib.hid h3
    have B3 := Lib.hid (B2.out.trans b3 fun _ _ h => h)
    clear h3 b3 HY
    go_wp2
    go_ret
    rw [HR.out]
    exact ⟨rfl, H3.out, B3.out⟩
   ·
    by_cases h112 : bb = 112
    ·
     skip
     by_cases ho : o = 0
     ·
      skip
      have bo0 : (((o : Nat) : Int) == 0) = true := by simp; omega
      have jo0 : (((o : Nat) : Int) = 0) = True := eq_true (by omega)
      have ko0 : (o = 0) = True := eq_true (by omega)
      have do0 : decide (((o : Nat) : Int) = 0) = true := decide_eq_true (by omega)
      have qo0 : (((o : Nat) : Int) != 0) = false := by simp; omega
      have a1 : (kk == 1) = true := by simp; omega
      have aj1 : (kk = 1) = True := eq_true (by omega)
      have ad1 : decide (kk = 1) = true := decide_eq_true (by omega)
      have a2 : (kk == 2) = false := by simp; omega
      have aj2 : (kk = 2) = False := eq_false (by omega)
      have ad2 : decide (kk = 2) = false := decide_eq_false (by omega)
      have a3 : (kk == 3) = false := by simp; omega
      have aj3 : (kk = 3) = False := eq_false (by omega)
      have ad3 : decide (kk = 3) = false := decide_eq_false (by omega)
      have a4 : (kk == 4) = false := by simp; omega
      have aj4 : (kk = 4) = False := eq_false (by omega)
      have ad4 : decide (kk = 4) = false := decide_eq_false (by omega)
      have bbb255 : (((bb : Nat) : Int) == 255) = false := by simp; omega
      have jbb255 : (((bb : Nat) : Int) = 255) = False := eq_false (by omega)
      have kbb255 : (bb = 255) = False := eq_false (by omega)
      have dbb255 : decide (((bb : Nat) : Int) = 255) = false := decide_eq_false (by omega)
      have qbb255 : (((bb : Nat) : Int) != 255) = true := by simp; omega
      have bbb112 : (((bb : Nat) : Int) == 112) = true := by simp; omega
      have jbb112 : (((bb : Nat) : Int) = 112) = True := eq_true (by omega)
      have kbb112 : (bb = 112) = True := eq_true (by omega)
      have dbb112 : decide (((bb : Nat) : Int) = 112) = true := decide_eq_true (by omega)
      have qbb112 : (((bb : Nat) : Int) != 112) = false := by simp; omega
      have E1 : (j.pol && decide (kk = 4)) = false := by rw [← HPL.out, ad4]; rfl
      have E2 : ((false || false) || (decide (kk = 1) && decide (bb = 112))) = true := by rw [ad1, decide_eq_true (by omega)]; rfl
      have E3 : j.rtakes g kk bb = Jd.rtk g ({ j with pol := true } : Jd) false kk bb := by unfold Jd.rtakes; rw [E1]; rw [Bool.false_or] at E2; rw [E2]
      have HR := Lib.hid (show j.rtakes g kk bb = (false, ({ j with pol := true } : Jd)) by rw [E3]; unfold Jd.rtk; rw [if_neg (fun h => by omega), if_pos (show j.op = 0 by have := HOO.out; omega)])
      clear E1 E2 E3 h1 h255 h112 ho
      have f13 := CA.out.1.frozen 13
      have S1 := Lib.hid (CA.out.1.setCell 13 (.bool true))
      have S1K := Lib.hid ((Btw.refl (I := fun k => k = p) (w.alloc (.cells #[.int .i64 kk, .int .u8 (bb : Int)] 36))).setCell (p := ⟨p, 13, none⟩) (v := .bool true) rfl)
      have C1 := Lib.hid (show CRow ((w.alloc (.cells #[.int .i64 kk, .int .u8 (bb : Int)] 36)).setCell ⟨p, 13, none⟩ (.bool true)) p 41 (rjCells g ({ j with pol := true } : Jd) m) ∧ RjR ρ ((w.alloc (.cells #[.int .i64 kk, .int .u8 (bb : Int)] 36)).setCell ⟨p, 13, none⟩ (.bool true)) p g ({ j with pol := true } : Jd) m ∧ Btw I w ((w.alloc (.cells #[.int .i64 kk, .int .u8 (bb : Int)] 36)).setCell ⟨p, 13, none⟩ (.bool true)) from
       ⟨by have h0 := S1.out; simpa [rjCells] using h0, (fun (h : RjR ρ _ p g j m) => ({ h with  } : RjR ρ _ p g ({ j with pol := true } : Jd) m)) (CA.out.2.1.btw S1K.out fun k e => .inr (by have e : k = p := e; rw [e]; exact CA.out.2.1.rp)), CA.out.2.2.trans S1K.out fun k _ e => I0.out k (by have e : k = p := e; rw [e, CA.out.2.1.rp]; decide)⟩)
      have z10 : ((w.alloc (.cells #[.int .i64 kk, .int .u8 (bb : Int)] 36)).setCell ⟨p, 13, none⟩ (.bool true)).cell? ⟨p, 10, none⟩ = some (.int .i64 (o : Int)) := by rw [HOO.out]; exact C1.out.1.cell_at 10 _ rfl
      have z14 : ((w.alloc (.cells #[.int .i64 kk, .int .u8 (bb : Int)] 36)).setCell ⟨p, 13, none⟩ (.bool true)).cell? ⟨p, 14, none⟩ = some (.bool bu) := by
       have h0 := C1.out.1.cell_at 14 (.bool j.busy) rfl
       rw [← HBU.out] at h0
       exact h0
      have q0 : ((w.alloc (.cells #[.int .i64 kk, .int .u8 (bb : Int)] 36)).setCell ⟨p, 13, none⟩ (.bool true)).cell? ⟨w.heap.size, 0, none⟩ = some (.int .i64 kk) := (Z0.out.setCell_other (p := ⟨p, 13, none⟩) (fun e => NP.out e.symm) _).cell_at 0 _ rfl
      have q1 : ((w.alloc (.cells #[.int .i64 kk, .int .u8 (bb : Int)] 36)).setCell ⟨p, 13, none⟩ (.bool true)).cell? ⟨w.heap.size, 1, none⟩ = some (.int .u8 (bb : Int)) := (Z0.out.setCell_other (p := ⟨p, 13, none⟩) (fun e => NP.out e.symm) _).cell_at 1 _ rfl
      go_enter Try.func21, Try.ntmps21
      go_wp2
      go_ret
      rw [HR.out]
      exact ⟨rfl, ⟨ρ, m, (C1.out).1, (C1.out).2.1, I0.out, fun k hk => N0.out k (Nat.le_trans (C1.out).2.2.size hk)⟩, C1.out.2.2⟩
     ·
      skip
      have bo0 : (((o : Nat) : Int) == 0) = false := by simp; omega
      have jo0 : (((o : Nat) : Int) = 0) = False := eq_false (by omega)
      have ko0 : (o = 0) = False := eq_false (by omega)
      have do0 : decide (((o : Nat) : Int) = 0) = false := decide_eq_false (by omega)
      have qo0 : (((o : Nat) : Int) != 0) = true := by simp; omega
      cases bu with
      | true =>
       have a1 : (kk == 1) = true := by simp; omega
       have aj1 : (kk = 1) = True := eq_true (by omega)
       have ad1 : decide (kk = 1) = true := decide_eq_true (by omega)
       have a2 : (kk == 2) = false := by simp; omega
       have aj2 : (kk = 2) = False := eq_false (by omega)
       have ad2 : decide (kk = 2) = false := decide_eq_false (by omega)
       have a3 : (kk == 3) = false := by simp; omega
       have aj3 : (kk = 3) = False := eq_false (by omega)
       have ad3 : decide (kk = 3) = false := decide_eq_false (by omega)
       have a4 : (kk == 4) = false := by simp; omega
       have aj4 : (kk = 4) = False := eq_false (by omega)
       have ad4 : decide (kk = 4) = false := decide_eq_false (by omega)
       have bbb255 : (((bb : Nat) : Int) == 255) = false := by simp; omega
       have jbb255 : (((bb : Nat) : Int) = 255) = False := eq_false (by omega)
       have kbb255 : (bb = 255) = False := eq_false (by omega)
       have dbb255 : decide (((bb : Nat) : Int) = 255) = false := decide_eq_false (by omega)
       have qbb255 : (((bb : Nat) : Int) != 255) = true := by simp; omega
       have bbb112 : (((bb : Nat) : Int) == 112) = true := by simp; omega
       have jbb112 : (((bb : Nat) : Int) = 112) = True := eq_true (by omega)
       have kbb112 : (bb = 112) = True := eq_true (by omega)
       have dbb112 : decide (((bb : Nat) : Int) = 112) = true := decide_eq_true (by omega)
       have qbb112 : (((bb : Nat) : Int) != 112) = false := by simp; omega
       have E1 : (j.pol && decide (kk = 4)) = false := by rw [← HPL.out, ad4]; rfl
       have E2 : ((false || false) || (decide (kk = 1) && decide (bb = 112))) = true := by rw [ad1, decide_eq_true (by omega)]; rfl
       have E3 : j.rtakes g kk bb = Jd.rtk g ({ j with pol := true } : Jd) false kk bb := by unfold Jd.rtakes; rw [E1]; rw [Bool.false_or] at E2; rw [E2]
       have HR := Lib.hid (show j.rtakes g kk bb = (true, ({ j with pol := true } : Jd)) by rw [E3]; unfold Jd.rtk; rw [if_neg (fun h => by omega), if_neg (show ¬ j.op = 0 by have := HOO.out; omega), if_pos ⟨by omega, by omega⟩, if_pos (show j.busy = true from HBU.out.symm)])
       clear E1 E2 E3 h1 h255 h112 ho
       have f13 := CA.out.1.frozen 13
       have S1 := Lib.hid (CA.out.1.setCell 13 (.bool true))
       have S1K := Lib.hid ((Btw.refl (I := fun k => k = p) (w.alloc (.cells #[.int .i64 kk, .int .u8 (bb : Int)] 36))).setCell (p := ⟨p, 13, none⟩) (v := .bool true) rfl)
       have C1 := Lib.hid (show CRow ((w.alloc (.cells #[.int .i64 kk, .int .u8 (bb : Int)] 36)).setCell ⟨p, 13, none⟩ (.bool true)) p 41 (rjCells g ({ j with pol := true } : Jd) m) ∧ RjR ρ ((w.alloc (.cells #[.int .i64 kk, .int .u8 (bb : Int)] 36)).setCell ⟨p, 13, none⟩ (.bool true)) p g ({ j with pol := true } : Jd) m ∧ Btw I w ((w.alloc (.cells #[.int .i64 kk, .int .u8 (bb : Int)] 36)).setCell ⟨p, 13, none⟩ (.bool true)) from
        ⟨by have h0 := S1.out; simpa [rjCells] using h0, (fun (h : RjR ρ _ p g j m) => ({ h with  } : RjR ρ _ p g ({ j with pol := true } : Jd) m)) (CA.out.2.1.btw S1K.out fun k e => .inr (by have e : k = p := e; rw [e]; exact CA.out.2.1.rp)), CA.out.2.2.trans S1K.out fun k _ e => I0.out k (by have e : k = p := e; rw [e, CA.out.2.1.rp]; decide)⟩)
       have z10 : ((w.alloc (.cells #[.int .i64 kk, .int .u8 (bb : Int)] 36)).setCell ⟨p, 13, none⟩ (.bool true)).cell? ⟨p, 10, none⟩ = some (.int .i64 (o : Int)) := by rw [HOO.out]; exact C1.out.1.cell_at 10 _ rfl
       have z14 : ((w.alloc (.cells #[.int .i64 kk, .int .u8 (bb : Int)] 36)).setCell ⟨p, 13, none⟩ (.bool true)).cell? ⟨p, 14, none⟩ = some (.bool true) := by
        have h0 := C1.out.1.cell_at 14 (.bool j.busy) rfl
        rw [← HBU.out] at h0
        exact h0
       have q0 : ((w.alloc (.cells #[.int .i64 kk, .int .u8 (bb : Int)] 36)).setCell ⟨p, 13, none⟩ (.bool true)).cell? ⟨w.heap.size, 0, none⟩ = some (.int .i64 kk) := (Z0.out.setCell_other (p := ⟨p, 13, none⟩) (fun e => NP.out e.symm) _).cell_at 0 _ rfl
       have q1 : ((w.alloc (.cells #[.int .i64 kk, .int .u8 (bb : Int)] 36)).setCell ⟨p, 13, none⟩ (.bool true)).cell? ⟨w.heap.size, 1, none⟩ = some (.int .u8 (bb : Int)) := (Z0.out.setCell_other (p := ⟨p, 13, none⟩) (fun e => NP.out e.symm) _).cell_at 1 _ rfl
       go_enter Try.func21, Try.ntmps21
       go_wp2
       go_ret
       rw [HR.out]
       exact ⟨rfl, ⟨ρ, m, (C1.out).1, (C1.out).2.1, I0.out, fun k hk => N0.out k (Nat.le_trans (C1.out).2.2.size hk)⟩, C1.out.2.2⟩
      | false =>
       have a1 : (kk == 1) = true := by simp; omega
       have aj1 : (kk = 1) = True := eq_true (by omega)
       have ad1 : decide (kk = 1) = true := decide_eq_true (by omega)
       have a2 : (kk == 2) = false := by simp; omega
       have aj2 : (kk = 2) = False := eq_false (by omega)
       have ad2 : decide (kk = 2) = false := decide_eq_false (by omega)
       have a3 : (kk == 3) = false := by simp; omega
       have aj3 : (kk = 3) = False := eq_false (by omega)
       have ad3 : decide (kk = 3) = false := decide_eq_false (by omega)
       have a4 : (kk == 4) = false := by simp; omega
       have aj4 : (kk = 4) = False := eq_false (by omega)
       have ad4 : decide (kk = 4) = false := decide_eq_false (by omega)
       have bbb255 : (((bb : Nat) : Int) == 255) = false := by simp; omega
       have jbb255 : (((bb : Nat) : Int) = 255) = False := eq_false (by omega)
       have kbb255 : (bb = 255) = False := eq_false (by omega)
       have dbb255 : decide (((bb : Nat) : Int) = 255) = false := decide_eq_false (by omega)
       have qbb255 : (((bb : Nat) : Int) != 255) = true := by simp; omega
       have bbb112 : (((bb : Nat) : Int) == 112) = true := by simp; omega
       have jbb112 : (((bb : Nat) : Int) = 112) = True := eq_true (by omega)
       have kbb112 : (bb = 112) = True := eq_true (by omega)
       have dbb112 : decide (((bb : Nat) : Int) = 112) = true := decide_eq_true (by omega)
       have qbb112 : (((bb : Nat) : Int) != 112) = false := by simp; omega
       have E1 : (j.pol && decide (kk = 4)) = false := by rw [← HPL.out, ad4]; rfl
       have E2 : ((false || false) || (decide (kk = 1) && decide (bb = 112))) = true := by rw [ad1, decide_eq_true (by omega)]; rfl
       have E3 : j.rtakes g kk bb = Jd.rtk g ({ j with pol := true } : Jd) false kk bb := by unfold Jd.rtakes; rw [E1]; rw [Bool.false_or] at E2; rw [E2]
       have HR := Lib.hid (show j.rtakes g kk bb = (true, ({ j with pol := true } : Jd).enter 1) by rw [E3]; unfold Jd.rtk; rw [if_neg (fun h => by omega), if_neg (show ¬ j.op = 0 by have := HOO.out; omega), if_pos ⟨by omega, by omega⟩, if_neg (show ¬ j.busy = true by rw [← HBU.out]; decide)])
       clear E1 E2 E3 h1 h255 h112 ho
       have f13 := CA.out.1.frozen 13
       have S1 := Lib.hid (CA.out.1.setCell 13 (.bool true))
       have S1K := Lib.hid ((Btw.refl (I := fun k => k = p) (w.alloc (.cells #[.int .i64 kk, .int .u8 (bb : Int)] 36))).setCell (p := ⟨p, 13, none⟩) (v := .bool true) rfl)
       have C1 := Lib.hid (show CRow ((w.alloc (.cells #[.int .i64 kk, .int .u8 (bb : Int)] 36)).setCell ⟨p, 13, none⟩ (.bool true)) p 41 (rjCells g ({ j with pol := true } : Jd) m) ∧ RjR ρ ((w.alloc (.cells #[.int .i64 kk, .int .u8 (bb : Int)] 36)).setCell ⟨p, 13, none⟩ (.bool true)) p g ({ j with pol := true } : Jd) m ∧ Btw I w ((w.alloc (.cells #[.int .i64 kk, .int .u8 (bb : Int)] 36)).setCell ⟨p, 13, none⟩ (.bool true)) from
        ⟨by have h0 := S1.out; simpa [rjCells] using h0, (fun (h : RjR ρ _ p g j m) => ({ h with  } : RjR ρ _ p g ({ j with pol := true } : Jd) m)) (CA.out.2.1.btw S1K.out fun k e => .inr (by have e : k = p := e; rw [e]; exact CA.out.2.1.rp)), CA.out.2.2.trans S1K.out fun k _ e => I0.out k (by have e : k = p := e; rw [e, CA.out.2.1.rp]; decide)⟩)
       have z10 : ((w.alloc (.cells #[.int .i64 kk, .int .u8 (bb : Int)] 36)).setCell ⟨p, 13, none⟩ (.bool true)).cell? ⟨p, 10, none⟩ = some (.int .i64 (o : Int)) := by rw [HOO.out]; exact C1.out.1.cell_at 10 _ rfl
       have z14 : ((w.alloc (.cells #[.int .i64 kk, .int .u8 (bb : Int)] 36)).setCell ⟨p, 13, none⟩ (.bool true)).cell? ⟨p, 14, none⟩ = some (.bool false) := by
        have h0 := C1.out.1.cell_at 14 (.bool j.busy) rfl
        rw [← HBU.out] at h0
        exact h0
       have q0 : ((w.alloc (.cells #[.int .i64 kk, .int .u8 (bb : Int)] 36)).setCell ⟨p, 13, none⟩ (.bool true)).cell? ⟨w.heap.size, 0, none⟩ = some (.int .i64 kk) := (Z0.out.setCell_other (p := ⟨p, 13, none⟩) (fun e => NP.out e.symm) _).cell_at 0 _ rfl
       have q1 : ((w.alloc (.cells #[.int .i64 kk, .int .u8 (bb : Int)] 36)).setCell ⟨p, 13, none⟩ (.bool true)).cell? ⟨w.heap.size, 1, none⟩ = some (.int .u8 (bb : Int)) := (Z0.out.setCell_other (p := ⟨p, 13, none⟩) (fun e => NP.out e.symm) _).cell_at 1 _ rfl
       have HX := Lib.hid (rfree (j := ({ j with pol := true } : Jd))  ⟨ρ, m, (C1.out).1, (C1.out).2.1, I0.out, fun k hk => N0.out k (Nat.le_trans (C1.out).2.2.size hk)⟩)
       go_enter Try.func21, Try.ntmps21
       go_wp2_with fail
       clear x13 y0 y1 q0 q1 z10 z14 f13
       refine HX.out.mono ?_
       rintro _ w2 ⟨rfl, h2, b2⟩
       have H2 := Lib.hid h2
       have B2 := Lib.hid (C1.out.2.2.trans b2 fun _ _ h => h)
       clear h2 b2 HX
       go_wp2
       go_ret
       rw [HR.out]
       exact ⟨rfl, H2.out, B2.out⟩
    ·
     skip
     by_cases ho : o = 0
     ·
      skip
      have bo0 : (((o : Nat) : Int) == 0) = true := by simp; omega
      have jo0 : (((o : Nat) : Int) = 0) = True := eq_true (by omega)
      have ko0 : (o = 0) = True := eq_true (by omega)
      have do0 : decide (((o : Nat) : Int) = 0) = true := decide_eq_true (by omega)
      have qo0 : (((o : Nat) : Int) != 0) = false := by simp; omega
      have a1 : (kk == 1) = true := by simp; omega
      have aj1 : (kk = 1) = True := eq_true (by omega)
      have ad1 : decide (kk = 1) = true := decide_eq_true (by omega)
      have a2 : (kk == 2) = false := by simp; omega
      have aj2 : (kk = 2) = False := eq_false (by omega)
      have ad2 : decide (kk = 2) = false := decide_eq_false (by omega)
      have a3 : (kk == 3) = false := by simp; omega
      have aj3 : (kk = 3) = False := eq_false (by omega)
      have ad3 : decide (kk = 3) = false := decide_eq_false (by omega)
      have a4 : (kk == 4) = false := by simp; omega
      have aj4 : (kk = 4) = False := eq_false (by omega)
      have ad4 : decide (kk = 4) = false := decide_eq_false (by omega)
      have bbb255 : (((bb : Nat) : Int) == 255) = false := by simp; omega
      have jbb255 : (((bb : Nat) : Int) = 255) = False := eq_false (by omega)
      have kbb255 : (bb = 255) = False := eq_false (by omega)
      have dbb255 : decide (((bb : Nat) : Int) = 255) = false := decide_eq_false (by omega)
      have qbb255 : (((bb : Nat) : Int) != 255) = true := by simp; omega
      have bbb112 : (((bb : Nat) : Int) == 112) = false := by simp; omega
      have jbb112 : (((bb : Nat) : Int) = 112) = False := eq_false (by omega)
      have kbb112 : (bb = 112) = False := eq_false (by omega)
      have dbb112 : decide (((bb : Nat) : Int) = 112) = false := decide_eq_false (by omega)
      have qbb112 : (((bb : Nat) : Int) != 112) = true := by simp; omega
      have E1 : (j.pol && decide (kk = 4)) = false := by rw [← HPL.out, ad4]; rfl
      have E2 : ((false || false) || (decide (kk = 1) && decide (bb = 112))) = false := by rw [ad1, decide_eq_false (by omega)]; rfl
      have E3 : j.rtakes g kk bb = Jd.rtk g ({ j with pol := false } : Jd) false kk bb := by unfold Jd.rtakes; rw [E1]; rw [Bool.false_or] at E2; rw [E2]
      have HR := Lib.hid (show j.rtakes g kk bb = (false, ({ j with pol := false } : Jd)) by rw [E3]; unfold Jd.rtk; rw [if_neg (fun h => by omega), if_pos (show j.op = 0 by have := HOO.out; omega)])
      clear E1 E2 E3 h1 h255 h112 ho
      have f13 := CA.out.1.frozen 13
      have S1 := Lib.hid (CA.out.1.setCell 13 (.bool false))
      have S1K := Lib.hid ((Btw.refl (I := fun k => k = p) (w.alloc (.cells #[.int .i64 kk, .int .u8 (bb : Int)] 36))).setCell (p := ⟨p, 13, none⟩) (v := .bool false) rfl)
      have C1 := Lib.hid (show CRow ((w.alloc (.cells #[.int .i64 kk, .int .u8 (bb : Int)] 36)).setCell ⟨p, 13, none⟩ (.bool false)) p 41 (rjCells g ({ j with pol := false } : Jd) m) ∧ RjR ρ ((w.alloc (.cells #[.int .i64 kk, .int .u8 (bb : Int)] 36)).setCell ⟨p, 13, none⟩ (.bool false)) p g ({ j with pol := false } : Jd) m ∧ Btw I w ((w.alloc (.cells #[.int .i64 kk, .int .u8 (bb : Int)] 36)).setCell ⟨p, 13, none⟩ (.bool false)) from
       ⟨by have h0 := S1.out; simpa [rjCells] using h0, (fun (h : RjR ρ _ p g j m) => ({ h with  } : RjR ρ _ p g ({ j with pol := false } : Jd) m)) (CA.out.2.1.btw S1K.out fun k e => .inr (by have e : k = p := e; rw [e]; exact CA.out.2.1.rp)), CA.out.2.2.trans S1K.out fun k _ e => I0.out k (by have e : k = p := e; rw [e, CA.out.2.1.rp]; decide)⟩)
      have z10 : ((w.alloc (.cells #[.int .i64 kk, .int .u8 (bb : Int)] 36)).setCell ⟨p, 13, none⟩ (.bool false)).cell? ⟨p, 10, none⟩ = some (.int .i64 (o : Int)) := by rw [HOO.out]; exact C1.out.1.cell_at 10 _ rfl
      have z14 : ((w.alloc (.cells #[.int .i64 kk, .int .u8 (bb : Int)] 36)).setCell ⟨p, 13, none⟩ (.bool false)).cell? ⟨p, 14, none⟩ = some (.bool bu) := by
       have h0 := C1.out.1.cell_at 14 (.bool j.busy) rfl
       rw [← HBU.out] at h0
       exact h0
      have q0 : ((w.alloc (.cells #[.int .i64 kk, .int .u8 (bb : Int)] 36)).setCell ⟨p, 13, none⟩ (.bool false)).cell? ⟨w.heap.size, 0, none⟩ = some (.int .i64 kk) := (Z0.out.setCell_other (p := ⟨p, 13, none⟩) (fun e => NP.out e.symm) _).cell_at 0 _ rfl
      have q1 : ((w.alloc (.cells #[.int .i64 kk, .int .u8 (bb : Int)] 36)).setCell ⟨p, 13, none⟩ (.bool false)).cell? ⟨w.heap.size, 1, none⟩ = some (.int .u8 (bb : Int)) := (Z0.out.setCell_other (p := ⟨p, 13, none⟩) (fun e => NP.out e.symm) _).cell_at 1 _ rfl
      go_enter Try.func21, Try.ntmps21
      go_wp2
      go_ret
      rw [HR.out]
      exact ⟨rfl, ⟨ρ, m, (C1.out).1, (C1.out).2.1, I0.out, fun k hk => N0.out k (Nat.le_trans (C1.out).2.2.size hk)⟩, C1.out.2.2⟩
     ·
      skip
      have bo0 : (((o : Nat) : Int) == 0) = false := by simp; omega
      have jo0 : (((o : Nat) : Int) = 0) = False := eq_false (by omega)
      have ko0 : (o = 0) = False := eq_false (by omega)
      have do0 : decide (((o : Nat) : Int) = 0) = false := decide_eq_false (by omega)
      have qo0 : (((o : Nat) : Int) != 0) = true := by simp; omega
      cases bu with
      | true =>
       have a1 : (kk == 1) = true := by simp; omega
       have aj1 : (kk = 1) = True := eq_true (by omega)
       have ad1 : decide (kk = 1) = true := decide_eq_true (by omega)
       have a2 : (kk == 2) = false := by simp; omega
       have aj2 : (kk = 2) = False := eq_false (by omega)
       have ad2 : decide (kk = 2) = false := decide_eq_false (by omega)
       have a3 : (kk == 3) = false := by simp; omega
       have aj3 : (kk = 3) = False := eq_false (by omega)
       have ad3 : decide (kk = 3) = false := decide_eq_false (by omega)
       have a4 : (kk == 4) = false := by simp; omega
       have aj4 : (kk = 4) = False := eq_false (by omega)
       have ad4 : decide (kk = 4) = false := decide_eq_false (by omega)
       have bbb255 : (((bb : Nat) : Int) == 255) = false := by simp; omega
       have jbb255 : (((bb : Nat) : Int) = 255) = False := eq_false (by omega)
       have kbb255 : (bb = 255) = False := eq_false (by omega)
       have dbb255 : decide (((bb : Nat) : Int) = 255) = false := decide_eq_false (by omega)
       have qbb255 : (((bb : Nat) : Int) != 255) = true := by simp; omega
       have bbb112 : (((bb : Nat) : Int) == 112) = false := by simp; omega
       have jbb112 : (((bb : Nat) : Int) = 112) = False := eq_false (by omega)
       have kbb112 : (bb = 112) = False := eq_false (by omega)
       have dbb112 : decide (((bb : Nat) : Int) = 112) = false := decide_eq_false (by omega)
       have qbb112 : (((bb : Nat) : Int) != 112) = true := by simp; omega
       have E1 : (j.pol && decide (kk = 4)) = false := by rw [← HPL.out, ad4]; rfl
       have E2 : ((false || false) || (decide (kk = 1) && decide (bb = 112))) = false := by rw [ad1, decide_eq_false (by omega)]; rfl
       have E3 : j.rtakes g kk bb = Jd.rtk g ({ j with pol := false } : Jd) false kk bb := by unfold Jd.rtakes; rw [E1]; rw [Bool.false_or] at E2; rw [E2]
       have HR := Lib.hid (show j.rtakes g kk bb = (false, ({ j with pol := false } : Jd)) by rw [E3]; unfold Jd.rtk; rw [if_neg (fun h => by omega), if_neg (show ¬ j.op = 0 by have := HOO.out; omega), if_neg (fun h => by omega), if_neg (by decide), if_pos (show j.busy = true from HBU.out.symm)])
       clear E1 E2 E3 h1 h255 h112 ho
       have f13 := CA.out.1.frozen 13
       have S1 := Lib.hid (CA.out.1.setCell 13 (.bool false))
       have S1K := Lib.hid ((Btw.refl (I := fun k => k = p) (w.alloc (.cells #[.int .i64 kk, .int .u8 (bb : Int)] 36))).setCell (p := ⟨p, 13, none⟩) (v := .bool false) rfl)
       have C1 := Lib.hid (show CRow ((w.alloc (.cells #[.int .i64 kk, .int .u8 (bb : Int)] 36)).setCell ⟨p, 13, none⟩ (.bool false)) p 41 (rjCells g ({ j with pol := false } : Jd) m) ∧ RjR ρ ((w.alloc (.cells #[.int .i64 kk, .int .u8 (bb : Int)] 36)).setCell ⟨p, 13, none⟩ (.bool false)) p g ({ j with pol := false } : Jd) m ∧ Btw I w ((w.alloc (.cells #[.int .i64 kk, .int .u8 (bb : Int)] 36)).setCell ⟨p, 13, none⟩ (.bool false)) from
        ⟨by have h0 := S1.out; simpa [rjCells] using h0, (fun (h : RjR ρ _ p g j m) => ({ h with  } : RjR ρ _ p g ({ j with pol := false } : Jd) m)) (CA.out.2.1.btw S1K.out fun k e => .inr (by have e : k = p := e; rw [e]; exact CA.out.2.1.rp)), CA.out.2.2.trans S1K.out fun k _ e => I0.out k (by have e : k = p := e; rw [e, CA.out.2.1.rp]; decide)⟩)
       have z10 : ((w.alloc (.cells #[.int .i64 kk, .int .u8 (bb : Int)] 36)).setCell ⟨p, 13, none⟩ (.bool false)).cell? ⟨p, 10, none⟩ = some (.int .i64 (o : Int)) := by rw [HOO.out]; exact C1.out.1.cell_at 10 _ rfl
       have z14 : ((w.alloc (.cells #[.int .i64 kk, .int .u8 (bb : Int)] 36)).setCell ⟨p, 13, none⟩ (.bool false)).cell? ⟨p, 14, none⟩ = some (.bool true) := by
        have h0 := C1.out.1.cell_at 14 (.bool j.busy) rfl
        rw [← HBU.out] at h0
        exact h0
       have q0 : ((w.alloc (.cells #[.int .i64 kk, .int .u8 (bb : Int)] 36)).setCell ⟨p, 13, none⟩ (.bool false)).cell? ⟨w.heap.size, 0, none⟩ = some (.int .i64 kk) := (Z0.out.setCell_other (p := ⟨p, 13, none⟩) (fun e => NP.out e.symm) _).cell_at 0 _ rfl
       have q1 : ((w.alloc (.cells #[.int .i64 kk, .int .u8 (bb : Int)] 36)).setCell ⟨p, 13, none⟩ (.bool false)).cell? ⟨w.heap.size, 1, none⟩ = some (.int .u8 (bb : Int)) := (Z0.out.setCell_other (p := ⟨p, 13, none⟩) (fun e => NP.out e.symm) _).cell_at 1 _ rfl
       go_enter Try.func21, Try.ntmps21
       go_wp2
       go_ret
       rw [HR.out]
       exact ⟨rfl, ⟨ρ, m, (C1.out).1, (C1.out).2.1, I0.out, fun k hk => N0.out k (Nat.le_trans (C1.out).2.2.size hk)⟩, C1.out.2.2⟩
      | false =>
       have a1 : (kk == 1) = true := by simp; omega
       have aj1 : (kk = 1) = True := eq_true (by omega)
       have ad1 : decide (kk = 1) = true := decide_eq_true (by omega)
       have a2 : (kk == 2) = false := by simp; omega
       have aj2 : (kk = 2) = False := eq_false (by omega)
       have ad2 : decide (kk = 2) = false := decide_eq_false (by omega)
       have a3 : (kk == 3) = false := by simp; omega
       have aj3 : (kk = 3) = False := eq_false (by omega)
       have ad3 : decide (kk = 3) = false := decide_eq_false (by omega)
       have a4 : (kk == 4) = false := by simp; omega
       have aj4 : (kk = 4) = False := eq_false (by omega)
       have ad4 : decide (kk = 4) = false := decide_eq_false (by omega)
       have bbb255 : (((bb : Nat) : Int) == 255) = false := by simp; omega
       have jbb255 : (((bb : Nat) : Int) = 255) = False := eq_false (by omega)
       have kbb255 : (bb = 255) = False := eq_false (by omega)
       have dbb255 : decide (((bb : Nat) : Int) = 255) = false := decide_eq_false (by omega)
       have qbb255 : (((bb : Nat) : Int) != 255) = true := by simp; omega
       have bbb112 : (((bb : Nat) : Int) == 112) = false := by simp; omega
       have jbb112 : (((bb : Nat) : Int) = 112) = False := eq_false (by omega)
       have kbb112 : (bb = 112) = False := eq_false (by omega)
       have dbb112 : decide (((bb : Nat) : Int) = 112) = false := decide_eq_false (by omega)
       have qbb112 : (((bb : Nat) : Int) != 112) = true := by simp; omega
       have E1 : (j.pol && decide (kk = 4)) = false := by rw [← HPL.out, ad4]; rfl
       have E2 : ((false || false) || (decide (kk = 1) && decide (bb = 112))) = false := by rw [ad1, decide_eq_false (by omega)]; rfl
       have E3 : j.rtakes g kk bb = Jd.rtk g ({ j with pol := false } : Jd) false kk bb := by unfold Jd.rtakes; rw [E1]; rw [Bool.false_or] at E2; rw [E2]
       have HR := Lib.hid (show j.rtakes g kk bb = ({ j with pol := false } : Jd).rcommand g bb by rw [E3]; unfold Jd.rtk; rw [if_neg (fun h => by omega), if_neg (show ¬ j.op = 0 by have := HOO.out; omega), if_neg (fun h => by omega), if_neg (by decide), if_neg (show ¬ j.busy = true by rw [← HBU.out]; decide), if_pos (by omega)])
       clear E1 E2 E3 h1 h255 h112 ho
       have f13 := CA.out.1.frozen 13
       have S1 := Lib.hid (CA.out.1.setCell 13 (.bool false))
       have S1K := Lib.hid ((Btw.refl (I := fun k => k = p) (w.alloc (.cells #[.int .i64 kk, .int .u8 (bb : Int)] 36))).setCell (p := ⟨p, 13, none⟩) (v := .bool false) rfl)
       have C1 := Lib.hid (show CRow ((w.alloc (.cells #[.int .i64 kk, .int .u8 (bb : Int)] 36)).setCell ⟨p, 13, none⟩ (.bool false)) p 41 (rjCells g ({ j with pol := false } : Jd) m) ∧ RjR ρ ((w.alloc (.cells #[.int .i64 kk, .int .u8 (bb : Int)] 36)).setCell ⟨p, 13, none⟩ (.bool false)) p g ({ j with pol := false } : Jd) m ∧ Btw I w ((w.alloc (.cells #[.int .i64 kk, .int .u8 (bb : Int)] 36)).setCell ⟨p, 13, none⟩ (.bool false)) from
        ⟨by have h0 := S1.out; simpa [rjCells] using h0, (fun (h : RjR ρ _ p g j m) => ({ h with  } : RjR ρ _ p g ({ j with pol := false } : Jd) m)) (CA.out.2.1.btw S1K.out fun k e => .inr (by have e : k = p := e; rw [e]; exact CA.out.2.1.rp)), CA.out.2.2.trans S1K.out fun k _ e => I0.out k (by have e : k = p := e; rw [e, CA.out.2.1.rp]; decide)⟩)
       have z10 : ((w.alloc (.cells #[.int .i64 kk, .int .u8 (bb : Int)] 36)).setCell ⟨p, 13, none⟩ (.bool false)).cell? ⟨p, 10, none⟩ = some (.int .i64 (o : Int)) := by rw [HOO.out]; exact C1.out.1.cell_at 10 _ rfl
       have z14 : ((w.alloc (.cells #[.int .i64 kk, .int .u8 (bb : Int)] 36)).setCell ⟨p, 13, none⟩ (.bool false)).cell? ⟨p, 14, none⟩ = some (.bool false) := by
        have h0 := C1.out.1.cell_at 14 (.bool j.busy) rfl
        rw [← HBU.out] at h0
        exact h0
       have q0 : ((w.alloc (.cells #[.int .i64 kk, .int .u8 (bb : Int)] 36)).setCell ⟨p, 13, none⟩ (.bool false)).cell? ⟨w.heap.size, 0, none⟩ = some (.int .i64 kk) := (Z0.out.setCell_other (p := ⟨p, 13, none⟩) (fun e => NP.out e.symm) _).cell_at 0 _ rfl
       have q1 : ((w.alloc (.cells #[.int .i64 kk, .int .u8 (bb : Int)] 36)).setCell ⟨p, 13, none⟩ (.bool false)).cell? ⟨w.heap.size, 1, none⟩ = some (.int .u8 (bb : Int)) := (Z0.out.setCell_other (p := ⟨p, 13, none⟩) (fun e => NP.out e.symm) _).cell_at 1 _ rfl
       have HX := Lib.hid (rcommand (j := ({ j with pol := false } : Jd)) bb H8.out (HK.out.polled _) ⟨ρ, m, (C1.out).1, (C1.out).2.1, I0.out, fun k hk => N0.out k (Nat.le_trans (C1.out).2.2.size hk)⟩)
       obtain ⟨z, hz⟩ : ∃ z, z = ({ j with pol := false } : Jd).rcommand g bb := ⟨_, rfl⟩
       rw [← hz] at HX HR
       clear hz
       obtain ⟨v, jz⟩ := z
       simp only at HX HR
       go_enter Try.func21, Try.ntmps21
       go_wp2_with fail
       clear x13 y0 y1 q0 q1 z10 z14 f13
       refine HX.out.mono ?_
       rintro _ w2 ⟨rfl, h2, b2⟩
       have H2 := Lib.hid h2
       have B2 := Lib.hid (C1.out.2.2.trans b2 fun _ _ h => h)
       clear h2 b2 HX
       go_wp2
       go_ret
       rw [HR.out]
       exact ⟨rfl, H2.out, B2.out⟩
  ·
   by_cases h2 : kk = 2
   ·
    skip
    by_cases ho : o = 0
    ·
     skip
     have bo0 : (((o : Nat) : Int) == 0) = true := by simp; omega
     have jo0 : (((o : Nat) : Int) = 0) = True := eq_true (by omega)
     have ko0 : (o = 0) = True := eq_true (by omega)
     have do0 : decide (((o : Nat) : Int) = 0) = true := decide_eq_true (by omega)
     have qo0 : (((o : Nat) : Int) != 0) = false := by simp; omega
     have a1 : (kk == 1) = false := by simp; omega
     have aj1 : (kk = 1) = False := eq_false (by omega)
     have ad1 : decide (kk = 1) = false := decide_eq_false (by omega)
     have a2 : (kk == 2) = true := by simp; omega
     have aj2 : (kk = 2) = True := eq_true (by omega)
     have ad2 : decide (kk = 2) = true := decide_eq_true (by omega)
     have a3 : (kk == 3) = false := by simp; omega
     have aj3 : (kk = 3) = False := eq_false (by omega)
     have ad3 : decide (kk = 3) = false := decide_eq_false (by omega)
     have a4 : (kk == 4) = false := by simp; omega
     have aj4 : (kk = 4) = False := eq_false (by omega)
     have ad4 : decide (kk = 4) = false := decide_eq_false (by omega)
     have E1 : (j.pol && decide (kk = 4)) = false := by rw [← HPL.out, ad4]; rfl
     have E2 : ((false || false) || (decide (kk = 1) && decide (bb = 112))) = false := by rw [ad1]; rfl
     have E3 : j.rtakes g kk bb = Jd.rtk g ({ j with pol := false } : Jd) false kk bb := by unfold Jd.rtakes; rw [E1]; rw [Bool.false_or] at E2; rw [E2]
     have HR := Lib.hid (show j.rtakes g kk bb = (false, ({ j with pol := false } : Jd)) by rw [E3]; unfold Jd.rtk; rw [if_neg (fun h => by omega), if_pos (show j.op = 0 by have := HOO.out; omega)])
     clear E1 E2 E3 h1 h2 ho
     have f13 := CA.out.1.frozen 13
     have S1 := Lib.hid (CA.out.1.setCell 13 (.bool false))
     have S1K := Lib.hid ((Btw.refl (I := fun k => k = p) (w.alloc (.cells #[.int .i64 kk, .int .u8 (bb : Int)] 36))).setCell (p := ⟨p, 13, none⟩) (v := .bool false) rfl)
     have C1 := Lib.hid (show CRow ((w.alloc (.cells #[.int .i64 kk, .int .u8 (bb : Int)] 36)).setCell ⟨p, 13, none⟩ (.bool false)) p 41 (rjCells g ({ j with pol := false } : Jd) m) ∧ RjR ρ ((w.alloc (.cells #[.int .i64 kk, .int .u8 (bb : Int)] 36)).setCell ⟨p, 13, none⟩ (.bool false)) p g ({ j with pol := false } : Jd) m ∧ Btw I w ((w.alloc (.cells #[.int .i64 kk, .int .u8 (bb : Int)] 36)).setCell ⟨p, 13, none⟩ (.bool false)) from
      ⟨by have h0 := S1.out; simpa [rjCells] using h0, (fun (h : RjR ρ _ p g j m) => ({ h with  } : RjR ρ _ p g ({ j with pol := false } : Jd) m)) (CA.out.2.1.btw S1K.out fun k e => .inr (by have e : k = p := e; rw [e]; exact CA.out.2.1.rp)), CA.out.2.2.trans S1K.out fun k _ e => I0.out k (by have e : k = p := e; rw [e, CA.out.2.1.rp]; decide)⟩)
     have z10 : ((w.alloc (.cells #[.int .i64 kk, .int .u8 (bb : Int)] 36)).setCell ⟨p, 13, none⟩ (.bool false)).cell? ⟨p, 10, none⟩ = some (.int .i64 (o : Int)) := by rw [HOO.out]; exact C1.out.1.cell_at 10 _ rfl
     have z14 : ((w.alloc (.cells #[.int .i64 kk, .int .u8 (bb : Int)] 36)).setCell ⟨p, 13, none⟩ (.bool false)).cell? ⟨p, 14, none⟩ = some (.bool bu) := by
      have h0 := C1.out.1.cell_at 14 (.bool j.busy) rfl
      rw [← HBU.out] at h0
      exact h0
     have q0 : ((w.alloc (.cells #[.int .i64 kk, .int .u8 (bb : Int)] 36)).setCell ⟨p, 13, none⟩ (.bool false)).cell? ⟨w.heap.size, 0, none⟩ = some (.int .i64 kk) := (Z0.out.setCell_other (p := ⟨p, 13, none⟩) (fun e => NP.out e.symm) _).cell_at 0 _ rfl
     have q1 : ((w.alloc (.cells #[.int .i64 kk, .int .u8 (bb : Int)] 36)).setCell ⟨p, 13, none⟩ (.bool false)).cell? ⟨w.heap.size, 1, none⟩ = some (.int .u8 (bb : Int)) := (Z0.out.setCell_other (p := ⟨p, 13, none⟩) (fun e => NP.out e.symm) _).cell_at 1 _ rfl
     go_enter Try.func21, Try.ntmps21
     go_wp2
     go_ret
     rw [HR.out]
     exact ⟨rfl, ⟨ρ, m, (C1.out).1, (C1.out).2.1, I0.out, fun k hk => N0.out k (Nat.le_trans (C1.out).2.2.size hk)⟩, C1.out.2.2⟩
    ·
     skip
     have bo0 : (((o : Nat) : Int) == 0) = false := by simp; omega
     have jo0 : (((o : Nat) : Int) = 0) = False := eq_false (by omega)
     have ko0 : (o = 0) = False := eq_false (by omega)
     have do0 : decide (((o : Nat) : Int) = 0) = false := decide_eq_false (by omega)
     have qo0 : (((o : Nat) : Int) != 0) = true := by simp; omega
     cases bu with
     | true =>
      have a1 : (kk == 1) = false := by simp; omega
      have aj1 : (kk = 1) = False := eq_false (by omega)
      have ad1 : decide (kk = 1) = false := decide_eq_false (by omega)
      have a2 : (kk == 2) = true := by simp; omega
      have aj2 : (kk = 2) = True := eq_true (by omega)
      have ad2 : decide (kk = 2) = true := decide_eq_true (by omega)
      have a3 : (kk == 3) = false := by simp; omega
      have aj3 : (kk = 3) = False := eq_false (by omega)
      have ad3 : decide (kk = 3) = false := decide_eq_false (by omega)
      have a4 : (kk == 4) = false := by simp; omega
      have aj4 : (kk = 4) = False := eq_false (by omega)
      have ad4 : decide (kk = 4) = false := decide_eq_false (by omega)
      have E1 : (j.pol && decide (kk = 4)) = false := by rw [← HPL.out, ad4]; rfl
      have E2 : ((false || false) || (decide (kk = 1) && decide (bb = 112))) = false := by rw [ad1]; rfl
      have E3 : j.rtakes g kk bb = Jd.rtk g ({ j with pol := false } : Jd) false kk bb := by unfold Jd.rtakes; rw [E1]; rw [Bool.false_or] at E2; rw [E2]
      have HR := Lib.hid (show j.rtakes g kk bb = (false, ({ j with pol := false } : Jd)) by rw [E3]; unfold Jd.rtk; rw [if_neg (fun h => by omega), if_neg (show ¬ j.op = 0 by have := HOO.out; omega), if_neg (fun h => by omega), if_neg (by decide), if_pos (show j.busy = true from HBU.out.symm)])
      clear E1 E2 E3 h1 h2 ho
      have f13 := CA.out.1.frozen 13
      have S1 := Lib.hid (CA.out.1.setCell 13 (.bool false))
      have S1K := Lib.hid ((Btw.refl (I := fun k => k = p) (w.alloc (.cells #[.int .i64 kk, .int .u8 (bb : Int)] 36))).setCell (p := ⟨p, 13, none⟩) (v := .bool false) rfl)
      have C1 := Lib.hid (show CRow ((w.alloc (.cells #[.int .i64 kk, .int .u8 (bb : Int)] 36)).setCell ⟨p, 13, none⟩ (.bool false)) p 41 (rjCells g ({ j with pol := false } : Jd) m) ∧ RjR ρ ((w.alloc (.cells #[.int .i64 kk, .int .u8 (bb : Int)] 36)).setCell ⟨p, 13, none⟩ (.bool false)) p g ({ j with pol := false } : Jd) m ∧ Btw I w ((w.alloc (.cells #[.int .i64 kk, .int .u8 (bb : Int)] 36)).setCell ⟨p, 13, none⟩ (.bool false)) from
       ⟨by have h0 := S1.out; simpa [rjCells] using h0, (fun (h : RjR ρ _ p g j m) => ({ h with  } : RjR ρ _ p g ({ j with pol := false } : Jd) m)) (CA.out.2.1.btw S1K.out fun k e => .inr (by have e : k = p := e; rw [e]; exact CA.out.2.1.rp)), CA.out.2.2.trans S1K.out fun k _ e => I0.out k (by have e : k = p := e; rw [e, CA.out.2.1.rp]; decide)⟩)
      have z10 : ((w.alloc (.cells #[.int .i64 kk, .int .u8 (bb : Int)] 36)).setCell ⟨p, 13, none⟩ (.bool false)).cell? ⟨p, 10, none⟩ = some (.int .i64 (o : Int)) := by rw [HOO.out]; exact C1.out.1.cell_at 10 _ rfl
      have z14 : ((w.alloc (.cells #[.int .i64 kk, .int .u8 (bb : Int)] 36)).setCell ⟨p, 13, none⟩ (.bool false)).cell? ⟨p, 14, none⟩ = some (.bool true) := by
       have h0 := C1.out.1.cell_at 14 (.bool j.busy) rfl
       rw [← HBU.out] at h0
       exact h0
      have q0 : ((w.alloc (.cells #[.int .i64 kk, .int .u8 (bb : Int)] 36)).setCell ⟨p, 13, none⟩ (.bool false)).cell? ⟨w.heap.size, 0, none⟩ = some (.int .i64 kk) := (Z0.out.setCell_other (p := ⟨p, 13, none⟩) (fun e => NP.out e.symm) _).cell_at 0 _ rfl
      have q1 : ((w.alloc (.cells #[.int .i64 kk, .int .u8 (bb : Int)] 36)).setCell ⟨p, 13, none⟩ (.bool false)).cell? ⟨w.heap.size, 1, none⟩ = some (.int .u8 (bb : Int)) := (Z0.out.setCell_other (p := ⟨p, 13, none⟩) (fun e => NP.out e.symm) _).cell_at 1 _ rfl
      go_enter Try.func21, Try.ntmps21
      go_wp2
      go_ret
      rw [HR.out]
      exact ⟨rfl, ⟨ρ, m, (C1.out).1, (C1.out).2.1, I0.out, fun k hk => N0.out k (Nat.le_trans (C1.out).2.2.size hk)⟩, C1.out.2.2⟩
     | false =>
      have a1 : (kk == 1) = false := by simp; omega
      have aj1 : (kk = 1) = False := eq_false (by omega)
      have ad1 : decide (kk = 1) = false := decide_eq_false (by omega)
      have a2 : (kk == 2) = true := by simp; omega
      have aj2 : (kk = 2) = True := eq_true (by omega)
      have ad2 : decide (kk = 2) = true := decide_eq_true (by omega)
      have a3 : (kk == 3) = false := by simp; omega
      have aj3 : (kk = 3) = False := eq_false (by omega)
      have ad3 : decide (kk = 3) = false := decide_eq_false (by omega)
      have a4 : (kk == 4) = false := by simp; omega
      have aj4 : (kk = 4) = False := eq_false (by omega)
      have ad4 : decide (kk = 4) = false := decide_eq_false (by omega)
      have E1 : (j.pol && decide (kk = 4)) = false := by rw [← HPL.out, ad4]; rfl
      have E2 : ((false || false) || (decide (kk = 1) && decide (bb = 112))) = false := by rw [ad1]; rfl
      have E3 : j.rtakes g kk bb = Jd.rtk g ({ j with pol := false } : Jd) false kk bb := by unfold Jd.rtakes; rw [E1]; rw [Bool.false_or] at E2; rw [E2]
      have HR := Lib.hid (show j.rtakes g kk bb = ({ j with pol := false } : Jd).raddr g bb by rw [E3]; unfold Jd.rtk; rw [if_neg (fun h => by omega), if_neg (show ¬ j.op = 0 by have := HOO.out; omega), if_neg (fun h => by omega), if_neg (by decide), if_neg (show ¬ j.busy = true by rw [← HBU.out]; decide), if_neg (by omega), if_pos (by omega)])
      clear E1 E2 E3 h1 h2 ho
      have f13 := CA.out.1.frozen 13
      have S1 := Lib.hid (CA.out.1.setCell 13 (.bool false))
      have S1K := Lib.hid ((Btw.refl (I := fun k => k = p) (w.alloc (.cells #[.int .i64 kk, .int .u8 (bb : Int)] 36))).setCell (p := ⟨p, 13, none⟩) (v := .bool false) rfl)
      have C1 := Lib.hid (show CRow ((w.alloc (.cells #[.int .i64 kk, .int .u8 (bb : Int)] 36)).setCell ⟨p, 13, none⟩ (.bool false)) p 41 (rjCells g ({ j with pol := false } : Jd) m) ∧ RjR ρ ((w.alloc (.cells #[.int .i64 kk, .int .u8 (bb : Int)] 36)).setCell ⟨p, 13, none⟩ (.bool false)) p g ({ j with pol := false } : Jd) m ∧ Btw I w ((w.alloc (.cells #[.int .i64 kk, .int .u8 (bb : Int)] 36)).setCell ⟨p, 13, none⟩ (.bool false)) from
       ⟨by have h0 := S1.out; simpa [rjCells] using h0, (fun (h : RjR ρ _ p g j m) => ({ h with  } : RjR ρ _ p g ({ j with pol := false } : Jd) m)) (CA.out.2.1.btw S1K.out fun k e => .inr (by have e : k = p := e; rw [e]; exact CA.out.2.1.rp)), CA.out.2.2.trans S1K.out fun k _ e => I0.out k (by have e : k = p := e; rw [e, CA.out.2.1.rp]; decide)⟩)
      have z10 : ((w.alloc (.cells #[.int .i64 kk, .int .u8 (bb : Int)] 36)).setCell ⟨p, 13, none⟩ (.bool false)).cell? ⟨p, 10, none⟩ = some (.int .i64 (o : Int)) := by rw [HOO.out]; exact C1.out.1.cell_at 10 _ rfl
      have z14 : ((w.alloc (.cells #[.int .i64 kk, .int .u8 (bb : Int)] 36)).setCell ⟨p, 13, none⟩ (.bool false)).cell? ⟨p, 14, none⟩ = some (.bool false) := by
       have h0 := C1.out.1.cell_at 14 (.bool j.busy) rfl
       rw [← HBU.out] at h0
       exact h0
      have q0 : ((w.alloc (.cells #[.int .i64 kk, .int .u8 (bb : Int)] 36)).setCell ⟨p, 13, none⟩ (.bool false)).cell? ⟨w.heap.size, 0, none⟩ = some (.int .i64 kk) := (Z0.out.setCell_other (p := ⟨p, 13, none⟩) (fun e => NP.out e.symm) _).cell_at 0 _ rfl
      have q1 : ((w.alloc (.cells #[.int .i64 kk, .int .u8 (bb : Int)] 36)).setCell ⟨p, 13, none⟩ (.bool false)).cell? ⟨w.heap.size, 1, none⟩ = some (.int .u8 (bb : Int)) := (Z0.out.setCell_other (p := ⟨p, 13, none⟩) (fun e => NP.out e.symm) _).cell_at 1 _ rfl
      have HX := Lib.hid (raddr (j := ({ j with pol := false } : Jd)) bb H8.out (HK.out.polled _).ln (HK.out.polled _).l8 (HK.out.polled _).op ⟨ρ, m, (C1.out).1, (C1.out).2.1, I0.out, fun k hk => N0.out k (Nat.le_trans (C1.out).2.2.size hk)⟩)
      obtain ⟨z, hz⟩ : ∃ z, z = ({ j with pol := false } : Jd).raddr g bb := ⟨_, rfl⟩
      rw [← hz] at HX HR
      clear hz
      obtain ⟨v, jz⟩ := z
      simp only at HX HR
      go_enter Try.func21, Try.ntmps21
      go_wp2_with fail
      clear x13 y0 y1 q0 q1 z10 z14 f13
      refine HX.out.mono ?_
      rintro _ w2 ⟨rfl, h2, b2⟩
      have H2 := Lib.hid h2
      have B2 := Lib.hid (C1.out.2.2.trans b2 fun _ _ h => h)
      clear h2 b2 HX
      go_wp2
      go_ret
      rw [HR.out]
      exact ⟨rfl, H2.out, B2.out⟩
   ·
    by_cases h3 : kk = 3
    ·
     skip
     by_cases ho : o = 0
     ·
      skip
      have bo0 : (((o : Nat) : Int) == 0) = true := by simp; omega
      have jo0 : (((o : Nat) : Int) = 0) = True := eq_true (by omega)
      have ko0 : (o = 0) = True := eq_true (by omega)
      have do0 : decide (((o : Nat) : Int) = 0) = true := decide_eq_true (by omega)
      have qo0 : (((o : Nat) : Int) != 0) = false := by simp; omega
      have a1 : (kk == 1) = false := by simp; omega
      have aj1 : (kk = 1) = False := eq_false (by omega)
      have ad1 : decide (kk = 1) = false := decide_eq_false (by omega)
      have a2 : (kk == 2) = false := by simp; omega
      have aj2 : (kk = 2) = False := eq_false (by omega)
      have ad2 : decide (kk = 2) = false := decide_eq_false (by omega)
      have a3 : (kk == 3) = true := by simp; omega
      have aj3 : (kk = 3) = True := eq_true (by omega)
      have ad3 : decide (kk = 3) = true := decide_eq_true (by omega)
      have a4 : (kk == 4) = false := by simp; omega
      have aj4 : (kk = 4) = False := eq_false (by omega)
      have ad4 : decide (kk = 4) = false := decide_eq_false (by omega)
      have E1 : (j.pol && decide (kk = 4)) = false := by rw [← HPL.out, ad4]; rfl
      have E2 : ((false || false) || (decide (kk = 1) && decide (bb = 112))) = false := by rw [ad1]; rfl
      have E3 : j.rtakes g kk bb = Jd.rtk g ({ j with pol := false } : Jd) false kk bb := by unfold Jd.rtakes; rw [E1]; rw [Bool.false_or] at E2; rw [E2]
      have HR := Lib.hid (show j.rtakes g kk bb = (false, ({ j with pol := false } : Jd)) by rw [E3]; unfold Jd.rtk; rw [if_neg (fun h => by omega), if_pos (show j.op = 0 by have := HOO.out; omega)])
      clear E1 E2 E3 h1 h2 h3 ho
      have f13 := CA.out.1.frozen 13
      have S1 := Lib.hid (CA.out.1.setCell 13 (.bool false))
      have S1K := Lib.hid ((Btw.refl (I := fun k => k = p) (w.alloc (.cells #[.int .i64 kk, .int .u8 (bb : Int)] 36))).setCell (p := ⟨p, 13, none⟩) (v := .bool false) rfl)
      have C1 := Lib.hid (show CRow ((w.alloc (.cells #[.int .i64 kk, .int .u8 (bb : Int)] 36)).setCell ⟨p, 13, none⟩ (.bool false)) p 41 (rjCells g ({ j with pol := false } : Jd) m) ∧ RjR ρ ((w.alloc (.cells #[.int .i64 kk, .int .u8 (bb : Int)] 36)).setCell ⟨p, 13, none⟩ (.bool false)) p g ({ j with pol := false } : Jd) m ∧ Btw I w ((w.alloc (.cells #[.int .i64 kk, .int .u8 (bb : Int)] 36)).setCell ⟨p, 13, none⟩ (.bool false)) from
       ⟨by have h0 := S1.out; simpa [rjCells] using h0, (fun (h : RjR ρ _ p g j m) => ({ h with  } : RjR ρ _ p g ({ j with pol := false } : Jd) m)) (CA.out.2.1.btw S1K.out fun k e => .inr (by have e : k = p := e; rw [e]; exact CA.out.2.1.rp)), CA.out.2.2.trans S1K.out fun k _ e => I0.out k (by have e : k = p := e; rw [e, CA.out.2.1.rp]; decide)⟩)
      have z10 : ((w.alloc (.cells #[.int .i64 kk, .int .u8 (bb : Int)] 36)).setCell ⟨p, 13, none⟩ (.bool false)).cell? ⟨p, 10, none⟩ = some (.int .i64 (o : Int)) := by rw [HOO.out]; exact C1.out.1.cell_at 10 _ rfl
      have z14 : ((w.alloc (.cells #[.int .i64 kk, .int .u8 (bb : Int)] 36)).setCell ⟨p, 13, none⟩ (.bool false)).cell? ⟨p, 14, none⟩ = some (.bool bu) := by
       have h0 := C1.out.1.cell_at 14 (.bool j.busy) rfl
       rw [← HBU.out] at h0
       exact h0
      have q0 : ((w.alloc (.cells #[.int .i64 kk, .int .u8 (bb : Int)] 36)).setCell ⟨p, 13, none⟩ (.bool false)).cell? ⟨w.heap.size, 0, none⟩ = some (.int .i64 kk) := (Z0.out.setCell_other (p := ⟨p, 13, none⟩) (fun e => NP.out e.symm) _).cell_at 0 _ rfl
      have q1 : ((w.alloc (.cells #[.int .i64 kk, .int .u8 (bb : Int)] 36)).setCell ⟨p, 13, none⟩ (.bool false)).cell? ⟨w.heap.size, 1, none⟩ = some (.int .u8 (bb : Int)) := (Z0.out.setCell_other (p := ⟨p, 13, none⟩) (fun e => NP.out e.symm) _).cell_at 1 _ rfl
      go_enter Try.func21, Try.ntmps21
      go_wp2
      go_ret
      rw [HR.out]
      exact ⟨rfl, ⟨ρ, m, (C1.out).1, (C1.out).2.1, I0.out, fun k hk => N0.out k (Nat.le_trans (C1.out).2.2.size hk)⟩, C1.out.2.2⟩
     ·
      skip
      have bo0 : (((o : Nat) : Int) == 0) = false := by simp; omega
      have jo0 : (((o : Nat) : Int) = 0) = False := eq_false (by omega)
      have ko0 : (o = 0) = False := eq_false (by omega)
      have do0 : decide (((o : Nat) : Int) = 0) = false := decide_eq_false (by omega)
      have qo0 : (((o : Nat) : Int) != 0) = true := by simp; omega
      cases bu with
      | true =>
       have a1 : (kk == 1) = false := by simp; omega
       have aj1 : (kk = 1) = False := eq_false (by omega)
       have ad1 : decide (kk = 1) = false := decide_eq_false (by omega)
       have a2 : (kk == 2) = false := by simp; omega
       have aj2 : (kk = 2) = False := eq_false (by omega)
       have ad2 : decide (kk = 2) = false := decide_eq_false (by omega)
       have a3 : (kk == 3) = true := by simp; omega
       have aj3 : (kk = 3) = True := eq_true (by omega)
       have ad3 : decide (kk = 3) = true := decide_eq_true (by omega)
       have a4 : (kk == 4) = false := by simp; omega
       have aj4 : (kk = 4) = False := eq_false (by omega)
       have ad4 : decide (kk = 4) = false := decide_eq_false (by omega)
       have E1 : (j.pol && decide (kk = 4)) = false := by rw [← HPL.out, ad4]; rfl
       have E2 : ((false || false) || (decide (kk = 1) && decide (bb = 112))) = false := by rw [ad1]; rfl
       have E3 : j.rtakes g kk bb = Jd.rtk g ({ j with pol := false } : Jd) false kk bb := by unfold Jd.rtakes; rw [E1]; rw [Bool.false_or] at E2; rw [E2]
       have HR := Lib.hid (show j.rtakes g kk bb = (false, ({ j with pol := false } : Jd)) by rw [E3]; unfold Jd.rtk; rw [if_neg (fun h => by omega), if_neg (show ¬ j.op = 0 by have := HOO.out; omega), if_neg (fun h => by omega), if_neg (by decide), if_pos (show j.busy = true from HBU.out.symm)])
       clear E1 E2 E3 h1 h2 h3 ho
       have f13 := CA.out.1.frozen 13
       have S1 := Lib.hid (CA.out.1.setCell 13 (.bool false))
       have S1K := Lib.hid ((Btw.refl (I := fun k => k = p) (w.alloc (.cells #[.int .i64 kk, .int .u8 (bb : Int)] 36))).setCell (p := ⟨p, 13, none⟩) (v := .bool false) rfl)
       have C1 := Lib.hid (show CRow ((w.alloc (.cells #[.int .i64 kk, .int .u8 (bb : Int)] 36)).setCell ⟨p, 13, none⟩ (.bool false)) p 41 (rjCells g ({ j with pol := false } : Jd) m) ∧ RjR ρ ((w.alloc (.cells #[.int .i64 kk, .int .u8 (bb : Int)] 36)).setCell ⟨p, 13, none⟩ (.bool false)) p g ({ j with pol := false } : Jd) m ∧ Btw I w ((w.alloc (.cells #[.int .i64 kk, .int .u8 (bb : Int)] 36)).setCell ⟨p, 13, none⟩ (.bool false)) from
        ⟨by have h0 := S1.out; simpa [rjCells] using h0, (fun (h : RjR ρ _ p g j m) => ({ h with  } : RjR ρ _ p g ({ j with pol := false } : Jd) m)) (CA.out.2.1.btw S1K.out fun k e => .inr (by have e : k = p := e; rw [e]; exact CA.out.2.1.rp)), CA.out.2.2.trans S1K.out fun k _ e => I0.out k (by have e : k = p := e; rw [e, CA.out.2.1.rp]; decide)⟩)
       have z10 : ((w.alloc (.cells #[.int .i64 kk, .int .u8 (bb : Int)] 36)).setCell ⟨p, 13, none⟩ (.bool false)).cell? ⟨p, 10, none⟩ = some (.int .i64 (o : Int)) := by rw [HOO.out]; exact C1.out.1.cell_at 10 _ rfl
       have z14 : ((w.alloc (.cells #[.int .i64 kk, .int .u8 (bb : Int)] 36)).setCell ⟨p, 13, none⟩ (.bool false)).cell? ⟨p, 14, none⟩ = some (.bool true) := by
        have h0 := C1.out.1.cell_at 14 (.bool j.busy) rfl
        rw [← HBU.out] at h0
        exact h0
       have q0 : ((w.alloc (.cells #[.int .i64 kk, .int .u8 (bb : Int)] 36)).setCell ⟨p, 13, none⟩ (.bool false)).cell? ⟨w.heap.size, 0, none⟩ = some (.int .i64 kk) := (Z0.out.setCell_other (p := ⟨p, 13, none⟩) (fun e => NP.out e.symm) _).cell_at 0 _ rfl
       have q1 : ((w.alloc (.cells #[.int .i64 kk, .int .u8 (bb : Int)] 36)).setCell ⟨p, 13, none⟩ (.bool false)).cell? ⟨w.heap.size, 1, none⟩ = some (.int .u8 (bb : Int)) := (Z0.out.setCell_other (p := ⟨p, 13, none⟩) (fun e => NP.out e.symm) _).cell_at 1 _ rfl
       go_enter Try.func21, Try.ntmps21
       go_wp2
       go_ret
       rw [HR.out]
       exact ⟨rfl, ⟨ρ, m, (C1.out).1, (C1.out).2.1, I0.out, fun k hk => N0.out k (Nat.le_trans (C1.out).2.2.size hk)⟩, C1.out.2.2⟩
      | false =>
       have a1 : (kk == 1) = false := by simp; omega
       have aj1 : (kk = 1) = False := eq_false (by omega)
       have ad1 : decide (kk = 1) = false := decide_eq_false (by omega)
       have a2 : (kk == 2) = false := by simp; omega
       have aj2 : (kk = 2) = False := eq_false (by omega)
       have ad2 : decide (kk = 2) = false := decide_eq_false (by omega)
       have a3 : (kk == 3) = true := by simp; omega
       have aj3 : (kk = 3) = True := eq_true (by omega)
       have ad3 : decide (kk = 3) = true := decide_eq_true (by omega)
       have a4 : (kk == 4) = false := by simp; omega
       have aj4 : (kk = 4) = False := eq_false (by omega)
       have ad4 : decide (kk = 4) = false := decide_eq_false (by omega)
       have E1 : (j.pol && decide (kk = 4)) = false := by rw [← HPL.out, ad4]; rfl
       have E2 : ((false || false) || (decide (kk = 1) && decide (bb = 112))) = false := by rw [ad1]; rfl
       have E3 : j.rtakes g kk bb = Jd.rtk g ({ j with pol := false } : Jd) false kk bb := by unfold Jd.rtakes; rw [E1]; rw [Bool.false_or] at E2; rw [E2]
       have HR := Lib.hid (show j.rtakes g kk bb = ({ j with pol := false } : Jd).rwrite g by rw [E3]; unfold Jd.rtk; rw [if_neg (fun h => by omega), if_neg (show ¬ j.op = 0 by have := HOO.out; omega), if_neg (fun h => by omega), if_neg (by decide), if_neg (show ¬ j.busy = true by rw [← HBU.out]; decide), if_neg (by omega), if_neg (by omega), if_pos (by omega)])
       clear E1 E2 E3 h1 h2 h3 ho
       have f13 := CA.out.1.frozen 13
       have S1 := Lib.hid (CA.out.1.setCell 13 (.bool false))
       have S1K := Lib.hid ((Btw.refl (I := fun k => k = p) (w.alloc (.cells #[.int .i64 kk, .int .u8 (bb : Int)] 36))).setCell (p := ⟨p, 13, none⟩) (v := .bool false) rfl)
       have C1 := Lib.hid (show CRow ((w.alloc (.cells #[.int .i64 kk, .int .u8 (bb : Int)] 36)).setCell ⟨p, 13, none⟩ (.bool false)) p 41 (rjCells g ({ j with pol := false } : Jd) m) ∧ RjR ρ ((w.alloc (.cells #[.int .i64 kk, .int .u8 (bb : Int)] 36)).setCell ⟨p, 13, none⟩ (.bool false)) p g ({ j with pol := false } : Jd) m ∧ Btw I w ((w.alloc (.cells #[.int .i64 kk, .int .u8 (bb : Int)] 36)).setCell ⟨p, 13, none⟩ (.bool false)) from
        ⟨by have h0 := S1.out; simpa [rjCells] using h0, (fun (h : RjR ρ _ p g j m) => ({ h with  } : RjR ρ _ p g ({ j with pol := false } : Jd) m)) (CA.out.2.1.btw S1K.out fun k e => .inr (by have e : k = p := e; rw [e]; exact CA.out.2.1.rp)), CA.out.2.2.trans S1K.out fun k _ e => I0.out k (by have e : k = p := e; rw [e, CA.out.2.1.rp]; decide)⟩)
       have z10 : ((w.alloc (.cells #[.int .i64 kk, .int .u8 (bb : Int)] 36)).setCell ⟨p, 13, none⟩ (.bool false)).cell? ⟨p, 10, none⟩ = some (.int .i64 (o : Int)) := by rw [HOO.out]; exact C1.out.1.cell_at 10 _ rfl
       have z14 : ((w.alloc (.cells #[.int .i64 kk, .int .u8 (bb : Int)] 36)).setCell ⟨p, 13, none⟩ (.bool false)).cell? ⟨p, 14, none⟩ = some (.bool false) := by
        have h0 := C1.out.1.cell_at 14 (.bool j.busy) rfl
        rw [← HBU.out] at h0
        exact h0
       have q0 : ((w.alloc (.cells #[.int .i64 kk, .int .u8 (bb : Int)] 36)).setCell ⟨p, 13, none⟩ (.bool false)).cell? ⟨w.heap.size, 0, none⟩ = some (.int .i64 kk) := (Z0.out.setCell_other (p := ⟨p, 13, none⟩) (fun e => NP.out e.symm) _).cell_at 0 _ rfl
       have q1 : ((w.alloc (.cells #[.int .i64 kk, .int .u8 (bb : Int)] 36)).setCell ⟨p, 13, none⟩ (.bool false)).cell? ⟨w.heap.size, 1, none⟩ = some (.int .u8 (bb : Int)) := (Z0.out.setCell_other (p := ⟨p, 13, none⟩) (fun e => NP.out e.symm) _).cell_at 1 _ rfl
       have HX := Lib.hid (rwrite (j := ({ j with pol := false } : Jd)) (HK.out.polled _).ln (HK.out.polled _).cn (HK.out.polled _).cl ⟨ρ, m, (C1.out).1, (C1.out).2.1, I0.out, fun k hk => N0.out k (Nat.le_trans (C1.out).2.2.size hk)⟩)
       obtain ⟨z, hz⟩ : ∃ z, z = ({ j with pol := false } : Jd).rwrite g := ⟨_, rfl⟩
       rw [← hz] at HX HR
       clear hz
       obtain ⟨v, jz⟩ := z
       simp only at HX HR
       go_enter Try.func21, Try.ntmps21
       go_wp2_with fail
       clear x13 y0 y1 q0 q1 z10 z14 f13
       refine HX.out.mono ?_
       rintro _ w2 ⟨rfl, h2, b2⟩
       have H2 := Lib.hid h2
       have B2 := Lib.hid (C1.out.2.2.trans b2 fun _ _ h => h)
       clear h2 b2 HX
       go_wp2
       go_ret
       rw [HR.out]
       exact ⟨rfl, H2.out, B2.out⟩
    ·
     by_cases h4 : kk = 4
     ·
      skip
      by_cases ho : o = 0
      ·
       skip
       have bo0 : (((o : Nat) : Int) == 0) = true := by simp; omega
       have jo0 : (((o : Nat) : Int) = 0) = True := eq_true (by omega)
       have ko0 : (o = 0) = True := eq_true (by omega)
       have do0 : decide (((o : Nat) : Int) = 0) = true := decide_eq_true (by omega)
       have qo0 : (((o : Nat) : Int) != 0) = false := by simp; omega
       have a1 : (kk == 1) = false := by simp; omega
       have aj1 : (kk = 1) = False := eq_false (by omega)
       have ad1 : decide (kk = 1) = false := decide_eq_false (by omega)
       have a2 : (kk == 2) = false := by simp; omega
       have aj2 : (kk = 2) = False := eq_false (by omega)
       have ad2 : decide (kk = 2) = false := decide_eq_false (by omega)
       have a3 : (kk == 3) = false := by simp; omega
       have aj3 : (kk = 3) = False := eq_false (by omega)
       have ad3 : decide (kk = 3) = false := decide_eq_false (by omega)
       have a4 : (kk == 4) = true := by simp; omega
       have aj4 : (kk = 4) = True := eq_true (by omega)
       have ad4 : decide (kk = 4) = true := decide_eq_true (by omega)
       have E1 : (j.pol && decide (kk = 4)) = false := by rw [← HPL.out, ad4]; rfl
       have E2 : ((false || false) || (decide (kk = 1) && decide (bb = 112))) = false := by rw [ad1]; rfl
       have E3 : j.rtakes g kk bb = Jd.rtk g ({ j with pol := false } : Jd) false kk bb := by unfold Jd.rtakes; rw [E1]; rw [Bool.false_or] at E2; rw [E2]
       have HR := Lib.hid (show j.rtakes g kk bb = (false, ({ j with pol := false } : Jd)) by rw [E3]; unfold Jd.rtk; rw [if_neg (fun h => by omega), if_pos (show j.op = 0 by have := HOO.out; omega)])
       clear E1 E2 E3 h1 h2 h3 h4 ho
       have f13 := CA.out.1.frozen 13
       have S1 := Lib.hid (CA.out.1.setCell 13 (.bool false))
       have S1K := Lib.hid ((Btw.refl (I := fun k => k = p) (w.alloc (.cells #[.int .i64 kk, .int .u8 (bb : Int)] 36))).setCell (p := ⟨p, 13, none⟩) (v := .bool false) rfl)
       have C1 := Lib.hid (show CRow ((w.alloc (.cells #[.int .i64 kk, .int .u8 (bb : Int)] 36)).setCell ⟨p, 13, none⟩ (.bool false)) p 41 (rjCells g ({ j with pol := false } : Jd) m) ∧ RjR ρ ((w.alloc (.cells #[.int .i64 kk, .int .u8 (bb : Int)] 36)).setCell ⟨p, 13, none⟩ (.bool false)) p g ({ j with pol := false } : Jd) m ∧ Btw I w ((w.alloc (.cells #[.int .i64 kk, .int .u8 (bb : Int)] 36)).setCell ⟨p, 13, none⟩ (.bool false)) from
        ⟨by have h0 := S1.out; simpa [rjCells] using h0, (fun (h : RjR ρ _ p g j m) => ({ h with  } : RjR ρ _ p g ({ j with pol := false } : Jd) m)) (CA.out.2.1.btw S1K.out fun k e => .inr (by have e : k = p := e; rw [e]; exact CA.out.2.1.rp)), CA.out.2.2.trans S1K.out fun k _ e => I0.out k (by have e : k = p := e; rw [e, CA.out.2.1.rp]; decide)⟩)
       have z10 : ((w.alloc (.cells #[.int .i64 kk, .int .u8 (bb : Int)] 36)).setCell ⟨p, 13, none⟩ (.bool false)).cell? ⟨p, 10, none⟩ = some (.int .i64 (o : Int)) := by rw [HOO.out]; exact C1.out.1.cell_at 10 _ rfl
       have z14 : ((w.alloc (.cells #[.int .i64 kk, .int .u8 (bb : Int)] 36)).setCell ⟨p, 13, none⟩ (.bool false)).cell? ⟨p, 14, none⟩ = some (.bool bu) := by
        have h0 := C1.out.1.cell_at 14 (.bool j.busy) rfl
        rw [← HBU.out] at h0
        exact h0
       have q0 : ((w.alloc (.cells #[.int .i64 kk, .int .u8 (bb : Int)] 36)).setCell ⟨p, 13, none⟩ (.bool false)).cell? ⟨w.heap.size, 0, none⟩ = some (.int .i64 kk) := (Z0.out.setCell_other (p := ⟨p, 13, none⟩) (fun e => NP.out e.symm) _).cell_at 0 _ rfl
       have q1 : ((w.alloc (.cells #[.int .i64 kk, .int .u8 (bb : Int)] 36)).setCell ⟨p, 13, none⟩ (.bool false)).cell? ⟨w.heap.size, 1, none⟩ = some (.int .u8 (bb : Int)) := (Z0.out.setCell_other (p := ⟨p, 13, none⟩) (fun e => NP.out e.symm) _).cell_at 1 _ rfl
       go_enter Try.func21, Try.ntmps21
       go_wp2
       go_ret
       rw [HR.out]
       exact ⟨rfl, ⟨ρ, m, (C1.out).1, (C1.out).2.1, I0.out, fun k hk => N0.out k (Nat.le_trans (C1.out).2.2.size hk)⟩, C1.out.2.2⟩
      ·
       skip
       have bo0 : (((o : Nat) : Int) == 0) = false := by simp; omega
       have jo0 : (((o : Nat) : Int) = 0) = False := eq_false (by omega)
       have ko0 : (o = 0) = False := eq_false (by omega)
       have do0 : decide (((o : Nat) : Int) = 0) = false := decide_eq_false (by omega)
       have qo0 : (((o : Nat) : Int) != 0) = true := by simp; omega
       cases bu with
       | true =>
        have a1 : (kk == 1) = false := by simp; omega
        have aj1 : (kk = 1) = False := eq_false (by omega)
        have ad1 : decide (kk = 1) = false := decide_eq_false (by omega)
        have a2 : (kk == 2) = false := by simp; omega
        have aj2 : (kk = 2) = False := eq_false (by omega)
        have ad2 : decide (kk = 2) = false := decide_eq_false (by omega)
        have a3 : (kk == 3) = false := by simp; omega
        have aj3 : (kk = 3) = False := eq_false (by omega)
        have ad3 : decide (kk = 3) = false := decide_eq_false (by omega)
        have a4 : (kk == 4) = true := by simp; omega
        have aj4 : (kk = 4) = True := eq_true (by omega)
        have ad4 : decide (kk = 4) = true := decide_eq_true (by omega)
        have E1 : (j.pol && decide (kk = 4)) = false := by rw [← HPL.out, ad4]; rfl
        have E2 : ((false || false) || (decide (kk = 1) && decide (bb = 112))) = false := by rw [ad1]; rfl
        have E3 : j.rtakes g kk bb = Jd.rtk g ({ j with pol := false } : Jd) false kk bb := by unfold Jd.rtakes; rw [E1]; rw [Bool.false_or] at E2; rw [E2]
        have HR := Lib.hid (show j.rtakes g kk bb = (false, ({ j with pol := false } : Jd)) by rw [E3]; unfold Jd.rtk; rw [if_neg (fun h => by omega), if_neg (show ¬ j.op = 0 by have := HOO.out; omega), if_neg (fun h => by omega), if_neg (by decide), if_pos (show j.busy = true from HBU.out.symm)])
        clear E1 E2 E3 h1 h2 h3 h4 ho
        have f13 := CA.out.1.frozen 13
        have S1 := Lib.hid (CA.out.1.setCell 13 (.bool false))
        have S1K := Lib.hid ((Btw.refl (I := fun k => k = p) (w.alloc (.cells #[.int .i64 kk, .int .u8 (bb : Int)] 36))).setCell (p := ⟨p, 13, none⟩) (v := .bool false) rfl)
        have C1 := Lib.hid (show CRow ((w.alloc (.cells #[.int .i64 kk, .int .u8 (bb : Int)] 36)).setCell ⟨p, 13, none⟩ (.bool false)) p 41 (rjCells g ({ j with pol := false } : Jd) m) ∧ RjR ρ ((w.alloc (.cells #[.int .i64 kk, .int .u8 (bb : Int)] 36)).setCell ⟨p, 13, none⟩ (.bool false)) p g ({ j with pol := false } : Jd) m ∧ Btw I w ((w.alloc (.cells #[.int .i64 kk, .int .u8 (bb : Int)] 36)).setCell ⟨p, 13, none⟩ (.bool false)) from
         ⟨by have h0 := S1.out; simpa [rjCells] using h0, (fun (h : RjR ρ _ p g j m) => ({ h with  } : RjR ρ _ p g ({ j with pol := false } : Jd) m)) (CA.out.2.1.btw S1K.out fun k e => .inr (by have e : k = p := e; rw [e]; exact CA.out.2.1.rp)), CA.out.2.2.trans S1K.out fun k _ e => I0.out k (by have e : k = p := e; rw [e, CA.out.2.1.rp]; decide)⟩)
        have z10 : ((w.alloc (.cells #[.int .i64 kk, .int .u8 (bb : Int)] 36)).setCell ⟨p, 13, none⟩ (.bool false)).cell? ⟨p, 10, none⟩ = some (.int .i64 (o : Int)) := by rw [HOO.out]; exact C1.out.1.cell_at 10 _ rfl
        have z14 : ((w.alloc (.cells #[.int .i64 kk, .int .u8 (bb : Int)] 36)).setCell ⟨p, 13, none⟩ (.bool false)).cell? ⟨p, 14, none⟩ = some (.bool true) := by
         have h0 := C1.out.1.cell_at 14 (.bool j.busy) rfl
         rw [← HBU.out] at h0
         exact h0
        have q0 : ((w.alloc (.cells #[.int .i64 kk, .int .u8 (bb : Int)] 36)).setCell ⟨p, 13, none⟩ (.bool false)).cell? ⟨w.heap.size, 0, none⟩ = some (.int .i64 kk) := (Z0.out.setCell_other (p := ⟨p, 13, none⟩) (fun e => NP.out e.symm) _).cell_at 0 _ rfl
        have q1 : ((w.alloc (.cells #[.int .i64 kk, .int .u8 (bb : Int)] 36)).setCell ⟨p, 13, none⟩ (.bool false)).cell? ⟨w.heap.size, 1, none⟩ = some (.int .u8 (bb : Int)) := (Z0.out.setCell_other (p := ⟨p, 13, none⟩) (fun e => NP.out e.symm) _).cell_at 1 _ rfl
        go_enter Try.func21, Try.ntmps21
        go_wp2
        go_ret
        rw [HR.out]
        exact ⟨rfl, ⟨ρ, m, (C1.out).1, (C1.out).2.1, I0.out, fun k hk => N0.out k (Nat.le_trans (C1.out).2.2.size hk)⟩, C1.out.2.2⟩
       | false =>
        have a1 : (kk == 1) = false := by simp; omega
        have aj1 : (kk = 1) = False := eq_false (by omega)
        have ad1 : decide (kk = 1) = false := decide_eq_false (by omega)
        have a2 : (kk == 2) = false := by simp; omega
        have aj2 : (kk = 2) = False := eq_false (by omega)
        have ad2 : decide (kk = 2) = false := decide_eq_false (by omega)
        have a3 : (kk == 3) = false := by simp; omega
        have aj3 : (kk = 3) = False := eq_false (by omega)
        have ad3 : decide (kk = 3) = false := decide_eq_false (by omega)
        have a4 : (kk == 4) = true := by simp; omega
        have aj4 : (kk = 4) = True := eq_true (by omega)
        have ad4 : decide (kk = 4) = true := decide_eq_true (by omega)
        have E1 : (j.pol && decide (kk = 4)) = false := by rw [← HPL.out, ad4]; rfl
        have E2 : ((false || false) || (decide (kk = 1) && decide (bb = 112))) = false := by rw [ad1]; rfl
        have E3 : j.rtakes g kk bb = Jd.rtk g ({ j with pol := false } : Jd) false kk bb := by unfold Jd.rtakes; rw [E1]; rw [Bool.false_or] at E2; rw [E2]
        have HR := Lib.hid (show j.rtakes g kk bb = ({ j with pol := false } : Jd).rread g by rw [E3]; unfold Jd.rtk; rw [if_neg (fun h => by omega), if_neg (show ¬ j.op = 0 by have := HOO.out; omega), if_neg (fun h => by omega), if_neg (by decide), if_neg (show ¬ j.busy = true by rw [← HBU.out]; decide), if_neg (by omega), if_neg (by omega), if_neg (by omega), if_pos (by omega)])
        clear E1 E2 E3 h1 h2 h3 h4 ho
        have f13 := CA.out.1.frozen 13
        have S1 := Lib.hid (CA.out.1.setCell 13 (.bool false))
        have S1K := Lib.hid ((Btw.refl (I := fun k => k = p) (w.alloc (.cells #[.int .i64 kk, .int .u8 (bb : Int)] 36))).setCell (p := ⟨p, 13, none⟩) (v := .bool false) rfl)
        have C1 := Lib.hid (show CRow ((w.alloc (.cells #[.int .i64 kk, .int .u8 (bb : Int)] 36)).setCell ⟨p, 13, none⟩ (.bool false)) p 41 (rjCells g ({ j with pol := false } : Jd) m) ∧ RjR ρ ((w.alloc (.cells #[.int .i64 kk, .int .u8 (bb : Int)] 36)).setCell ⟨p, 13, none⟩ (.bool false)) p g ({ j with pol := false } : Jd) m ∧ Btw I w ((w.alloc (.cells #[.int .i64 kk, .int .u8 (bb : Int)] 36)).setCell ⟨p, 13, none⟩ (.bool false)) from
         ⟨by have h0 := S1.out; simpa [rjCells] using h0, (fun (h : RjR ρ _ p g j m) => ({ h with  } : RjR ρ _ p g ({ j with pol := false } : Jd) m)) (CA.out.2.1.btw S1K.out fun k e => .inr (by have e : k = p := e; rw [e]; exact CA.out.2.1.rp)), CA.out.2.2.trans S1K.out fun k _ e => I0.out k (by have e : k = p := e; rw [e, CA.out.2.1.rp]; decide)⟩)
        have z10 : ((w.alloc (.cells #[.int .i64 kk, .int .u8 (bb : Int)] 36)).setCell ⟨p, 13, none⟩ (.bool false)).cell? ⟨p, 10, none⟩ = some (.int .i64 (o : Int)) := by rw [HOO.out]; exact C1.out.1.cell_at 10 _ rfl
        have z14 : ((w.alloc (.cells #[.int .i64 kk, .int .u8 (bb : Int)] 36)).setCell ⟨p, 13, none⟩ (.bool false)).cell? ⟨p, 14, none⟩ = some (.bool false) := by
         have h0 := C1.out.1.cell_at 14 (.bool j.busy) rfl
         rw [← HBU.out] at h0
         exact h0
        have q0 : ((w.alloc (.cells #[.int .i64 kk, .int .u8 (bb : Int)] 36)).setCell ⟨p, 13, none⟩ (.bool false)).cell? ⟨w.heap.size, 0, none⟩ = some (.int .i64 kk) := (Z0.out.setCell_other (p := ⟨p, 13, none⟩) (fun e => NP.out e.symm) _).cell_at 0 _ rfl
        have q1 : ((w.alloc (.cells #[.int .i64 kk, .int .u8 (bb : Int)] 36)).setCell ⟨p, 13, none⟩ (.bool false)).cell? ⟨w.heap.size, 1, none⟩ = some (.int .u8 (bb : Int)) := (Z0.out.setCell_other (p := ⟨p, 13, none⟩) (fun e => NP.out e.symm) _).cell_at 1 _ rfl
        have HX := Lib.hid (rread (j := ({ j with pol := false } : Jd)) (HK.out.polled _).ln (HK.out.polled _).cn (HK.out.polled _).cl ⟨ρ, m, (C1.out).1, (C1.out).2.1, I0.out, fun k hk => N0.out k (Nat.le_trans (C1.out).2.2.size hk)⟩)
        obtain ⟨z, hz⟩ : ∃ z, z = ({ j with pol := false } : Jd).rread g := ⟨_, rfl⟩
        rw [← hz] at HX HR
        clear hz
        obtain ⟨v, jz⟩ := z
        simp only at HX HR
        go_enter Try.func21, Try.ntmps21
        go_wp2_with fail
        clear x13 y0 y1 q0 q1 z10 z14 f13
        refine HX.out.mono ?_
        rintro _ w2 ⟨rfl, h2, b2⟩
        have H2 := Lib.hid h2
        have B2 := Lib.hid (C1.out.2.2.trans b2 fun _ _ h => h)
        clear h2 b2 HX
        go_wp2
        go_ret
        rw [HR.out]
        exact ⟨rfl, H2.out, B2.out⟩
     ·
      skip
      by_cases ho : o = 0
      ·
       skip
       have bo0 : (((o : Nat) : Int) == 0) = true := by simp; omega
       have jo0 : (((o : Nat) : Int) = 0) = True := eq_true (by omega)
       have ko0 : (o = 0) = True := eq_true (by omega)
       have do0 : decide (((o : Nat) : Int) = 0) = true := decide_eq_true (by omega)
       have qo0 : (((o : Nat) : Int) != 0) = false := by simp; omega
       have a1 : (kk == 1) = false := by simp; omega
       have aj1 : (kk = 1) = False := eq_false (by omega)
       have ad1 : decide (kk = 1) = false := decide_eq_false (by omega)
       have a2 : (kk == 2) = false := by simp; omega
       have aj2 : (kk = 2) = False := eq_false (by omega)
       have ad2 : decide (kk = 2) = false := decide_eq_false (by omega)
       have a3 : (kk == 3) = false := by simp; omega
       have aj3 : (kk = 3) = False := eq_false (by omega)
       have ad3 : decide (kk = 3) = false := decide_eq_false (by omega)
       have a4 : (kk == 4) = false := by simp; omega
       have aj4 : (kk = 4) = False := eq_false (by omega)
       have ad4 : decide (kk = 4) = false := decide_eq_false (by omega)
       have E1 : (j.pol && decide (kk = 4)) = false := by rw [← HPL.out, ad4]; rfl
       have E2 : ((false || false) || (decide (kk = 1) && decide (bb = 112))) = false := by rw [ad1]; rfl
       have E3 : j.rtakes g kk bb = Jd.rtk g ({ j with pol := false } : Jd) false kk bb := by unfold Jd.rtakes; rw [E1]; rw [Bool.false_or] at E2; rw [E2]
       have HR := Lib.hid (show j.rtakes g kk bb = (false, ({ j with pol := false } : Jd)) by rw [E3]; unfold Jd.rtk; rw [if_neg (fun h => by omega), if_pos (show j.op = 0 by have := HOO.out; omega)])
       clear E1 E2 E3 h1 h2 h3 h4 ho
       have f13 := CA.out.1.frozen 13
       have S1 := Lib.hid (CA.out.1.setCell 13 (.bool false))
       have S1K := Lib.hid ((Btw.refl (I := fun k => k = p) (w.alloc (.cells #[.int .i64 kk, .int .u8 (bb : Int)] 36))).setCell (p := ⟨p, 13, none⟩) (v := .bool false) rfl)
       have C1 := Lib.hid (show CRow ((w.alloc (.cells #[.int .i64 kk, .int .u8 (bb : Int)] 36)).setCell ⟨p, 13, none⟩ (.bool false)) p 41 (rjCells g ({ j with pol := false } : Jd) m) ∧ RjR ρ ((w.alloc (.cells #[.int .i64 kk, .int .u8 (bb : Int)] 36)).setCell ⟨p, 13, none⟩ (.bool false)) p g ({ j with pol := false } : Jd) m ∧ Btw I w ((w.alloc (.cells #[.int .i64 kk, .int .u8 (bb : Int)] 36)).setCell ⟨p, 13, none⟩ (.bool false)) from
        ⟨by have h0 := S1.out; simpa [rjCells] using h0, (fun (h : RjR ρ _ p g j m) => ({ h with  } : RjR ρ _ p g ({ j with pol := false } : Jd) m)) (CA.out.2.1.btw S1K.out fun k e => .inr (by have e : k = p := e; rw [e]; exact CA.out.2.1.rp)), CA.out.2.2.trans S1K.out fun k _ e => I0.out k (by have e : k = p := e; rw [e, CA.out.2.1.rp]; decide)⟩)
       have z10 : ((w.alloc (.cells #[.int .i64 kk, .int .u8 (bb : Int)] 36)).setCell ⟨p, 13, none⟩ (.bool false)).cell? ⟨p, 10, none⟩ = some (.int .i64 (o : Int)) := by rw [HOO.out]; exact C1.out.1.cell_at 10 _ rfl
       have z14 : ((w.alloc (.cells #[.int .i64 kk, .int .u8 (bb : Int)] 36)).setCell ⟨p, 13, none⟩ (.bool false)).cell? ⟨p, 14, none⟩ = some (.bool bu) := by
        have h0 := C1.out.1.cell_at 14 (.bool j.busy) rfl
        rw [← HBU.out] at h0
        exact h0
       have q0 : ((w.alloc (.cells #[.int .i64 kk, .int .u8 (bb : Int)] 36)).setCell ⟨p, 13, none⟩ (.bool false)).cell? ⟨w.heap.size, 0, none⟩ = some (.int .i64 kk) := (Z0.out.setCell_other (p := ⟨p, 13, none⟩) (fun e => NP.out e.symm) _).cell_at 0 _ rfl
       have q1 : ((w.alloc (.cells #[.int .i64 kk, .int .u8 (bb : Int)] 36)).setCell ⟨p, 13, none⟩ (.bool false)).cell? ⟨w.heap.size, 1, none⟩ = some (.int .u8 (bb : Int)) := (Z0.out.setCell_other (p := ⟨p, 13, none⟩) (fun e => NP.out e.symm) _).cell_at 1 _ rfl
       go_enter Try.func21, Try.ntmps21
       go_wp2
       go_ret
       rw [HR.out]
       exact ⟨rfl, ⟨ρ, m, (C1.out).1, (C1.out).2.1, I0.out, fun k hk => N0.out k (Nat.le_trans (C1.out).2.2.size hk)⟩, C1.out.2.2⟩
      ·
       skip
       have bo0 : (((o : Nat) : Int) == 0) = false := by simp; omega
       have jo0 : (((o : Nat) : Int) = 0) = False := eq_false (by omega)
       have ko0 : (o = 0) = False := eq_false (by omega)
       have do0 : decide (((o : Nat) : Int) = 0) = false := decide_eq_false (by omega)
       have qo0 : (((o : Nat) : Int) != 0) = true := by simp; omega
       cases bu with
       | true =>
        have a1 : (kk == 1) = false := by simp; omega
        have aj1 : (kk = 1) = False := eq_false (by omega)
        have ad1 : decide (kk = 1) = false := decide_eq_false (by omega)
        have a2 : (kk == 2) = false := by simp; omega
        have aj2 : (kk = 2) = False := eq_false (by omega)
        have ad2 : decide (kk = 2) = false := decide_eq_false (by omega)
        have a3 : (kk == 3) = false := by simp; omega
        have aj3 : (kk = 3) = False := eq_false (by omega)
        have ad3 : decide (kk = 3) = false := decide_eq_false (by omega)
        have a4 : (kk == 4) = false := by simp; omega
        have aj4 : (kk = 4) = False := eq_false (by omega)
        have ad4 : decide (kk = 4) = false := decide_eq_false (by omega)
        have E1 : (j.pol && decide (kk = 4)) = false := by rw [← HPL.out, ad4]; rfl
        have E2 : ((false || false) || (decide (kk = 1) && decide (bb = 112))) = false := by rw [ad1]; rfl
        have E3 : j.rtakes g kk bb = Jd.rtk g ({ j with pol := false } : Jd) false kk bb := by unfold Jd.rtakes; rw [E1]; rw [Bool.false_or] at E2; rw [E2]
        have HR := Lib.hid (show j.rtakes g kk bb = (false, ({ j with pol := false } : Jd)) by rw [E3]; unfold Jd.rtk; rw [if_neg (fun h => by omega), if_neg (show ¬ j.op = 0 by have := HOO.out; omega), if_neg (fun h => by omega), if_neg (by decide), if_pos (show j.busy = true from HBU.out.symm)])
        clear E1 E2 E3 h1 h2 h3 h4 ho
        have f13 := CA.out.1.frozen 13
        have S1 := Lib.hid (CA.out.1.setCell 13 (.bool false))
        have S1K := Lib.hid ((Btw.refl (I := fun k => k = p) (w.alloc (.cells #[.int .i64 kk, .int .u8 (bb : Int)] 36))).setCell (p := ⟨p, 13, none⟩) (v := .bool false) rfl)
        have C1 := Lib.hid (show CRow ((w.alloc (.cells #[.int .i64 kk, .int .u8 (bb : Int)] 36)).setCell ⟨p, 13, none⟩ (.bool false)) p 41 (rjCells g ({ j with pol := false } : Jd) m) ∧ RjR ρ ((w.alloc (.cells #[.int .i64 kk, .int .u8 (bb : Int)] 36)).setCell ⟨p, 13, none⟩ (.bool false)) p g ({ j with pol := false } : Jd) m ∧ Btw I w ((w.alloc (.cells #[.int .i64 kk, .int .u8 (bb : Int)] 36)).setCell ⟨p, 13, none⟩ (.bool false)) from
         ⟨by have h0 := S1.out; simpa [rjCells] using h0, (fun (h : RjR ρ _ p g j m) => ({ h with  } : RjR ρ _ p g ({ j with pol := false } : Jd) m)) (CA.out.2.1.btw S1K.out fun k e => .inr (by have e : k = p := e; rw [e]; exact CA.out.2.1.rp)), CA.out.2.2.trans S1K.out fun k _ e => I0.out k (by have e : k = p := e; rw [e, CA.out.2.1.rp]; decide)⟩)
        have z10 : ((w.alloc (.cells #[.int .i64 kk, .int .u8 (bb : Int)] 36)).setCell ⟨p, 13, none⟩ (.bool false)).cell? ⟨p, 10, none⟩ = some (.int .i64 (o : Int)) := by rw [HOO.out]; exact C1.out.1.cell_at 10 _ rfl
        have z14 : ((w.alloc (.cells #[.int .i64 kk, .int .u8 (bb : Int)] 36)).setCell ⟨p, 13, none⟩ (.bool false)).cell? ⟨p, 14, none⟩ = some (.bool true) := by
         have h0 := C1.out.1.cell_at 14 (.bool j.busy) rfl
         rw [← HBU.out] at h0
         exact h0
        have q0 : ((w.alloc (.cells #[.int .i64 kk, .int .u8 (bb : Int)] 36)).setCell ⟨p, 13, none⟩ (.bool false)).cell? ⟨w.heap.size, 0, none⟩ = some (.int .i64 kk) := (Z0.out.setCell_other (p := ⟨p, 13, none⟩) (fun e => NP.out e.symm) _).cell_at 0 _ rfl
        have q1 : ((w.alloc (.cells #[.int .i64 kk, .int .u8 (bb : Int)] 36)).setCell ⟨p, 13, none⟩ (.bool false)).cell? ⟨w.heap.size, 1, none⟩ = some (.int .u8 (bb : Int)) := (Z0.out.setCell_other (p := ⟨p, 13, none⟩) (fun e => NP.out e.symm) _).cell_at 1 _ rfl
        go_enter Try.func21, Try.ntmps21
        go_wp2
        go_ret
        rw [HR.out]
        exact ⟨rfl, ⟨ρ, m, (C1.out).1, (C1.out).2.1, I0.out, fun k hk => N0.out k (Nat.le_trans (C1.out).2.2.size hk)⟩, C1.out.2.2⟩
       | false =>
        have a1 : (kk == 1) = false := by simp; omega
        have aj1 : (kk = 1) = False := eq_false (by omega)
        have ad1 : decide (kk = 1) = false := decide_eq_false (by omega)
        have a2 : (kk == 2) = false := by simp; omega
        have aj2 : (kk = 2) = False := eq_false (by omega)
        have ad2 : decide (kk = 2) = false := decide_eq_false (by omega)
        have a3 : (kk == 3) = false := by simp; omega
        have aj3 : (kk = 3) = False := eq_false (by omega)
        have ad3 : decide (kk = 3) = false := decide_eq_false (by omega)
        have a4 : (kk == 4) = false := by simp; omega
        have aj4 : (kk = 4) = False := eq_false (by omega)
        have ad4 : decide (kk = 4) = false := decide_eq_false (by omega)
        have E1 : (j.pol && decide (kk = 4)) = false := by rw [← HPL.out, ad4]; rfl
        have E2 : ((false || false) || (decide (kk = 1) && decide (bb = 112))) = false := by rw [ad1]; rfl
        have E3 : j.rtakes g kk bb = Jd.rtk g ({ j with pol := false } : Jd) false kk bb := by unfold Jd.rtakes; rw [E1]; rw [Bool.false_or] at E2; rw [E2]
        have HR := Lib.hid (show j.rtakes g kk bb = (false, ({ j with pol := false } : Jd)) by rw [E3]; unfold Jd.rtk; rw [if_neg (fun h => by omega), if_neg (show ¬ j.op = 0 by have := HOO.out; omega), if_neg (fun h => by omega), if_neg (by decide), if_neg (show ¬ j.busy = true by rw [← HBU.out]; decide), if_neg (by omega), if_neg (by omega), if_neg (by omega), if_neg (by omega)])
        clear E1 E2 E3 h1 h2 h3 h4 ho
        have f13 := CA.out.1.frozen 13
        have S1 := Lib.hid (CA.out.1.setCell 13 (.bool false))
        have S1K := Lib.hid ((Btw.refl (I := fun k => k = p) (w.alloc (.cells #[.int .i64 kk, .int .u8 (bb : Int)] 36))).setCell (p := ⟨p, 13, none⟩) (v := .bool false) rfl)
        have C1 := Lib.hid (show CRow ((w.alloc (.cells #[.int .i64 kk, .int .u8 (bb : Int)] 36)).setCell ⟨p, 13, none⟩ (.bool false)) p 41 (rjCells g ({ j with pol := false } : Jd) m) ∧ RjR ρ ((w.alloc (.cells #[.int .i64 kk, .int .u8 (bb : Int)] 36)).setCell ⟨p, 13, none⟩ (.bool false)) p g ({ j with pol := false } : Jd) m ∧ Btw I w ((w.alloc (.cells #[.int .i64 kk, .int .u8 (bb : Int)] 36)).setCell ⟨p, 13, none⟩ (.bool false)) from
         ⟨by have h0 := S1.out; simpa [rjCells] using h0, (fun (h : RjR ρ _ p g j m) => ({ h with  } : RjR ρ _ p g ({ j with pol := false } : Jd) m)) (CA.out.2.1.btw S1K.out fun k e => .inr (by have e : k = p := e; rw [e]; exact CA.out.2.1.rp)), CA.out.2.2.trans S1K.out fun k _ e => I0.out k (by have e : k = p := e; rw [e, CA.out.2.1.rp]; decide)⟩)
        have z10 : ((w.alloc (.cells #[.int .i64 kk, .int .u8 (bb : Int)] 36)).setCell ⟨p, 13, none⟩ (.bool false)).cell? ⟨p, 10, none⟩ = some (.int .i64 (o : Int)) := by rw [HOO.out]; exact C1.out.1.cell_at 10 _ rfl
        have z14 : ((w.alloc (.cells #[.int .i64 kk, .int .u8 (bb : Int)] 36)).setCell ⟨p, 13, none⟩ (.bool false)).cell? ⟨p, 14, none⟩ = some (.bool false) := by
         have h0 := C1.out.1.cell_at 14 (.bool j.busy) rfl
         rw [← HBU.out] at h0
         exact h0
        have q0 : ((w.alloc (.cells #[.int .i64 kk, .int .u8 (bb : Int)] 36)).setCell ⟨p, 13, none⟩ (.bool false)).cell? ⟨w.heap.size, 0, none⟩ = some (.int .i64 kk) := (Z0.out.setCell_other (p := ⟨p, 13, none⟩) (fun e => NP.out e.symm) _).cell_at 0 _ rfl
        have q1 : ((w.alloc (.cells #[.int .i64 kk, .int .u8 (bb : Int)] 36)).setCell ⟨p, 13, none⟩ (.bool false)).cell? ⟨w.heap.size, 1, none⟩ = some (.int .u8 (bb : Int)) := (Z0.out.setCell_other (p := ⟨p, 13, none⟩) (fun e => NP.out e.symm) _).cell_at 1 _ rfl
        go_enter Try.func21, Try.ntmps21
        go_wp2
        go_ret
        rw [HR.out]
        exact ⟨rfl, ⟨ρ, m, (C1.out).1, (C1.out).2.1, I0.out, fun k hk => N0.out k (Nat.le_trans (C1.out).2.2.size hk)⟩, C1.out.2.2⟩
theorem rbegin_rej (c : Nat) : (j.rbegin c).2.rej = j.rej := by
 unfold Jd.rbegin
 split
 ·
  rfl
 ·
  split <;> rfl
theorem rload_rej (c : Nat) : (j.rload g c).2.rej = j.rej := by
 unfold Jd.rload
 repeat' split
 all_goals rfl
theorem rerase_rej (c : Nat) : (j.rerase g c).2.rej = j.rej := by
 unfold Jd.rerase
 repeat' split
 all_goals rfl
theorem rcommand_rej (c : Nat) : (j.rcommand g c).2.rej = j.rej := by
 unfold Jd.rcommand
 repeat' split
 all_goals first | rfl | exact rload_rej c | exact rerase_rej c | exact rbegin_rej c
theorem raddr_rej (c : Nat) : (j.raddr g c).2.rej = j.rej := by
 unfold Jd.raddr
 repeat' split
 all_goals rfl
theorem rpoll_rej (c : Nat) : (j.rpoll c).rej = j.rej := by
 unfold Jd.rpoll
 split
 ·
  rfl
 ·
  split <;> rfl
theorem rtakes_rej (k : Int) (b : Nat) : (j.rtakes g k b).2.rej = j.rej := by
 unfold Jd.rtakes Jd.rtk
 split
 ·
  rfl
 ·
  split
  ·
   rfl
  ·
   split
   ·
    split <;> rfl
   ·
    split
    ·
     exact rpoll_rej b
    ·
     split
     ·
      rfl
     ·
      split
      ·
       exact rcommand_rej b
      ·
       split
       ·
        exact raddr_rej b
       ·
        split
        ·
         unfold Jd.rwrite
         repeat' split
         all_goals rfl
        ·
         split
         ·
          unfold Jd.rread
          repeat' split
          all_goals rfl
         ·
          rfl
set_option maxHeartbeats 4000000 in
theorem rStep (kk : Int) (bb : Nat) (hb8 : bb < 256) (hk : j.rej = false → Rok g j) (hE : ∀ b ∈ j.erases, b < g.b.toNat) (hn : j.erases.length ≤ 1000000) (h : RJ I w p g j) : Calls Try.prog 10 #[.pointer (some ⟨p, 0, none⟩), .agg #[.int .i64 kk, .int .u8 (bb : Int)]] w (ActsR I p g (.bool (j.rstep g kk bb).1) (j.rstep g kk bb).2 w) := by
 have A0 := Lib.hid (below_new w (.cells #[.int .i64 kk, .int .u8 (bb : Int)] 36))
 have Z0 := Lib.hid (CRow.new w #[.int .i64 kk, .int .u8 (bb : Int)] 36)
 have H0 := Lib.hid (h.below A0.out)
 have y0 := Z0.out.cell_at 0 (.int .i64 kk) rfl
 have y1 := Z0.out.cell_at 1 (.int .u8 (bb : Int)) rfl
 cases hre : j.rej with
 | true =>
  have HR := Lib.hid (show j.rstep g kk bb = (false, j) by unfold Jd.rstep; rw [if_pos hre])
  have x22 : (w.alloc (.cells #[.int .i64 kk, .int .u8 (bb : Int)] 36)).cell? ⟨p, 22, none⟩ = some (.bool true) := by
   obtain ⟨ρ, m, hc, _⟩ := H0.out
   have h0 := hc.cell_at 22 (.bool j.rej) rfl
   rw [hre] at h0
   exact h0
  clear hre hk hE hn h
  go_enter Try.func10, Try.ntmps10
  go_wp2
  go_ret
  rw [HR.out]
  exact ⟨rfl, H0.out, Btw.of_below A0.out⟩
 | false =>
  have HX := Lib.hid (rtakes kk bb hb8 (hk hre) hE hn H0.out)
  have HR := Lib.hid (show j.rstep g kk bb = if (j.rtakes g kk bb).1 = true then (true, (j.rtakes g kk bb).2) else (false, { (j.rtakes g kk bb).2 with rej := true }) by unfold Jd.rstep; rw [if_neg (by rw [hre]; decide)])
  have HJ := Lib.hid (show (j.rtakes g kk bb).2.rej = false from (rtakes_rej kk bb).trans hre)
  have x22 : (w.alloc (.cells #[.int .i64 kk, .int .u8 (bb : Int)] 36)).cell? ⟨p, 22, none⟩ = some (.bool false) := by
   obtain ⟨ρ, m, hc, _⟩ := H0.out
   have h0 := hc.cell_at 22 (.bool j.rej) rfl
   rw [hre] at h0
   exact h0
  obtain ⟨z, hz⟩ : ∃ z, z = j.rtakes g kk bb := ⟨_, rfl⟩
  rw [← hz] at HX HR HJ
  clear hz hre hk hE hn h hb8
  obtain ⟨v, jz⟩ := z
  simp only at HX HR HJ
  go_enter Try.func10, Try.ntmps10
  go_wp2_with fail
  clear x22 y0 y1
  refine HX.out.mono ?_
  rintro _ w2 ⟨rfl, h2, b2⟩
  obtain ⟨ρ, m, hc, hr, hi, hnw⟩ := h2
  have C2 := Lib.hid hc
  have R2 := Lib.hid hr
  have I2 := Lib.hid hi
  have N2 := Lib.hid hnw
  have B2 := Lib.hid ((Btw.of_below (I := I) A0.out).trans b2 fun _ _ h => h)
  have x22 : w2.cell? ⟨p, 22, none⟩ = some (.bool false) := by
   have h0 := hc.cell_at 22 (.bool jz.rej) rfl
   rw [HJ.out] at h0
   exact h0
  clear hc hr hi hnw b2 HX
  cases v with
  | true =>
   go_wp2
   go_ret
   rw [HR.out]
   exact ⟨rfl, ⟨ρ, m, C2.out, R2.out, I2.out, N2.out⟩, B2.out⟩
  | false =>
   have f22 := C2.out.frozen 22
   have S1 := Lib.hid (C2.out.setCell 22 (.bool true))
   have K1 := Lib.hid ((Btw.refl (I := fun k => k = p) w2).setCell (p := ⟨p, 22, none⟩) (v := .bool true) rfl)
   have z22 := S1.out.cell_at 22 (.bool true) rfl
   go_wp2
   go_ret
   have H := RJ.of (I := I) (j' := { jz with rej := true }) (m' := m) R2.out I2.out N2.out (by
    have h0 := S1.out
    simpa [rjCells] using h0) K1.out fun W h => { h with }
   rw [HR.out]
   exact ⟨rfl, H.1, B2.out.trans H.2 fun _ _ h => h⟩
end
end Go.Proofs.Ytaidgjidpghgnaa
