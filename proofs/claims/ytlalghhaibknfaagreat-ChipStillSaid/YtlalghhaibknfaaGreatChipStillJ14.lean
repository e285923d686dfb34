/-
  lose of a chip for which nothing waits; Do.
-/
import Derived.Test.YtlalghhaibknfaaGreatChipStillJ11
import Derived.Test.YtlalghhaibknfaaGreatChipStillJ13
import Derived.Test.YtlalghhaibknfaaGreatChipStillJ10
import Derived.Test.YtlalghhaibknfaaGreatChipStillJInv
import Derived.Test.YtlalghhaibknfaaGreatChipStillJ3
namespace Go.Proofs.YtlalghhaibknfaaGreat
open Go.RowKit
set_option maxRecDepth 100000

section
variable {I : Nat → Prop} {w : World} {p : Nat} {g : Gm} {s : Sc} {c : Ch}
theorem lost_row {w : World} {m : Cm} {b n N : Nat} (h : CRow w p 63 (chCells g c.calm m.calm)) : CRow (((w.setCells p 0 (mem19 b N n).toList).setCell ⟨p, 28, none⟩ (.bool false)).setCell ⟨p, 29, none⟩ (.int .i64 (-1))) p 63 (chCells g (c.lost N) (m.lost b n)) := by
  have h1 := ((h.setCells (mem19 b N n).toList 0).setCell 28 (.bool false)).setCell 29 (.int .i64 (-1))
  have e : ((setList (chCells g c.calm m.calm) 0 (mem19 b N n).toList).setIfInBounds 28 (.bool false)).setIfInBounds 29 (.int .i64 (-1)) = chCells g (c.lost N) (m.lost b n) := by simp [setList, chCells, mem19, Ch.calm, Cm.calm, Ch.lost, Cm.lost]
  rw [e] at h1
  exact h1
set_option maxHeartbeats 2000000 in
theorem lose_idle (h1 : c.there = false) (h2 : c.progs = []) (h3 : c.blocks = []) (h : CH I w p g s c) : Calls Tryz.prog 22 #[.pointer (some ⟨p, 0, none⟩)] w fun e w' => e = .returned (.tuple #[]) ∧ CH I w' p g s (c.lost g.raw.toNat) ∧ Btw I w w' := by
  obtain ⟨ρ, m, hc, hp, hi⟩ := h
  have hbd := Gm.bounds_of hp.arr.ok
  have hraw : g.raw = g.c * (g.k + 2) + 31 := by unfold Gm.raw; rw [if_pos hp.arr.ok]
  have hck : 0 ≤ g.c * (g.k + 2) := Int.mul_nonneg (by omega) (by omega)
  have hlow := hp.arr.low
  have HF := Lib.hid (fun W => fresh_any g g.raw.toNat (by omega) (by omega) W)
  have HI := Lib.hid (interrupt_idle h1 h2 h3 hc)
  have P0 := Lib.hid hp
  have IP := Lib.hid (hi.self hp)
  have I0 := Lib.hid hi
  obtain ⟨N, hN⟩ : ∃ N, N = g.raw.toNat := ⟨_, rfl⟩
  rw [← hN] at HF ⊢
  have HN := Lib.hid hN
  clear hbd hraw hck hlow hc hp hi h1 h2 h3 hN
  go_enter Tryz.func22, Tryz.ntmps22
  go_wp2_with fail
  refine HI.out.mono ?_
  rintro _ w1 ⟨rfl, h1, b1⟩
  have C1 := Lib.hid h1
  have B1 := Lib.hid b1
  have P1 := Lib.hid (P0.out.btw b1 (fun j e => e ▸ P0.out.rp))
  clear h1 b1 HI P0
  have x19 := C1.out.cell_at 19 (.int .i64 g.p) rfl
  have x20 := C1.out.cell_at 20 (.int .i64 g.b) rfl
  have x21 := C1.out.cell_at 21 (.int .i64 g.s) rfl
  have x22 := C1.out.cell_at 22 (.int .i64 g.c) rfl
  have x23 := C1.out.cell_at 23 (.int .i64 g.k) rfl
  have x24 := C1.out.cell_at 24 (.int .i64 g.r) rfl
  have x25 := C1.out.cell_at 25 (.int .i64 g.q) rfl
  go_wp2_with fail
  clear x19 x20 x21 x22 x23 x24 x25
  refine (HF.out _).mono ?_
  rintro _ w2 ⟨b, n, cur, u, rfl, hb, hk, hr, hn, hw⟩
  have C2 := Lib.hid (C1.out.below hw)
  have B2 := Lib.hid (B1.out.trans (Btw.of_below (I := fun j => j = p) hw) (fun _ _ h => h))
  have T2 := Lib.hid (C2.out.there 0 (mem19 b N n).size (by simp [chCells, mem19]))
  have T3 := Lib.hid (C2.out.setCells (mem19 b N n).toList 0)
  have P2 := Lib.hid (P1.out.lost hw b n cur u hb hk (by rw [← HN.out]; exact hr))
  have L2 := Lib.hid (lost_row (b := b) (n := n) (N := N) C2.out)
  have N2 := Lib.hid hb
  have N3 := Lib.hid hw.size
  clear hb hk hr hn hw HF
  have f28 := T3.out.frozen 28
  have f29 := T3.out.frozen 29
  have x28 := T3.out.cell_at 28 (.bool c.on) (by simp [setList, chCells, mem19, Ch.calm])
  have x29 := T3.out.cell_at 29 (.int .i64 c.cut) (by simp [setList, chCells, mem19, Ch.calm])
  go_wp2_with (with_reducible refine (?_ : wpList _ _ _ ({ dst := _, op := Op.store 60 _ _, type := _, pos := _, after := _, guard := _ } :: _) _ _); apply wpList_store_mid rfl 60 (.tmp 11) (.tmp 9) rfl p 0 (mem19 b N n) (by simp [Act.eval]) (by simp [Act.eval]) T2.out size_memory (by simp [mem19, Value.oneCell']))
  go_end0
  have K3 : Btw (fun j => j = p) w2 (((w2.setCells p 0 (mem19 b N n).toList).setCell ⟨p, 28, none⟩ (.bool false)).setCell ⟨p, 29, none⟩ (.int .i64 (-1))) := ((Btw.setCells (I := fun j => j = p) (g := p) rfl (mem19 b N n).toList 0 (Btw.refl w2)).setCell (p := ⟨p, 28, none⟩) (v := .bool false) rfl).setCell (p := ⟨p, 29, none⟩) (v := .int .i64 (-1)) rfl
  refine ⟨rfl, ⟨role1 ρ b 7, m.lost b n, L2.out, by rw [HN.out] at *; exact P2.out.btw K3 (fun j e => by rw [e]; exact P2.out.rp), (I0.out.grow B1.out.size).one ?_ b 7 N2.out⟩, (Btw.refl w).trans (B2.out.trans K3 (fun _ _ h => h)) (fun j _ e => by rw [e]; exact IP.out)⟩
  · have := K3.size
    have := B2.out.size
    have := B1.out.size
    have := N3.out
    omega
def Ch.tick (c : Ch) : Ch := { c with cut := if c.cut = -1 then -1 else c.cut - 1, cycles := c.cycles + 1 }
theorem Do_off (k b : Int) (ho : c.on = false) (h : CH I w p g s c) : Calls Tryz.prog 8 #[.pointer (some ⟨p, 0, none⟩), .agg #[.int .i64 k, .int .u8 b]] w (Gives (.tuple #[.int .u8 255, .int .i64 20]) w) := by
  have B0 := Lib.hid (below_new w (.cells #[.int .i64 k, .int .u8 b] 37))
  obtain ⟨ρ, m, hc, -⟩ := h.below B0.out
  have C0 := Lib.hid hc
  have HO := Lib.hid ho
  clear hc ho
  go_enter Tryz.func8, Tryz.ntmps8
  go_wp2_with fail
  refine (cmade_yes p m.ap _ (C0.out.cell_at 27 _ rfl)).mono ?_
  rintro _ w1 ⟨rfl, h1⟩
  have B1 := Lib.hid (below_step B0.out h1)
  have x28 : w1.cell? ⟨p, 28, none⟩ = some (.bool false) := by
    have h0 := (C0.out.below h1).cell_at 28 (.bool c.on) rfl
    rw [HO.out] at h0
    exact h0
  clear h1
  go_wp2
  go_ret2
  exact ⟨rfl, B1.out⟩
set_option maxHeartbeats 2000000 in
theorem Do_lose (k b : Int) (hk : 1 ≤ k ∧ k ≤ 4) (ho : c.on = true) (hcut : c.cut = 0) (c' : Ch) (HL : ∀ W, CH I W p g s c → Calls Tryz.prog 22 #[.pointer (some ⟨p, 0, none⟩)] W fun e w' => e = .returned (.tuple #[]) ∧ CH I w' p g s c' ∧ Btw I W w') (h : CH I w p g s c) :
    Calls Tryz.prog 8 #[.pointer (some ⟨p, 0, none⟩), .agg #[.int .i64 k, .int .u8 b]] w fun e w' => e = .returned (.tuple #[.int .u8 255, .int .i64 20]) ∧ CH I w' p g s c' ∧ Btw I w w' := by
  have B0 := Lib.hid (below_new w (.cells #[.int .i64 k, .int .u8 b] 37))
  have Z0 := Lib.hid (CRow.new w #[.int .i64 k, .int .u8 b] 37)
  have H0 := Lib.hid (h.below B0.out)
  have HO := Lib.hid ho
  have HC := Lib.hid hcut
  have HLL := Lib.hid HL
  have HR := Lib.hid (fun W => Right_any k b W)
  rw [okK_iff.2 hk] at HR
  clear h ho hcut HL hk
  have hx := H0.out
  obtain ⟨ρ, m, hc, -⟩ := hx
  have C0 := Lib.hid hc
  clear hc
  go_enter Tryz.func8, Tryz.ntmps8
  go_wp2_with fail
  refine (cmade_yes p m.ap _ (C0.out.cell_at 27 _ rfl)).mono ?_
  rintro _ w1 ⟨rfl, h1⟩
  have B1 := Lib.hid (below_step B0.out h1)
  have H1 := Lib.hid (H0.out.below h1)
  have C1 := Lib.hid (C0.out.below h1)
  have x28 : w1.cell? ⟨p, 28, none⟩ = some (.bool true) := by
    have h0 := C1.out.cell_at 28 (.bool c.on) rfl
    rw [HO.out] at h0
    exact h0
  have yk := (Z0.out.below h1).cell_at 0 _ rfl
  have yb := (Z0.out.below h1).cell_at 1 _ rfl
  clear h1 H0 C0
  go_wp2_with fail
  clear x28 yk yb
  refine (HR.out _).mono ?_
  rintro _ w2 ⟨rfl, h2⟩
  have B2 := Lib.hid (below_step B1.out h2)
  have H2 := Lib.hid (H1.out.below h2)
  have x29 : w2.cell? ⟨p, 29, none⟩ = some (.int .i64 0) := by
    have h0 := (C1.out.below h2).cell_at 29 (.int .i64 c.cut) rfl
    rw [HC.out] at h0
    exact h0
  clear h2 H1 C1 HR
  go_wp2_with fail
  refine (HLL.out _ H2.out).mono ?_
  rintro _ w3 ⟨rfl, h3, b3⟩
  have H3 := Lib.hid h3
  have B3 := Lib.hid ((Btw.of_below (I := I) B2.out).trans b3 (fun _ _ h => h))
  clear h3 b3
  go_wp2
  go_ret2
  exact ⟨rfl, H3.out, B3.out⟩
set_option maxHeartbeats 2000000 in
theorem Do_exec (k b : Int) (hk : 1 ≤ k ∧ k ≤ 4) (ho : c.on = true) (hcut : c.cut ≠ 0) (hc1 : -1 ≤ c.cut) (hc2 : c.cut ≤ 1099511627776) (hcy : c.cycles ≤ 1099511627776) (c' : Ch) (v : Int)
    (HX : ∀ W, CH I W p g s c.tick → Calls Tryz.prog 23 #[.pointer (some ⟨p, 0, none⟩), .agg #[.int .i64 k, .int .u8 b]] W fun e w' => e = .returned (.int .u8 v) ∧ CH I w' p g s c' ∧ Btw I W w') (h : CH I w p g s c) :
    Calls Tryz.prog 8 #[.pointer (some ⟨p, 0, none⟩), .agg #[.int .i64 k, .int .u8 b]] w fun e w' => e = .returned (.tuple #[.int .u8 v, .int .i64 0]) ∧ CH I w' p g s c' ∧ Btw I w w' := by
  have B0 := Lib.hid (below_new w (.cells #[.int .i64 k, .int .u8 b] 37))
  have Z0 := Lib.hid (CRow.new w #[.int .i64 k, .int .u8 b] 37)
  have HO := Lib.hid ho
  have HC := Lib.hid hcut
  have HXX := Lib.hid HX
  have HR := Lib.hid (fun W => Right_any k b W)
  rw [okK_iff.2 hk] at HR
  have hx := h.below B0.out
  obtain ⟨ρ, m, hc, hp, hi⟩ := hx
  have C0 := Lib.hid hc
  have P0 := Lib.hid hp
  have I0 := Lib.hid hi
  obtain ⟨z, hz⟩ : ∃ z, z = (c.cycles : Int) := ⟨_, rfl⟩
  have HZ := Lib.hid hz
  obtain ⟨q, hq⟩ : ∃ q, q = c.cut := ⟨_, rfl⟩
  have HQ := Lib.hid hq
  have wz : IntKind.i64.wrap (z + 1) = z + 1 := IntWalk.i64_in _ (by omega)
  have wq : IntKind.i64.wrap (q - 1) = q - 1 := IntWalk.i64_in _ (by omega)
  have q0 : (q == 0) = false := by rw [beq_eq_false_iff_ne]; rw [hq]; exact hcut
  have q1 : -1 ≤ q ∧ q ≤ 1099511627776 := by omega
  have z1 : 0 ≤ z ∧ z ≤ 1099511627776 := by omega
  clear h ho hcut HX hk hc hp hi hc1 hc2 hcy hz hq
  go_enter Tryz.func8, Tryz.ntmps8
  go_wp2_with fail
  refine (cmade_yes p m.ap _ (C0.out.cell_at 27 _ rfl)).mono ?_
  rintro _ w1 ⟨rfl, h1⟩
  have B1 := Lib.hid (below_step B0.out h1)
  have C1 := Lib.hid (C0.out.below h1)
  have Z1 := Lib.hid (Z0.out.below h1)
  have P1 := Lib.hid (P0.out.below h1)
  have I1 := Lib.hid (I0.out.grow h1.size)
  have x28 : w1.cell? ⟨p, 28, none⟩ = some (.bool true) := by
    have h0 := C1.out.cell_at 28 (.bool c.on) rfl
    rw [HO.out] at h0
    exact h0
  have yk := Z1.out.cell_at 0 _ rfl
  have yb := Z1.out.cell_at 1 _ rfl
  have hz1 := Z1.out.lt
  clear h1 C0 P0 Z0 I0
  go_wp2_with fail
  clear x28 yk yb
  refine (HR.out _).mono ?_
  rintro _ w2 ⟨rfl, h2⟩
  have B2 := Lib.hid (below_step B1.out h2)
  have C2 := Lib.hid (C1.out.below h2)
  have Z2 := Lib.hid (Z1.out.below h2)
  have P2 := Lib.hid (P1.out.below h2)
  have I2 := Lib.hid (I1.out.grow h2.size)
  have ne : p ≠ w.heap.size := fun e => by
    have := crow_ne C2.out Z2.out (by decide)
    exact this e
  have x29 : w2.cell? ⟨p, 29, none⟩ = some (.int .i64 q) := by rw [HQ.out]; exact C2.out.cell_at 29 _ rfl
  have f29 := C2.out.frozen 29
  have x30 : w2.cell? ⟨p, 30, none⟩ = some (.int .i64 z) := by rw [HZ.out]; exact C2.out.cell_at 30 _ rfl
  have f30 := C2.out.frozen 30
  have yk := Z2.out.cell_at 0 _ rfl
  have yb := Z2.out.cell_at 1 _ rfl
  clear h2 C1 P1 Z1 I1 HR hz1
  by_cases hm : q = -1
  · subst hm
    have S1 := Lib.hid (C2.out.setCell 30 (.int .i64 (z + 1)))
    have K1 := Lib.hid ((Btw.refl (I := fun j => j = p) w2).setCell (p := ⟨p, 30, none⟩) (v := .int .i64 (z + 1)) rfl)
    go_wp2_with fail
    have H3 := CH.of (I := I) (c' := c.tick) (w' := w2.setCell ⟨p, 30, none⟩ (.int .i64 (z + 1))) (m := m) (by
      have h0 := S1.out
      have e : (chCells g c m).setIfInBounds 30 (.int .i64 (z + 1)) = chCells g c.tick m := by
        rw [HZ.out]
        have := HQ.out
        simp [chCells, Ch.tick, ← this]
      rw [e] at h0
      exact h0) P2.out I2.out K1.out fun W h => { h with }
    clear x29 x30 f29 f30 yk yb wz wq q0 q1 z1
    refine (HXX.out _ H3.1).mono ?_
    rintro _ w4 ⟨rfl, h4, b4⟩
    have H4 := Lib.hid h4
    have B4 := Lib.hid (((Btw.of_below (I := I) B2.out).trans H3.2 (fun _ _ h => h)).trans b4 (fun _ _ h => h))
    clear h4 b4 H3
    go_wp2
    go_ret2
    exact ⟨rfl, H4.out, B4.out⟩
  · have q2 : (q == -1) = false := by rw [beq_eq_false_iff_ne]; exact hm
    have S1 := Lib.hid ((C2.out.setCell 29 (.int .i64 (q - 1))).setCell 30 (.int .i64 (z + 1)))
    have K1 := Lib.hid (((Btw.refl (I := fun j => j = p) w2).setCell (p := ⟨p, 29, none⟩) (v := .int .i64 (q - 1)) rfl).setCell (p := ⟨p, 30, none⟩) (v := .int .i64 (z + 1)) rfl)
    go_wp2_with fail
    have H3 := CH.of (I := I) (c' := c.tick) (w' := (w2.setCell ⟨p, 29, none⟩ (.int .i64 (q - 1))).setCell ⟨p, 30, none⟩ (.int .i64 (z + 1))) (m := m) (by
      have h0 := S1.out
      have e : ((chCells g c m).setIfInBounds 29 (.int .i64 (q - 1))).setIfInBounds 30 (.int .i64 (z + 1)) = chCells g c.tick m := by
        rw [HZ.out]
        have := HQ.out
        simp [chCells, Ch.tick, ← this, hm]
      rw [e] at h0
      exact h0) P2.out I2.out K1.out fun W h => { h with }
    clear x29 x30 f29 f30 yk yb wz wq q0 q1 z1
    refine (HXX.out _ H3.1).mono ?_
    rintro _ w4 ⟨rfl, h4, b4⟩
    have H4 := Lib.hid h4
    have B4 := Lib.hid (((Btw.of_below (I := I) B2.out).trans H3.2 (fun _ _ h => h)).trans b4 (fun _ _ h => h))
    clear h4 b4 H3
    go_wp2
    go_ret2
    exact ⟨rfl, H4.out, B4.out⟩
end
end Go.Proofs.YtlalghhaibknfaaGreat

/-
  New of a chip.
-/
namespace Go.Proofs.YtlalghhaibknfaaGreat
open Go.RowKit
set_option maxRecDepth 100000

def Ch.new (g : Gm) (s : Sc) : Ch := { state := 0, listed := [], said := 0, rung := 0, col := 0, reg := List.replicate g.raw.toNat 255, busy := 0, reads := false, prow := 0, progs := [], blocks := [], brow := 0, braw := [], there := false, polls := 0, queued := [], qblocks := [], fail := false, prev := false, on := true, cut := s.cut, cycles := 0, arr := St.new g.raw.toNat (g.b * g.s).toNat g.s.toNat g.b.toNat s.marked, bz := 0, wk := 0 }
def ChipIs (g : Gm) (s : Sc) (w : World) (e : Ending) (w' : World) : Prop :=
  (s.ok g ∧ ∃ p, e = .returned (.tuple #[.pointer (some ⟨p, 0, none⟩), .int .i64 0]) ∧ Below w.heap.size w w' ∧ CH (fun j => w.heap.size ≤ j) w' p g s (Ch.new g s)) ∨
  (¬ s.ok g ∧ e = .returned (.tuple #[.pointer none, .int .i64 2]) ∧ Below w.heap.size w w')
def newCm (b n pt lo hi pa qa ra : Nat) : Cm := { aL := none, cL := 0, aR := some ⟨b, 0, none⟩, cR := n, aP := none, cP := 0, aE := none, cE := 0, aG := none, cG := 0, aQ := none, cQ := 0, aB := none, cB := 0, lQ := [], lP := [], t := pt, lo := lo, hi := hi, ap := pa, aq := qa, ar := ra }
def roleN (base p pa qa ra b lo hi : Nat) (j : Nat) : Nat := if j < base then 99 else if j = p then 1 else if j = pa then 2 else if j = qa then 3 else if j = ra then 4 else if j = b then 7 else if lo ≤ j ∧ j < hi then 5 else 0
theorem roleN_in {base p pa qa ra b lo hi j : Nat} (h : roleN base p pa qa ra b lo hi j ≠ 0) : j < base ∨ j = p ∨ j = pa ∨ j = qa ∨ j = ra ∨ j = b ∨ (lo ≤ j ∧ j < hi) := by
  unfold roleN at h
  repeat' split at h
  all_goals omega
theorem ch_new {g : Gm} {s : Sc} {w2 W : World} {base L H pt pa qa ra b n p : Nat} {cur : Array Value} {u : TypeId} {st : St}
    (hA : AR (fun j => j < H ∨ j = pa ∨ j = qa ∨ j = ra) w2 pa qa ra g st) (hst : st = St.new g.raw.toNat (g.b * g.s).toNat g.s.toNat g.b.toNat s.marked) (hB : Below w2.heap.size w2 W) (hpa : H ≤ pa ∧ H ≤ qa ∧ H ≤ ra) (hT : Tel w2 pt L H s 0 0) (hL : base ≤ L) (hLH : L ≤ H)
    (hb : w2.heap.size ≤ b) (hk : CRow W b u cur) (hr : R8 W (some ⟨b, 0, none⟩) g.raw.toNat (List.replicate g.raw.toNat 255)) (hp : CRow W p 63 (chCells g (Ch.new g s) (newCm b n pt L H pa qa ra))) (hp2 : w2.heap.size ≤ p) (hpb : p ≠ b) :
    CH (fun j => base ≤ j) W p g s (Ch.new g s) := by
  have l1 := hA.lt pa (.inr (.inl rfl))
  have l2 := hA.lt qa (.inr (.inr (.inl rfl)))
  have l3 := hA.lt ra (.inr (.inr (.inr rfl)))
  have l4 := hk.lt
  have l5 := hp.lt
  have l6 := hB.size
  have n1 := hA.pq
  have n2 := hA.pr
  have n3 := hA.qr
  subst hst
  have m1 : roleN base p pa qa ra b L H pa = 2 := by unfold roleN; rw [if_neg (by omega), if_neg (by omega), if_pos rfl]
  have m2 : roleN base p pa qa ra b L H qa = 3 := by unfold roleN; rw [if_neg (by omega), if_neg (by omega), if_neg (by omega), if_pos rfl]
  have m3 : roleN base p pa qa ra b L H ra = 4 := by unfold roleN; rw [if_neg (by omega), if_neg (by omega), if_neg (by omega), if_neg (by omega), if_pos rfl]
  refine ⟨roleN base p pa qa ra b L H, newCm b n pt L H pa qa ra, hp, ?_, fun j h1 h2 => ?_, fun j hj => by omega, fun j hj => by unfold roleN; rw [if_pos (by omega)]⟩
  · exact {
      lt := fun j hj => by have := roleN_in hj; omega
      rp := by unfold roleN; rw [if_neg (by omega), if_pos rfl]
      arr := ((hA.widen (I' := fun j => j < H ∨ j = pa ∨ j = qa ∨ j = ra ∨ j = b ∨ j = p) hB (fun j hj => by rcases hj with h | h | h | h <;> simp [h]) (fun j hj => by
        rcases hj with h | h | h | h | h | h
        · exact .inl (.inl h)
        · exact .inl (.inr (.inl h))
        · exact .inl (.inr (.inr (.inl h)))
        · exact .inl (.inr (.inr (.inr h)))
        · exact .inr (by omega)
        · exact .inr (by omega)) (fun j hj => by omega)).narrow (fun j hj => by have := roleN_in hj; omega) (by rw [m1]; omega) (by rw [m2]; omega) (by rw [m3]; omega))
      rap := m1
      raq := m2
      rar := m3
      tel := hT.below hB
      rt := fun j h1 h2 => by
        have h1 : L ≤ j := h1
        have h2 : j < H := h2
        show roleN _ _ _ _ _ _ _ _ j = 5
        unfold roleN
        rw [if_neg (by omega), if_neg (by omega), if_neg (by omega), if_neg (by omega), if_neg (by omega), if_neg (by omega), if_pos ⟨h1, h2⟩]
      lis := ⟨rfl, .inl ⟨rfl, rfl⟩⟩
      rl := fun k hk => by cases hk
      l8 := fun x hx => by cases hx
      reg := ⟨b, cur, u, rfl, by unfold roleN; rw [if_neg (by omega), if_neg (by omega), if_neg (by omega), if_neg (by omega), if_neg (by omega), if_pos rfl], hk, by show R8 W _ (List.replicate _ _).length _; rw [List.length_replicate]; exact hr⟩
      regn := List.length_replicate
      que := ⟨rfl, .inl ⟨rfl, rfl⟩⟩
      qy := rfl
      rq := fun k hk => by cases hk
      qbl := ⟨rfl, .inl ⟨rfl, rfl⟩⟩
      rb := fun k hk => by cases hk
      pro := ⟨rfl, .inl ⟨rfl, rfl⟩⟩
      py := rfl
      rpr := fun k hk => by cases hk
      blk := ⟨rfl, .inl ⟨rfl, rfl⟩⟩
      rbl := fun k hk => by cases hk
      raws := fun x hx => by cases hx
      bgr := ⟨Rd.nil_, by simp [Ch.new]⟩
      rg := fun _ _ e => by cases e }
  · have := roleN_in h1
    by_cases e : j < base
    · exact absurd (by unfold roleN; rw [if_pos e]) h2
    · show base ≤ j
      omega
set_option maxHeartbeats 4000000 in
theorem ChipNew_any (g : Gm) (ho : g.ok = true) (hl : g.raw ≤ 1000) (m : Sa) (s : Sc) (w : World) (h : SIn w m s) (hf : s.short) : Calls Tryz.prog 15 #[g.val, m.val s] w (ChipIs g s w) := by
  have HI := Lib.hid h
  have HN := Lib.hid (fun W h => CNew_any g ho m s W h hf)
  have HA := Lib.hid (fun W h => NewW_any g m.a5 s.marked.length m.c5 s.marked W ho hl h (by have := hf.marked; omega))
  have hbd := Gm.bounds_of ho
  have hraw : g.raw = g.c * (g.k + 2) + 31 := by unfold Gm.raw; rw [if_pos ho]
  have hck : 0 ≤ g.c * (g.k + 2) := Int.mul_nonneg (by omega) (by omega)
  have HF := Lib.hid (fun W => fresh_any g g.raw.toNat (by omega) (by omega) W)
  obtain ⟨N, hN⟩ : ∃ N, N = g.raw.toNat := ⟨_, rfl⟩
  rw [← hN] at HF
  have HNN := Lib.hid hN
  clear hbd hraw hck hN
  have S0 := Lib.hid (CRow.new (w.alloc (.cells #[.int .i64 g.p, .int .i64 g.b, .int .i64 g.s, .int .i64 g.c, .int .i64 g.k, .int .i64 g.r, .int .i64 g.q] 23)) (m.cells s) 28)
  have Y0 := Lib.hid ((GBox.new w g 23).below (below_new _ (.cells (m.cells s) 28)))
  have B0 := Lib.hid ((below_new w (.cells #[.int .i64 g.p, .int .i64 g.b, .int .i64 g.s, .int .i64 g.c, .int .i64 g.k, .int .i64 g.r, .int .i64 g.q] 23)).alloc (by simp) (.cells (m.cells s) 28))
  have S0 := Lib.hid (show CRow _ (w.heap.size + 1) 28 (m.cells s) by simpa using S0.out)
  have y0 := S0.out.cell_at 0 (.slice m.a1 s.busy.length m.c1) rfl
  have y1 := S0.out.cell_at 1 (.slice m.a2 s.fails.length m.c2) rfl
  have y2 := S0.out.cell_at 2 (.slice m.a3 s.turns.length m.c3) rfl
  have y3 := S0.out.cell_at 3 (.int .i64 s.cut) rfl
  have y4 := S0.out.cell_at 4 (.slice m.a4 s.torn.length m.c4) rfl
  have y5 := S0.out.cell_at 5 (.slice m.a5 s.marked.length m.c5) rfl
  clear h hf ho hl
  simp only [Gm.val, Sa.val, Sa.cells] at *
  go_enter Tryz.func15, Tryz.ntmps15
  obtain ⟨_, g0, g1, g2, g3, g4, g5, g6⟩ := Y0.out
  go_wp2_with fail
  clear y0 y1 y2 y3 y4 y5 g0 g1 g2 g3 g4 g5 g6
  refine (HN.out _ (HI.out.below B0.out)).mono ?_
  rintro _ w1 hR
  rcases hR with ⟨hok, pt, rfl, hb, ht⟩ | ⟨hno, rfl, hb⟩
  rotate_left
  · have B1 := Lib.hid (below_step B0.out hb)
    have HX := Lib.hid hno
    clear hno hb
    go_wp2
    go_ret2
    exact .inr ⟨HX.out, rfl, B1.out⟩
  have B1 := Lib.hid (below_step B0.out hb)
  have Y1 := Lib.hid (Y0.out.below hb)
  have S1 := Lib.hid (S0.out.below hb)
  have T1 := Lib.hid ht
  have OK := Lib.hid hok
  have L1 := Lib.hid hb.size
  clear hok hb ht HN Y0 S0
  obtain ⟨_, g0, g1, g2, g3, g4, g5, g6⟩ := Y1.out
  have y5 := S1.out.cell_at 5 (.slice m.a5 s.marked.length m.c5) rfl
  go_wp2_with fail
  clear y5 g0 g1 g2 g3 g4 g5 g6
  refine (HA.out _ (HI.out.marked.below B1.out)).mono ?_
  rintro _ w2 hR
  rcases hR with ⟨hm, pa, qa, ra, rfl, ha, hb, hpa, hqa, hra⟩ | ⟨hno, rfl, hb⟩
  rotate_left
  · exact absurd (fun x hx => by
      obtain ⟨i, hi, rfl⟩ := List.mem_iff_getElem.1 hx
      have h0 := OK.out.marked i hi
      simp only [List.getD, List.getElem?_eq_getElem hi, Option.getD_some] at h0
      omega) hno
  have B2 := Lib.hid (below_step B1.out hb)
  have Y2 := Lib.hid (Y1.out.below hb)
  have S2 := Lib.hid (S1.out.below hb)
  have T2 := Lib.hid (T1.out.below hb)
  have A2 := Lib.hid ha
  have PA := Lib.hid (And.intro hpa (And.intro hqa hra))
  have L2 := Lib.hid hb.size
  clear hm ha hb hpa hqa hra HA Y1 S1 T1
  go_wp2_with fail
  refine wp_region_noPanic ?_
  refine wp_region_held_drew (S := fun w' => Below w2.heap.size w2 w') (by kernel_rfl) ((Below.refl _ _).drew) (fun C0 => ?_)
  refine wpAnyH_take (i := 0) (oi := { dst := some 28, op := Op.load 23 (Operand.tmp 2), type := 23, pos := "chip.go:59", after := #[], guard := none }) (v := ?_) rfl (by kernel_rfl) (by kernel_rfl) (by kernel_rfl) (fun _ _ _ h => h) (Or.inl ⟨by rfl, ?_⟩) C0 ?_
  rotate_left
  · intro W' hSw
    obtain ⟨_, g0, g1, g2, g3, g4, g5, g6⟩ := Y2.out.below hSw
    clear hSw
    go_simp <;> with_reducible rfl
  try simp only [Act.put, List.setIfInBounds_toArray, List.set_cons_zero, List.set_cons_succ]
  refine wpAnyH_take (i := 2) (oi := { dst := some 30, op := Op.load 23 (Operand.tmp 2), type := 23, pos := "chip.go:59", after := #[], guard := none }) (v := ?_) rfl (by kernel_rfl) (by kernel_rfl) (by kernel_rfl) (fun _ _ _ h => h) (Or.inl ⟨by rfl, ?_⟩) C0 ?_
  rotate_left
  · intro W' hSw
    obtain ⟨_, g0, g1, g2, g3, g4, g5, g6⟩ := Y2.out.below hSw
    clear hSw
    go_simp <;> with_reducible rfl
  try simp only [Act.put, List.setIfInBounds_toArray, List.set_cons_zero, List.set_cons_succ]
  refine wpAnyH_take (i := 3) (oi := { dst := some 31, op := Op.move (Operand.tmp 6), type := 61, pos := "chip.go:59", after := #[], guard := none }) (v := ?_) rfl (by kernel_rfl) (by kernel_rfl) (by kernel_rfl) (fun _ _ _ h => h) (Or.inl ⟨by rfl, ?_⟩) C0 ?_
  rotate_left
  · intro W' hSw
    clear hSw
    go_simp <;> with_reducible rfl
  try simp only [Act.put, List.setIfInBounds_toArray, List.set_cons_zero, List.set_cons_succ]
  refine wpAnyH_take (i := 4) (oi := { dst := some 32, op := Op.move (Operand.tmp 8), type := 39, pos := "chip.go:59", after := #[], guard := none }) (v := ?_) rfl (by kernel_rfl) (by kernel_rfl) (by kernel_rfl) (fun _ _ _ h => h) (Or.inl ⟨by rfl, ?_⟩) C0 ?_
  rotate_left
  · intro W' hSw
    clear hSw
    go_simp <;> with_reducible rfl
  try simp only [Act.put, List.setIfInBounds_toArray, List.set_cons_zero, List.set_cons_succ]
  refine wpAnyH_take (i := 5) (oi := { dst := some 33, op := Op.fieldAddr 28 (Operand.tmp 3) 3, type := 0, pos := "chip.go:59", after := #[], guard := none }) (v := ?_) rfl (by kernel_rfl) (by kernel_rfl) (by kernel_rfl) (fun _ _ _ h => h) (Or.inl ⟨by rfl, ?_⟩) C0 ?_
  rotate_left
  · intro W' hSw
    clear hSw
    go_simp <;> with_reducible rfl
  try simp only [Act.put, List.setIfInBounds_toArray, List.set_cons_zero, List.set_cons_succ]
  refine wpAnyH_take (i := 6) (oi := { dst := some 34, op := Op.load 3 (Operand.tmp 33), type := 3, pos := "chip.go:59", after := #[{ on := 5, ground := Ground.data }], guard := none }) (v := ?_) rfl (by kernel_rfl) (by kernel_rfl) (by kernel_rfl) (fun _ _ _ h => h) (Or.inl ⟨by rfl, ?_⟩) C0 ?_
  rotate_left
  · intro W' hSw
    have y3 := (S2.out.below hSw).cell_at 3 (.int .i64 s.cut) rfl
    clear hSw
    go_simp <;> with_reducible rfl
  try simp only [Act.put, List.setIfInBounds_toArray, List.set_cons_zero, List.set_cons_succ]
  refine wpAnyH_ready (rs := [1]) (by kernel_rfl) (by simp) ?_
  refine AllReadyH.cons (o := { dst := some 29, op := Op.call { callee := Callee.value (Operand.func 28), args := #[Operand.tmp 28], argTypes := #[23] }, type := 60, pos := "chip.go:59", after := #[{ on := 0, ground := Ground.data }], guard := none }) rfl (fun K hK => ?_) AllReadyH.nil
  go_simp
  refine (HF.out _).mono ?_
  rintro _ w3 ⟨b, n, cur, u, rfl, hb, hk, hr, hn, hw⟩
  have W3 := Lib.hid (show Below w2.heap.size w2 w3 from C0.trans (hw.mono C0.size))
  have N3 := Lib.hid hb
  have K3 := Lib.hid hk
  have R3 := Lib.hid hr
  simp only [mem19]
  clear hb hk hr hn hw
  go_wp2_with fail
  refine hK.out _ _ W3.out (fun C1 => ?_)
  clear hK K
  try simp only [Act.put, List.setIfInBounds_toArray, List.set_cons_zero, List.set_cons_succ]
  refine wpAnyH_take (i := 7) (oi := { dst := some 35, op := Op.build 63 #[(0, Operand.tmp 29), (1, Operand.tmp 30), (2, Operand.tmp 31), (3, Operand.tmp 32), (4, Operand.const (Value.bool true)), (5, Operand.tmp 34)], type := 63, pos := "chip.go:59", after := #[{ on := 1, ground := Ground.data }, { on := 2, ground := Ground.data }, { on := 3, ground := Ground.data }, { on := 4, ground := Ground.data }, { on := 6, ground := Ground.data }], guard := none }) (v := ?_) rfl (by kernel_rfl) (by kernel_rfl) (by kernel_rfl) (fun _ _ _ h => h) (Or.inl ⟨by rfl, ?_⟩) C1 ?_
  rotate_left
  · intro W' hSw
    clear hSw
    go_simp <;> with_reducible rfl
  try simp only [Act.put, List.setIfInBounds_toArray, List.set_cons_zero, List.set_cons_succ]
  refine wpAnyH_ready (rs := [8]) (by kernel_rfl) (by simp) ?_
  refine AllReadyH.cons (o := { dst := some 36, op := Op.box 63 (Operand.tmp 35), type := 31, pos := "chip.go:59", after := #[{ on := 7, ground := Ground.data }], guard := none }) rfl (fun K hK => ?_) AllReadyH.nil
  go_simp
  refine hK.out _ _ (W3.out.alloc W3.out.size _) (fun C2 => ?_)
  clear hK K
  try simp only [Act.put, List.setIfInBounds_toArray, List.set_cons_zero, List.set_cons_succ]
  refine wpAnyH_take (i := 9) (oi := { dst := some 4, op := Op.assign (Operand.tmp 36), type := 31, pos := "chip.go:59", after := #[{ on := 8, ground := Ground.data }, { on := 1, ground := Ground.chain }, { on := 0, ground := Ground.phase }, { on := 1, ground := Ground.phase }, { on := 2, ground := Ground.phase }, { on := 3, ground := Ground.phase }, { on := 4, ground := Ground.phase }, { on := 5, ground := Ground.phase }, { on := 6, ground := Ground.phase }, { on := 7, ground := Ground.phase }, { on := 8, ground := Ground.phase }], guard := none }) (v := ?_) rfl (by kernel_rfl) (by kernel_rfl) (by kernel_rfl) (fun _ _ _ h => h) (Or.inl ⟨by rfl, ?_⟩) C2 ?_
  rotate_left
  · intro W' hSw
    clear hSw
    go_simp <;> with_reducible rfl
  try simp only [Act.put, List.setIfInBounds_toArray, List.set_cons_zero, List.set_cons_succ]
  refine wpAnyH_take (i := 10) (oi := { dst := some 5, op := Op.assign (Operand.const (Value.int IntKind.i64 0)), type := 33, pos := "chip.go:59", after := #[{ on := 9, ground := Ground.chain }, { on := 0, ground := Ground.phase }, { on := 1, ground := Ground.phase }, { on := 2, ground := Ground.phase }, { on := 3, ground := Ground.phase }, { on := 4, ground := Ground.phase }, { on := 5, ground := Ground.phase }, { on := 6, ground := Ground.phase }, { on := 7, ground := Ground.phase }, { on := 8, ground := Ground.phase }, { on := 9, ground := Ground.phase }], guard := none }) (v := ?_) rfl (by kernel_rfl) (by kernel_rfl) (by kernel_rfl) (fun _ _ _ h => h) (Or.inl ⟨by rfl, ?_⟩) C2 ?_
  rotate_left
  · intro W' hSw
    clear hSw
    go_simp <;> with_reducible rfl
  try simp only [Act.put, List.setIfInBounds_toArray, List.set_cons_zero, List.set_cons_succ]
  refine wpAnyH_done (by kernel_rfl) ?_ _
  refine NoPanic.normal ?_
  go_wp2
  go_ret2
  have W4 := W3.out.alloc W3.out.size (.cells (chCells g (Ch.new g s) (newCm b n pt (w.heap.size + 2) w1.heap.size pa qa ra)) 63)
  have e : chCells g (Ch.new g s) (newCm b n pt (w.heap.size + 2) w1.heap.size pa qa ra) = #[.int .i64 0, .slice none 0 0, .int .i64 0, .int .i64 0, .int .i64 0, .slice (some ⟨b, 0, none⟩) N n, .int .i64 0, .bool false, .int .i64 0, .slice none 0 0, .slice none 0 0, .int .i64 0, .slice none 0 0, .bool false, .int .i64 0, .slice none 0 0, .slice none 0 0, .bool false, .bool false, .int .i64 g.p, .int .i64 g.b, .int .i64 g.s, .int .i64 g.c, .int .i64 g.k, .int .i64 g.r, .int .i64 g.q, .pointer (some ⟨pt, 0, none⟩), .pointer (some ⟨pa, 0, none⟩), .bool true, .int .i64 s.cut, .int .i64 0] := by
    simp [chCells, Ch.new, newCm, HNN.out]
  rw [← e]
  refine .inl ⟨OK.out, w3.heap.size, rfl, below_step B2.out W4, ?_⟩
  have hL1 := L1.out
  have hN3 := N3.out
  have hW3 := W3.out.size
  have hk3 := K3.out.lt
  have hN3 : w2.heap.size ≤ b := hN3
  have hT := T2.out
  simp at hL1
  have hT : Tel w2 pt (w.heap.size + 2) w1.heap.size s 0 0 := by simpa using hT
  exact ch_new A2.out rfl W4 PA.out hT (by omega) hL1 (by omega) (K3.out.alloc _) (by rw [← HNN.out]; exact R3.out.alloc _) (CRow.new w3 _ _) (by omega) (by omega)
end Go.Proofs.YtlalghhaibknfaaGreat

/-
  Do of an idle chip, of one that is asked for its name, that tells it; New of no geometry.
-/
namespace Go.Proofs.YtlalghhaibknfaaGreat
open Go.RowKit
set_option maxRecDepth 100000

section
variable {ρ : Nat → Nat} {I : Nat → Prop} {w w' : World} {p : Nat} {g : Gm} {s : Sc} {c c' : Ch} {m m' : Cm}
theorem Do_idle (k b : Int) (hk : k = 2 ∨ k = 3 ∨ k = 4) (ho : c.on = true) (hcut : c.cut ≠ 0) (hc1 : -1 ≤ c.cut) (hc2 : c.cut ≤ 1099511627776) (hcy : c.cycles ≤ 1099511627776) (hf : c.engaged = false) (hs : c.state = 0) (h : CH I w p g s c) :
    Calls Tryz.prog 8 #[.pointer (some ⟨p, 0, none⟩), .agg #[.int .i64 k, .int .u8 b]] w fun e w' => e = .returned (.tuple #[.int .u8 (if k = 4 then 255 else 0), .int .i64 0]) ∧ CH I w' p g s c.tick.leave ∧ Btw I w w' :=
  Do_exec k b (by omega) ho hcut hc1 hc2 hcy c.tick.leave _ (fun W h => by
    obtain ⟨ρ, m, hc, hp, hi⟩ := h
    refine (execute_idle k b hk (c := c.tick) hs hf hc).mono ?_
    rintro _ w1 ⟨rfl, h1, b1⟩
    exact ⟨rfl, CH.of' h1 hp hi b1 fun W h => h.leave⟩) h
theorem Do_90 (ho : c.on = true) (hcut : c.cut ≠ 0) (hc1 : -1 ≤ c.cut) (hc2 : c.cut ≤ 1099511627776) (hcy : c.cycles ≤ 1099511627776) (hf : c.engaged = false) (h : CH I w p g s c) :
    Calls Tryz.prog 8 #[.pointer (some ⟨p, 0, none⟩), .agg #[.int .i64 1, .int .u8 144]] w fun e w' => e = .returned (.tuple #[.int .u8 0, .int .i64 0]) ∧ CH I w' p g s c.tick.toId ∧ Btw I w w' :=
  Do_exec 1 144 (by omega) ho hcut hc1 hc2 hcy c.tick.toId _ (fun W h => by
    obtain ⟨ρ, m, hc, hp, hi⟩ := h
    refine (execute_90 (c := c.tick) hf hc).mono ?_
    rintro _ w1 ⟨rfl, h1, b1⟩
    exact ⟨rfl, CH.of' h1 hp hi b1 fun W h => h.discard.enter 2⟩) h
theorem Do_00 (b : Nat) (hb : b = 0) (ho : c.on = true) (hcut : c.cut ≠ 0) (hc1 : -1 ≤ c.cut) (hc2 : c.cut ≤ 1099511627776) (hcy : c.cycles ≤ 1099511627776) (hf : c.engaged = false) (hs : c.state = 2) (hl : c.listed.length ≤ 100) (h : CH I w p g s c) :
    Calls Tryz.prog 8 #[.pointer (some ⟨p, 0, none⟩), .agg #[.int .i64 2, .int .u8 (b : Int)]] w fun e w' => e = .returned (.tuple #[.int .u8 0, .int .i64 0]) ∧ CH I w' p g s (c.tick.enter 3) ∧ Btw I w w' :=
  Do_exec 2 (b : Int) (by omega) ho hcut hc1 hc2 hcy (c.tick.enter 3) _ (fun W h => by
    obtain ⟨ρ, m, hc, hp, hi⟩ := h
    refine (execute_00 b hb (c := c.tick) hf hs hl hp.lis (fun k hk e => by have := hp.rl k hk; have := hp.rp; rw [e] at *; omega) hc).mono ?_
    rintro _ w1 ⟨rfl, h1, b1⟩
    have hj : ∀ j, (j = p ∨ (Value.slice m.aL c.tick.listed.length m.cL).ownBlock = some j) → ρ j = 1 ∨ ρ j = 6 := fun j hj => by
      rcases hj with rfl | hj
      · exact .inl hp.rp
      · exact .inr (hp.rl j hj)
    refine ⟨rfl, ⟨ρ, m.enter, h1, (hp.enter 3).btwI b1 (fun j h => (hj j h).imp id fun h => .inr (.inl ⟨h, rfl⟩)), hi.grow b1.size⟩, (Btw.refl W).trans b1 fun j _ e => ?_⟩
    have := hj j e
    exact hi.own j (by omega) (by omega)) h
theorem Do_told (b : Int) (n : Nat) (hn : n < 5) (ho : c.on = true) (hcut : c.cut ≠ 0) (hc1 : -1 ≤ c.cut) (hc2 : c.cut ≤ 1099511627776) (hcy : c.cycles ≤ 1099511627776) (hf : c.engaged = false) (hs : c.state = 3) (hd : c.said = n) (h : CH I w p g s c) :
    Calls Tryz.prog 8 #[.pointer (some ⟨p, 0, none⟩), .agg #[.int .i64 4, .int .u8 b]] w fun e w' => e = .returned (.tuple #[.int .u8 (ansG g n), .int .i64 0]) ∧ CH I w' p g s { c.tick with said := n + 1 } ∧ Btw I w w' :=
  Do_exec 4 b (by omega) ho hcut hc1 hc2 hcy { c.tick with said := n + 1 } _ (fun W h => by
    obtain ⟨ρ, m, hc, hp, hi⟩ := h
    refine (execute_told b n hn (c := c.tick) hs hf hd hc).mono ?_
    rintro _ w1 ⟨rfl, h1, b1⟩
    exact ⟨rfl, CH.of' h1 hp hi b1 fun W h => { h with }⟩) h
end
theorem ChipNew_bad (g : Gm) (ho : g.ok = false) (m : Sa) (s : Sc) (w : World) : Calls Tryz.prog 15 #[g.val, m.val s] w (Gives (.tuple #[.pointer none, .int .i64 2]) w) := by
  have HN := Lib.hid (fun W => CNew_bad g ho m s W)
  have S0 := Lib.hid (CRow.new (w.alloc (.cells #[.int .i64 g.p, .int .i64 g.b, .int .i64 g.s, .int .i64 g.c, .int .i64 g.k, .int .i64 g.r, .int .i64 g.q] 23)) (m.cells s) 28)
  have Y0 := Lib.hid ((GBox.new w g 23).below (below_new _ (.cells (m.cells s) 28)))
  have B0 := Lib.hid ((below_new w (.cells #[.int .i64 g.p, .int .i64 g.b, .int .i64 g.s, .int .i64 g.c, .int .i64 g.k, .int .i64 g.r, .int .i64 g.q] 23)).alloc (by simp) (.cells (m.cells s) 28))
  have S0 := Lib.hid (show CRow _ (w.heap.size + 1) 28 (m.cells s) by simpa using S0.out)
  have y0 := S0.out.cell_at 0 (.slice m.a1 s.busy.length m.c1) rfl
  have y1 := S0.out.cell_at 1 (.slice m.a2 s.fails.length m.c2) rfl
  have y2 := S0.out.cell_at 2 (.slice m.a3 s.turns.length m.c3) rfl
  have y3 := S0.out.cell_at 3 (.int .i64 s.cut) rfl
  have y4 := S0.out.cell_at 4 (.slice m.a4 s.torn.length m.c4) rfl
  have y5 := S0.out.cell_at 5 (.slice m.a5 s.marked.length m.c5) rfl
  clear ho
  simp only [Gm.val, Sa.val, Sa.cells] at *
  go_enter Tryz.func15, Tryz.ntmps15
  obtain ⟨_, g0, g1, g2, g3, g4, g5, g6⟩ := Y0.out
  go_wp2_with fail
  clear y0 y1 y2 y3 y4 y5 g0 g1 g2 g3 g4 g5 g6
  refine (HN.out _).mono ?_
  rintro _ w1 ⟨rfl, hb⟩
  have B1 := Lib.hid (below_step B0.out hb)
  clear hb
  go_wp2
  go_ret2
  exact ⟨rfl, B1.out⟩
end Go.Proofs.YtlalghhaibknfaaGreat

/-
  awake, plain of the chip's laws.
-/
namespace Go.Proofs.YtlalghhaibknfaaGreat
open Go.RowKit
set_option maxRecDepth 100000

def geo14 : Gm := ⟨1, 2, 4, 1, 4, 3, 1⟩
def sc14 : Sc := ⟨[], [], [], -1, [], []⟩
theorem geo14_ok : geo14.ok = true := by decide +kernel
theorem geo14_raw : geo14.raw = 37 := by decide +kernel
theorem sc14_ok : sc14.short ∧ sc14.ok geo14 :=
  ⟨⟨by simp [sc14], by simp [sc14], by simp [sc14], by simp [sc14], by simp [sc14]⟩, ⟨fun i hi => absurd hi (by simp [sc14]), fun i hi => absurd hi (by simp [sc14]), fun i t hi => absurd hi (by simp [sc14]), by simp [sc14], fun i hi => absurd hi (by simp [sc14])⟩⟩
theorem New14 (w : World) : Calls Tryz.prog 15 #[.agg #[.int .i64 1, .int .i64 2, .int .i64 4, .int .i64 1, .int .i64 4, .int .i64 3, .int .i64 1], .agg #[.slice none 0 0, .slice none 0 0, .slice none 0 0, .int .i64 (-1), .slice none 0 0, .slice none 0 0]] w
    fun e w' => ∃ p, e = .returned (.tuple #[.pointer (some ⟨p, 0, none⟩), .int .i64 0]) ∧ Below w.heap.size w w' ∧ CH (fun j => w.heap.size ≤ j) w' p geo14 sc14 (Ch.new geo14 sc14) :=
  (ChipNew_any geo14 geo14_ok (by rw [geo14_raw]; omega) ⟨none, 0, none, 0, none, 0, none, 0, none, 0⟩ sc14 w ⟨⟨Rd.nil_, by simp [sc14]⟩, ⟨Rd.nil_, by simp [sc14]⟩, RN.nil_ _ _, ⟨Rd.nil_, by simp [sc14]⟩, ⟨Rd.nil_, by simp [sc14]⟩⟩ sc14_ok.1).mono fun e w' h => by
    rcases h with ⟨_, h⟩ | ⟨h, _⟩
    · exact h
    · exact absurd sc14_ok.2 h
def cK (n : Nat) : Ch := { (Ch.new geo14 sc14) with state := 3, said := n, cycles := 2 + n }
theorem cK_90 : (Ch.new geo14 sc14).tick.toId = { (Ch.new geo14 sc14) with state := 2, cycles := 1 } := by simp [Ch.tick, Ch.toId, Ch.discard, Ch.enter, Ch.new, sc14]
theorem cK_00 : ({ (Ch.new geo14 sc14) with state := 2, cycles := 1 } : Ch).tick.enter 3 = cK 0 := by simp [Ch.tick, Ch.enter, Ch.new, sc14, cK]
theorem cK_told (n : Nat) : { (cK n).tick with said := n + 1 } = cK (n + 1) := by simp [Ch.tick, Ch.new, sc14, cK]; omega
def ans5 : List Nat := [73, 78, 1, 3, 1]
theorem ans5_at (n : Nat) (hn : n < 5) : ∃ x : Nat, x < 256 ∧ ansG geo14 n = (x : Int) ∧ ans5.take (n + 1) = ans5.take n ++ [x] := by
  obtain rfl | rfl | rfl | rfl | rfl : n = 0 ∨ n = 1 ∨ n = 2 ∨ n = 3 ∨ n = 4 := by omega
  · exact ⟨73, by omega, rfl, rfl⟩
  · exact ⟨78, by omega, rfl, rfl⟩
  · exact ⟨1, by omega, rfl, rfl⟩
  · exact ⟨3, by omega, rfl, rfl⟩
  · exact ⟨1, by omega, rfl, rfl⟩
set_option maxHeartbeats 400000 in
theorem plain14_any (w : World) : Calls Tryz.prog 19 #[] w (Gives (.agg #[.int .i64 1, .int .i64 2, .int .i64 4, .int .i64 1, .int .i64 4, .int .i64 3, .int .i64 1]) w) := by
  go_enter Tryz.func19, Tryz.ntmps19
  have T0 := Lib.hid (CRow.new w #[.int .i64 0, .int .i64 0, .int .i64 0, .int .i64 0, .int .i64 0, .int .i64 0, .int .i64 0] 23)
  have B0 := Lib.hid (below_new w (.cells #[.int .i64 0, .int .i64 0, .int .i64 0, .int .i64 0, .int .i64 0, .int .i64 0, .int .i64 0] 23))
  go_wp2_with (with_reducible refine (?_ : wpList _ _ _ ({ dst := _, op := Op.store 23 _ _, type := _, pos := _, after := _, guard := _ } :: _) _ _); refine wpList_store_at rfl 23 _ _ rfl 7 size_geom _ w.heap.size ?hx rfl _ T0.out.row rfl rfl (by simp [Value.oneCell']) ?_; (case hx => simp [Act.eval]))
  have B9 := Lib.hid (below_setRow B0.out (Nat.le_refl _) #[.int .i64 1, .int .i64 2, .int .i64 4, .int .i64 1, .int .i64 4, .int .i64 3, .int .i64 1])
  have T9 := Lib.hid (T0.out.set #[.int .i64 1, .int .i64 2, .int .i64 4, .int .i64 1, .int .i64 4, .int .i64 3, .int .i64 1])
  go_wp2
  refine bodyPost_ret (results_cell_row rfl _ _ w.heap.size 23 _ (0, 0) _ rfl T9.out.row Tryz.underlying23 rfl size_geom) rfl ?_
  exact ⟨rfl, B9.out⟩
theorem five_bytes (w : World) : R8 (w.alloc (.cells #[.int .u8 73, .int .u8 78, .int .u8 1, .int .u8 3, .int .u8 1] 5)) (some ⟨w.heap.size, 0, none⟩) 5 ans5 := by
  refine ⟨⟨rfl, fun _ => ⟨_, 0, rfl, by simp, fun j hj => ?_⟩⟩, by decide⟩
  rw [Nat.zero_add, (CRow.new w _ _).cell j]
  simp [ans5, U8]
set_option maxHeartbeats 4000000 in
theorem awake14_any (w : World) : Calls Tryz.prog 5 #[] w (Gives (.bool true) w) := by
  go_enter Tryz.func5, Tryz.ntmps5
  go_wp2_with fail
  refine (plain14_any _).mono ?_
  rintro _ w1 ⟨rfl, h1⟩
  have B1 := Lib.hid h1
  clear h1
  go_wp2_with fail
  refine (New14 _).mono ?_
  rintro _ w2 ⟨p, rfl, h2, c2⟩
  have B2 := Lib.hid (below_step B1.out h2)
  have C2 := Lib.hid c2
  have L1 := Lib.hid B1.out.size
  clear h2 c2
  go_wp2_with fail
  refine (Do_90 rfl (by decide) (by decide) (by decide) (by decide) rfl C2.out).mono ?_
  rintro _ w3 ⟨rfl, h3, b3⟩
  rw [cK_90] at h3
  have C3 := Lib.hid h3
  have B3 := Lib.hid (B2.out.trans (b3.below (S := w.heap.size) (fun j hj => Nat.le_trans L1.out hj) B2.out.size))
  clear h3 b3 B2 C2
  go_wp2_with fail
  have h3 := Do_00 0 rfl rfl (by decide) (by decide) (by decide) (by decide) rfl rfl (by decide) C3.out
  rw [cK_00] at h3
  refine Calls.mono (show Calls _ _ #[.pointer (some ⟨p, 0, none⟩), .agg #[.int .i64 2, .int .u8 0]] _ _ from h3) ?_
  rintro _ w4 ⟨rfl, h4, b4⟩
  have C4 := Lib.hid h4
  have B4 := Lib.hid (B3.out.trans (b4.below (S := w.heap.size) (fun j hj => Nat.le_trans L1.out hj) B3.out.size))
  clear h3 h4 b4 B3 C3
  have O4 := Lib.hid (show w4.ownsRow 0 5 1 (.slice none ([] : List Nat).length 0) ([] : List Nat).length (U8 []) from World.ownsRow_nil _ _ _ _)
  go_wp2
  go_loopw [7, 28] (fun l i wr => ∃ (n : Nat) (L : List Nat) (A : Option Addr) (c : Nat) (J : Nat → Prop), n ≤ 5 ∧ l = .slice A L.length c ∧ i = .int .i64 (n : Int) ∧ Hid (L = ans5.take n ∧ L.length = n) ∧ Hid (CH J wr p geo14 sc14 (cK n)) ∧ Hid (wr.ownsRow 0 5 1 (.slice A L.length c) L.length (U8 L)) ∧
    Hid (∀ k, (Value.slice A L.length c).ownBlock = some k → ¬ J k ∧ w.heap.size ≤ k) ∧ Hid (∀ j, J j → w.heap.size ≤ j) ∧ Hid (Below w.heap.size w wr)) (fun _ i _ => 5 - (intOf i).toNat)
  case atStart => exact ⟨0, [], none, 0, _, by omega, rfl, rfl, Lib.hid ⟨rfl, rfl⟩, C4, O4, Lib.hid (fun k hk => by cases hk), Lib.hid (fun j hj => Nat.le_trans L1.out hj), B4⟩
  case round =>
    obtain ⟨n, L, A, c, J, hn, rfl, rfl, HL, HC, HO, HA, HJ, HB⟩ := hrel
    rename World => wr
    clear C4 O4 B4
    by_cases hlt : n < 5
    · obtain ⟨x, hx, hx2, hx3⟩ := ans5_at n hlt
      have X3 := Lib.hid hx3
      have XX := Lib.hid hx
      have HD := Lib.hid (Do_told 0 n hlt rfl (by show (-1 : Int) ≠ 0; omega) (by show -1 ≤ (-1 : Int); omega) (by show (-1 : Int) ≤ _; omega) (by show 2 + n ≤ _; omega) rfl rfl rfl HC.out)
      rw [cK_told, hx2] at HD
      clear hx2 hx3 hx
      have d1 : decide ((n : Int) < 5) = true := decide_eq_true (by omega)
      go_wp2_with fail
      refine HD.out.mono ?_
      rintro _ w5 ⟨rfl, h5, b5⟩
      have C5 := Lib.hid h5
      have O5 := Lib.hid (own_btw1 HO.out b5 fun k hk => (HA.out k hk).1)
      have B5 := Lib.hid (HB.out.trans (b5.below (S := w.heap.size) HJ.out HB.out.size))
      clear h5 b5 HD HO HB HC
      go_wp2_with (at_builtin; refine wpList_append8A (w5.alloc (.cells #[.int .u8 (x : Int)] 5)) rfl (.tmp 36) (.tmp 38) rfl 0 _ L rfl (O5.out.alloc _) ⟨w5.heap.size, 0, none⟩ 1 1 [x] rfl (r8_one w5 x XX.out _) (by have := HL.out.2; omega) (Nat.zero_le _) ?_)
      intro v3 w6 hown hg hwh
      obtain ⟨A3, c3, rfl⟩ := own_form1 hown
      have O6 := Lib.hid hown
      have GR := Lib.hid hg
      have WH := Lib.hid hwh
      have G6 := Lib.hid (((Btw.refl (I := fun j => (Value.slice A L.length c).ownBlock = some j) w5).alloc (.cells #[.int .u8 (x : Int)] 5)).trans (Btw.of_grown (I := fun j => (Value.slice A L.length c).ownBlock = some j) GR.out (fun _ h => h)) (fun _ _ h => h))
      have C6 := Lib.hid (C5.out.away G6.out fun j hj => (HA.out j hj).1)
      have B6 := Lib.hid (B5.out.trans (G6.out.below (S := w.heap.size) (fun j hj => (HA.out j hj).2) B5.out.size))
      clear hown hg hwh
      go_wp2
      go_roundw
      case rel =>
        refine ⟨n + 1, L ++ [x], A3, c3, _, by omega, by simp, by go_num, Lib.hid ⟨by rw [X3.out, HL.out.1], by simp [HL.out.2]⟩, C6, Lib.hid (by rw [List.length_append]; exact O6.out), Lib.hid (fun k hk => ?_), Lib.hid (fun j hj => HJ.out j hj.1), B6⟩
        rw [List.length_append] at hk
        have hlow := own_low O6.out k hk
        rcases WH.out with h | h
        · have h0 := HA.out k (h ▸ hk)
          exact ⟨fun hj => h0.1 hj.1, h0.2⟩
        · have e : (Value.slice A3 (L.length + 1) c3).ownBlock = some k := hk
          have e2 : k = w5.heap.size + 1 := Option.some.inj (e.symm.trans h)
          have := B5.out.size
          exact ⟨fun hj => by have := hj.2; omega, by omega⟩
      case measure => simp [intOf]; omega
    · obtain rfl : n = 5 := by omega
      have R5 := Lib.hid (R8.own HO.out (by rw [HL.out.1]; decide))
      have HE := Lib.hid (show decide (L = ans5) = true from decide_eq_true (by rw [HL.out.1]; rfl))
      have N1 := Lib.hid (below_new wr (.cells #[.int .u8 73, .int .u8 78, .int .u8 1, .int .u8 3, .int .u8 1] 5))
      have HS := Lib.hid (Same_any A (some ⟨wr.heap.size, 0, none⟩) L.length c 5 5 L ans5 _ (R5.out.alloc (.cells #[.int .u8 73, .int .u8 78, .int .u8 1, .int .u8 3, .int .u8 1] 5)) (five_bytes wr) (by have := HL.out.2; omega) (by omega))
      rw [HE.out] at HS
      clear HL HE HJ HA HO HC R5
      go_wp2_with fail
      refine HS.out.mono ?_
      intro _ w7 hq
      obtain ⟨rfl, D7⟩ := hq.at_
      clear hq HS
      go_wp2
      go_ret
      exact ⟨rfl, below_step (HB.out.trans (N1.out.mono HB.out.size)) D7.out⟩
end Go.Proofs.YtlalghhaibknfaaGreat
