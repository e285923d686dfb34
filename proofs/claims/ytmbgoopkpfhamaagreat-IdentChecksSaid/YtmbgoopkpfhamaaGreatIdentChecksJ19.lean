/-
  reset, lose, begin, start, putBehind.
-/
import Derived.Test.YtmbgoopkpfhamaaGreatTk
import Derived.Test.YtmbgoopkpfhamaaGreatTkB
import Derived.Test.YtmbgoopkpfhamaaGreatIdentChecksJ18
import Derived.Test.YtmbgoopkpfhamaaGreatIdentChecksJ4
import Derived.Test.YtmbgoopkpfhamaaGreatIdentChecksJErased
import Derived.Test.YtmbgoopkpfhamaaGreatIdentChecksJ3
namespace Go.Proofs.YtmbgoopkpfhamaaGreat
open Go.RowKit
set_option maxRecDepth 100000
def nb (s : Sc) (c : Ch) : Nat := (s.busy.getD c.bz 0).toNat
theorem nb_is {g : Gm} {s : Sc} (hk : s.ok g) (c : Ch) : s.busy.getD c.bz 0 = ((nb s c : Nat) : Int) ∧ nb s c ≤ 65536 := by
 unfold nb
 by_cases h : c.bz < s.busy.length
 ·
  have := hk.busy c.bz h
  omega
 ·
  have e : s.busy.getD c.bz 0 = 0 := by simp [List.getD, List.getElem?_eq_none (Nat.le_of_not_lt h)]
  rw [e]
  exact ⟨rfl, by decide⟩
def Ch.reset (g : Gm) (s : Sc) (c : Ch) : Ch := { (c.intr g s).leave with rung := 0, fail := false, prev := false, busy := nb s c, bz := c.bz + 1 }
section
variable {I : Nat → Prop} {w : World} {p : Nat} {g : Gm} {s : Sc} {c : Ch}
theorem interrupt_ch (hs : SG g s) (hf : c.fit g) (h : CH I w p g s c) : Calls Tryz.prog 92 #[.pointer (some ⟨p, 0, none⟩)] w (Acts I p g s (.tuple #[]) (c.intr g s) w) := by
 obtain ⟨ρ, m, hc, hp, hi⟩ := h
 refine (interrupt_any hs hf hp hc).mono ?_
 rintro _ w1 ⟨rfl, h1, h2, hb⟩
 have hB : Btw I w w1 := (Btw.refl w).trans hb (fun j _ h => by
  have h3 := hp.own4 j (by rcases h with h | h | h; exact .inl h; exact .inr (.inr (.inl h)); exact .inr (.inr (.inr h)))
  exact hi.own j (by omega) (by omega))
 exact ⟨rfl, ⟨ρ, _, h1, h2, hi.grow hb.size⟩, hB⟩
theorem leave_ch (h : CH I w p g s c) : Calls Tryz.prog 98 #[.pointer (some ⟨p, 0, none⟩)] w (Acts I p g s (.tuple #[]) c.leave w) := by
 obtain ⟨ρ, m, hc, hp, hi⟩ := h
 refine (leave_any hc).mono ?_
 rintro _ w1 ⟨rfl, h1, b1⟩
 have H := CH.of' h1 hp hi b1 fun W h => h.leave
 exact ⟨rfl, H.1, H.2⟩
set_option maxHeartbeats 4000000 in
theorem reset_any (hs : SG g s) (hf : c.fit g) (hz : c.bz ≤ 1099511627776) (h : CH I w p g s c) : Calls Tryz.prog 93 #[.pointer (some ⟨p, 0, none⟩)] w (Acts I p g s (.tuple #[]) (c.reset g s) w) := by
 have HS := Lib.hid hs
 have HN := Lib.hid (nb_is hs.ok c)
 have HI := Lib.hid (interrupt_ch hs hf h)
 have HZ := Lib.hid hz
 clear hs hf hz h
 go_enter Tryz.func93, Tryz.ntmps93
 go_wp2_with fail
 refine HI.out.mono ?_
 rintro _ w1 ⟨rfl, hc, hb⟩
 have H1 := Lib.hid hc
 have B1 := Lib.hid hb
 clear hc hb HI
 go_wp2_with fail
 refine (leave_ch H1.out).mono ?_
 rintro _ w2 ⟨rfl, hc, hb⟩
 have B2 := Lib.hid (B1.out.trans hb (fun _ _ h => h))
 obtain ⟨ρ, m, hc, hp, hi⟩ := hc
 have C2 := Lib.hid hc
 have P2 := Lib.hid hp
 have I2 := Lib.hid hi
 have IP := Lib.hid (hi.self hp)
 have x3 := hc.cell_at 3 (.int .i64 ((c.intr g s).leave.rung : Int)) rfl
 have f3 := hc.frozen 3
 have x17 := hc.cell_at 17 (.bool (c.intr g s).leave.fail) rfl
 have f17 := hc.frozen 17
 have x18 := hc.cell_at 18 (.bool (c.intr g s).leave.prev) rfl
 have f18 := hc.frozen 18
 have x26 := hc.cell_at 26 (.pointer (some ⟨m.t, 0, none⟩)) rfl
 have C3 := Lib.hid (((hc.setCell 3 (.int .i64 0)).setCell 17 (.bool false)).setCell 18 (.bool false))
 have X3 := Lib.hid ((((Btw.refl (I := fun j => j = p) w2).setCell (p := ⟨p, 3, none⟩) (v := .int .i64 0) rfl).setCell (p := ⟨p, 17, none⟩) (v := .bool false) rfl).setCell (p := ⟨p, 18, none⟩) (v := .bool false) rfl)
 have C4 := Lib.hid (show CRow (((w2.setCell ⟨p, 3, none⟩ (.int .i64 0)).setCell ⟨p, 17, none⟩ (.bool false)).setCell ⟨p, 18, none⟩ (.bool false)) p 72 (chCells g { (c.intr g s).leave with rung := 0, fail := false, prev := false } m) by
  have h0 := C3.out
  have e : (((chCells g (c.intr g s).leave m).setIfInBounds 3 (.int .i64 0)).setIfInBounds 17 (.bool false)).setIfInBounds 18 (.bool false) = chCells g { (c.intr g s).leave with rung := 0, fail := false, prev := false } m := by simp [chCells]
  rw [e] at h0
  exact h0)
 have P4 := Lib.hid (P2.out.btw X3.out (fun j e => e ▸ P2.out.rp))
 have HBZ := Lib.hid (fun W ht => Busy_any m.t m.lo m.hi s c.bz ((c.intr g s).wk : Int) W ht HS.out.short HS.out.ok HZ.out)
 rw [HN.out.1] at HBZ
 clear hc hp hi B1 C3 C2 P2
 go_wp2_with fail
 clear x3 f3 x17 f17 x18 f18 x26
 refine (HBZ.out _ P4.out.tel).mono ?_
 rintro _ w5 ⟨rfl, hb, ht⟩
 have C5 := Lib.hid (C4.out.btw hb P4.out.ne_q.2.2)
 have P5 := Lib.hid (P4.out.teller (bz := c.bz + 1) (wk := (c.intr g s).wk) hb (by push_cast; exact ht))
 have B5 := Lib.hid (((Btw.refl (I := I) w2).trans X3.out (fun j _ h => by rw [h]; exact IP.out)).trans hb (fun j _ h => by
  have h1 := P4.out.rt m.t P4.out.tel.in_.1 P4.out.tel.in_.2
  have h2 : j = m.t := h
  rw [h2]
  exact I2.out.own _ (by omega) (by omega)))
 clear hb ht HBZ C4 P4 X3
 have x6 := C5.out.cell_at 6 (.int .i64 ((c.intr g s).leave.busy : Int)) rfl
 have f6 := C5.out.frozen 6
 have C6 := Lib.hid (show CRow (w5.setCell ⟨p, 6, none⟩ (.int .i64 ((nb s c : Nat) : Int))) p 72 (chCells g (c.reset g s) m) by
  have h0 := C5.out.setCell 6 (.int .i64 ((nb s c : Nat) : Int))
  have e : (chCells g { (c.intr g s).leave with rung := 0, fail := false, prev := false } m).setIfInBounds 6 (.int .i64 ((nb s c : Nat) : Int)) = chCells g (c.reset g s) m := by simp [chCells, Ch.reset]
  rw [e] at h0
  exact h0)
 have P6 := Lib.hid (show Pt ρ (w5.setCell ⟨p, 6, none⟩ (.int .i64 ((nb s c : Nat) : Int))) p g s (c.reset g s) m from { P5.out.set 6 (.int .i64 ((nb s c : Nat) : Int)) with })
 have B6 := Lib.hid ((B2.out.trans B5.out (fun _ _ h => h)).setCell (p := ⟨p, 6, none⟩) (v := .int .i64 ((nb s c : Nat) : Int)) IP.out)
 have S6 := Lib.hid (show w2.heap.size ≤ (w5.setCell ⟨p, 6, none⟩ (.int .i64 ((nb s c : Nat) : Int))).heap.size by simpa [World.setCell] using B5.out.size)
 go_wp2
 go_end0
 exact ⟨rfl, ⟨ρ, m, C6.out, P6.out, I2.out.grow S6.out⟩, B6.out⟩
end
def Ch.lostW (g : Gm) (s : Sc) (c : Ch) : Ch := (c.intr g s).lost g.raw.toNat
def Ch.pend (c : Ch) (r : Bool) (row : Nat) (pr : List Pr) (bl : List Nat) : Ch := { c with reads := r, prow := row, progs := pr, blocks := bl }
def Cm.pend (m : Cm) (aP : Option Addr) (cP : Nat) (aE : Option Addr) (cE : Nat) (lP : List Rp) : Cm := { m with aP := aP, cP := cP, aE := aE, cE := cE, lP := lP }
def Ch.begun (s : Sc) (c : Ch) : Ch := { c.enter 1 with fail := false, prev := c.prev && c.there, busy := nb s c, bz := c.bz + 1 }
section
variable {ρ : Nat → Nat} {I : Nat → Prop} {w : World} {p : Nat} {g : Gm} {s : Sc} {c : Ch} {m : Cm}
theorem lost_row2 {b n N : Nat} (h : CRow w p 72 (chCells g c m)) : CRow (((w.setCells p 0 (mem19 b N n).toList).setCell ⟨p, 28, none⟩ (.bool false)).setCell ⟨p, 29, none⟩ (.int .i64 (-1))) p 72 (chCells g (c.lost N) (m.lost b n)) := by
 have h1 := ((h.setCells (mem19 b N n).toList 0).setCell 28 (.bool false)).setCell 29 (.int .i64 (-1))
 have e : ((setList (chCells g c m) 0 (mem19 b N n).toList).setIfInBounds 28 (.bool false)).setIfInBounds 29 (.int .i64 (-1)) = chCells g (c.lost N) (m.lost b n) := by simp [setList, chCells, mem19, Ch.lost, Cm.lost]
 rw [e] at h1
 exact h1
set_option maxHeartbeats 2000000 in
theorem lose_any (hs : SG g s) (hf : c.fit g) (h : CH I w p g s c) : Calls Tryz.prog 83 #[.pointer (some ⟨p, 0, none⟩)] w (Acts I p g s (.tuple #[]) (c.lostW g s) w) := by
 have hx := h
 obtain ⟨_, _, _, hpx, _⟩ := hx
 have hN := hpx.raw_
 have HF := Lib.hid (fun W => fresh_any g g.raw.toNat hN.1 (by omega) W)
 have HI := Lib.hid (interrupt_ch hs hf h)
 unfold Ch.lostW
 obtain ⟨N, hN2⟩ : ∃ N, N = g.raw.toNat := ⟨_, rfl⟩
 rw [← hN2] at HF ⊢
 have HN := Lib.hid hN2
 clear hpx hN hN2 h hs hf
 go_enter Tryz.func83, Tryz.ntmps83
 go_wp2_with fail
 refine HI.out.mono ?_
 rintro _ w1 ⟨rfl, h1, b1⟩
 have B1 := Lib.hid b1
 obtain ⟨c1, hc1⟩ : ∃ c1, c1 = c.intr g s := ⟨_, rfl⟩
 rw [← hc1] at h1
 have HC1 := Lib.hid hc1
 obtain ⟨ρ, m, hc, hp, hi⟩ := h1
 have C1 := Lib.hid hc
 have P1 := Lib.hid hp
 have I1 := Lib.hid hi
 have IP := Lib.hid (hi.self hp)
 clear hc hp hi b1 HI hc1
 have x19 := C1.out.cell_at 19 (.int .i64 g.p) rfl
 have x20 := C1.out.cell_at 20 (.int .i64 g.b) rfl
 have x21 := C1.out.cell_at 21 (.int .i64 g.s) rfl
 have x22 := C1.out.cell_at 22 (.int .i64 g.c) rfl
 have x23 := C1.out.cell_at 23 (.int .i64 g.k) rfl
 have x24 := C1.out.cell_at 24 (.int .i64 g.r) rfl
 have x25 := C1.out.cell_at 25 (.int .i64 g.q) rfl
 go_wp2_with fail
 clear x19 x20 x21 x22 x23 x24 x25
 refine (HF.out _).mono ?_
 rintro _ w2 ⟨b, n, cur, u, rfl, hb, hk, hr, hn, hw⟩
 have C2 := Lib.hid (C1.out.below hw)
 have T2 := Lib.hid (C2.out.there 0 (mem19 b N n).size (by simp [chCells, mem19]))
 have T3 := Lib.hid (C2.out.setCells (mem19 b N n).toList 0)
 have P2 := Lib.hid (P1.out.lost hw b n cur u hb hk (by rw [← HN.out]; exact hr))
 have L2 := Lib.hid (lost_row2 (b := b) (n := n) (N := N) C2.out)
 have N2 := Lib.hid hb
 have W2 := Lib.hid hw
 clear hb hk hr hn hw HF
 have f28 := T3.out.frozen 28
 have f29 := T3.out.frozen 29
 have x28 := T3.out.cell_at 28 (.bool c1.on) (by simp [setList, chCells, mem19])
 have x29 := T3.out.cell_at 29 (.int .i64 c1.cut) (by simp [setList, chCells, mem19])
 go_wp2_with (with_reducible refine (?_ : wpList _ _ _ ({ dst := _, op := Op.store 69 _ _, type := _, pos := _, after := _, guard := _ } :: _) _ _); apply wpList_store_mid rfl 69 (.tmp 11) (.tmp 9) rfl p 0 (mem19 b N n) (by simp [Act.eval]) (by simp [Act.eval]) T2.out size_memory (by simp [mem19, Value.oneCell']))
 go_end0
 have K3 : Btw (fun j => j = p) w2 (((w2.setCells p 0 (mem19 b N n).toList).setCell ⟨p, 28, none⟩ (.bool false)).setCell ⟨p, 29, none⟩ (.int .i64 (-1))) := ((Btw.setCells (I := fun j => j = p) (g := p) rfl (mem19 b N n).toList 0 (Btw.refl w2)).setCell (p := ⟨p, 28, none⟩) (v := .bool false) rfl).setCell (p := ⟨p, 29, none⟩) (v := .int .i64 (-1)) rfl
 rw [← HC1.out]
 refine ⟨rfl, ⟨role1 ρ b 7, m.lost b n, L2.out, by rw [HN.out] at *; exact P2.out.btw K3 (fun j e => by rw [e]; exact P2.out.rp), I1.out.one ?_ b 7 N2.out⟩, (B1.out.trans (Btw.of_below (I := I) W2.out) (fun _ _ h => h)).trans K3 (fun j _ e => by rw [e]; exact IP.out)⟩
 exact Nat.le_trans W2.out.size K3.size
theorem pend_row {r : Bool} {row : Nat} {pr : List Pr} {bl : List Nat} {aP aE : Option Addr} {cP cE : Nat} {lP : List Rp} (h : CRow w p 72 (chCells g c m)) :
  CRow (w.setCells p 7 (#[.bool r, .int .i64 (row : Int), .slice aP pr.length cP, .slice aE bl.length cE] : Array Value).toList) p 72 (chCells g (c.pend r row pr bl) (m.pend aP cP aE cE lP)) := by
 have h1 := h.setCells (#[.bool r, .int .i64 (row : Int), .slice aP pr.length cP, .slice aE bl.length cE] : Array Value).toList 7
 have e : setList (chCells g c m) 7 (#[.bool r, .int .i64 (row : Int), .slice aP pr.length cP, .slice aE bl.length cE] : Array Value).toList = chCells g (c.pend r row pr bl) (m.pend aP cP aE cE lP) := by simp [setList, chCells, Ch.pend, Cm.pend]
 rw [e] at h1
 exact h1
def BgT (ρ : Nat → Nat) (p : Nat) (g : Gm) (s : Sc) (t : Nat) (c' : Ch) (m' : Cm) (w : World) (e : Ending) (w' : World) : Prop :=
 e = .returned (.tuple #[]) ∧ CRow w' p 72 (chCells g c' m') ∧ Pt ρ w' p g s c' m' ∧ Btw (fun j => j = p ∨ j = t) w w'
set_option maxHeartbeats 4000000 in
theorem begin_any (r : Bool) (row : Nat) (pr : List Pr) (bl : List Nat) (aP : Option Addr) (cP : Nat) (aE : Option Addr) (cE : Nat) (lP : List Rp) (hs : SG g s) (hz : c.bz ≤ 1099511627776) (hp : Pt ρ w p g s (c.pend r row pr bl) (m.pend aP cP aE cE lP)) (h : CRow w p 72 (chCells g c m)) :
  Calls Tryz.prog 160 #[.pointer (some ⟨p, 0, none⟩), .agg #[.bool r, .int .i64 (row : Int), .slice aP pr.length cP, .slice aE bl.length cE]] w (BgT ρ p g s m.t ((c.pend r row pr bl).begun s) (m.pend aP cP aE cE lP).enter w) := by
 have HN := nb_is hs.ok c
 have HBZ := Lib.hid (fun W (ht : Tel W m.t m.lo m.hi s (c.bz : Int) (c.wk : Int)) => Busy_any m.t m.lo m.hi s c.bz (c.wk : Int) W ht hs.short hs.ok hz)
 rw [HN.1] at HBZ
 have N1 := Lib.hid (below_new w (.cells #[.bool r, .int .i64 (row : Int), .slice aP pr.length cP, .slice aE bl.length cE] 63))
 have Z1 := Lib.hid (CRow.new w #[.bool r, .int .i64 (row : Int), .slice aP pr.length cP, .slice aE bl.length cE] 63)
 have C1 := Lib.hid (h.below N1.out)
 have P0 := Lib.hid hp
 have hne : p ≠ w.heap.size := by have := h.lt; omega
 have x17 := C1.out.cell_at 17 (.bool c.fail) rfl
 have f17 := C1.out.frozen 17
 cases hth : c.there with
 | true =>
  have x13 : (w.alloc (.cells #[.bool r, .int .i64 (row : Int), .slice aP pr.length cP, .slice aE bl.length cE] 63)).cell? ⟨p, 13, none⟩ = some (.bool true) := by
   have h0 := C1.out.cell_at 13 (.bool c.there) rfl
   rw [hth] at h0
   exact h0
  have CX := Lib.hid (show CRow ((w.alloc (.cells #[.bool r, .int .i64 (row : Int), .slice aP pr.length cP, .slice aE bl.length cE] 63)).setCell ⟨p, 17, none⟩ (.bool false)) p 72 (chCells g { c with fail := false, prev := c.prev && c.there } m) by
   have h0 := C1.out.setCell 17 (.bool false)
   have e : (chCells g c m).setIfInBounds 17 (.bool false) = chCells g { c with fail := false, prev := c.prev && c.there } m := by simp [chCells, hth]
   rw [e] at h0
   exact h0)
  have ZX := Lib.hid (Z1.out.setCell_other (p := ⟨p, 17, none⟩) (fun e => hne e.symm) (.bool false))
  have XX := Lib.hid ((Btw.refl (I := fun j => j = p) (w.alloc (.cells #[.bool r, .int .i64 (row : Int), .slice aP pr.length cP, .slice aE bl.length cE] 63))).setCell (p := ⟨p, 17, none⟩) (v := .bool false) rfl)
  clear h hp hs hz HN hth Z1
  go_enter Tryz.func160, Tryz.ntmps160
  have x20z0 := ZX.out.cell_at 0 _ rfl
  have x20z1 := ZX.out.cell_at 1 _ rfl
  have x20z2 := ZX.out.cell_at 2 _ rfl
  have x20z3 := ZX.out.cell_at 3 _ rfl
  have T4 := Lib.hid (CX.out.there 7 (#[.bool r, .int .i64 (row : Int), .slice aP pr.length cP, .slice aE bl.length cE] : Array Value).size (by simp [chCells]))
  have C4 := Lib.hid (pend_row (r := r) (row := row) (pr := pr) (bl := bl) (aP := aP) (cP := cP) (aE := aE) (cE := cE) (lP := lP) CX.out)
  have X4 := Lib.hid (Btw.setCells (I := fun j => j = p) (g := p) rfl (#[.bool r, .int .i64 (row : Int), .slice aP pr.length cP, .slice aE bl.length cE] : Array Value).toList 7 XX.out)
  have P4 := Lib.hid ((P0.out.below N1.out).btw X4.out (fun j e => e ▸ P0.out.rp))
  have x26 := C4.out.cell_at 26 (.pointer (some ⟨m.t, 0, none⟩)) rfl
  go_wp2_with (with_reducible refine (?_ : wpList _ _ _ ({ dst := _, op := Op.store 63 _ _, type := _, pos := _, after := _, guard := _ } :: _) _ _); apply wpList_store_mid rfl 63 (.tmp 23) (.tmp 20) rfl p 7 #[.bool r, .int .i64 (row : Int), .slice aP pr.length cP, .slice aE bl.length cE] (by simp [Act.eval]) (by simp [Act.eval]) T4.out size_work (by simp [Value.oneCell']))
  clear x20z0 x20z1 x20z2 x20z3
  generalize ((w.alloc (.cells #[.bool r, .int .i64 (row : Int), .slice aP pr.length cP, .slice aE bl.length cE] 63)).setCell ⟨p, 17, none⟩ (.bool false)).setCells p 7 (#[.bool r, .int .i64 (row : Int), .slice aP pr.length cP, .slice aE bl.length cE] : Array Value).toList = w4 at *
  clear x26
  refine (HBZ.out _ P4.out.tel).mono ?_
  rintro _ w5 ⟨rfl, hb, ht⟩
  have C5 := Lib.hid (C4.out.btw hb P4.out.ne_q.2.2)
  have P5 := Lib.hid (P4.out.teller (bz := c.bz + 1) (wk := c.wk) hb (by push_cast; exact ht))
  have B5 := Lib.hid (((Btw.of_below (I := fun j => j = p ∨ j = m.t) N1.out).trans X4.out (fun _ _ h => .inl h)).trans hb (fun _ _ h => .inr h))
  have x6 := C5.out.cell_at 6 (.int .i64 (c.busy : Int)) rfl
  have f6 := C5.out.frozen 6
  have C6 := Lib.hid (C5.out.setCell 6 (.int .i64 ((nb s c : Nat) : Int)))
  have P6 := Lib.hid (P5.out.set 6 (.int .i64 ((nb s c : Nat) : Int)))
  have B6 := Lib.hid (B5.out.setCell (p := ⟨p, 6, none⟩) (v := .int .i64 ((nb s c : Nat) : Int)) (.inl rfl))
  have C7 := Lib.hid (show CRow (w5.setCell ⟨p, 6, none⟩ (.int .i64 ((nb s c : Nat) : Int))) p 72 (chCells g { c.pend r row pr bl with fail := false, prev := c.prev && c.there, busy := nb s c, bz := c.bz + 1 } (m.pend aP cP aE cE lP)) by
   have h0 := C6.out
   have e : (chCells g (({ c with fail := false, prev := c.prev && c.there } : Ch).pend r row pr bl) (m.pend aP cP aE cE lP)).setIfInBounds 6 (.int .i64 ((nb s c : Nat) : Int)) = chCells g { c.pend r row pr bl with fail := false, prev := c.prev && c.there, busy := nb s c, bz := c.bz + 1 } (m.pend aP cP aE cE lP) := by simp [chCells, Ch.pend]
   rw [e] at h0
   exact h0)
  clear hb ht HBZ C4 P4 X4 C6 C5 P5 B5
  go_wp2_with fail
  clear x6 f6
  refine (enter_any 1 C7.out).mono ?_
  rintro _ w8 ⟨rfl, h8, b8⟩
  have C8 := Lib.hid h8
  have P8 := Lib.hid (show Pt ρ w8 p g s ((c.pend r row pr bl).begun s) (m.pend aP cP aE cE lP).enter from { ((P6.out.btw b8 (fun j e => e ▸ P6.out.rp)).enter 1) with })
  have B8 := Lib.hid (B6.out.trans b8 (fun _ _ h => .inl h))
  clear h8 b8
  go_wp2
  go_end0
  exact ⟨rfl, C8.out, P8.out, B8.out⟩
 | false =>
  have x13 : (w.alloc (.cells #[.bool r, .int .i64 (row : Int), .slice aP pr.length cP, .slice aE bl.length cE] 63)).cell? ⟨p, 13, none⟩ = some (.bool false) := by
   have h0 := C1.out.cell_at 13 (.bool c.there) rfl
   rw [hth] at h0
   exact h0
  have x18 := C1.out.cell_at 18 (.bool c.prev) rfl
  have f18 := C1.out.frozen 18
  have CX := Lib.hid (show CRow (((w.alloc (.cells #[.bool r, .int .i64 (row : Int), .slice aP pr.length cP, .slice aE bl.length cE] 63)).setCell ⟨p, 17, none⟩ (.bool false)).setCell ⟨p, 18, none⟩ (.bool false)) p 72 (chCells g { c with fail := false, prev := c.prev && c.there } m) by
   have h0 := (C1.out.setCell 17 (.bool false)).setCell 18 (.bool false)
   have e : ((chCells g c m).setIfInBounds 17 (.bool false)).setIfInBounds 18 (.bool false) = chCells g { c with fail := false, prev := c.prev && c.there } m := by simp [chCells, hth]
   rw [e] at h0
   exact h0)
  have ZX := Lib.hid ((Z1.out.setCell_other (p := ⟨p, 17, none⟩) (fun e => hne e.symm) (.bool false)).setCell_other (p := ⟨p, 18, none⟩) (fun e => hne e.symm) (.bool false))
  have XX := Lib.hid (((Btw.refl (I := fun j => j = p) (w.alloc (.cells #[.bool r, .int .i64 (row : Int), .slice aP pr.length cP, .slice aE bl.length cE] 63))).setCell (p := ⟨p, 17, none⟩) (v := .bool false) rfl).setCell (p := ⟨p, 18, none⟩) (v := .bool false) rfl)
  clear h hp hs hz HN hth Z1
  go_enter Tryz.func160, Tryz.ntmps160
  have x20z0 := ZX.out.cell_at 0 _ rfl
  have x20z1 := ZX.out.cell_at 1 _ rfl
  have x20z2 := ZX.out.cell_at 2 _ rfl
  have x20z3 := ZX.out.cell_at 3 _ rfl
  have T4 := Lib.hid (CX.out.there 7 (#[.bool r, .int .i64 (row : Int), .slice aP pr.length cP, .slice aE bl.length cE] : Array Value).size (by simp [chCells]))
  have C4 := Lib.hid (pend_row (r := r) (row := row) (pr := pr) (bl := bl) (aP := aP) (cP := cP) (aE := aE) (cE := cE) (lP := lP) CX.out)
  have X4 := Lib.hid (Btw.setCells (I := fun j => j = p) (g := p) rfl (#[.bool r, .int .i64 (row : Int), .slice aP pr.length cP, .slice aE bl.length cE] : Array Value).toList 7 XX.out)
  have P4 := Lib.hid ((P0.out.below N1.out).btw X4.out (fun j e => e ▸ P0.out.rp))
  have x26 := C4.out.cell_at 26 (.pointer (some ⟨m.t, 0, none⟩)) rfl
  go_wp2_with (with_reducible refine (?_ : wpList _ _ _ ({ dst := _, op := Op.store 63 _ _, type := _, pos := _, after := _, guard := _ } :: _) _ _); apply wpList_store_mid rfl 63 (.tmp 23) (.tmp 20) rfl p 7 #[.bool r, .int .i64 (row : Int), .slice aP pr.length cP, .slice aE bl.length cE] (by simp [Act.eval]) (by simp [Act.eval]) T4.out size_work (by simp [Value.oneCell']))
  clear x20z0 x20z1 x20z2 x20z3
  generalize (((w.alloc (.cells #[.bool r, .int .i64 (row : Int), .slice aP pr.length cP, .slice aE bl.length cE] 63)).setCell ⟨p, 17, none⟩ (.bool false)).setCell ⟨p, 18, none⟩ (.bool false)).setCells p 7 (#[.bool r, .int .i64 (row : Int), .slice aP pr.length cP, .slice aE bl.length cE] : Array Value).toList = w4 at *
  clear x26
  refine (HBZ.out _ P4.out.tel).mono ?_
  rintro _ w5 ⟨rfl, hb, ht⟩
  have C5 := Lib.hid (C4.out.btw hb P4.out.ne_q.2.2)
  have P5 := Lib.hid (P4.out.teller (bz := c.bz + 1) (wk := c.wk) hb (by push_cast; exact ht))
  have B5 := Lib.hid (((Btw.of_below (I := fun j => j = p ∨ j = m.t) N1.out).trans X4.out (fun _ _ h => .inl h)).trans hb (fun _ _ h => .inr h))
  have x6 := C5.out.cell_at 6 (.int .i64 (c.busy : Int)) rfl
  have f6 := C5.out.frozen 6
  have C6 := Lib.hid (C5.out.setCell 6 (.int .i64 ((nb s c : Nat) : Int)))
  have P6 := Lib.hid (P5.out.set 6 (.int .i64 ((nb s c : Nat) : Int)))
  have B6 := Lib.hid (B5.out.setCell (p := ⟨p, 6, none⟩) (v := .int .i64 ((nb s c : Nat) : Int)) (.inl rfl))
  have C7 := Lib.hid (show CRow (w5.setCell ⟨p, 6, none⟩ (.int .i64 ((nb s c : Nat) : Int))) p 72 (chCells g { c.pend r row pr bl with fail := false, prev := c.prev && c.there, busy := nb s c, bz := c.bz + 1 } (m.pend aP cP aE cE lP)) by
   have h0 := C6.out
   have e : (chCells g (({ c with fail := false, prev := c.prev && c.there } : Ch).pend r row pr bl) (m.pend aP cP aE cE lP)).setIfInBounds 6 (.int .i64 ((nb s c : Nat) : Int)) = chCells g { c.pend r row pr bl with fail := false, prev := c.prev && c.there, busy := nb s c, bz := c.bz + 1 } (m.pend aP cP aE cE lP) := by simp [chCells, Ch.pend]
   rw [e] at h0
   exact h0)
  clear hb ht HBZ C4 P4 X4 C6 C5 P5 B5
  go_wp2_with fail
  clear x6 f6
  refine (enter_any 1 C7.out).mono ?_
  rintro _ w8 ⟨rfl, h8, b8⟩
  have C8 := Lib.hid h8
  have P8 := Lib.hid (show Pt ρ w8 p g s ((c.pend r row pr bl).begun s) (m.pend aP cP aE cE lP).enter from { ((P6.out.btw b8 (fun j e => e ▸ P6.out.rp)).enter 1) with })
  have B8 := Lib.hid (B6.out.trans b8 (fun _ _ h => .inl h))
  clear h8 b8
  go_wp2
  go_end0
  exact ⟨rfl, C8.out, P8.out, B8.out⟩
end
def Ch.addr2 (c : Ch) (k : Nat) : Nat := c.listed.getD k 0 + 256 * c.listed.getD (k + 1) 0
theorem drop_two {l : List Nat} {k : Nat} (h : l.length = k + 2) : l.drop k = [l.getD k 0, l.getD (k + 1) 0] := by
 apply List.ext_getElem?
 intro i
 rw [List.getElem?_drop]
 match i with
 | 0 => simp [List.getD, show k < l.length by omega]
 | 1 => simp [List.getD, show k + 1 < l.length by omega]
 | i + 2 => rw [List.getElem?_eq_none (by omega)]; simp
theorem take_two {l : List Nat} (h : 2 ≤ l.length) : l.take 2 = [l.getD 0 0, l.getD 1 0] := by
 apply List.ext_getElem?
 intro i
 rw [List.getElem?_take]
 match i with
 | 0 => simp [List.getD, show 0 < l.length by omega]
 | 1 => simp [List.getD, show 1 < l.length by omega]
 | i + 2 => rw [if_neg (by omega)]; simp
section
variable {ρ : Nat → Nat} {w : World} {p : Nat} {g : Gm} {s : Sc} {c : Ch} {m : Cm}
set_option maxHeartbeats 2000000 in
theorem row_any (k : Nat) (hk : c.listed.length = k + 2) (hk4 : k ≤ 2) (hp : Pt ρ w p g s c m) (h : CRow w p 72 (chCells g c m)) :
  Calls Tryz.prog 158 #[.pointer (some ⟨p, 0, none⟩)] w (Gives (.tuple #[.int .i64 (c.addr2 k : Int), .bool (decide (c.addr2 k < g.b.toNat * g.s.toNat))]) w) := by
 obtain ⟨ti, hti, hz0, hz1, hz2⟩ := info_parts info_u8
 obtain ⟨zL, hzL⟩ : ∃ zL, zL = m.aL := ⟨_, rfl⟩
 have x1 : w.cell? ⟨p, 1, none⟩ = some (.slice zL (k + 2) m.cL) := by rw [hzL, ← hk]; exact h.cell_at 1 _ rfl
 have hcap := own_cap hp.lis
 have HSF := run_slice_from (P := Tryz.prog) Tryz.underlying26 hti (by kernel_rfl) zL (k + 2) m.cL k (by omega)
 rw [show k + 2 - k = 2 by omega] at HSF
 have hr := (R8.own hp.lis hp.l8).cutA k m.cL (by omega) (by omega)
 rw [hk, show k + 2 - k = 2 by omega, drop_two hk, ← hzL] at hr
 have HR := Lib.hid hr
 have RW0 := Lib.hid h
 generalize cutA zL m.cL k = zC at *
 have hbd := Gm.bounds_of hp.arr.ok
 have hgs : g.s = (g.s.toNat : Int) := by omega
 have hgb : g.b = (g.b.toNat : Int) := by omega
 have X1 := Lib.hid x1
 have HNO := Lib.hid (fun W hr => Number_yes zC (m.cL - k) (c.listed.getD k 0) (c.listed.getD (k + 1) 0) W hr)
 have hadr : c.listed.getD k 0 + 256 * c.listed.getD (k + 1) 0 = c.addr2 k := rfl
 rw [hadr] at HNO
 have hiff : (c.addr2 k < g.b.toNat * g.s.toNat) ↔ g.hasRow (c.addr2 k : Int) := by
  have e : g.b * g.s = ((g.b.toNat * g.s.toNat : Nat) : Int) := by rw [Int.natCast_mul, ← hgb, ← hgs]
  unfold Gm.hasRow
  rw [e]
  exact ⟨fun h1 => ⟨hp.arr.ok, by omega, by omega⟩, fun h1 => by omega⟩
 have HSP : ∃ u v : Int, ∀ W, Calls Tryz.prog 78 #[g.val, .int .i64 (c.addr2 k : Int)] W (Gives (.tuple #[.int .i64 u, .int .i64 v, .bool (decide (c.addr2 k < g.b.toNat * g.s.toNat))]) W) := by
  by_cases hh : g.hasRow (c.addr2 k : Int)
  ·
   exact ⟨_, _, fun W => by rw [decide_eq_true (hiff.2 hh)]; exact Split_yes g _ hh W⟩
  ·
   exact ⟨_, _, fun W => by rw [decide_eq_false (fun h1 => hh (hiff.1 h1))]; exact Split_no g _ hh W⟩
 obtain ⟨u9, v9, HSP⟩ := HSP
 have HSP := Lib.hid HSP
 simp only [Gm.val] at HSP
 have w1 : IntKind.i64.wrap ((k : Int) + 2 - 2) = (k : Int) := by rw [IntWalk.i64_in _ (by omega)]; omega
 have w3 : IntKind.i64.wrap (k : Int) = (k : Int) := IntWalk.i64_in _ (by omega)
 generalize c.addr2 k = a at *
 generalize decide (a < g.b.toNat * g.s.toNat) = bb at *
 clear x1 h hp hk hzL hr hbd hgs hgb hiff hadr hcap
 go_enter Tryz.func158, Tryz.ntmps158
 go_wp2
 refine wp_region_noPanic ?_
 refine wp_region_held_drew (S := fun w' => Below w.heap.size w w') (by kernel_rfl) ((Below.refl _ _).drew) (fun C0 => ?_)
 refine tkH4 0 C0 ?_
 refine tkH4 1 C0 ?_
 refine tkH4 2 C0 ?_
 refine tkH4 3 C0 ?_
 refine tkH4 4 C0 ?_ (hy := fun W' hSw => by have y1 : W'.cell? ⟨p, 1, none⟩ = some (.slice zL (k + 2) m.cL) := (hSw.cell (show (⟨p, 1, none⟩ : Addr).block < w.heap.size from RW0.out.lt)).trans X1.out; clear hSw; go_simp <;> with_reducible rfl)
 refine tkH4 5 C0 ?_
 refine tkH4 6 C0 ?_
 refine tkH4 7 C0 ?_
 refine tkH4 8 C0 ?_
 refine tkH4 9 C0 ?_ (hy := fun W' hSw => by have y1 : W'.cell? ⟨p, 1, none⟩ = some (.slice zL (k + 2) m.cL) := (hSw.cell (show (⟨p, 1, none⟩ : Addr).block < w.heap.size from RW0.out.lt)).trans X1.out; clear hSw; go_simp <;> with_reducible rfl)
 refine tkH4 10 C0 ?_
 refine tkH4 11 C0 ?_
 refine tkH4 12 C0 ?_
 refine wpAnyH_ready (rs := [13]) (by kernel_rfl) (by simp) ?_
 refine AllReadyH.cons (o := { dst := some 23, op := Op.call { callee := Callee.value (Operand.func 53), args := #[Operand.tmp 22], argTypes := #[26] }, type := 47, pos := "cycles.go:247", after := #[{ on := 12, ground := Ground.data }], guard := none }) rfl (fun K hK => ?_) AllReadyH.nil
 go_simp
 refine (HNO.out _ (HR.out.below ((Below.refl _ _).drew))).mono ?_
 intro _ w2 hq
 obtain ⟨rfl, D2⟩ := hq.at_
 have B2 := Lib.hid (show Below w.heap.size w w2 from ((Below.refl _ _).drew).trans (D2.out.mono (Nat.le_refl _)))
 clear hq D2
 go_wp2_with fail
 refine hK.out _ _ B2.out (fun C1 => ?_)
 clear hK K
 try simp only [Act.put, zzI, zzO, zzS]
 refine tkH4 14 C1 ?_
 refine tkH4 15 C1 ?_
 refine tkH4 16 C1 ?_
 refine tkH4 17 C1 ?_
 refine tkH4 18 C1 ?_
 refine wpAnyH_done (by kernel_rfl) ?_ _
 refine NoPanic.normal ?_
 have C2 := Lib.hid (RW0.out.below B2.out)
 have x19 := C2.out.cell_at 19 (.int .i64 g.p) rfl
 have x20 := C2.out.cell_at 20 (.int .i64 g.b) rfl
 have x21 := C2.out.cell_at 21 (.int .i64 g.s) rfl
 have x22 := C2.out.cell_at 22 (.int .i64 g.c) rfl
 have x23 := C2.out.cell_at 23 (.int .i64 g.k) rfl
 have x24 := C2.out.cell_at 24 (.int .i64 g.r) rfl
 have x25 := C2.out.cell_at 25 (.int .i64 g.q) rfl
 go_wp2_with fail
 clear x19 x20 x21 x22 x23 x24 x25
 refine (HSP.out _).mono ?_
 rintro _ w3 ⟨rfl, hb⟩
 have B3 := Lib.hid (below_step B2.out hb)
 clear hb
 go_wp2
 go_ret2
 exact ⟨rfl, B3.out⟩
end
section
variable {ρ : Nat → Nat} {I : Nat → Prop} {w : World} {p : Nat} {g : Gm} {s : Sc} {c : Ch} {m : Cm}
set_option maxHeartbeats 4000000 in
theorem start_any (r : Bool) (row : Nat) (pr : List Pr) (bl : List Nat) (aP : Option Addr) (cP : Nat) (aE : Option Addr) (cE : Nat) (lP : List Rp) (hs : SG g s) (hz : c.bz ≤ 1099511627776) (hp : Pt ρ w p g s (c.discard.pend r row pr bl) (m.discard.pend aP cP aE cE lP)) (h : CRow w p 72 (chCells g c m)) :
  Calls Tryz.prog 146 #[.pointer (some ⟨p, 0, none⟩), .agg #[.bool r, .int .i64 (row : Int), .slice aP pr.length cP, .slice aE bl.length cE]] w (BgT ρ p g s m.t ((c.discard.pend r row pr bl).begun s) (m.discard.pend aP cP aE cE lP).enter w) := by
 have HS := Lib.hid hs
 have HZ := Lib.hid hz
 have N1 := Lib.hid (below_new w (.cells #[.bool r, .int .i64 (row : Int), .slice aP pr.length cP, .slice aE bl.length cE] 63))
 have Z1 := Lib.hid (CRow.new w #[.bool r, .int .i64 (row : Int), .slice aP pr.length cP, .slice aE bl.length cE] 63)
 have C1 := Lib.hid (h.below N1.out)
 have P1 := Lib.hid (hp.below N1.out)
 have hne : w.heap.size ≠ p := by have := h.lt; omega
 clear h hp hs hz
 go_enter Tryz.func146, Tryz.ntmps146
 go_wp2_with fail
 refine (discard_any C1.out).mono ?_
 rintro _ w2 ⟨rfl, hc, hb⟩
 have C2 := Lib.hid hc
 have P2 := Lib.hid (P1.out.btw hb (fun j e => e ▸ P1.out.rp))
 have Z2 := Lib.hid (Z1.out.btw hb hne)
 have B2 := Lib.hid ((Btw.of_below (I := fun j => j = p ∨ j = m.t) N1.out).trans hb (fun _ _ h => .inl h))
 clear hc hb C1 P1 Z1
 have z0 := Z2.out.cell_at 0 _ rfl
 have z1 := Z2.out.cell_at 1 _ rfl
 have z2 := Z2.out.cell_at 2 _ rfl
 have z3 := Z2.out.cell_at 3 _ rfl
 go_wp2_with fail
 clear z0 z1 z2 z3
 refine (begin_any (c := c.discard) (m := m.discard) r row pr bl aP cP aE cE lP HS.out HZ.out P2.out C2.out).mono ?_
 rintro _ w3 ⟨rfl, hc, hp, hb⟩
 have C3 := Lib.hid hc
 have P3 := Lib.hid hp
 have B3 := Lib.hid (B2.out.trans hb (fun _ _ h => h))
 clear hc hp hb
 go_wp2
 go_end0
 exact ⟨rfl, C3.out, P3.out, B3.out⟩
end
section
variable {ρ : Nat → Nat} {I : Nat → Prop} {w : World} {p : Nat} {g : Gm} {s : Sc} {c : Ch} {m : Cm}
set_option maxHeartbeats 2000000 in
theorem listedColumn_any (hk : 2 ≤ c.listed.length) (hp : Pt ρ w p g s c m) (h : CRow w p 72 (chCells g c m)) :
  Calls Tryz.prog 147 #[.pointer (some ⟨p, 0, none⟩)] w (Gives (.int .i64 (c.addr2 0 : Int)) w) := by
 obtain ⟨ti, hti, hz0, hz1, hz2⟩ := info_parts info_u8
 obtain ⟨zL, hzL⟩ : ∃ zL, zL = m.aL := ⟨_, rfl⟩
 obtain ⟨n, hn⟩ : ∃ n, n = c.listed.length := ⟨_, rfl⟩
 have x1 : w.cell? ⟨p, 1, none⟩ = some (.slice zL n m.cL) := by rw [hzL, hn]; exact h.cell_at 1 _ rfl
 have hcap := own_cap hp.lis
 have HSF := run_slice_to (P := Tryz.prog) Tryz.underlying26 hti (by kernel_rfl) zL n m.cL 2 (by omega)
 rw [show ((2 : Nat) : Int) = 2 from rfl] at HSF
 have hr := (R8.own hp.lis hp.l8).take_ 2 (by omega)
 rw [take_two hk, ← hzL] at hr
 have HR := Lib.hid hr
 have RW0 := Lib.hid h
 have HNO := Lib.hid (fun W hr => Number_yes zL m.cL (c.listed.getD 0 0) (c.listed.getD 1 0) W hr)
 have hadr : c.listed.getD 0 0 + 256 * c.listed.getD 1 0 = c.addr2 0 := rfl
 rw [hadr] at HNO
 generalize c.addr2 0 = a at *
 clear h hp hk hzL hr hadr hcap hn
 go_enter Tryz.func147, Tryz.ntmps147
 go_wp2_with fail
 refine (HNO.out _ HR.out).mono ?_
 intro _ w2 hq
 obtain ⟨rfl, D2⟩ := hq.at_
 clear hq
 go_wp2
 go_ret
 exact ⟨rfl, D2.out⟩
def Ch.endFetch (s : Sc) (c : Ch) : Ch := (({ c with col := c.addr2 0 } : Ch).discard.pend true (c.addr2 2) [] []).begun s
def Ch.endMove (c : Ch) : Ch := ({ c with col := c.addr2 0 } : Ch).enter 7
theorem Pt.pend0 (h : Pt ρ w p g s c m) (r : Bool) (row : Nat) : Pt ρ w p g s (c.pend r row [] []) (m.pend none 0 none 0 []) :=
 {
  h with
  pro := ⟨rfl, .inl ⟨rfl, rfl⟩⟩
  py := rfl
  rpr := fun k hk => by cases hk
  blk := ⟨rfl, .inl ⟨rfl, rfl⟩⟩
  rbl := fun k hk => by cases hk
  raws := fun x hx => h.raws x (List.mem_append_left _ (by simpa [Cm.pend] using hx)) }
theorem CH.own_ {ρ : Nat → Nat} {m : Cm} {w' : World} {J : Nat → Prop} (hi : CI ρ I w) (hp : Pt ρ w p g s c m) (hb : Btw J w w') (hJ : ∀ j, J j → Own4 m p j) : Btw I w w' :=
 (Btw.refl w).trans hb (fun j _ h => by have := hp.own4 j (hJ j h); exact hi.own j (by omega) (by omega))
set_option maxHeartbeats 2000000 in
theorem endFetch_any (b : Int) (hs : SG g s) (hz : c.bz ≤ 1099511627776) (hl : c.listed.length = 4) (h : CH I w p g s c) :
  Calls Tryz.prog 140 #[.pointer (some ⟨p, 0, none⟩), .int .u8 b] w (Acts I p g s (.bool (decide (b = 48 ∧ c.addr2 2 < g.b.toNat * g.s.toNat))) (if b = 48 ∧ c.addr2 2 < g.b.toNat * g.s.toNat then c.endFetch s else c) w) := by
 obtain ⟨ρ, m, hc, hp, hi⟩ := h
 have HS := Lib.hid hs
 have HZ := Lib.hid hz
 have HL := Lib.hid hl
 have HR := Lib.hid (row_any 2 hl (by omega) hp hc)
 have C0 := Lib.hid hc
 have P0 := Lib.hid hp
 have I0 := Lib.hid hi
 clear hc hp hi hs hz hl
 by_cases hok : c.addr2 2 < g.b.toNat * g.s.toNat
 rotate_left
 ·
  rw [decide_eq_false hok] at HR
  have e1 : decide (b = 48 ∧ c.addr2 2 < g.b.toNat * g.s.toNat) = false := decide_eq_false fun h => hok h.2
  have e2 : (if b = 48 ∧ c.addr2 2 < g.b.toNat * g.s.toNat then c.endFetch s else c) = c := if_neg fun h => hok h.2
  rw [e1, e2]
  clear e1 e2 hok
  go_enter Tryz.func140, Tryz.ntmps140
  go_wp2_with fail
  refine HR.out.mono ?_
  rintro _ w1 ⟨rfl, hb⟩
  have H1 := Lib.hid (show CH I w1 p g s c from ⟨ρ, m, C0.out.below hb, P0.out.below hb, I0.out.grow hb.size⟩)
  have B1 := Lib.hid hb
  clear hb HR
  by_cases h48 : b = 48
  ·
   subst h48
   go_wp2
   go_ret
   exact ⟨rfl, H1.out, Btw.of_below B1.out⟩
  ·
   have e1 : (b == 48) = false := by rw [beq_eq_false_iff_ne]; exact h48
   go_wp2
   go_ret
   exact ⟨rfl, H1.out, Btw.of_below B1.out⟩
 rw [decide_eq_true hok] at HR
 by_cases h48 : b = 48
 rotate_left
 ·
  have e1 : decide (b = 48 ∧ c.addr2 2 < g.b.toNat * g.s.toNat) = false := decide_eq_false fun h => h48 h.1
  have e2 : (if b = 48 ∧ c.addr2 2 < g.b.toNat * g.s.toNat then c.endFetch s else c) = c := if_neg fun h => h48 h.1
  rw [e1, e2]
  have e3 : (b == 48) = false := by rw [beq_eq_false_iff_ne]; exact h48
  clear e1 e2 hok
  go_enter Tryz.func140, Tryz.ntmps140
  go_wp2_with fail
  refine HR.out.mono ?_
  rintro _ w1 ⟨rfl, hb⟩
  have H1 := Lib.hid (show CH I w1 p g s c from ⟨ρ, m, C0.out.below hb, P0.out.below hb, I0.out.grow hb.size⟩)
  have B1 := Lib.hid hb
  clear hb HR
  go_wp2
  go_ret
  exact ⟨rfl, H1.out, Btw.of_below B1.out⟩
 subst h48
 have e1 : decide ((48 : Int) = 48 ∧ c.addr2 2 < g.b.toNat * g.s.toNat) = true := decide_eq_true ⟨rfl, hok⟩
 have e2 : (if (48 : Int) = 48 ∧ c.addr2 2 < g.b.toNat * g.s.toNat then c.endFetch s else c) = c.endFetch s := if_pos ⟨rfl, hok⟩
 rw [e1, e2]
 clear e1 e2 hok
 have HLC := Lib.hid (fun W (hp : Pt ρ W p g s c m) (h : CRow W p 72 (chCells g c m)) => listedColumn_any (by have := HL.out; omega) hp h)
 obtain ⟨a2, ha2⟩ : ∃ a2, a2 = c.addr2 2 := ⟨_, rfl⟩
 obtain ⟨a0, ha0⟩ : ∃ a0, a0 = c.addr2 0 := ⟨_, rfl⟩
 have HE := Lib.hid (show c.endFetch s = (({ c with col := a0 } : Ch).discard.pend true a2 [] []).begun s by rw [ha2, ha0]; rfl)
 rw [← ha2] at HR
 rw [← ha0] at HLC
 clear ha2 ha0
 go_enter Tryz.func140, Tryz.ntmps140
 go_wp2_with fail
 refine HR.out.mono ?_
 rintro _ w1 ⟨rfl, hb⟩
 have C1 := Lib.hid (C0.out.below hb)
 have P1 := Lib.hid (P0.out.below hb)
 have B1 := Lib.hid hb
 clear hb HR
 go_wp2_with fail
 refine (HLC.out _ P1.out C1.out).mono ?_
 rintro _ w2 ⟨rfl, hb⟩
 have C2 := Lib.hid (C1.out.below hb)
 have P2 := Lib.hid (P1.out.below hb)
 have B2 := Lib.hid (below_step B1.out hb)
 clear hb HLC C1 P1 B1
 have x4 := C2.out.cell_at 4 (.int .i64 (c.col : Int)) rfl
 have f4 := C2.out.frozen 4
 have C3 := Lib.hid (show CRow (w2.setCell ⟨p, 4, none⟩ (.int .i64 (a0 : Int))) p 72 (chCells g { c with col := a0 } m) by
  have h0 := C2.out.setCell 4 (.int .i64 (a0 : Int))
  have e : (chCells g c m).setIfInBounds 4 (.int .i64 (a0 : Int)) = chCells g { c with col := a0 } m := by simp [chCells]
  rw [e] at h0
  exact h0)
 have P3 := Lib.hid (show Pt ρ (w2.setCell ⟨p, 4, none⟩ (.int .i64 (a0 : Int))) p g s { c with col := a0 } m from { P2.out.set 4 (.int .i64 (a0 : Int)) with })
 have X3 := Lib.hid ((Btw.of_below (I := Own4 m p) B2.out).setCell (p := ⟨p, 4, none⟩) (v := .int .i64 (a0 : Int)) (.inl rfl))
 go_wp2_with fail
 clear x4 f4
 generalize w2.setCell ⟨p, 4, none⟩ (.int .i64 (a0 : Int)) = w3 at *
 refine (start_any (c := { c with col := a0 }) true a2 [] [] none 0 none 0 [] HS.out HZ.out (P3.out.discard.pend0 true a2) C3.out).mono ?_
 rintro _ w4 ⟨rfl, hc, hp, hb⟩
 have H4 := Lib.hid (show CH I w4 p g s (c.endFetch s) by rw [HE.out]; exact ⟨ρ, _, hc, hp, I0.out.grow (Nat.le_trans X3.out.size hb.size)⟩)
 have B4 := Lib.hid (CH.own_ I0.out P0.out (X3.out.trans hb (fun j _ h => by rcases h with h | h; exact .inl h; exact .inr (.inl h))) (fun _ h => h))
 clear hc hp hb
 go_wp2
 go_ret
 exact ⟨rfl, H4.out, B4.out⟩
set_option maxHeartbeats 2000000 in
theorem endMove_any (b : Int) (hl : c.listed.length = 2) (h : CH I w p g s c) :
  Calls Tryz.prog 141 #[.pointer (some ⟨p, 0, none⟩), .int .u8 b] w (Acts I p g s (.bool (decide (b = 224))) (if b = 224 then c.endMove else c) w) := by
 by_cases h1 : b = 224
 rotate_left
 ·
  have e1 : decide (b = 224) = false := decide_eq_false h1
  have e2 : (if b = 224 then c.endMove else c) = c := if_neg h1
  rw [e1, e2]
  have e3 : (b == 224) = false := by rw [beq_eq_false_iff_ne]; exact h1
  have H0 := Lib.hid h
  clear e1 e2 h
  go_enter Tryz.func141, Tryz.ntmps141
  go_wp2
  go_ret
  exact ⟨rfl, H0.out, Btw.refl w⟩
 subst h1
 have e1 : decide ((224 : Int) = 224) = true := rfl
 have e2 : (if (224 : Int) = 224 then c.endMove else c) = c.endMove := if_pos rfl
 rw [e1, e2]
 clear e1 e2
 obtain ⟨ρ, m, hc, hp, hi⟩ := h
 have HLC := Lib.hid (listedColumn_any (by omega) hp hc)
 have C0 := Lib.hid hc
 have P0 := Lib.hid hp
 have I0 := Lib.hid hi
 obtain ⟨a0, ha0⟩ : ∃ a0, a0 = c.addr2 0 := ⟨_, rfl⟩
 have HE := Lib.hid (show c.endMove = ({ c with col := a0 } : Ch).enter 7 by rw [ha0]; rfl)
 rw [← ha0] at HLC
 clear ha0 hc hp hi hl
 go_enter Tryz.func141, Tryz.ntmps141
 go_wp2_with fail
 refine HLC.out.mono ?_
 rintro _ w2 ⟨rfl, hb⟩
 have C2 := Lib.hid (C0.out.below hb)
 have P2 := Lib.hid (P0.out.below hb)
 have B2 := Lib.hid hb
 clear hb HLC
 have x4 := C2.out.cell_at 4 (.int .i64 (c.col : Int)) rfl
 have f4 := C2.out.frozen 4
 have C3 := Lib.hid (show CRow (w2.setCell ⟨p, 4, none⟩ (.int .i64 (a0 : Int))) p 72 (chCells g { c with col := a0 } m) by
  have h0 := C2.out.setCell 4 (.int .i64 (a0 : Int))
  have e : (chCells g c m).setIfInBounds 4 (.int .i64 (a0 : Int)) = chCells g { c with col := a0 } m := by simp [chCells]
  rw [e] at h0
  exact h0)
 have P3 := Lib.hid (show Pt ρ (w2.setCell ⟨p, 4, none⟩ (.int .i64 (a0 : Int))) p g s { c with col := a0 } m from { P2.out.set 4 (.int .i64 (a0 : Int)) with })
 have X3 := Lib.hid ((Btw.of_below (I := Own4 m p) B2.out).setCell (p := ⟨p, 4, none⟩) (v := .int .i64 (a0 : Int)) (.inl rfl))
 go_wp2_with fail
 clear x4 f4
 generalize w2.setCell ⟨p, 4, none⟩ (.int .i64 (a0 : Int)) = w3 at *
 refine (enter_any (c := { c with col := a0 }) 7 C3.out).mono ?_
 rintro _ w4 ⟨rfl, hc, hb⟩
 have P4 := Lib.hid ((P3.out.btw hb (fun j e => e ▸ P3.out.rp)).enter 7)
 have H4 := Lib.hid (show CH I w4 p g s c.endMove by rw [HE.out]; exact ⟨ρ, _, hc, P4.out, I0.out.grow (Nat.le_trans X3.out.size hb.size)⟩)
 have B4 := Lib.hid (CH.own_ I0.out P0.out (X3.out.trans hb (fun j _ h => .inl h)) (fun _ h => h))
 clear hc hb
 go_wp2
 go_ret
 exact ⟨rfl, H4.out, B4.out⟩
end
section
variable {ρ : Nat → Nat} {I J : Nat → Prop} {w w' : World} {p : Nat} {g : Gm} {s : Sc} {c : Ch} {m : Cm}
theorem Pt.rerole (h : Pt ρ w p g s c m) (k R : Nat) (hR : R ≠ 0) (hk : m.idle (ρ k)) (h99 : ρ k ≠ 99) : Pt (role1 ρ k R) w p g s c m := by
 have hne : ρ k ≠ 0 := by unfold Cm.idle at hk; omega
 have keep : ∀ {j n : Nat}, ρ j = n → ¬ m.idle n → role1 ρ k R j = n := fun {j n} e hn => by
  unfold role1
  rw [if_neg (fun e2 => by rw [e2] at e; exact hn (e ▸ hk))]
  exact e
 have nd : ∀ n, (n ≠ 99 ∧ n ≠ 6 ∧ n ≠ 8 ∧ n ≠ 9 ∧ n ≠ 10 ∧ n ≠ 11) → ¬ m.idle n := fun n hn hd => by unfold Cm.idle at hd; omega
 have nz : ∀ j, role1 ρ k R j ≠ 0 ↔ ρ j ≠ 0 := fun j => by
  unfold role1
  by_cases e : j = k
  ·
   rw [if_pos e, e]; exact ⟨fun _ => hne, fun _ => hR⟩
  ·
   rw [if_neg e]
 obtain ⟨b, cur, u, e1, e2, e3, e4⟩ := h.reg
 have other : ∀ {j n : Nat}, ρ j = n → (m.idle n → False) → role1 ρ k R j = n := fun e hn => keep e hn
 exact { h with
  lt := fun j hj => h.lt j ((nz j).1 hj)
  rp := keep h.rp (nd _ (by omega))
  arr := h.arr.widen (Below.refl _ _) (fun j hj => (nz j).2 hj) (fun j hj => .inl ((nz j).1 hj)) (fun j hj => h.lt j ((nz j).1 hj))
  rap := keep h.rap (nd _ (by omega))
  raq := keep h.raq (nd _ (by omega))
  rar := keep h.rar (nd _ (by omega))
  rt := fun j a b => keep (h.rt j a b) (nd _ (by omega))
  rl := fun j hj => keep (h.rl j hj) fun hd => by
   rcases hd with h0 | ⟨_, e⟩ | ⟨h1, _⟩ | ⟨h1, _⟩ | ⟨h1, _⟩ | ⟨h1, _⟩
   ·
    omega
   ·
    rw [e] at hj; cases hj
   all_goals omega
  reg := ⟨b, cur, u, e1, keep e2 (nd _ (by omega)), e3, e4⟩
  rq := fun j hj => keep (h.rq j hj) fun hd => by
   rcases hd with h0 | ⟨h1, _⟩ | ⟨_, e⟩ | ⟨h1, _⟩ | ⟨h1, _⟩ | ⟨h1, _⟩
   ·
    omega
   ·
    omega
   ·
    rw [e] at hj; cases hj
   all_goals omega
  rb := fun j hj => keep (h.rb j hj) fun hd => by
   rcases hd with h0 | ⟨h1, _⟩ | ⟨h1, _⟩ | ⟨_, e⟩ | ⟨h1, _⟩ | ⟨h1, _⟩
   ·
    omega
   ·
    omega
   ·
    omega
   ·
    rw [e] at hj; cases hj
   all_goals omega
  rpr := fun j hj => keep (h.rpr j hj) fun hd => by
   rcases hd with h0 | ⟨h1, _⟩ | ⟨h1, _⟩ | ⟨h1, _⟩ | ⟨_, e⟩ | ⟨h1, _⟩
   ·
    omega
   ·
    omega
   ·
    omega
   ·
    omega
   ·
    rw [e] at hj; cases hj
   ·
    omega
  rbl := fun j hj => keep (h.rbl j hj) fun hd => by
   rcases hd with h0 | ⟨h1, _⟩ | ⟨h1, _⟩ | ⟨h1, _⟩ | ⟨h1, _⟩ | ⟨_, e⟩
   ·
    omega
   ·
    omega
   ·
    omega
   ·
    omega
   ·
    omega
   ·
    rw [e] at hj; cases hj
  raws := fun x hx => ⟨(h.raws x hx).1, fun b off e hn => keep ((h.raws x hx).2 b off e hn) (nd _ (by omega))⟩
  rg := fun b off e hn => keep (h.rg b off e hn) (nd _ (by omega)) }
theorem Pt.grew (h : Pt ρ w p g s c m) (hb : Btw J w w') (hJ : ∀ j, J j → m.idle (ρ j) ∧ ρ j ≠ 99) (k R : Nat) (hR : R ≠ 0) (hk : (m.idle (ρ k) ∧ ρ k ≠ 99) ∨ w.heap.size ≤ k) (hlt : k < w'.heap.size) : Pt (role1 ρ k R) w' p g s c m := by
 rcases hk with hk | hk
 ·
  exact (h.btwI hb fun j hj => .inr (hJ j hj).1).rerole k R hR hk.1 hk.2
 ·
  refine h.turn hb (fun j hj => .inr (hJ j hj).1) (fun j hj => if_neg (by have := h.lt j hj; omega)) (fun j hj => ?_) fun j hj => ?_
  ·
   by_cases e : j = k
   ·
    exact .inr (by omega)
   ·
    exact .inl (by rwa [role1, if_neg e] at hj)
  ·
   by_cases e : j = k
   ·
    omega
   ·
    rw [role1, if_neg e] at hj
    exact Nat.lt_of_lt_of_le (h.lt j hj) hb.size
theorem CI.grew (h : CI ρ I w) (hs : w.heap.size ≤ w'.heap.size) (k R : Nat) (hk : (m.idle (ρ k) ∧ ρ k ≠ 99) ∨ w.heap.size ≤ k) : CI (role1 ρ k R) I w' := by
 have hI : I k := by
  rcases hk with hk | hk
  ·
   exact h.own k (by have := hk.1; unfold Cm.idle at this; omega) hk.2
  ·
   exact h.new k hk
 refine ⟨fun j h1 h2 => ?_, fun j hj => h.new j (Nat.le_trans hs hj), fun j hj => ?_⟩
 ·
  by_cases e : j = k
  ·
   rw [e]; exact hI
  ·
   rw [role1, if_neg e] at h1 h2
   exact h.own j h1 h2
 ·
  have e : j ≠ k := fun e => hj (e ▸ hI)
  rw [role1, if_neg e]
  exact h.out j hj
def Ch.next (c : Ch) : Int × Ch := if c.reg.length ≤ c.col then (255, c) else ((c.reg.getD c.col 0 : Nat), { c with col := c.col + 1 })
set_option maxHeartbeats 2000000 in
theorem next_any (hf : c.fit g) (h : CH I w p g s c) : Calls Tryz.prog 114 #[.pointer (some ⟨p, 0, none⟩)] w (Acts I p g s (.int .u8 c.next.1) c.next.2 w) := by
 obtain ⟨ρ, m, hc, hp, hi⟩ := h
 obtain ⟨br, cur, u, ea, e2, e3, e4⟩ := hp.reg
 have QC := Lib.hid hc
 have QP := Lib.hid hp
 have QI := Lib.hid hi
 obtain ⟨n, hn⟩ : ∃ n, n = c.reg.length := ⟨_, rfl⟩
 obtain ⟨k, hk⟩ : ∃ k, k = c.col := ⟨_, rfl⟩
 have x4 : w.cell? ⟨p, 4, none⟩ = some (.int .i64 (k : Int)) := by rw [hk]; exact hc.cell_at 4 _ rfl
 have x5 : w.cell? ⟨p, 5, none⟩ = some (.slice (some ⟨br, 0, none⟩) n m.cR) := by rw [hn, ← ea]; exact hc.cell_at 5 _ rfl
 have hk2 : k ≤ 65536 := by rw [hk]; exact hf.cl
 have X4 := Lib.hid x4
 have X5 := Lib.hid x5
 have RW0 := Lib.hid hc
 by_cases hb : n ≤ k
 ·
  have d1 : decide (n ≤ k) = true := decide_eq_true hb
  have d2 : decide ((n : Int) ≤ (k : Int)) = true := decide_eq_true (by omega)
  have HE := Lib.hid (show c.next = (255, c) by unfold Ch.next; rw [if_pos (by omega)])
  clear hc hp hi hf hn hk e2 e3 e4 hb x4 x5
  go_enter Tryz.func114, Tryz.ntmps114
  go_wp2
  refine wp_region_noPanic ?_
  refine wp_region_held_drew (S := fun w' => Below w.heap.size w w') (by kernel_rfl) ((Below.refl _ _).drew) (fun C0 => ?_)
  refine tkH4 0 C0 ?_
  refine tkH4 1 C0 ?_
  refine tkH4 2 C0 ?_
  refine tkH4 3 C0 ?_
  refine tkH4 4 C0 ?_ (hy := fun W' hSw => by have y4 : W'.cell? ⟨p, 4, none⟩ = some (.int .i64 (k : Int)) := (hSw.cell (show (⟨p, 4, none⟩ : Addr).block < w.heap.size from RW0.out.lt)).trans X4.out; clear hSw; go_simp <;> with_reducible rfl)
  refine tkH4 5 C0 ?_
  refine tkH4 6 C0 ?_
  refine tkH4 7 C0 ?_
  refine tkH4 8 C0 ?_
  refine tkH4 9 C0 ?_ (hy := fun W' hSw => by have y5 : W'.cell? ⟨p, 5, none⟩ = some (.slice (some ⟨br, 0, none⟩) n m.cR) := (hSw.cell (show (⟨p, 5, none⟩ : Addr).block < w.heap.size from RW0.out.lt)).trans X5.out; clear hSw; go_simp <;> with_reducible rfl)
  refine tkH4 10 C0 ?_
  refine tkH4 11 C0 ?_
  refine wpAnyH_done (by kernel_rfl) ?_ _
  refine NoPanic.normal ?_
  go_wp2
  go_ret
  rw [HE.out]
  exact ⟨rfl, ⟨ρ, m, QC.out.below C0, QP.out.below C0, QI.out.grow C0.size⟩, Btw.of_below C0⟩
 ·
  have d1 : decide (n ≤ k) = false := decide_eq_false hb
  have d2 : decide ((n : Int) ≤ (k : Int)) = false := decide_eq_false (by omega)
  have HE := Lib.hid (show c.next = (((c.reg.getD c.col 0 : Nat) : Int), { c with col := c.col + 1 }) by unfold Ch.next; rw [if_neg (by omega)])
  rw [← hn] at e4
  obtain ⟨b9, o9, x, ee, hlt, HX, hx, y0⟩ := e4.at_ (k := k) (by omega)
  injection ee with ee
  injection ee with ee1 ee2
  subst ee1
  subst ee2
  have HV := Lib.hid (show c.reg.getD c.col 0 = x by have h0 := HX.out; rw [← hk]; simp [List.getD, h0])
  have hbne : p ≠ br := fun e => by have h1 := hp.rp; rw [e, e2] at h1; omega
  have Y0 := Lib.hid (show w.cell? ⟨br, k, none⟩ = some (.int .u8 (x : Int)) by rw [← y0]; simp)
  have hbl : br < w.heap.size := hp.lt br (by omega)
  have i1 : (0 : Int) ≤ (k : Int) := by omega
  have i2 : (k : Int) < (n : Int) := by omega
  have wk : IntKind.i64.wrap ((k : Int) + 1) = (k : Int) + 1 := IntWalk.i64_in _ (by omega)
  have wk2 : IntKind.i64.wrap (k : Int) = (k : Int) := IntWalk.i64_in _ (by omega)
  have wk3 : IntKind.i64.wrap ((k : Int) + 1 - 1) = (k : Int) := by rw [show (k : Int) + 1 - 1 = k by omega]; exact wk2
  have HK := Lib.hid hk
  have HBN := Lib.hid hbne
  have HN := Lib.hid hn
  have EA := Lib.hid ea
  clear hc hp hi hf hn hk e2 e3 e4 hb HX hlt hx x4 x5 y0 ea
  go_enter Tryz.func114, Tryz.ntmps114
  go_wp2
  refine wp_region_noPanic ?_
  refine wp_region_held_drew (S := fun w' => Below w.heap.size w w') (by kernel_rfl) ((Below.refl _ _).drew) (fun C0 => ?_)
  refine tkH4 0 C0 ?_
  refine tkH4 1 C0 ?_
  refine tkH4 2 C0 ?_
  refine tkH4 3 C0 ?_
  refine tkH4 4 C0 ?_ (hy := fun W' hSw => by have y4 : W'.cell? ⟨p, 4, none⟩ = some (.int .i64 (k : Int)) := (hSw.cell (show (⟨p, 4, none⟩ : Addr).block < w.heap.size from RW0.out.lt)).trans X4.out; clear hSw; go_simp <;> with_reducible rfl)
  refine tkH4 5 C0 ?_
  refine tkH4 6 C0 ?_
  refine tkH4 7 C0 ?_
  refine tkH4 8 C0 ?_
  refine tkH4 9 C0 ?_ (hy := fun W' hSw => by have y5 : W'.cell? ⟨p, 5, none⟩ = some (.slice (some ⟨br, 0, none⟩) n m.cR) := (hSw.cell (show (⟨p, 5, none⟩ : Addr).block < w.heap.size from RW0.out.lt)).trans X5.out; clear hSw; go_simp <;> with_reducible rfl)
  refine tkH4 10 C0 ?_
  refine tkH4 11 C0 ?_
  refine wpAnyH_done (by kernel_rfl) ?_ _
  refine NoPanic.normal ?_
  have QC1 := Lib.hid (QC.out.below C0)
  have QP1 := Lib.hid (QP.out.below C0)
  have QI1 := Lib.hid (QI.out.grow C0.size)
  have x4 := QC1.out.cell_at 4 (.int .i64 (c.col : Int)) rfl
  rw [← HK.out] at x4
  have f4 := QC1.out.frozen 4
  go_wp2
  obtain ⟨w2, hw2⟩ : ∃ w2, w2 = (w.setCell ⟨p, 4, none⟩ (.int .i64 ((k : Int) + 1))).drew := ⟨_, rfl⟩
  rw [← hw2]
  have HC := Lib.hid (CH.of (I := I) (c' := { c with col := c.col + 1 }) (w' := w2) (m := m) (by
   have h0 := QC.out.setCell 4 (.int .i64 ((k : Int) + 1))
   have e : (chCells g c m).setIfInBounds 4 (.int .i64 ((k : Int) + 1)) = chCells g { c with col := c.col + 1 } m := by rw [HK.out]; simp [chCells]
   rw [e] at h0
   rw [hw2]
   exact h0.drew) QP.out QI.out (by rw [hw2]; exact ((Btw.refl (I := fun j => j = p) w).setCell (p := ⟨p, 4, none⟩) rfl).drew) fun W h => { h with })
  obtain ⟨hc2, hb2⟩ := HC.out
  have QC2 := Lib.hid (show CRow w2 p 72 (chCells g { c with col := c.col + 1 } m) by
   have h0 := QC.out.setCell 4 (.int .i64 ((k : Int) + 1))
   have e : (chCells g c m).setIfInBounds 4 (.int .i64 ((k : Int) + 1)) = chCells g { c with col := c.col + 1 } m := by rw [HK.out]; simp [chCells]
   rw [e] at h0
   rw [hw2]
   exact h0.drew)
  clear X4 X5
  have X4 := Lib.hid (show w2.cell? ⟨p, 4, none⟩ = some (.int .i64 ((k : Int) + 1)) by rw [HK.out]; exact QC2.out.cell_at 4 _ rfl)
  have X5 := Lib.hid (show w2.cell? ⟨p, 5, none⟩ = some (.slice (some ⟨br, 0, none⟩) n m.cR) by rw [HN.out, ← EA.out]; exact QC2.out.cell_at 5 _ rfl)
  have X0 := Lib.hid (show w2.cell? ⟨br, k, none⟩ = some (.int .u8 (x : Int)) by
   have hbp : Btw (fun j => j = p) w w2 := by rw [hw2]; exact ((Btw.refl (I := fun j => j = p) w).setCell (p := ⟨p, 4, none⟩) rfl).drew
   have hbk := hbp.block br hbl (fun e => HBN.out e.symm)
   refine Eq.trans ?_ Y0.out
   simp only [World.cell?, hbk])
  have HBL := Lib.hid (show br < w2.heap.size by exact Nat.lt_of_lt_of_le hbl hb2.size)
  have HF := Lib.hid (show Acts I p g s (.int .u8 (x : Int)) { c with col := c.col + 1 } w (.returned (.int .u8 (x : Int))) w2 from ⟨rfl, hc2, hb2⟩)
  have HB2 := Lib.hid hb2
  clear hc2 hb2 HC hw2 x4 f4
  refine wp_region_noPanic ?_
  refine wp_region_held_drew (S := fun w' => Below w2.heap.size w2 w') (by kernel_rfl) ((Below.refl _ _).drew) (fun C0 => ?_)
  refine tkH4 0 C0 ?_
  refine tkH4 1 C0 ?_
  refine tkH4 2 C0 ?_
  refine tkH4 3 C0 ?_
  refine tkH4 4 C0 ?_ (hy := fun W' hSw => by have y5 : W'.cell? ⟨p, 5, none⟩ = some (.slice (some ⟨br, 0, none⟩) n m.cR) := (hSw.cell (show (⟨p, 5, none⟩ : Addr).block < w2.heap.size from QC2.out.lt)).trans X5.out; clear hSw; go_simp <;> with_reducible rfl)
  refine tkH4 5 C0 ?_
  refine tkH4 6 C0 ?_
  refine tkH4 7 C0 ?_
  refine tkH4 8 C0 ?_
  refine tkH4 9 C0 ?_ (hy := fun W' hSw => by have y4 : W'.cell? ⟨p, 4, none⟩ = some (.int .i64 ((k : Int) + 1)) := (hSw.cell (show (⟨p, 4, none⟩ : Addr).block < w2.heap.size from QC2.out.lt)).trans X4.out; clear hSw; go_simp <;> with_reducible rfl)
  refine tkH4 10 C0 ?_
  refine tkH4 11 C0 ?_
  refine tkH4 12 C0 ?_ (hy := fun W' hSw => by have y0 : W'.cell? ⟨br, k, none⟩ = some (.int .u8 (x : Int)) := (hSw.cell (show (⟨br, k, none⟩ : Addr).block < w2.heap.size from HBL.out)).trans X0.out; clear hSw; go_simp <;> with_reducible rfl)
  refine tkH4 13 C0 ?_
  refine wpAnyH_done (by kernel_rfl) ?_ _
  refine NoPanic.normal ?_
  go_wp2
  go_ret
  rw [HE.out, HV.out]
  exact ⟨rfl, HF.out.2.1.below (Below.refl _ _).drew, HF.out.2.2.drew⟩
end
section
variable {ρ : Nat → Nat} {I J : Nat → Prop} {w w' : World} {p : Nat} {g : Gm} {s : Sc} {c : Ch} {m : Cm}
theorem Pt.regSet {l : List Nat} (h : Pt ρ w p g s c m) (hb : Btw J w w') (hJ : ∀ j, J j → ρ j = 7) (hl : l.length = c.reg.length) (hr : ∃ b cur u, m.aR = some ⟨b, 0, none⟩ ∧ ρ b = 7 ∧ CRow w' b u cur ∧ R8 w' (some ⟨b, 0, none⟩) c.reg.length l) : Pt ρ w' p g s { c with reg := l } m := by
 have no : ∀ {j k : Nat}, ρ j = k → k ≠ 7 → ¬ J j := fun h1 h2 h3 => by have := hJ _ h3; omega
 have h9 := h.regn
 exact { h with
  lt := fun j hj => Nat.lt_of_lt_of_le (h.lt j hj) hb.size
  arr := h.arr.widenB hb (fun j hj => by
   have h1 := hJ j hj
   refine ⟨by omega, ?_, ?_, ?_⟩
   ·
    rintro rfl; have := h.rap; omega
   ·
    rintro rfl; have := h.raq; omega
   ·
    rintro rfl; have := h.rar; omega) (fun _ hj => hj) (fun _ hj => .inl hj) fun j hj => Nat.lt_of_lt_of_le (h.lt j hj) hb.size
  tel := h.tel.btw hb fun j hj => by
   by_cases h1 : j < m.lo
   ·
    exact .inl h1
   ·
    by_cases h2 : m.hi ≤ j
    ·
     exact .inr h2
    ·
     have := h.rt j (by omega) (by omega)
     have := hJ j hj
     omega
  lis := own_btw1 h.lis hb fun k hk => no (h.rl k hk) (by omega)
  reg := by obtain ⟨b, cur, u, e1, e2, e3, e4⟩ := hr; exact ⟨b, cur, u, e1, e2, e3, by rw [hl]; exact e4⟩
  regn := hl.trans h9
  que := own_btw2 h.que hb fun k hk => no (h.rq k hk) (by omega)
  qbl := own_btw1 h.qbl hb fun k hk => no (h.rb k hk) (by omega)
  pro := own_btw2 h.pro hb fun k hk => no (h.rpr k hk) (by omega)
  blk := own_btw1 h.blk hb fun k hk => no (h.rbl k hk) (by omega)
  raws := fun x hx => ⟨(h.raws x hx).1.btw0 hb fun b off e hn => no ((h.raws x hx).2 b off e hn) (by omega), (h.raws x hx).2⟩
  bgr := h.bgr.btw0 hb fun b off e hn => no (h.rg b off e hn) (by omega) }
def Ch.store (c : Ch) (b : Nat) : Ch := if c.col < c.reg.length then { c with reg := c.reg.set c.col b, col := c.col + 1 } else c
set_option maxHeartbeats 2000000 in
theorem store_any (b : Nat) (hb8 : b < 256) (hf : c.fit g) (h : CH I w p g s c) : Calls Tryz.prog 148 #[.pointer (some ⟨p, 0, none⟩), .int .u8 (b : Int)] w (Acts I p g s (.tuple #[]) (c.store b) w) := by
 obtain ⟨ρ, m, hc, hp, hi⟩ := h
 obtain ⟨br, cur, u, ea, e2, e3, e4⟩ := hp.reg
 have QC := Lib.hid hc
 have QP := Lib.hid hp
 have QI := Lib.hid hi
 obtain ⟨n, hn⟩ : ∃ n, n = c.reg.length := ⟨_, rfl⟩
 obtain ⟨k, hk⟩ : ∃ k, k = c.col := ⟨_, rfl⟩
 have hk2 : k ≤ 65536 := by rw [hk]; exact hf.cl
 have HK := Lib.hid hk
 have HN := Lib.hid hn
 have EA := Lib.hid ea
 by_cases hb : k < n
 ·
  have d1 : decide (k < n) = true := decide_eq_true hb
  have d2 : decide ((k : Int) < (n : Int)) = true := decide_eq_true (by omega)
  have HE := Lib.hid (show c.store b = { c with reg := c.reg.set c.col b, col := c.col + 1 } by unfold Ch.store; rw [if_pos (by omega)])
  have hbne : p ≠ br := fun e => by have h1 := hp.rp; rw [e, e2] at h1; omega
  have HBN := Lib.hid hbne
  have i1 : (0 : Int) ≤ (k : Int) := by omega
  have i2 : (k : Int) < (n : Int) := by omega
  have wk : IntKind.i64.wrap ((k : Int) + 1) = (k : Int) + 1 := IntWalk.i64_in _ (by omega)
  have wk2 : IntKind.i64.wrap (k : Int) = (k : Int) := IntWalk.i64_in _ (by omega)
  obtain ⟨b9, o9, x, ee, hlt, HX, hx, y0⟩ := e4.at_ (k := k) (by omega)
  injection ee with ee
  injection ee with ee1 ee2
  subst ee1
  subst ee2
  have Y0 := Lib.hid (show w.cell? ⟨br, k, none⟩ = some (.int .u8 (x : Int)) by rw [← y0]; simp)
  have FR := Lib.hid (e3.frozen k)
  have hB := (Btw.refl (I := fun j => j = br) w).setCell (p := ⟨br, k, none⟩) (v := .int .u8 (b : Int)) rfl
  have HP1 := Lib.hid (hp.regSet (l := c.reg.set c.col b) hB (fun j e => e ▸ e2) (by simp) ⟨br, _, u, ea, e2, e3.setCell k _, by rw [← hk]; exact e4.put k b hb8⟩)
  have HB1 := Lib.hid hB
  have E2 := Lib.hid e2
  have HC1 := Lib.hid (hc.setCell_other (p := ⟨br, k, none⟩) hbne (.int .u8 (b : Int)))
  clear hc hp hi hf hn hk e2 e3 e4 hb HX hlt hx y0 ea hB hbne
  go_enter Tryz.func148, Tryz.ntmps148
  go_wp2
  refine wp_region_noPanic ?_
  refine wp_region_held_drew (S := fun w' => CRow w' p 72 (chCells g c m)) (by kernel_rfl) QC.out.drew (fun C0 => ?_)
  refine tkH4 0 C0 ?_
  refine tkH4 1 C0 ?_
  refine tkH4 2 C0 ?_
  refine tkH4 3 C0 ?_
  refine tkH4 4 C0 ?_ (hy := fun W' hSw => by have y4 := hSw.cell_at 4 (.int .i64 (c.col : Int)) rfl; rw [← HK.out] at y4; clear hSw; go_simp <;> with_reducible rfl)
  refine tkH4 5 C0 ?_
  refine tkH4 6 C0 ?_
  refine tkH4 7 C0 ?_
  refine tkH4 8 C0 ?_
  refine tkH4 9 C0 ?_ (hy := fun W' hSw => by have y5 := hSw.cell_at 5 (.slice m.aR c.reg.length m.cR) rfl; rw [← HN.out, EA.out] at y5; clear hSw; go_simp <;> with_reducible rfl)
  refine tkH4 10 C0 ?_
  refine tkH4 11 C0 ?_
  refine wpAnyH_done (by kernel_rfl) ?_ _
  refine NoPanic.normal ?_
  go_wp2
  refine wp_region_noPanic ?_
  refine wp_region_held_drew (S := fun w' => CRow w' p 72 (chCells g c m)) (by kernel_rfl) QC.out.drew (fun C0 => ?_)
  refine tkH4 0 C0 ?_
  refine tkH4 1 C0 ?_
  refine tkH4 2 C0 ?_
  refine tkH4 3 C0 ?_
  refine tkH4 4 C0 ?_ (hy := fun W' hSw => by have y5 := hSw.cell_at 5 (.slice m.aR c.reg.length m.cR) rfl; rw [← HN.out, EA.out] at y5; clear hSw; go_simp <;> with_reducible rfl)
  refine tkH4 5 C0 ?_
  refine tkH4 6 C0 ?_
  refine tkH4 7 C0 ?_
  refine tkH4 8 C0 ?_
  refine tkH4 9 C0 ?_ (hy := fun W' hSw => by have y4 := hSw.cell_at 4 (.int .i64 (c.col : Int)) rfl; rw [← HK.out] at y4; clear hSw; go_simp <;> with_reducible rfl)
  refine tkH4 10 C0 ?_
  refine tkH4 11 C0 ?_
  refine wpAnyH_ready (rs := [12]) (by kernel_rfl) (by simp) ?_
  refine AllReadyH.cons (o := { dst := none, op := Op.store 5 (Operand.tmp 27) (Operand.tmp 26), type := 0, pos := "cycles.go:319", after := #[{ on := 11, ground := Ground.data }, { on := 10, ground := Ground.data }, { on := 0, ground := Ground.phase }, { on := 1, ground := Ground.phase }, { on := 2, ground := Ground.phase }, { on := 3, ground := Ground.phase }, { on := 4, ground := Ground.phase }, { on := 5, ground := Ground.phase }, { on := 6, ground := Ground.phase }, { on := 7, ground := Ground.phase }, { on := 8, ground := Ground.phase }, { on := 9, ground := Ground.phase }, { on := 10, ground := Ground.phase }], guard := none }) rfl (fun K hK => ?_) AllReadyH.nil
  have y0 := Y0.out
  have f0 := FR.out
  go_simp
  refine hK.out _ _ (QC.out.setCell_other (p := ⟨br, k, none⟩) HBN.out _) (fun C1 => ?_)
  clear hK K
  try simp only [Act.put]
  refine wpAnyH_done (by kernel_rfl) ?_ _
  refine NoPanic.normal ?_
  have x4 := HC1.out.cell_at 4 (.int .i64 (c.col : Int)) rfl
  rw [← HK.out] at x4
  have f4 := HC1.out.frozen 4
  go_wp2
  go_end0
  rw [HE.out]
  have h0 := HC1.out.setCell 4 (.int .i64 ((k : Int) + 1))
  have e : (chCells g c m).setIfInBounds 4 (.int .i64 ((k : Int) + 1)) = chCells g { c with reg := c.reg.set c.col b, col := c.col + 1 } m := by rw [HK.out]; simp [chCells]
  rw [e] at h0
  have hf := CH.of (I := I) (c' := { c with reg := c.reg.set c.col b, col := c.col + 1 }) h0 HP1.out (QI.out.grow HB1.out.size) ((Btw.refl (I := fun j => j = p) _).setCell (p := ⟨p, 4, none⟩) rfl) fun W h => { h with }
  exact ⟨rfl, (hf.1.below (Below.refl _ _).drew).below (Below.refl _ _).drew, ((((Btw.refl w).trans HB1.out fun j _ e => by rw [e]; exact QI.out.own br (by rw [E2.out]; omega) (by rw [E2.out]; omega)).trans hf.2 fun _ _ h => h).drew).drew⟩
 ·
  have d1 : decide (k < n) = false := decide_eq_false hb
  have d2 : decide ((k : Int) < (n : Int)) = false := decide_eq_false (by omega)
  have HE := Lib.hid (show c.store b = c by unfold Ch.store; rw [if_neg (by omega)])
  clear hc hp hi hf hn hk e2 e3 e4 hb ea
  go_enter Tryz.func148, Tryz.ntmps148
  go_wp2
  refine wp_region_noPanic ?_
  refine wp_region_held_drew (S := fun w' => CRow w' p 72 (chCells g c m)) (by kernel_rfl) QC.out.drew (fun C0 => ?_)
  refine tkH4 0 C0 ?_
  refine tkH4 1 C0 ?_
  refine tkH4 2 C0 ?_
  refine tkH4 3 C0 ?_
  refine tkH4 4 C0 ?_ (hy := fun W' hSw => by have y4 := hSw.cell_at 4 (.int .i64 (c.col : Int)) rfl; rw [← HK.out] at y4; clear hSw; go_simp <;> with_reducible rfl)
  refine tkH4 5 C0 ?_
  refine tkH4 6 C0 ?_
  refine tkH4 7 C0 ?_
  refine tkH4 8 C0 ?_
  refine tkH4 9 C0 ?_ (hy := fun W' hSw => by have y5 := hSw.cell_at 5 (.slice m.aR c.reg.length m.cR) rfl; rw [← HN.out, EA.out] at y5; clear hSw; go_simp <;> with_reducible rfl)
  refine tkH4 10 C0 ?_
  refine tkH4 11 C0 ?_
  refine wpAnyH_done (by kernel_rfl) ?_ _
  refine NoPanic.normal ?_
  go_wp2
  go_end0
  rw [HE.out]
  exact ⟨rfl, ⟨ρ, m, QC.out.drew, QP.out.below (Below.refl _ _).drew, QI.out.grow (w' := w.drew) (Nat.le_refl w.heap.size)⟩, (Btw.refl w).drew⟩
end
section
variable {ρ : Nat → Nat} {I J : Nat → Prop} {w w' : World} {p : Nat} {g : Gm} {s : Sc} {c : Ch} {m : Cm}
theorem beq_zero (n : Nat) : ((n : Int) == 0) = decide (n = 0) := by rw [Bool.eq_iff_iff]; simp
def Ch.lists (c : Ch) (b : Nat) : Bool :=
 if c.state = 2 ∨ c.state = 4 then decide (b = 0)
 else if c.state = 5 then decide (b = 137) && decide (c.listed.length = 0)
 else if c.state = 6 ∨ c.state = 9 then decide (c.listed.length < 4)
 else if c.state = 8 ∨ c.state = 10 then decide (c.listed.length < 2)
 else false
set_option maxHeartbeats 4000000 in
theorem lists_any (b : Nat) (hb8 : b < 256) (hst : c.state ≤ 10) (hl : c.listed.length ≤ 100) (h : CRow w p 72 (chCells g c m)) : Calls Tryz.prog 144 #[.pointer (some ⟨p, 0, none⟩), .int .u8 (b : Int)] w (Gives (.bool (c.lists b)) w) := by
 obtain ⟨n, hn⟩ : ∃ n, n = c.listed.length := ⟨_, rfl⟩
 have x1 : w.cell? ⟨p, 1, none⟩ = some (.slice m.aL n m.cL) := by rw [hn]; exact h.cell_at 1 _ rfl
 have x0 : w.cell? ⟨p, 0, none⟩ = some (.int .i64 (c.state : Int)) := h.cell_at 0 _ rfl
 rw [← hn] at hl
 have HL : c.lists b = (if c.state = 2 ∨ c.state = 4 then decide (b = 0) else if c.state = 5 then decide (b = 137) && decide (n = 0) else if c.state = 6 ∨ c.state = 9 then decide (n < 4) else if c.state = 8 ∨ c.state = 10 then decide (n < 2) else false) := by rw [hn]; rfl
 rw [HL]
 clear HL hn h
 generalize c.state = t at *
 have e1 : decide ((n : Int) = 0) = decide (n = 0) := decide_eq_decide.2 (by omega)
 have e2 : decide ((n : Int) < 4) = decide (n < 4) := decide_eq_decide.2 (by omega)
 have e3 : decide ((n : Int) < 2) = decide (n < 2) := decide_eq_decide.2 (by omega)
 have e4 : decide ((b : Int) = 0) = decide (b = 0) := decide_eq_decide.2 (by omega)
 have e5 : decide ((b : Int) = 137) = decide (b = 137) := decide_eq_decide.2 (by omega)
 have ht : t = 0 ∨ t = 1 ∨ t = 2 ∨ t = 3 ∨ t = 4 ∨ t = 5 ∨ t = 6 ∨ t = 7 ∨ t = 8 ∨ t = 9 ∨ t = 10 := by omega
 clear hst
 rcases ht with rfl | rfl | rfl | rfl | rfl | rfl | rfl | rfl | rfl | rfl | rfl
 case inr.inr.inr.inr.inr.inl =>
  by_cases hb1 : b = 137
  ·
   subst hb1
   simp
   go_enter Tryz.func144, Tryz.ntmps144
   go_wp2
   go_ret
   exact ⟨by simp [beq_zero], Below.refl _ _⟩
  ·
   have e6 : decide ((b : Int) = 137) = false := decide_eq_false (by omega)
   simp [hb1]
   go_enter Tryz.func144, Tryz.ntmps144
   go_wp2
   go_ret
   exact ⟨by simp, Below.refl _ _⟩
 all_goals simp
 all_goals go_enter Tryz.func144, Tryz.ntmps144
 all_goals go_wp2
 all_goals go_ret
 all_goals first | exact ⟨rfl, Below.refl _ _⟩ | (refine ⟨?_, Below.refl _ _⟩; simp; done) | (refine ⟨?_, Below.refl _ _⟩; simp [beq_zero]; done)
theorem CH.pushed {w1 w3 : World} {A3 : Option Addr} {c3 : Nat} {o : Obj} (b : Nat) (hb8 : b < 256) (hc : CRow w1 p 72 (chCells g c m)) (hp : Pt ρ w1 p g s c m) (hi : CI ρ I w1)
  (hown : w3.ownsRow 0 5 1 (.slice A3 (c.listed.length + 1) c3) (c.listed.length + 1) (U8 (c.listed ++ [b])))
  (hg : (w1.alloc o).grownBy w3 (Value.slice m.aL c.listed.length m.cL).ownBlock)
  (hwh : (Value.slice A3 (c.listed.length + 1) c3).ownBlock = (Value.slice m.aL c.listed.length m.cL).ownBlock ∨ (Value.slice A3 (c.listed.length + 1) c3).ownBlock = some (w1.heap.size + 1)) :
  ∃ ρ', CRow (w3.setCell ⟨p, 1, none⟩ (.slice A3 (c.listed.length + 1) c3)) p 72 (chCells g { c with listed := c.listed ++ [b] } { m with aL := A3, cL := c3 }) ∧
   Pt ρ' (w3.setCell ⟨p, 1, none⟩ (.slice A3 (c.listed.length + 1) c3)) p g s { c with listed := c.listed ++ [b] } { m with aL := A3, cL := c3 } ∧ CI ρ' I (w3.setCell ⟨p, 1, none⟩ (.slice A3 (c.listed.length + 1) c3)) ∧
   Btw I w1 (w3.setCell ⟨p, 1, none⟩ (.slice A3 (c.listed.length + 1) c3)) := by
 have hB0 : Btw (fun j => (Value.slice m.aL c.listed.length m.cL).ownBlock = some j) (w1.alloc o) w3 := Btw.of_grown hg (fun _ h => h)
 have hPa : Pt ρ (w1.alloc o) p g s c m := hp.below (below_new w1 o)
 have hIa : CI ρ I (w1.alloc o) := hi.grow (below_new w1 o).size
 have hE : Pt ρ (w1.alloc o) p g s { c with listed := [] } { m with aL := none, cL := 0 } := by
  have h0 := hPa.enter 0
  exact { h0 with }
 have hJ : ∀ j, (Value.slice m.aL c.listed.length m.cL).ownBlock = some j → Cm.idle { m with aL := none, cL := 0 } (ρ j) ∧ ρ j ≠ 99 := fun j hj => by
  have h6 := hp.rl j hj
  exact ⟨.inr (.inl ⟨h6, rfl⟩), by omega⟩
 have hne : ¬ (Value.slice m.aL c.listed.length m.cL).ownBlock = some p := fun e => by have h6 := hp.rl p e; have := hp.rp; omega
 have hJI : ∀ j, (Value.slice m.aL c.listed.length m.cL).ownBlock = some j → I j := fun j hj => by have h6 := hp.rl j hj; exact hi.own j (by omega) (by omega)
 obtain ⟨ρ', h1, h2, h3, h4⟩ : ∃ ρ', Pt ρ' w3 p g s { c with listed := [] } { m with aL := none, cL := 0 } ∧ CI ρ' I w3 ∧ (∀ k, (Value.slice A3 (c.listed.length + 1) c3).ownBlock = some k → ρ' k = 6) ∧ ρ' p = 1 := by
  cases hk : (Value.slice A3 (c.listed.length + 1) c3).ownBlock with
  | none => exact ⟨ρ, hE.btwI hB0 (fun j hj => .inr (hJ j hj).1), hIa.grow hB0.size, fun k hk => (nomatch hk), hp.rp⟩
  | some k =>
   have hlt := (own_low hown k hk).2
   have hor : (Cm.idle { m with aL := none, cL := 0 } (ρ k) ∧ ρ k ≠ 99) ∨ (w1.alloc o).heap.size ≤ k := by
    rw [hk] at hwh
    rcases hwh with e | e
    ·
     exact .inl (hJ k e.symm)
    ·
     injection e with e; exact .inr (by rw [e]; simp)
   have hr := hE.grew hB0 hJ k 6 (by omega) hor hlt
   exact ⟨role1 ρ k 6, hr, hIa.grew (m := { m with aL := none, cL := 0 }) hB0.size k 6 hor, fun j hj => by injection hj with e; unfold role1; rw [if_pos e.symm], hr.rp⟩
 have hP3 : Pt ρ' w3 p g s { c with listed := c.listed ++ [b] } { m with aL := A3, cL := c3 } := { h1 with
  lis := by simpa using hown
  rl := by simpa using h3
  l8 := fun x hx => by
   rcases List.mem_append.1 hx with h | h
   ·
    exact hp.l8 x h
   ·
    rw [List.mem_singleton.1 h]; exact hb8 }
 have hT : CRow w3 p 72 (chCells g c m) := (hc.alloc o).btw hB0 hne
 have h0 := hT.setCell 1 (.slice A3 (c.listed.length + 1) c3)
 have hbp : Btw (fun j => j = p) w3 (w3.setCell ⟨p, 1, none⟩ (.slice A3 (c.listed.length + 1) c3)) := (Btw.refl _).setCell (p := ⟨p, 1, none⟩) rfl
 refine ⟨ρ', by simpa [chCells] using h0, hP3.set 1 _, h2.grow hbp.size, ?_⟩
 exact (((Btw.of_below (below_new w1 o)).trans hB0 fun j _ h => hJI j h).trans hbp fun j _ e => by rw [e]; exact hi.self hp)
end
section
variable {ρ : Nat → Nat} {I J : Nat → Prop} {w w' : World} {p : Nat} {g : Gm} {s : Sc} {c : Ch} {m : Cm}
theorem start_ch (r : Bool) (row : Nat) (hs : SG g s) (hz : c.bz ≤ 1099511627776) (h : CH I w p g s c) : Calls Tryz.prog 146 #[.pointer (some ⟨p, 0, none⟩), .agg #[.bool r, .int .i64 (row : Int), .slice none 0 0, .slice none 0 0]] w (Acts I p g s (.tuple #[]) ((c.discard.pend r row [] []).begun s) w) := by
 obtain ⟨ρ, m, hc, hp, hi⟩ := h
 refine (start_any r row [] [] none 0 none 0 [] hs hz (hp.discard.pend0 r row) hc).mono ?_
 rintro _ w1 ⟨rfl, h1, h2, hb⟩
 exact ⟨rfl, ⟨ρ, _, h1, h2, hi.grow hb.size⟩, CH.own_ hi hp hb (fun j h => by rcases h with h | h; exact .inl h; exact .inr (.inl h))⟩
theorem begin_ch (r : Bool) (row : Nat) (hs : SG g s) (hz : c.bz ≤ 1099511627776) (h : CH I w p g s c) : Calls Tryz.prog 160 #[.pointer (some ⟨p, 0, none⟩), .agg #[.bool r, .int .i64 (row : Int), .slice none 0 0, .slice none 0 0]] w (Acts I p g s (.tuple #[]) ((c.pend r row [] []).begun s) w) := by
 obtain ⟨ρ, m, hc, hp, hi⟩ := h
 refine (begin_any r row [] [] none 0 none 0 [] hs hz (hp.pend0 r row) hc).mono ?_
 rintro _ w1 ⟨rfl, h1, h2, hb⟩
 exact ⟨rfl, ⟨ρ, _, h1, h2, hi.grow hb.size⟩, CH.own_ hi hp hb (fun j h => by rcases h with h | h; exact .inl h; exact .inr (.inl h))⟩
def Ch.push (c : Ch) (b : Nat) : Ch := { c with listed := c.listed ++ [b] }
def Ch.rungd (c : Ch) (g : Gm) (x : Nat) : Ch := if (x : Int) < g.r then { c with rung := x } else c
def Ch.setRung (s : Sc) (g : Gm) (c : Ch) (b : Nat) : Ch := if c.listed.length + 1 < 5 then c.push b else (((c.push b).rungd g ((c.push b).listed.getD 1 0)).discard.pend false 0 [] []).begun s
set_option maxHeartbeats 4000000 in
theorem setRung_any (b : Nat) (hb8 : b < 256) (hs : SG g s) (hz : c.bz ≤ 1099511627776) (hf : c.fit g) (h : CH I w p g s c) : Calls Tryz.prog 149 #[.pointer (some ⟨p, 0, none⟩), .int .u8 (b : Int)] w (Acts I p g s (.tuple #[]) (c.setRung s g b) w) := by
 obtain ⟨ρ, m, hc, hp, hi⟩ := h
 have QC := Lib.hid hc
 have QP := Lib.hid hp
 have QI := Lib.hid hi
 have O1 := Lib.hid hp.lis
 have LL := Lib.hid hf.ls
 have BB := Lib.hid hb8
 have NP := Lib.hid (show ¬ (Value.slice m.aL c.listed.length m.cL).ownBlock = some p from fun e => by have h6 := hp.rl p e; have := hp.rp; omega)
 have HS := Lib.hid hs
 have HZ := Lib.hid hz
 by_cases hq : c.listed.length + 1 < 5
 ·
  have HE := Lib.hid (show c.setRung s g b = c.push b by unfold Ch.setRung; rw [if_pos hq])
  have d1 : decide (((c.listed.length + 1 : Nat) : Int) < 5) = true := decide_eq_true (by omega)
  have d2 : decide (((c.listed.length : Nat) : Int) + 1 < 5) = true := decide_eq_true (by omega)
  clear hc hp hi hs hz hf hb8
  go_enter Tryz.func149, Tryz.ntmps149
  have y1 : w.cell? ⟨p, 1, none⟩ = some (.slice m.aL c.listed.length m.cL) := QC.out.cell_at 1 _ rfl
  go_wp2_with (at_builtin; refine wpList_append8A (w.alloc (.cells #[.int .u8 (b : Int)] 5)) rfl (.tmp 10) (.tmp 12) rfl 0 _ c.listed rfl (O1.out.alloc _) ⟨w.heap.size, 0, none⟩ 1 1 [b] rfl (r8_one w b BB.out _) (by have := LL.out; omega) (Nat.zero_le _) ?_)
  intro v3 w3 hown hg hwh
  obtain ⟨A3, c3, rfl⟩ := own_form1 hown
  obtain ⟨ρ4, hc4, hp4, hi4, hb4⟩ := CH.pushed (I := I) b BB.out QC.out QP.out QI.out hown hg hwh
  have OW := Lib.hid hown
  have C4 := Lib.hid hc4
  have P4 := Lib.hid hp4
  have I4 := Lib.hid hi4
  have B4 := Lib.hid hb4
  have T3 := Lib.hid (show CRow w3 p 72 (chCells g c m) from ((QC.out).alloc _).btw (I := fun j => (Value.slice m.aL c.listed.length m.cL).ownBlock = some j) (Btw.of_grown hg (fun _ h => h)) (fun h => NP.out h))
  have z1 := T3.out.cell_at 1 (.slice m.aL c.listed.length m.cL) rfl
  have f1 := T3.out.frozen 1
  clear hown hg hwh y1 hc4 hp4 hi4 hb4
  go_wp2
  refine bodyPost_ret (results_none rfl _ _ _) rfl ?_
  rw [HE.out]
  exact ⟨rfl, ⟨ρ4, _, C4.out, P4.out, I4.out⟩, B4.out⟩
 ·
  have h4 : c.listed.length = 4 := by have := LL.out; omega
  have d1 : decide (((c.listed.length + 1 : Nat) : Int) < 5) = false := decide_eq_false (by omega)
  have d2 : decide (((c.listed.length : Nat) : Int) + 1 < 5) = false := decide_eq_false (by omega)
  obtain ⟨x, hx0⟩ : ∃ x, x = (c.push b).listed.getD 1 0 := ⟨_, rfl⟩
  have HE := Lib.hid (show c.setRung s g b = (((c.push b).rungd g x).discard.pend false 0 [] []).begun s by unfold Ch.setRung; rw [if_neg hq, hx0])
  have HX := Lib.hid hx0
  have L8 := Lib.hid (show ∀ y ∈ c.listed ++ [b], y < 256 from fun y hy => by
   rcases List.mem_append.1 hy with h | h
   ·
    exact hp.l8 y h
   ·
    rw [List.mem_singleton.1 h]; exact hb8)
  have H4 := Lib.hid h4
  clear hc hp hi hs hz hf hb8 hx0 h4 hq
  go_enter Tryz.func149, Tryz.ntmps149
  have y1 : w.cell? ⟨p, 1, none⟩ = some (.slice m.aL c.listed.length m.cL) := QC.out.cell_at 1 _ rfl
  go_wp2_with (at_builtin; refine wpList_append8A (w.alloc (.cells #[.int .u8 (b : Int)] 5)) rfl (.tmp 10) (.tmp 12) rfl 0 _ c.listed rfl (O1.out.alloc _) ⟨w.heap.size, 0, none⟩ 1 1 [b] rfl (r8_one w b BB.out _) (by have := LL.out; omega) (Nat.zero_le _) ?_)
  intro v3 w3 hown hg hwh
  obtain ⟨A3, c3, rfl⟩ := own_form1 hown
  obtain ⟨ρ4, hc4, hp4, hi4, hb4⟩ := CH.pushed (I := I) b BB.out QC.out QP.out QI.out hown hg hwh
  have OW := Lib.hid hown
  have C4 := Lib.hid hc4
  have P4 := Lib.hid hp4
  have I4 := Lib.hid hi4
  have B4 := Lib.hid hb4
  have T3 := Lib.hid (show CRow w3 p 72 (chCells g c m) from ((QC.out).alloc _).btw (I := fun j => (Value.slice m.aL c.listed.length m.cL).ownBlock = some j) (Btw.of_grown hg (fun _ h => h)) (fun h => NP.out h))
  have z1 := T3.out.cell_at 1 (.slice m.aL c.listed.length m.cL) rfl
  have f1 := T3.out.frozen 1
  clear hown hg hwh y1 hc4 hp4 hi4 hb4
  obtain ⟨g3, hA3, -⟩ := own_head OW.out (by omega) L8.out
  subst hA3
  obtain ⟨b9, o9, x9, ee, hlt, hy, hx8, y0⟩ := (R8.own OW.out L8.out).at_ (k := 1) (by have := H4.out; omega)
  injection ee with ee
  injection ee with ee1 ee2
  subst ee1
  subst ee2
  have hx9 : x9 = x := by rw [HX.out]; unfold Ch.push; simp [List.getD, hy.out]
  subst hx9
  have hgp : p ≠ g3 := fun e => by have h6 := P4.out.rl g3 rfl; have := P4.out.rp; rw [e] at this; omega
  have y1 : w3.cell? ⟨g3, 1, none⟩ = some (.int .u8 (x9 : Int)) := by rw [← y0]
  have z24 := T3.out.cell_at 24 (.int .i64 g.r) rfl
  have z3 := T3.out.cell_at 3 (.int .i64 (c.rung : Int)) rfl
  have f3 := T3.out.frozen 3
  have wx : IntKind.i64.wrap (x9 : Int) = (x9 : Int) := IntWalk.i64_in _ (by omega)
  have i2 : (1 : Int) < ((c.listed.length : Nat) : Int) + 1 := by have := H4.out; omega
  clear y0 hy
  by_cases hx : (x9 : Int) < g.r
  ·
   have d3 : decide ((x9 : Int) < g.r) = true := decide_eq_true hx
   have HR := Lib.hid (show (c.push b).rungd g x9 = { c.push b with rung := x9 } by unfold Ch.rungd; rw [if_pos hx])
   have H5 := Lib.hid (show CH I ((w3.setCell ⟨p, 1, none⟩ (.slice (some ⟨g3, 0, none⟩) (c.listed.length + 1) c3)).setCell ⟨p, 3, none⟩ (.int .i64 (x9 : Int))) p g s { c.push b with rung := x9 } ∧ Btw I (w3.setCell ⟨p, 1, none⟩ (.slice (some ⟨g3, 0, none⟩) (c.listed.length + 1) c3)) ((w3.setCell ⟨p, 1, none⟩ (.slice (some ⟨g3, 0, none⟩) (c.listed.length + 1) c3)).setCell ⟨p, 3, none⟩ (.int .i64 (x9 : Int))) by
    have h0 := C4.out.setCell 3 (.int .i64 (x9 : Int))
    exact CH.of (c' := { c.push b with rung := x9 }) (by simpa [chCells, Ch.push] using h0) P4.out I4.out ((Btw.refl (I := fun j => j = p) _).setCell (p := ⟨p, 3, none⟩) rfl) fun W h => { h with })
   clear hx
   go_wp2_with fail
   refine (start_ch (c := { c.push b with rung := x9 }) false 0 HS.out HZ.out H5.out.1).mono ?_
   rintro _ w6 ⟨rfl, hc6, hb6⟩
   have H6 := Lib.hid hc6
   have B6 := Lib.hid hb6
   clear hc6 hb6 z1 f1 z3 z24 f3 y1
   go_wp2
   go_end0
   rw [HE.out, HR.out]
   exact ⟨rfl, H6.out, (B4.out.trans H5.out.2 fun _ _ h => h).trans B6.out fun _ _ h => h⟩
  ·
   have d3 : decide ((x9 : Int) < g.r) = false := decide_eq_false hx
   have HR := Lib.hid (show (c.push b).rungd g x9 = c.push b by unfold Ch.rungd; rw [if_neg hx])
   have H5 := Lib.hid (show CH I (w3.setCell ⟨p, 1, none⟩ (.slice (some ⟨g3, 0, none⟩) (c.listed.length + 1) c3)) p g s (c.push b) ∧ Btw I (w3.setCell ⟨p, 1, none⟩ (.slice (some ⟨g3, 0, none⟩) (c.listed.length + 1) c3)) (w3.setCell ⟨p, 1, none⟩ (.slice (some ⟨g3, 0, none⟩) (c.listed.length + 1) c3)) from ⟨⟨ρ4, _, C4.out, P4.out, I4.out⟩, Btw.refl _⟩)
   clear hx
   go_wp2_with fail
   refine (start_ch (c := c.push b) false 0 HS.out HZ.out H5.out.1).mono ?_
   rintro _ w6 ⟨rfl, hc6, hb6⟩
   have H6 := Lib.hid hc6
   have B6 := Lib.hid hb6
   clear hc6 hb6 z1 f1 z3 z24 f3 y1
   go_wp2
   go_end0
   rw [HE.out, HR.out]
   exact ⟨rfl, H6.out, (B4.out.trans H5.out.2 fun _ _ h => h).trans B6.out fun _ _ h => h⟩
end
section
variable {ρ : Nat → Nat} {I J : Nat → Prop} {w w' : World} {p : Nat} {g : Gm} {s : Sc} {c : Ch} {m : Cm}
def Ch.write (s : Sc) (g : Gm) (c : Ch) (b : Nat) : Bool × Ch := if c.state = 9 ∧ c.listed.length = 4 then (true, c.store b) else if c.state = 5 ∧ 0 < c.listed.length then (true, c.setRung s g b) else (false, c)
set_option maxHeartbeats 4000000 in
theorem write_any (b : Nat) (hb8 : b < 256) (hs : SG g s) (hz : c.bz ≤ 1099511627776) (hf : c.fit g) (hst : c.state ≤ 10) (h : CH I w p g s c) : Calls Tryz.prog 119 #[.pointer (some ⟨p, 0, none⟩), .int .u8 (b : Int)] w (Acts I p g s (.bool (c.write s g b).1) (c.write s g b).2 w) := by
 have HST := Lib.hid (fun W (hh : CH I W p g s c) => store_any b hb8 hf hh)
 have HSR := Lib.hid (fun W (hh : CH I W p g s c) => setRung_any b hb8 hs hz hf hh)
 have HH := Lib.hid h
 obtain ⟨n, hn⟩ : ∃ n, n = c.listed.length := ⟨_, rfl⟩
 obtain ⟨t, ht⟩ : ∃ t, t = c.state := ⟨_, rfl⟩
 obtain ⟨ρ, m, hc, hp, hi⟩ := h
 have x0 : w.cell? ⟨p, 0, none⟩ = some (.int .i64 (t : Int)) := by rw [ht]; exact hc.cell_at 0 _ rfl
 have x1 : w.cell? ⟨p, 1, none⟩ = some (.slice m.aL n m.cL) := by rw [hn]; exact hc.cell_at 1 _ rfl
 have hl : n ≤ 4 := by rw [hn]; exact hf.ls
 have e2 : decide ((n : Int) = 4) = decide (n = 4) := decide_eq_decide.2 (by omega)
 have e4 : decide ((0 : Int) < (n : Int)) = decide (0 < n) := decide_eq_decide.2 (by omega)
 rw [← ht] at hst
 by_cases h9 : t = 9
 ·
  by_cases h4 : n = 4
  ·
   have HE := Lib.hid (show c.write s g b = (true, c.store b) by unfold Ch.write; rw [if_pos ⟨by omega, by omega⟩])
   subst h9
   subst h4
   clear hc hp hi hf hs hz hb8 hn ht
   go_enter Tryz.func119, Tryz.ntmps119
   go_wp2_with fail
   refine (HST.out _ HH.out).mono ?_
   rintro _ w1 ⟨rfl, h1, hb1⟩
   have H1 := Lib.hid h1
   have B1 := Lib.hid hb1
   clear h1 hb1
   go_wp2
   go_ret
   rw [HE.out]
   exact ⟨rfl, H1.out, B1.out⟩
  ·
   have d4 : decide (n = 4) = false := decide_eq_false h4
   have b4 : ((n : Int) == 4) = false := by simp; omega
   have j4 : ((n : Int) = 4) = False := eq_false (by omega)
   have HE := Lib.hid (show c.write s g b = (false, c) by unfold Ch.write; rw [if_neg (by omega), if_neg (by omega)])
   subst h9
   clear hc hp hi hf hs hz hb8 hn ht h4
   go_enter Tryz.func119, Tryz.ntmps119
   go_wp2
   go_ret
   rw [HE.out]
   exact ⟨rfl, HH.out, Btw.refl w⟩
 ·
  have d9 : decide ((t : Int) = 9) = false := decide_eq_false (by omega)
  by_cases h5 : t = 5
  ·
   by_cases h0 : 0 < n
   ·
    have d0 : decide (0 < n) = true := decide_eq_true h0
    have d0' : decide ((0 : Int) < (n : Int)) = true := decide_eq_true (by omega)
    have HE := Lib.hid (show c.write s g b = (true, c.setRung s g b) by unfold Ch.write; rw [if_neg (by omega), if_pos ⟨by omega, by omega⟩])
    subst h5
    clear hc hp hi hf hs hz hb8 hn ht d9 h9 h0
    go_enter Tryz.func119, Tryz.ntmps119
    go_wp2_with fail
    refine (HSR.out _ HH.out).mono ?_
    rintro _ w1 ⟨rfl, h1, hb1⟩
    have H1 := Lib.hid h1
    have B1 := Lib.hid hb1
    clear h1 hb1
    go_wp2
    go_ret
    rw [HE.out]
    exact ⟨rfl, H1.out, B1.out⟩
   ·
    have h00 : n = 0 := by omega
    have HE := Lib.hid (show c.write s g b = (false, c) by unfold Ch.write; rw [if_neg (by omega), if_neg (by omega)])
    subst h5
    subst h00
    clear hc hp hi hf hs hz hb8 hn ht d9 h9 h0
    go_enter Tryz.func119, Tryz.ntmps119
    go_wp2
    go_ret
    rw [HE.out]
    exact ⟨rfl, HH.out, Btw.refl w⟩
  ·
   have d5 : decide ((t : Int) = 5) = false := decide_eq_false (by omega)
   have HE := Lib.hid (show c.write s g b = (false, c) by unfold Ch.write; rw [if_neg (by omega), if_neg (by omega)])
   have j9 : ((t : Int) = 9) = False := eq_false (by omega)
   have j5 : ((t : Int) = 5) = False := eq_false (by omega)
   have b9 : ((t : Int) == 9) = false := by simp; omega
   have b5 : ((t : Int) == 5) = false := by simp; omega
   clear hc hp hi hf hs hz hb8 hn ht h9 h5
   go_enter Tryz.func119, Tryz.ntmps119
   go_wp2
   go_ret
   rw [HE.out]
   exact ⟨rfl, HH.out, Btw.refl w⟩
end
section
variable {ρ : Nat → Nat} {I J : Nat → Prop} {w w' : World} {p : Nat} {g : Gm} {s : Sc} {c : Ch} {m : Cm}
theorem enter_fit (n : Nat) (hf : c.fit g) : (c.enter n).fit g := { hf with ls := by simp [Ch.enter], sd := by simp [Ch.enter] }
theorem enter_ch (n : Nat) (h : CH I w p g s c) : Calls Tryz.prog 94 #[.pointer (some ⟨p, 0, none⟩), .int .i64 (n : Int)] w (Acts I p g s (.tuple #[]) (c.enter n) w) := by
 obtain ⟨ρ, m, hc, hp, hi⟩ := h
 refine (enter_any n hc).mono ?_
 rintro _ w1 ⟨rfl, h1, hb⟩
 exact ⟨rfl, CH.of' h1 hp hi hb fun W h => h.enter n⟩
theorem tell_5 (hs : c.said = 5) (h : CRow w p 72 (chCells g c m)) : Calls Tryz.prog 113 #[.pointer (some ⟨p, 0, none⟩)] w (SetsR (.int .u8 255) p g c m w) := by
 have x19 := h.cell_at 19 (.int .i64 g.p) rfl
 have x20 := h.cell_at 20 (.int .i64 g.b) rfl
 have x21 := h.cell_at 21 (.int .i64 g.s) rfl
 have x22 := h.cell_at 22 (.int .i64 g.c) rfl
 have x23 := h.cell_at 23 (.int .i64 g.k) rfl
 have x24 := h.cell_at 24 (.int .i64 g.r) rfl
 have x25 := h.cell_at 25 (.int .i64 g.q) rfl
 have hp := h.lt
 have C0 := Lib.hid h
 have x2 : w.cell? ⟨p, 2, none⟩ = some (Value.int .i64 5) := by
  have h0 := h.cell_at 2 (.int .i64 (c.said : Int)) rfl
  rw [hs] at h0
  exact h0
 clear h
 go_enter Tryz.func113, Tryz.ntmps113
 go_wp2
 go_ret
 exact ⟨rfl, ((C0.out).alloc _).alloc _, ((Btw.refl w).alloc _).alloc _⟩
def Ch.tell (g : Gm) (c : Ch) : Int × Ch := if c.said < 5 then (ansG g c.said, { c with said := c.said + 1 }) else (255, c)
theorem tell_ch (hf : c.fit g) (h : CH I w p g s c) : Calls Tryz.prog 113 #[.pointer (some ⟨p, 0, none⟩)] w (Acts I p g s (.int .u8 (c.tell g).1) (c.tell g).2 w) := by
 obtain ⟨ρ, m, hc, hp, hi⟩ := h
 have h5 := hf.sd
 have K : ∀ n, n < 5 → c.said = n → Calls Tryz.prog 113 #[.pointer (some ⟨p, 0, none⟩)] w (SetsR (.int .u8 (ansG g n)) p g { c with said := n + 1 } m w) → Calls Tryz.prog 113 #[.pointer (some ⟨p, 0, none⟩)] w (Acts I p g s (.int .u8 (c.tell g).1) (c.tell g).2 w) := fun n hn e hk => by
  refine hk.mono ?_
  rintro _ w1 ⟨rfl, h1, hb⟩
  have e1 : c.tell g = (ansG g n, { c with said := n + 1 }) := by unfold Ch.tell; rw [if_pos (by omega), e]
  rw [e1]
  exact ⟨rfl, CH.of h1 hp hi hb fun W h => { h with }⟩
 have hd : c.said = 0 ∨ c.said = 1 ∨ c.said = 2 ∨ c.said = 3 ∨ c.said = 4 ∨ c.said = 5 := by omega
 rcases hd with e | e | e | e | e | e
 ·
  exact K 0 (by omega) e (tell_0 e hc)
 ·
  exact K 1 (by omega) e (tell_1 e hc)
 ·
  exact K 2 (by omega) e (tell_2 e hc)
 ·
  exact K 3 (by omega) e (tell_3 e hc)
 ·
  exact K 4 (by omega) e (tell_4 e hc)
 ·
  refine (tell_5 e hc).mono ?_
  rintro _ w1 ⟨rfl, h1, hb⟩
  have e1 : c.tell g = (255, c) := by unfold Ch.tell; rw [if_neg (by omega)]
  rw [e1]
  exact ⟨rfl, CH.of h1 hp hi hb fun W h => h⟩
def Ch.read (g : Gm) (s : Sc) (c : Ch) : Int × Ch :=
 if c.state = 1 then c.poll g s
 else if c.engaged = true then (255, c)
 else if c.state = 3 then c.tell g
 else if c.state = 6 ∧ c.listed.length = 0 then (c.enter 7).next
 else if c.state = 7 then c.next
 else (255, c.leave)
set_option maxHeartbeats 4000000 in
theorem read_any (hs : SG g s) (hf : c.fit g) (hw : c.wk ≤ 1099511626000) (h : CH I w p g s c) : Calls Tryz.prog 95 #[.pointer (some ⟨p, 0, none⟩)] w (Acts I p g s (.int .u8 (c.read g s).1) (c.read g s).2 w) := by
 have HPO := Lib.hid (poll_any hs hf hw h)
 have HTE := Lib.hid (fun W (hh : CH I W p g s c) => tell_ch hf hh)
 have HEN7 := Lib.hid (fun W (hh : CH I W p g s c) => enter_ch 7 hh)
 have HNX7 := Lib.hid (fun W (hh : CH I W p g s (c.enter 7)) => next_any (enter_fit 7 hf) hh)
 have HNX := Lib.hid (fun W (hh : CH I W p g s c) => next_any hf hh)
 have HLV := Lib.hid (fun W (hh : CH I W p g s c) => leave_ch hh)
 have HH := Lib.hid h
 obtain ⟨n, hn⟩ : ∃ n, n = c.listed.length := ⟨_, rfl⟩
 obtain ⟨t, ht⟩ : ∃ t, t = c.state := ⟨_, rfl⟩
 obtain ⟨ρ, m, hc, hp, hi⟩ := h
 have QC := Lib.hid hc
 have hen := engaged_any (w := w) hc
 have x0 : w.cell? ⟨p, 0, none⟩ = some (.int .i64 (t : Int)) := by rw [ht]; exact hc.cell_at 0 _ rfl
 have x1 : w.cell? ⟨p, 1, none⟩ = some (.slice m.aL n m.cL) := by rw [hn]; exact hc.cell_at 1 _ rfl
 by_cases h1 : t = 1
 ·
  have HE := Lib.hid (show c.read g s = c.poll g s by unfold Ch.read; rw [if_pos (by omega)])
  subst h1
  clear hc hp hi hf hs hw hn ht hen
  go_enter Tryz.func95, Tryz.ntmps95
  go_wp2_with fail
  refine (HPO.out).mono ?_
  rintro _ w1 ⟨rfl, h1, hb1⟩
  have H1 := Lib.hid h1
  have B1 := Lib.hid hb1
  clear h1 hb1
  go_wp2
  go_ret
  rw [HE.out]
  exact ⟨rfl, H1.out, B1.out⟩
 ·
  have b1 : ((t : Int) == 1) = false := by simp; omega
  have j1 : ((t : Int) = 1) = False := eq_false (by omega)
  have d1 : decide ((t : Int) = 1) = false := decide_eq_false (by omega)
  by_cases he : c.engaged = true
  ·
   have HE := Lib.hid (show c.read g s = (255, c) by unfold Ch.read; rw [if_neg (by omega), if_pos he])
   rw [he] at hen
   have HEN := Lib.hid hen
   clear hc hp hi hf hs hw hn ht hen he h1
   go_enter Tryz.func95, Tryz.ntmps95
   go_wp2_with fail
   refine HEN.out.mono ?_
   rintro _ w1 ⟨rfl, h1⟩
   have HH1 := Lib.hid (HH.out.below h1)
   have BE := Lib.hid (Btw.of_below (I := I) h1)
   have y0 := (h1.cell QC.out.lt).trans x0
   have y1 := (h1.cell QC.out.lt).trans x1
   clear h1 HEN x0 x1
   go_wp2
   go_ret
   rw [HE.out]
   exact ⟨rfl, HH1.out, BE.out⟩
  ·
   have he2 : c.engaged = false := by simpa using he
   rw [he2] at hen
   have HEN := Lib.hid hen
   by_cases h3 : t = 3
   ·
    have HE := Lib.hid (show c.read g s = c.tell g by unfold Ch.read; rw [if_neg (by omega), if_neg he, if_pos (by omega)])
    subst h3
    clear hc hp hi hf hs hw hn ht hen he he2 h1 b1 j1 d1
    go_enter Tryz.func95, Tryz.ntmps95
    go_wp2_with fail
    refine HEN.out.mono ?_
    rintro _ w1 ⟨rfl, h1⟩
    have HH1 := Lib.hid (HH.out.below h1)
    have BE := Lib.hid (Btw.of_below (I := I) h1)
    have y0 := (h1.cell QC.out.lt).trans x0
    have y1 := (h1.cell QC.out.lt).trans x1
    clear h1 HEN x0 x1
    go_wp2_with fail
    refine (HTE.out _ HH1.out).mono ?_
    rintro _ w2 ⟨rfl, h2, hb2⟩
    have H2 := Lib.hid h2
    have B2 := Lib.hid (BE.out.trans hb2 fun _ _ h => h)
    clear h2 hb2
    go_wp2
    go_ret
    rw [HE.out]
    exact ⟨rfl, H2.out, B2.out⟩
   ·
    have b3 : ((t : Int) == 3) = false := by simp; omega
    have j3 : ((t : Int) = 3) = False := eq_false (by omega)
    have d3 : decide ((t : Int) = 3) = false := decide_eq_false (by omega)
    by_cases h6 : t = 6
    ·
     by_cases h0 : n = 0
     ·
      have HE := Lib.hid (show c.read g s = (c.enter 7).next by unfold Ch.read; rw [if_neg (by omega), if_neg he, if_neg (by omega), if_pos ⟨by omega, by omega⟩])
      subst h6
      subst h0
      clear hc hp hi hf hs hw hn ht hen he he2 h1 b1 j1 d1 h3 b3 j3 d3
      go_enter Tryz.func95, Tryz.ntmps95
      go_wp2_with fail
      refine HEN.out.mono ?_
      rintro _ w1 ⟨rfl, h1⟩
      have HH1 := Lib.hid (HH.out.below h1)
      have BE := Lib.hid (Btw.of_below (I := I) h1)
      have y0 := (h1.cell QC.out.lt).trans x0
      have y1 := (h1.cell QC.out.lt).trans x1
      clear h1 HEN x0 x1
      go_wp2_with fail
      refine (HEN7.out _ HH1.out).mono ?_
      rintro _ w2 ⟨rfl, h2, hb2⟩
      have H2 := Lib.hid h2
      have B2 := Lib.hid (BE.out.trans hb2 fun _ _ h => h)
      clear h2 hb2
      go_wp2_with fail
      refine (HNX7.out _ H2.out).mono ?_
      rintro _ w3 ⟨rfl, h3, hb3⟩
      have H3 := Lib.hid h3
      have B3 := Lib.hid (B2.out.trans hb3 fun _ _ h => h)
      clear h3 hb3
      go_wp2
      go_ret
      rw [HE.out]
      exact ⟨rfl, H3.out, B3.out⟩
     ·
      have HE := Lib.hid (show c.read g s = (255, c.leave) by unfold Ch.read; rw [if_neg (by omega), if_neg he, if_neg (by omega), if_neg (by omega), if_neg (by omega)])
      have b0 : ((n : Int) == 0) = false := by simp; omega
      have j0 : ((n : Int) = 0) = False := eq_false (by omega)
      have d0 : decide (n = 0) = false := decide_eq_false (by omega)
      subst h6
      clear hc hp hi hf hs hw hn ht hen he he2 h1 b1 j1 d1 h3 b3 j3 d3
      go_enter Tryz.func95, Tryz.ntmps95
      go_wp2_with fail
      refine HEN.out.mono ?_
      rintro _ w1 ⟨rfl, h1⟩
      have HH1 := Lib.hid (HH.out.below h1)
      have BE := Lib.hid (Btw.of_below (I := I) h1)
      have y0 := (h1.cell QC.out.lt).trans x0
      have y1 := (h1.cell QC.out.lt).trans x1
      clear h1 HEN x0 x1
      go_wp2_with fail
      refine (HLV.out _ HH1.out).mono ?_
      rintro _ w2 ⟨rfl, h2, hb2⟩
      have H2 := Lib.hid h2
      have B2 := Lib.hid (BE.out.trans hb2 fun _ _ h => h)
      clear h2 hb2
      go_wp2
      go_ret
      rw [HE.out]
      exact ⟨rfl, H2.out, B2.out⟩
    ·
     have b6 : ((t : Int) == 6) = false := by simp; omega
     have j6 : ((t : Int) = 6) = False := eq_false (by omega)
     have d6 : decide ((t : Int) = 6) = false := decide_eq_false (by omega)
     by_cases h7 : t = 7
     ·
      have HE := Lib.hid (show c.read g s = c.next by unfold Ch.read; rw [if_neg (by omega), if_neg he, if_neg (by omega), if_neg (by omega), if_pos (by omega)])
      subst h7
      clear hc hp hi hf hs hw hn ht hen he he2 h1 b1 j1 d1 h3 b3 j3 d3 h6 b6 j6 d6
      go_enter Tryz.func95, Tryz.ntmps95
      go_wp2_with fail
      refine HEN.out.mono ?_
      rintro _ w1 ⟨rfl, h1⟩
      have HH1 := Lib.hid (HH.out.below h1)
      have BE := Lib.hid (Btw.of_below (I := I) h1)
      have y0 := (h1.cell QC.out.lt).trans x0
      have y1 := (h1.cell QC.out.lt).trans x1
      clear h1 HEN x0 x1
      go_wp2_with fail
      refine (HNX.out _ HH1.out).mono ?_
      rintro _ w2 ⟨rfl, h2, hb2⟩
      have H2 := Lib.hid h2
      have B2 := Lib.hid (BE.out.trans hb2 fun _ _ h => h)
      clear h2 hb2
      go_wp2
      go_ret
      rw [HE.out]
      exact ⟨rfl, H2.out, B2.out⟩
     ·
      have HE := Lib.hid (show c.read g s = (255, c.leave) by unfold Ch.read; rw [if_neg (by omega), if_neg he, if_neg (by omega), if_neg (by omega), if_neg (by omega)])
      have b7 : ((t : Int) == 7) = false := by simp; omega
      have j7 : ((t : Int) = 7) = False := eq_false (by omega)
      have d7 : decide ((t : Int) = 7) = false := decide_eq_false (by omega)
      clear hc hp hi hf hs hw hn ht hen he he2 h1 h3 h6 h7
      go_enter Tryz.func95, Tryz.ntmps95
      go_wp2_with fail
      refine HEN.out.mono ?_
      rintro _ w1 ⟨rfl, h1⟩
      have HH1 := Lib.hid (HH.out.below h1)
      have BE := Lib.hid (Btw.of_below (I := I) h1)
      have y0 := (h1.cell QC.out.lt).trans x0
      have y1 := (h1.cell QC.out.lt).trans x1
      clear h1 HEN x0 x1
      go_wp2_with fail
      refine (HLV.out _ HH1.out).mono ?_
      rintro _ w2 ⟨rfl, h2, hb2⟩
      have H2 := Lib.hid h2
      have B2 := Lib.hid (BE.out.trans hb2 fun _ _ h => h)
      clear h2 hb2
      go_wp2
      go_ret
      rw [HE.out]
      exact ⟨rfl, H2.out, B2.out⟩
end
section
variable {ρ : Nat → Nat} {I J : Nat → Prop} {w w' : World} {p : Nat} {g : Gm} {s : Sc} {c : Ch} {m : Cm}
def openedS (b : Nat) : Nat := if b = 144 then 2 else if b = 236 then 4 else if b = 239 then 5 else if b = 0 then 6 else if b = 5 then 8 else if b = 96 then 10 else if b = 128 then 9 else 0
set_option maxHeartbeats 4000000 in
theorem opened_any (b : Nat) (hb : b < 256) (w : World) : Calls Tryz.prog 139 #[.int .u8 (b : Int)] w (Gives (.tuple #[.int .i64 (openedS b : Int), .bool (decide (openedS b ≠ 0))]) w) := by
 by_cases h : b = 144 ∨ b = 236 ∨ b = 239 ∨ b = 0 ∨ b = 5 ∨ b = 96 ∨ b = 128
 ·
  rcases h with rfl | rfl | rfl | rfl | rfl | rfl | rfl <;> (go_enter Tryz.func139, Tryz.ntmps139; go_wp2; go_ret2; exact ⟨rfl, Below.refl _ _⟩)
 ·
  have e : openedS b = 0 := by unfold openedS; rw [if_neg (by omega)]; rw [if_neg (by omega)]; rw [if_neg (by omega)]; rw [if_neg (by omega)]; rw [if_neg (by omega)]; rw [if_neg (by omega)]; rw [if_neg (by omega)]
  rw [e]
  have b144 : ((b : Int) == 144) = false := by simp; omega
  have j144 : ((b : Int) = 144) = False := eq_false (by omega)
  have d144 : decide ((b : Int) = 144) = false := decide_eq_false (by omega)
  have b236 : ((b : Int) == 236) = false := by simp; omega
  have j236 : ((b : Int) = 236) = False := eq_false (by omega)
  have d236 : decide ((b : Int) = 236) = false := decide_eq_false (by omega)
  have b239 : ((b : Int) == 239) = false := by simp; omega
  have j239 : ((b : Int) = 239) = False := eq_false (by omega)
  have d239 : decide ((b : Int) = 239) = false := decide_eq_false (by omega)
  have b0 : ((b : Int) == 0) = false := by simp; omega
  have j0 : ((b : Int) = 0) = False := eq_false (by omega)
  have d0 : decide ((b : Int) = 0) = false := decide_eq_false (by omega)
  have b5 : ((b : Int) == 5) = false := by simp; omega
  have j5 : ((b : Int) = 5) = False := eq_false (by omega)
  have d5 : decide ((b : Int) = 5) = false := decide_eq_false (by omega)
  have b96 : ((b : Int) == 96) = false := by simp; omega
  have j96 : ((b : Int) = 96) = False := eq_false (by omega)
  have d96 : decide ((b : Int) = 96) = false := decide_eq_false (by omega)
  have b128 : ((b : Int) == 128) = false := by simp; omega
  have j128 : ((b : Int) = 128) = False := eq_false (by omega)
  have d128 : decide ((b : Int) = 128) = false := decide_eq_false (by omega)
  clear h e
  go_enter Tryz.func139, Tryz.ntmps139
  go_wp2
  go_ret2
  exact ⟨rfl, Below.refl _ _⟩
def Ch.noQ (c : Ch) : Ch := { c with queued := [] }
def Ch.noB (c : Ch) : Ch := { c with qblocks := [] }
def Cm.noQ (m : Cm) : Cm := { m with aQ := none, cQ := 0, lQ := [] }
def Cm.noB (m : Cm) : Cm := { m with aB := none, cB := 0 }
def Ch.newReg (c : Ch) (l : List Nat) : Ch := { c with reg := l }
def Cm.newReg (m : Cm) (b n : Nat) : Cm := { m with aR := some ⟨b, 0, none⟩, cR := n }
theorem Pt.noQ (h : Pt ρ w p g s c m) : Pt ρ w p g s c.noQ m.noQ :=
 {
  h with
  que := ⟨rfl, .inl ⟨rfl, rfl⟩⟩
  qy := rfl
  rq := fun k hk => by cases hk
  raws := fun x hx => h.raws x (List.mem_append_right _ (by simpa [Cm.noQ] using hx)) }
theorem Pt.noB (h : Pt ρ w p g s c m) : Pt ρ w p g s c.noB m.noB :=
 {
  h with
  qbl := ⟨rfl, .inl ⟨rfl, rfl⟩⟩
  rb := fun k hk => by cases hk }
theorem Pt.newReg (h : Pt ρ w p g s c m) (hb : Below w.heap.size w w') (b n : Nat) (cur : Array Value) (u : TypeId) (l : List Nat) (hn : w.heap.size ≤ b) (hk : CRow w' b u cur) (hr : R8 w' (some ⟨b, 0, none⟩) l.length l) (hl : l.length = g.raw.toNat) :
  Pt (role1 ρ b 7) w' p g s (c.newReg l) (m.newReg b n) :=
 {
  h.more1 hb b 7 hn hk.lt with
  reg := ⟨b, cur, u, rfl, if_pos rfl, hk, hr⟩
  regn := hl }
theorem open_2 (b : Int) (HO : ∀ W, Calls Tryz.prog 139 #[.int .u8 b] W (Gives (.tuple #[.int .i64 2, .bool true]) W)) (h : CRow w p 72 (chCells g c m)) : Calls Tryz.prog 116 #[.pointer (some ⟨p, 0, none⟩), .int .u8 b] w (SetsR (.bool true) p g (c.discard.enter 2) m.discard.enter w) := by
 have C0 := Lib.hid h
 have HOP := Lib.hid HO
 clear h HO
 go_enter Tryz.func116, Tryz.ntmps116
 go_wp2_with fail
 refine (HOP.out _).mono ?_
 rintro _ w1 ⟨rfl, h1⟩
 have B1 := Lib.hid h1
 have C1 := Lib.hid (C0.out.below h1)
 clear h1 C0
 have x15 := C1.out.cell_at 15 (.slice m.aQ c.queued.length m.cQ) rfl
 have f15 := C1.out.frozen 15
 have S1 := Lib.hid (C1.out.setCell 15 (.slice none 0 0))
 have K1 := Lib.hid (((Btw.of_below B1.out)).setCell (I := fun j => j = p) (p := ⟨p, 15, none⟩) (v := .slice none 0 0) rfl)
 have x16 := S1.out.cell_at 16 (.slice m.aB c.qblocks.length m.cB) rfl
 have f16 := S1.out.frozen 16
 have S2 := Lib.hid (S1.out.setCell 16 (.slice none 0 0))
 have K2 := Lib.hid ((K1.out).setCell (I := fun j => j = p) (p := ⟨p, 16, none⟩) (v := .slice none 0 0) rfl)
 have S2' := Lib.hid (show CRow _ p 72 (chCells g c.discard m.discard) from S2.out)
 clear S1 S2 K1 C1
 go_wp2_with fail
 refine (enter_any 2 S2'.out).mono ?_
 rintro _ w2 ⟨rfl, h2, b2⟩
 have C2 := Lib.hid h2
 have B2 := Lib.hid (K2.out.trans b2 (fun _ _ h => h))
 clear h2 b2 S2' K2
 go_wp2
 go_ret
 exact ⟨rfl, C2.out, B2.out⟩
theorem open_4 (b : Int) (HO : ∀ W, Calls Tryz.prog 139 #[.int .u8 b] W (Gives (.tuple #[.int .i64 4, .bool true]) W)) (h : CRow w p 72 (chCells g c m)) : Calls Tryz.prog 116 #[.pointer (some ⟨p, 0, none⟩), .int .u8 b] w (SetsR (.bool true) p g (c.discard.enter 4) m.discard.enter w) := by
 have C0 := Lib.hid h
 have HOP := Lib.hid HO
 clear h HO
 go_enter Tryz.func116, Tryz.ntmps116
 go_wp2_with fail
 refine (HOP.out _).mono ?_
 rintro _ w1 ⟨rfl, h1⟩
 have B1 := Lib.hid h1
 have C1 := Lib.hid (C0.out.below h1)
 clear h1 C0
 have x15 := C1.out.cell_at 15 (.slice m.aQ c.queued.length m.cQ) rfl
 have f15 := C1.out.frozen 15
 have S1 := Lib.hid (C1.out.setCell 15 (.slice none 0 0))
 have K1 := Lib.hid (((Btw.of_below B1.out)).setCell (I := fun j => j = p) (p := ⟨p, 15, none⟩) (v := .slice none 0 0) rfl)
 have x16 := S1.out.cell_at 16 (.slice m.aB c.qblocks.length m.cB) rfl
 have f16 := S1.out.frozen 16
 have S2 := Lib.hid (S1.out.setCell 16 (.slice none 0 0))
 have K2 := Lib.hid ((K1.out).setCell (I := fun j => j = p) (p := ⟨p, 16, none⟩) (v := .slice none 0 0) rfl)
 have S2' := Lib.hid (show CRow _ p 72 (chCells g c.discard m.discard) from S2.out)
 clear S1 S2 K1 C1
 go_wp2_with fail
 refine (enter_any 4 S2'.out).mono ?_
 rintro _ w2 ⟨rfl, h2, b2⟩
 have C2 := Lib.hid h2
 have B2 := Lib.hid (K2.out.trans b2 (fun _ _ h => h))
 clear h2 b2 S2' K2
 go_wp2
 go_ret
 exact ⟨rfl, C2.out, B2.out⟩
theorem open_5 (b : Int) (HO : ∀ W, Calls Tryz.prog 139 #[.int .u8 b] W (Gives (.tuple #[.int .i64 5, .bool true]) W)) (h : CRow w p 72 (chCells g c m)) : Calls Tryz.prog 116 #[.pointer (some ⟨p, 0, none⟩), .int .u8 b] w (SetsR (.bool true) p g (c.discard.enter 5) m.discard.enter w) := by
 have C0 := Lib.hid h
 have HOP := Lib.hid HO
 clear h HO
 go_enter Tryz.func116, Tryz.ntmps116
 go_wp2_with fail
 refine (HOP.out _).mono ?_
 rintro _ w1 ⟨rfl, h1⟩
 have B1 := Lib.hid h1
 have C1 := Lib.hid (C0.out.below h1)
 clear h1 C0
 have x15 := C1.out.cell_at 15 (.slice m.aQ c.queued.length m.cQ) rfl
 have f15 := C1.out.frozen 15
 have S1 := Lib.hid (C1.out.setCell 15 (.slice none 0 0))
 have K1 := Lib.hid (((Btw.of_below B1.out)).setCell (I := fun j => j = p) (p := ⟨p, 15, none⟩) (v := .slice none 0 0) rfl)
 have x16 := S1.out.cell_at 16 (.slice m.aB c.qblocks.length m.cB) rfl
 have f16 := S1.out.frozen 16
 have S2 := Lib.hid (S1.out.setCell 16 (.slice none 0 0))
 have K2 := Lib.hid ((K1.out).setCell (I := fun j => j = p) (p := ⟨p, 16, none⟩) (v := .slice none 0 0) rfl)
 have S2' := Lib.hid (show CRow _ p 72 (chCells g c.discard m.discard) from S2.out)
 clear S1 S2 K1 C1
 go_wp2_with fail
 refine (enter_any 5 S2'.out).mono ?_
 rintro _ w2 ⟨rfl, h2, b2⟩
 have C2 := Lib.hid h2
 have B2 := Lib.hid (K2.out.trans b2 (fun _ _ h => h))
 clear h2 b2 S2' K2
 go_wp2
 go_ret
 exact ⟨rfl, C2.out, B2.out⟩
theorem open_6 (b : Int) (HO : ∀ W, Calls Tryz.prog 139 #[.int .u8 b] W (Gives (.tuple #[.int .i64 6, .bool true]) W)) (h : CRow w p 72 (chCells g c m)) : Calls Tryz.prog 116 #[.pointer (some ⟨p, 0, none⟩), .int .u8 b] w (SetsR (.bool true) p g (c.discard.enter 6) m.discard.enter w) := by
 have C0 := Lib.hid h
 have HOP := Lib.hid HO
 clear h HO
 go_enter Tryz.func116, Tryz.ntmps116
 go_wp2_with fail
 refine (HOP.out _).mono ?_
 rintro _ w1 ⟨rfl, h1⟩
 have B1 := Lib.hid h1
 have C1 := Lib.hid (C0.out.below h1)
 clear h1 C0
 have x15 := C1.out.cell_at 15 (.slice m.aQ c.queued.length m.cQ) rfl
 have f15 := C1.out.frozen 15
 have S1 := Lib.hid (C1.out.setCell 15 (.slice none 0 0))
 have K1 := Lib.hid (((Btw.of_below B1.out)).setCell (I := fun j => j = p) (p := ⟨p, 15, none⟩) (v := .slice none 0 0) rfl)
 have x16 := S1.out.cell_at 16 (.slice m.aB c.qblocks.length m.cB) rfl
 have f16 := S1.out.frozen 16
 have S2 := Lib.hid (S1.out.setCell 16 (.slice none 0 0))
 have K2 := Lib.hid ((K1.out).setCell (I := fun j => j = p) (p := ⟨p, 16, none⟩) (v := .slice none 0 0) rfl)
 have S2' := Lib.hid (show CRow _ p 72 (chCells g c.discard m.discard) from S2.out)
 clear S1 S2 K1 C1
 go_wp2_with fail
 refine (enter_any 6 S2'.out).mono ?_
 rintro _ w2 ⟨rfl, h2, b2⟩
 have C2 := Lib.hid h2
 have B2 := Lib.hid (K2.out.trans b2 (fun _ _ h => h))
 clear h2 b2 S2' K2
 go_wp2
 go_ret
 exact ⟨rfl, C2.out, B2.out⟩
theorem open_8 (b : Int) (HO : ∀ W, Calls Tryz.prog 139 #[.int .u8 b] W (Gives (.tuple #[.int .i64 8, .bool true]) W)) (h : CRow w p 72 (chCells g c m)) : Calls Tryz.prog 116 #[.pointer (some ⟨p, 0, none⟩), .int .u8 b] w (SetsR (.bool true) p g (c.discard.enter 8) m.discard.enter w) := by
 have C0 := Lib.hid h
 have HOP := Lib.hid HO
 clear h HO
 go_enter Tryz.func116, Tryz.ntmps116
 go_wp2_with fail
 refine (HOP.out _).mono ?_
 rintro _ w1 ⟨rfl, h1⟩
 have B1 := Lib.hid h1
 have C1 := Lib.hid (C0.out.below h1)
 clear h1 C0
 have x15 := C1.out.cell_at 15 (.slice m.aQ c.queued.length m.cQ) rfl
 have f15 := C1.out.frozen 15
 have S1 := Lib.hid (C1.out.setCell 15 (.slice none 0 0))
 have K1 := Lib.hid (((Btw.of_below B1.out)).setCell (I := fun j => j = p) (p := ⟨p, 15, none⟩) (v := .slice none 0 0) rfl)
 have x16 := S1.out.cell_at 16 (.slice m.aB c.qblocks.length m.cB) rfl
 have f16 := S1.out.frozen 16
 have S2 := Lib.hid (S1.out.setCell 16 (.slice none 0 0))
 have K2 := Lib.hid ((K1.out).setCell (I := fun j => j = p) (p := ⟨p, 16, none⟩) (v := .slice none 0 0) rfl)
 have S2' := Lib.hid (show CRow _ p 72 (chCells g c.discard m.discard) from S2.out)
 clear S1 S2 K1 C1
 go_wp2_with fail
 refine (enter_any 8 S2'.out).mono ?_
 rintro _ w2 ⟨rfl, h2, b2⟩
 have C2 := Lib.hid h2
 have B2 := Lib.hid (K2.out.trans b2 (fun _ _ h => h))
 clear h2 b2 S2' K2
 go_wp2
 go_ret
 exact ⟨rfl, C2.out, B2.out⟩
theorem open_10 (b : Int) (HO : ∀ W, Calls Tryz.prog 139 #[.int .u8 b] W (Gives (.tuple #[.int .i64 10, .bool true]) W)) (h : CRow w p 72 (chCells g c m)) : Calls Tryz.prog 116 #[.pointer (some ⟨p, 0, none⟩), .int .u8 b] w (SetsR (.bool true) p g (c.noQ.enter 10) m.noQ.enter w) := by
 have C0 := Lib.hid h
 have HOP := Lib.hid HO
 clear h HO
 go_enter Tryz.func116, Tryz.ntmps116
 go_wp2_with fail
 refine (HOP.out _).mono ?_
 rintro _ w1 ⟨rfl, h1⟩
 have B1 := Lib.hid h1
 have C1 := Lib.hid (C0.out.below h1)
 clear h1 C0
 have x15 := C1.out.cell_at 15 (.slice m.aQ c.queued.length m.cQ) rfl
 have f15 := C1.out.frozen 15
 have S1 := Lib.hid (show CRow _ p 72 (chCells g c.noQ m.noQ) from C1.out.setCell 15 (.slice none 0 0))
 have K1 := Lib.hid (((Btw.of_below B1.out)).setCell (I := fun j => j = p) (p := ⟨p, 15, none⟩) (v := .slice none 0 0) rfl)
 clear C1
 go_wp2_with fail
 refine (enter_any 10 S1.out).mono ?_
 rintro _ w2 ⟨rfl, h2, b2⟩
 have C2 := Lib.hid h2
 have B2 := Lib.hid (K1.out.trans b2 (fun _ _ h => h))
 clear h2 b2 S1 K1
 go_wp2
 go_ret
 exact ⟨rfl, C2.out, B2.out⟩
set_option maxHeartbeats 2000000 in
theorem open_9 (b : Int) (HO : ∀ W, Calls Tryz.prog 139 #[.int .u8 b] W (Gives (.tuple #[.int .i64 9, .bool true]) W)) (h : CH I w p g s c) : Calls Tryz.prog 116 #[.pointer (some ⟨p, 0, none⟩), .int .u8 b] w (Acts I p g s (.bool true) (((c.newReg (List.replicate g.raw.toNat 255)).noB).enter 9) w) := by
 obtain ⟨ρ, m, hc, hp, hi⟩ := h
 have hraw := hp.raw_
 have HER := Lib.hid (fun W => Erased_fresh g g.raw.toNat hraw.1 (by omega) W)
 have QI := Lib.hid hi
 have QP := Lib.hid hp
 have C0 := Lib.hid hc
 have HOP := Lib.hid HO
 clear hc hp hi HO hraw
 go_enter Tryz.func116, Tryz.ntmps116
 go_wp2_with fail
 refine (HOP.out _).mono ?_
 rintro _ w1 ⟨rfl, h1⟩
 have B1 := Lib.hid h1
 have C1 := Lib.hid (C0.out.below h1)
 have P1 := Lib.hid (QP.out.below h1)
 have I1 := Lib.hid (QI.out.grow h1.size)
 clear h1 C0
 have x19 := C1.out.cell_at 19 (.int .i64 g.p) rfl
 have x20 := C1.out.cell_at 20 (.int .i64 g.b) rfl
 have x21 := C1.out.cell_at 21 (.int .i64 g.s) rfl
 have x22 := C1.out.cell_at 22 (.int .i64 g.c) rfl
 have x23 := C1.out.cell_at 23 (.int .i64 g.k) rfl
 have x24 := C1.out.cell_at 24 (.int .i64 g.r) rfl
 have x25 := C1.out.cell_at 25 (.int .i64 g.q) rfl
 go_wp2_with fail
 refine (HER.out _).mono ?_
 rintro _ w2 ⟨gr, cr, cur, u, rfl, hgr, hrow, hr8, hcap, hb2⟩
 have hP2 := P1.out.newReg hb2 gr cr cur u _ hgr hrow hr8 (by simp)
 have hI2 := I1.out.one hb2.size gr 7 hgr
 have C2 := Lib.hid (C1.out.below hb2)
 rw [List.length_replicate]
 have f5 := C2.out.frozen 5
 have x5 := C2.out.cell_at 5 (.slice m.aR c.reg.length m.cR) rfl
 have S1 := Lib.hid (C2.out.setCell 5 (.slice (some ⟨gr, 0, none⟩) g.raw.toNat cr))
 have K1 := Lib.hid (((Btw.of_below (I := fun j => j = p) (B1.out.trans (hb2.mono B1.out.size)))).setCell (p := ⟨p, 5, none⟩) (v := .slice (some ⟨gr, 0, none⟩) g.raw.toNat cr) rfl)
 have P2 := Lib.hid hP2
 have I2 := Lib.hid hI2
 have x16 := S1.out.cell_at 16 (.slice m.aB c.qblocks.length m.cB) rfl
 have f16 := S1.out.frozen 16
 have S2 := Lib.hid (show CRow _ p 72 (chCells g (c.newReg (List.replicate g.raw.toNat 255)).noB (m.newReg gr cr).noB) by
  have h0 := S1.out.setCell 16 (.slice none 0 0)
  simpa [chCells, Ch.newReg, Ch.noB, Cm.newReg, Cm.noB] using h0)
 have K2 := Lib.hid ((K1.out).setCell (I := fun j => j = p) (p := ⟨p, 16, none⟩) (v := .slice none 0 0) rfl)
 have BP := Lib.hid (((Btw.refl (I := fun j => j = p) w2).setCell (p := ⟨p, 5, none⟩) (v := .slice (some ⟨gr, 0, none⟩) g.raw.toNat cr) rfl).setCell (p := ⟨p, 16, none⟩) (v := .slice none 0 0) rfl)
 clear hP2 hI2 hgr hrow hr8 hcap hb2 S1 K1 C1 x19 x20 x21 x22 x23 x24 x25
 go_wp2_with fail
 refine (enter_any 9 S2.out).mono ?_
 rintro _ w3 ⟨rfl, h3, b3⟩
 have C3 := Lib.hid h3
 have B3 := Lib.hid (K2.out.trans b3 (fun _ _ h => h))
 have BP3 := Lib.hid (BP.out.trans b3 (fun _ _ h => h))
 clear h3 b3 S2
 go_wp2
 go_ret
 refine ⟨rfl, ⟨role1 ρ gr 7, _, C3.out, ((P2.out.btw BP3.out (fun j e => by rw [e]; exact P2.out.rp)).noB).enter 9, I2.out.grow BP3.out.size⟩, (Btw.refl w).trans B3.out fun j _ e => by rw [e]; exact QI.out.self QP.out⟩
end
def geo14 : Gm := ⟨1, 2, 4, 1, 4, 3, 1⟩
def sc14 : Sc := ⟨[], [], [], -1, [], []⟩
def cK (n : Nat) : Ch := { (Ch.new geo14 sc14) with state := 3, said := n, cycles := 2 + n }
def ans5 : List Nat := [73, 78, 1, 3, 1]
def lowB (l : List Int) (b : Int) : Bool := l.all fun d => decide (d < b)
theorem lowB_succ {l : List Int} {k : Nat} {x b : Int} (h : l[k]? = some x) : lowB (l.take (k + 1)) b = (lowB (l.take k) b && decide (x < b)) := by
 unfold lowB
 rw [List.take_add_one, h, List.all_append]
 simp
theorem lowB_nb {s : Sc} {c : Ch} {n : Nat} (hn : 1 ≤ n) (h : lowB s.busy (n : Int) = true) : nb s c < n := by
 unfold nb
 rw [List.getD_eq_getElem?_getD]
 cases hx : s.busy[c.bz]? with
 | none => show (0 : Int).toNat < n; simp; omega
 | some x =>
  have h1 := List.all_eq_true.1 h x (List.mem_of_getElem? hx)
  have h2 := of_decide_eq_true h1
  show x.toNat < n
  omega
end Go.Proofs.YtmbgoopkpfhamaaGreat
