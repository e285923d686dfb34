/-
  lose of a chip for which nothing waits; Do.
-/
import Derived.Test.YtmbgoopkpfhamaaGreatTk
import Derived.Test.YtmbgoopkpfhamaaGreatTkB
import Derived.Test.YtmbgoopkpfhamaaGreatIdentChecksJ12
import Derived.Test.YtmbgoopkpfhamaaGreatIdentChecksJ17
import Derived.Test.YtmbgoopkpfhamaaGreatIdentChecksJ10
import Derived.Test.YtmbgoopkpfhamaaGreatIdentChecksJInv
import Derived.Test.YtmbgoopkpfhamaaGreatIdentChecksJ6
import Derived.Test.YtmbgoopkpfhamaaGreatIdentChecksJ16
namespace Go.Proofs.YtmbgoopkpfhamaaGreat
open Go.RowKit
set_option maxRecDepth 100000
def zJc0 : Oper := { dst := some 49, op := Op.call { callee := Callee.value (Operand.func 110), args := #[Operand.tmp 48], argTypes := #[34] }, type := 26, pos := "work.go:194", after := #[{ on := 5, ground := Ground.data }], guard := none }
def zJc1 : Oper := { dst := some 50, op := Op.call { callee := Callee.value (Operand.func 130), args := #[Operand.tmp 46, Operand.tmp 47, Operand.tmp 49], argTypes := #[57, 3, 26] }, type := 35, pos := "work.go:194", after := #[{ on := 3, ground := Ground.data }, { on := 4, ground := Ground.data }, { on := 6, ground := Ground.data }, { on := 6, ground := Ground.chain }], guard := none }
def zJc2 : Oper := { dst := some 54, op := Op.call { callee := Callee.value (Operand.func 110), args := #[Operand.tmp 53], argTypes := #[34] }, type := 26, pos := "work.go:180", after := #[{ on := 5, ground := Ground.data }], guard := none }
def zJc3 : Oper := { dst := some 55, op := Op.call { callee := Callee.value (Operand.func 109), args := #[Operand.tmp 51, Operand.tmp 52, Operand.tmp 54], argTypes := #[57, 3, 26] }, type := 35, pos := "work.go:180", after := #[{ on := 3, ground := Ground.data }, { on := 4, ground := Ground.data }, { on := 6, ground := Ground.data }, { on := 6, ground := Ground.chain }], guard := none }
section
variable {I : Nat → Prop} {w : World} {p : Nat} {g : Gm} {s : Sc} {c : Ch}
def Ch.tick (c : Ch) : Ch := { c with cut := if c.cut = -1 then -1 else c.cut - 1, cycles := c.cycles + 1 }
theorem Do_off (k b : Int) (ho : c.on = false) (h : CH I w p g s c) : Calls Tryz.prog 70 #[.pointer (some ⟨p, 0, none⟩), .agg #[.int .i64 k, .int .u8 b]] w (Gives (.tuple #[.int .u8 255, .int .i64 20]) w) := by
 have B0 := Lib.hid (below_new w (.cells #[.int .i64 k, .int .u8 b] 93))
 obtain ⟨ρ, m, hc, -⟩ := h.below B0.out
 have C0 := Lib.hid hc
 have HO := Lib.hid ho
 clear hc ho
 go_enter Tryz.func70, Tryz.ntmps70
 go_wp2_with fail
 refine (cmade_yes p m.ap _ (C0.out.cell_at 27 _ rfl)).mono ?_
 rintro _ w1 ⟨rfl, h1⟩
 have B1 := Lib.hid (below_step B0.out h1)
 have x28 : w1.cell? ⟨p, 28, none⟩ = some (.bool false) := by
  have h0 := (C0.out.below h1).cell_at 28 (.bool c.on) rfl
  rw [HO.out] at h0
  exact h0
 clear h1
 go_wp2
 go_ret2
 exact ⟨rfl, B1.out⟩
set_option maxHeartbeats 2000000 in
theorem Do_lose (k b : Int) (hk : 1 ≤ k ∧ k ≤ 4) (ho : c.on = true) (hcut : c.cut = 0) (c' : Ch) (HL : ∀ W, CH I W p g s c → Calls Tryz.prog 83 #[.pointer (some ⟨p, 0, none⟩)] W fun e w' => e = .returned (.tuple #[]) ∧ CH I w' p g s c' ∧ Btw I W w') (h : CH I w p g s c) :
  Calls Tryz.prog 70 #[.pointer (some ⟨p, 0, none⟩), .agg #[.int .i64 k, .int .u8 b]] w fun e w' => e = .returned (.tuple #[.int .u8 255, .int .i64 20]) ∧ CH I w' p g s c' ∧ Btw I w w' := by
 have B0 := Lib.hid (below_new w (.cells #[.int .i64 k, .int .u8 b] 93))
 have Z0 := Lib.hid (CRow.new w #[.int .i64 k, .int .u8 b] 93)
 have H0 := Lib.hid (h.below B0.out)
 have HO := Lib.hid ho
 have HC := Lib.hid hcut
 have HLL := Lib.hid HL
 have HR := Lib.hid (fun W => Right_any k b W)
 rw [okK_iff.2 hk] at HR
 clear h ho hcut HL hk
 have hx := H0.out
 obtain ⟨ρ, m, hc, -⟩ := hx
 have C0 := Lib.hid hc
 clear hc
 go_enter Tryz.func70, Tryz.ntmps70
 go_wp2_with fail
 refine (cmade_yes p m.ap _ (C0.out.cell_at 27 _ rfl)).mono ?_
 rintro _ w1 ⟨rfl, h1⟩
 have B1 := Lib.hid (below_step B0.out h1)
 have H1 := Lib.hid (H0.out.below h1)
 have C1 := Lib.hid (C0.out.below h1)
 have x28 : w1.cell? ⟨p, 28, none⟩ = some (.bool true) := by
  have h0 := C1.out.cell_at 28 (.bool c.on) rfl
  rw [HO.out] at h0
  exact h0
 have yk := (Z0.out.below h1).cell_at 0 _ rfl
 have yb := (Z0.out.below h1).cell_at 1 _ rfl
 clear h1 H0 C0
 go_wp2_with fail
 clear x28 yk yb
 refine (HR.out _).mono ?_
 rintro _ w2 ⟨rfl, h2⟩
 have B2 := Lib.hid (below_step B1.out h2)
 have H2 := Lib.hid (H1.out.below h2)
 have x29 : w2.cell? ⟨p, 29, none⟩ = some (.int .i64 0) := by
  have h0 := (C1.out.below h2).cell_at 29 (.int .i64 c.cut) rfl
  rw [HC.out] at h0
  exact h0
 clear h2 H1 C1 HR
 go_wp2_with fail
 refine (HLL.out _ H2.out).mono ?_
 rintro _ w3 ⟨rfl, h3, b3⟩
 have H3 := Lib.hid h3
 have B3 := Lib.hid ((Btw.of_below (I := I) B2.out).trans b3 (fun _ _ h => h))
 clear h3 b3
 go_wp2
 go_ret2
 exact ⟨rfl, H3.out, B3.out⟩
end
def Ch.new (g : Gm) (s : Sc) : Ch := { state := 0, listed := [], said := 0, rung := 0, col := 0, reg := List.replicate g.raw.toNat 255, busy := 0, reads := false, prow := 0, progs := [], blocks := [], brow := 0, braw := [], there := false, polls := 0, queued := [], qblocks := [], fail := false, prev := false, on := true, cut := s.cut, cycles := 0, arr := St.new g.raw.toNat (g.b * g.s).toNat g.s.toNat g.b.toNat s.marked, bz := 0, wk := 0 }
def ChipIs (g : Gm) (s : Sc) (w : World) (e : Ending) (w' : World) : Prop :=
 (s.ok g ∧ ∃ p, e = .returned (.tuple #[.pointer (some ⟨p, 0, none⟩), .int .i64 0]) ∧ Below w.heap.size w w' ∧ CH (fun j => w.heap.size ≤ j) w' p g s (Ch.new g s)) ∨
 (¬ s.ok g ∧ e = .returned (.tuple #[.pointer none, .int .i64 2]) ∧ Below w.heap.size w w')
def newCm (b n pt lo hi pa qa ra : Nat) : Cm := { aL := none, cL := 0, aR := some ⟨b, 0, none⟩, cR := n, aP := none, cP := 0, aE := none, cE := 0, aG := none, cG := 0, aQ := none, cQ := 0, aB := none, cB := 0, lQ := [], lP := [], t := pt, lo := lo, hi := hi, ap := pa, aq := qa, ar := ra }
def roleN (base p pa qa ra b lo hi : Nat) (j : Nat) : Nat := if j < base then 99 else if j = p then 1 else if j = pa then 2 else if j = qa then 3 else if j = ra then 4 else if j = b then 7 else if lo ≤ j ∧ j < hi then 5 else 0
theorem roleN_in {base p pa qa ra b lo hi j : Nat} (h : roleN base p pa qa ra b lo hi j ≠ 0) : j < base ∨ j = p ∨ j = pa ∨ j = qa ∨ j = ra ∨ j = b ∨ (lo ≤ j ∧ j < hi) := by
 unfold roleN at h
 repeat' split at h
 all_goals omega
theorem ch_new {g : Gm} {s : Sc} {w2 W : World} {base L H pt pa qa ra b n p : Nat} {cur : Array Value} {u : TypeId} {st : St}
  (hA : AR (fun j => j < H ∨ j = pa ∨ j = qa ∨ j = ra) w2 pa qa ra g st) (hst : st = St.new g.raw.toNat (g.b * g.s).toNat g.s.toNat g.b.toNat s.marked) (hB : Below w2.heap.size w2 W) (hpa : H ≤ pa ∧ H ≤ qa ∧ H ≤ ra) (hT : Tel w2 pt L H s 0 0) (hL : base ≤ L) (hLH : L ≤ H)
  (hb : w2.heap.size ≤ b) (hk : CRow W b u cur) (hr : R8 W (some ⟨b, 0, none⟩) g.raw.toNat (List.replicate g.raw.toNat 255)) (hp : CRow W p 72 (chCells g (Ch.new g s) (newCm b n pt L H pa qa ra))) (hp2 : w2.heap.size ≤ p) (hpb : p ≠ b) :
  CH (fun j => base ≤ j) W p g s (Ch.new g s) := by
 have l1 := hA.lt pa (.inr (.inl rfl))
 have l2 := hA.lt qa (.inr (.inr (.inl rfl)))
 have l3 := hA.lt ra (.inr (.inr (.inr rfl)))
 have l4 := hk.lt
 have l5 := hp.lt
 have l6 := hB.size
 have n1 := hA.pq
 have n2 := hA.pr
 have n3 := hA.qr
 subst hst
 have m1 : roleN base p pa qa ra b L H pa = 2 := by unfold roleN; rw [if_neg (by omega), if_neg (by omega), if_pos rfl]
 have m2 : roleN base p pa qa ra b L H qa = 3 := by unfold roleN; rw [if_neg (by omega), if_neg (by omega), if_neg (by omega), if_pos rfl]
 have m3 : roleN base p pa qa ra b L H ra = 4 := by unfold roleN; rw [if_neg (by omega), if_neg (by omega), if_neg (by omega), if_neg (by omega), if_pos rfl]
 refine ⟨roleN base p pa qa ra b L H, newCm b n pt L H pa qa ra, hp, ?_, fun j h1 h2 => ?_, fun j hj => by omega, fun j hj => by unfold roleN; rw [if_pos (by omega)]⟩
 ·
  exact {
   lt := fun j hj => by have := roleN_in hj; omega
   rp := by unfold roleN; rw [if_neg (by omega), if_pos rfl]
   arr := ((hA.widen (I' := fun j => j < H ∨ j = pa ∨ j = qa ∨ j = ra ∨ j = b ∨ j = p) hB (fun j hj => by rcases hj with h | h | h | h <;> simp [h]) (fun j hj => by
    rcases hj with h | h | h | h | h | h
    ·
     exact .inl (.inl h)
    ·
     exact .inl (.inr (.inl h))
    ·
     exact .inl (.inr (.inr (.inl h)))
    ·
     exact .inl (.inr (.inr (.inr h)))
    ·
     exact .inr (by omega)
    ·
     exact .inr (by omega)) (fun j hj => by omega)).narrow (fun j hj => by have := roleN_in hj; omega) (by rw [m1]; omega) (by rw [m2]; omega) (by rw [m3]; omega))
   rap := m1
   raq := m2
   rar := m3
   tel := hT.below hB
   rt := fun j h1 h2 => by
    have h1 : L ≤ j := h1
    have h2 : j < H := h2
    show roleN _ _ _ _ _ _ _ _ j = 5
    unfold roleN
    rw [if_neg (by omega), if_neg (by omega), if_neg (by omega), if_neg (by omega), if_neg (by omega), if_neg (by omega), if_pos ⟨h1, h2⟩]
   lis := ⟨rfl, .inl ⟨rfl, rfl⟩⟩
   rl := fun k hk => by cases hk
   l8 := fun x hx => by cases hx
   reg := ⟨b, cur, u, rfl, by unfold roleN; rw [if_neg (by omega), if_neg (by omega), if_neg (by omega), if_neg (by omega), if_neg (by omega), if_pos rfl], hk, by show R8 W _ (List.replicate _ _).length _; rw [List.length_replicate]; exact hr⟩
   regn := List.length_replicate
   que := ⟨rfl, .inl ⟨rfl, rfl⟩⟩
   qy := rfl
   rq := fun k hk => by cases hk
   qbl := ⟨rfl, .inl ⟨rfl, rfl⟩⟩
   rb := fun k hk => by cases hk
   pro := ⟨rfl, .inl ⟨rfl, rfl⟩⟩
   py := rfl
   rpr := fun k hk => by cases hk
   blk := ⟨rfl, .inl ⟨rfl, rfl⟩⟩
   rbl := fun k hk => by cases hk
   raws := fun x hx => by cases hx
   bgr := ⟨Rd.nil_, by simp [Ch.new]⟩
   rg := fun _ _ e => by cases e }
 ·
  have := roleN_in h1
  by_cases e : j < base
  ·
   exact absurd (by unfold roleN; rw [if_pos e]) h2
  ·
   show base ≤ j
   omega
set_option maxHeartbeats 4000000 in
theorem ChipNew_any (g : Gm) (ho : g.ok = true) (hl : g.raw ≤ 1000) (m : Sa) (s : Sc) (w : World) (h : SIn w m s) (hf : s.short) : Calls Tryz.prog 7 #[g.val, m.val s] w (ChipIs g s w) := by
 have HI := Lib.hid h
 have HN := Lib.hid (fun W h => CNew_any g ho m s W h hf)
 have HA := Lib.hid (fun W h => NewW_any g m.a5 s.marked.length m.c5 s.marked W ho hl h (by have := hf.marked; omega))
 have hbd := Gm.bounds_of ho
 have hraw : g.raw = g.c * (g.k + 2) + 31 := by unfold Gm.raw; rw [if_pos ho]
 have hck : 0 ≤ g.c * (g.k + 2) := Int.mul_nonneg (by omega) (by omega)
 have HF := Lib.hid (fun W => fresh_any g g.raw.toNat (by omega) (by omega) W)
 obtain ⟨N, hN⟩ : ∃ N, N = g.raw.toNat := ⟨_, rfl⟩
 rw [← hN] at HF
 have HNN := Lib.hid hN
 clear hbd hraw hck hN
 have S0 := Lib.hid (CRow.new (w.alloc (.cells #[.int .i64 g.p, .int .i64 g.b, .int .i64 g.s, .int .i64 g.c, .int .i64 g.k, .int .i64 g.r, .int .i64 g.q] 23)) (m.cells s) 28)
 have Y0 := Lib.hid ((GBox.new w g 23).below (below_new _ (.cells (m.cells s) 28)))
 have B0 := Lib.hid ((below_new w (.cells #[.int .i64 g.p, .int .i64 g.b, .int .i64 g.s, .int .i64 g.c, .int .i64 g.k, .int .i64 g.r, .int .i64 g.q] 23)).alloc (by simp) (.cells (m.cells s) 28))
 have S0 := Lib.hid (show CRow _ (w.heap.size + 1) 28 (m.cells s) by simpa using S0.out)
 have y0 := S0.out.cell_at 0 (.slice m.a1 s.busy.length m.c1) rfl
 have y1 := S0.out.cell_at 1 (.slice m.a2 s.fails.length m.c2) rfl
 have y2 := S0.out.cell_at 2 (.slice m.a3 s.turns.length m.c3) rfl
 have y3 := S0.out.cell_at 3 (.int .i64 s.cut) rfl
 have y4 := S0.out.cell_at 4 (.slice m.a4 s.torn.length m.c4) rfl
 have y5 := S0.out.cell_at 5 (.slice m.a5 s.marked.length m.c5) rfl
 clear h hf ho hl
 simp only [Gm.val, Sa.val, Sa.cells] at *
 go_enter Tryz.func7, Tryz.ntmps7
 obtain ⟨_, g0, g1, g2, g3, g4, g5, g6⟩ := Y0.out
 go_wp2_with fail
 clear y0 y1 y2 y3 y4 y5 g0 g1 g2 g3 g4 g5 g6
 refine (HN.out _ (HI.out.below B0.out)).mono ?_
 rintro _ w1 hR
 rcases hR with ⟨hok, pt, rfl, hb, ht⟩ | ⟨hno, rfl, hb⟩
 rotate_left
 ·
  have B1 := Lib.hid (below_step B0.out hb)
  have HX := Lib.hid hno
  clear hno hb
  go_wp2
  go_ret2
  exact .inr ⟨HX.out, rfl, B1.out⟩
 have B1 := Lib.hid (below_step B0.out hb)
 have Y1 := Lib.hid (Y0.out.below hb)
 have S1 := Lib.hid (S0.out.below hb)
 have T1 := Lib.hid ht
 have OK := Lib.hid hok
 have L1 := Lib.hid hb.size
 clear hok hb ht HN Y0 S0
 obtain ⟨_, g0, g1, g2, g3, g4, g5, g6⟩ := Y1.out
 have y5 := S1.out.cell_at 5 (.slice m.a5 s.marked.length m.c5) rfl
 go_wp2_with fail
 clear y5 g0 g1 g2 g3 g4 g5 g6
 refine (HA.out _ (HI.out.marked.below B1.out)).mono ?_
 rintro _ w2 hR
 rcases hR with ⟨hm, pa, qa, ra, rfl, ha, hb, hpa, hqa, hra⟩ | ⟨hno, rfl, hb⟩
 rotate_left
 ·
  exact absurd (fun x hx => by
   obtain ⟨i, hi, rfl⟩ := List.mem_iff_getElem.1 hx
   have h0 := OK.out.marked i hi
   simp only [List.getD, List.getElem?_eq_getElem hi, Option.getD_some] at h0
   omega) hno
 have B2 := Lib.hid (below_step B1.out hb)
 have Y2 := Lib.hid (Y1.out.below hb)
 have S2 := Lib.hid (S1.out.below hb)
 have T2 := Lib.hid (T1.out.below hb)
 have A2 := Lib.hid ha
 have PA := Lib.hid (And.intro hpa (And.intro hqa hra))
 have L2 := Lib.hid hb.size
 clear hm ha hb hpa hqa hra HA Y1 S1 T1
 go_wp2_with fail
 refine wp_region_noPanic ?_
 refine wp_region_held_drew (S := fun w' => Below w2.heap.size w2 w') (by kernel_rfl) ((Below.refl _ _).drew) (fun C0 => ?_)
 refine tkH4 0 C0 ?_ (hy := fun W' hSw => by obtain ⟨_, g0, g1, g2, g3, g4, g5, g6⟩ := Y2.out.below hSw; clear hSw; go_simp <;> with_reducible rfl)
 refine tkH4 2 C0 ?_ (hy := fun W' hSw => by obtain ⟨_, g0, g1, g2, g3, g4, g5, g6⟩ := Y2.out.below hSw; clear hSw; go_simp <;> with_reducible rfl)
 refine tkH4 3 C0 ?_
 refine tkH4 4 C0 ?_
 refine tkH4 5 C0 ?_
 refine tkH4 6 C0 ?_ (hy := fun W' hSw => by have y3 := (S2.out.below hSw).cell_at 3 (.int .i64 s.cut) rfl; clear hSw; go_simp <;> with_reducible rfl)
 refine wpAnyH_ready (rs := [1]) (by kernel_rfl) (by simp) ?_
 refine AllReadyH.cons (o := { dst := some 29, op := Op.call { callee := Callee.value (Operand.func 21), args := #[Operand.tmp 28], argTypes := #[23] }, type := 69, pos := "chip.go:59", after := #[{ on := 0, ground := Ground.data }], guard := none }) rfl (fun K hK => ?_) AllReadyH.nil
 go_simp
 refine (HF.out _).mono ?_
 rintro _ w3 ⟨b, n, cur, u, rfl, hb, hk, hr, hn, hw⟩
 have W3 := Lib.hid (show Below w2.heap.size w2 w3 from C0.trans (hw.mono C0.size))
 have N3 := Lib.hid hb
 have K3 := Lib.hid hk
 have R3 := Lib.hid hr
 simp only [mem19]
 clear hb hk hr hn hw
 go_wp2_with fail
 refine hK.out _ _ W3.out (fun C1 => ?_)
 clear hK K
 try simp only [Act.put, zzI, zzO, zzS]
 refine tkH4 7 C1 ?_
 refine wpAnyH_ready (rs := [8]) (by kernel_rfl) (by simp) ?_
 refine AllReadyH.cons (o := { dst := some 36, op := Op.box 72 (Operand.tmp 35), type := 34, pos := "chip.go:59", after := #[{ on := 7, ground := Ground.data }], guard := none }) rfl (fun K hK => ?_) AllReadyH.nil
 go_simp
 refine hK.out _ _ (W3.out.alloc W3.out.size _) (fun C2 => ?_)
 clear hK K
 try simp only [Act.put, zzI, zzO, zzS]
 refine tkH4 9 C2 ?_
 refine tkH4 10 C2 ?_
 refine wpAnyH_done (by kernel_rfl) ?_ _
 refine NoPanic.normal ?_
 go_wp2
 go_ret2
 have W4 := W3.out.alloc W3.out.size (.cells (chCells g (Ch.new g s) (newCm b n pt (w.heap.size + 2) w1.heap.size pa qa ra)) 72)
 have e : chCells g (Ch.new g s) (newCm b n pt (w.heap.size + 2) w1.heap.size pa qa ra) = #[.int .i64 0, .slice none 0 0, .int .i64 0, .int .i64 0, .int .i64 0, .slice (some ⟨b, 0, none⟩) N n, .int .i64 0, .bool false, .int .i64 0, .slice none 0 0, .slice none 0 0, .int .i64 0, .slice none 0 0, .bool false, .int .i64 0, .slice none 0 0, .slice none 0 0, .bool false, .bool false, .int .i64 g.p, .int .i64 g.b, .int .i64 g.s, .int .i64 g.c, .int .i64 g.k, .int .i64 g.r, .int .i64 g.q, .pointer (some ⟨pt, 0, none⟩), .pointer (some ⟨pa, 0, none⟩), .bool true, .int .i64 s.cut, .int .i64 0] := by
  simp [chCells, Ch.new, newCm, HNN.out]
 rw [← e]
 refine .inl ⟨OK.out, w3.heap.size, rfl, below_step B2.out W4, ?_⟩
 have hL1 := L1.out
 have hN3 := N3.out
 have hW3 := W3.out.size
 have hk3 := K3.out.lt
 have hN3 : w2.heap.size ≤ b := hN3
 have hT := T2.out
 simp at hL1
 have hT : Tel w2 pt (w.heap.size + 2) w1.heap.size s 0 0 := by simpa using hT
 exact ch_new A2.out rfl W4 PA.out hT (by omega) hL1 (by omega) (K3.out.alloc _) (by rw [← HNN.out]; exact R3.out.alloc _) (CRow.new w3 _ _) (by omega) (by omega)
section
variable {ρ : Nat → Nat} {I : Nat → Prop} {w w' : World} {p : Nat} {g : Gm} {s : Sc} {c c' : Ch} {m m' : Cm}
end
theorem ChipNew_bad (g : Gm) (ho : g.ok = false) (m : Sa) (s : Sc) (w : World) : Calls Tryz.prog 7 #[g.val, m.val s] w (Gives (.tuple #[.pointer none, .int .i64 2]) w) := by
 have HN := Lib.hid (fun W => CNew_bad g ho m s W)
 have S0 := Lib.hid (CRow.new (w.alloc (.cells #[.int .i64 g.p, .int .i64 g.b, .int .i64 g.s, .int .i64 g.c, .int .i64 g.k, .int .i64 g.r, .int .i64 g.q] 23)) (m.cells s) 28)
 have Y0 := Lib.hid ((GBox.new w g 23).below (below_new _ (.cells (m.cells s) 28)))
 have B0 := Lib.hid ((below_new w (.cells #[.int .i64 g.p, .int .i64 g.b, .int .i64 g.s, .int .i64 g.c, .int .i64 g.k, .int .i64 g.r, .int .i64 g.q] 23)).alloc (by simp) (.cells (m.cells s) 28))
 have S0 := Lib.hid (show CRow _ (w.heap.size + 1) 28 (m.cells s) by simpa using S0.out)
 have y0 := S0.out.cell_at 0 (.slice m.a1 s.busy.length m.c1) rfl
 have y1 := S0.out.cell_at 1 (.slice m.a2 s.fails.length m.c2) rfl
 have y2 := S0.out.cell_at 2 (.slice m.a3 s.turns.length m.c3) rfl
 have y3 := S0.out.cell_at 3 (.int .i64 s.cut) rfl
 have y4 := S0.out.cell_at 4 (.slice m.a4 s.torn.length m.c4) rfl
 have y5 := S0.out.cell_at 5 (.slice m.a5 s.marked.length m.c5) rfl
 clear ho
 simp only [Gm.val, Sa.val, Sa.cells] at *
 go_enter Tryz.func7, Tryz.ntmps7
 obtain ⟨_, g0, g1, g2, g3, g4, g5, g6⟩ := Y0.out
 go_wp2_with fail
 clear y0 y1 y2 y3 y4 y5 g0 g1 g2 g3 g4 g5 g6
 refine (HN.out _).mono ?_
 rintro _ w1 ⟨rfl, hb⟩
 have B1 := Lib.hid (below_step B0.out hb)
 clear hb
 go_wp2
 go_ret2
 exact ⟨rfl, B1.out⟩
structure SG (g : Gm) (s : Sc) : Prop where
 short : s.short
 ok : s.ok g
 tb : ∀ x ∈ s.torn, x < 256
def tornP (g : Gm) (s : Sc) : List Nat := tornL s.torn g.raw.toNat g.raw.toNat
section
variable {ρ : Nat → Nat} {I J : Nat → Prop} {w w' : World} {p : Nat} {g : Gm} {s : Sc} {c : Ch} {m : Cm}
theorem Pt.turnX {st : St} {bz wk : Nat} (h : Pt ρ w p g s c m) (hb : Btw J w w') (hJ : ∀ j, J j → ρ j = 1 ∨ ρ j = 2 ∨ ρ j = 3 ∨ ρ j = 4 ∨ ρ j = 5) (ha : AR (fun j => ρ j ≠ 0) w' m.ap m.aq m.ar g st) (ht : Tel w' m.t m.lo m.hi s (bz : Int) (wk : Int)) :
  Pt ρ w' p g s { c with arr := st, bz := bz, wk := wk } m := by
 have no : ∀ {j k : Nat}, ρ j = k → 5 < k → ¬ J j := fun h1 h2 h3 => by have := hJ _ h3; omega
 obtain ⟨b, cur, u, e1, e2, e3, e4⟩ := h.reg
 exact { h with
  lt := fun j hj => Nat.lt_of_lt_of_le (h.lt j hj) hb.size
  arr := ha
  tel := ht
  lis := own_btw1 h.lis hb fun k hk => no (h.rl k hk) (by omega)
  reg := ⟨b, cur, u, e1, e2, e3.btw hb (no e2 (by omega)), e4.btw hb (no e2 (by omega))⟩
  que := own_btw2 h.que hb fun k hk => no (h.rq k hk) (by omega)
  qbl := own_btw1 h.qbl hb fun k hk => no (h.rb k hk) (by omega)
  pro := own_btw2 h.pro hb fun k hk => no (h.rpr k hk) (by omega)
  blk := own_btw1 h.blk hb fun k hk => no (h.rbl k hk) (by omega)
  raws := fun x hx => ⟨(h.raws x hx).1.btw0 hb fun b off e hn => no ((h.raws x hx).2 b off e hn) (by omega), (h.raws x hx).2⟩
  bgr := h.bgr.btw0 hb fun b off e hn => no (h.rg b off e hn) (by omega) }
theorem Pt.array {st : St} (h : Pt ρ w p g s c m) (hb : Btw (fun j => j = m.aq ∨ j = m.ar) w w') (ha : AR (fun j => ρ j ≠ 0) w' m.ap m.aq m.ar g st) : Pt ρ w' p g s { c with arr := st } m :=
 h.turnX (st := st) (bz := c.bz) (wk := c.wk) hb (fun j hj => by rcases hj with rfl | rfl; exact .inr (.inr (.inl h.raq)); exact .inr (.inr (.inr (.inl h.rar)))) ha
  (h.tel.btw hb fun j hj => by
   by_cases h1 : j < m.lo
   ·
    exact .inl h1
   ·
    by_cases h2 : m.hi ≤ j
    ·
     exact .inr h2
    ·
     have h3 := h.rt j (by omega) (by omega)
     rcases hj with rfl | rfl
     ·
      have := h.raq; omega
     ·
      have := h.rar; omega)
theorem Tel.in_ {t lo hi : Nat} {bz wk : Int} (h : Tel w t lo hi s bz wk) : lo ≤ t ∧ t < hi := ⟨h.1, h.2.1⟩
theorem Pt.teller {bz wk : Nat} (h : Pt ρ w p g s c m) (hb : Btw (fun j => j = m.t) w w') (ht : Tel w' m.t m.lo m.hi s (bz : Int) (wk : Int)) : Pt ρ w' p g s { c with bz := bz, wk := wk } m := by
 have hr := h.rt m.t h.tel.in_.1 h.tel.in_.2
 refine h.turnX (st := c.arr) (bz := bz) (wk := wk) hb (fun j hj => .inr (.inr (.inr (.inr (hj ▸ hr))))) (h.arr.btw hb fun j hj => ?_) ht
 have hj : j = m.t := hj
 rw [hj]
 refine ⟨by omega, ?_, ?_, ?_⟩
 ·
  intro e; have := h.rap; rw [← e] at this; omega
 ·
  intro e; have := h.raq; rw [← e] at this; omega
 ·
  intro e; have := h.rar; rw [← e] at this; omega
theorem Pt.ne_q (h : Pt ρ w p g s c m) : p ≠ m.aq ∧ p ≠ m.ar ∧ p ≠ m.t := by
 have hr := h.rt m.t h.tel.in_.1 h.tel.in_.2
 have h1 := h.rp
 have h2 := h.raq
 have h3 := h.rar
 refine ⟨?_, ?_, ?_⟩ <;> intro e <;> rw [e] at h1 <;> omega
theorem Pt.raw_ (h : Pt ρ w p g s c m) : g.raw = (g.raw.toNat : Int) ∧ 31 ≤ g.raw.toNat ∧ g.raw.toNat ≤ 1000 := by
 have hbd := Gm.bounds_of h.arr.ok
 have hraw : g.raw = g.c * (g.k + 2) + 31 := by unfold Gm.raw; rw [if_pos h.arr.ok]
 have hck : 0 ≤ g.c * (g.k + 2) := Int.mul_nonneg (by omega) (by omega)
 have hlow := h.arr.low
 omega
def TornIs (g : Gm) (s : Sc) (w : World) (e : Ending) (w' : World) : Prop := ∃ b n, e = .returned (.slice (some ⟨b, 0, none⟩) g.raw.toNat n) ∧ w.heap.size ≤ b ∧ R8 w' (some ⟨b, 0, none⟩) g.raw.toNat (tornP g s) ∧ Below w.heap.size w w'
set_option maxHeartbeats 2000000 in
theorem torn_any (hs : SG g s) (hp : Pt ρ w p g s c m) (h : CRow w p 72 (chCells g c m)) : Calls Tryz.prog 110 #[.pointer (some ⟨p, 0, none⟩)] w (TornIs g s w) := by
 have hN := hp.raw_
 have HR := Lib.hid (fun W => Raw_is g _ hN.1 W)
 have HT := Lib.hid (fun W (ht : Tel W m.t m.lo m.hi s (c.bz : Int) (c.wk : Int)) => Torn_fresh m.t m.lo m.hi s (c.bz : Int) (c.wk : Int) g.raw.toNat W ht hs.short hs.tb (by omega))
 have C0 := Lib.hid h
 have T0 := Lib.hid hp.tel
 unfold TornIs tornP
 generalize g.raw.toNat = N at *
 simp only [Gm.val] at HR
 clear h hp hN hs
 go_enter Tryz.func110, Tryz.ntmps110
 go_wp2
 refine wp_region_noPanic ?_
 refine wp_region_held_drew (S := fun w' => Below w.heap.size w w') (by kernel_rfl) ((Below.refl _ _).drew) (fun CC0 => ?_)
 refine tkH4 0 CC0 ?_
 refine tkH4 1 CC0 ?_
 refine tkH4 2 CC0 ?_
 refine tkH4 3 CC0 ?_ (hy := fun W' hSw => by have y26 := (C0.out.below hSw).cell_at 26 (.pointer (some ⟨m.t, 0, none⟩)) rfl; clear hSw; go_simp <;> with_reducible rfl)
 refine tkH4 4 CC0 ?_
 refine tkH4 5 CC0 ?_
 refine tkH4 6 CC0 ?_
 refine tkH4 7 CC0 ?_ (hy := fun W' hSw => by have y19 := (C0.out.below hSw).cell_at 19 (.int .i64 g.p) rfl; have y20 := (C0.out.below hSw).cell_at 20 (.int .i64 g.b) rfl; have y21 := (C0.out.below hSw).cell_at 21 (.int .i64 g.s) rfl; have y22 := (C0.out.below hSw).cell_at 22 (.int .i64 g.c) rfl; have y23 := (C0.out.below hSw).cell_at 23 (.int .i64 g.k) rfl; have y24 := (C0.out.below hSw).cell_at 24 (.int .i64 g.r) rfl; have y25 := (C0.out.below hSw).cell_at 25 (.int .i64 g.q) rfl; clear hSw; go_simp <;> with_reducible rfl)
 refine wpAnyH_ready (rs := [8]) (by kernel_rfl) (by simp) ?_
 refine AllReadyH.cons (o := { dst := some 11, op := Op.call { callee := Callee.value (Operand.func 68), args := #[Operand.tmp 10], argTypes := #[23] }, type := 3, pos := "work.go:199", after := #[{ on := 7, ground := Ground.data }], guard := none }) rfl (fun K hK => ?_) AllReadyH.nil
 go_simp
 refine (HR.out _).mono ?_
 rintro _ w2 ⟨rfl, hb⟩
 have B2 := Lib.hid (show Below w.heap.size w w2 from CC0.trans (hb.mono CC0.size))
 clear hb
 go_wp2_with fail
 refine hK.out _ _ B2.out (fun C1 => ?_)
 clear hK K
 try simp only [Act.put, zzI, zzO, zzS]
 refine wpAnyH_ready (rs := [9]) (by kernel_rfl) (by simp) ?_
 refine AllReadyH.cons (o := { dst := some 12, op := Op.call { callee := Callee.value (Operand.func 133), args := #[Operand.tmp 6, Operand.tmp 11], argTypes := #[54, 3] }, type := 26, pos := "work.go:199", after := #[{ on := 3, ground := Ground.data }, { on := 8, ground := Ground.data }, { on := 8, ground := Ground.chain }], guard := none }) rfl (fun K hK => ?_) AllReadyH.nil
 go_simp
 refine (HT.out _ (T0.out.below B2.out)).mono ?_
 rintro _ w3 ⟨b, n, rfl, hb1, hr, hb⟩
 have R3 := Lib.hid hr
 have N3 := Lib.hid (Nat.le_trans B2.out.size hb1)
 have B3 := Lib.hid (show Below w.heap.size w w3 from C1.trans (hb.mono C1.size))
 clear hb hb1 hr
 go_wp2_with fail
 refine hK.out _ _ B3.out (fun C2 => ?_)
 clear hK K
 try simp only [Act.put, zzI, zzO, zzS]
 refine tkH4 10 C2 ?_
 refine wpAnyH_done (by kernel_rfl) ?_ _
 refine NoPanic.normal ?_
 go_wp2
 go_ret
 exact ⟨b, n, rfl, N3.out, R3.out, B3.out⟩
end
def tearPairS (g : Gm) (s : Sc) (st : St) (row : Nat) : St := if row % g.s.toNat % 2 = 1 then (st.tear (row - 1) (tornP g s)).tear row (tornP g s) else st.tear row (tornP g s)
theorem St.tear_len (st : St) (i : Nat) (r : List Nat) : (st.tear i r).rows.length = st.rows.length := sec_len
theorem row_at {st : St} {i : Nat} (h : i < st.rows.length) : ∃ y, st.rows[i]? = some y := ⟨_, List.getElem?_eq_getElem h⟩
section
variable {ρ : Nat → Nat} {w : World} {p : Nat} {g : Gm} {s : Sc} {c : Ch} {m : Cm}
theorem Pt.rows_ (h : Pt ρ w p g s c m) : c.arr.rows.length = g.b.toNat * g.s.toNat := by rw [h.arr.nr, h.arr.rows_eq]
theorem Pt.ne_ar (h : Pt ρ w p g s c m) : ¬ (p = m.aq ∨ p = m.ar) := fun e => e.elim h.ne_q.1 h.ne_q.2.1
def ArT (ρ : Nat → Nat) (p : Nat) (g : Gm) (s : Sc) (c : Ch) (m : Cm) (v : Value) (st : St) (w : World) (e : Ending) (w' : World) : Prop :=
 e = .returned v ∧ CRow w' p 72 (chCells g c m) ∧ Pt ρ w' p g s { c with arr := st } m ∧ Btw (fun j => j = m.aq ∨ j = m.ar) w w'
set_option maxHeartbeats 4000000 in
theorem tearPair_any (row : Nat) (hs : SG g s) (hr : row < g.b.toNat * g.s.toNat) (hp : Pt ρ w p g s c m) (h : CRow w p 72 (chCells g c m)) :
  Calls Tryz.prog 108 #[.pointer (some ⟨p, 0, none⟩), .int .i64 (row : Int)] w (ArT ρ p g s c m (.tuple #[]) (tearPairS g s c.arr row) w) := by
 have HS := Lib.hid hs
 have C0 := Lib.hid h
 have P0 := Lib.hid hp
 have hbd := Gm.bounds_of hp.arr.ok
 obtain ⟨P, hP⟩ : ∃ P, P = g.s.toNat := ⟨_, rfl⟩
 have hgs : g.s = (P : Int) := by omega
 have hgb : g.b = (g.b.toNat : Int) := by omega
 rw [← hP] at hr
 have hrow : g.hasRow (row : Int) := ⟨hp.arr.ok, by omega, by
  rw [hgs, hgb]
  have := Int.ofNat_lt.2 hr
  push_cast at this
  exact this⟩
 have hP0 : 0 < P := by omega
 obtain ⟨x, hx⟩ : ∃ x, x = row % P := ⟨_, rfl⟩
 obtain ⟨z, hz⟩ : ∃ z, z = row / P := ⟨_, rfl⟩
 have hdiv : z < g.b.toNat := hz ▸ Nat.div_lt_of_lt_mul (by rw [Nat.mul_comm]; exact hr)
 have hmod : x < P := hx ▸ Nat.mod_lt _ hP0
 have hzx : row = z * P + x := by rw [hz, hx, Nat.mul_comm]; exact (Nat.div_add_mod row P).symm
 have hlen := hp.rows_
 rw [← hP] at hlen
 obtain ⟨y, hy⟩ := row_at (st := c.arr) (i := row) (by rw [hlen]; exact hr)
 obtain ⟨yl, hyl⟩ := row_at (st := c.arr) (i := row - 1) (by rw [hlen]; exact Nat.lt_of_le_of_lt (Nat.sub_le _ _) hr)
 obtain ⟨y2, hy2⟩ := row_at (st := c.arr.tear (row - 1) (tornP g s)) (i := row) (by rw [St.tear_len, hlen]; exact hr)
 have HY := Lib.hid hy
 have HYL := Lib.hid hyl
 have HY2 := Lib.hid hy2
 have HSP := Lib.hid (fun W => Split_is g (row : Int) (z : Int) (x : Int) hrow (by rw [hgs, hz]; push_cast; rfl) (by rw [hgs, hx]; push_cast; rfl) W)
 have HLO := Lib.hid (fun W => Lower_is (x : Int) ((x - x % 2 : Nat) : Int) (by unfold lowerI; rw [if_neg (by omega)]; omega) W (by omega))
 have HRW := Lib.hid (fun W (ho : x % 2 = 1) => Row_is g (z : Int) ((x - x % 2 : Nat) : Int) ((row - 1 : Nat) : Int) ⟨hp.arr.ok, by omega, by omega⟩ (by
  rw [hgs]
  have h2 : row - 1 = z * P + (x - x % 2) := by omega
  rw [h2]
  push_cast
  rfl) W)
 have HPP := Lib.hid hP
 have hrb : row ≤ 1000000 := by
  have : g.b.toNat * P ≤ 256 * 64 := Nat.mul_le_mul (by omega) (by omega)
  omega
 simp only [Gm.val] at HSP HRW
 have HX := Lib.hid hx
 have hxP : x ≤ 64 := by omega
 have hzB : z ≤ 256 := by omega
 clear h hp hbd hgs hgb hrow hP0 hlen hy hyl hy2 hs hP hdiv hmod hr hx hz hzx
 have x19 := C0.out.cell_at 19 (.int .i64 g.p) rfl
 have x20 := C0.out.cell_at 20 (.int .i64 g.b) rfl
 have x21 := C0.out.cell_at 21 (.int .i64 g.s) rfl
 have x22 := C0.out.cell_at 22 (.int .i64 g.c) rfl
 have x23 := C0.out.cell_at 23 (.int .i64 g.k) rfl
 have x24 := C0.out.cell_at 24 (.int .i64 g.r) rfl
 have x25 := C0.out.cell_at 25 (.int .i64 g.q) rfl
 go_enter Tryz.func108, Tryz.ntmps108
 go_wp2_with fail
 clear x19 x20 x21 x22 x23 x24 x25
 refine (HSP.out _).mono ?_
 rintro _ w1 ⟨rfl, hb⟩
 have C1 := Lib.hid (C0.out.below hb)
 have P1 := Lib.hid (P0.out.below hb)
 have B1 := Lib.hid (Btw.of_below (I := fun j => j = m.aq ∨ j = m.ar) hb)
 clear hb C0 P0 HSP
 go_wp2_with fail
 refine (HLO.out _).mono ?_
 rintro _ w2 ⟨rfl, hw2⟩
 obtain rfl : w1 = w2 := hw2
 rename World => w2
 have C2 := C1
 have P2 := P1
 have B2 := B1
 clear C1 P1 B1 HLO
 by_cases ho : x % 2 = 1
 ·
  have e1 : (((x - x % 2 : Nat) : Int) == (x : Int)) = false := by rw [beq_eq_false_iff_ne]; omega
  have e2 : ¬ ((x - x % 2 : Nat) : Int) = (x : Int) := by omega
  have HRO := Lib.hid (fun W => HRW.out W ho)
  have HO := Lib.hid ho
  clear ho HRW
  have x19 := C2.out.cell_at 19 (.int .i64 g.p) rfl
  have x20 := C2.out.cell_at 20 (.int .i64 g.b) rfl
  have x21 := C2.out.cell_at 21 (.int .i64 g.s) rfl
  have x22 := C2.out.cell_at 22 (.int .i64 g.c) rfl
  have x23 := C2.out.cell_at 23 (.int .i64 g.k) rfl
  have x24 := C2.out.cell_at 24 (.int .i64 g.r) rfl
  have x25 := C2.out.cell_at 25 (.int .i64 g.q) rfl
  go_wp2_with fail
  clear x19 x20 x21 x22 x23 x24 x25 e1 e2
  refine (HRO.out _).mono ?_
  rintro _ w3 ⟨rfl, hb⟩
  have C3 := Lib.hid (C2.out.below hb)
  have P3 := Lib.hid (P2.out.below hb)
  have B3 := Lib.hid (B2.out.trans (Btw.of_below (I := fun j => j = m.aq ∨ j = m.ar) hb) (fun _ _ h => h))
  clear hb C2 P2 B2 HRO
  go_wp2
  refine wp_region_noPanic ?_
  refine wp_region_held_drew (S := fun w' => Btw (fun j => j = m.aq ∨ j = m.ar) w3 w') (by kernel_rfl) ((Btw.refl _).drew) (fun C0 => ?_)
  refine tkH4 0 C0 ?_
  refine tkH4 1 C0 ?_
  refine tkH4 2 C0 ?_
  refine tkH4 4 C0 ?_
  refine tkH4 5 C0 ?_
  refine tkH4 3 C0 ?_ (hy := fun W' hSw => by have y27 := (C3.out.btw hSw P3.out.ne_ar).cell_at 27 (.pointer (some ⟨m.ap, 0, none⟩)) rfl; clear hSw; go_simp <;> with_reducible rfl)
  refine wpAnyH_ready (rs := [6]) (by kernel_rfl) (by simp) ?_
  refine AllReadyH.cons (o := { dst := some 41, op := Op.call { callee := Callee.value (Operand.func 110), args := #[Operand.tmp 40], argTypes := #[34] }, type := 26, pos := "work.go:192", after := #[{ on := 5, ground := Ground.data }], guard := none }) rfl (fun K hK => ?_) AllReadyH.nil
  go_simp
  have PD1 := Lib.hid (P3.out.below ((Below.refl _ _).drew))
  refine (torn_any HS.out PD1.out (C3.out.drew)).mono ?_
  rintro _ wt1 ⟨bt1, nt1, rfl, hb1, hr, hb⟩
  have PT1 := Lib.hid (PD1.out.below hb)
  have RT1 := Lib.hid hr
  have NT1 := Lib.hid hb1
  have BT1 := Lib.hid (show Btw (fun j => j = m.aq ∨ j = m.ar) w3 wt1 from C0.trans (Btw.of_below hb) (fun _ _ h => h))
  have CT1 := Lib.hid (CRow.below (C3.out.drew) hb)
  clear hb hb1 hr PD1
  go_wp2_with fail
  refine hK.out _ _ BT1.out (fun C1 => ?_)
  clear hK K
  try simp only [Act.put, zzI, zzO, zzS]
  refine wpAnyH_ready (rs := [7]) (by kernel_rfl) (by simp) ?_
  refine AllReadyH.cons (o := { dst := some 42, op := Op.call { callee := Callee.value (Operand.func 130), args := #[Operand.tmp 38, Operand.tmp 39, Operand.tmp 41], argTypes := #[57, 3, 26] }, type := 35, pos := "work.go:192", after := #[{ on := 3, ground := Ground.data }, { on := 4, ground := Ground.data }, { on := 6, ground := Ground.data }, { on := 6, ground := Ground.chain }], guard := none }) rfl (fun K hK => ?_) AllReadyH.nil
  go_simp
  refine (Tear_yes PT1.out.arr HYL.out (some ⟨bt1, 0, none⟩) g.raw.toNat nt1 _ RT1.out rfl).mono ?_
  rintro _ wa1 ⟨rfl, ha, hb2⟩
  have QT1 := Lib.hid (((Btw.refl (I := (fun j => j = m.aq ∨ j = m.ar)) wt1)).trans hb2 (fun _ _ h => by first | exact h | exact .inl h))
  have BA1 := Lib.hid (show Btw (fun j => j = m.aq ∨ j = m.ar) w3 wa1 from C1.trans QT1.out (fun _ _ h => h))
  have PA1 := Lib.hid (PT1.out.array QT1.out ha)
  have CA1 := Lib.hid (CT1.out.btw QT1.out PT1.out.ne_ar)
  clear ha hb2 QT1
  go_wp2_with fail
  refine hK.out _ _ BA1.out (fun C2 => ?_)
  clear hK K
  try simp only [Act.put, zzI, zzO, zzS]
  refine wpAnyH_done (by kernel_rfl) ?_ _
  refine NoPanic.normal ?_
  go_wp2
  refine wp_region_noPanic ?_
  refine wp_region_held_drew (S := fun w' => Btw (fun j => j = m.aq ∨ j = m.ar) wa1 w') (by kernel_rfl) ((Btw.refl _).drew) (fun C0 => ?_)
  refine tkH4 0 C0 ?_
  refine tkH4 1 C0 ?_
  refine tkH4 2 C0 ?_
  refine tkH4 4 C0 ?_
  refine tkH4 5 C0 ?_
  refine tkH4 3 C0 ?_ (hy := fun W' hSw => by have y27 := (CA1.out.btw hSw PA1.out.ne_ar).cell_at 27 (.pointer (some ⟨m.ap, 0, none⟩)) rfl; clear hSw; go_simp <;> with_reducible rfl)
  refine wpAnyH_ready (rs := [6]) (by kernel_rfl) (by simp) ?_
  refine AllReadyH.cons (o := zJc0) rfl (fun K hK => ?_) AllReadyH.nil
  dsimp only [zJc0]
  go_simp
  have PD2 := Lib.hid (PA1.out.below ((Below.refl _ _).drew))
  refine (torn_any HS.out PD2.out (CA1.out.drew)).mono ?_
  rintro _ wt2 ⟨bt2, nt2, rfl, hb1, hr, hb⟩
  have PT2 := Lib.hid (PD2.out.below hb)
  have RT2 := Lib.hid hr
  have NT2 := Lib.hid hb1
  have BT2 := Lib.hid (show Btw (fun j => j = m.aq ∨ j = m.ar) wa1 wt2 from C0.trans (Btw.of_below hb) (fun _ _ h => h))
  have CT2 := Lib.hid (CRow.below (CA1.out.drew) hb)
  clear hb hb1 hr PD2
  go_wp2_with fail
  refine hK.out _ _ BT2.out (fun C1 => ?_)
  clear hK K
  try simp only [Act.put, zzI, zzO, zzS]
  refine wpAnyH_ready (rs := [7]) (by kernel_rfl) (by simp) ?_
  refine AllReadyH.cons (o := zJc1) rfl (fun K hK => ?_) AllReadyH.nil
  dsimp only [zJc1]
  go_simp
  refine (Tear_yes PT2.out.arr (HY2.out) (some ⟨bt2, 0, none⟩) g.raw.toNat nt2 _ RT2.out rfl).mono ?_
  rintro _ wa2 ⟨rfl, ha, hb2⟩
  have QT2 := Lib.hid (((Btw.refl (I := (fun j => j = m.aq ∨ j = m.ar)) wt2)).trans hb2 (fun _ _ h => by first | exact h | exact .inl h))
  have BA2 := Lib.hid (show Btw (fun j => j = m.aq ∨ j = m.ar) wa1 wa2 from C1.trans QT2.out (fun _ _ h => h))
  have PA2 := Lib.hid (PT2.out.array QT2.out ha)
  have CA2 := Lib.hid (CT2.out.btw QT2.out PT2.out.ne_ar)
  clear ha hb2 QT2
  go_wp2_with fail
  refine hK.out _ _ BA2.out (fun C2 => ?_)
  clear hK K
  try simp only [Act.put, zzI, zzO, zzS]
  refine wpAnyH_done (by kernel_rfl) ?_ _
  refine NoPanic.normal ?_
  go_wp2
  go_end0
  have e : tearPairS g s c.arr row = (c.arr.tear (row - 1) (tornP g s)).tear row (tornP g s) := by
   unfold tearPairS
   rw [← HPP.out, ← HX.out, if_pos HO.out]
  rw [e]
  exact ⟨rfl, CA2.out, PA2.out, (B3.out.trans BA1.out (fun _ _ h => h)).trans BA2.out (fun _ _ h => h)⟩
 ·
  have e1 : (((x - x % 2 : Nat) : Int) == (x : Int)) = true := by rw [beq_iff_eq]; omega
  have e2 : ((x - x % 2 : Nat) : Int) = (x : Int) := by omega
  have e3 : (((x - x % 2 : Nat) : Int) != (x : Int)) = false := by rw [bne, e1]; rfl
  have HO := Lib.hid ho
  clear ho HRW
  generalize ((x - x % 2 : Nat) : Int) = x2 at *
  obtain rfl := e2
  clear e1 e3
  go_wp2
  refine wp_region_noPanic ?_
  refine wp_region_held_drew (S := fun w' => Btw (fun j => j = m.aq ∨ j = m.ar) w2 w') (by kernel_rfl) ((Btw.refl _).drew) (fun C0 => ?_)
  refine tkH4 0 C0 ?_
  refine tkH4 1 C0 ?_
  refine tkH4 2 C0 ?_
  refine tkH4 4 C0 ?_
  refine tkH4 5 C0 ?_
  refine tkH4 3 C0 ?_ (hy := fun W' hSw => by have y27 := (C2.out.btw hSw P2.out.ne_ar).cell_at 27 (.pointer (some ⟨m.ap, 0, none⟩)) rfl; clear hSw; go_simp <;> with_reducible rfl)
  refine wpAnyH_ready (rs := [6]) (by kernel_rfl) (by simp) ?_
  refine AllReadyH.cons (o := zJc0) rfl (fun K hK => ?_) AllReadyH.nil
  dsimp only [zJc0]
  go_simp
  have PD2 := Lib.hid (P2.out.below ((Below.refl _ _).drew))
  refine (torn_any HS.out PD2.out (C2.out.drew)).mono ?_
  rintro _ wt2 ⟨bt2, nt2, rfl, hb1, hr, hb⟩
  have PT2 := Lib.hid (PD2.out.below hb)
  have RT2 := Lib.hid hr
  have NT2 := Lib.hid hb1
  have BT2 := Lib.hid (show Btw (fun j => j = m.aq ∨ j = m.ar) w2 wt2 from C0.trans (Btw.of_below hb) (fun _ _ h => h))
  have CT2 := Lib.hid (CRow.below (C2.out.drew) hb)
  clear hb hb1 hr PD2
  go_wp2_with fail
  refine hK.out _ _ BT2.out (fun C1 => ?_)
  clear hK K
  try simp only [Act.put, zzI, zzO, zzS]
  refine wpAnyH_ready (rs := [7]) (by kernel_rfl) (by simp) ?_
  refine AllReadyH.cons (o := zJc1) rfl (fun K hK => ?_) AllReadyH.nil
  dsimp only [zJc1]
  go_simp
  refine (Tear_yes PT2.out.arr HY.out (some ⟨bt2, 0, none⟩) g.raw.toNat nt2 _ RT2.out rfl).mono ?_
  rintro _ wa2 ⟨rfl, ha, hb2⟩
  have QT2 := Lib.hid (((Btw.refl (I := (fun j => j = m.aq ∨ j = m.ar)) wt2)).trans hb2 (fun _ _ h => by first | exact h | exact .inl h))
  have BA2 := Lib.hid (show Btw (fun j => j = m.aq ∨ j = m.ar) w2 wa2 from C1.trans QT2.out (fun _ _ h => h))
  have PA2 := Lib.hid (PT2.out.array QT2.out ha)
  have CA2 := Lib.hid (CT2.out.btw QT2.out PT2.out.ne_ar)
  clear ha hb2 QT2
  go_wp2_with fail
  refine hK.out _ _ BA2.out (fun C2 => ?_)
  clear hK K
  try simp only [Act.put, zzI, zzO, zzS]
  refine wpAnyH_done (by kernel_rfl) ?_ _
  refine NoPanic.normal ?_
  go_wp2
  go_end0
  have e : tearPairS g s c.arr row = c.arr.tear row (tornP g s) := by
   unfold tearPairS
   rw [← HPP.out, ← HX.out, if_neg HO.out]
  rw [e]
  exact ⟨rfl, CA2.out, PA2.out, B2.out.trans BA2.out (fun _ _ h => h)⟩
end
structure Ch.fit (g : Gm) (c : Ch) : Prop where
 bro : c.there = true → c.brow < g.b.toNat * g.s.toNat ∧ c.braw.length = g.raw.toNat
 pr : ∀ x ∈ c.progs, x.row < g.b.toNat * g.s.toNat ∧ x.raw.length = g.raw.toNat
 bl : ∀ b ∈ c.blocks, b < g.b.toNat
 qu : ∀ x ∈ c.queued, x.row < g.b.toNat * g.s.toNat ∧ x.raw.length = g.raw.toNat
 qb : ∀ b ∈ c.qblocks, b < g.b.toNat
 rd : c.reads = true → c.prow < g.b.toNat * g.s.toNat
 np : c.progs.length ≤ 8
 nb : c.blocks.length ≤ 8
 nq : (c.queued.length : Int) ≤ g.p
 nqb : (c.qblocks.length : Int) ≤ g.p
 ls : c.listed.length ≤ 4
 cl : c.col ≤ 65536
 rg : (c.rung : Int) < g.r
 bs : c.busy ≤ 65536
 pl : c.polls ≤ 65536
 sd : c.said ≤ 5
theorem PC_length (l : List Rp) : (PC l).length = l.length * 2 := by
 induction l with
 | nil => rfl
 | cons t l ih => simp only [PC, List.flatMap_cons, List.length_append, List.length_cons, List.length_nil] at ih ⊢; omega
theorem PC_at {l : List Rp} {k : Nat} {t : Rp} (h : l[k]? = some t) (j : Nat) (hj : j < 2) : (PC l)[k * 2 + j]? = [Value.int .i64 (t.y.row : Int), .slice t.a t.y.raw.length t.c][j]? := by
 induction l generalizing k with
 | nil => simp at h
 | cons x l ih =>
  have e : PC (x :: l) = [Value.int .i64 (x.y.row : Int), .slice x.a x.y.raw.length x.c] ++ PC l := by simp [PC]
  cases k with
  | zero =>
   simp at h
   subst h
   rw [e, Nat.zero_mul, Nat.zero_add, List.getElem?_append_left (by simpa using hj)]
  | succ k =>
   simp at h
   rw [e, List.getElem?_append_right (by simp; omega), ← ih h]
   congr 1
   simp
   omega
theorem prog_at {w : World} {A : Option Addr} {n c k : Nat} {l : List Rp} {e : TypeId} (h : w.ownsRow 0 e 2 (.slice A n c) n (PC l)) (hk : k < n) :
  ∃ b x, A = some ⟨b, 0, none⟩ ∧ b < w.heap.size ∧ l[k]? = some x ∧ w.cell? ⟨b, k * 2, none⟩ = some (.int .i64 (x.y.row : Int)) ∧ w.cell? ⟨b, k * 2 + 1, none⟩ = some (.slice x.a x.y.raw.length x.c) := by
 have hl : l.length = n := by have := h.1; rw [PC_length] at this; omega
 have hx : l[k]? = some l[k] := List.getElem?_eq_getElem (by omega)
 rcases h.2 with ⟨_, h0⟩ | ⟨g, cap, cur, hv, _, hg, _⟩
 ·
  omega
 ·
  simp only [Value.slice.injEq, true_and] at hv
  obtain ⟨rfl, rfl⟩ := hv
  exact ⟨g, l[k], rfl, (Array.getElem?_eq_some_iff.1 hg).1, hx, (h.cellAt (k * 2) (by omega)).trans (PC_at hx 0 (by omega)), (h.cellAt (k * 2 + 1) (by omega)).trans (PC_at hx 1 (by omega))⟩
def intrA (g : Gm) (s : Sc) (c : Ch) : St := if c.there then tearPairS g s c.arr c.brow else c.arr
def intrP (g : Gm) (s : Sc) (c : Ch) (k : Nat) : St := (c.progs.take k).foldl (fun a x => tearPairS g s a x.row) (intrA g s c)
def intrB (g : Gm) (s : Sc) (c : Ch) (k : Nat) : St := (c.blocks.take k).foldl (fun a b => a.tearB g.s.toNat b (tornP g s)) (intrP g s c c.progs.length)
def Ch.intr (g : Gm) (s : Sc) (c : Ch) : Ch := { c.calm with arr := intrB g s c c.blocks.length }
theorem intrP_succ {g : Gm} {s : Sc} {c : Ch} {k : Nat} {x : Pr} (h : c.progs[k]? = some x) : intrP g s c (k + 1) = tearPairS g s (intrP g s c k) x.row := by
 unfold intrP
 rw [List.take_add_one, h, List.foldl_append]
 rfl
theorem intrB_succ {g : Gm} {s : Sc} {c : Ch} {k : Nat} {x : Nat} (h : c.blocks[k]? = some x) : intrB g s c (k + 1) = (intrB g s c k).tearB g.s.toNat x (tornP g s) := by
 unfold intrB
 rw [List.take_add_one, h, List.foldl_append]
 rfl
section
variable {ρ : Nat → Nat} {w : World} {p : Nat} {g : Gm} {s : Sc} {c : Ch} {m : Cm}
theorem Pt.calm (h : Pt ρ w p g s c m) : Pt ρ w p g s c.calm m.calm :=
 {
  h with
  pro := ⟨rfl, .inl ⟨rfl, rfl⟩⟩
  py := rfl
  rpr := fun k hk => by cases hk
  blk := ⟨rfl, .inl ⟨rfl, rfl⟩⟩
  rbl := fun k hk => by cases hk
  raws := fun x hx => h.raws x (List.mem_append_left _ (by simpa [Cm.calm] using hx))
  bgr := ⟨Rd.nil_, by simp [Ch.calm]⟩
  rg := fun _ _ e => by cases e }
set_option maxHeartbeats 4000000 in
theorem interrupt_any (hs : SG g s) (hf : c.fit g) (hp : Pt ρ w p g s c m) (h : CRow w p 72 (chCells g c m)) : Calls Tryz.prog 92 #[.pointer (some ⟨p, 0, none⟩)] w fun e w' =>
  e = .returned (.tuple #[]) ∧ CRow w' p 72 (chCells g (c.intr g s) m.calm) ∧ Pt ρ w' p g s (c.intr g s) m.calm ∧ Btw (fun j => j = p ∨ j = m.aq ∨ j = m.ar) w w' := by
 have HS := Lib.hid hs
 have HF := Lib.hid hf
 have C0 := Lib.hid h
 have P0 := Lib.hid hp
 have hpn := Lib.hid hf.np
 have hbn := Lib.hid hf.nb
 cases hth : c.there with
 | false =>
  have x13 : w.cell? ⟨p, 13, none⟩ = some (.bool false) := by
   have h0 := h.cell_at 13 (.bool c.there) rfl
   rw [hth] at h0
   exact h0
  have HA := Lib.hid (show intrA g s c = c.arr by unfold intrA; rw [hth]; rfl)
  have P1 := Lib.hid (show Pt ρ w p g s { c with arr := intrA g s c } m by rw [HA.out]; exact hp)
  have C1 := C0
  have B1 := Lib.hid (Btw.refl (I := fun j => j = m.aq ∨ j = m.ar) w)
  clear h hp hs hf hth P0 C0 HA
  go_enter Tryz.func92, Tryz.ntmps92
  obtain ⟨zP, hzP⟩ : ∃ zP, zP = m.aP := ⟨_, rfl⟩
  have HZP := Lib.hid hzP
  have x9 : w.cell? ⟨p, 9, none⟩ = some (.slice zP c.progs.length m.cP) := by rw [hzP]; exact C1.out.cell_at 9 _ rfl
  clear hzP
  go_wp2
  go_loopw [28] (fun i wr => ∃ k : Nat, k ≤ c.progs.length ∧ i = .int .i64 (k : Int) ∧ Hid (CRow wr p 72 (chCells g c m)) ∧ Hid (Pt ρ wr p g s { c with arr := intrP g s c k } m) ∧ Hid (Btw (fun j => j = m.aq ∨ j = m.ar) w wr)) (fun i _ => c.progs.length - (intOf i).toNat)
  case atStart => exact ⟨0, Nat.zero_le _, rfl, C1, P1, B1⟩
  case round =>
   obtain ⟨k, hk, rfl, C2, P2, B2⟩ := hrel
   rename World => wr
   clear C1 P1 B1 x9
   by_cases hlt : k < c.progs.length
   ·
    obtain ⟨b9, x, hA, hb9, hx, y0, y1⟩ := prog_at P2.out.pro hlt
    obtain rfl : zP = some ⟨b9, 0, none⟩ := HZP.out.trans hA
    have HX := Lib.hid (show c.progs[k]? = some x.y by
     have h1 := P2.out.py
     have h2 : (m.lP.map (·.y))[k]? = some x.y := by rw [List.getElem?_map, hx]; rfl
     rw [h1] at h2
     exact h2)
    have N1 := Lib.hid (below_new wr (.cells #[.int .i64 (x.y.row : Int), .slice x.a x.y.raw.length x.c] 65))
    have HT := Lib.hid (tearPair_any (c := { c with arr := intrP g s c k }) x.y.row HS.out (HF.out.pr _ (List.mem_of_getElem? HX.out)).1 (P2.out.below N1.out) (C2.out.below N1.out))
    have d1 : decide ((k : Int) < (c.progs.length : Int)) = true := decide_eq_true (by omega)
    have i0 : (0 : Int) ≤ (k : Int) := by omega
    have i1 : (k : Int) < (c.progs.length : Int) := by omega
    have i2 := hpn.out
    clear hA hb9 hx
    go_wp2_with fail
    clear y0 y1
    refine HT.out.mono ?_
    rintro _ w5 ⟨rfl, hc, hp1, hb⟩
    have P5 := Lib.hid (show Pt ρ w5 p g s { c with arr := intrP g s c (k + 1) } m by rw [intrP_succ HX.out]; exact hp1)
    have C5 := Lib.hid (show CRow w5 p 72 (chCells g c m) from hc)
    have B5 := Lib.hid (B2.out.trans ((Btw.of_below (I := fun j => j = m.aq ∨ j = m.ar) N1.out).trans hb (fun _ _ h => h)) (fun _ _ h => h))
    clear hc hp1 hb HT N1
    go_wp2
    go_roundw
    case rel => exact ⟨k + 1, by omega, by go_num, C5, P5, B5⟩
    case measure => simp [intOf]; omega
   ·
    obtain ⟨np, hnp⟩ : ∃ np, np = c.progs.length := ⟨_, rfl⟩
    obtain rfl : k = np := by omega
    have d1 : decide ((k : Int) < (c.progs.length : Int)) = false := decide_eq_false (by omega)
    obtain ⟨zE, hzE⟩ : ∃ zE, zE = m.aE := ⟨_, rfl⟩
    have HZE := Lib.hid hzE
    have x10 : wr.cell? ⟨p, 10, none⟩ = some (.slice zE c.blocks.length m.cE) := by rw [hzE]; exact C2.out.cell_at 10 _ rfl
    have P3 := Lib.hid (show Pt ρ wr p g s { c with arr := intrB g s c 0 } m by
     have h1 := P2.out
     rw [hnp] at h1
     exact h1)
    have d1n : decide (k < c.progs.length) = false := decide_eq_false hlt
    clear hzE hk hnp
    go_wp2
    clear d1 d1n hlt
    go_loopw [44] (fun i w' => ∃ q : Nat, q ≤ c.blocks.length ∧ i = .int .i64 (q : Int) ∧ Hid (CRow w' p 72 (chCells g c m)) ∧ Hid (Pt ρ w' p g s { c with arr := intrB g s c q } m) ∧ Hid (Btw (fun j => j = m.aq ∨ j = m.ar) w w')) (fun i _ => c.blocks.length - (intOf i).toNat)
    case atStart => exact ⟨0, Nat.zero_le _, rfl, C2, P3, B2⟩
    case round =>
     clear C2 P3 B2 P2 x10
     rename World => wz
     obtain ⟨q, hq, rfl, C1, P1, B1⟩ := hrel
     rename World => wr
     by_cases hlt : q < c.blocks.length
     ·
      obtain ⟨x, hx⟩ : ∃ x, c.blocks[q]? = some x := ⟨_, List.getElem?_eq_getElem hlt⟩
      have HX := Lib.hid hx
      have HXB := Lib.hid (HF.out.bl _ (List.mem_of_getElem? hx))
      obtain ⟨b9, hA, _, _, y0', _, _⟩ := own_at P1.out.blk hlt
      obtain rfl : zE = some ⟨b9, 0, none⟩ := HZE.out.trans hA
      have y0 : wr.cell? ⟨b9, q, none⟩ = some (.int .i64 (x : Int)) := by
       rw [y0', I64, IC, List.getElem?_map, List.getElem?_map, hx]
       rfl
      have d2 : decide ((q : Int) < (c.blocks.length : Int)) = true := decide_eq_true (by omega)
      have i0 : (0 : Int) ≤ (q : Int) := by omega
      have i1 : (q : Int) < (c.blocks.length : Int) := by omega
      have i2 := hbn.out
      clear hA y0' hx
      go_wp2
      refine wp_region_noPanic ?_
      refine wp_region_held_drew (S := fun w' => Btw (fun j => j = m.aq ∨ j = m.ar) wr w') (by kernel_rfl) ((Btw.refl _).drew) (fun C0 => ?_)
      refine tkH4 0 C0 ?_
      refine tkH4 1 C0 ?_
      refine tkH4 2 C0 ?_
      refine tkH4 4 C0 ?_
      refine tkH4 5 C0 ?_
      refine tkH4 3 C0 ?_ (hy := fun W' hSw => by have y27 := (C1.out.btw hSw P1.out.ne_ar).cell_at 27 (.pointer (some ⟨m.ap, 0, none⟩)) rfl; clear hSw; go_simp <;> with_reducible rfl)
      refine wpAnyH_ready (rs := [6]) (by kernel_rfl) (by simp) ?_
      refine AllReadyH.cons (o := zJc2) rfl (fun K hK => ?_) AllReadyH.nil
      dsimp only [zJc2]
      go_simp
      have PD4 := Lib.hid (P1.out.below ((Below.refl _ _).drew))
      refine (torn_any HS.out PD4.out (C1.out.drew)).mono ?_
      rintro _ wt4 ⟨bt4, nt4, rfl, hb1, hr, hb⟩
      have PT4 := Lib.hid (PD4.out.below hb)
      have RT4 := Lib.hid hr
      have NT4 := Lib.hid hb1
      have BT4 := Lib.hid (show Btw (fun j => j = m.aq ∨ j = m.ar) wr wt4 from C0.trans (Btw.of_below hb) (fun _ _ h => h))
      have CT4 := Lib.hid (CRow.below (C1.out.drew) hb)
      clear hb hb1 hr PD4
      go_wp2_with fail
      refine hK.out _ _ BT4.out (fun C1 => ?_)
      clear hK K
      try simp only [Act.put, zzI, zzO, zzS]
      refine wpAnyH_ready (rs := [7]) (by kernel_rfl) (by simp) ?_
      refine AllReadyH.cons (o := zJc3) rfl (fun K hK => ?_) AllReadyH.nil
      dsimp only [zJc3]
      go_simp
      refine (TearBlock_yes PT4.out.arr (k := x) HXB.out (some ⟨bt4, 0, none⟩) g.raw.toNat nt4 _ RT4.out rfl (fun b off e => by cases e; have h1 := NT4.out; have h2 := (P1.out.arr.lt _ P1.out.arr.iq); have h3 : wr.heap.size ≤ bt4 := h1; omega)).mono ?_
      rintro _ wa4 ⟨rfl, ha, hb2⟩
      have QT4 := Lib.hid (((Btw.refl (I := (fun j => j = m.aq ∨ j = m.ar)) wt4)).trans hb2 (fun _ _ h => by first | exact h | exact .inl h))
      have BA4 := Lib.hid (show Btw (fun j => j = m.aq ∨ j = m.ar) wr wa4 from C1.trans QT4.out (fun _ _ h => h))
      have PA4 := Lib.hid (PT4.out.array QT4.out ha)
      have CA4 := Lib.hid (CT4.out.btw QT4.out PT4.out.ne_ar)
      clear ha hb2 QT4
      go_wp2_with fail
      refine hK.out _ _ BA4.out (fun C2 => ?_)
      clear hK K
      try simp only [Act.put, zzI, zzO, zzS]
      refine wpAnyH_done (by kernel_rfl) ?_ _
      refine NoPanic.normal ?_
      have P5 := Lib.hid (show Pt ρ wa4 p g s { c with arr := intrB g s c (q + 1) } m by rw [intrB_succ HX.out]; exact PA4.out)
      have B5 := Lib.hid (B1.out.trans BA4.out (fun _ _ h => h))
      go_wp2
      go_roundw
      case rel => exact ⟨q + 1, by omega, by go_num, CA4, P5, B5⟩
      case measure => simp [intOf]; omega
     ·
      obtain ⟨nb, hnb⟩ : ∃ nb, nb = c.blocks.length := ⟨_, rfl⟩
      obtain rfl : q = nb := by omega
      have d2 : decide ((q : Int) < (c.blocks.length : Int)) = false := decide_eq_false (by omega)
      have K1 := Lib.hid (C1.out.setCells W4.toList 7)
      have T1 := Lib.hid (C1.out.there 7 W4.size (by simp [chCells, W4]))
      have T2 := Lib.hid ((C1.out.setCells W4.toList 7).there 11 B4.size (by simp [chCells, setList, W4, B4]))
      have K2 := Lib.hid (calm_row C1.out)
      have X2 := Lib.hid (Btw.setCells (I := fun j => j = p) (g := p) rfl B4.toList 11 (Btw.setCells (I := fun j => j = p) (g := p) rfl W4.toList 7 (Btw.refl wr)))
      have P9 := Lib.hid (show Pt ρ ((wr.setCells p 7 W4.toList).setCells p 11 B4.toList) p g s (c.intr g s) m.calm by
       have h1 := (P1.out.btw X2.out (fun j e => e ▸ P1.out.rp)).calm
       rw [hnb] at h1
       exact h1)
      have d2n : decide (q < c.blocks.length) = false := decide_eq_false hlt
      clear hq hnb
      go_wp2_with (first | (with_reducible refine (?_ : wpList _ _ _ ({ dst := _, op := Op.store 63 _ _, type := _, pos := _, after := _, guard := _ } :: _) _ _); apply wpList_store_mid rfl 63 (.tmp 61) (.tmp 58) rfl p 7 W4 (by simp [Act.eval]) (by simp [Act.eval, W4]) T1.out size_work (by simp [W4, Value.oneCell'])) | (with_reducible refine (?_ : wpList _ _ _ ({ dst := _, op := Op.store 67 _ _, type := _, pos := _, after := _, guard := _ } :: _) _ _); apply wpList_store_mid rfl 67 (.tmp 66) (.tmp 63) rfl p 11 B4 (by simp [Act.eval]) (by simp [Act.eval, B4]) T2.out size_background (by simp [B4, Value.oneCell'])))
      go_end0
      exact ⟨rfl, K2.out, P9.out, ((Btw.refl (I := fun j => j = p ∨ j = m.aq ∨ j = m.ar) w).trans B1.out (fun _ _ h => .inr h)).trans X2.out (fun _ _ h => .inl h)⟩
 | true =>
  have x13 : w.cell? ⟨p, 13, none⟩ = some (.bool true) := by
   have h0 := h.cell_at 13 (.bool c.there) rfl
   rw [hth] at h0
   exact h0
  have x11 := h.cell_at 11 (.int .i64 (c.brow : Int)) rfl
  have HT := Lib.hid (tearPair_any c.brow hs (hf.bro hth).1 hp h)
  have HA := Lib.hid (show intrA g s c = tearPairS g s c.arr c.brow by unfold intrA; rw [hth]; rfl)
  clear h hp hs hf hth P0 C0
  go_enter Tryz.func92, Tryz.ntmps92
  go_wp2_with fail
  clear x13 x11
  refine HT.out.mono ?_
  rintro _ w1 ⟨rfl, hc, hp1, hb⟩
  rw [← HA.out] at hp1
  have P1 := Lib.hid hp1
  have C1 := Lib.hid hc
  have B1 := Lib.hid hb
  clear HT HA hc hp1 hb
  obtain ⟨zP, hzP⟩ : ∃ zP, zP = m.aP := ⟨_, rfl⟩
  have HZP := Lib.hid hzP
  have x9 : w1.cell? ⟨p, 9, none⟩ = some (.slice zP c.progs.length m.cP) := by rw [hzP]; exact C1.out.cell_at 9 _ rfl
  clear hzP
  go_wp2
  go_loopw [28] (fun i wr => ∃ k : Nat, k ≤ c.progs.length ∧ i = .int .i64 (k : Int) ∧ Hid (CRow wr p 72 (chCells g c m)) ∧ Hid (Pt ρ wr p g s { c with arr := intrP g s c k } m) ∧ Hid (Btw (fun j => j = m.aq ∨ j = m.ar) w wr)) (fun i _ => c.progs.length - (intOf i).toNat)
  case atStart => exact ⟨0, Nat.zero_le _, rfl, C1, P1, B1⟩
  case round =>
   obtain ⟨k, hk, rfl, C2, P2, B2⟩ := hrel
   rename World => wr
   clear C1 P1 B1 x9
   by_cases hlt : k < c.progs.length
   ·
    obtain ⟨b9, x, hA, hb9, hx, y0, y1⟩ := prog_at P2.out.pro hlt
    obtain rfl : zP = some ⟨b9, 0, none⟩ := HZP.out.trans hA
    have HX := Lib.hid (show c.progs[k]? = some x.y by
     have h1 := P2.out.py
     have h2 : (m.lP.map (·.y))[k]? = some x.y := by rw [List.getElem?_map, hx]; rfl
     rw [h1] at h2
     exact h2)
    have N1 := Lib.hid (below_new wr (.cells #[.int .i64 (x.y.row : Int), .slice x.a x.y.raw.length x.c] 65))
    have HT := Lib.hid (tearPair_any (c := { c with arr := intrP g s c k }) x.y.row HS.out (HF.out.pr _ (List.mem_of_getElem? HX.out)).1 (P2.out.below N1.out) (C2.out.below N1.out))
    have d1 : decide ((k : Int) < (c.progs.length : Int)) = true := decide_eq_true (by omega)
    have i0 : (0 : Int) ≤ (k : Int) := by omega
    have i1 : (k : Int) < (c.progs.length : Int) := by omega
    have i2 := hpn.out
    clear hA hb9 hx
    go_wp2_with fail
    clear y0 y1
    refine HT.out.mono ?_
    rintro _ w5 ⟨rfl, hc, hp1, hb⟩
    have P5 := Lib.hid (show Pt ρ w5 p g s { c with arr := intrP g s c (k + 1) } m by rw [intrP_succ HX.out]; exact hp1)
    have C5 := Lib.hid (show CRow w5 p 72 (chCells g c m) from hc)
    have B5 := Lib.hid (B2.out.trans ((Btw.of_below (I := fun j => j = m.aq ∨ j = m.ar) N1.out).trans hb (fun _ _ h => h)) (fun _ _ h => h))
    clear hc hp1 hb HT N1
    go_wp2
    go_roundw
    case rel => exact ⟨k + 1, by omega, by go_num, C5, P5, B5⟩
    case measure => simp [intOf]; omega
   ·
    obtain ⟨np, hnp⟩ : ∃ np, np = c.progs.length := ⟨_, rfl⟩
    obtain rfl : k = np := by omega
    have d1 : decide ((k : Int) < (c.progs.length : Int)) = false := decide_eq_false (by omega)
    obtain ⟨zE, hzE⟩ : ∃ zE, zE = m.aE := ⟨_, rfl⟩
    have HZE := Lib.hid hzE
    have x10 : wr.cell? ⟨p, 10, none⟩ = some (.slice zE c.blocks.length m.cE) := by rw [hzE]; exact C2.out.cell_at 10 _ rfl
    have P3 := Lib.hid (show Pt ρ wr p g s { c with arr := intrB g s c 0 } m by
     have h1 := P2.out
     rw [hnp] at h1
     exact h1)
    have d1n : decide (k < c.progs.length) = false := decide_eq_false hlt
    clear hzE hk hnp
    go_wp2
    clear d1 d1n hlt
    go_loopw [44] (fun i w' => ∃ q : Nat, q ≤ c.blocks.length ∧ i = .int .i64 (q : Int) ∧ Hid (CRow w' p 72 (chCells g c m)) ∧ Hid (Pt ρ w' p g s { c with arr := intrB g s c q } m) ∧ Hid (Btw (fun j => j = m.aq ∨ j = m.ar) w w')) (fun i _ => c.blocks.length - (intOf i).toNat)
    case atStart => exact ⟨0, Nat.zero_le _, rfl, C2, P3, B2⟩
    case round =>
     clear C2 P3 B2 P2 x10
     rename World => wz
     obtain ⟨q, hq, rfl, C1, P1, B1⟩ := hrel
     rename World => wr
     by_cases hlt : q < c.blocks.length
     ·
      obtain ⟨x, hx⟩ : ∃ x, c.blocks[q]? = some x := ⟨_, List.getElem?_eq_getElem hlt⟩
      have HX := Lib.hid hx
      have HXB := Lib.hid (HF.out.bl _ (List.mem_of_getElem? hx))
      obtain ⟨b9, hA, _, _, y0', _, _⟩ := own_at P1.out.blk hlt
      obtain rfl : zE = some ⟨b9, 0, none⟩ := HZE.out.trans hA
      have y0 : wr.cell? ⟨b9, q, none⟩ = some (.int .i64 (x : Int)) := by
       rw [y0', I64, IC, List.getElem?_map, List.getElem?_map, hx]
       rfl
      have d2 : decide ((q : Int) < (c.blocks.length : Int)) = true := decide_eq_true (by omega)
      have i0 : (0 : Int) ≤ (q : Int) := by omega
      have i1 : (q : Int) < (c.blocks.length : Int) := by omega
      have i2 := hbn.out
      clear hA y0' hx
      go_wp2
      refine wp_region_noPanic ?_
      refine wp_region_held_drew (S := fun w' => Btw (fun j => j = m.aq ∨ j = m.ar) wr w') (by kernel_rfl) ((Btw.refl _).drew) (fun C0 => ?_)
      refine tkH4 0 C0 ?_
      refine tkH4 1 C0 ?_
      refine tkH4 2 C0 ?_
      refine tkH4 4 C0 ?_
      refine tkH4 5 C0 ?_
      refine tkH4 3 C0 ?_ (hy := fun W' hSw => by have y27 := (C1.out.btw hSw P1.out.ne_ar).cell_at 27 (.pointer (some ⟨m.ap, 0, none⟩)) rfl; clear hSw; go_simp <;> with_reducible rfl)
      refine wpAnyH_ready (rs := [6]) (by kernel_rfl) (by simp) ?_
      refine AllReadyH.cons (o := zJc2) rfl (fun K hK => ?_) AllReadyH.nil
      dsimp only [zJc2]
      go_simp
      have PD4 := Lib.hid (P1.out.below ((Below.refl _ _).drew))
      refine (torn_any HS.out PD4.out (C1.out.drew)).mono ?_
      rintro _ wt4 ⟨bt4, nt4, rfl, hb1, hr, hb⟩
      have PT4 := Lib.hid (PD4.out.below hb)
      have RT4 := Lib.hid hr
      have NT4 := Lib.hid hb1
      have BT4 := Lib.hid (show Btw (fun j => j = m.aq ∨ j = m.ar) wr wt4 from C0.trans (Btw.of_below hb) (fun _ _ h => h))
      have CT4 := Lib.hid (CRow.below (C1.out.drew) hb)
      clear hb hb1 hr PD4
      go_wp2_with fail
      refine hK.out _ _ BT4.out (fun C1 => ?_)
      clear hK K
      try simp only [Act.put, zzI, zzO, zzS]
      refine wpAnyH_ready (rs := [7]) (by kernel_rfl) (by simp) ?_
      refine AllReadyH.cons (o := zJc3) rfl (fun K hK => ?_) AllReadyH.nil
      dsimp only [zJc3]
      go_simp
      refine (TearBlock_yes PT4.out.arr (k := x) HXB.out (some ⟨bt4, 0, none⟩) g.raw.toNat nt4 _ RT4.out rfl (fun b off e => by cases e; have h1 := NT4.out; have h2 := (P1.out.arr.lt _ P1.out.arr.iq); have h3 : wr.heap.size ≤ bt4 := h1; omega)).mono ?_
      rintro _ wa4 ⟨rfl, ha, hb2⟩
      have QT4 := Lib.hid (((Btw.refl (I := (fun j => j = m.aq ∨ j = m.ar)) wt4)).trans hb2 (fun _ _ h => by first | exact h | exact .inl h))
      have BA4 := Lib.hid (show Btw (fun j => j = m.aq ∨ j = m.ar) wr wa4 from C1.trans QT4.out (fun _ _ h => h))
      have PA4 := Lib.hid (PT4.out.array QT4.out ha)
      have CA4 := Lib.hid (CT4.out.btw QT4.out PT4.out.ne_ar)
      clear ha hb2 QT4
      go_wp2_with fail
      refine hK.out _ _ BA4.out (fun C2 => ?_)
      clear hK K
      try simp only [Act.put, zzI, zzO, zzS]
      refine wpAnyH_done (by kernel_rfl) ?_ _
      refine NoPanic.normal ?_
      have P5 := Lib.hid (show Pt ρ wa4 p g s { c with arr := intrB g s c (q + 1) } m by rw [intrB_succ HX.out]; exact PA4.out)
      have B5 := Lib.hid (B1.out.trans BA4.out (fun _ _ h => h))
      go_wp2
      go_roundw
      case rel => exact ⟨q + 1, by omega, by go_num, CA4, P5, B5⟩
      case measure => simp [intOf]; omega
     ·
      obtain ⟨nb, hnb⟩ : ∃ nb, nb = c.blocks.length := ⟨_, rfl⟩
      obtain rfl : q = nb := by omega
      have d2 : decide ((q : Int) < (c.blocks.length : Int)) = false := decide_eq_false (by omega)
      have K1 := Lib.hid (C1.out.setCells W4.toList 7)
      have T1 := Lib.hid (C1.out.there 7 W4.size (by simp [chCells, W4]))
      have T2 := Lib.hid ((C1.out.setCells W4.toList 7).there 11 B4.size (by simp [chCells, setList, W4, B4]))
      have K2 := Lib.hid (calm_row C1.out)
      have X2 := Lib.hid (Btw.setCells (I := fun j => j = p) (g := p) rfl B4.toList 11 (Btw.setCells (I := fun j => j = p) (g := p) rfl W4.toList 7 (Btw.refl wr)))
      have P9 := Lib.hid (show Pt ρ ((wr.setCells p 7 W4.toList).setCells p 11 B4.toList) p g s (c.intr g s) m.calm by
       have h1 := (P1.out.btw X2.out (fun j e => e ▸ P1.out.rp)).calm
       rw [hnb] at h1
       exact h1)
      have d2n : decide (q < c.blocks.length) = false := decide_eq_false hlt
      clear hq hnb
      go_wp2_with (first | (with_reducible refine (?_ : wpList _ _ _ ({ dst := _, op := Op.store 63 _ _, type := _, pos := _, after := _, guard := _ } :: _) _ _); apply wpList_store_mid rfl 63 (.tmp 61) (.tmp 58) rfl p 7 W4 (by simp [Act.eval]) (by simp [Act.eval, W4]) T1.out size_work (by simp [W4, Value.oneCell'])) | (with_reducible refine (?_ : wpList _ _ _ ({ dst := _, op := Op.store 67 _ _, type := _, pos := _, after := _, guard := _ } :: _) _ _); apply wpList_store_mid rfl 67 (.tmp 66) (.tmp 63) rfl p 11 B4 (by simp [Act.eval]) (by simp [Act.eval, B4]) T2.out size_background (by simp [B4, Value.oneCell'])))
      go_end0
      exact ⟨rfl, K2.out, P9.out, ((Btw.refl (I := fun j => j = p ∨ j = m.aq ∨ j = m.ar) w).trans B1.out (fun _ _ h => .inr h)).trans X2.out (fun _ _ h => .inl h)⟩
end
def Ch.fails (s : Sc) (c : Ch) : Bool := decide ((c.wk : Int) ∈ s.fails)
def Ch.tryP (g : Gm) (s : Sc) (c : Ch) (row : Nat) (raw : List Nat) : Ch := { c with wk := c.wk + 1, arr := if c.fails s then c.arr.tear row (tornP g s) else c.arr.prog row raw }
def Ch.tryE (g : Gm) (s : Sc) (c : Ch) (b : Nat) : Ch := { c with wk := c.wk + 1, arr := if c.fails s then c.arr.tearB g.s.toNat b (tornP g s) else c.arr.erase g.raw.toNat g.s.toNat b }
section
variable {ρ : Nat → Nat} {w : World} {p : Nat} {g : Gm} {s : Sc} {c : Ch} {m : Cm}
def TrT (ρ : Nat → Nat) (p : Nat) (g : Gm) (s : Sc) (c : Ch) (m : Cm) (v : Value) (c' : Ch) (w : World) (e : Ending) (w' : World) : Prop :=
 e = .returned v ∧ CRow w' p 72 (chCells g c m) ∧ Pt ρ w' p g s c' m ∧ Btw (fun j => j = m.t ∨ j = m.aq ∨ j = m.ar) w w'
set_option maxHeartbeats 4000000 in
theorem tryProgram_any (row : Nat) (A : Option Addr) (n d : Nat) (raw : List Nat) (hs : SG g s) (hr : row < g.b.toNat * g.s.toNat) (hw : c.wk ≤ 1099511627776) (hn : n = g.raw.toNat) (ha : R8 w A n raw) (hra : ∀ b off, A = some ⟨b, off, none⟩ → 0 < n → ρ b = 12) (hp : Pt ρ w p g s c m) (h : CRow w p 72 (chCells g c m)) :
  Calls Tryz.prog 156 #[.pointer (some ⟨p, 0, none⟩), .agg #[.int .i64 (row : Int), .slice A n d]] w (TrT ρ p g s c m (.bool (!c.fails s)) (c.tryP g s row raw) w) := by
 have HS := Lib.hid hs
 have N0 := Lib.hid (below_new w (.cells #[.int .i64 (row : Int), .slice A n d] 65))
 have Z0 := Lib.hid (CRow.new w #[.int .i64 (row : Int), .slice A n d] 65)
 have C0 := Lib.hid (h.below N0.out)
 have P0 := Lib.hid (hp.below N0.out)
 have RA := Lib.hid (ha.below N0.out)
 have NB := Lib.hid (show ¬ (w.heap.size = m.aq ∨ w.heap.size = m.ar) from fun e => by
  have h1 := hp.arr.lt _ hp.arr.iq
  have h2 := hp.arr.lt _ hp.arr.ir
  omega)
 have NT := Lib.hid (show ¬ w.heap.size = m.t from fun e => by
  have h1 := hp.lt m.t (by rw [hp.rt m.t hp.tel.in_.1 hp.tel.in_.2]; omega)
  omega)
 have HFL := Lib.hid (fun W (ht : Tel W m.t m.lo m.hi s (c.bz : Int) (c.wk : Int)) => Fails_any m.t m.lo m.hi s (c.bz : Int) c.wk W ht hs.short hs.ok hw)
 obtain ⟨y, hy⟩ := row_at (st := c.arr) (i := row) (by rw [hp.rows_]; exact hr)
 have HY := Lib.hid hy
 have HN := Lib.hid hn
 have HRA := Lib.hid hra
 have hrb : row ≤ 1000000 := by
  have hbd := Gm.bounds_of hp.arr.ok
  have : g.b.toNat * g.s.toNat ≤ 256 * 64 := Nat.mul_le_mul (by omega) (by omega)
  omega
 have hTP : ∀ b, c.fails s = b → c.tryP g s row raw = { c with wk := c.wk + 1, arr := if b then c.arr.tear row (tornP g s) else c.arr.prog row raw } := fun b e => by unfold Ch.tryP; rw [e]
 have hfd : c.fails s = decide ((c.wk : Int) ∈ s.fails) := rfl
 rw [← hfd] at HFL
 generalize c.fails s = b at HFL hTP
 have HTP := Lib.hid (hTP b rfl)
 have x26 := C0.out.cell_at 26 (.pointer (some ⟨m.t, 0, none⟩)) rfl
 clear h hp hs hr hw ha hra hn hy hTP hfd
 go_enter Tryz.func156, Tryz.ntmps156
 go_wp2_with fail
 clear x26
 refine (HFL.out _ P0.out.tel).mono ?_
 rintro _ w2 ⟨rfl, hb, ht⟩
 have C2 := Lib.hid (C0.out.btw hb P0.out.ne_q.2.2)
 have Z2 := Lib.hid (Z0.out.btw hb NT.out)
 have P2 := Lib.hid (P0.out.teller (bz := c.bz) (wk := c.wk + 1) hb (by push_cast; exact ht))
 have B2 := Lib.hid (((Btw.of_below (I := fun j => j = m.t ∨ j = m.aq ∨ j = m.ar) N0.out)).trans hb (fun _ _ h => .inl h))
 have RA := Lib.hid (RA.out.btw0 hb fun b off e hn hk => by
  have hk : b = m.t := hk
  have h1 := HRA.out b off e hn
  have h2 := P0.out.rt m.t P0.out.tel.in_.1 P0.out.tel.in_.2
  rw [hk] at h1
  omega)
 clear hb ht C0 Z0 P0 N0 HFL
 cases b with
 | true =>
  go_wp2
  refine wp_region_noPanic ?_
  refine wp_region_held_drew (S := fun w' => Btw (fun j => j = m.aq ∨ j = m.ar) w2 w') (by kernel_rfl) ((Btw.refl _).drew) (fun C0 => ?_)
  refine tkH4 0 C0 ?_
  refine tkH4 1 C0 ?_
  refine tkH4 2 C0 ?_
  refine tkH4 4 C0 ?_
  refine tkH4 6 C0 ?_
  refine tkH4 3 C0 ?_ (hy := fun W' hSw => by have y27 := (C2.out.btw hSw P2.out.ne_ar).cell_at 27 (.pointer (some ⟨m.ap, 0, none⟩)) rfl; clear hSw; go_simp <;> with_reducible rfl)
  refine tkH4 5 C0 ?_ (hy := fun W' hSw => by have yb := (Z2.out.btw hSw NB.out).cell_at 0 _ rfl; clear hSw; go_simp <;> with_reducible rfl)
  refine wpAnyH_ready (rs := [7]) (by kernel_rfl) (by simp) ?_
  refine AllReadyH.cons (o := { dst := some 17, op := Op.call { callee := Callee.value (Operand.func 110), args := #[Operand.tmp 16], argTypes := #[34] }, type := 26, pos := "work.go:154", after := #[{ on := 6, ground := Ground.data }], guard := none }) rfl (fun K hK => ?_) AllReadyH.nil
  go_simp
  have PD1 := Lib.hid (P2.out.below ((Below.refl _ _).drew))
  refine (torn_any HS.out PD1.out (C2.out.drew)).mono ?_
  rintro _ wt1 ⟨bt1, nt1, rfl, hb1, hr, hb⟩
  have PT1 := Lib.hid (PD1.out.below hb)
  have RT1 := Lib.hid hr
  have NT1 := Lib.hid hb1
  have BT1 := Lib.hid (show Btw (fun j => j = m.aq ∨ j = m.ar) w2 wt1 from C0.trans (Btw.of_below hb) (fun _ _ h => h))
  have CT1 := Lib.hid (CRow.below (C2.out.drew) hb)
  clear hb hb1 hr PD1
  go_wp2_with fail
  refine hK.out _ _ BT1.out (fun C1 => ?_)
  clear hK K
  try simp only [Act.put, zzI, zzO, zzS]
  refine wpAnyH_ready (rs := [8]) (by kernel_rfl) (by simp) ?_
  refine AllReadyH.cons (o := { dst := some 18, op := Op.call { callee := Callee.value (Operand.func 130), args := #[Operand.tmp 13, Operand.tmp 15, Operand.tmp 17], argTypes := #[57, 3, 26] }, type := 35, pos := "work.go:154", after := #[{ on := 3, ground := Ground.data }, { on := 5, ground := Ground.data }, { on := 7, ground := Ground.data }, { on := 7, ground := Ground.chain }], guard := none }) rfl (fun K hK => ?_) AllReadyH.nil
  go_simp
  refine (Tear_yes PT1.out.arr HY.out (some ⟨bt1, 0, none⟩) g.raw.toNat nt1 _ RT1.out rfl).mono ?_
  rintro _ wa1 ⟨rfl, ha, hb2⟩
  have QT1 := Lib.hid (((Btw.refl (I := (fun j => j = m.aq ∨ j = m.ar)) wt1)).trans hb2 (fun _ _ h => by first | exact h | exact .inl h))
  have BA1 := Lib.hid (show Btw (fun j => j = m.aq ∨ j = m.ar) w2 wa1 from C1.trans QT1.out (fun _ _ h => h))
  have PA1 := Lib.hid (PT1.out.array QT1.out ha)
  have CA1 := Lib.hid (CT1.out.btw QT1.out PT1.out.ne_ar)
  clear ha hb2 QT1
  go_wp2_with fail
  refine hK.out _ _ BA1.out (fun C2 => ?_)
  clear hK K
  try simp only [Act.put, zzI, zzO, zzS]
  refine wpAnyH_done (by kernel_rfl) ?_ _
  refine NoPanic.normal ?_
  go_wp2
  go_ret
  rw [HTP.out]
  exact ⟨rfl, CA1.out, PA1.out, B2.out.trans BA1.out (fun _ _ h => .inr h)⟩
 | false =>
  go_wp2
  refine wp_region_noPanic ?_
  refine wp_region_held_drew (S := fun w' => Btw (fun j => j = m.aq ∨ j = m.ar) w2 w') (by kernel_rfl) ((Btw.refl _).drew) (fun C0 => ?_)
  refine tkH4 0 C0 ?_
  refine tkH4 1 C0 ?_
  refine tkH4 2 C0 ?_
  refine tkH4 4 C0 ?_
  refine tkH4 6 C0 ?_
  refine tkH4 3 C0 ?_ (hy := fun W' hSw => by have y27 := (C2.out.btw hSw P2.out.ne_ar).cell_at 27 (.pointer (some ⟨m.ap, 0, none⟩)) rfl; clear hSw; go_simp <;> with_reducible rfl)
  refine tkH4 5 C0 ?_ (hy := fun W' hSw => by have yb := (Z2.out.btw hSw NB.out).cell_at 0 _ rfl; clear hSw; go_simp <;> with_reducible rfl)
  refine tkH4 7 C0 ?_ (hy := fun W' hSw => by have yb := (Z2.out.btw hSw NB.out).cell_at 1 _ rfl; clear hSw; go_simp <;> with_reducible rfl)
  refine wpAnyH_ready (rs := [8]) (by kernel_rfl) (by simp) ?_
  refine AllReadyH.cons (o := { dst := some 27, op := Op.call { callee := Callee.value (Operand.func 166), args := #[Operand.tmp 22, Operand.tmp 24, Operand.tmp 26], argTypes := #[57, 3, 26] }, type := 35, pos := "work.go:157", after := #[{ on := 3, ground := Ground.data }, { on := 5, ground := Ground.data }, { on := 7, ground := Ground.data }], guard := none }) rfl (fun K hK => ?_) AllReadyH.nil
  go_simp
  refine (Program_yes (P2.out.below ((Below.refl _ _).drew)).arr HY.out A n d raw (RA.out.below ((Below.refl _ _).drew)) HN.out).mono ?_
  rintro _ wa1 ⟨rfl, ha, hb2⟩
  have QT1 := Lib.hid (((Btw.refl (I := (fun j => j = m.aq ∨ j = m.ar)) w2.drew)).trans hb2 (fun _ _ h => .inl h))
  have BA1 := Lib.hid (show Btw (fun j => j = m.aq ∨ j = m.ar) w2 wa1 from C0.trans QT1.out (fun _ _ h => h))
  have PA1 := Lib.hid ((P2.out.below ((Below.refl _ _).drew)).array QT1.out ha)
  have CA1 := Lib.hid ((C2.out.drew).btw QT1.out P2.out.ne_ar)
  clear ha hb2 QT1
  go_wp2_with fail
  refine hK.out _ _ BA1.out (fun C1 => ?_)
  clear hK K
  try simp only [Act.put, zzI, zzO, zzS]
  refine wpAnyH_done (by kernel_rfl) ?_ _
  refine NoPanic.normal ?_
  go_wp2
  go_ret
  rw [HTP.out]
  exact ⟨rfl, CA1.out, PA1.out, B2.out.trans BA1.out (fun _ _ h => .inr h)⟩
set_option maxHeartbeats 4000000 in
theorem tryErase_any (x : Nat) (hs : SG g s) (hx : x < g.b.toNat) (hw : c.wk ≤ 1099511627776) (hp : Pt ρ w p g s c m) (h : CRow w p 72 (chCells g c m)) :
  Calls Tryz.prog 157 #[.pointer (some ⟨p, 0, none⟩), .int .i64 (x : Int)] w (TrT ρ p g s c m (.bool (!c.fails s)) (c.tryE g s x) w) := by
 have HS := Lib.hid hs
 have C0 := Lib.hid h
 have P0 := Lib.hid hp
 have HFL := Lib.hid (fun W (ht : Tel W m.t m.lo m.hi s (c.bz : Int) (c.wk : Int)) => Fails_any m.t m.lo m.hi s (c.bz : Int) c.wk W ht hs.short hs.ok hw)
 have HB := Lib.hid hx
 have hxb : x ≤ 1000000 := by have hbd := Gm.bounds_of hp.arr.ok; omega
 have hTP : ∀ b, c.fails s = b → c.tryE g s x = { c with wk := c.wk + 1, arr := if b then c.arr.tearB g.s.toNat x (tornP g s) else c.arr.erase g.raw.toNat g.s.toNat x } := fun b e => by unfold Ch.tryE; rw [e]
 have hfd : c.fails s = decide ((c.wk : Int) ∈ s.fails) := rfl
 rw [← hfd] at HFL
 generalize c.fails s = b at HFL hTP
 have HTP := Lib.hid (hTP b rfl)
 have x26 := C0.out.cell_at 26 (.pointer (some ⟨m.t, 0, none⟩)) rfl
 clear h hp hs hx hw hTP hfd
 go_enter Tryz.func157, Tryz.ntmps157
 go_wp2_with fail
 clear x26
 refine (HFL.out _ P0.out.tel).mono ?_
 rintro _ w2 ⟨rfl, hb, ht⟩
 have C2 := Lib.hid (C0.out.btw hb P0.out.ne_q.2.2)
 have P2 := Lib.hid (P0.out.teller (bz := c.bz) (wk := c.wk + 1) hb (by push_cast; exact ht))
 have B2 := Lib.hid ((Btw.refl (I := fun j => j = m.t ∨ j = m.aq ∨ j = m.ar) w).trans hb (fun _ _ h => .inl h))
 clear hb ht C0 P0 HFL
 cases b with
 | true =>
  go_wp2
  refine wp_region_noPanic ?_
  refine wp_region_held_drew (S := fun w' => Btw (fun j => j = m.aq ∨ j = m.ar) w2 w') (by kernel_rfl) ((Btw.refl _).drew) (fun C0 => ?_)
  refine tkH4 0 C0 ?_
  refine tkH4 1 C0 ?_
  refine tkH4 2 C0 ?_
  refine tkH4 4 C0 ?_
  refine tkH4 5 C0 ?_
  refine tkH4 3 C0 ?_ (hy := fun W' hSw => by have y27 := (C2.out.btw hSw P2.out.ne_ar).cell_at 27 (.pointer (some ⟨m.ap, 0, none⟩)) rfl; clear hSw; go_simp <;> with_reducible rfl)
  refine wpAnyH_ready (rs := [6]) (by kernel_rfl) (by simp) ?_
  refine AllReadyH.cons (o := { dst := some 16, op := Op.call { callee := Callee.value (Operand.func 110), args := #[Operand.tmp 15], argTypes := #[34] }, type := 26, pos := "work.go:164", after := #[{ on := 5, ground := Ground.data }], guard := none }) rfl (fun K hK => ?_) AllReadyH.nil
  go_simp
  have PD1 := Lib.hid (P2.out.below ((Below.refl _ _).drew))
  refine (torn_any HS.out PD1.out (C2.out.drew)).mono ?_
  rintro _ wt1 ⟨bt1, nt1, rfl, hb1, hr, hb⟩
  have PT1 := Lib.hid (PD1.out.below hb)
  have RT1 := Lib.hid hr
  have NT1 := Lib.hid hb1
  have BT1 := Lib.hid (show Btw (fun j => j = m.aq ∨ j = m.ar) w2 wt1 from C0.trans (Btw.of_below hb) (fun _ _ h => h))
  have CT1 := Lib.hid (CRow.below (C2.out.drew) hb)
  clear hb hb1 hr PD1
  go_wp2_with fail
  refine hK.out _ _ BT1.out (fun C1 => ?_)
  clear hK K
  try simp only [Act.put, zzI, zzO, zzS]
  refine wpAnyH_ready (rs := [7]) (by kernel_rfl) (by simp) ?_
  refine AllReadyH.cons (o := { dst := some 17, op := Op.call { callee := Callee.value (Operand.func 109), args := #[Operand.tmp 13, Operand.tmp 14, Operand.tmp 16], argTypes := #[57, 3, 26] }, type := 35, pos := "work.go:164", after := #[{ on := 3, ground := Ground.data }, { on := 4, ground := Ground.data }, { on := 6, ground := Ground.data }, { on := 6, ground := Ground.chain }], guard := none }) rfl (fun K hK => ?_) AllReadyH.nil
  go_simp
  refine (TearBlock_yes PT1.out.arr (k := x) HB.out (some ⟨bt1, 0, none⟩) g.raw.toNat nt1 _ RT1.out rfl (fun b off e => by cases e; have h1 := NT1.out; have h2 := (P2.out.arr.lt _ P2.out.arr.iq); have h3 : w2.heap.size ≤ bt1 := h1; omega)).mono ?_
  rintro _ wa1 ⟨rfl, ha, hb2⟩
  have QT1 := Lib.hid (((Btw.refl (I := (fun j => j = m.aq ∨ j = m.ar)) wt1)).trans hb2 (fun _ _ h => by first | exact h | exact .inl h))
  have BA1 := Lib.hid (show Btw (fun j => j = m.aq ∨ j = m.ar) w2 wa1 from C1.trans QT1.out (fun _ _ h => h))
  have PA1 := Lib.hid (PT1.out.array QT1.out ha)
  have CA1 := Lib.hid (CT1.out.btw QT1.out PT1.out.ne_ar)
  clear ha hb2 QT1
  go_wp2_with fail
  refine hK.out _ _ BA1.out (fun C2 => ?_)
  clear hK K
  try simp only [Act.put, zzI, zzO, zzS]
  refine wpAnyH_done (by kernel_rfl) ?_ _
  refine NoPanic.normal ?_
  go_wp2
  go_ret
  rw [HTP.out]
  exact ⟨rfl, CA1.out, PA1.out, B2.out.trans BA1.out (fun _ _ h => .inr h)⟩
 | false =>
  have x27 := C2.out.cell_at 27 (.pointer (some ⟨m.ap, 0, none⟩)) rfl
  go_wp2_with fail
  clear x27
  refine (Erase_yes P2.out.arr (k := x) HB.out).mono ?_
  rintro _ w3 ⟨rfl, ha, hb⟩
  have C3 := Lib.hid (C2.out.btw hb P2.out.ne_ar)
  have P3 := Lib.hid (P2.out.array hb ha)
  have B3 := Lib.hid (B2.out.trans hb (fun _ _ h => .inr h))
  clear ha hb
  go_wp2
  go_ret
  rw [HTP.out]
  exact ⟨rfl, C3.out, P3.out, B3.out⟩
end
def Own4 (m : Cm) (p j : Nat) : Prop := j = p ∨ j = m.t ∨ j = m.aq ∨ j = m.ar
def PfT (ρ : Nat → Nat) (p : Nat) (g : Gm) (s : Sc) (m : Cm) (v : Value) (c' : Ch) (m' : Cm) (w : World) (e : Ending) (w' : World) : Prop :=
 e = .returned v ∧ CRow w' p 72 (chCells g c' m') ∧ Pt ρ w' p g s c' m' ∧ Btw (Own4 m p) w w'
def Ch.noBehind (c : Ch) : Ch := { c with brow := 0, braw := [], there := false, polls := 0 }
def Cm.noBehind (m : Cm) : Cm := { m with aG := none, cG := 0 }
def Ch.pBehind (g : Gm) (s : Sc) (c : Ch) : Ch := if c.there then { (c.tryP g s c.brow c.braw).noBehind with prev := c.fails s } else c
def Cm.pBehind (m : Cm) (b : Bool) : Cm := if b then m.noBehind else m
section
variable {ρ : Nat → Nat} {w : World} {p : Nat} {g : Gm} {s : Sc} {c : Ch} {m : Cm}
theorem Pt.noBehind (h : Pt ρ w p g s c m) : Pt ρ w p g s c.noBehind m.noBehind :=
 {
  h with
  bgr := ⟨Rd.nil_, by simp [Ch.noBehind]⟩
  rg := fun _ _ e => by cases e }
theorem behind_row {b : Bool} (h : CRow w p 72 (chCells g c m)) : CRow ((w.setCell ⟨p, 18, none⟩ (.bool b)).setCells p 11 B4.toList) p 72 (chCells g { c.noBehind with prev := b } m.noBehind) := by
 have h1 := (h.setCell 18 (.bool b)).setCells B4.toList 11
 have e : setList ((chCells g c m).setIfInBounds 18 (.bool b)) 11 B4.toList = chCells g { c.noBehind with prev := b } m.noBehind := by simp [setList, chCells, B4, Ch.noBehind, Cm.noBehind]
 rw [e] at h1
 exact h1
set_option maxHeartbeats 4000000 in
theorem performBehind_any (hs : SG g s) (hf : c.fit g) (hw : c.wk ≤ 1099511627776) (hp : Pt ρ w p g s c m) (h : CRow w p 72 (chCells g c m)) :
  Calls Tryz.prog 137 #[.pointer (some ⟨p, 0, none⟩)] w (PfT ρ p g s m (.tuple #[]) (c.pBehind g s) (m.pBehind c.there) w) := by
 cases hth : c.there with
 | false =>
  have x13 : w.cell? ⟨p, 13, none⟩ = some (.bool false) := by
   have h0 := h.cell_at 13 (.bool c.there) rfl
   rw [hth] at h0
   exact h0
  have HC := Lib.hid (show c.pBehind g s = c by unfold Ch.pBehind; rw [hth]; rfl)
  have C0 := Lib.hid h
  have P0 := Lib.hid hp
  clear h hp hs hf hth
  go_enter Tryz.func137, Tryz.ntmps137
  go_wp2
  go_end0
  rw [HC.out]
  exact ⟨rfl, C0.out, P0.out, Btw.refl w⟩
 | true =>
  have x13 : w.cell? ⟨p, 13, none⟩ = some (.bool true) := by
   have h0 := h.cell_at 13 (.bool c.there) rfl
   rw [hth] at h0
   exact h0
  have x11 := h.cell_at 11 (.int .i64 (c.brow : Int)) rfl
  have x12 := h.cell_at 12 (.slice m.aG c.braw.length m.cG) rfl
  have HC := Lib.hid (show c.pBehind g s = { (c.tryP g s c.brow c.braw).noBehind with prev := c.fails s } by unfold Ch.pBehind; rw [hth]; rfl)
  have HT := Lib.hid (tryProgram_any c.brow m.aG c.braw.length m.cG c.braw hs (hf.bro hth).1 hw (hf.bro hth).2 hp.bgr hp.rg hp h)
  generalize c.fails s = b at HT HC
  clear h hp hs hf hth
  go_enter Tryz.func137, Tryz.ntmps137
  go_wp2_with fail
  clear x11 x12 x13
  refine HT.out.mono ?_
  rintro _ w1 ⟨rfl, hc, hp, hb⟩
  have C1 := Lib.hid hc
  have P1 := Lib.hid hp
  have B1 := Lib.hid (show Btw (Own4 m p) w w1 from (Btw.refl w).trans hb (fun _ _ h => .inr h))
  clear hc hp hb HT
  have x18 := C1.out.cell_at 18 (.bool c.prev) rfl
  have f18 := C1.out.frozen 18
  have T2 := Lib.hid ((C1.out.setCell 18 (.bool b)).there 11 B4.size (by simp [chCells, B4]))
  have K2 := Lib.hid (behind_row (b := b) C1.out)
  have X2 := Lib.hid (Btw.setCells (I := fun j => j = p) (g := p) rfl B4.toList 11 ((Btw.refl w1).setCell (p := ⟨p, 18, none⟩) (v := .bool b) rfl))
  have nb : (!(!b)) = b := Bool.not_not b
  go_wp2_with (with_reducible refine (?_ : wpList _ _ _ ({ dst := _, op := Op.store 67 _ _, type := _, pos := _, after := _, guard := _ } :: _) _ _); apply wpList_store_mid rfl 67 (.tmp 26) (.tmp 23) rfl p 11 B4 (by simp [Act.eval]) (by simp [Act.eval, B4]) T2.out size_background (by simp [B4, Value.oneCell']))
  go_end0
  rw [HC.out]
  exact ⟨rfl, K2.out, { (P1.out.btw X2.out (fun j e => e ▸ P1.out.rp)).noBehind with }, B1.out.trans X2.out (fun _ _ h => .inl h)⟩
theorem previousBit_any (h : CRow w p 72 (chCells g c m)) : Calls Tryz.prog 136 #[.pointer (some ⟨p, 0, none⟩)] w (Gives (.int .u8 (if c.prev then 2 else 0)) w) := by
 cases hb : c.prev with
 | false =>
  have x18 : w.cell? ⟨p, 18, none⟩ = some (.bool false) := by
   have h0 := h.cell_at 18 (.bool c.prev) rfl
   rw [hb] at h0
   exact h0
  clear h hb
  go_enter Tryz.func136, Tryz.ntmps136
  go_wp2
  go_ret
  exact ⟨rfl, Below.refl _ _⟩
 | true =>
  have x18 : w.cell? ⟨p, 18, none⟩ = some (.bool true) := by
   have h0 := h.cell_at 18 (.bool c.prev) rfl
   rw [hb] at h0
   exact h0
  clear h hb
  go_enter Tryz.func136, Tryz.ntmps136
  go_wp2
  go_ret
  exact ⟨rfl, Below.refl _ _⟩
theorem failBit_any (h : CRow w p 72 (chCells g c m)) : Calls Tryz.prog 138 #[.pointer (some ⟨p, 0, none⟩)] w (Gives (.int .u8 (if c.fail then 1 else 0)) w) := by
 cases hb : c.fail with
 | false =>
  have x17 : w.cell? ⟨p, 17, none⟩ = some (.bool false) := by
   have h0 := h.cell_at 17 (.bool c.fail) rfl
   rw [hb] at h0
   exact h0
  clear h hb
  go_enter Tryz.func138, Tryz.ntmps138
  go_wp2
  go_ret
  exact ⟨rfl, Below.refl _ _⟩
 | true =>
  have x17 : w.cell? ⟨p, 17, none⟩ = some (.bool true) := by
   have h0 := h.cell_at 17 (.bool c.fail) rfl
   rw [hb] at h0
   exact h0
  clear h hb
  go_enter Tryz.func138, Tryz.ntmps138
  go_wp2
  go_ret
  exact ⟨rfl, Below.refl _ _⟩
end
def stepP (g : Gm) (s : Sc) (a : Ch) (x : Pr) : Ch := { (a.tryP g s x.row x.raw) with fail := a.fail || a.fails s }
def stepE (g : Gm) (s : Sc) (a : Ch) (b : Nat) : Ch := { (a.tryE g s b) with fail := a.fail || a.fails s }
def Ch.unpend (c : Ch) : Ch := { c with reads := false, prow := 0, progs := [], blocks := [] }
def Cm.unpend (m : Cm) : Cm := { m with aP := none, cP := 0, aE := none, cE := 0, lP := [] }
def rawAt (st : St) (i : Nat) : List Nat := ((st.rows[i]?).map (·.raw)).getD []
def Ch.pf0 (g : Gm) (s : Sc) (c : Ch) : Ch := c.unpend.pBehind g s
def Ch.pf1 (g : Gm) (s : Sc) (c : Ch) : Ch := if c.reads then { c.pf0 g s with reg := flips (rawAt (c.pf0 g s).arr c.prow) (grp s.turns ((c.prow : Int), (c.rung : Int))) } else c.pf0 g s
def Ch.pfP (g : Gm) (s : Sc) (c : Ch) (k : Nat) : Ch := (c.progs.take k).foldl (stepP g s) (c.pf1 g s)
def Ch.pfE (g : Gm) (s : Sc) (c : Ch) (k : Nat) : Ch := (c.blocks.take k).foldl (stepE g s) (c.pfP g s c.progs.length)
def Ch.perform (g : Gm) (s : Sc) (c : Ch) : Ch := if wany c.reads c.progs.length c.blocks.length then c.pfE g s c.blocks.length else c
theorem pfP_succ {g : Gm} {s : Sc} {c : Ch} {k : Nat} {x : Pr} (h : c.progs[k]? = some x) : c.pfP g s (k + 1) = stepP g s (c.pfP g s k) x := by
 unfold Ch.pfP
 rw [List.take_add_one, h, List.foldl_append]
 rfl
theorem pfE_succ {g : Gm} {s : Sc} {c : Ch} {k : Nat} {x : Nat} (h : c.blocks[k]? = some x) : c.pfE g s (k + 1) = stepE g s (c.pfE g s k) x := by
 unfold Ch.pfE
 rw [List.take_add_one, h, List.foldl_append]
 rfl
theorem pBehind_wk (g : Gm) (s : Sc) (c : Ch) : (c.pBehind g s).wk ≤ c.wk + 1 := by
 unfold Ch.pBehind
 split
 ·
  exact Nat.le_refl _
 ·
  omega
theorem pf1_wk (g : Gm) (s : Sc) (c : Ch) : (c.pf1 g s).wk ≤ c.wk + 1 := by
 unfold Ch.pf1
 split
 ·
  exact pBehind_wk g s c.unpend
 ·
  exact pBehind_wk g s c.unpend
theorem foldP_wk (g : Gm) (s : Sc) : ∀ (l : List Pr) (a : Ch), (l.foldl (stepP g s) a).wk = a.wk + l.length
 | [], _ => rfl
 | x :: l, a => by rw [List.foldl_cons, foldP_wk g s l]; show a.wk + 1 + l.length = _; rw [List.length_cons]; omega
theorem foldE_wk (g : Gm) (s : Sc) : ∀ (l : List Nat) (a : Ch), (l.foldl (stepE g s) a).wk = a.wk + l.length
 | [], _ => rfl
 | x :: l, a => by rw [List.foldl_cons, foldE_wk g s l]; show a.wk + 1 + l.length = _; rw [List.length_cons]; omega
theorem pfP_wk (g : Gm) (s : Sc) (c : Ch) (k : Nat) : (c.pfP g s k).wk ≤ c.wk + 1 + c.progs.length := by
 unfold Ch.pfP
 rw [foldP_wk]
 have := pf1_wk g s c
 have : (c.progs.take k).length ≤ c.progs.length := by rw [List.length_take]; omega
 omega
theorem pfE_wk (g : Gm) (s : Sc) (c : Ch) (k : Nat) : (c.pfE g s k).wk ≤ c.wk + 1 + c.progs.length + c.blocks.length := by
 unfold Ch.pfE
 rw [foldE_wk]
 have := pfP_wk g s c c.progs.length
 have : (c.blocks.take k).length ≤ c.blocks.length := by rw [List.length_take]; omega
 omega
structure Pd (ρ : Nat → Nat) (w : World) (c : Ch) (m : Cm) : Prop where
 pro : w.ownsRow 0 65 2 (.slice m.aP c.progs.length m.cP) c.progs.length (PC m.lP)
 py : m.lP.map (·.y) = c.progs
 rpr : ∀ k, (Value.slice m.aP c.progs.length m.cP).ownBlock = some k → ρ k = 10
 blk : w.ownsRow 0 3 1 (.slice m.aE c.blocks.length m.cE) c.blocks.length (I64 (IC c.blocks))
 rbl : ∀ k, (Value.slice m.aE c.blocks.length m.cE).ownBlock = some k → ρ k = 11
 raws : ∀ x ∈ m.lP, R8 w x.a x.y.raw.length x.y.raw ∧ ∀ b off, x.a = some ⟨b, off, none⟩ → 0 < x.y.raw.length → ρ b = 12
section
variable {ρ ρ' : Nat → Nat} {I J : Nat → Prop} {w w' : World} {p : Nat} {g : Gm} {s : Sc} {c : Ch} {m : Cm}
theorem Pt.pd (h : Pt ρ w p g s c m) : Pd ρ w c m := ⟨h.pro, h.py, h.rpr, h.blk, h.rbl, fun x hx => h.raws x (List.mem_append_right _ hx)⟩
theorem Pd.btw (h : Pd ρ w c m) (hb : Btw J w w') (hJ : ∀ j, J j → ρ j ≠ 10 ∧ ρ j ≠ 11 ∧ ρ j ≠ 12) : Pd ρ w' c m :=
 ⟨own_btw2 h.pro hb fun k hk hj => (hJ k hj).1 (h.rpr k hk), h.py, h.rpr, own_btw1 h.blk hb fun k hk hj => (hJ k hj).2.1 (h.rbl k hk), h.rbl,
  fun x hx => ⟨(h.raws x hx).1.btw0 hb fun b off e hn hj => (hJ b hj).2.2 ((h.raws x hx).2 b off e hn), (h.raws x hx).2⟩⟩
theorem Pd.role (h : Pd ρ w c m) (hr : ∀ j, ρ j ≠ 0 → ρ' j = ρ j) : Pd ρ' w c m :=
 ⟨h.pro, h.py, fun k hk => by have := h.rpr k hk; rw [hr k (by omega)]; exact this, h.blk, fun k hk => by have := h.rbl k hk; rw [hr k (by omega)]; exact this,
  fun x hx => ⟨(h.raws x hx).1, fun b off e hn => by have := (h.raws x hx).2 b off e hn; rw [hr b (by omega)]; exact this⟩⟩
theorem Pt.unpend (h : Pt ρ w p g s c m) : Pt ρ w p g s c.unpend m.unpend :=
 {
  h with
  pro := ⟨rfl, .inl ⟨rfl, rfl⟩⟩
  py := rfl
  rpr := fun k hk => by cases hk
  blk := ⟨rfl, .inl ⟨rfl, rfl⟩⟩
  rbl := fun k hk => by cases hk
  raws := fun x hx => h.raws x (List.mem_append_left _ (by simpa [Cm.unpend] using hx)) }
theorem Pt.own4 (h : Pt ρ w p g s c m) : ∀ j, Own4 m p j → ρ j = 1 ∨ ρ j = 3 ∨ ρ j = 4 ∨ ρ j = 5 := fun j hj => by
 rcases hj with rfl | rfl | rfl | rfl
 ·
  exact .inl h.rp
 ·
  exact .inr (.inr (.inr (h.rt m.t h.tel.in_.1 h.tel.in_.2)))
 ·
  exact .inr (.inl h.raq)
 ·
  exact .inr (.inr (.inl h.rar))
theorem unpend_row (h : CRow w p 72 (chCells g c m)) : CRow (w.setCells p 7 W4.toList) p 72 (chCells g c.unpend m.unpend) := by
 have h1 := h.setCells W4.toList 7
 have e : setList (chCells g c m) 7 W4.toList = chCells g c.unpend m.unpend := by simp [setList, chCells, W4, Ch.unpend, Cm.unpend]
 rw [e] at h1
 exact h1
theorem Ch.fit.unpend (h : c.fit g) : c.unpend.fit g :=
 {
  h with
  pr := fun x hx => by cases hx
  bl := fun x hx => by cases hx
  rd := fun e => by cases e
  np := Nat.zero_le _
  nb := Nat.zero_le _ }
end
theorem pf0_rung (g : Gm) (s : Sc) (c : Ch) : (c.pf0 g s).rung = c.rung := by
 unfold Ch.pf0 Ch.pBehind
 split <;> rfl
section
variable {ρ : Nat → Nat} {w : World} {p : Nat} {g : Gm} {s : Sc} {a : Ch} {m : Cm} {x : Pr} {y : Nat}
theorem stepP_pt (h : Pt ρ w p g s (a.tryP g s x.row x.raw) m) : Pt ρ w p g s (stepP g s a x) m := { h with }
theorem stepE_pt (h : Pt ρ w p g s (a.tryE g s y) m) : Pt ρ w p g s (stepE g s a y) m := { h with }
theorem Pt.newreg {w' : World} {c : Ch} (h : Pt ρ w p g s c m) (hb : Below w.heap.size w w') (b n : Nat) (cur : Array Value) (u : TypeId) (l : List Nat) (hn : w.heap.size ≤ b) (hk : CRow w' b u cur) (hr : R8 w' (some ⟨b, 0, none⟩) l.length l) (hl : l.length = g.raw.toNat) :
  Pt (role1 ρ b 7) w' p g s { c with reg := l } { m with aR := some ⟨b, 0, none⟩, cR := n } :=
 {
  h.more1 hb b 7 hn hk.lt with
  reg := ⟨b, cur, u, rfl, if_pos rfl, hk, hr⟩
  regn := hl }
theorem Pt.raw_len {c : Ch} (h : Pt ρ w p g s c m) {i : Nat} {y : Pg} (hy : c.arr.rows[i]? = some y) : y.raw.length = g.raw.toNat ∧ ∀ x ∈ y.raw, x < 256 := by
 obtain ⟨ls, e1, _, e3⟩ := h.arr.rows
 have e2 : y ∈ c.arr.rows := List.mem_of_getElem? hy
 rw [e1] at e2
 obtain ⟨x, hx1, hx2⟩ := List.mem_map.1 e2
 have h3 := (e3 x hx1).1
 rw [hx2] at h3
 exact h3
theorem stepP_no (hb : a.fails s = false) (h : CRow w p 72 (chCells g a m)) : CRow w p 72 (chCells g (stepP g s a x) m) := by
 have e : chCells g (stepP g s a x) m = chCells g a m := by simp [chCells, stepP, Ch.tryP, hb]
 rw [e]
 exact h
theorem stepE_no (hb : a.fails s = false) (h : CRow w p 72 (chCells g a m)) : CRow w p 72 (chCells g (stepE g s a y) m) := by
 have e : chCells g (stepE g s a y) m = chCells g a m := by simp [chCells, stepE, Ch.tryE, hb]
 rw [e]
 exact h
theorem stepP_yes (hb : a.fails s = true) (h : CRow w p 72 (chCells g a m)) : CRow (w.setCell ⟨p, 17, none⟩ (.bool true)) p 72 (chCells g (stepP g s a x) m) := by
 have h1 := h.setCell 17 (.bool true)
 have e : (chCells g a m).setIfInBounds 17 (.bool true) = chCells g (stepP g s a x) m := by simp [chCells, stepP, Ch.tryP, hb]
 rw [e] at h1
 exact h1
theorem stepE_yes (hb : a.fails s = true) (h : CRow w p 72 (chCells g a m)) : CRow (w.setCell ⟨p, 17, none⟩ (.bool true)) p 72 (chCells g (stepE g s a y) m) := by
 have h1 := h.setCell 17 (.bool true)
 have e : (chCells g a m).setIfInBounds 17 (.bool true) = chCells g (stepE g s a y) m := by simp [chCells, stepE, Ch.tryE, hb]
 rw [e] at h1
 exact h1
end
section
variable {I : Nat → Prop} {w : World} {p : Nat} {g : Gm} {s : Sc} {c : Ch}
set_option maxHeartbeats 4000000 in
theorem perform_any (hs : SG g s) (hf : c.fit g) (hw : c.wk ≤ 1099511627000) (h : CH I w p g s c) : Calls Tryz.prog 135 #[.pointer (some ⟨p, 0, none⟩)] w fun e w' => e = .returned (.tuple #[]) ∧ CH I w' p g s (c.perform g s) ∧ Btw I w w' := by
 obtain ⟨ρ, m, hc, hp, hi⟩ := h
 have HS := Lib.hid hs
 have HF := Lib.hid hf
 have C0 := Lib.hid hc
 have P0 := Lib.hid hp
 have I0 := Lib.hid hi
 have HW := Lib.hid hw
 obtain ⟨zP, hzP⟩ : ∃ zP, zP = m.aP := ⟨_, rfl⟩
 obtain ⟨zE, hzE⟩ : ∃ zE, zE = m.aE := ⟨_, rfl⟩
 have HZP := Lib.hid hzP
 have HZE := Lib.hid hzE
 have x7 := C0.out.cell_at 7 (.bool c.reads) rfl
 have x8 := C0.out.cell_at 8 (.int .i64 (c.prow : Int)) rfl
 have x9 : w.cell? ⟨p, 9, none⟩ = some (.slice zP c.progs.length m.cP) := by rw [hzP]; exact C0.out.cell_at 9 _ rfl
 have x10 : w.cell? ⟨p, 10, none⟩ = some (.slice zE c.blocks.length m.cE) := by rw [hzE]; exact C0.out.cell_at 10 _ rfl
 have Z1 := Lib.hid (CRow.new w #[.bool c.reads, .int .i64 (c.prow : Int), .slice zP c.progs.length m.cP, .slice zE c.blocks.length m.cE] 63)
 have N1 := Lib.hid (below_new w (.cells #[.bool c.reads, .int .i64 (c.prow : Int), .slice zP c.progs.length m.cP, .slice zE c.blocks.length m.cE] 63))
 have C1 := Lib.hid (C0.out.below N1.out)
 have P1 := Lib.hid (P0.out.below N1.out)
 have HNO := Lib.hid (show ¬ Own4 m p w.heap.size from fun e => by
  have h1 := P0.out.own4 _ e
  have h2 := P0.out.lt w.heap.size (by omega)
  omega)
 clear hc hp hi hs hf hw hzP hzE
 go_enter Tryz.func135, Tryz.ntmps135
 go_wp2_with fail
 clear x7 x8 x9 x10
 refine (any_any c.reads _ zP zE c.progs.length m.cP c.blocks.length m.cE _).mono ?_
 rintro _ w2 ⟨rfl, hb⟩
 have C2 := Lib.hid (C1.out.below hb)
 have P2 := Lib.hid (P1.out.below hb)
 have Z2 := Lib.hid (Z1.out.below hb)
 have N2 := Lib.hid (below_step N1.out hb)
 clear hb C1 P1 Z1 N1 C0
 by_cases hany : wany c.reads c.progs.length c.blocks.length = true
 rotate_left
 ·
  have hany : wany c.reads c.progs.length c.blocks.length = false := by simpa using hany
  have HE := Lib.hid (show c.perform g s = c by unfold Ch.perform; rw [hany]; rfl)
  rw [hany]
  clear hany
  go_wp2
  refine bodyPost_ret (results_none rfl _ _ _) rfl ?_
  rw [HE.out]
  exact ⟨rfl, ⟨ρ, m, C2.out, P2.out, I0.out.grow N2.out.size⟩, Btw.of_below N2.out⟩
 have HE := Lib.hid (show c.perform g s = c.pfE g s c.blocks.length by unfold Ch.perform; rw [hany]; rfl)
 rw [hany]
 clear hany
 have T2 := Lib.hid (C2.out.there 7 W4.size (by simp [chCells, W4]))
 have C3 := Lib.hid (unpend_row C2.out)
 have X3 := Lib.hid (Btw.setCells (I := fun j => j = p) (g := p) rfl W4.toList 7 (Btw.refl w2))
 have P3 := Lib.hid ((P2.out.btw X3.out (fun j e => e ▸ P2.out.rp)).unpend)
 have HPB := Lib.hid (performBehind_any (c := c.unpend) HS.out HF.out.unpend (by show c.wk ≤ _; have := HW.out; omega) P3.out C3.out)
 have X3 := Lib.hid ((Btw.refl (I := Own4 m p) w2).trans X3.out (fun _ _ h => .inl h))
 generalize hW3 : w2.setCells p 7 W4.toList = w3 at *
 go_wp2_with (with_reducible refine (?_ : wpList _ _ _ ({ dst := _, op := Op.store 63 _ _, type := _, pos := _, after := _, guard := _ } :: _) _ _); apply wpList_store_mid rfl 63 (.tmp 19) (.tmp 16) rfl p 7 W4 (by simp [Act.eval]) (by simp [Act.eval, W4]) T2.out size_work (by simp [W4, Value.oneCell']))
 refine HPB.out.mono ?_
 rintro _ w4 ⟨rfl, hc, hp, hb⟩
 obtain ⟨m1, hm1⟩ : ∃ m1, m1 = m.unpend.pBehind c.unpend.there := ⟨_, rfl⟩
 have HM1 := Lib.hid (show m1.t = m.t ∧ m1.aq = m.aq ∧ m1.ar = m.ar by rw [hm1]; unfold Cm.pBehind; split <;> exact ⟨rfl, rfl, rfl⟩)
 rw [← hm1] at hc hp
 have C4 := Lib.hid (show CRow w4 p 72 (chCells g (c.pf0 g s) m1) from hc)
 have P4 := Lib.hid (show Pt ρ w4 p g s (c.pf0 g s) m1 from hp)
 have X4 := Lib.hid (X3.out.trans hb (fun _ _ h => h))
 have Z4 := Lib.hid (Z2.out.btw X4.out HNO.out)
 have PD4 := Lib.hid (P2.out.pd.btw X4.out (fun j hj => by have := P2.out.own4 j hj; omega))
 clear hm1 hc hp hb HPB C3 P3 X3 T2 C2 Z2
 cases hr : c.reads with
 | false =>
  have H1 := Lib.hid (show c.pf0 g s = c.pf1 g s by unfold Ch.pf1; rw [hr]; rfl)
  have z0 : w4.cell? ⟨w.heap.size, 0, none⟩ = some (.bool false) := by
   have h0 := Z4.out.cell_at 0 _ rfl
   rw [hr] at h0
   exact h0
  rw [H1.out] at C4 P4
  have BI9 := Lib.hid (show Btw I w w4 from (Btw.of_below (I := I) N2.out).trans X4.out (fun j _ h => by have h1 := P2.out.own4 j h; exact I0.out.own j (by omega) (by omega)))
  have I9 := Lib.hid (I0.out.grow BI9.out.size)
  have HNO9 := Lib.hid (show ¬ Own4 m1 p w.heap.size by unfold Own4; rw [HM1.out.1, HM1.out.2.1, HM1.out.2.2]; exact HNO.out)
  have C9 := C4
  have P9 := P4
  have Z9 := Z4
  have PD9 := PD4
  obtain ⟨m3, hm3⟩ : ∃ m3, m3 = m1 := ⟨_, rfl⟩
  obtain ⟨ρ2, hρ2⟩ : ∃ ρ2, ρ2 = ρ := ⟨_, rfl⟩
  rw [← hm3] at C9 P9 HNO9
  rw [← hρ2] at P9 PD9 I9
  clear hr H1 hm3 hρ2 C4 P4 PD4 X4 N2 P0 P2 I0
  have z2 := Z9.out.cell_at 2 _ rfl
  have BW9 := Lib.hid (Btw.refl (I := Own4 m3 p) w4)
  go_wp2
  go_loopw [51] (fun i wr => ∃ k : Nat, k ≤ c.progs.length ∧ i = .int .i64 (k : Int) ∧ Hid (CRow wr p 72 (chCells g (c.pfP g s k) m3)) ∧ Hid (Pt ρ2 wr p g s (c.pfP g s k) m3) ∧ Hid (Btw (Own4 m3 p) w4 wr)) (fun i _ => c.progs.length - (intOf i).toNat)
  case atStart => exact ⟨0, Nat.zero_le _, rfl, C9, P9, BW9⟩
  case round =>
   obtain ⟨k, hk, rfl, C10, P10, B10⟩ := hrel
   rename World => wr
   clear C9 P9 BW9 z2
   by_cases hlt : k < c.progs.length
   ·
    have PD10 := Lib.hid (PD9.out.btw B10.out (fun j hj => by have := P10.out.own4 j hj; omega))
    obtain ⟨b9, x, hA, hb9, hx, y0, y1⟩ := prog_at PD10.out.pro hlt
    obtain rfl : zP = some ⟨b9, 0, none⟩ := HZP.out.trans hA
    have HX := Lib.hid (show c.progs[k]? = some x.y by
     have h1 := PD10.out.py
     have h2 : (m.lP.map (·.y))[k]? = some x.y := by rw [List.getElem?_map, hx]; rfl
     rw [h1] at h2
     exact h2)
    have HXF := Lib.hid (HF.out.pr _ (List.mem_of_getElem? HX.out))
    have N1 := Lib.hid (below_new wr (.cells #[.int .i64 (x.y.row : Int), .slice x.a x.y.raw.length x.c] 65))
    have HT := Lib.hid (tryProgram_any (c := c.pfP g s k) x.y.row x.a x.y.raw.length x.c x.y.raw HS.out HXF.out.1 (by have h1 := pfP_wk g s c k; have h2 := HF.out.np; have h3 := HW.out; omega) HXF.out.2 ((PD10.out.raws x (List.mem_of_getElem? hx)).1.below N1.out) (PD10.out.raws x (List.mem_of_getElem? hx)).2 (P10.out.below N1.out) (C10.out.below N1.out))
    have d1 : decide ((k : Int) < (c.progs.length : Int)) = true := decide_eq_true (by omega)
    have i0 : (0 : Int) ≤ (k : Int) := by omega
    have i1 : (k : Int) < (c.progs.length : Int) := by omega
    have i2 := HF.out.np
    have hpf := pfP_succ (g := g) (s := s) HX.out
    have HPF := Lib.hid hpf
    obtain ⟨b, hb⟩ : ∃ b, (c.pfP g s k).fails s = b := ⟨_, rfl⟩
    have HBB := Lib.hid hb
    rw [hb] at HT
    clear hA hb9 hx hpf hb
    go_wp2_with fail
    clear y0 y1
    refine HT.out.mono ?_
    rintro _ w5 ⟨rfl, hc, hp1, hb1⟩
    have C5 := Lib.hid hc
    have P5 := Lib.hid (show Pt ρ2 w5 p g s (c.pfP g s (k + 1)) m3 by rw [HPF.out]; exact stepP_pt hp1)
    have B5 := Lib.hid (B10.out.trans ((Btw.of_below (I := Own4 m3 p) N1.out).trans hb1 (fun _ _ h => .inr h)) (fun _ _ h => h))
    clear hc hp1 hb1 HT N1 PD10
    cases b with
    | true =>
     have C6 := Lib.hid (show CRow (w5.setCell ⟨p, 17, none⟩ (.bool true)) p 72 (chCells g (c.pfP g s (k + 1)) m3) by rw [HPF.out]; exact stepP_yes HBB.out C5.out)
     have x17 := C5.out.cell_at 17 (.bool (c.pfP g s k).fail) rfl
     have f17 := C5.out.frozen 17
     have B6 := Lib.hid (B5.out.setCell (p := ⟨p, 17, none⟩) (v := .bool true) (.inl rfl))
     have P6 := Lib.hid (P5.out.set 17 (.bool true))
     go_wp2
     go_roundw
     case rel => exact ⟨k + 1, by omega, by go_num, C6, P6, B6⟩
     case measure => simp [intOf]; omega
    | false =>
     have C6 := Lib.hid (show CRow w5 p 72 (chCells g (c.pfP g s (k + 1)) m3) by rw [HPF.out]; exact stepP_no HBB.out C5.out)
     go_wp2
     go_roundw
     case rel => exact ⟨k + 1, by omega, by go_num, C6, P5, B5⟩
     case measure => simp [intOf]; omega
   ·
    obtain ⟨np, hnp⟩ : ∃ np, np = c.progs.length := ⟨_, rfl⟩
    obtain rfl : k = np := by omega
    have d1 : decide ((k : Int) < (c.progs.length : Int)) = false := decide_eq_false (by omega)
    have d1n : decide (k < c.progs.length) = false := decide_eq_false hlt
    have C11 := Lib.hid (show CRow wr p 72 (chCells g (c.pfE g s 0) m3) by have h1 := C10.out; rw [hnp] at h1; exact h1)
    have P11 := Lib.hid (show Pt ρ2 wr p g s (c.pfE g s 0) m3 by have h1 := P10.out; rw [hnp] at h1; exact h1)
    have z3 := (Z9.out.btw B10.out HNO9.out).cell_at 3 _ rfl
    clear hk hnp C10 P10
    go_wp2
    clear d1 d1n hlt z3
    go_loopw [67] (fun i w' => ∃ q : Nat, q ≤ c.blocks.length ∧ i = .int .i64 (q : Int) ∧ Hid (CRow w' p 72 (chCells g (c.pfE g s q) m3)) ∧ Hid (Pt ρ2 w' p g s (c.pfE g s q) m3) ∧ Hid (Btw (Own4 m3 p) w4 w')) (fun i _ => c.blocks.length - (intOf i).toNat)
    case atStart => exact ⟨0, Nat.zero_le _, rfl, C11, P11, B10⟩
    case round =>
     clear C11 P11 B10
     rename World => wz
     obtain ⟨q, hq, rfl, C10, P10, B10⟩ := hrel
     rename World => wr
     by_cases hlt : q < c.blocks.length
     ·
      obtain ⟨x, hx⟩ : ∃ x, c.blocks[q]? = some x := ⟨_, List.getElem?_eq_getElem hlt⟩
      have HX := Lib.hid hx
      have HXB := Lib.hid (HF.out.bl _ (List.mem_of_getElem? hx))
      have PD10 := Lib.hid (PD9.out.btw B10.out (fun j hj => by have := P10.out.own4 j hj; omega))
      obtain ⟨b9, hA, _, _, y0', _, _⟩ := own_at PD10.out.blk hlt
      obtain rfl : zE = some ⟨b9, 0, none⟩ := HZE.out.trans hA
      have y0 : wr.cell? ⟨b9, q, none⟩ = some (.int .i64 (x : Int)) := by
       rw [y0', I64, IC, List.getElem?_map, List.getElem?_map, hx]
       rfl
      have HT := Lib.hid (tryErase_any (c := c.pfE g s q) x HS.out HXB.out (by have h1 := pfE_wk g s c q; have h2 := HF.out.np; have h4 := HF.out.nb; have h3 := HW.out; omega) P10.out C10.out)
      have d2 : decide ((q : Int) < (c.blocks.length : Int)) = true := decide_eq_true (by omega)
      have i0 : (0 : Int) ≤ (q : Int) := by omega
      have i1 : (q : Int) < (c.blocks.length : Int) := by omega
      have i2 := HF.out.nb
      have HPF := Lib.hid (pfE_succ (g := g) (s := s) HX.out)
      obtain ⟨b, hb⟩ : ∃ b, (c.pfE g s q).fails s = b := ⟨_, rfl⟩
      have HBB := Lib.hid hb
      rw [hb] at HT
      clear hA y0' hx hb
      go_wp2_with fail
      clear y0
      refine HT.out.mono ?_
      rintro _ w5 ⟨rfl, hc, hp1, hb1⟩
      have C5 := Lib.hid hc
      have P5 := Lib.hid (show Pt ρ2 w5 p g s (c.pfE g s (q + 1)) m3 by rw [HPF.out]; exact stepE_pt hp1)
      have B5 := Lib.hid (B10.out.trans hb1 (fun _ _ h => .inr h))
      clear hc hp1 hb1 HT PD10
      cases b with
      | true =>
       have C6 := Lib.hid (show CRow (w5.setCell ⟨p, 17, none⟩ (.bool true)) p 72 (chCells g (c.pfE g s (q + 1)) m3) by rw [HPF.out]; exact stepE_yes HBB.out C5.out)
       have x17 := C5.out.cell_at 17 (.bool (c.pfE g s q).fail) rfl
       have f17 := C5.out.frozen 17
       have B6 := Lib.hid (B5.out.setCell (p := ⟨p, 17, none⟩) (v := .bool true) (.inl rfl))
       have P6 := Lib.hid (P5.out.set 17 (.bool true))
       go_wp2
       go_roundw
       case rel => exact ⟨q + 1, by omega, by go_num, C6, P6, B6⟩
       case measure => simp [intOf]; omega
      | false =>
       have C6 := Lib.hid (show CRow w5 p 72 (chCells g (c.pfE g s (q + 1)) m3) by rw [HPF.out]; exact stepE_no HBB.out C5.out)
       go_wp2
       go_roundw
       case rel => exact ⟨q + 1, by omega, by go_num, C6, P5, B5⟩
       case measure => simp [intOf]; omega
     ·
      obtain ⟨nb, hnb⟩ : ∃ nb, nb = c.blocks.length := ⟨_, rfl⟩
      obtain rfl : q = nb := by omega
      have d2 : decide ((q : Int) < (c.blocks.length : Int)) = false := decide_eq_false (by omega)
      have d2n : decide (q < c.blocks.length) = false := decide_eq_false hlt
      have BX := Lib.hid (BI9.out.trans (J := I) ((Btw.refl (I := I) w4).trans B10.out (fun j _ h => by have := P10.out.own4 j h; exact I9.out.own j (by omega) (by omega))) (fun _ _ h => h))
      clear hq
      go_wp2
      go_end0
      rw [HE.out, ← hnb]
      exact ⟨rfl, ⟨ρ2, m3, C10.out, P10.out, I9.out.grow B10.out.size⟩, BX.out⟩
 | true =>
  have H1 := Lib.hid (show c.pf1 g s = { c.pf0 g s with reg := flips (rawAt (c.pf0 g s).arr c.prow) (grp s.turns ((c.prow : Int), (c.rung : Int))) } by unfold Ch.pf1; rw [hr]; rfl)
  have z0 : w4.cell? ⟨w.heap.size, 0, none⟩ = some (.bool true) := by
   have h0 := Z4.out.cell_at 0 _ rfl
   rw [hr] at h0
   exact h0
  have Z4 := Lib.hid (show CRow w4 w.heap.size 63 #[.bool true, .int .i64 (c.prow : Int), .slice zP c.progs.length m.cP, .slice zE c.blocks.length m.cE] by have h0 := Z4.out; rw [hr] at h0; exact h0)
  have HRG := Lib.hid (pf0_rung g s c)
  have hrow := HF.out.rd hr
  obtain ⟨y, hy⟩ := row_at (st := (c.pf0 g s).arr) (i := c.prow) (by rw [P4.out.rows_]; exact hrow)
  have HY := Lib.hid hy
  have HRAW := Lib.hid (show rawAt (c.pf0 g s).arr c.prow = y.raw by unfold rawAt; rw [hy]; rfl)
  have hlen := P4.out.raw_len hy
  have hN := P4.out.raw_
  have HLN := Lib.hid hlen.1
  have HN0 := Lib.hid hN.2.1
  have HLB := Lib.hid hlen.2
  have HLY := Lib.hid (show y.raw.length ≤ 1099511627776 by omega)
  have hbd := Gm.bounds_of P4.out.arr.ok
  have hrb : c.prow ≤ 1000000 := by
   have : g.b.toNat * g.s.toNat ≤ 256 * 64 := Nat.mul_le_mul (by omega) (by omega)
   omega
  have hrgb : c.rung ≤ 1000000 := by have := HF.out.rg; omega
  have HGB := Lib.hid (show ∀ x ∈ grp s.turns ((c.prow : Int), (c.rung : Int)), -9223372036854775808 ≤ x ∧ x ≤ 9223372036854775807 from fun x hx => by
   have h1 := HS.out.ok.turns.all _ (grp_mem hx)
   have h2 := P4.out.arr.low
   unfold Tn.ok at h1
   simp only at h1
   omega)
  have HGL := Lib.hid (show (grp s.turns ((c.prow : Int), (c.rung : Int))).length ≤ 1099511627776 from by
   have h1 := grp_len s.turns ((c.prow : Int), (c.rung : Int))
   have h2 := HS.out.short.turns
   omega)
  have HTU := Lib.hid (fun W (ht : Tel W m1.t m1.lo m1.hi s ((c.pf0 g s).bz : Int) ((c.pf0 g s).wk : Int)) => Turns_any m1.t m1.lo m1.hi s _ _ (c.prow : Int) (c.rung : Int) W ht HS.out.short HS.out.ok P4.out.arr.low (by unfold in64; omega) (by unfold in64; omega))
  have HNP := Lib.hid (show p ≠ w.heap.size from fun e => HNO.out (.inl e.symm))
  have REG0 := Lib.hid (show CRow w4 p 72 ((chCells g (c.pf0 g s) m1).setIfInBounds 5 (.slice m1.aR (c.pf0 g s).reg.length m1.cR)) by
   have e : (chCells g (c.pf0 g s) m1).setIfInBounds 5 (.slice m1.aR (c.pf0 g s).reg.length m1.cR) = chCells g (c.pf0 g s) m1 := by simp [chCells]
   rw [e]
   exact C4.out)
  clear hr hrow hy hlen hN hbd
  go_wp2
  refine wp_region_noPanic ?_
  refine wp_region_held_drew (S := fun w' => ∃ v, CRow w' p 72 ((chCells g (c.pf0 g s) m1).setIfInBounds 5 v) ∧ CRow w' w.heap.size 63 #[.bool true, .int .i64 (c.prow : Int), .slice zP c.progs.length m.cP, .slice zE c.blocks.length m.cE]) (by kernel_rfl) ⟨_, REG0.out.drew, Z4.out.drew⟩ (fun C0 => ?_)
  refine tkH4 0 C0 ?_
  refine tkH4 1 C0 ?_
  refine tkH4 2 C0 ?_
  refine tkH4 3 C0 ?_
  refine tkH4 5 C0 ?_
  refine tkH4 8 C0 ?_
  refine tkH4 9 C0 ?_
  refine tkH4 10 C0 ?_
  refine tkH4 12 C0 ?_
  refine tkH4 14 C0 ?_
  refine tkH4 15 C0 ?_
  refine tkH4 16 C0 ?_
  refine tkH4 17 C0 ?_
  refine tkH4 4 C0 ?_ (hy := fun W' hSw => by obtain ⟨v9, hS1, hS2⟩ := id hSw; have y27 := hS1.cell_at 27 (.pointer (some ⟨m1.ap, 0, none⟩)) (by simp [chCells]); clear hS1 hS2; clear hSw; go_simp <;> with_reducible rfl)
  refine tkH4 11 C0 ?_ (hy := fun W' hSw => by obtain ⟨v9, hS1, hS2⟩ := id hSw; have y26 := hS1.cell_at 26 (.pointer (some ⟨m1.t, 0, none⟩)) (by simp [chCells]); clear hS1 hS2; clear hSw; go_simp <;> with_reducible rfl)
  refine tkH4 18 C0 ?_ (hy := fun W' hSw => by obtain ⟨v9, hS1, hS2⟩ := id hSw; have y3 : W'.cell? ⟨p, 3, none⟩ = some (.int .i64 (c.rung : Int)) := (by rw [← HRG.out]; exact hS1.cell_at 3 _ (by simp [chCells])); clear hS1 hS2; clear hSw; go_simp <;> with_reducible rfl)
  refine tkH4 6 C0 ?_ (hy := fun W' hSw => by obtain ⟨v9, hS1, hS2⟩ := id hSw; have z1 := hS2.cell_at 1 _ rfl; clear hS1 hS2; clear hSw; go_simp <;> with_reducible rfl)
  refine tkH4 13 C0 ?_ (hy := fun W' hSw => by obtain ⟨v9, hS1, hS2⟩ := id hSw; have z1 := hS2.cell_at 1 _ rfl; clear hS1 hS2; clear hSw; go_simp <;> with_reducible rfl)
  refine wpAnyH_ready (rs := [7]) (by kernel_rfl) (by simp) ?_
  refine AllReadyH.cons (o := { dst := some 31, op := Op.call { callee := Callee.value (Operand.func 154), args := #[Operand.tmp 28, Operand.tmp 30], argTypes := #[57, 3] }, type := 26, pos := "work.go:128", after := #[{ on := 4, ground := Ground.data }, { on := 6, ground := Ground.data }], guard := none }) rfl (fun K hK => ?_) AllReadyH.nil
  go_simp
  refine (Raw_fresh (P4.out.below ((Below.refl _ _).drew)).arr HY.out).mono ?_
  rintro _ w5 ⟨Ar, cr, rfl, hr, hb, -⟩
  have R5 := Lib.hid hr
  have B5 := Lib.hid (show Below w4.heap.size w4 w5 from ((Below.refl _ _).drew).trans (hb.mono (Nat.le_refl _)))
  have SS5 := Lib.hid (show ∃ v, CRow w5 p 72 ((chCells g (c.pf0 g s) m1).setIfInBounds 5 v) ∧ CRow w5 w.heap.size 63 #[.bool true, .int .i64 (c.prow : Int), .slice zP c.progs.length m.cP, .slice zE c.blocks.length m.cE] from by obtain ⟨v9, h1, h2⟩ := C0; exact ⟨v9, h1.below hb, h2.below hb⟩)
  clear hb hr
  go_wp2_with fail
  refine hK.out _ _ SS5.out (fun C1 => ?_)
  clear hK K
  try simp only [Act.put, zzI, zzO, zzS]
  refine wpAnyH_ready (rs := [19]) (by kernel_rfl) (by simp) ?_
  refine AllReadyH.cons (o := { dst := some 43, op := Op.call { callee := Callee.value (Operand.func 155), args := #[Operand.tmp 35, Operand.tmp 37, Operand.tmp 42], argTypes := #[54, 3, 3] }, type := 24, pos := "work.go:128", after := #[{ on := 11, ground := Ground.data }, { on := 13, ground := Ground.data }, { on := 18, ground := Ground.data }, { on := 7, ground := Ground.chain }], guard := none }) rfl (fun K hK => ?_) AllReadyH.nil
  go_simp
  refine (HTU.out _ (P4.out.below B5.out).tel).mono ?_
  rintro _ w6 ⟨At, ct, rfl, ho, hb⟩
  have R6 := Lib.hid (R64.own ho HGB.out)
  have RA6 := Lib.hid (R5.out.below hb)
  have B6 := Lib.hid (below_step B5.out hb)
  have SS6 := Lib.hid (show ∃ v, CRow w6 p 72 ((chCells g (c.pf0 g s) m1).setIfInBounds 5 v) ∧ CRow w6 w.heap.size 63 #[.bool true, .int .i64 (c.prow : Int), .slice zP c.progs.length m.cP, .slice zE c.blocks.length m.cE] from by obtain ⟨v9, h1, h2⟩ := C1; exact ⟨v9, h1.below hb, h2.below hb⟩)
  clear hb ho R5
  go_wp2_with fail
  refine hK.out _ _ SS6.out (fun C2 => ?_)
  clear hK K
  try simp only [Act.put, zzI, zzO, zzS]
  refine wpAnyH_ready (rs := [20]) (by kernel_rfl) (by simp) ?_
  refine AllReadyH.cons (o := { dst := some 44, op := Op.call { callee := Callee.value (Operand.func 153), args := #[Operand.tmp 31, Operand.tmp 43], argTypes := #[26, 24] }, type := 26, pos := "work.go:128", after := #[{ on := 7, ground := Ground.data }, { on := 19, ground := Ground.data }, { on := 19, ground := Ground.chain }], guard := none }) rfl (fun K hK => ?_) AllReadyH.nil
  go_simp
  refine (Flip_any Ar At y.raw.length cr (grp s.turns ((c.prow : Int), (c.rung : Int))).length ct y.raw (grp s.turns ((c.prow : Int), (c.rung : Int))) w6 RA6.out R6.out HLY.out HGL.out).mono ?_
  rintro _ w7 ⟨Af, cf, rfl, ho, hb⟩
  have HO7 := Lib.hid ho
  have B7 := Lib.hid (below_step B6.out hb)
  have BW7 := Lib.hid B6.out.size
  have SS7 := Lib.hid (show ∃ v, CRow w7 p 72 ((chCells g (c.pf0 g s) m1).setIfInBounds 5 v) ∧ CRow w7 w.heap.size 63 #[.bool true, .int .i64 (c.prow : Int), .slice zP c.progs.length m.cP, .slice zE c.blocks.length m.cE] from by obtain ⟨v9, h1, h2⟩ := C2; exact ⟨v9, h1.below hb, h2.below hb⟩)
  have C7 := Lib.hid (C4.out.below B7.out)
  have Z7 := Lib.hid (Z4.out.below B7.out)
  clear hb ho R6 RA6
  go_wp2_with fail
  refine hK.out _ _ SS7.out (fun C3 => ?_)
  clear hK K
  try simp only [Act.put, zzI, zzO, zzS]
  refine tkH4 21 C3 ?_
  refine tkH4 22 C3 ?_
  refine tkH4 23 C3 ?_
  refine wpAnyH_ready (rs := [24]) (by kernel_rfl) (by simp) ?_
  refine AllReadyH.cons (o := { dst := none, op := Op.store 26 (Operand.tmp 47) (Operand.tmp 44), type := 0, pos := "work.go:128", after := #[{ on := 23, ground := Ground.data }, { on := 20, ground := Ground.data }, { on := 20, ground := Ground.chain }, { on := 0, ground := Ground.phase }, { on := 1, ground := Ground.phase }, { on := 2, ground := Ground.phase }, { on := 3, ground := Ground.phase }, { on := 4, ground := Ground.phase }, { on := 5, ground := Ground.phase }, { on := 6, ground := Ground.phase }, { on := 7, ground := Ground.phase }, { on := 8, ground := Ground.phase }, { on := 9, ground := Ground.phase }, { on := 10, ground := Ground.phase }, { on := 11, ground := Ground.phase }, { on := 12, ground := Ground.phase }, { on := 13, ground := Ground.phase }, { on := 14, ground := Ground.phase }, { on := 15, ground := Ground.phase }, { on := 16, ground := Ground.phase }, { on := 17, ground := Ground.phase }, { on := 18, ground := Ground.phase }, { on := 19, ground := Ground.phase }, { on := 20, ground := Ground.phase }], guard := none }) rfl (fun K hK => ?_) AllReadyH.nil
  have y5 := C7.out.cell_at 5 _ rfl
  have f5 := C7.out.frozen 5
  go_simp
  refine hK.out _ _ ⟨_, C7.out.setCell 5 _, Z7.out.setCell_other (p := ⟨p, 5, none⟩) (fun e => HNP.out e.symm) _⟩ (fun C4 => ?_)
  clear hK K
  try simp only [Act.put]
  refine wpAnyH_done (by kernel_rfl) ?_ _
  refine NoPanic.normal ?_
  obtain ⟨b7, rfl, hb7, -, hr7⟩ := own_head HO7.out (by rw [flips_length, HLN.out]; have := HN0.out; omega) (flips_lt _ _ HLB.out)
  obtain ⟨cur, hk7⟩ := own_row HO7.out rfl
  have hk7 : CRow w7 b7 5 cur := hk7
  obtain ⟨l7, hl7⟩ : ∃ l7, l7 = flips y.raw (grp s.turns ((c.prow : Int), (c.rung : Int))) := ⟨_, rfl⟩
  have hl8 : l7.length = g.raw.toNat := by rw [hl7, flips_length, HLN.out]
  rw [← hl7] at hr7
  have H1 := Lib.hid (show c.pf1 g s = { c.pf0 g s with reg := l7 } by rw [H1.out, HRAW.out, hl7])
  have hb8 : w4.heap.size ≤ b7 := Nat.le_trans BW7.out hb7
  have P7 := Lib.hid (P4.out.newreg B7.out b7 cf cur _ l7 hb8 hk7 hr7 hl8)
  have P9 := Lib.hid (show Pt (role1 ρ b7 7) (w7.setCell ⟨p, 5, none⟩ (.slice (some ⟨b7, 0, none⟩) l7.length cf)) p g s (c.pf1 g s) { m1 with aR := some ⟨b7, 0, none⟩, cR := cf } by rw [H1.out]; exact P7.out.set 5 _)
  have C9 := Lib.hid (show CRow (w7.setCell ⟨p, 5, none⟩ (.slice (some ⟨b7, 0, none⟩) l7.length cf)) p 72 (chCells g (c.pf1 g s) { m1 with aR := some ⟨b7, 0, none⟩, cR := cf }) by
   have h1 := C7.out.setCell 5 (.slice (some ⟨b7, 0, none⟩) l7.length cf)
   have e : (chCells g (c.pf0 g s) m1).setIfInBounds 5 (.slice (some ⟨b7, 0, none⟩) l7.length cf) = chCells g { c.pf0 g s with reg := l7 } { m1 with aR := some ⟨b7, 0, none⟩, cR := cf } := by simp [chCells]
   rw [e] at h1
   rw [H1.out]
   exact h1)
  have Z9 := Lib.hid (Z7.out.setCell_other (p := ⟨p, 5, none⟩) (fun e => HNP.out e.symm) (.slice (some ⟨b7, 0, none⟩) l7.length cf))
  have X7 := Lib.hid ((Btw.of_below (I := Own4 m p) B7.out).setCell (p := ⟨p, 5, none⟩) (v := .slice (some ⟨b7, 0, none⟩) l7.length cf) (.inl rfl))
  have PD9 := Lib.hid ((PD4.out.btw X7.out (fun j hj => by have := P2.out.own4 j hj; omega)).role (ρ' := role1 ρ b7 7) (fun j hj => if_neg (by have := P4.out.lt j hj; omega)))
  have BI9 := Lib.hid (((Btw.of_below (I := I) N2.out).trans X4.out (fun j _ h => by have h1 := P2.out.own4 j h; exact I0.out.own j (by omega) (by omega))).trans X7.out (fun j _ h => by have h1 := P2.out.own4 j h; exact I0.out.own j (by omega) (by omega)))
  have I9 := Lib.hid ((I0.out.grow (Nat.le_trans N2.out.size X4.out.size)).one (w' := w7.setCell ⟨p, 5, none⟩ (.slice (some ⟨b7, 0, none⟩) l7.length cf)) X7.out.size b7 7 hb8)
  have HNO9 := Lib.hid (show ¬ Own4 { m1 with aR := some ⟨b7, 0, none⟩, cR := cf } p w.heap.size by unfold Own4; simp only; rw [HM1.out.1, HM1.out.2.1, HM1.out.2.2]; exact HNO.out)
  rw [← hl7]
  generalize w7.setCell ⟨p, 5, none⟩ (.slice (some ⟨b7, 0, none⟩) l7.length cf) = w8 at *
  obtain ⟨m3, hm3⟩ : ∃ m3, m3 = { m1 with aR := some ⟨b7, 0, none⟩, cR := cf } := ⟨_, rfl⟩
  obtain ⟨ρ2, hρ2⟩ : ∃ ρ2, ρ2 = role1 ρ b7 7 := ⟨_, rfl⟩
  rw [← hm3] at C9 P9 HNO9
  rw [← hρ2] at P9 PD9 I9
  clear H1 hm3 hρ2 C4 P4 PD4 X4 N2 P0 P2 I0 hb8 hl8 hl7 hr7 hk7 hb7 C7 Z7 Z4 P7 X7 HO7 B7 BW7
  have z2 := Z9.out.cell_at 2 _ rfl
  have BW9 := Lib.hid (Btw.refl (I := Own4 m3 p) w8)
  go_wp2
  go_loopw [51] (fun i wr => ∃ k : Nat, k ≤ c.progs.length ∧ i = .int .i64 (k : Int) ∧ Hid (CRow wr p 72 (chCells g (c.pfP g s k) m3)) ∧ Hid (Pt ρ2 wr p g s (c.pfP g s k) m3) ∧ Hid (Btw (Own4 m3 p) w8 wr)) (fun i _ => c.progs.length - (intOf i).toNat)
  case atStart => exact ⟨0, Nat.zero_le _, rfl, C9, P9, BW9⟩
  case round =>
   obtain ⟨k, hk, rfl, C10, P10, B10⟩ := hrel
   rename World => wr
   clear C9 P9 BW9 z2
   by_cases hlt : k < c.progs.length
   ·
    have PD10 := Lib.hid (PD9.out.btw B10.out (fun j hj => by have := P10.out.own4 j hj; omega))
    obtain ⟨b9, x, hA, hb9, hx, y0, y1⟩ := prog_at PD10.out.pro hlt
    obtain rfl : zP = some ⟨b9, 0, none⟩ := HZP.out.trans hA
    have HX := Lib.hid (show c.progs[k]? = some x.y by
     have h1 := PD10.out.py
     have h2 : (m.lP.map (·.y))[k]? = some x.y := by rw [List.getElem?_map, hx]; rfl
     rw [h1] at h2
     exact h2)
    have HXF := Lib.hid (HF.out.pr _ (List.mem_of_getElem? HX.out))
    have N1 := Lib.hid (below_new wr (.cells #[.int .i64 (x.y.row : Int), .slice x.a x.y.raw.length x.c] 65))
    have HT := Lib.hid (tryProgram_any (c := c.pfP g s k) x.y.row x.a x.y.raw.length x.c x.y.raw HS.out HXF.out.1 (by have h1 := pfP_wk g s c k; have h2 := HF.out.np; have h3 := HW.out; omega) HXF.out.2 ((PD10.out.raws x (List.mem_of_getElem? hx)).1.below N1.out) (PD10.out.raws x (List.mem_of_getElem? hx)).2 (P10.out.below N1.out) (C10.out.below N1.out))
    have d1 : decide ((k : Int) < (c.progs.length : Int)) = true := decide_eq_true (by omega)
    have i0 : (0 : Int) ≤ (k : Int) := by omega
    have i1 : (k : Int) < (c.progs.length : Int) := by omega
    have i2 := HF.out.np
    have hpf := pfP_succ (g := g) (s := s) HX.out
    have HPF := Lib.hid hpf
    obtain ⟨b, hb⟩ : ∃ b, (c.pfP g s k).fails s = b := ⟨_, rfl⟩
    have HBB := Lib.hid hb
    rw [hb] at HT
    clear hA hb9 hx hpf hb
    go_wp2_with fail
    clear y0 y1
    refine HT.out.mono ?_
    rintro _ w5 ⟨rfl, hc, hp1, hb1⟩
    have C5 := Lib.hid hc
    have P5 := Lib.hid (show Pt ρ2 w5 p g s (c.pfP g s (k + 1)) m3 by rw [HPF.out]; exact stepP_pt hp1)
    have B5 := Lib.hid (B10.out.trans ((Btw.of_below (I := Own4 m3 p) N1.out).trans hb1 (fun _ _ h => .inr h)) (fun _ _ h => h))
    clear hc hp1 hb1 HT N1 PD10
    cases b with
    | true =>
     have C6 := Lib.hid (show CRow (w5.setCell ⟨p, 17, none⟩ (.bool true)) p 72 (chCells g (c.pfP g s (k + 1)) m3) by rw [HPF.out]; exact stepP_yes HBB.out C5.out)
     have x17 := C5.out.cell_at 17 (.bool (c.pfP g s k).fail) rfl
     have f17 := C5.out.frozen 17
     have B6 := Lib.hid (B5.out.setCell (p := ⟨p, 17, none⟩) (v := .bool true) (.inl rfl))
     have P6 := Lib.hid (P5.out.set 17 (.bool true))
     go_wp2
     go_roundw
     case rel => exact ⟨k + 1, by omega, by go_num, C6, P6, B6⟩
     case measure => simp [intOf]; omega
    | false =>
     have C6 := Lib.hid (show CRow w5 p 72 (chCells g (c.pfP g s (k + 1)) m3) by rw [HPF.out]; exact stepP_no HBB.out C5.out)
     go_wp2
     go_roundw
     case rel => exact ⟨k + 1, by omega, by go_num, C6, P5, B5⟩
     case measure => simp [intOf]; omega
   ·
    obtain ⟨np, hnp⟩ : ∃ np, np = c.progs.length := ⟨_, rfl⟩
    obtain rfl : k = np := by omega
    have d1 : decide ((k : Int) < (c.progs.length : Int)) = false := decide_eq_false (by omega)
    have d1n : decide (k < c.progs.length) = false := decide_eq_false hlt
    have C11 := Lib.hid (show CRow wr p 72 (chCells g (c.pfE g s 0) m3) by have h1 := C10.out; rw [hnp] at h1; exact h1)
    have P11 := Lib.hid (show Pt ρ2 wr p g s (c.pfE g s 0) m3 by have h1 := P10.out; rw [hnp] at h1; exact h1)
    have z3 := (Z9.out.btw B10.out HNO9.out).cell_at 3 _ rfl
    clear hk hnp C10 P10
    go_wp2
    clear d1 d1n hlt z3
    go_loopw [67] (fun i w' => ∃ q : Nat, q ≤ c.blocks.length ∧ i = .int .i64 (q : Int) ∧ Hid (CRow w' p 72 (chCells g (c.pfE g s q) m3)) ∧ Hid (Pt ρ2 w' p g s (c.pfE g s q) m3) ∧ Hid (Btw (Own4 m3 p) w8 w')) (fun i _ => c.blocks.length - (intOf i).toNat)
    case atStart => exact ⟨0, Nat.zero_le _, rfl, C11, P11, B10⟩
    case round =>
     clear C11 P11 B10
     rename World => wz
     obtain ⟨q, hq, rfl, C10, P10, B10⟩ := hrel
     rename World => wr
     by_cases hlt : q < c.blocks.length
     ·
      obtain ⟨x, hx⟩ : ∃ x, c.blocks[q]? = some x := ⟨_, List.getElem?_eq_getElem hlt⟩
      have HX := Lib.hid hx
      have HXB := Lib.hid (HF.out.bl _ (List.mem_of_getElem? hx))
      have PD10 := Lib.hid (PD9.out.btw B10.out (fun j hj => by have := P10.out.own4 j hj; omega))
      obtain ⟨b9, hA, _, _, y0', _, _⟩ := own_at PD10.out.blk hlt
      obtain rfl : zE = some ⟨b9, 0, none⟩ := HZE.out.trans hA
      have y0 : wr.cell? ⟨b9, q, none⟩ = some (.int .i64 (x : Int)) := by
       rw [y0', I64, IC, List.getElem?_map, List.getElem?_map, hx]
       rfl
      have HT := Lib.hid (tryErase_any (c := c.pfE g s q) x HS.out HXB.out (by have h1 := pfE_wk g s c q; have h2 := HF.out.np; have h4 := HF.out.nb; have h3 := HW.out; omega) P10.out C10.out)
      have d2 : decide ((q : Int) < (c.blocks.length : Int)) = true := decide_eq_true (by omega)
      have i0 : (0 : Int) ≤ (q : Int) := by omega
      have i1 : (q : Int) < (c.blocks.length : Int) := by omega
      have i2 := HF.out.nb
      have HPF := Lib.hid (pfE_succ (g := g) (s := s) HX.out)
      obtain ⟨b, hb⟩ : ∃ b, (c.pfE g s q).fails s = b := ⟨_, rfl⟩
      have HBB := Lib.hid hb
      rw [hb] at HT
      clear hA y0' hx hb
      go_wp2_with fail
      clear y0
      refine HT.out.mono ?_
      rintro _ w5 ⟨rfl, hc, hp1, hb1⟩
      have C5 := Lib.hid hc
      have P5 := Lib.hid (show Pt ρ2 w5 p g s (c.pfE g s (q + 1)) m3 by rw [HPF.out]; exact stepE_pt hp1)
      have B5 := Lib.hid (B10.out.trans hb1 (fun _ _ h => .inr h))
      clear hc hp1 hb1 HT PD10
      cases b with
      | true =>
       have C6 := Lib.hid (show CRow (w5.setCell ⟨p, 17, none⟩ (.bool true)) p 72 (chCells g (c.pfE g s (q + 1)) m3) by rw [HPF.out]; exact stepE_yes HBB.out C5.out)
       have x17 := C5.out.cell_at 17 (.bool (c.pfE g s q).fail) rfl
       have f17 := C5.out.frozen 17
       have B6 := Lib.hid (B5.out.setCell (p := ⟨p, 17, none⟩) (v := .bool true) (.inl rfl))
       have P6 := Lib.hid (P5.out.set 17 (.bool true))
       go_wp2
       go_roundw
       case rel => exact ⟨q + 1, by omega, by go_num, C6, P6, B6⟩
       case measure => simp [intOf]; omega
      | false =>
       have C6 := Lib.hid (show CRow w5 p 72 (chCells g (c.pfE g s (q + 1)) m3) by rw [HPF.out]; exact stepE_no HBB.out C5.out)
       go_wp2
       go_roundw
       case rel => exact ⟨q + 1, by omega, by go_num, C6, P5, B5⟩
       case measure => simp [intOf]; omega
     ·
      obtain ⟨nb, hnb⟩ : ∃ nb, nb = c.blocks.length := ⟨_, rfl⟩
      obtain rfl : q = nb := by omega
      have d2 : decide ((q : Int) < (c.blocks.length : Int)) = false := decide_eq_false (by omega)
      have d2n : decide (q < c.blocks.length) = false := decide_eq_false hlt
      have BX := Lib.hid (BI9.out.trans (J := I) ((Btw.refl (I := I) w8).trans B10.out (fun j _ h => by have := P10.out.own4 j h; exact I9.out.own j (by omega) (by omega))) (fun _ _ h => h))
      clear hq
      go_wp2
      go_end0
      rw [HE.out, ← hnb]
      exact ⟨rfl, ⟨ρ2, m3, C10.out, P10.out, I9.out.grow B10.out.size⟩, BX.out⟩
end
section
variable {g : Gm} {s : Sc} {a c : Ch}
theorem stepP_fit {x : Pr} (h : a.fit g) : (stepP g s a x).fit g := { h with }
theorem stepE_fit {x : Nat} (h : a.fit g) : (stepE g s a x).fit g := { h with }
theorem foldP_fit : ∀ (l : List Pr) {a : Ch}, a.fit g → (l.foldl (stepP g s) a).fit g
 | [], _, h => h
 | _ :: l, _, h => foldP_fit l (stepP_fit h)
theorem foldE_fit : ∀ (l : List Nat) {a : Ch}, a.fit g → (l.foldl (stepE g s) a).fit g
 | [], _, h => h
 | _ :: l, _, h => foldE_fit l (stepE_fit h)
theorem pBehind_fit (h : c.fit g) : (c.pBehind g s).fit g := by
 unfold Ch.pBehind
 split
 ·
  exact { h with bro := fun e => (by cases e), pl := Nat.zero_le _ }
 ·
  exact h
theorem pf1_fit (h : c.fit g) : (c.pf1 g s).fit g := by
 have h0 : (c.pf0 g s).fit g := pBehind_fit h.unpend
 unfold Ch.pf1
 split
 ·
  exact { h0 with }
 ·
  exact h0
theorem perform_fit (h : c.fit g) : (c.perform g s).fit g := by
 unfold Ch.perform
 split
 ·
  exact foldE_fit _ (foldP_fit _ (pf1_fit h))
 ·
  exact h
theorem perform_wk (g : Gm) (s : Sc) (c : Ch) : (c.perform g s).wk ≤ c.wk + 1 + c.progs.length + c.blocks.length := by
 unfold Ch.perform
 split
 ·
  exact pfE_wk g s c _
 ·
  omega
end
def Ch.pv (c : Ch) : Int := if c.prev then 2 else 0
def Ch.fl (c : Ch) : Int := if c.fail then 1 else 0
def Ch.poll (g : Gm) (s : Sc) (c : Ch) : Int × Ch :=
 if 0 < c.busy then (128, { c with busy := c.busy - 1 })
 else if 0 < (c.perform g s).polls then (192 + (c.perform g s).pv, { c.perform g s with polls := (c.perform g s).polls - 1 })
 else (224 + ((c.perform g s).pBehind g s).fl + ((c.perform g s).pBehind g s).pv, (c.perform g s).pBehind g s)
section
variable {I : Nat → Prop} {w : World} {p : Nat} {g : Gm} {s : Sc} {c : Ch}
def Acts (I : Nat → Prop) (p : Nat) (g : Gm) (s : Sc) (v : Value) (c' : Ch) (w : World) (e : Ending) (w' : World) : Prop := e = .returned v ∧ CH I w' p g s c' ∧ Btw I w w'
theorem performBehind_ch (hs : SG g s) (hf : c.fit g) (hw : c.wk ≤ 1099511627776) (h : CH I w p g s c) : Calls Tryz.prog 137 #[.pointer (some ⟨p, 0, none⟩)] w (Acts I p g s (.tuple #[]) (c.pBehind g s) w) := by
 obtain ⟨ρ, m, hc, hp, hi⟩ := h
 refine (performBehind_any hs hf hw hp hc).mono ?_
 rintro _ w1 ⟨rfl, h1, h2, hb⟩
 have hB : Btw I w w1 := (Btw.refl w).trans hb (fun j _ h => by have := hp.own4 j h; exact hi.own j (by omega) (by omega))
 exact ⟨rfl, ⟨ρ, _, h1, h2, hi.grow hb.size⟩, hB⟩
theorem previousBit_ch (h : CH I w p g s c) : Calls Tryz.prog 136 #[.pointer (some ⟨p, 0, none⟩)] w (Gives (.int .u8 c.pv) w) := by
 obtain ⟨ρ, m, hc, -⟩ := h
 exact previousBit_any hc
theorem failBit_ch (h : CH I w p g s c) : Calls Tryz.prog 138 #[.pointer (some ⟨p, 0, none⟩)] w (Gives (.int .u8 c.fl) w) := by
 obtain ⟨ρ, m, hc, -⟩ := h
 exact failBit_any hc
theorem pv_or (c : Ch) : c.pv = 0 ∨ c.pv = 2 := by unfold Ch.pv; split <;> simp
theorem fl_or (c : Ch) : c.fl = 0 ∨ c.fl = 1 := by unfold Ch.fl; split <;> simp
set_option maxHeartbeats 4000000 in
theorem poll_any (hs : SG g s) (hf : c.fit g) (hw : c.wk ≤ 1099511626000) (h : CH I w p g s c) : Calls Tryz.prog 112 #[.pointer (some ⟨p, 0, none⟩)] w (Acts I p g s (.int .u8 (c.poll g s).1) (c.poll g s).2 w) := by
 have HS := Lib.hid hs
 have HF := Lib.hid hf
 have H0 := Lib.hid h
 have HW := Lib.hid hw
 obtain ⟨z, hz⟩ : ∃ z, z = c.busy := ⟨_, rfl⟩
 have HZ := Lib.hid hz
 have x6 : w.cell? ⟨p, 6, none⟩ = some (.int .i64 (z : Int)) := by
  obtain ⟨ρ, m, hc, -⟩ := h
  rw [hz]
  exact hc.cell_at 6 _ rfl
 have hz2 : z ≤ 65536 := by rw [hz]; exact hf.bs
 clear h hw hf hs hz
 by_cases hb : 0 < z
 ·
  have d1 : decide ((0 : Int) < (z : Int)) = true := decide_eq_true (by omega)
  have d1n : decide (0 < z) = true := decide_eq_true hb
  have wz : IntKind.i64.wrap ((z : Int) - 1) = (z : Int) - 1 := IntWalk.i64_in _ (by omega)
  have HE := Lib.hid (show c.poll g s = (128, { c with busy := c.busy - 1 }) by unfold Ch.poll; rw [if_pos (HZ.out ▸ hb)])
  have HB := Lib.hid hb
  obtain ⟨ρ, m, hc, hp, hi⟩ := H0.out
  have C0 := Lib.hid hc
  have P0 := Lib.hid hp
  have I0 := Lib.hid hi
  have f6 := hc.frozen 6
  clear hc hp hi hb
  go_enter Tryz.func112, Tryz.ntmps112
  go_wp2
  go_ret
  rw [HE.out]
  have H1 := CH.of (I := I) (c' := { c with busy := c.busy - 1 }) (w' := w.setCell ⟨p, 6, none⟩ (.int .i64 ((z : Int) - 1))) (m := m) (by
   have h0 := C0.out.setCell 6 (.int .i64 ((z : Int) - 1))
   have e : (chCells g c m).setIfInBounds 6 (.int .i64 ((z : Int) - 1)) = chCells g { c with busy := c.busy - 1 } m := by
    have := HZ.out
    have := HB.out
    have e1 : ((z : Int) - 1) = ((c.busy - 1 : Nat) : Int) := by omega
    rw [e1]
    simp [chCells]
   rw [e] at h0
   exact h0) P0.out I0.out ((Btw.refl w).setCell (p := ⟨p, 6, none⟩) rfl) fun W h => { h with }
  exact ⟨rfl, H1.1, H1.2⟩
 ·
  have d1 : decide ((0 : Int) < (z : Int)) = false := decide_eq_false (by omega)
  have d1n : decide (0 < z) = false := decide_eq_false hb
  have HN := Lib.hid (show ¬ 0 < c.busy from HZ.out ▸ hb)
  have HPF := Lib.hid (perform_any HS.out HF.out (by have := HW.out; omega) H0.out)
  clear hb
  go_enter Tryz.func112, Tryz.ntmps112
  go_wp2_with fail
  clear x6
  refine HPF.out.mono ?_
  rintro _ w1 ⟨rfl, hc, hb⟩
  obtain ⟨c1, hc1⟩ : ∃ c1, c1 = c.perform g s := ⟨_, rfl⟩
  rw [← hc1] at hc
  have HC1 := Lib.hid hc1
  have H1 := Lib.hid hc
  have B1 := Lib.hid hb
  have F1 := Lib.hid (show c1.fit g from hc1 ▸ perform_fit HF.out)
  have W1 := Lib.hid (show c1.wk ≤ 1099511627776 by
   have h1 := perform_wk g s c
   have h2 := HF.out.np
   have h3 := HF.out.nb
   have h4 := HW.out
   rw [hc1]
   omega)
  clear hc hb HPF hc1
  obtain ⟨y, hy⟩ : ∃ y, y = c1.polls := ⟨_, rfl⟩
  have HY := Lib.hid hy
  have x14 : w1.cell? ⟨p, 14, none⟩ = some (.int .i64 (y : Int)) := by
   obtain ⟨ρ, m, hc, -⟩ := H1.out
   rw [hy]
   exact hc.cell_at 14 _ rfl
  have hy2 : y ≤ 65536 := by rw [hy]; exact F1.out.pl
  clear hy
  by_cases hq : 0 < y
  ·
   have d2 : decide ((0 : Int) < (y : Int)) = true := decide_eq_true (by omega)
   have d2n : decide (0 < y) = true := decide_eq_true hq
   have wy : IntKind.i64.wrap ((y : Int) - 1) = (y : Int) - 1 := IntWalk.i64_in _ (by omega)
   have HE := Lib.hid (show c.poll g s = (192 + c1.pv, { c1 with polls := c1.polls - 1 }) by unfold Ch.poll; rw [if_neg HN.out, ← HC1.out, if_pos (HY.out ▸ hq)])
   have HQ := Lib.hid hq
   obtain ⟨ρ, m, hc, hp, hi⟩ := H1.out
   have C0 := Lib.hid hc
   have P0 := Lib.hid hp
   have I0 := Lib.hid hi
   have f14 := hc.frozen 14
   clear hc hp hi hq
   have H2 := Lib.hid (CH.of (I := I) (c' := { c1 with polls := c1.polls - 1 }) (w' := w1.setCell ⟨p, 14, none⟩ (.int .i64 ((y : Int) - 1))) (m := m) (by
    have h0 := C0.out.setCell 14 (.int .i64 ((y : Int) - 1))
    have e : (chCells g c1 m).setIfInBounds 14 (.int .i64 ((y : Int) - 1)) = chCells g { c1 with polls := c1.polls - 1 } m := by
     have := HY.out
     have := HQ.out
     have e1 : ((y : Int) - 1) = ((c1.polls - 1 : Nat) : Int) := by omega
     rw [e1]
     simp [chCells]
    rw [e] at h0
    exact h0) P0.out I0.out ((Btw.refl w1).setCell (p := ⟨p, 14, none⟩) rfl) fun W h => { h with })
   have HPB := Lib.hid (previousBit_ch H2.out.1)
   have hpv := pv_or c1
   have HPV := Lib.hid (show ({ c1 with polls := c1.polls - 1 } : Ch).pv = c1.pv from rfl)
   rw [HPV.out] at HPB
   generalize c1.pv = v at HPB hpv HE
   have wv : IntKind.u8.wrap (192 + v) = 192 + v := by rcases hpv with rfl | rfl <;> rfl
   clear HPV
   go_wp2_with fail
   refine HPB.out.mono ?_
   rintro _ w2 ⟨rfl, hb⟩
   have H3 := Lib.hid (H2.out.1.below hb)
   have B3 := Lib.hid ((B1.out.trans H2.out.2 (fun _ _ h => h)).trans (Btw.of_below (I := I) hb) (fun _ _ h => h))
   clear hb x14 f14
   go_wp2
   go_ret
   rw [HE.out]
   exact ⟨by first | rfl | (rcases hpv with rfl | rfl <;> rfl), H3.out, B3.out⟩
  ·
   have d2 : decide ((0 : Int) < (y : Int)) = false := decide_eq_false (by omega)
   have d2n : decide (0 < y) = false := decide_eq_false hq
   have HE := Lib.hid (show c.poll g s = (224 + (c1.pBehind g s).fl + (c1.pBehind g s).pv, c1.pBehind g s) by unfold Ch.poll; rw [if_neg HN.out, ← HC1.out, if_neg (HY.out ▸ hq)])
   have HPB := Lib.hid (performBehind_ch HS.out F1.out W1.out H1.out)
   generalize c1.pBehind g s = c2 at HE HPB
   clear hq
   go_wp2_with fail
   clear x14
   refine HPB.out.mono ?_
   rintro _ w2 ⟨rfl, hc, hb⟩
   have H2 := Lib.hid hc
   have B2 := Lib.hid (B1.out.trans hb (fun _ _ h => h))
   clear hc hb HPB
   have hpv := pv_or c2
   have hfl := fl_or c2
   have HFB := Lib.hid (fun W (h : CH I W p g s c2) => failBit_ch h)
   have HPV := Lib.hid (fun W (h : CH I W p g s c2) => previousBit_ch h)
   generalize c2.pv = v at HPV hpv HE
   generalize c2.fl = f at HFB hfl HE
   go_wp2_with fail
   refine (HFB.out _ H2.out).mono ?_
   rintro _ w3 ⟨rfl, hb⟩
   have H3 := Lib.hid (H2.out.below hb)
   have B3 := Lib.hid (B2.out.trans (Btw.of_below (I := I) hb) (fun _ _ h => h))
   clear hb H2 B2
   have wf : IntKind.u8.wrap (224 + f) = 224 + f := by rcases hfl with rfl | rfl <;> rfl
   have wv : IntKind.u8.wrap (224 + f + v) = 224 + f + v := by rcases hfl with rfl | rfl <;> rcases hpv with rfl | rfl <;> rfl
   go_wp2_with fail
   refine (HPV.out _ H3.out).mono ?_
   rintro _ w4 ⟨rfl, hb⟩
   have H4 := Lib.hid (H3.out.below hb)
   have B4 := Lib.hid (B3.out.trans (Btw.of_below (I := I) hb) (fun _ _ h => h))
   clear hb H3 B3
   go_wp2
   go_ret
   rw [HE.out]
   exact ⟨by first | rfl | (rcases hfl with rfl | rfl <;> rcases hpv with rfl | rfl <;> rfl), H4.out, B4.out⟩
end
end Go.Proofs.YtmbgoopkpfhamaaGreat
