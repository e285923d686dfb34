/-
  The walk of IdentChecks.
-/
import Derived.Test.YtmbgoopkpfhamaaGreatTk
import Derived.Test.YtmbgoopkpfhamaaGreatTkB
import Derived.OrdersHeld
import Derived.Deep.RegionHeld3
import Derived.Test.YtmbgoopkpfhamaaGreatIdentChecksJ24
import Derived.Test.YtmbgoopkpfhamaaGreatIdentChecksJ8
import Derived.Test.YtmbgoopkpfhamaaGreatIdentChecksJ6
import Derived.Test.YtmbgoopkpfhamaaGreatIdentChecksJ10
import Derived.Test.YtmbgoopkpfhamaaGreatIdentChecksJ18
import Derived.Test.YtmbgoopkpfhamaaGreatIdentChecksJArAw
namespace Go.Proofs.YtmbgoopkpfhamaaGreat
open Go.RowKit
set_option maxRecDepth 100000
def zZGc0 : Oper := { dst := some 169, op := Op.call { callee := Callee.value (Operand.func 15), args := #[Operand.tmp 168], argTypes := #[38] }, type := 49, pos := "law.go:91", after := #[{ on := 1, ground := Ground.data }], guard := none }
def zZGc1 : Oper := { dst := some 170, op := Op.call { callee := Callee.value (Operand.func 14), args := #[Operand.tmp 167, Operand.tmp 169], argTypes := #[23, 49] }, type := 47, pos := "law.go:91", after := #[{ on := 0, ground := Ground.data }, { on := 2, ground := Ground.data }, { on := 2, ground := Ground.chain }], guard := none }
theorem Al.new {g : Gm} {s : Sc} (h : s.cut = -1) : Al (Ch.new g s) := ⟨rfl, h⟩
theorem nameB_two {g : Gm} (h : g.ok = true) : (((g.p % 256).toNat : Nat) : Int) = g.p := by
 have := (Gm.bounds_of h).1
 omega
set_option maxHeartbeats 64000000 in
theorem IdentChecks_walk (g o : Gm) (m : Sa) (s : Sc) (bud : Int) (w : World) (h : SIn w m s) (hb : -9223372036854775808 ≤ bud ∧ bud ≤ 9223372036854775807) :
  Calls Tryz.prog 3 #[g.val, o.val, .agg #[.slice m.a1 s.busy.length m.c1, .slice m.a2 s.fails.length m.c2, .slice m.a3 s.turns.length m.c3, .int .i64 s.cut, .slice m.a4 s.torn.length m.c4, .slice m.a5 s.marked.length m.c5, .int .i64 bud]] w (Gives (.bool true) w) := by
 have HI := Lib.hid h
 have HBU := Lib.hid hb
 obtain ⟨W3, hW3⟩ : ∃ W3, W3 = ((w.alloc (.cells #[.int .i64 g.p, .int .i64 g.b, .int .i64 g.s, .int .i64 g.c, .int .i64 g.k, .int .i64 g.r, .int .i64 g.q] 23)).alloc (.cells #[.int .i64 o.p, .int .i64 o.b, .int .i64 o.s, .int .i64 o.c, .int .i64 o.k, .int .i64 o.r, .int .i64 o.q] 23)).alloc (.cells #[.slice m.a1 s.busy.length m.c1, .slice m.a2 s.fails.length m.c2, .slice m.a3 s.turns.length m.c3, .int .i64 s.cut, .slice m.a4 s.torn.length m.c4, .slice m.a5 s.marked.length m.c5, .int .i64 bud] 30) := ⟨_, rfl⟩
 have s1 : (w.alloc (.cells #[.int .i64 g.p, .int .i64 g.b, .int .i64 g.s, .int .i64 g.c, .int .i64 g.k, .int .i64 g.r, .int .i64 g.q] 23)).heap.size = w.heap.size + 1 := by simp
 have s2 : ((w.alloc (.cells #[.int .i64 g.p, .int .i64 g.b, .int .i64 g.s, .int .i64 g.c, .int .i64 g.k, .int .i64 g.r, .int .i64 g.q] 23)).alloc (.cells #[.int .i64 o.p, .int .i64 o.b, .int .i64 o.s, .int .i64 o.c, .int .i64 o.k, .int .i64 o.r, .int .i64 o.q] 23)).heap.size = w.heap.size + 2 := by simp
 have GG := Lib.hid (show CRow W3 w.heap.size 23 #[.int .i64 g.p, .int .i64 g.b, .int .i64 g.s, .int .i64 g.c, .int .i64 g.k, .int .i64 g.r, .int .i64 g.q] by rw [hW3]; exact ((CRow.new w _ _).alloc _).alloc _)
 have GO := Lib.hid (show CRow W3 (w.heap.size + 1) 23 #[.int .i64 o.p, .int .i64 o.b, .int .i64 o.s, .int .i64 o.c, .int .i64 o.k, .int .i64 o.r, .int .i64 o.q] by rw [hW3, ← s1]; exact (CRow.new _ _ _).alloc _)
 have GC := Lib.hid (show CRow W3 (w.heap.size + 2) 30 #[.slice m.a1 s.busy.length m.c1, .slice m.a2 s.fails.length m.c2, .slice m.a3 s.turns.length m.c3, .int .i64 s.cut, .slice m.a4 s.torn.length m.c4, .slice m.a5 s.marked.length m.c5, .int .i64 bud] by rw [hW3, ← s2]; exact CRow.new _ _ _)
 have B0 := Lib.hid (show Below w.heap.size w W3 by rw [hW3]; exact ((below_new w _).alloc (by omega) _).alloc (by omega) _)
 have HW3 := Lib.hid hW3.symm
 clear h hb hW3 s1 s2
 simp only [Gm.val]
 go_enter Tryz.func3, Tryz.ntmps3
 go_wp2_with fail
 refine (awake18_any _).mono ?_
 rintro _ w1 ⟨rfl, h1⟩
 rw [HW3.out] at h1
 clear HW3
 have B1 := Lib.hid (below_step B0.out h1)
 have GG1 := Lib.hid (GG.out.below h1)
 have GO1 := Lib.hid (GO.out.below h1)
 have GC1 := Lib.hid (GC.out.below h1)
 clear h1 B0 GG GO GC
 obtain ⟨v, hv, hS⟩ := Small13_any g w1
 have HSM := Lib.hid hS
 have HSV := Lib.hid hv
 simp only [Gm.val] at HSM
 clear hS hv
 have x0 := GG1.out.cell_at 0 (.int .i64 g.p) rfl
 have x1 := GG1.out.cell_at 1 (.int .i64 g.b) rfl
 have x2 := GG1.out.cell_at 2 (.int .i64 g.s) rfl
 have x3 := GG1.out.cell_at 3 (.int .i64 g.c) rfl
 have x4 := GG1.out.cell_at 4 (.int .i64 g.k) rfl
 have x5 := GG1.out.cell_at 5 (.int .i64 g.r) rfl
 have x6 := GG1.out.cell_at 6 (.int .i64 g.q) rfl
 go_wp2_with fail
 refine HSM.out.mono ?_
 rintro _ w2 ⟨rfl, h2⟩
 have B2 := Lib.hid (below_step B1.out h2)
 have GG2 := Lib.hid (GG1.out.below h2)
 have GO2 := Lib.hid (GO1.out.below h2)
 have GC2 := Lib.hid (GC1.out.below h2)
 clear h2 B1 GG1 GO1 GC1 HSM
 clear x0 x1 x2 x3 x4 x5 x6
 cases v
 ·
  clear HSV
  go_wp2
  go_ret
  exact ⟨rfl, B2.out⟩
 have HSW := Lib.hid (HSV.out.1 rfl)
 clear HSV
 have z0 := GC2.out.cell_at 0 (.slice m.a1 s.busy.length m.c1) rfl
 have z1 := GC2.out.cell_at 1 (.slice m.a2 s.fails.length m.c2) rfl
 have z2 := GC2.out.cell_at 2 (.slice m.a3 s.turns.length m.c3) rfl
 have z3 := GC2.out.cell_at 3 (.int .i64 s.cut) rfl
 have z4 := GC2.out.cell_at 4 (.slice m.a4 s.torn.length m.c4) rfl
 have z5 := GC2.out.cell_at 5 (.slice m.a5 s.marked.length m.c5) rfl
 have z6 := GC2.out.cell_at 6 (.int .i64 bud) rfl
 have HFW := Lib.hid (Few_any m s w2)
 simp only [Sa.cells] at HFW
 go_wp2_with fail
 refine HFW.out.mono ?_
 rintro _ w3 ⟨v, rfl, hv, h3⟩
 have B3 := Lib.hid (below_step B2.out h3)
 have GG3 := Lib.hid (GG2.out.below h3)
 have GO3 := Lib.hid (GO2.out.below h3)
 have GC3 := Lib.hid (GC2.out.below h3)
 have HFV := Lib.hid hv
 clear h3 hv B2 GG2 GO2 GC2 HFW
 clear z0 z1 z2 z3 z4 z5 z6
 cases v
 ·
  clear HFV
  go_wp2
  go_ret
  exact ⟨rfl, B3.out⟩
 have HF := Lib.hid (HFV.out.1 rfl)
 clear HFV
 have z0 := GC3.out.cell_at 0 (.slice m.a1 s.busy.length m.c1) rfl
 have z1 := GC3.out.cell_at 1 (.slice m.a2 s.fails.length m.c2) rfl
 have z2 := GC3.out.cell_at 2 (.slice m.a3 s.turns.length m.c3) rfl
 have z3 := GC3.out.cell_at 3 (.int .i64 s.cut) rfl
 have z4 := GC3.out.cell_at 4 (.slice m.a4 s.torn.length m.c4) rfl
 have z5 := GC3.out.cell_at 5 (.slice m.a5 s.marked.length m.c5) rfl
 have z6 := GC3.out.cell_at 6 (.int .i64 bud) rfl
 have x0 := GG3.out.cell_at 0 (.int .i64 g.p) rfl
 have x1 := GG3.out.cell_at 1 (.int .i64 g.b) rfl
 have x2 := GG3.out.cell_at 2 (.int .i64 g.s) rfl
 have x3 := GG3.out.cell_at 3 (.int .i64 g.c) rfl
 have x4 := GG3.out.cell_at 4 (.int .i64 g.k) rfl
 have x5 := GG3.out.cell_at 5 (.int .i64 g.r) rfl
 have x6 := GG3.out.cell_at 6 (.int .i64 g.q) rfl
 by_cases h300 : 300 < bud
 ·
  have d1 : decide (300 < bud) = true := decide_eq_true h300
  go_wp2
  go_ret
  exact ⟨rfl, B3.out⟩
 have d1 : decide (300 < bud) = false := decide_eq_false h300
 by_cases hok : g.ok = true
 rotate_left
 ·
  have HNB := Lib.hid (ChipNew_bad g (by simpa using hok) m s w3)
  simp only [Gm.val, Sa.val, Sa.cells] at HNB
  go_wp2_with fail
  refine HNB.out.mono ?_
  rintro _ w4 ⟨rfl, h4⟩
  have B4 := Lib.hid (below_step B3.out h4)
  clear h4 HNB x0 x1 x2 x3 x4 x5 x6 z0 z1 z2 z3 z4 z5 z6
  go_wp2
  go_ret
  exact ⟨rfl, B4.out⟩
 have HOK := Lib.hid hok
 have HN := Lib.hid (ChipNew_any g hok (raw_small hok HSW.out) m s w3 (HI.out.below B3.out) HF.out.short)
 simp only [Gm.val, Sa.val, Sa.cells] at HN
 go_wp2_with fail
 refine HN.out.mono ?_
 clear x0 x1 x2 x3 x4 x5 x6 z0 z1 z2 z3 z4 z5 z6
 rintro _ w4 (⟨hso, p5, rfl, h4, i4⟩ | ⟨_, rfl, h4⟩)
 rotate_left
 ·
  have B4 := Lib.hid (below_step B3.out h4)
  clear h4 HN
  go_wp2
  go_ret
  exact ⟨rfl, B4.out⟩
 have HSG := Lib.hid (show SG g s from ⟨HF.out.short, hso, HI.out.torn.2⟩)
 have HCUT := Lib.hid hso.cut
 have I4 := Lib.hid i4
 have HIN := Lib.hid (show w.heap.size + 2 < w3.heap.size from GC3.out.lt)
 have B4 := Lib.hid (below_step B3.out h4)
 have GG4 := Lib.hid (GG3.out.below h4)
 have GO4 := Lib.hid (GO3.out.below h4)
 have GC4 := Lib.hid (GC3.out.below h4)
 clear hso i4 h4 hok HN B3 GG3 GO3 GC3
 have HWN := Lib.hid (WNew_any I4.out)
 go_wp2_with fail
 refine HWN.out.mono ?_
 rintro _ w5 ⟨q, r, rfl, h5, i5⟩
 obtain ⟨I, hI⟩ : ∃ I, I = fun j => w3.heap.size ≤ j := ⟨_, rfl⟩
 rw [← hI] at i5
 have E5 := Lib.hid (show Ie w g o m s bud I q p5 r (Ch.new g s) [] 0 0 w5 from ⟨i5, fun _ => Okc.new HOK.out HCUT.out, GG4.out.below h5, GO4.out.below h5, GC4.out.below h5, below_step B4.out h5, fun j hj => by rw [hI] at hj; exact Nat.lt_of_lt_of_le HIN.out hj⟩)
 clear h5 i5 hI I4 HWN B4 GG4 GO4 GC4 HIN
 have z0 := E5.out.rc.cell_at 0 (.slice m.a1 s.busy.length m.c1) rfl
 have z1 := E5.out.rc.cell_at 1 (.slice m.a2 s.fails.length m.c2) rfl
 have z2 := E5.out.rc.cell_at 2 (.slice m.a3 s.turns.length m.c3) rfl
 have z3 := E5.out.rc.cell_at 3 (.int .i64 s.cut) rfl
 have z4 := E5.out.rc.cell_at 4 (.slice m.a4 s.torn.length m.c4) rfl
 have z5 := E5.out.rc.cell_at 5 (.slice m.a5 s.marked.length m.c5) rfl
 have z6 := E5.out.rc.cell_at 6 (.int .i64 bud) rfl
 by_cases hb1 : bud < 1
 ·
  skip
  have HRN := Lib.hid (fun W => Reset_no (some ⟨q, 0, none⟩) bud (by omega) W)
  go_wp2_with fail
  refine (HRN.out _).mono ?_
  rintro _ wnow ⟨rfl, h⟩
  have E6 := Lib.hid (E5.out.below h)
  clear h HRN E5 z0 z1 z2 z3 z4 z5 z6
  obtain ⟨L0, hL0⟩ : ∃ L0 : List Cy, L0 = [] := ⟨_, rfl⟩
  have HLG := Lib.hid (show Lg g Jd.new L0 by rw [hL0]; trivial)
  have HLL := Lib.hid (show L0.length ≤ 3000 by rw [hL0]; simp)
  rw [← hL0] at E6
  clear hL0 hb1 h300 d1
  go_wp2
  refine wp_region_noPanic ?_
  refine wp_region_held_drew (S := fun w' => Below wnow.heap.size wnow w') (by kernel_rfl) ((Below.refl _ _).drew) (fun C0 => ?_)
  refine tkH4 0 C0 ?_ (hy := fun W' hSw => by have E99 := E6.out.below hSw; have x0 := E99.rg.cell_at 0 (.int .i64 g.p) rfl; have x1 := E99.rg.cell_at 1 (.int .i64 g.b) rfl; have x2 := E99.rg.cell_at 2 (.int .i64 g.s) rfl; have x3 := E99.rg.cell_at 3 (.int .i64 g.c) rfl; have x4 := E99.rg.cell_at 4 (.int .i64 g.k) rfl; have x5 := E99.rg.cell_at 5 (.int .i64 g.r) rfl; have x6 := E99.rg.cell_at 6 (.int .i64 g.q) rfl; clear E99; clear hSw; go_simp <;> with_reducible rfl)
  refine tkH4 1 C0 ?_
  refine wpAnyH_ready (rs := [2]) (by kernel_rfl) (by simp) ?_
  refine AllReadyH.cons (o := zZGc0) rfl (fun K hK => ?_) AllReadyH.nil
  dsimp only [zZGc0]
  go_simp
  refine (ie_trace (by have := HLL.out; omega) (E6.out.1.below C0)).mono ?_
  rintro _ v1 ⟨A1, c4, rfl, r4, hB⟩
  have RT := Lib.hid r4
  clear r4
  go_wp2_with fail
  refine hK.out _ _ (C0.trans (hB.mono C0.size)) (fun C1 => ?_)
  clear hK K hB
  try simp only [Act.put, zzI, zzO, zzS]
  refine wpAnyH_ready (rs := [3]) (by kernel_rfl) (by simp) ?_
  refine AllReadyH.cons (o := zZGc1) rfl (fun K hK => ?_) AllReadyH.nil
  dsimp only [zZGc1]
  go_simp
  refine (run_all (c4 := c4) HOK.out HLG.out (by have := HLL.out; omega) RT.out).mono ?_
  rintro _ v2 ⟨rfl, hB⟩
  go_wp2_with fail
  refine hK.out _ _ (C1.trans (hB.mono C1.size)) (fun C2 => ?_)
  clear hK K hB
  try simp only [Act.put, zzI, zzO, zzS]
  refine tkH4 4 C2 ?_
  refine tkH4 5 C2 ?_
  refine tkH4 6 C2 ?_
  refine tkH4 7 C2 ?_
  refine tkH4 8 C2 ?_
  refine wpAnyH_done (by kernel_rfl) ?_ _
  refine NoPanic.normal ?_
  have BZ := Lib.hid (below_step E6.out.bel C2)
  go_wp2
  go_ret
  exact ⟨rfl, BZ.out⟩
 obtain ⟨n, rfl⟩ : ∃ n : Nat, bud = (n : Int) := ⟨bud.toNat, by omega⟩
 have HNN := Lib.hid (show 1 ≤ n ∧ n ≤ 300 by omega)
 have HC := Lib.hid (ie_reset n HNN.out.1 HNN.out.2 (by omega) (by simp) (by omega) HSG.out E5.out)
 have HRS := Lib.hid (reset_sum (g := g) (s := s) (Ch.new g s) [] n)
 have HRI := Lib.hid (resetW_is (g := g) (s := s) (Ch.new g s) [] n)
 obtain ⟨y, hy⟩ : ∃ y, y = resetW g s (Ch.new g s) [] n := ⟨_, rfl⟩
 rw [← hy] at HC HRS HRI
 obtain ⟨e1, c1, L1⟩ := y
 simp only at HC HRS HRI
 clear hy hb1 h300 d1
 go_wp2_with fail
 refine HC.out.mono ?_
 rintro _ w6 ⟨rfl, k1, hk1, h⟩
 have E6 := Lib.hid h
 have K1 := Lib.hid hk1
 have HL1 := Lib.hid (show L1.length ≤ 302 by have h9 : L1.length ≤ 0 + 2 + n := HRI.out.2.1; have := HNN.out; omega)
 clear h hk1 HC E5 HRI
 clear z0 z1 z2 z3 z4 z5 z6
 obtain ⟨l1, hl0, hrs, hfr, hal⟩ := HRS.out
 have hl1 : L1 = l1 := hl0
 clear hl0
 subst hl1
 obtain ⟨hlg, hjx⟩ := hrs.takes (g := g)
 have HLG1 := Lib.hid hlg
 have HJX := Lib.hid hjx
 have HFR := Lib.hid hfr
 have HAL := Lib.hid hal
 clear hrs hlg hjx hfr hal HRS
 by_cases he : e1 = 0
 rotate_left
 ·
  skip
  have b0 : (e1 == 0) = false := by rw [beq_eq_false_iff_ne]; exact he
  have n0 : (e1 != 0) = true := by simp [he]
  have j0 : (e1 = 0) = False := eq_false he
  have dd0 : decide (e1 = 0) = false := decide_eq_false he
  clear he HJX HFR HAL
  go_wp2
  obtain ⟨wnow, hwn⟩ : ∃ wnow, wnow = w6 := ⟨_, rfl⟩
  subst hwn
  have HLL := Lib.hid (show L1.length ≤ 3000 by have := HL1.out; omega)
  refine wp_region_noPanic ?_
  refine wp_region_held_drew (S := fun w' => Below wnow.heap.size wnow w') (by kernel_rfl) ((Below.refl _ _).drew) (fun C0 => ?_)
  refine tkH4 0 C0 ?_ (hy := fun W' hSw => by have E99 := E6.out.below hSw; have x0 := E99.rg.cell_at 0 (.int .i64 g.p) rfl; have x1 := E99.rg.cell_at 1 (.int .i64 g.b) rfl; have x2 := E99.rg.cell_at 2 (.int .i64 g.s) rfl; have x3 := E99.rg.cell_at 3 (.int .i64 g.c) rfl; have x4 := E99.rg.cell_at 4 (.int .i64 g.k) rfl; have x5 := E99.rg.cell_at 5 (.int .i64 g.r) rfl; have x6 := E99.rg.cell_at 6 (.int .i64 g.q) rfl; clear E99; clear hSw; go_simp <;> with_reducible rfl)
  refine tkH4 1 C0 ?_
  refine wpAnyH_ready (rs := [2]) (by kernel_rfl) (by simp) ?_
  refine AllReadyH.cons (o := zZGc0) rfl (fun K hK => ?_) AllReadyH.nil
  dsimp only [zZGc0]
  go_simp
  refine (ie_trace (by have := HLL.out; omega) (E6.out.1.below C0)).mono ?_
  rintro _ v1 ⟨A1, c4, rfl, r4, hB⟩
  have RT := Lib.hid r4
  clear r4
  go_wp2_with fail
  refine hK.out _ _ (C0.trans (hB.mono C0.size)) (fun C1 => ?_)
  clear hK K hB
  try simp only [Act.put, zzI, zzO, zzS]
  refine wpAnyH_ready (rs := [3]) (by kernel_rfl) (by simp) ?_
  refine AllReadyH.cons (o := zZGc1) rfl (fun K hK => ?_) AllReadyH.nil
  dsimp only [zZGc1]
  go_simp
  refine (run_all (c4 := c4) HOK.out HLG1.out (by have := HLL.out; omega) RT.out).mono ?_
  rintro _ v2 ⟨rfl, hB⟩
  go_wp2_with fail
  refine hK.out _ _ (C1.trans (hB.mono C1.size)) (fun C2 => ?_)
  clear hK K hB
  try simp only [Act.put, zzI, zzO, zzS]
  refine tkH4 4 C2 ?_
  refine tkH4 5 C2 ?_
  refine tkH4 6 C2 ?_
  refine tkH4 7 C2 ?_
  refine tkH4 8 C2 ?_
  refine wpAnyH_done (by kernel_rfl) ?_ _
  refine NoPanic.normal ?_
  have BZ := Lib.hid (below_step E6.out.bel C2)
  go_wp2
  go_ret
  exact ⟨rfl, BZ.out⟩
 subst he
 have HF1 := Lib.hid (HFR.out rfl)
 have HJ1 := Lib.hid (HJX.out rfl)
 clear HJX HFR
 have HC := Lib.hid (ie_chk n HNN.out.1 HNN.out.2 (by have := HNN.out; omega) (by have := HL1.out; omega) (by have := K1.out; omega) HSG.out E6.out)
 have HCS := Lib.hid (chk_sum (g := g) (o := o) (s := s) (L := L1) (n := n) HF1.out HOK.out)
 have HLC := Lib.hid (chk_len (g := g) (s := s) (c := c1) (L := L1) (o := o) n)
 obtain ⟨y, hy⟩ : ∃ y, y = chkW g s c1 L1 o n := ⟨_, rfl⟩
 rw [← hy] at HC HCS HLC
 obtain ⟨e2, c2, L2⟩ := y
 simp only at HC HCS HLC
 clear hy
 have HL2 := Lib.hid (show L2.length ≤ 3000 by have := HLC.out; have := HL1.out; have := HNN.out; omega)
 clear HLC
 have z0 := E6.out.rc.cell_at 0 (.slice m.a1 s.busy.length m.c1) rfl
 have z1 := E6.out.rc.cell_at 1 (.slice m.a2 s.fails.length m.c2) rfl
 have z2 := E6.out.rc.cell_at 2 (.slice m.a3 s.turns.length m.c3) rfl
 have z3 := E6.out.rc.cell_at 3 (.int .i64 s.cut) rfl
 have z4 := E6.out.rc.cell_at 4 (.slice m.a4 s.torn.length m.c4) rfl
 have z5 := E6.out.rc.cell_at 5 (.slice m.a5 s.marked.length m.c5) rfl
 have z6 := E6.out.rc.cell_at 6 (.int .i64 (n : Int)) rfl
 have y0 := E6.out.ro.cell_at 0 (.int .i64 o.p) rfl
 have y1 := E6.out.ro.cell_at 1 (.int .i64 o.b) rfl
 have y2 := E6.out.ro.cell_at 2 (.int .i64 o.s) rfl
 have y3 := E6.out.ro.cell_at 3 (.int .i64 o.c) rfl
 have y4 := E6.out.ro.cell_at 4 (.int .i64 o.k) rfl
 have y5 := E6.out.ro.cell_at 5 (.int .i64 o.r) rfl
 have y6 := E6.out.ro.cell_at 6 (.int .i64 o.q) rfl
 go_wp2_with fail
 refine HC.out.mono ?_
 rintro _ w7 ⟨rfl, k2, hk2, h⟩
 have E7 := Lib.hid h
 have K2 := Lib.hid hk2
 clear h hk2 HC E6
 clear z0 z1 z2 z3 z4 z5 z6 y0 y1 y2 y3 y4 y5 y6
 obtain ⟨l2, hl2, hlg2, hno, hyes, hlow⟩ := HCS.out
 have HLG2 := Lib.hid (show Lg g Jd.new L2 by rw [hl2]; exact Lg.and ⟨HLG1.out, HJ1.out⟩ hlg2)
 have HJ2 := Lib.hid (show jx g (jW 1 [] 0 false true false 0) l2 = jx g Jd.new L2 by rw [hl2, jx_append, HJ1.out])
 have HNO := Lib.hid hno
 have HYES := Lib.hid hyes
 have HLOW := Lib.hid hlow
 clear hl2 hlg2 hno hyes hlow HCS HLG1
 have z0 := E7.out.rc.cell_at 0 (.slice m.a1 s.busy.length m.c1) rfl
 have z1 := E7.out.rc.cell_at 1 (.slice m.a2 s.fails.length m.c2) rfl
 have z2 := E7.out.rc.cell_at 2 (.slice m.a3 s.turns.length m.c3) rfl
 have z3 := E7.out.rc.cell_at 3 (.int .i64 s.cut) rfl
 have z4 := E7.out.rc.cell_at 4 (.slice m.a4 s.torn.length m.c4) rfl
 have z5 := E7.out.rc.cell_at 5 (.slice m.a5 s.marked.length m.c5) rfl
 have z6 := E7.out.rc.cell_at 6 (.int .i64 (n : Int)) rfl
 obtain ⟨cb, hcb⟩ : ∃ cb, cb = decide (s.cut < 0) := ⟨_, rfl⟩
 have HCB := Lib.hid hcb
 have hdc : decide (s.cut < 0) = cb := hcb.symm
 clear hcb
 go_wp2_with fail
 clear z0 z1 z2 z3 z4 z5 z6
 go_loopw [13, 75] (fun lv iv wr => ∃ k : Nat, k ≤ s.busy.length ∧ lv = .bool (cb && lowB (s.busy.take k) (n : Int)) ∧ iv = .int .i64 (k : Int) ∧ Hid (Below w7.heap.size w7 wr)) (fun _ iv _ => s.busy.length - (intOf iv).toNat)
 case atStart => exact ⟨0, Nat.zero_le _, by simp [lowB], rfl, Lib.hid (Below.refl _ _)⟩
 case round =>
  obtain ⟨kk, hk, rfl, rfl, HBL⟩ := hrel
  rename World => wl
  by_cases hlt : kk < s.busy.length
  ·
   have HX0 := (HI.out.busy.below (below_step E7.out.bel HBL.out)).at_ hlt
   obtain ⟨b9, o9, x, hA, hb9, HX, hx1, hx2, x0⟩ := HX0
   have HG := Lib.hid (lowB_succ (b := (n : Int)) HX.out)
   have hlb := HF.out.busy
   have dl : decide ((kk : Int) < (s.busy.length : Int)) = true := decide_eq_true (by omega)
   have i0 : (0 : Int) ≤ (kk : Int) := by omega
   have EL := Lib.hid (E7.out.below HBL.out)
   have z6 := EL.out.rc.cell_at 6 (.int .i64 (n : Int)) rfl
   obtain ⟨y, hy⟩ : ∃ y, y = (cb && lowB (s.busy.take kk) (n : Int)) := ⟨_, rfl⟩
   have HG2 := Lib.hid (show (cb && lowB (s.busy.take (kk + 1)) (n : Int)) = (y && decide (x < (n : Int))) by rw [HG.out, hy, Bool.and_assoc])
   rw [← hy]
   obtain ⟨Zn, hZ⟩ : ∃ Zn, Zn = s.busy.length := ⟨_, rfl⟩
   rw [← hZ] at dl hlt hlb hk ⊢
   rw [hA]
   have HZ := Lib.hid hZ
   clear hb9 hx1 hx2 hy hA hZ HG hdc
   cases y with
   | true =>
    have HG3 := Lib.hid (show (cb && lowB (s.busy.take (kk + 1)) (n : Int)) = decide (x < (n : Int)) from HG2.out)
    cases hdx : decide (x < (n : Int)) with
    | true =>
     rw [hdx] at HG3
     go_wp2
     go_roundw
     case rel => exact ⟨kk + 1, by omega, by rw [HG3.out], by go_num, HBL⟩
     case measure => simp [intOf]; omega
    | false =>
     rw [hdx] at HG3
     go_wp2
     go_roundw
     case rel => exact ⟨kk + 1, by omega, by rw [HG3.out], by go_num, HBL⟩
     case measure => simp [intOf]; omega
   | false =>
    have HG3 := Lib.hid (show (cb && lowB (s.busy.take (kk + 1)) (n : Int)) = false from HG2.out)
    go_wp2
    go_roundw
    case rel => exact ⟨kk + 1, by omega, by rw [HG3.out], by go_num, HBL⟩
    case measure => simp [intOf]; omega
  ·
   obtain rfl : kk = s.busy.length := by omega
   have dl : decide ((s.busy.length : Int) < (s.busy.length : Int)) = false := decide_eq_false (by omega)
   rw [List.take_length]
   have E8 := Lib.hid (E7.out.below HBL.out)
   have HRT := Lib.hid (fun W => RefRight_any o W)
   simp only [Gm.val] at HRT
   obtain ⟨low, hlo⟩ : ∃ low, low = (cb && lowB s.busy (n : Int)) := ⟨_, rfl⟩
   rw [← hlo]
   have HLO := Lib.hid (fun (h : low = true) => show s.cut = -1 ∧ lowB s.busy (n : Int) = true by
    rw [hlo, HCB.out, Bool.and_eq_true] at h
    have := of_decide_eq_true h.1
    have := HCUT.out
    exact ⟨by omega, h.2⟩)
   clear hlo hdc HCB E7 HBL hk hlt
   have y0 := E8.out.ro.cell_at 0 (.int .i64 o.p) rfl
   have y1 := E8.out.ro.cell_at 1 (.int .i64 o.b) rfl
   have y2 := E8.out.ro.cell_at 2 (.int .i64 o.s) rfl
   have y3 := E8.out.ro.cell_at 3 (.int .i64 o.c) rfl
   have y4 := E8.out.ro.cell_at 4 (.int .i64 o.k) rfl
   have y5 := E8.out.ro.cell_at 5 (.int .i64 o.r) rfl
   have y6 := E8.out.ro.cell_at 6 (.int .i64 o.q) rfl
   go_wp2_with fail
   refine (HRT.out _).mono ?_
   rintro _ w9 ⟨rfl, h⟩
   have E9 := Lib.hid (E8.out.below h)
   clear h HRT E8 dl
   clear y0 y1 y2 y3 y4 y5 y6
   have y0 := E9.out.ro.cell_at 0 (.int .i64 o.p) rfl
   have y1 := E9.out.ro.cell_at 1 (.int .i64 o.b) rfl
   have y2 := E9.out.ro.cell_at 2 (.int .i64 o.s) rfl
   have y3 := E9.out.ro.cell_at 3 (.int .i64 o.c) rfl
   have y4 := E9.out.ro.cell_at 4 (.int .i64 o.k) rfl
   have y5 := E9.out.ro.cell_at 5 (.int .i64 o.r) rfl
   have y6 := E9.out.ro.cell_at 6 (.int .i64 o.q) rfl
   have x0 := E9.out.rg.cell_at 0 (.int .i64 g.p) rfl
   have x1 := E9.out.rg.cell_at 1 (.int .i64 g.b) rfl
   have x2 := E9.out.rg.cell_at 2 (.int .i64 g.s) rfl
   have x3 := E9.out.rg.cell_at 3 (.int .i64 g.c) rfl
   have x4 := E9.out.rg.cell_at 4 (.int .i64 g.k) rfl
   have x5 := E9.out.rg.cell_at 5 (.int .i64 g.r) rfl
   have x6 := E9.out.rg.cell_at 6 (.int .i64 g.q) rfl
   obtain ⟨ok2, hok2⟩ : ∃ ok2, ok2 = o.ok := ⟨_, rfl⟩
   rw [← hok2] at HNO HLOW ⊢
   clear hok2
   cases ok2
   ·
    obtain rfl : e2 = 2 := HNO.out rfl
    cases low
    ·
     skip
     go_wp2
     obtain ⟨wnow, hwn⟩ : ∃ wnow, wnow = w9 := ⟨_, rfl⟩
     subst hwn
     clear x0 x1 x2 x3 x4 x5 x6 y0 y1 y2 y3 y4 y5 y6
     refine wp_region_noPanic ?_
     refine wp_region_held_drew (S := fun w' => Below wnow.heap.size wnow w') (by kernel_rfl) ((Below.refl _ _).drew) (fun C0 => ?_)
     refine tkH4 0 C0 ?_ (hy := fun W' hSw => by have E99 := E9.out.below hSw; have x0 := E99.rg.cell_at 0 (.int .i64 g.p) rfl; have x1 := E99.rg.cell_at 1 (.int .i64 g.b) rfl; have x2 := E99.rg.cell_at 2 (.int .i64 g.s) rfl; have x3 := E99.rg.cell_at 3 (.int .i64 g.c) rfl; have x4 := E99.rg.cell_at 4 (.int .i64 g.k) rfl; have x5 := E99.rg.cell_at 5 (.int .i64 g.r) rfl; have x6 := E99.rg.cell_at 6 (.int .i64 g.q) rfl; clear E99; clear hSw; go_simp <;> with_reducible rfl)
     refine tkH4 1 C0 ?_
     refine wpAnyH_ready (rs := [2]) (by kernel_rfl) (by simp) ?_
     refine AllReadyH.cons (o := zZGc0) rfl (fun K hK => ?_) AllReadyH.nil
     dsimp only [zZGc0]
     go_simp
     refine (ie_trace (by have := HL2.out; omega) (E9.out.1.below C0)).mono ?_
     rintro _ v1 ⟨A1, c4, rfl, r4, hB⟩
     have RT := Lib.hid r4
     clear r4
     go_wp2_with fail
     refine hK.out _ _ (C0.trans (hB.mono C0.size)) (fun C1 => ?_)
     clear hK K hB
     try simp only [Act.put, zzI, zzO, zzS]
     refine wpAnyH_ready (rs := [3]) (by kernel_rfl) (by simp) ?_
     refine AllReadyH.cons (o := zZGc1) rfl (fun K hK => ?_) AllReadyH.nil
     dsimp only [zZGc1]
     go_simp
     refine (run_all (c4 := c4) HOK.out HLG2.out (by have := HL2.out; omega) RT.out).mono ?_
     rintro _ v2 ⟨rfl, hB⟩
     go_wp2_with fail
     refine hK.out _ _ (C1.trans (hB.mono C1.size)) (fun C2 => ?_)
     clear hK K hB
     try simp only [Act.put, zzI, zzO, zzS]
     refine tkH4 4 C2 ?_
     refine tkH4 5 C2 ?_
     refine tkH4 6 C2 ?_
     refine tkH4 7 C2 ?_
     refine tkH4 8 C2 ?_
     refine wpAnyH_done (by kernel_rfl) ?_ _
     refine NoPanic.normal ?_
     have BZ := Lib.hid (below_step E9.out.bel C2)
     go_wp2
     go_ret
     exact ⟨rfl, BZ.out⟩
    ·
     skip
     have HAA := Lib.hid (HAL.out (Al.new (HLO.out rfl).1) (lowB_nb HNN.out.1 (HLO.out rfl).2))
     obtain ⟨f2, a2, j2, j9⟩ := HLOW.out HAA.out.2 (fun c => lowB_nb HNN.out.1 (HLO.out rfl).2)
     rw [HJ2.out] at j2
     obtain ⟨l3, b1, b2, b3, b4, b5, b6⟩ := both_sum (g := g) (s := s) (L := L2) (n := n) f2 HOK.out j2 a2 (fun c => lowB_nb HNN.out.1 (HLO.out rfl).2)
     have HLG3 := Lib.hid (show Lg g Jd.new (parW g s (runW g s c2 L2 nameL).c (runW g s c2 L2 nameL).l n).2.2.2 by rw [b1]; exact Lg.and ⟨HLG2.out, rfl⟩ b2)
     have H3 := Lib.hid b3
     have H4 := Lib.hid b4
     have H5 := Lib.hid b5
     have H6 := Lib.hid b6
     have HLN3 := Lib.hid (par_len (g := g) (s := s) (c := (runW g s c2 L2 nameL).c) (L := (runW g s c2 L2 nameL).l) n)
     have HLN4 := Lib.hid ((runW_len (g := g) (s := s) (c := c2) (L := L2) (ts := nameL)).1)
     clear f2 a2 j2 j9 b1 b2 b3 b4 b5 b6 HLOW HAA HAL HLO
     have HC := Lib.hid (ie_id H3.out (by have := HNN.out; omega) (by have := HL2.out; omega) (by have := K1.out; have := K2.out; omega) HSG.out E9.out)
     rw [H4.out] at HC
     obtain ⟨z, hz⟩ : ∃ z, z = runW g s c2 L2 nameL := ⟨_, rfl⟩
     rw [← hz] at HC HLG3 H5 H6 HLN3 HLN4
     obtain ⟨e3, c3, L3⟩ := z
     simp only at HC HLG3 H5 H6 HLN3 HLN4
     clear hz H3 H4
     have HL3 := Lib.hid (show L3.length ≤ 3007 by have h9 : L3.length ≤ L2.length + 7 := HLN4.out; have := HL2.out; omega)
     go_wp2_with fail
     refine HC.out.mono ?_
     rintro _ w10 ⟨k3, A3, d3, I3, hk3, rfl, r3, n3, h⟩
     have E10 := Lib.hid h
     have R3 := Lib.hid r3
     have N3 := Lib.hid n3
     have K3 := Lib.hid hk3
     clear h r3 n3 hk3 HC E9 x0 x1 x2 x3 x4 x5 x6 y0 y1 y2 y3 y4 y5 y6
     have HC := Lib.hid (ie_par n HNN.out.1 HNN.out.2 (by have := HNN.out; omega) (by have := HL3.out; omega) (by have := K1.out; have := K2.out; have := K3.out; omega) HSG.out E10.out)
     obtain ⟨y, hy⟩ : ∃ y, y = parW g s c3 L3 n := ⟨_, rfl⟩
     rw [← hy] at HC HLG3 H5 H6 HLN3
     obtain ⟨t, e4, c4', L4⟩ := y
     simp only [Gm.val] at HC HLG3 H5 H6 HLN3
     clear hy
     obtain rfl : e4 = 0 := H5.out
     obtain rfl : t = g := H6.out
     have HLL := Lib.hid (show L4.length ≤ 4000 by have := HLN3.out; have := HL3.out; have := HNN.out; omega)
     have z0 := E10.out.rc.cell_at 0 (.slice m.a1 s.busy.length m.c1) rfl
     have z1 := E10.out.rc.cell_at 1 (.slice m.a2 s.fails.length m.c2) rfl
     have z2 := E10.out.rc.cell_at 2 (.slice m.a3 s.turns.length m.c3) rfl
     have z3 := E10.out.rc.cell_at 3 (.int .i64 s.cut) rfl
     have z4 := E10.out.rc.cell_at 4 (.slice m.a4 s.torn.length m.c4) rfl
     have z5 := E10.out.rc.cell_at 5 (.slice m.a5 s.marked.length m.c5) rfl
     have z6 := E10.out.rc.cell_at 6 (.int .i64 (n : Int)) rfl
     go_wp2_with fail
     refine HC.out.mono ?_
     rintro _ w11 ⟨rfl, bt, k4, h⟩
     have E11 := Lib.hid h
     have R4 := Lib.hid (R3.out.btw0 bt fun b off e _ => N3.out b off e)
     clear h bt HC E10 R3 N3 H5 H6 HLN3 HLN4 z0 z1 z2 z3 z4 z5 z6
     have G0 := Lib.hid (CRow.new w11 #[.int .i64 0, .int .i64 0, .int .i64 0, .int .i64 0, .int .i64 0, .int .i64 0, .int .i64 0] 23)
     have G1 := Lib.hid (G0.out.set #[.int .i64 t.p, .int .i64 t.b, .int .i64 t.s, .int .i64 t.c, .int .i64 t.k, .int .i64 t.r, .int .i64 t.q])
     have E12 := Lib.hid (E11.out.lay (t := t))
     have R5 := Lib.hid (R4.out.below (below_setRow (below_new w11 (.cells #[.int .i64 0, .int .i64 0, .int .i64 0, .int .i64 0, .int .i64 0, .int .i64 0, .int .i64 0] 23)) (Nat.le_refl _) #[.int .i64 t.p, .int .i64 t.b, .int .i64 t.s, .int .i64 t.c, .int .i64 t.k, .int .i64 t.r, .int .i64 t.q]))
     obtain ⟨w12, hw12⟩ : ∃ w12, w12 = ((w11.alloc (.cells #[.int .i64 0, .int .i64 0, .int .i64 0, .int .i64 0, .int .i64 0, .int .i64 0, .int .i64 0] 23)).setRow w11.heap.size #[.int .i64 t.p, .int .i64 t.b, .int .i64 t.s, .int .i64 t.c, .int .i64 t.k, .int .i64 t.r, .int .i64 t.q]) := ⟨_, rfl⟩
     have HW12 := Lib.hid hw12.symm
     rw [← hw12] at G1 E12 R5
     clear hw12 R4 E11
     go_wp2_with (with_reducible refine (?_ : wpList _ _ _ ({ dst := _, op := Op.store 23 _ _, type := _, pos := _, after := _, guard := _ } :: _) _ _); refine wpList_store_at rfl 23 _ _ rfl 7 size_geomA _ w11.heap.size ?hx rfl _ G0.out.row rfl rfl (by simp [Value.oneCell']) ?_; (case hx => simp [Act.eval]))
     rw [HW12.out]
     clear HW12 G0
     obtain ⟨b9, o9, rfl, hb9, hc9⟩ := R5.out.1.2 (by omega)
     have u0 : w12.cell? ⟨b9, o9, none⟩ = some (.int .u8 73) := hc9 0 (by omega)
     have u2 : w12.cell? ⟨b9, o9 + 2, none⟩ = some (.int .u8 t.p) := (hc9 2 (by omega)).trans (by show some (Value.int .u8 (((t.p % 256).toNat : Nat) : Int)) = _; rw [nameB_two HOK.out])
     clear hb9 hc9 R5
     have y0 := G1.out.cell_at 0 (.int .i64 t.p) rfl
     have y1 := G1.out.cell_at 1 (.int .i64 t.b) rfl
     have y2 := G1.out.cell_at 2 (.int .i64 t.s) rfl
     have y3 := G1.out.cell_at 3 (.int .i64 t.c) rfl
     have y4 := G1.out.cell_at 4 (.int .i64 t.k) rfl
     have y5 := G1.out.cell_at 5 (.int .i64 t.r) rfl
     have y6 := G1.out.cell_at 6 (.int .i64 t.q) rfl
     have x0 := E12.out.rg.cell_at 0 (.int .i64 t.p) rfl
     have x1 := E12.out.rg.cell_at 1 (.int .i64 t.b) rfl
     have x2 := E12.out.rg.cell_at 2 (.int .i64 t.s) rfl
     have x3 := E12.out.rg.cell_at 3 (.int .i64 t.c) rfl
     have x4 := E12.out.rg.cell_at 4 (.int .i64 t.k) rfl
     have x5 := E12.out.rg.cell_at 5 (.int .i64 t.r) rfl
     have x6 := E12.out.rg.cell_at 6 (.int .i64 t.q) rfl
     have htp := (Gm.bounds_of HOK.out).1
     have hwp : IntKind.i64.wrap t.p = t.p := IntWalk.i64_in _ (by omega)
     have HNQ := fun W => neq_geom_no t W
     clear htp
     try go_wp2
     go_region_held3 (fun w' => w'.cell? ⟨b9, o9, none⟩ = some (.int .u8 73) ∧ w'.cell? ⟨b9, o9 + 2, none⟩ = some (.int .u8 t.p) ∧ w'.cell? ⟨w11.heap.size, 0, none⟩ = some (.int .i64 t.p) ∧ w'.cell? ⟨w11.heap.size, 1, none⟩ = some (.int .i64 t.b) ∧ w'.cell? ⟨w11.heap.size, 2, none⟩ = some (.int .i64 t.s) ∧ w'.cell? ⟨w11.heap.size, 3, none⟩ = some (.int .i64 t.c) ∧ w'.cell? ⟨w11.heap.size, 4, none⟩ = some (.int .i64 t.k) ∧ w'.cell? ⟨w11.heap.size, 5, none⟩ = some (.int .i64 t.r) ∧ w'.cell? ⟨w11.heap.size, 6, none⟩ = some (.int .i64 t.q) ∧ w'.cell? ⟨w.heap.size, 0, none⟩ = some (.int .i64 t.p) ∧ w'.cell? ⟨w.heap.size, 1, none⟩ = some (.int .i64 t.b) ∧ w'.cell? ⟨w.heap.size, 2, none⟩ = some (.int .i64 t.s) ∧ w'.cell? ⟨w.heap.size, 3, none⟩ = some (.int .i64 t.c) ∧ w'.cell? ⟨w.heap.size, 4, none⟩ = some (.int .i64 t.k) ∧ w'.cell? ⟨w.heap.size, 5, none⟩ = some (.int .i64 t.r) ∧ w'.cell? ⟨w.heap.size, 6, none⟩ = some (.int .i64 t.q)) (exact ⟨u0, u2, y0, y1, y2, y3, y4, y5, y6, x0, x1, x2, x3, x4, x5, x6⟩) (fail)
     have E13 := Lib.hid (E12.out.below (show Below w12.heap.size w12 w12.drew from (Below.refl _ _).drew))
     clear u0 u2 hwp HNQ E12 G1 x0 x1 x2 x3 x4 x5 x6 y0 y1 y2 y3 y4 y5 y6
     go_wp2
     obtain ⟨wnow, hwn⟩ : ∃ wnow, wnow = w12.drew := ⟨_, rfl⟩
     rw [← hwn] at E13 ⊢
     clear hwn
     refine wp_region_noPanic ?_
     refine wp_region_held_drew (S := fun w' => Below wnow.heap.size wnow w') (by kernel_rfl) ((Below.refl _ _).drew) (fun C0 => ?_)
     refine tkH4 0 C0 ?_ (hy := fun W' hSw => by have E99 := E13.out.below hSw; have x0 := E99.rg.cell_at 0 (.int .i64 t.p) rfl; have x1 := E99.rg.cell_at 1 (.int .i64 t.b) rfl; have x2 := E99.rg.cell_at 2 (.int .i64 t.s) rfl; have x3 := E99.rg.cell_at 3 (.int .i64 t.c) rfl; have x4 := E99.rg.cell_at 4 (.int .i64 t.k) rfl; have x5 := E99.rg.cell_at 5 (.int .i64 t.r) rfl; have x6 := E99.rg.cell_at 6 (.int .i64 t.q) rfl; clear E99; clear hSw; go_simp <;> with_reducible rfl)
     refine tkH4 1 C0 ?_
     refine wpAnyH_ready (rs := [2]) (by kernel_rfl) (by simp) ?_
     refine AllReadyH.cons (o := zZGc0) rfl (fun K hK => ?_) AllReadyH.nil
     dsimp only [zZGc0]
     go_simp
     refine (ie_trace (by have := HLL.out; omega) (E13.out.1.below C0)).mono ?_
     rintro _ v1 ⟨A1, c4, rfl, r4, hB⟩
     have RT := Lib.hid r4
     clear r4
     go_wp2_with fail
     refine hK.out _ _ (C0.trans (hB.mono C0.size)) (fun C1 => ?_)
     clear hK K hB
     try simp only [Act.put, zzI, zzO, zzS]
     refine wpAnyH_ready (rs := [3]) (by kernel_rfl) (by simp) ?_
     refine AllReadyH.cons (o := zZGc1) rfl (fun K hK => ?_) AllReadyH.nil
     dsimp only [zZGc1]
     go_simp
     refine (run_all (c4 := c4) HOK.out HLG3.out (by have := HLL.out; omega) RT.out).mono ?_
     rintro _ v2 ⟨rfl, hB⟩
     go_wp2_with fail
     refine hK.out _ _ (C1.trans (hB.mono C1.size)) (fun C2 => ?_)
     clear hK K hB
     try simp only [Act.put, zzI, zzO, zzS]
     refine tkH4 4 C2 ?_
     refine tkH4 5 C2 ?_
     refine tkH4 6 C2 ?_
     refine tkH4 7 C2 ?_
     refine tkH4 8 C2 ?_
     refine wpAnyH_done (by kernel_rfl) ?_ _
     refine NoPanic.normal ?_
     have BZ := Lib.hid (below_step E13.out.bel C2)
     go_wp2
     go_ret
     exact ⟨rfl, BZ.out⟩
   ·
    by_cases hog : o = g
    ·
     obtain rfl : g = o := hog.symm
     have HEQ1 := fun W => neq_geom_no g W
     have HEQ2 := fun W => eql_geom_yes g W
     cases low
     ·
      by_cases he2 : e2 = 0
      ·
       subst he2
       go_wp2
       obtain ⟨wnow, hwn⟩ : ∃ wnow, wnow = w9 := ⟨_, rfl⟩
       subst hwn
       clear x0 x1 x2 x3 x4 x5 x6 y0 y1 y2 y3 y4 y5 y6
       refine wp_region_noPanic ?_
       refine wp_region_held_drew (S := fun w' => Below wnow.heap.size wnow w') (by kernel_rfl) ((Below.refl _ _).drew) (fun C0 => ?_)
       refine tkH4 0 C0 ?_ (hy := fun W' hSw => by have E99 := E9.out.below hSw; have x0 := E99.rg.cell_at 0 (.int .i64 g.p) rfl; have x1 := E99.rg.cell_at 1 (.int .i64 g.b) rfl; have x2 := E99.rg.cell_at 2 (.int .i64 g.s) rfl; have x3 := E99.rg.cell_at 3 (.int .i64 g.c) rfl; have x4 := E99.rg.cell_at 4 (.int .i64 g.k) rfl; have x5 := E99.rg.cell_at 5 (.int .i64 g.r) rfl; have x6 := E99.rg.cell_at 6 (.int .i64 g.q) rfl; clear E99; clear hSw; go_simp <;> with_reducible rfl)
       refine tkH4 1 C0 ?_
       refine wpAnyH_ready (rs := [2]) (by kernel_rfl) (by simp) ?_
       refine AllReadyH.cons (o := zZGc0) rfl (fun K hK => ?_) AllReadyH.nil
       dsimp only [zZGc0]
       go_simp
       refine (ie_trace (by have := HL2.out; omega) (E9.out.1.below C0)).mono ?_
       rintro _ v1 ⟨A1, c4, rfl, r4, hB⟩
       have RT := Lib.hid r4
       clear r4
       go_wp2_with fail
       refine hK.out _ _ (C0.trans (hB.mono C0.size)) (fun C1 => ?_)
       clear hK K hB
       try simp only [Act.put, zzI, zzO, zzS]
       refine wpAnyH_ready (rs := [3]) (by kernel_rfl) (by simp) ?_
       refine AllReadyH.cons (o := zZGc1) rfl (fun K hK => ?_) AllReadyH.nil
       dsimp only [zZGc1]
       go_simp
       refine (run_all (c4 := c4) HOK.out HLG2.out (by have := HL2.out; omega) RT.out).mono ?_
       rintro _ v2 ⟨rfl, hB⟩
       go_wp2_with fail
       refine hK.out _ _ (C1.trans (hB.mono C1.size)) (fun C2 => ?_)
       clear hK K hB
       try simp only [Act.put, zzI, zzO, zzS]
       refine tkH4 4 C2 ?_
       refine tkH4 5 C2 ?_
       refine tkH4 6 C2 ?_
       refine tkH4 7 C2 ?_
       refine tkH4 8 C2 ?_
       refine wpAnyH_done (by kernel_rfl) ?_ _
       refine NoPanic.normal ?_
       have BZ := Lib.hid (below_step E9.out.bel C2)
       go_wp2
       go_ret
       exact ⟨rfl, BZ.out⟩
      ·
       have b2 : (e2 == 0) = false := by rw [beq_eq_false_iff_ne]; exact he2
       have j2 : (e2 = 0) = False := eq_false he2
       have dd2 : decide (e2 = 0) = false := decide_eq_false he2
       clear he2
       go_wp2
       obtain ⟨wnow, hwn⟩ : ∃ wnow, wnow = w9 := ⟨_, rfl⟩
       subst hwn
       clear x0 x1 x2 x3 x4 x5 x6 y0 y1 y2 y3 y4 y5 y6
       refine wp_region_noPanic ?_
       refine wp_region_held_drew (S := fun w' => Below wnow.heap.size wnow w') (by kernel_rfl) ((Below.refl _ _).drew) (fun C0 => ?_)
       refine tkH4 0 C0 ?_ (hy := fun W' hSw => by have E99 := E9.out.below hSw; have x0 := E99.rg.cell_at 0 (.int .i64 g.p) rfl; have x1 := E99.rg.cell_at 1 (.int .i64 g.b) rfl; have x2 := E99.rg.cell_at 2 (.int .i64 g.s) rfl; have x3 := E99.rg.cell_at 3 (.int .i64 g.c) rfl; have x4 := E99.rg.cell_at 4 (.int .i64 g.k) rfl; have x5 := E99.rg.cell_at 5 (.int .i64 g.r) rfl; have x6 := E99.rg.cell_at 6 (.int .i64 g.q) rfl; clear E99; clear hSw; go_simp <;> with_reducible rfl)
       refine tkH4 1 C0 ?_
       refine wpAnyH_ready (rs := [2]) (by kernel_rfl) (by simp) ?_
       refine AllReadyH.cons (o := zZGc0) rfl (fun K hK => ?_) AllReadyH.nil
       dsimp only [zZGc0]
       go_simp
       refine (ie_trace (by have := HL2.out; omega) (E9.out.1.below C0)).mono ?_
       rintro _ v1 ⟨A1, c4, rfl, r4, hB⟩
       have RT := Lib.hid r4
       clear r4
       go_wp2_with fail
       refine hK.out _ _ (C0.trans (hB.mono C0.size)) (fun C1 => ?_)
       clear hK K hB
       try simp only [Act.put, zzI, zzO, zzS]
       refine wpAnyH_ready (rs := [3]) (by kernel_rfl) (by simp) ?_
       refine AllReadyH.cons (o := zZGc1) rfl (fun K hK => ?_) AllReadyH.nil
       dsimp only [zZGc1]
       go_simp
       refine (run_all (c4 := c4) HOK.out HLG2.out (by have := HL2.out; omega) RT.out).mono ?_
       rintro _ v2 ⟨rfl, hB⟩
       go_wp2_with fail
       refine hK.out _ _ (C1.trans (hB.mono C1.size)) (fun C2 => ?_)
       clear hK K hB
       try simp only [Act.put, zzI, zzO, zzS]
       refine tkH4 4 C2 ?_
       refine tkH4 5 C2 ?_
       refine tkH4 6 C2 ?_
       refine tkH4 7 C2 ?_
       refine tkH4 8 C2 ?_
       refine wpAnyH_done (by kernel_rfl) ?_ _
       refine NoPanic.normal ?_
       have BZ := Lib.hid (below_step E9.out.bel C2)
       go_wp2
       go_ret
       exact ⟨rfl, BZ.out⟩
     ·
      have hv := (HLOW.out (HAL.out (Al.new (HLO.out rfl).1) (lowB_nb HNN.out.1 (HLO.out rfl).2)).2 (fun c => lowB_nb HNN.out.1 (HLO.out rfl).2)).2.2.2
      obtain rfl : e2 = 0 := (hv rfl).trans (if_pos rfl)
      clear hv hog
      have HAA := Lib.hid (HAL.out (Al.new (HLO.out rfl).1) (lowB_nb HNN.out.1 (HLO.out rfl).2))
      obtain ⟨f2, a2, j2, j9⟩ := HLOW.out HAA.out.2 (fun c => lowB_nb HNN.out.1 (HLO.out rfl).2)
      rw [HJ2.out] at j2
      obtain ⟨l3, b1, b2, b3, b4, b5, b6⟩ := both_sum (g := g) (s := s) (L := L2) (n := n) f2 HOK.out j2 a2 (fun c => lowB_nb HNN.out.1 (HLO.out rfl).2)
      have HLG3 := Lib.hid (show Lg g Jd.new (parW g s (runW g s c2 L2 nameL).c (runW g s c2 L2 nameL).l n).2.2.2 by rw [b1]; exact Lg.and ⟨HLG2.out, rfl⟩ b2)
      have H3 := Lib.hid b3
      have H4 := Lib.hid b4
      have H5 := Lib.hid b5
      have H6 := Lib.hid b6
      have HLN3 := Lib.hid (par_len (g := g) (s := s) (c := (runW g s c2 L2 nameL).c) (L := (runW g s c2 L2 nameL).l) n)
      have HLN4 := Lib.hid ((runW_len (g := g) (s := s) (c := c2) (L := L2) (ts := nameL)).1)
      clear f2 a2 j2 j9 b1 b2 b3 b4 b5 b6 HLOW HAA HAL HLO
      have HC := Lib.hid (ie_id H3.out (by have := HNN.out; omega) (by have := HL2.out; omega) (by have := K1.out; have := K2.out; omega) HSG.out E9.out)
      rw [H4.out] at HC
      obtain ⟨z, hz⟩ : ∃ z, z = runW g s c2 L2 nameL := ⟨_, rfl⟩
      rw [← hz] at HC HLG3 H5 H6 HLN3 HLN4
      obtain ⟨e3, c3, L3⟩ := z
      simp only at HC HLG3 H5 H6 HLN3 HLN4
      clear hz H3 H4
      have HL3 := Lib.hid (show L3.length ≤ 3007 by have h9 : L3.length ≤ L2.length + 7 := HLN4.out; have := HL2.out; omega)
      go_wp2_with fail
      refine HC.out.mono ?_
      rintro _ w10 ⟨k3, A3, d3, I3, hk3, rfl, r3, n3, h⟩
      have E10 := Lib.hid h
      have R3 := Lib.hid r3
      have N3 := Lib.hid n3
      have K3 := Lib.hid hk3
      clear h r3 n3 hk3 HC E9 x0 x1 x2 x3 x4 x5 x6 y0 y1 y2 y3 y4 y5 y6
      have HC := Lib.hid (ie_par n HNN.out.1 HNN.out.2 (by have := HNN.out; omega) (by have := HL3.out; omega) (by have := K1.out; have := K2.out; have := K3.out; omega) HSG.out E10.out)
      obtain ⟨y, hy⟩ : ∃ y, y = parW g s c3 L3 n := ⟨_, rfl⟩
      rw [← hy] at HC HLG3 H5 H6 HLN3
      obtain ⟨t, e4, c4', L4⟩ := y
      simp only [Gm.val] at HC HLG3 H5 H6 HLN3
      clear hy
      obtain rfl : e4 = 0 := H5.out
      obtain rfl : t = g := H6.out
      have HLL := Lib.hid (show L4.length ≤ 4000 by have := HLN3.out; have := HL3.out; have := HNN.out; omega)
      have z0 := E10.out.rc.cell_at 0 (.slice m.a1 s.busy.length m.c1) rfl
      have z1 := E10.out.rc.cell_at 1 (.slice m.a2 s.fails.length m.c2) rfl
      have z2 := E10.out.rc.cell_at 2 (.slice m.a3 s.turns.length m.c3) rfl
      have z3 := E10.out.rc.cell_at 3 (.int .i64 s.cut) rfl
      have z4 := E10.out.rc.cell_at 4 (.slice m.a4 s.torn.length m.c4) rfl
      have z5 := E10.out.rc.cell_at 5 (.slice m.a5 s.marked.length m.c5) rfl
      have z6 := E10.out.rc.cell_at 6 (.int .i64 (n : Int)) rfl
      go_wp2_with fail
      refine HC.out.mono ?_
      rintro _ w11 ⟨rfl, bt, k4, h⟩
      have E11 := Lib.hid h
      have R4 := Lib.hid (R3.out.btw0 bt fun b off e _ => N3.out b off e)
      clear h bt HC E10 R3 N3 H5 H6 HLN3 HLN4 z0 z1 z2 z3 z4 z5 z6
      have G0 := Lib.hid (CRow.new w11 #[.int .i64 0, .int .i64 0, .int .i64 0, .int .i64 0, .int .i64 0, .int .i64 0, .int .i64 0] 23)
      have G1 := Lib.hid (G0.out.set #[.int .i64 t.p, .int .i64 t.b, .int .i64 t.s, .int .i64 t.c, .int .i64 t.k, .int .i64 t.r, .int .i64 t.q])
      have E12 := Lib.hid (E11.out.lay (t := t))
      have R5 := Lib.hid (R4.out.below (below_setRow (below_new w11 (.cells #[.int .i64 0, .int .i64 0, .int .i64 0, .int .i64 0, .int .i64 0, .int .i64 0, .int .i64 0] 23)) (Nat.le_refl _) #[.int .i64 t.p, .int .i64 t.b, .int .i64 t.s, .int .i64 t.c, .int .i64 t.k, .int .i64 t.r, .int .i64 t.q]))
      obtain ⟨w12, hw12⟩ : ∃ w12, w12 = ((w11.alloc (.cells #[.int .i64 0, .int .i64 0, .int .i64 0, .int .i64 0, .int .i64 0, .int .i64 0, .int .i64 0] 23)).setRow w11.heap.size #[.int .i64 t.p, .int .i64 t.b, .int .i64 t.s, .int .i64 t.c, .int .i64 t.k, .int .i64 t.r, .int .i64 t.q]) := ⟨_, rfl⟩
      have HW12 := Lib.hid hw12.symm
      rw [← hw12] at G1 E12 R5
      clear hw12 R4 E11
      go_wp2_with (with_reducible refine (?_ : wpList _ _ _ ({ dst := _, op := Op.store 23 _ _, type := _, pos := _, after := _, guard := _ } :: _) _ _); refine wpList_store_at rfl 23 _ _ rfl 7 size_geomA _ w11.heap.size ?hx rfl _ G0.out.row rfl rfl (by simp [Value.oneCell']) ?_; (case hx => simp [Act.eval]))
      rw [HW12.out]
      clear HW12 G0
      obtain ⟨b9, o9, rfl, hb9, hc9⟩ := R5.out.1.2 (by omega)
      have u0 : w12.cell? ⟨b9, o9, none⟩ = some (.int .u8 73) := hc9 0 (by omega)
      have u2 : w12.cell? ⟨b9, o9 + 2, none⟩ = some (.int .u8 t.p) := (hc9 2 (by omega)).trans (by show some (Value.int .u8 (((t.p % 256).toNat : Nat) : Int)) = _; rw [nameB_two HOK.out])
      clear hb9 hc9 R5
      have y0 := G1.out.cell_at 0 (.int .i64 t.p) rfl
      have y1 := G1.out.cell_at 1 (.int .i64 t.b) rfl
      have y2 := G1.out.cell_at 2 (.int .i64 t.s) rfl
      have y3 := G1.out.cell_at 3 (.int .i64 t.c) rfl
      have y4 := G1.out.cell_at 4 (.int .i64 t.k) rfl
      have y5 := G1.out.cell_at 5 (.int .i64 t.r) rfl
      have y6 := G1.out.cell_at 6 (.int .i64 t.q) rfl
      have x0 := E12.out.rg.cell_at 0 (.int .i64 t.p) rfl
      have x1 := E12.out.rg.cell_at 1 (.int .i64 t.b) rfl
      have x2 := E12.out.rg.cell_at 2 (.int .i64 t.s) rfl
      have x3 := E12.out.rg.cell_at 3 (.int .i64 t.c) rfl
      have x4 := E12.out.rg.cell_at 4 (.int .i64 t.k) rfl
      have x5 := E12.out.rg.cell_at 5 (.int .i64 t.r) rfl
      have x6 := E12.out.rg.cell_at 6 (.int .i64 t.q) rfl
      have htp := (Gm.bounds_of HOK.out).1
      have hwp : IntKind.i64.wrap t.p = t.p := IntWalk.i64_in _ (by omega)
      have HNQ := fun W => neq_geom_no t W
      clear htp
      try go_wp2
      go_region_held3 (fun w' => w'.cell? ⟨b9, o9, none⟩ = some (.int .u8 73) ∧ w'.cell? ⟨b9, o9 + 2, none⟩ = some (.int .u8 t.p) ∧ w'.cell? ⟨w11.heap.size, 0, none⟩ = some (.int .i64 t.p) ∧ w'.cell? ⟨w11.heap.size, 1, none⟩ = some (.int .i64 t.b) ∧ w'.cell? ⟨w11.heap.size, 2, none⟩ = some (.int .i64 t.s) ∧ w'.cell? ⟨w11.heap.size, 3, none⟩ = some (.int .i64 t.c) ∧ w'.cell? ⟨w11.heap.size, 4, none⟩ = some (.int .i64 t.k) ∧ w'.cell? ⟨w11.heap.size, 5, none⟩ = some (.int .i64 t.r) ∧ w'.cell? ⟨w11.heap.size, 6, none⟩ = some (.int .i64 t.q) ∧ w'.cell? ⟨w.heap.size, 0, none⟩ = some (.int .i64 t.p) ∧ w'.cell? ⟨w.heap.size, 1, none⟩ = some (.int .i64 t.b) ∧ w'.cell? ⟨w.heap.size, 2, none⟩ = some (.int .i64 t.s) ∧ w'.cell? ⟨w.heap.size, 3, none⟩ = some (.int .i64 t.c) ∧ w'.cell? ⟨w.heap.size, 4, none⟩ = some (.int .i64 t.k) ∧ w'.cell? ⟨w.heap.size, 5, none⟩ = some (.int .i64 t.r) ∧ w'.cell? ⟨w.heap.size, 6, none⟩ = some (.int .i64 t.q)) (exact ⟨u0, u2, y0, y1, y2, y3, y4, y5, y6, x0, x1, x2, x3, x4, x5, x6⟩) (fail)
      have E13 := Lib.hid (E12.out.below (show Below w12.heap.size w12 w12.drew from (Below.refl _ _).drew))
      clear u0 u2 hwp HNQ E12 G1 x0 x1 x2 x3 x4 x5 x6 y0 y1 y2 y3 y4 y5 y6
      go_wp2
      obtain ⟨wnow, hwn⟩ : ∃ wnow, wnow = w12.drew := ⟨_, rfl⟩
      rw [← hwn] at E13 ⊢
      clear hwn
      refine wp_region_noPanic ?_
      refine wp_region_held_drew (S := fun w' => Below wnow.heap.size wnow w') (by kernel_rfl) ((Below.refl _ _).drew) (fun C0 => ?_)
      refine tkH4 0 C0 ?_ (hy := fun W' hSw => by have E99 := E13.out.below hSw; have x0 := E99.rg.cell_at 0 (.int .i64 t.p) rfl; have x1 := E99.rg.cell_at 1 (.int .i64 t.b) rfl; have x2 := E99.rg.cell_at 2 (.int .i64 t.s) rfl; have x3 := E99.rg.cell_at 3 (.int .i64 t.c) rfl; have x4 := E99.rg.cell_at 4 (.int .i64 t.k) rfl; have x5 := E99.rg.cell_at 5 (.int .i64 t.r) rfl; have x6 := E99.rg.cell_at 6 (.int .i64 t.q) rfl; clear E99; clear hSw; go_simp <;> with_reducible rfl)
      refine tkH4 1 C0 ?_
      refine wpAnyH_ready (rs := [2]) (by kernel_rfl) (by simp) ?_
      refine AllReadyH.cons (o := zZGc0) rfl (fun K hK => ?_) AllReadyH.nil
      dsimp only [zZGc0]
      go_simp
      refine (ie_trace (by have := HLL.out; omega) (E13.out.1.below C0)).mono ?_
      rintro _ v1 ⟨A1, c4, rfl, r4, hB⟩
      have RT := Lib.hid r4
      clear r4
      go_wp2_with fail
      refine hK.out _ _ (C0.trans (hB.mono C0.size)) (fun C1 => ?_)
      clear hK K hB
      try simp only [Act.put, zzI, zzO, zzS]
      refine wpAnyH_ready (rs := [3]) (by kernel_rfl) (by simp) ?_
      refine AllReadyH.cons (o := zZGc1) rfl (fun K hK => ?_) AllReadyH.nil
      dsimp only [zZGc1]
      go_simp
      refine (run_all (c4 := c4) HOK.out HLG3.out (by have := HLL.out; omega) RT.out).mono ?_
      rintro _ v2 ⟨rfl, hB⟩
      go_wp2_with fail
      refine hK.out _ _ (C1.trans (hB.mono C1.size)) (fun C2 => ?_)
      clear hK K hB
      try simp only [Act.put, zzI, zzO, zzS]
      refine tkH4 4 C2 ?_
      refine tkH4 5 C2 ?_
      refine tkH4 6 C2 ?_
      refine tkH4 7 C2 ?_
      refine tkH4 8 C2 ?_
      refine wpAnyH_done (by kernel_rfl) ?_ _
      refine NoPanic.normal ?_
      have BZ := Lib.hid (below_step E13.out.bel C2)
      go_wp2
      go_ret
      exact ⟨rfl, BZ.out⟩
    ·
     have HEQ1 := fun W => neq_geom_yes hog W
     have HEQ2 := fun W => eql_geom_no hog W
     cases low
     ·
      have he2 : e2 ≠ 0 := fun h => hog (HYES.out h)
      have b2 : (e2 == 0) = false := by rw [beq_eq_false_iff_ne]; exact he2
      have j2 : (e2 = 0) = False := eq_false he2
      have dd2 : decide (e2 = 0) = false := decide_eq_false he2
      clear he2
      go_wp2
      obtain ⟨wnow, hwn⟩ : ∃ wnow, wnow = w9 := ⟨_, rfl⟩
      subst hwn
      clear x0 x1 x2 x3 x4 x5 x6 y0 y1 y2 y3 y4 y5 y6
      refine wp_region_noPanic ?_
      refine wp_region_held_drew (S := fun w' => Below wnow.heap.size wnow w') (by kernel_rfl) ((Below.refl _ _).drew) (fun C0 => ?_)
      refine tkH4 0 C0 ?_ (hy := fun W' hSw => by have E99 := E9.out.below hSw; have x0 := E99.rg.cell_at 0 (.int .i64 g.p) rfl; have x1 := E99.rg.cell_at 1 (.int .i64 g.b) rfl; have x2 := E99.rg.cell_at 2 (.int .i64 g.s) rfl; have x3 := E99.rg.cell_at 3 (.int .i64 g.c) rfl; have x4 := E99.rg.cell_at 4 (.int .i64 g.k) rfl; have x5 := E99.rg.cell_at 5 (.int .i64 g.r) rfl; have x6 := E99.rg.cell_at 6 (.int .i64 g.q) rfl; clear E99; clear hSw; go_simp <;> with_reducible rfl)
      refine tkH4 1 C0 ?_
      refine wpAnyH_ready (rs := [2]) (by kernel_rfl) (by simp) ?_
      refine AllReadyH.cons (o := zZGc0) rfl (fun K hK => ?_) AllReadyH.nil
      dsimp only [zZGc0]
      go_simp
      refine (ie_trace (by have := HL2.out; omega) (E9.out.1.below C0)).mono ?_
      rintro _ v1 ⟨A1, c4, rfl, r4, hB⟩
      have RT := Lib.hid r4
      clear r4
      go_wp2_with fail
      refine hK.out _ _ (C0.trans (hB.mono C0.size)) (fun C1 => ?_)
      clear hK K hB
      try simp only [Act.put, zzI, zzO, zzS]
      refine wpAnyH_ready (rs := [3]) (by kernel_rfl) (by simp) ?_
      refine AllReadyH.cons (o := zZGc1) rfl (fun K hK => ?_) AllReadyH.nil
      dsimp only [zZGc1]
      go_simp
      refine (run_all (c4 := c4) HOK.out HLG2.out (by have := HL2.out; omega) RT.out).mono ?_
      rintro _ v2 ⟨rfl, hB⟩
      go_wp2_with fail
      refine hK.out _ _ (C1.trans (hB.mono C1.size)) (fun C2 => ?_)
      clear hK K hB
      try simp only [Act.put, zzI, zzO, zzS]
      refine tkH4 4 C2 ?_
      refine tkH4 5 C2 ?_
      refine tkH4 6 C2 ?_
      refine tkH4 7 C2 ?_
      refine tkH4 8 C2 ?_
      refine wpAnyH_done (by kernel_rfl) ?_ _
      refine NoPanic.normal ?_
      have BZ := Lib.hid (below_step E9.out.bel C2)
      go_wp2
      go_ret
      exact ⟨rfl, BZ.out⟩
     ·
      have hv := (HLOW.out (HAL.out (Al.new (HLO.out rfl).1) (lowB_nb HNN.out.1 (HLO.out rfl).2)).2 (fun c => lowB_nb HNN.out.1 (HLO.out rfl).2)).2.2.2
      obtain rfl : e2 = 23 := (hv rfl).trans (if_neg hog)
      clear hv hog
      have HAA := Lib.hid (HAL.out (Al.new (HLO.out rfl).1) (lowB_nb HNN.out.1 (HLO.out rfl).2))
      obtain ⟨f2, a2, j2, j9⟩ := HLOW.out HAA.out.2 (fun c => lowB_nb HNN.out.1 (HLO.out rfl).2)
      rw [HJ2.out] at j2
      obtain ⟨l3, b1, b2, b3, b4, b5, b6⟩ := both_sum (g := g) (s := s) (L := L2) (n := n) f2 HOK.out j2 a2 (fun c => lowB_nb HNN.out.1 (HLO.out rfl).2)
      have HLG3 := Lib.hid (show Lg g Jd.new (parW g s (runW g s c2 L2 nameL).c (runW g s c2 L2 nameL).l n).2.2.2 by rw [b1]; exact Lg.and ⟨HLG2.out, rfl⟩ b2)
      have H3 := Lib.hid b3
      have H4 := Lib.hid b4
      have H5 := Lib.hid b5
      have H6 := Lib.hid b6
      have HLN3 := Lib.hid (par_len (g := g) (s := s) (c := (runW g s c2 L2 nameL).c) (L := (runW g s c2 L2 nameL).l) n)
      have HLN4 := Lib.hid ((runW_len (g := g) (s := s) (c := c2) (L := L2) (ts := nameL)).1)
      clear f2 a2 j2 j9 b1 b2 b3 b4 b5 b6 HLOW HAA HAL HLO
      have HC := Lib.hid (ie_id H3.out (by have := HNN.out; omega) (by have := HL2.out; omega) (by have := K1.out; have := K2.out; omega) HSG.out E9.out)
      rw [H4.out] at HC
      obtain ⟨z, hz⟩ : ∃ z, z = runW g s c2 L2 nameL := ⟨_, rfl⟩
      rw [← hz] at HC HLG3 H5 H6 HLN3 HLN4
      obtain ⟨e3, c3, L3⟩ := z
      simp only at HC HLG3 H5 H6 HLN3 HLN4
      clear hz H3 H4
      have HL3 := Lib.hid (show L3.length ≤ 3007 by have h9 : L3.length ≤ L2.length + 7 := HLN4.out; have := HL2.out; omega)
      go_wp2_with fail
      refine HC.out.mono ?_
      rintro _ w10 ⟨k3, A3, d3, I3, hk3, rfl, r3, n3, h⟩
      have E10 := Lib.hid h
      have R3 := Lib.hid r3
      have N3 := Lib.hid n3
      have K3 := Lib.hid hk3
      clear h r3 n3 hk3 HC E9 x0 x1 x2 x3 x4 x5 x6 y0 y1 y2 y3 y4 y5 y6
      have HC := Lib.hid (ie_par n HNN.out.1 HNN.out.2 (by have := HNN.out; omega) (by have := HL3.out; omega) (by have := K1.out; have := K2.out; have := K3.out; omega) HSG.out E10.out)
      obtain ⟨y, hy⟩ : ∃ y, y = parW g s c3 L3 n := ⟨_, rfl⟩
      rw [← hy] at HC HLG3 H5 H6 HLN3
      obtain ⟨t, e4, c4', L4⟩ := y
      simp only [Gm.val] at HC HLG3 H5 H6 HLN3
      clear hy
      obtain rfl : e4 = 0 := H5.out
      obtain rfl : t = g := H6.out
      have HLL := Lib.hid (show L4.length ≤ 4000 by have := HLN3.out; have := HL3.out; have := HNN.out; omega)
      have z0 := E10.out.rc.cell_at 0 (.slice m.a1 s.busy.length m.c1) rfl
      have z1 := E10.out.rc.cell_at 1 (.slice m.a2 s.fails.length m.c2) rfl
      have z2 := E10.out.rc.cell_at 2 (.slice m.a3 s.turns.length m.c3) rfl
      have z3 := E10.out.rc.cell_at 3 (.int .i64 s.cut) rfl
      have z4 := E10.out.rc.cell_at 4 (.slice m.a4 s.torn.length m.c4) rfl
      have z5 := E10.out.rc.cell_at 5 (.slice m.a5 s.marked.length m.c5) rfl
      have z6 := E10.out.rc.cell_at 6 (.int .i64 (n : Int)) rfl
      go_wp2_with fail
      refine HC.out.mono ?_
      rintro _ w11 ⟨rfl, bt, k4, h⟩
      have E11 := Lib.hid h
      have R4 := Lib.hid (R3.out.btw0 bt fun b off e _ => N3.out b off e)
      clear h bt HC E10 R3 N3 H5 H6 HLN3 HLN4 z0 z1 z2 z3 z4 z5 z6
      have G0 := Lib.hid (CRow.new w11 #[.int .i64 0, .int .i64 0, .int .i64 0, .int .i64 0, .int .i64 0, .int .i64 0, .int .i64 0] 23)
      have G1 := Lib.hid (G0.out.set #[.int .i64 t.p, .int .i64 t.b, .int .i64 t.s, .int .i64 t.c, .int .i64 t.k, .int .i64 t.r, .int .i64 t.q])
      have E12 := Lib.hid (E11.out.lay (t := t))
      have R5 := Lib.hid (R4.out.below (below_setRow (below_new w11 (.cells #[.int .i64 0, .int .i64 0, .int .i64 0, .int .i64 0, .int .i64 0, .int .i64 0, .int .i64 0] 23)) (Nat.le_refl _) #[.int .i64 t.p, .int .i64 t.b, .int .i64 t.s, .int .i64 t.c, .int .i64 t.k, .int .i64 t.r, .int .i64 t.q]))
      obtain ⟨w12, hw12⟩ : ∃ w12, w12 = ((w11.alloc (.cells #[.int .i64 0, .int .i64 0, .int .i64 0, .int .i64 0, .int .i64 0, .int .i64 0, .int .i64 0] 23)).setRow w11.heap.size #[.int .i64 t.p, .int .i64 t.b, .int .i64 t.s, .int .i64 t.c, .int .i64 t.k, .int .i64 t.r, .int .i64 t.q]) := ⟨_, rfl⟩
      have HW12 := Lib.hid hw12.symm
      rw [← hw12] at G1 E12 R5
      clear hw12 R4 E11
      go_wp2_with (with_reducible refine (?_ : wpList _ _ _ ({ dst := _, op := Op.store 23 _ _, type := _, pos := _, after := _, guard := _ } :: _) _ _); refine wpList_store_at rfl 23 _ _ rfl 7 size_geomA _ w11.heap.size ?hx rfl _ G0.out.row rfl rfl (by simp [Value.oneCell']) ?_; (case hx => simp [Act.eval]))
      rw [HW12.out]
      clear HW12 G0
      obtain ⟨b9, o9, rfl, hb9, hc9⟩ := R5.out.1.2 (by omega)
      have u0 : w12.cell? ⟨b9, o9, none⟩ = some (.int .u8 73) := hc9 0 (by omega)
      have u2 : w12.cell? ⟨b9, o9 + 2, none⟩ = some (.int .u8 t.p) := (hc9 2 (by omega)).trans (by show some (Value.int .u8 (((t.p % 256).toNat : Nat) : Int)) = _; rw [nameB_two HOK.out])
      clear hb9 hc9 R5
      have y0 := G1.out.cell_at 0 (.int .i64 t.p) rfl
      have y1 := G1.out.cell_at 1 (.int .i64 t.b) rfl
      have y2 := G1.out.cell_at 2 (.int .i64 t.s) rfl
      have y3 := G1.out.cell_at 3 (.int .i64 t.c) rfl
      have y4 := G1.out.cell_at 4 (.int .i64 t.k) rfl
      have y5 := G1.out.cell_at 5 (.int .i64 t.r) rfl
      have y6 := G1.out.cell_at 6 (.int .i64 t.q) rfl
      have x0 := E12.out.rg.cell_at 0 (.int .i64 t.p) rfl
      have x1 := E12.out.rg.cell_at 1 (.int .i64 t.b) rfl
      have x2 := E12.out.rg.cell_at 2 (.int .i64 t.s) rfl
      have x3 := E12.out.rg.cell_at 3 (.int .i64 t.c) rfl
      have x4 := E12.out.rg.cell_at 4 (.int .i64 t.k) rfl
      have x5 := E12.out.rg.cell_at 5 (.int .i64 t.r) rfl
      have x6 := E12.out.rg.cell_at 6 (.int .i64 t.q) rfl
      have htp := (Gm.bounds_of HOK.out).1
      have hwp : IntKind.i64.wrap t.p = t.p := IntWalk.i64_in _ (by omega)
      have HNQ := fun W => neq_geom_no t W
      clear htp
      try go_wp2
      go_region_held3 (fun w' => w'.cell? ⟨b9, o9, none⟩ = some (.int .u8 73) ∧ w'.cell? ⟨b9, o9 + 2, none⟩ = some (.int .u8 t.p) ∧ w'.cell? ⟨w11.heap.size, 0, none⟩ = some (.int .i64 t.p) ∧ w'.cell? ⟨w11.heap.size, 1, none⟩ = some (.int .i64 t.b) ∧ w'.cell? ⟨w11.heap.size, 2, none⟩ = some (.int .i64 t.s) ∧ w'.cell? ⟨w11.heap.size, 3, none⟩ = some (.int .i64 t.c) ∧ w'.cell? ⟨w11.heap.size, 4, none⟩ = some (.int .i64 t.k) ∧ w'.cell? ⟨w11.heap.size, 5, none⟩ = some (.int .i64 t.r) ∧ w'.cell? ⟨w11.heap.size, 6, none⟩ = some (.int .i64 t.q) ∧ w'.cell? ⟨w.heap.size, 0, none⟩ = some (.int .i64 t.p) ∧ w'.cell? ⟨w.heap.size, 1, none⟩ = some (.int .i64 t.b) ∧ w'.cell? ⟨w.heap.size, 2, none⟩ = some (.int .i64 t.s) ∧ w'.cell? ⟨w.heap.size, 3, none⟩ = some (.int .i64 t.c) ∧ w'.cell? ⟨w.heap.size, 4, none⟩ = some (.int .i64 t.k) ∧ w'.cell? ⟨w.heap.size, 5, none⟩ = some (.int .i64 t.r) ∧ w'.cell? ⟨w.heap.size, 6, none⟩ = some (.int .i64 t.q)) (exact ⟨u0, u2, y0, y1, y2, y3, y4, y5, y6, x0, x1, x2, x3, x4, x5, x6⟩) (fail)
      have E13 := Lib.hid (E12.out.below (show Below w12.heap.size w12 w12.drew from (Below.refl _ _).drew))
      clear u0 u2 hwp HNQ E12 G1 x0 x1 x2 x3 x4 x5 x6 y0 y1 y2 y3 y4 y5 y6
      go_wp2
      obtain ⟨wnow, hwn⟩ : ∃ wnow, wnow = w12.drew := ⟨_, rfl⟩
      rw [← hwn] at E13 ⊢
      clear hwn
      refine wp_region_noPanic ?_
      refine wp_region_held_drew (S := fun w' => Below wnow.heap.size wnow w') (by kernel_rfl) ((Below.refl _ _).drew) (fun C0 => ?_)
      refine tkH4 0 C0 ?_ (hy := fun W' hSw => by have E99 := E13.out.below hSw; have x0 := E99.rg.cell_at 0 (.int .i64 t.p) rfl; have x1 := E99.rg.cell_at 1 (.int .i64 t.b) rfl; have x2 := E99.rg.cell_at 2 (.int .i64 t.s) rfl; have x3 := E99.rg.cell_at 3 (.int .i64 t.c) rfl; have x4 := E99.rg.cell_at 4 (.int .i64 t.k) rfl; have x5 := E99.rg.cell_at 5 (.int .i64 t.r) rfl; have x6 := E99.rg.cell_at 6 (.int .i64 t.q) rfl; clear E99; clear hSw; go_simp <;> with_reducible rfl)
      refine tkH4 1 C0 ?_
      refine wpAnyH_ready (rs := [2]) (by kernel_rfl) (by simp) ?_
      refine AllReadyH.cons (o := zZGc0) rfl (fun K hK => ?_) AllReadyH.nil
      dsimp only [zZGc0]
      go_simp
      refine (ie_trace (by have := HLL.out; omega) (E13.out.1.below C0)).mono ?_
      rintro _ v1 ⟨A1, c4, rfl, r4, hB⟩
      have RT := Lib.hid r4
      clear r4
      go_wp2_with fail
      refine hK.out _ _ (C0.trans (hB.mono C0.size)) (fun C1 => ?_)
      clear hK K hB
      try simp only [Act.put, zzI, zzO, zzS]
      refine wpAnyH_ready (rs := [3]) (by kernel_rfl) (by simp) ?_
      refine AllReadyH.cons (o := zZGc1) rfl (fun K hK => ?_) AllReadyH.nil
      dsimp only [zZGc1]
      go_simp
      refine (run_all (c4 := c4) HOK.out HLG3.out (by have := HLL.out; omega) RT.out).mono ?_
      rintro _ v2 ⟨rfl, hB⟩
      go_wp2_with fail
      refine hK.out _ _ (C1.trans (hB.mono C1.size)) (fun C2 => ?_)
      clear hK K hB
      try simp only [Act.put, zzI, zzO, zzS]
      refine tkH4 4 C2 ?_
      refine tkH4 5 C2 ?_
      refine tkH4 6 C2 ?_
      refine tkH4 7 C2 ?_
      refine tkH4 8 C2 ?_
      refine wpAnyH_done (by kernel_rfl) ?_ _
      refine NoPanic.normal ?_
      have BZ := Lib.hid (below_step E13.out.bel C2)
      go_wp2
      go_ret
      exact ⟨rfl, BZ.out⟩
end Go.Proofs.YtmbgoopkpfhamaaGreat
