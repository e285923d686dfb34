/-
  Contracts of the array's made, fits, row, block, over the landed code.
-/
import Derived.Test.YtmbgoopkpfhamaaGreatTk
import Derived.Test.YtmbgoopkpfhamaaGreatTkB
import Derived.Deep.RegionHeld3
import Derived.Deep.MidRow
import Derived.Test.YtmbgoopkpfhamaaGreatIdentChecksJ8
import Derived.Test.YtmbgoopkpfhamaaGreatIdentChecksJ6
import Derived.Test.YtmbgoopkpfhamaaGreatIdentChecksJ4
namespace Go.Proofs.YtmbgoopkpfhamaaGreat
open Go.RowKit
set_option maxRecDepth 100000
theorem neqRows (q n c : Nat) (w : World) : (binOp .neq 109 (.slice (some ⟨q, 0, none⟩) n c) (.slice none 0 0)).run Tryz.prog w = .ok (.bool true) w := by kernel_rfl
theorem made_yes (p q n c : Nat) (w : World) (x7 : w.cell? ⟨p, 7, none⟩ = some (.slice (some ⟨q, 0, none⟩) n c)) :
  Calls Tryz.prog 65 #[.pointer (some ⟨p, 0, none⟩)] w (Gives (.bool true) w) := by
 have hne := neqRows
 go_enter Tryz.func65, Tryz.ntmps65
 go_wp2
 go_ret
 exact ⟨rfl, Below.refl _ _⟩
theorem fits_any (p : Nat) (g : Gm) (N : Nat) (hN : g.raw = (N : Int)) (B : Option Addr) (n c : Nat) (w : World) (h : GBox w p g) :
  Calls Tryz.prog 131 #[.pointer (some ⟨p, 0, none⟩), .slice B n c] w (Gives (.bool (decide (n = N))) w) := by
 have hRaw := Raw_is g N hN
 obtain ⟨p0, b, s, gc, k, r, q⟩ := g
 obtain ⟨_, x0, x1, x2, x3, x4, x5, x6⟩ := h
 simp only [Gm.val] at hRaw x0 x1 x2 x3 x4 x5 x6
 clear hN
 go_enter Tryz.func131, Tryz.ntmps131
 go_wp2_with fail
 clear x0 x1 x2 x3 x4 x5 x6
 refine (hRaw _).mono ?_
 rintro _ w1 ⟨rfl, h1⟩
 have B1 := Lib.hid h1
 clear h1 hRaw
 by_cases e : n = N
 ·
  subst e
  go_wp2
  go_ret
  exact ⟨by simp, B1.out⟩
 ·
  have e1 : ((n : Int) == (N : Int)) = false := by rw [beq_eq_false_iff_ne]; omega
  have e2 := Lib.hid (decide_eq_false e)
  clear e
  go_wp2
  go_ret
  exact ⟨by rw [e2.out]; rfl, B1.out⟩
theorem row_yes (p q n c k : Nat) (w : World) (x7 : w.cell? ⟨p, 7, none⟩ = some (.slice (some ⟨q, 0, none⟩) n c)) (hp : p < w.heap.size) (hk : k < n) :
  Calls Tryz.prog 151 #[.pointer (some ⟨p, 0, none⟩), .int .i64 (k : Int)] w (Gives (.tuple #[.pointer (some ⟨q, k * 3, none⟩), .bool true]) w) := by
 have X7 := Lib.hid x7
 have i0 : (0 : Int) ≤ (k : Int) := by omega
 have i1 : (k : Int) < (n : Int) := by omega
 go_enter Tryz.func151, Tryz.ntmps151
 go_wp2_with fail
 refine (made_yes p q n c _ X7.out).mono ?_
 rintro _ w1 ⟨rfl, h1⟩
 have B1 := Lib.hid h1
 have y7 := (h1.cell hp).trans X7.out
 clear h1 x7
 go_wp2
 go_ret2
 exact ⟨by simp, B1.out⟩
theorem run_slice_mid3 {P : Program} {t e : TypeId} {i0 : TypeInfo} (h1 : P.underlying t = some (.slice e)) (h2 : P.info? e = some i0) (h4 : P.cellsOf e = 3) (q n c i j : Nat) (hij : i ≤ j) (hi : i < c) (hj : j ≤ c) (W : World) :
  (Instr.slice t (.slice (some ⟨q, 0, none⟩) n c) (some (.int .i64 (i : Int))) (some (.int .i64 (j : Int))) none).run P W = .ok (.slice (some ⟨q, i * 3, none⟩) (j - i) (c - i)) W := by
 have hb : (Instr.sliceBound (.int .i64 (j : Int)) c .sliceAcap).run P W = .ok j W := by
  rw [run_sliceBound W .i64 _ _ _ (by omega) (by omega)]; simp
 have hb2 : (Instr.sliceBound (.int .i64 (i : Int)) j .sliceB).run P W = .ok i W := by
  rw [run_sliceBound W .i64 _ _ _ (by omega) (by omega)]; simp
 have hc : ¬ c = i := by omega
 simp [Instr.slice, run_underlying h1, Instr.sliceBounds, hb, hb2, run_sizeOf W h2, h4, Addr.add, hc]
 exact fun h => h.symm
theorem run_sliceAt_mid3 {P : Program} {t e : TypeId} {i0 : TypeInfo} (h1 : P.underlying t = some (.slice e)) (h2 : P.info? e = some i0) (h4 : P.cellsOf e = 3) (q n c i j : Nat) (hij : i ≤ j) (hi : i < c) (hj : j ≤ c) (W : World) :
  (Instr.sliceAt t (.slice (some ⟨q, 0, none⟩) n c) (some (.int .i64 (i : Int))) (some (.int .i64 (j : Int))) none).run P W = .ok (.slice (some ⟨q, i * 3, none⟩) (j - i) (c - i)) W := by
 rw [← run_slice_mid3 h1 h2 h4 q n c i j hij hi hj W]
 simp [Instr.sliceAt, run_underlying h1]
theorem info_row : ∃ i, Tryz.prog.info? 116 = some i := Option.isSome_iff_exists.1 (by kernel_rfl)
theorem cells_row : Tryz.prog.cellsOf 116 = 3 := by kernel_rfl
set_option maxHeartbeats 1000000 in
theorem block_no (p q n c : Nat) (g : Gm) (x : Int) (w : World) (hg : GBox w p g) (x7 : w.cell? ⟨p, 7, none⟩ = some (.slice (some ⟨q, 0, none⟩) n c)) (hb : 0 < g.s) (hx : ¬ (0 ≤ x ∧ x < g.b)) :
  Calls Tryz.prog 43 #[.pointer (some ⟨p, 0, none⟩), .int .i64 x] w (Gives (.tuple #[.slice none 0 0, .bool false]) w) := by
 have HRow := Lib.hid (fun w' => Row_no g x 0 (fun h => hx h.2.1) w')
 have hp := hg.1
 have G0 := Lib.hid hg
 have X7 := Lib.hid x7
 clear hx x7 hg
 obtain ⟨p0, b, s, gc, k, r, u⟩ := g
 simp only [Gm.val] at HRow
 go_enter Tryz.func43, Tryz.ntmps43
 go_wp2_with fail
 refine (made_yes p q n c _ X7.out).mono ?_
 rintro _ w1 ⟨rfl, h1⟩
 have B1 := Lib.hid h1
 obtain ⟨_, x0, x1, x2, x3, x4, x5, x6⟩ := G0.out.below h1
 simp only at x0 x1 x2 x3 x4 x5 x6
 clear h1
 go_wp2_with fail
 clear x0 x1 x2 x3 x4 x5 x6
 refine (HRow.out _).mono ?_
 rintro _ w2 hw2
 obtain ⟨rfl, h2⟩ := hw2
 have B2 := Lib.hid (below_step B1.out h2)
 clear h2
 go_wp2
 go_ret2
 exact ⟨rfl, B2.out⟩
set_option maxHeartbeats 2000000 in
theorem block_yes (p q R S a k : Nat) (g : Gm) (w : World) (hg : GBox w p g) (x7 : w.cell? ⟨p, 7, none⟩ = some (.slice (some ⟨q, 0, none⟩) R R)) (ho : g.ok = true) (hk : (k : Int) < g.b) (hs : g.s = (S : Int)) (ha : a = k * S) (hR : a + S ≤ R) (hR2 : R ≤ 1000000) :
  Calls Tryz.prog 43 #[.pointer (some ⟨p, 0, none⟩), .int .i64 (k : Int)] w (Gives (.tuple #[.slice (some ⟨q, a * 3, none⟩) S (R - a), .bool true]) w) := by
 have hb := Gm.bounds_of ho
 have e : (k : Int) * g.s + 0 = (a : Int) := by rw [hs, ha]; push_cast; omega
 have HRow := Lib.hid (fun w' => Row_yes g k 0 ⟨ho, ⟨by omega, hk⟩, by omega, by omega⟩ w')
 rw [e] at HRow
 have hS : 0 < S := by omega
 obtain ⟨i0, hi⟩ := info_row
 have hSl1 := run_slice_mid3 (P := Tryz.prog) Tryz.underlying109 hi cells_row q R R a (a + S) (by omega) (by omega) (by omega)
 have hSl2 := run_sliceAt_mid3 (P := Tryz.prog) Tryz.underlying109 hi cells_row q R R a (a + S) (by omega) (by omega) (by omega)
 rw [show a + S - a = S by omega, Int.natCast_add] at hSl1 hSl2
 have hp := hg.1
 have G0 := Lib.hid hg
 have X7 := Lib.hid x7
 clear x7 hg e hk ha hi
 obtain ⟨p0, b, s, gc, kk, r, u⟩ := g
 simp only [Gm.val] at HRow
 simp only at hs hb
 subst hs
 have hp := G0.out.1
 have hw : IntKind.i64.wrap ((a : Int) + (S : Int)) = (a : Int) + (S : Int) := IntWalk.i64_in _ (by omega)
 go_enter Tryz.func43, Tryz.ntmps43
 go_wp2_with fail
 refine (made_yes p q R R _ X7.out).mono ?_
 rintro _ w0 ⟨rfl, h1⟩
 have B0 := Lib.hid h1
 have X7 := Lib.hid ((h1.cell hp).trans X7.out)
 have hp0 : p < w0.heap.size := Nat.lt_of_lt_of_le hp h1.size
 obtain ⟨_, x0, x1, x2, x3, x4, x5, x6⟩ := G0.out.below h1
 simp only at x0 x1 x2 x3 x4 x5 x6
 clear h1
 go_wp2_with fail
 have X2 := Lib.hid x2
 clear x0 x1 x2 x3 x4 x5 x6
 refine (HRow.out _).mono ?_
 rintro _ w1 hw2
 obtain ⟨rfl, h2⟩ := hw2
 have B1 := Lib.hid (below_step B0.out h2)
 have X7 := Lib.hid ((h2.cell hp0).trans X7.out)
 have X2 := Lib.hid ((h2.cell hp0).trans X2.out)
 have hp1 : p < w1.heap.size := Nat.lt_of_lt_of_le hp0 h2.size
 clear h2 B0
 go_wp2
 refine wp_region_noPanic ?_
 refine wp_region_held_drew (S := fun w' => Below w1.heap.size w1 w') (by kernel_rfl) ((Below.refl _ _).drew) (fun C0 => ?_)
 refine tkH4 0 C0 ?_
 refine tkH4 1 C0 ?_
 refine tkH4 2 C0 ?_
 refine tkH4 3 C0 ?_ (hy := fun W' hSw => by have y := (hSw.cell hp1).trans X7.out; clear hSw; go_simp <;> with_reducible rfl)
 refine tkH4 4 C0 ?_
 refine tkH4 5 C0 ?_
 refine tkH4 6 C0 ?_
 refine tkH4 7 C0 ?_
 refine tkH4 8 C0 ?_
 refine tkH4 9 C0 ?_
 refine tkH4 10 C0 ?_ (hy := fun W' hSw => by have y := (hSw.cell hp1).trans X2.out; clear hSw; go_simp <;> with_reducible rfl)
 refine tkH4 11 C0 ?_
 refine tkH4 12 C0 ?_ (hy := fun W' hSw => by have y1 := hSl1 W'; have y2 := hSl2 W'; clear hSw; go_simp <;> with_reducible rfl)
 refine tkH4 13 C0 ?_
 refine tkH4 14 C0 ?_
 refine wpAnyH_done (by kernel_rfl) ?_ _
 refine NoPanic.normal ?_
 go_wp2
 go_ret2
 exact ⟨rfl, below_step B1.out C0⟩
section
variable {I K : Nat → Prop} {w w' : World} {p : Nat} {g : Gm} {j : Jd} {m : Jm}
def Jd.addr2 (j : Jd) (k : Nat) : Nat := j.listed.getD k 0 + 256 * j.listed.getD (k + 1) 0
theorem jdrop_two {l : List Nat} {k : Nat} (h : l.length = k + 2) : l.drop k = [l.getD k 0, l.getD (k + 1) 0] := by
 apply List.ext_getElem?
 intro i
 rw [List.getElem?_drop]
 match i with
 | 0 => simp [List.getD, show k < l.length by omega]
 | 1 => simp [List.getD, show k + 1 < l.length by omega]
 | i + 2 => rw [List.getElem?_eq_none (by omega)]; simp
theorem jtake_two {l : List Nat} (h : 2 ≤ l.length) : l.take 2 = [l.getD 0 0, l.getD 1 0] := by
 apply List.ext_getElem?
 intro i
 rw [List.getElem?_take]
 match i with
 | 0 => simp [List.getD, show 0 < l.length by omega]
 | 1 => simp [List.getD, show 1 < l.length by omega]
 | i + 2 => rw [if_neg (by omega)]; simp
def Gm.rows_ (g : Gm) : Nat := g.b.toNat * g.s.toNat
def spB (g : Gm) (a : Nat) : Nat := if a < g.rows_ then a / g.s.toNat else 0
def spP (g : Gm) (a : Nat) : Nat := if a < g.rows_ then a % g.s.toNat else 0
theorem Gm.rows_int {g : Gm} (h : g.ok = true) : g.b * g.s = (g.rows_ : Int) := by
 have hbd := Gm.bounds_of h
 have hgs : g.s = (g.s.toNat : Int) := by omega
 have hgb : g.b = (g.b.toNat : Int) := by omega
 unfold Gm.rows_
 rw [Int.natCast_mul, ← hgb, ← hgs]
theorem jSplit (g : Gm) (h : g.ok = true) (a : Nat) (W : World) : Calls Tryz.prog 78 #[g.val, .int .i64 (a : Int)] W (Gives (.tuple #[.int .i64 (spB g a : Int), .int .i64 (spP g a : Int), .bool (decide (a < g.rows_))]) W) := by
 have hbd := Gm.bounds_of h
 have hgs : g.s = (g.s.toNat : Int) := by omega
 have e := Gm.rows_int h
 by_cases h1 : a < g.rows_
 ·
  have hr : g.hasRow (a : Int) := by
   unfold Gm.hasRow
   rw [e]
   exact ⟨h, by omega, by omega⟩
  have h2 := Split_yes g (a : Int) hr W
  have e1 : (a : Int) / g.s = (spB g a : Int) := by unfold spB; rw [if_pos h1, Int.natCast_ediv, ← hgs]
  have e2 : (a : Int) % g.s = (spP g a : Int) := by unfold spP; rw [if_pos h1, Int.natCast_emod, ← hgs]
  rw [e1, e2] at h2
  rw [decide_eq_true h1]
  exact h2
 ·
  have hr : ¬ g.hasRow (a : Int) := by
   unfold Gm.hasRow
   rw [e]
   omega
  have h2 := Split_no g (a : Int) hr W
  have e1 : (spB g a : Int) = 0 := by unfold spB; rw [if_neg h1]; rfl
  have e2 : (spP g a : Int) = 0 := by unfold spP; rw [if_neg h1]; rfl
  rw [e1, e2, decide_eq_false h1]
  exact h2
theorem spB_lt {g : Gm} (h : g.ok = true) (a : Nat) : spB g a < g.b.toNat := by
 have hbd := Gm.bounds_of h
 unfold spB
 split
 ·
  rename_i h1
  rw [Nat.div_lt_iff_lt_mul (by omega)]
  exact h1
 ·
  omega
theorem spP_lt {g : Gm} (h : g.ok = true) (a : Nat) : spP g a < g.s.toNat := by
 have hbd := Gm.bounds_of h
 unfold spP
 split
 ·
  exact Nat.mod_lt _ (by omega)
 ·
  omega
set_option maxHeartbeats 2000000 in
theorem jlistedRow (k : Nat) (hk : j.listed.length = k + 2) (hk4 : k ≤ 2) (h : JH I w p g j) : Calls Tryz.prog 121 #[.pointer (some ⟨p, 0, none⟩)] w (Gives (.int .i64 (j.addr2 k : Int)) w) := by
 obtain ⟨m, h, hp⟩ := h
 obtain ⟨ti, hti, hz0, hz1, hz2⟩ := info_parts info_u8
 obtain ⟨zL, hzL⟩ : ∃ zL, zL = m.aL := ⟨_, rfl⟩
 have x1 : w.cell? ⟨p, 1, none⟩ = some (.slice zL (k + 2) m.cL) := by rw [hzL, ← hk]; exact h.cell_at 1 _ rfl
 have hcap := own_cap hp.lis
 have HSF := run_slice_from (P := Tryz.prog) Tryz.underlying26 hti (by kernel_rfl) zL (k + 2) m.cL k (by omega)
 rw [show k + 2 - k = 2 by omega] at HSF
 have hr := (R8.own hp.lis hp.l8).cutA k m.cL (by omega) (by omega)
 rw [hk, show k + 2 - k = 2 by omega, jdrop_two hk, ← hzL] at hr
 have HR := Lib.hid hr
 have RW0 := Lib.hid h
 generalize cutA zL m.cL k = zC at *
 have X1 := Lib.hid x1
 have HNO := Lib.hid (fun W hr => Number_yes zC (m.cL - k) (j.listed.getD k 0) (j.listed.getD (k + 1) 0) W hr)
 have hadr : j.listed.getD k 0 + 256 * j.listed.getD (k + 1) 0 = j.addr2 k := rfl
 rw [hadr] at HNO
 have w1 : IntKind.i64.wrap ((k : Int) + 2 - 2) = (k : Int) := by rw [IntWalk.i64_in _ (by omega)]; omega
 have w3 : IntKind.i64.wrap (k : Int) = (k : Int) := IntWalk.i64_in _ (by omega)
 generalize j.addr2 k = a at *
 clear x1 h hp hk hzL hr hadr hcap
 go_enter Tryz.func121, Tryz.ntmps121
 go_wp2
 refine wp_region_noPanic ?_
 refine wp_region_held_drew (S := fun w' => Below w.heap.size w w') (by kernel_rfl) ((Below.refl _ _).drew) (fun C0 => ?_)
 refine tkH4 0 C0 ?_
 refine tkH4 1 C0 ?_
 refine tkH4 2 C0 ?_
 refine tkH4 3 C0 ?_
 refine tkH4 4 C0 ?_ (hy := fun W' hSw => by have y1 : W'.cell? ⟨p, 1, none⟩ = some (.slice zL (k + 2) m.cL) := (hSw.cell (show (⟨p, 1, none⟩ : Addr).block < w.heap.size from RW0.out.lt)).trans X1.out; clear hSw; go_simp <;> with_reducible rfl)
 refine tkH4 5 C0 ?_
 refine tkH4 6 C0 ?_
 refine tkH4 7 C0 ?_
 refine tkH4 8 C0 ?_
 refine tkH4 9 C0 ?_ (hy := fun W' hSw => by have y1 : W'.cell? ⟨p, 1, none⟩ = some (.slice zL (k + 2) m.cL) := (hSw.cell (show (⟨p, 1, none⟩ : Addr).block < w.heap.size from RW0.out.lt)).trans X1.out; clear hSw; go_simp <;> with_reducible rfl)
 refine tkH4 10 C0 ?_
 refine tkH4 11 C0 ?_
 refine tkH4 12 C0 ?_
 refine wpAnyH_ready (rs := [13]) (by kernel_rfl) (by simp) ?_
 refine AllReadyH.cons (o := { dst := some 19, op := Op.call { callee := Callee.value (Operand.func 53), args := #[Operand.tmp 18], argTypes := #[26] }, type := 47, pos := "rules.go:383", after := #[{ on := 12, ground := Ground.data }], guard := none }) rfl (fun K hK => ?_) AllReadyH.nil
 go_simp
 refine (HNO.out _ (HR.out.below ((Below.refl _ _).drew))).mono ?_
 intro _ w2 hq
 obtain ⟨rfl, D2⟩ := hq.at_
 have B2 := Lib.hid (show Below w.heap.size w w2 from ((Below.refl _ _).drew).trans (D2.out.mono (Nat.le_refl _)))
 clear hq D2
 go_wp2_with fail
 refine hK.out _ _ B2.out (fun C1 => ?_)
 clear hK K
 try simp only [Act.put, zzI, zzO, zzS]
 refine tkH4 14 C1 ?_
 refine tkH4 15 C1 ?_
 refine tkH4 16 C1 ?_
 refine tkH4 17 C1 ?_
 refine tkH4 18 C1 ?_
 refine wpAnyH_done (by kernel_rfl) ?_ _
 refine NoPanic.normal ?_
 go_wp2
 go_ret
 exact ⟨rfl, B2.out⟩
set_option maxHeartbeats 2000000 in
theorem jlistedColumn (hk : 2 ≤ j.listed.length) (h : JH I w p g j) : Calls Tryz.prog 105 #[.pointer (some ⟨p, 0, none⟩)] w (Gives (.int .i64 (j.addr2 0 : Int)) w) := by
 obtain ⟨m, h, hp⟩ := h
 obtain ⟨ti, hti, hz0, hz1, hz2⟩ := info_parts info_u8
 obtain ⟨zL, hzL⟩ : ∃ zL, zL = m.aL := ⟨_, rfl⟩
 obtain ⟨n, hn⟩ : ∃ n, n = j.listed.length := ⟨_, rfl⟩
 have x1 : w.cell? ⟨p, 1, none⟩ = some (.slice zL n m.cL) := by rw [hzL, hn]; exact h.cell_at 1 _ rfl
 have hcap := own_cap hp.lis
 have HSF := run_slice_to (P := Tryz.prog) Tryz.underlying26 hti (by kernel_rfl) zL n m.cL 2 (by omega)
 rw [show ((2 : Nat) : Int) = 2 from rfl] at HSF
 have hr := (R8.own hp.lis hp.l8).take_ 2 (by omega)
 rw [jtake_two hk, ← hzL] at hr
 have HR := Lib.hid hr
 have HNO := Lib.hid (fun W hr => Number_yes zL m.cL (j.listed.getD 0 0) (j.listed.getD 1 0) W hr)
 have hadr : j.listed.getD 0 0 + 256 * j.listed.getD 1 0 = j.addr2 0 := rfl
 rw [hadr] at HNO
 generalize j.addr2 0 = a at *
 clear h hp hk hzL hr hadr hcap hn
 go_enter Tryz.func105, Tryz.ntmps105
 go_wp2_with fail
 refine (HNO.out _ HR.out).mono ?_
 intro _ w2 hq
 obtain ⟨rfl, D2⟩ := hq.at_
 clear hq
 go_wp2
 go_ret
 exact ⟨rfl, D2.out⟩
set_option maxHeartbeats 2000000 in
theorem jisRow (k : Nat) (hk : j.listed.length = k + 2) (hk4 : k ≤ 2) (h : JH I w p g j) : Calls Tryz.prog 107 #[.pointer (some ⟨p, 0, none⟩)] w (Gives (.bool (decide (j.addr2 k < g.rows_))) w) := by
 have H0 := Lib.hid h
 have HLR := Lib.hid (fun W (hh : JH I W p g j) => jlistedRow k hk hk4 hh)
 have HSP := Lib.hid (fun W => jSplit g h.ok (j.addr2 k) W)
 obtain ⟨m, hc, hr⟩ := h
 have C0 := Lib.hid hc
 simp only [Gm.val] at HSP
 generalize j.addr2 k = a at *
 generalize decide (a < g.rows_) = bb at *
 clear hc hr hk
 go_enter Tryz.func107, Tryz.ntmps107
 go_wp2
 refine wp_region_noPanic ?_
 refine wp_region_held_drew (S := fun w' => Below w.heap.size w w') (by kernel_rfl) ((Below.refl _ _).drew) (fun C1 => ?_)
 refine tkH4 0 C1 ?_
 refine tkH4 1 C1 ?_
 refine tkH4 2 C1 ?_
 refine tkH4 3 C1 ?_ (hy := fun W' hSw => by have g12 : W'.cell? ⟨p, 12, none⟩ = some (.int .i64 g.p) := (hSw.cell (show (⟨p, 12, none⟩ : Addr).block < w.heap.size from C0.out.lt)).trans (C0.out.cell_at 12 _ rfl); have g13 : W'.cell? ⟨p, 13, none⟩ = some (.int .i64 g.b) := (hSw.cell (show (⟨p, 13, none⟩ : Addr).block < w.heap.size from C0.out.lt)).trans (C0.out.cell_at 13 _ rfl); have g14 : W'.cell? ⟨p, 14, none⟩ = some (.int .i64 g.s) := (hSw.cell (show (⟨p, 14, none⟩ : Addr).block < w.heap.size from C0.out.lt)).trans (C0.out.cell_at 14 _ rfl); have g15 : W'.cell? ⟨p, 15, none⟩ = some (.int .i64 g.c) := (hSw.cell (show (⟨p, 15, none⟩ : Addr).block < w.heap.size from C0.out.lt)).trans (C0.out.cell_at 15 _ rfl); have g16 : W'.cell? ⟨p, 16, none⟩ = some (.int .i64 g.k) := (hSw.cell (show (⟨p, 16, none⟩ : Addr).block < w.heap.size from C0.out.lt)).trans (C0.out.cell_at 16 _ rfl); have g17 : W'.cell? ⟨p, 17, none⟩ = some (.int .i64 g.r) := (hSw.cell (show (⟨p, 17, none⟩ : Addr).block < w.heap.size from C0.out.lt)).trans (C0.out.cell_at 17 _ rfl); have g18 : W'.cell? ⟨p, 18, none⟩ = some (.int .i64 g.q) := (hSw.cell (show (⟨p, 18, none⟩ : Addr).block < w.heap.size from C0.out.lt)).trans (C0.out.cell_at 18 _ rfl); clear hSw; go_simp <;> with_reducible rfl)
 refine tkH4 4 C1 ?_
 refine wpAnyH_ready (rs := [5]) (by kernel_rfl) (by simp) ?_
 refine AllReadyH.cons (o := { dst := some 12, op := Op.call { callee := Callee.value (Operand.func 121), args := #[Operand.tmp 11], argTypes := #[89] }, type := 3, pos := "rules.go:395", after := #[{ on := 4, ground := Ground.data }], guard := none }) rfl (fun K hK => ?_) AllReadyH.nil
 go_simp
 refine (HLR.out _ (H0.out.below C1)).mono ?_
 rintro _ w2 ⟨rfl, hb⟩
 have B2 := Lib.hid (show Below w.heap.size w w2 from C1.trans (hb.mono C1.size))
 clear hb
 go_wp2_with fail
 refine hK.out _ _ B2.out (fun C2 => ?_)
 clear hK K
 try simp only [Act.put, zzI, zzO, zzS]
 refine wpAnyH_ready (rs := [6]) (by kernel_rfl) (by simp) ?_
 refine AllReadyH.cons (o := { dst := some 13, op := Op.call { callee := Callee.value (Operand.func 78), args := #[Operand.tmp 10, Operand.tmp 12], argTypes := #[23, 3] }, type := 153, pos := "rules.go:395", after := #[{ on := 3, ground := Ground.data }, { on := 5, ground := Ground.data }, { on := 5, ground := Ground.chain }], guard := none }) rfl (fun K hK => ?_) AllReadyH.nil
 go_simp
 refine (HSP.out _).mono ?_
 rintro _ w3 ⟨rfl, hb⟩
 have B3 := Lib.hid (show Below w.heap.size w w3 from C2.trans (hb.mono C2.size))
 clear hb
 go_wp2_with fail
 refine hK.out _ _ B3.out (fun C3 => ?_)
 clear hK K
 try simp only [Act.put, zzI, zzO, zzS]
 refine tkH4 7 C3 ?_
 refine tkH4 8 C3 ?_
 refine tkH4 9 C3 ?_
 refine tkH4 10 C3 ?_
 refine tkH4 11 C3 ?_
 refine tkH4 12 C3 ?_
 refine tkH4 13 C3 ?_
 refine wpAnyH_done (by kernel_rfl) ?_ _
 refine NoPanic.normal ?_
 go_wp2
 go_ret
 exact ⟨rfl, B3.out⟩
theorem Gm.raw_nat {g : Gm} (h : g.ok = true) : g.raw = (g.raw.toNat : Int) ∧ 31 ≤ g.raw.toNat ∧ g.raw.toNat ≤ 8255 := by
 have hbd := Gm.bounds_of h
 have hraw : g.raw = g.c * (g.k + 2) + 31 := by unfold Gm.raw; rw [if_pos h]
 have hck : 0 ≤ g.c * (g.k + 2) ∧ g.c * (g.k + 2) ≤ 16 * 514 := mul_le (by omega) (by omega) (by omega) (by omega)
 omega
set_option maxHeartbeats 2000000 in
theorem jisColumn (hk : 2 ≤ j.listed.length) (h : JH I w p g j) : Calls Tryz.prog 106 #[.pointer (some ⟨p, 0, none⟩)] w (Gives (.bool (decide (j.addr2 0 < g.raw.toNat))) w) := by
 have H0 := Lib.hid h
 have HLC := Lib.hid (fun W (hh : JH I W p g j) => jlistedColumn hk hh)
 have HRA := Lib.hid (fun W => Raw_is g (g.raw.toNat : Int) (Gm.raw_nat h.ok).1 W)
 obtain ⟨m, hc, hr⟩ := h
 have C0 := Lib.hid hc
 simp only [Gm.val] at HRA
 generalize j.addr2 0 = a at *
 generalize g.raw.toNat = N at *
 clear hc hr hk
 go_enter Tryz.func106, Tryz.ntmps106
 go_wp2
 refine wp_region_noPanic ?_
 refine wp_region_held_drew (S := fun w' => Below w.heap.size w w') (by kernel_rfl) ((Below.refl _ _).drew) (fun C1 => ?_)
 refine tkH4 0 C1 ?_
 refine tkH4 2 C1 ?_
 refine tkH4 3 C1 ?_
 refine tkH4 4 C1 ?_
 refine tkH4 5 C1 ?_ (hy := fun W' hSw => by have g12 : W'.cell? ⟨p, 12, none⟩ = some (.int .i64 g.p) := (hSw.cell (show (⟨p, 12, none⟩ : Addr).block < w.heap.size from C0.out.lt)).trans (C0.out.cell_at 12 _ rfl); have g13 : W'.cell? ⟨p, 13, none⟩ = some (.int .i64 g.b) := (hSw.cell (show (⟨p, 13, none⟩ : Addr).block < w.heap.size from C0.out.lt)).trans (C0.out.cell_at 13 _ rfl); have g14 : W'.cell? ⟨p, 14, none⟩ = some (.int .i64 g.s) := (hSw.cell (show (⟨p, 14, none⟩ : Addr).block < w.heap.size from C0.out.lt)).trans (C0.out.cell_at 14 _ rfl); have g15 : W'.cell? ⟨p, 15, none⟩ = some (.int .i64 g.c) := (hSw.cell (show (⟨p, 15, none⟩ : Addr).block < w.heap.size from C0.out.lt)).trans (C0.out.cell_at 15 _ rfl); have g16 : W'.cell? ⟨p, 16, none⟩ = some (.int .i64 g.k) := (hSw.cell (show (⟨p, 16, none⟩ : Addr).block < w.heap.size from C0.out.lt)).trans (C0.out.cell_at 16 _ rfl); have g17 : W'.cell? ⟨p, 17, none⟩ = some (.int .i64 g.r) := (hSw.cell (show (⟨p, 17, none⟩ : Addr).block < w.heap.size from C0.out.lt)).trans (C0.out.cell_at 17 _ rfl); have g18 : W'.cell? ⟨p, 18, none⟩ = some (.int .i64 g.q) := (hSw.cell (show (⟨p, 18, none⟩ : Addr).block < w.heap.size from C0.out.lt)).trans (C0.out.cell_at 18 _ rfl); clear hSw; go_simp <;> with_reducible rfl)
 refine wpAnyH_ready (rs := [1]) (by kernel_rfl) (by simp) ?_
 refine AllReadyH.cons (o := { dst := some 4, op := Op.call { callee := Callee.value (Operand.func 105), args := #[Operand.tmp 3], argTypes := #[89] }, type := 3, pos := "rules.go:402", after := #[{ on := 0, ground := Ground.data }], guard := none }) rfl (fun K hK => ?_) AllReadyH.nil
 go_simp
 refine (HLC.out _ (H0.out.below C1)).mono ?_
 rintro _ w2 ⟨rfl, hb⟩
 have B2 := Lib.hid (show Below w.heap.size w w2 from C1.trans (hb.mono C1.size))
 clear hb
 go_wp2_with fail
 refine hK.out _ _ B2.out (fun C2 => ?_)
 clear hK K
 try simp only [Act.put, zzI, zzO, zzS]
 refine wpAnyH_ready (rs := [6]) (by kernel_rfl) (by simp) ?_
 refine AllReadyH.cons (o := { dst := some 9, op := Op.call { callee := Callee.value (Operand.func 68), args := #[Operand.tmp 8], argTypes := #[23] }, type := 3, pos := "rules.go:402", after := #[{ on := 5, ground := Ground.data }, { on := 1, ground := Ground.chain }], guard := none }) rfl (fun K hK => ?_) AllReadyH.nil
 go_simp
 refine (HRA.out _).mono ?_
 rintro _ w3 ⟨rfl, hb⟩
 have B3 := Lib.hid (show Below w.heap.size w w3 from C2.trans (hb.mono C2.size))
 clear hb
 go_wp2_with fail
 refine hK.out _ _ B3.out (fun C3 => ?_)
 clear hK K
 try simp only [Act.put, zzI, zzO, zzS]
 refine tkH4 7 C3 ?_
 refine tkH4 8 C3 ?_
 refine wpAnyH_done (by kernel_rfl) ?_ _
 refine NoPanic.normal ?_
 go_wp2
 go_ret
 exact ⟨by simp, B3.out⟩
theorem jplane (b : Nat) (hb : b < g.b.toNat) (h : JH I w p g j) : Calls Tryz.prog 125 #[.pointer (some ⟨p, 0, none⟩), .int .i64 (b : Int)] w (Gives (.int .i64 ((b % g.p.toNat : Nat) : Int)) w) := by
 have hbd := Gm.bounds_of h.ok
 have HPL := Lib.hid (fun W => Plane_yes g (b : Int) ⟨h.ok, by omega, by omega⟩ W)
 have e : (b : Int) % g.p = ((b % g.p.toNat : Nat) : Int) := by
  have hp : g.p = (g.p.toNat : Int) := by omega
  rw [Int.natCast_emod, ← hp]
 rw [e] at HPL
 obtain ⟨m, hc, hr⟩ := h
 have C0 := Lib.hid hc
 simp only [Gm.val] at HPL
 generalize b % g.p.toNat = a at *
 clear hc hr hbd e hb
 have g12 := C0.out.cell_at 12 (.int .i64 g.p) rfl
 have g13 := C0.out.cell_at 13 (.int .i64 g.b) rfl
 have g14 := C0.out.cell_at 14 (.int .i64 g.s) rfl
 have g15 := C0.out.cell_at 15 (.int .i64 g.c) rfl
 have g16 := C0.out.cell_at 16 (.int .i64 g.k) rfl
 have g17 := C0.out.cell_at 17 (.int .i64 g.r) rfl
 have g18 := C0.out.cell_at 18 (.int .i64 g.q) rfl
 go_enter Tryz.func125, Tryz.ntmps125
 go_wp2_with fail
 clear g12 g13 g14 g15 g16 g17 g18
 refine (HPL.out _).mono ?_
 rintro _ w1 ⟨rfl, h1⟩
 have B1 := Lib.hid h1
 clear h1
 go_wp2
 go_ret
 exact ⟨rfl, B1.out⟩
end
section
variable {I K : Nat → Prop} {w w' : World} {p : Nat} {g : Gm} {j : Jd} {m : Jm}
theorem rec_set_er {x : Nat} {er' : Nat → Bool} (hx : x < g.b.toNat) (he : ∀ b, b ≠ x → er' b = j.er b) (i : Nat) (v : Value) (h : recF g { j with er := er' } i = some v) : (if i = x * 66 then some (.bool (er' x)) else recF g j i) = some v := by
 by_cases e : i = x * 66
 ·
  subst e
  rw [if_pos rfl]
  rw [rec_er hx] at h
  exact h
 ·
  rw [if_neg e, ← h]
  unfold recF
  by_cases hi : i / 66 < g.b.toNat
  ·
   rw [if_pos hi, if_pos hi]
   unfold recV
   by_cases h0 : i % 66 = 0
   ·
    have : i / 66 ≠ x := by omega
    rw [if_pos h0, if_pos h0]
    simp only [he _ this]
   ·
    rw [if_neg h0, if_neg h0]
  ·
   rw [if_neg hi, if_neg hi]
theorem rec_set_la {x : Nat} {la' : Nat → Int} (hx : x < g.b.toNat) (he : ∀ b, b ≠ x → la' b = j.la b) (i : Nat) (v : Value) (h : recF g { j with la := la' } i = some v) : (if i = x * 66 + 1 then some (.int .i64 (la' x)) else recF g j i) = some v := by
 by_cases e : i = x * 66 + 1
 ·
  subst e
  rw [if_pos rfl]
  rw [rec_la hx] at h
  exact h
 ·
  rw [if_neg e, ← h]
  unfold recF
  by_cases hi : i / 66 < g.b.toNat
  ·
   rw [if_pos hi, if_pos hi]
   unfold recV
   by_cases h0 : i % 66 = 0
   ·
    rw [if_pos h0, if_pos h0]
   ·
    rw [if_neg h0, if_neg h0]
    by_cases h1 : i % 66 = 1
    ·
     have : i / 66 ≠ x := by omega
     rw [if_pos h1, if_pos h1]
     simp only [he _ this]
    ·
     rw [if_neg h1, if_neg h1]
  ·
   rw [if_neg hi, if_neg hi]
theorem row_inj {S b b' q q' : Nat} (hq : q < S) (hq' : q' < S) (h : b * S + q = b' * S + q') : b = b' ∧ q = q' := by
 have h1 : (b * S + q) / S = b := by rw [Nat.add_comm, Nat.add_mul_div_right _ _ (by omega), Nat.div_eq_of_lt hq, Nat.zero_add]
 have h2 : (b' * S + q') / S = b' := by rw [Nat.add_comm, Nat.add_mul_div_right _ _ (by omega), Nat.div_eq_of_lt hq', Nat.zero_add]
 rw [h] at h1
 have e : b = b' := h1.symm.trans h2
 subst e
 exact ⟨rfl, by omega⟩
theorem rec_set_pr {x q : Nat} (hx : x < g.b.toNat) (hq : q < g.s.toNat) (hs : g.s.toNat ≤ 64) (i : Nat) (v : Value) (h : recF g { j with pr := fun r => if r = x * g.s.toNat + q then j.pr r + 1 else j.pr r } i = some v) :
  (if i = x * 66 + 2 + q then some (.int .i64 ((j.pr (x * g.s.toNat + q) : Int) + 1)) else recF g j i) = some v := by
 by_cases e : i = x * 66 + 2 + q
 ·
  subst e
  rw [if_pos rfl]
  rw [Nat.add_assoc, rec_pr hx hq hs] at h
  rw [← h]
  simp
 ·
  rw [if_neg e, ← h]
  unfold recF
  by_cases hi : i / 66 < g.b.toNat
  ·
   rw [if_pos hi, if_pos hi]
   unfold recV
   by_cases h0 : i % 66 = 0
   ·
    rw [if_pos h0, if_pos h0]
   ·
    rw [if_neg h0, if_neg h0]
    by_cases h1 : i % 66 = 1
    ·
     rw [if_pos h1, if_pos h1]
    ·
     rw [if_neg h1, if_neg h1]
     by_cases h2 : i % 66 - 2 < g.s.toNat
     ·
      rw [if_pos h2, if_pos h2]
      have hn : ¬ (i / 66 * g.s.toNat + (i % 66 - 2) = x * g.s.toNat + q) := fun e2 => by
       obtain ⟨e3, e4⟩ := row_inj h2 hq e2
       omega
      simp only [if_neg hn]
     ·
      rw [if_neg h2, if_neg h2]
  ·
   rw [if_neg hi, if_neg hi]
def Jd.can (g : Gm) (j : Jd) (x : Nat) : Bool := decide (x < g.rows_) && (j.er (spB g x) && decide (j.la (spB g x) ≤ (spP g x : Int)) && decide ((j.pr (spB g x * g.s.toNat + spP g x) : Int) < g.q))
theorem jCan_no (x : Int) (hx : ¬ g.hasRow x) (h : JH I w p g j) : Calls Tryz.prog 122 #[.pointer (some ⟨p, 0, none⟩), .int .i64 x] w (Gives (.bool false) w) := by
 have HSP := Lib.hid (fun W => Split_no g x hx W)
 obtain ⟨m, hc, hr⟩ := h
 have C0 := Lib.hid hc
 simp only [Gm.val] at HSP
 clear hc hr hx
 go_enter Tryz.func122, Tryz.ntmps122
 go_wp2_with fail
 refine (jmade_row C0.out).mono ?_
 rintro _ w1 ⟨rfl, h1⟩
 have C1 := Lib.hid (C0.out.below h1)
 have B1 := Lib.hid h1
 clear h1 C0
 have g12 := C1.out.cell_at 12 (.int .i64 g.p) rfl
 have g13 := C1.out.cell_at 13 (.int .i64 g.b) rfl
 have g14 := C1.out.cell_at 14 (.int .i64 g.s) rfl
 have g15 := C1.out.cell_at 15 (.int .i64 g.c) rfl
 have g16 := C1.out.cell_at 16 (.int .i64 g.k) rfl
 have g17 := C1.out.cell_at 17 (.int .i64 g.r) rfl
 have g18 := C1.out.cell_at 18 (.int .i64 g.q) rfl
 go_wp2_with fail
 clear g12 g13 g14 g15 g16 g17 g18
 refine (HSP.out _).mono ?_
 rintro _ w2 ⟨rfl, h2⟩
 have B2 := Lib.hid (below_step B1.out h2)
 clear h2
 go_wp2
 go_ret
 exact ⟨rfl, B2.out⟩
set_option maxHeartbeats 400000 in
theorem jCan (x : Nat) (hx : x < g.rows_) (h : JH I w p g j) : Calls Tryz.prog 122 #[.pointer (some ⟨p, 0, none⟩), .int .i64 (x : Int)] w (Gives (.bool (j.can g x)) w) := by
 have hbd := Gm.bounds_of h.ok
 have HSP := Lib.hid (fun W => jSplit g h.ok x W)
 rw [decide_eq_true hx] at HSP
 obtain ⟨bk, hbk⟩ : ∃ bk, bk = spB g x := ⟨_, rfl⟩
 obtain ⟨pg, hpg⟩ : ∃ pg, pg = spP g x := ⟨_, rfl⟩
 have hb : bk < g.b.toNat := hbk ▸ spB_lt h.ok x
 have hp1 : pg < g.s.toNat := hpg ▸ spP_lt h.ok x
 have HE0 : j.can g x = (j.er bk && decide (j.la bk ≤ (pg : Int)) && decide ((j.pr (bk * g.s.toNat + pg) : Int) < g.q)) := by unfold Jd.can; rw [decide_eq_true hx, hbk, hpg, Bool.true_and]
 rw [HE0]
 obtain ⟨m, hc, hr⟩ := h
 have C0 := Lib.hid hc
 have X0 := Lib.hid hr.rcs
 have E0 := Lib.hid (rec_er (j := j) hb)
 have E1 := Lib.hid (rec_la (j := j) hb)
 have E2 := Lib.hid (show recF g j (bk * 66 + 2 + pg) = some (.int .i64 (j.pr (bk * g.s.toNat + pg) : Int)) from (by rw [Nat.add_assoc]; exact rec_pr hb hp1 (by omega)))
 simp only [Gm.val] at HSP
 rw [← hbk, ← hpg] at HSP
 obtain ⟨R, hR⟩ : ∃ R, R = m.r := ⟨_, rfl⟩
 obtain ⟨NB, hNB⟩ : ∃ NB, NB = g.b.toNat := ⟨_, rfl⟩
 rw [← hR] at X0
 have C19 := Lib.hid (show ∀ W, CRow W p 131 (jCells g j m) → W.cell? ⟨p, 19, none⟩ = some (.slice (some ⟨R, 0, none⟩) NB NB) from fun W hW => by rw [hR, hNB]; exact hW.cell_at 19 _ rfl)
 have i1 : (bk : Int) < (NB : Int) := by omega
 have i2 : (0 : Int) ≤ (bk : Int) := by omega
 have i3 : (0 : Int) ≤ (pg : Int) := by omega
 have i4 : (pg : Int) < 64 := by omega
 have i5 : NB ≤ 256 := by omega
 generalize j.pr (bk * g.s.toNat + pg) = pr at *
 obtain ⟨er, her⟩ : ∃ er, er = j.er bk := ⟨_, rfl⟩
 obtain ⟨la, hla⟩ : ∃ la, la = j.la bk := ⟨_, rfl⟩
 rw [← her] at E0 ⊢
 rw [← hla] at E1 ⊢
 clear hc hr hbk hpg hb hp1 hbd hx HE0 her hla hR hNB
 go_enter Tryz.func122, Tryz.ntmps122
 go_wp2_with fail
 refine (jmade_row C0.out).mono ?_
 rintro _ w1 ⟨rfl, h1⟩
 have C1 := Lib.hid (C0.out.below h1)
 have X1 := Lib.hid (X0.out.below h1)
 have B1 := Lib.hid h1
 clear h1 C0 X0
 have g12 := C1.out.cell_at 12 (.int .i64 g.p) rfl
 have g13 := C1.out.cell_at 13 (.int .i64 g.b) rfl
 have g14 := C1.out.cell_at 14 (.int .i64 g.s) rfl
 have g15 := C1.out.cell_at 15 (.int .i64 g.c) rfl
 have g16 := C1.out.cell_at 16 (.int .i64 g.k) rfl
 have g17 := C1.out.cell_at 17 (.int .i64 g.r) rfl
 have g18 := C1.out.cell_at 18 (.int .i64 g.q) rfl
 go_wp2_with fail
 clear g12 g13 g14 g15 g16 g17 g18
 refine (HSP.out _).mono ?_
 rintro _ w2 ⟨rfl, h2⟩
 have C2 := Lib.hid (C1.out.below h2)
 have X2 := Lib.hid (X1.out.below h2)
 have B2 := Lib.hid (below_step B1.out h2)
 have x19 := C19.out _ C2.out
 clear h2 C1 X1 HSP
 go_wp2
 clear x19
 cases her : er with
 | false =>
  have HER := Lib.hid her
  subst her
  have HLA := HER
  ·
   skip
   refine wp_region_noPanic ?_
   refine wp_region_held_drew (S := fun w' => Below w2.heap.size w2 w') (by kernel_rfl) ((Below.refl _ _).drew) (fun C0 => ?_)
   refine tkH4 0 C0 ?_
   refine tkH4 1 C0 ?_
   refine tkH4 2 C0 ?_
   refine tkH4 3 C0 ?_ (hy := fun W' hSw => by have e0 : W'.cell? ⟨R, bk * 66, none⟩ = some (.bool false) := (hSw.cell (show (⟨R, bk * 66, none⟩ : Addr).block < w2.heap.size from X2.out.lt)).trans (X2.out.cell E0.out); clear hSw; go_simp <;> with_reducible rfl)
   refine tkH4 4 C0 ?_
   refine tkN4 5 C0 ?_
   refine tkN4 6 C0 ?_
   refine tkN4 7 C0 ?_
   refine tkN4 8 C0 ?_
   refine tkN4 9 C0 ?_
   refine tkN4 10 C0 ?_
   refine tkH4 11 C0 ?_
   refine tkH4 12 C0 ?_
   refine tkN4 13 C0 ?_
   refine tkN4 14 C0 ?_
   refine tkN4 15 C0 ?_
   refine tkN4 16 C0 ?_
   refine tkN4 17 C0 ?_
   refine tkN4 18 C0 ?_
   refine tkN4 19 C0 ?_
   refine tkN4 20 C0 ?_
   refine tkN4 21 C0 ?_
   refine tkN4 22 C0 ?_
   refine tkN4 23 C0 ?_
   refine tkN4 24 C0 ?_
   refine tkH4 25 C0 ?_
   refine tkH4 26 C0 ?_
   refine wpAnyH_done (by kernel_rfl) ?_ _
   refine NoPanic.normal ?_
   go_wp2
   go_ret
   exact ⟨by simp, below_step B2.out C0⟩
 | true =>
  have HER := Lib.hid her
  subst her
  by_cases hle : la ≤ (pg : Int)
  ·
   have d1 : decide (la ≤ (pg : Int)) = true := decide_eq_true hle
   have HLA := Lib.hid d1
   clear hle
   refine wp_region_noPanic ?_
   refine wp_region_held_drew (S := fun w' => Below w2.heap.size w2 w') (by kernel_rfl) ((Below.refl _ _).drew) (fun C0 => ?_)
   refine tkH4 0 C0 ?_
   refine tkH4 1 C0 ?_
   refine tkH4 2 C0 ?_
   refine tkH4 3 C0 ?_ (hy := fun W' hSw => by have e0 : W'.cell? ⟨R, bk * 66, none⟩ = some (.bool true) := (hSw.cell (show (⟨R, bk * 66, none⟩ : Addr).block < w2.heap.size from X2.out.lt)).trans (X2.out.cell E0.out); clear hSw; go_simp <;> with_reducible rfl)
   refine tkH4 4 C0 ?_
   refine tkH4 5 C0 ?_
   refine tkH4 6 C0 ?_
   refine tkH4 7 C0 ?_
   refine tkH4 8 C0 ?_
   refine tkH4 9 C0 ?_ (hy := fun W' hSw => by have e1 : W'.cell? ⟨R, bk * 66 + 1, none⟩ = some (.int .i64 la) := (hSw.cell (show (⟨R, bk * 66 + 1, none⟩ : Addr).block < w2.heap.size from X2.out.lt)).trans (X2.out.cell E1.out); clear hSw; go_simp <;> with_reducible rfl)
   refine tkH4 10 C0 ?_
   refine tkH4 11 C0 ?_
   refine tkH4 12 C0 ?_
   refine tkH4 13 C0 ?_
   refine tkH4 14 C0 ?_
   refine tkH4 15 C0 ?_
   refine tkH4 16 C0 ?_
   refine tkH4 17 C0 ?_
   refine tkH4 18 C0 ?_ (hy := fun W' hSw => by have e2 : W'.cell? ⟨R, bk * 66 + 2 + pg, none⟩ = some (.int .i64 (pr : Int)) := (hSw.cell (show (⟨R, bk * 66 + 2 + pg, none⟩ : Addr).block < w2.heap.size from X2.out.lt)).trans (X2.out.cell E2.out); clear hSw; go_simp <;> with_reducible rfl)
   refine tkH4 19 C0 ?_
   refine tkH4 20 C0 ?_
   refine tkH4 21 C0 ?_
   refine tkH4 22 C0 ?_
   refine tkH4 23 C0 ?_ (hy := fun W' hSw => by have e3 : W'.cell? ⟨p, 18, none⟩ = some (.int .i64 g.q) := (hSw.cell (show (⟨p, 18, none⟩ : Addr).block < w2.heap.size from C2.out.lt)).trans (C2.out.cell_at 18 _ rfl); clear hSw; go_simp <;> with_reducible rfl)
   refine tkH4 24 C0 ?_
   refine tkH4 25 C0 ?_
   refine tkH4 26 C0 ?_
   refine wpAnyH_done (by kernel_rfl) ?_ _
   refine NoPanic.normal ?_
   go_wp2
   go_ret
   exact ⟨by simp, below_step B2.out C0⟩
  ·
   have d1 : decide (la ≤ (pg : Int)) = false := decide_eq_false hle
   have HLA := Lib.hid d1
   clear hle
   refine wp_region_noPanic ?_
   refine wp_region_held_drew (S := fun w' => Below w2.heap.size w2 w') (by kernel_rfl) ((Below.refl _ _).drew) (fun C0 => ?_)
   refine tkH4 0 C0 ?_
   refine tkH4 1 C0 ?_
   refine tkH4 2 C0 ?_
   refine tkH4 3 C0 ?_ (hy := fun W' hSw => by have e0 : W'.cell? ⟨R, bk * 66, none⟩ = some (.bool true) := (hSw.cell (show (⟨R, bk * 66, none⟩ : Addr).block < w2.heap.size from X2.out.lt)).trans (X2.out.cell E0.out); clear hSw; go_simp <;> with_reducible rfl)
   refine tkH4 4 C0 ?_
   refine tkH4 5 C0 ?_
   refine tkH4 6 C0 ?_
   refine tkH4 7 C0 ?_
   refine tkH4 8 C0 ?_
   refine tkH4 9 C0 ?_ (hy := fun W' hSw => by have e1 : W'.cell? ⟨R, bk * 66 + 1, none⟩ = some (.int .i64 la) := (hSw.cell (show (⟨R, bk * 66 + 1, none⟩ : Addr).block < w2.heap.size from X2.out.lt)).trans (X2.out.cell E1.out); clear hSw; go_simp <;> with_reducible rfl)
   refine tkH4 10 C0 ?_
   refine tkH4 11 C0 ?_
   refine tkH4 12 C0 ?_
   refine tkN4 13 C0 ?_
   refine tkN4 14 C0 ?_
   refine tkN4 15 C0 ?_
   refine tkN4 16 C0 ?_
   refine tkN4 17 C0 ?_
   refine tkN4 18 C0 ?_
   refine tkN4 19 C0 ?_
   refine tkN4 20 C0 ?_
   refine tkN4 21 C0 ?_
   refine tkN4 22 C0 ?_
   refine tkN4 23 C0 ?_
   refine tkN4 24 C0 ?_
   refine tkH4 25 C0 ?_
   refine tkH4 26 C0 ?_
   refine wpAnyH_done (by kernel_rfl) ?_ _
   refine NoPanic.normal ?_
   go_wp2
   go_ret
   exact ⟨by simp, below_step B2.out C0⟩
def Jd.prog (g : Gm) (j : Jd) (b q : Nat) : Jd := { j with la := fun k => if k = b then (q : Int) else j.la k, pr := fun r => if r = b * g.s.toNat + q then j.pr r + 1 else j.pr r }
set_option maxHeartbeats 400000 in
theorem jprogram (bk pg : Nat) (hb : bk < g.b.toNat) (hp1 : pg < g.s.toNat) (hpr : j.pr (bk * g.s.toNat + pg) ≤ 1000000) (h : JH I w p g j) : Calls Tryz.prog 124 #[.pointer (some ⟨p, 0, none⟩), .int .i64 (bk : Int), .int .i64 (pg : Int)] w (ActsJ I p g (.tuple #[]) (j.prog g bk pg) w) := by
 have hbd := Gm.bounds_of h.ok
 obtain ⟨m, hc, hr⟩ := h
 have D0 := Lib.hid hc
 have R0 := Lib.hid hr
 have X0 := Lib.hid hr.rcs
 have NE := Lib.hid (hr.apart_p hc).1
 have E1 := Lib.hid (rec_la (j := j) hb)
 have E2 := Lib.hid (show recF g { j with la := fun b => if b = bk then (pg : Int) else j.la b } (bk * 66 + 2 + pg) = some (.int .i64 (j.pr (bk * g.s.toNat + pg) : Int)) from (by rw [Nat.add_assoc]; exact rec_pr hb hp1 (by omega)))
 have HB := Lib.hid hb
 have HP := Lib.hid hp1
 have HS := Lib.hid (show g.s.toNat ≤ 64 by omega)
 have x19 := D0.out.cell_at 19 (.slice (some ⟨m.r, 0, none⟩) g.b.toNat g.b.toNat) rfl
 have e1 := X0.out.cell E1.out
 have f1 := X0.out.frozen (bk * 66 + 1)
 have X1 := Lib.hid ((X0.out.set E1.out (.int .i64 (pg : Int))).sub (f' := recF g { j with la := fun b => if b = bk then (pg : Int) else j.la b }) (fun i v h => by
  have := rec_set_la (g := g) (j := j) (la' := fun b => if b = bk then (pg : Int) else j.la b) hb (fun b hne => if_neg hne) i v h
  simpa using this))
 have K1 := Lib.hid ((Btw.refl (I := fun k => k = m.r) w).setCell (p := ⟨m.r, bk * 66 + 1, none⟩) (v := .int .i64 (pg : Int)) rfl)
 have D1 := Lib.hid (D0.out.setCell_other (p := ⟨m.r, bk * 66 + 1, none⟩) NE.out.symm (.int .i64 (pg : Int)))
 have i1 : (bk : Int) < (g.b.toNat : Int) := by omega
 have i2 : (0 : Int) ≤ (bk : Int) := by omega
 have i3 : (0 : Int) ≤ (pg : Int) := by omega
 have i4 : (pg : Int) < 64 := by omega
 have i5 : g.b.toNat ≤ 256 := by omega
 have wz : IntKind.i64.wrap ((j.pr (bk * g.s.toNat + pg) : Int) + 1) = (j.pr (bk * g.s.toNat + pg) : Int) + 1 := IntWalk.i64_in _ (by omega)
 clear hc hr hb hp1 hbd hpr
 go_enter Tryz.func124, Tryz.ntmps124
 go_wp2
 clear x19 e1 f1
 refine wp_region_noPanic ?_
 refine wp_region_held_drew (S := fun w' => True) (by kernel_rfl) trivial (fun C0 => ?_)
 refine tkH4 0 C0 ?_
 refine tkH4 1 C0 ?_
 refine tkH4 2 C0 ?_
 refine tkH4 3 C0 ?_
 refine tkH4 4 C0 ?_
 refine tkH4 7 C0 ?_
 refine tkH4 8 C0 ?_
 refine wpAnyH_ready (rs := [5]) (by kernel_rfl) (by simp) ?_
 refine AllReadyH.cons (o := { dst := some 22, op := Op.load 3 (Operand.tmp 21), type := 3, pos := "judge.go:150", after := #[{ on := 4, ground := Ground.data }], guard := none }) rfl (fun K hK => ?_) AllReadyH.nil
 have e2 := (X1.out.below ((Below.refl _ _).drew)).cell E2.out
 go_simp
 refine hK.out _ _ trivial (fun C1 => ?_)
 clear hK K
 try simp only [Act.put, zzI, zzO, zzS]
 refine tkH4 6 C1 ?_
 refine tkH4 9 C1 ?_
 refine wpAnyH_ready (rs := [10]) (by kernel_rfl) (by simp) ?_
 refine AllReadyH.cons (o := { dst := none, op := Op.store 3 (Operand.tmp 26) (Operand.tmp 23), type := 0, pos := "judge.go:150", after := #[{ on := 9, ground := Ground.data }, { on := 6, ground := Ground.data }, { on := 0, ground := Ground.phase }, { on := 1, ground := Ground.phase }, { on := 2, ground := Ground.phase }, { on := 3, ground := Ground.phase }, { on := 4, ground := Ground.phase }, { on := 5, ground := Ground.phase }, { on := 6, ground := Ground.phase }], guard := none }) rfl (fun K hK => ?_) AllReadyH.nil
 have f2 := (X1.out.below ((Below.refl _ _).drew)).frozen (bk * 66 + 2 + pg)
 have e2 := (X1.out.below ((Below.refl _ _).drew)).cell E2.out
 go_simp
 refine hK.out _ _ trivial (fun C2 => ?_)
 clear hK K
 try simp only [Act.put]
 refine wpAnyH_done (by kernel_rfl) ?_ _
 refine NoPanic.normal ?_
 go_wp2
 go_end0
 have H := JH.recs (er := j.er) (la := fun k => if k = bk then (pg : Int) else j.la k) (pr := fun r => if r = bk * g.s.toNat + pg then j.pr r + 1 else j.pr r) D0.out R0.out ((K1.out.setCell (p := ⟨m.r, bk * 66 + 2 + pg, none⟩) (v := .int .i64 ((j.pr (bk * g.s.toNat + pg) : Int) + 1)) rfl).drew) (((X1.out.set E2.out (.int .i64 ((j.pr (bk * g.s.toNat + pg) : Int) + 1))).sub (f' := recF g { j with la := fun k => if k = bk then (pg : Int) else j.la k, pr := fun r => if r = bk * g.s.toNat + pg then j.pr r + 1 else j.pr r }) (fun i v h => rec_set_pr (g := g) (j := { j with la := fun b => if b = bk then (pg : Int) else j.la b }) HB.out HP.out HS.out i v h)).below ((Below.refl _ _).drew))
 exact ⟨rfl, ⟨m, H.1, H.2.1⟩, H.2.2⟩
end
def setL (cs : Array Value) : Nat → List Value → Array Value
 | _, [] => cs
 | o, v :: r => setL (cs.setIfInBounds o v) (o + 1) r
theorem CRow.setCs {u : TypeId} {p : Nat} : ∀ (vs : List Value) (o : Nat) {w : World} {cs : Array Value}, CRow w p u cs → CRow (w.setCells p o vs) p u (setL cs o vs)
 | [], _, _, _, h => h
 | v :: r, o, _, _, h => CRow.setCs r (o + 1) (h.setCell o v)
theorem CRow.there_ {w : World} {u : TypeId} {p : Nat} {cs : Array Value} (h : CRow w p u cs) (o n : Nat) (hn : o + n ≤ cs.size) : w.there p o n := fun j hj => by
 refine ⟨?_, h.frozen _⟩
 rw [h.cell]
 simp
 omega
theorem Cells.there_ {w : World} {u : TypeId} {p : Nat} {f : Nat → Option Value} (h : Cells w p u f) (o n : Nat) (hn : ∀ j, j < n → (f (o + j)).isSome = true) : w.there p o n := fun j hj => by
 refine ⟨?_, h.frozen _⟩
 obtain ⟨v, hv⟩ := Option.isSome_iff_exists.1 (hn j hj)
 rw [h.cell hv]
 rfl
theorem size_progress : (Tryz.prog.info? 129).map (·.size) = some 12 := by kernel_rfl
theorem size_record : (Tryz.prog.info? 134).map (·.size) = some 66 := by kernel_rfl
def P12 : Array Value := #[.int .i64 0, .slice none 0 0, .int .i64 0, .bool false, .bool false, .bool false, .int .i64 0, .bool false, .int .i64 0, .slice none 0 0, .slice none 0 0, .slice none 0 0]
def E66 : Array Value := (Value.bool true :: Value.int .i64 (-1) :: List.replicate 64 (Value.int .i64 0)).toArray
theorem I64_JI (l : List Nat) (k : Nat) : (I64 (JI l))[k]? = (l[k]?).map fun (x : Nat) => Value.int .i64 (x : Int) := by
 simp only [I64, JI, List.getElem?_map, Option.map_map]
 rfl
theorem mem_take_succ {l : List Nat} {k x : Nat} (hx : l[k]? = some x) (b : Nat) : b ∈ l.take (k + 1) ↔ b ∈ l.take k ∨ b = x := by
 rw [List.take_add_one, hx, List.mem_append]
 simp
section
variable {I K : Nat → Prop} {w w' : World} {p : Nat} {g : Gm} {j : Jd} {m : Jm}
def Jd.spoilK (j : Jd) (k : Nat) : Jd := { j with er := fun b => if b ∈ j.erases.take k then false else j.er b }
def Jd.spoil (j : Jd) : Jd := { j with er := fun b => if b ∈ j.erases then false else j.er b }
set_option maxHeartbeats 1000000 in
theorem jspoil (hE : ∀ b ∈ j.erases, b < g.b.toNat) (hn : j.erases.length ≤ 1000000) (h : JH I w p g j) : Calls Tryz.prog 85 #[.pointer (some ⟨p, 0, none⟩)] w (ActsJ I p g (.tuple #[]) j.spoil w) := by
 have hbd := Gm.bounds_of h.ok
 obtain ⟨m, hc, hr⟩ := h
 have HE := Lib.hid hE
 obtain ⟨n, hn0⟩ : ∃ n, n = j.erases.length := ⟨_, rfl⟩
 have HN := Lib.hid hn0
 rw [← hn0] at hn
 obtain ⟨zE, hz⟩ : ∃ zE, zE = m.aE := ⟨_, rfl⟩
 have HZ := Lib.hid hz
 have x11 : w.cell? ⟨p, 11, none⟩ = some (.slice zE n m.cE) := by rw [hz, hn0]; exact hc.cell_at 11 _ rfl
 have C0 := Lib.hid (show CRow w p 131 (jCells g (j.spoilK 0) m) from hc)
 have R0 := Lib.hid (show Jr I w p g (j.spoilK 0) m from { hr with })
 have NE := Lib.hid (hr.apart_p hc).1
 have B0 := Lib.hid (Btw.refl (I := I) w)
 obtain ⟨NB, hNB⟩ : ∃ NB, NB = g.b.toNat := ⟨_, rfl⟩
 have HNB := Lib.hid hNB
 have i5 : NB ≤ 256 := by omega
 obtain ⟨R, hR⟩ : ∃ R, R = m.r := ⟨_, rfl⟩
 have HR := Lib.hid hR
 have C19 := Lib.hid (show ∀ W q, CRow W p 131 (jCells g (j.spoilK q) m) → W.cell? ⟨p, 19, none⟩ = some (.slice (some ⟨R, 0, none⟩) NB NB) from fun W q hW => by rw [hR, hNB]; exact hW.cell_at 19 _ rfl)
 clear hc hr hE hn0 hz hbd hNB hR
 go_enter Tryz.func85, Tryz.ntmps85
 go_wp2
 clear x11
 go_loopw [10] (fun i wr => ∃ k : Nat, k ≤ n ∧ i = .int .i64 (k : Int) ∧ Hid (CRow wr p 131 (jCells g (j.spoilK k) m)) ∧ Hid (Jr I wr p g (j.spoilK k) m) ∧ Hid (Btw I w wr)) (fun i _ => n - (intOf i).toNat)
 case atStart => exact ⟨0, Nat.zero_le _, rfl, C0, R0, B0⟩
 case round =>
  obtain ⟨k, hk, rfl, C1, R1, B1⟩ := hrel
  rename World => wr
  clear C0 R0 B0
  by_cases hlt : k < n
  ·
   obtain ⟨x, hx⟩ : ∃ x, j.erases[k]? = some x := ⟨_, List.getElem?_eq_getElem (by rw [← HN.out]; exact hlt)⟩
   obtain ⟨b9, hA, _, _, y0', _, _⟩ := own_at R1.out.ers (k := k) (by show k < j.erases.length; rw [← HN.out]; exact hlt)
   obtain rfl : zE = some ⟨b9, 0, none⟩ := HZ.out.trans hA
   have y0 : wr.cell? ⟨b9, k, none⟩ = some (.int .i64 (x : Int)) := by
    rw [y0']
    show (I64 (JI j.erases))[k]? = _
    rw [I64_JI, hx]
    rfl
   have hxb : x < NB := by rw [HNB.out]; exact HE.out x (List.mem_of_getElem? hx)
   have x19 := C19.out _ _ C1.out
   have HXB := Lib.hid (show x < g.b.toNat by rw [← HNB.out]; exact hxb)
   have E0 := Lib.hid (rec_er (g := g) (j := j.spoilK k) HXB.out)
   have X1 := Lib.hid (show Cells wr R 134 (recF g (j.spoilK k)) by rw [HR.out]; exact R1.out.rcs)
   have e0 := X1.out.cell E0.out
   have f0 := X1.out.frozen (x * 66)
   have HX := Lib.hid hx
   have d1 : decide ((k : Int) < (n : Int)) = true := decide_eq_true (by omega)
   have i0 : (0 : Int) ≤ (k : Int) := by omega
   have i1 : (k : Int) < (n : Int) := by omega
   have i2 : (0 : Int) ≤ (x : Int) := by omega
   have i3 : (x : Int) < (NB : Int) := by omega
   clear hA y0' hx
   go_wp2
   go_roundw
   case rel =>
    have hset := (X1.out.set E0.out (.bool false)).sub (f' := recF g (j.spoilK (k + 1))) (fun i v h => by
     have h1 := rec_set_er (g := g) (j := j.spoilK k) (er' := fun b => if b ∈ j.erases.take (k + 1) then false else j.er b) HXB.out (fun b hne => by
      show (if b ∈ j.erases.take (k + 1) then false else j.er b) = (if b ∈ j.erases.take k then false else j.er b)
      have := mem_take_succ HX.out b
      by_cases h2 : b ∈ j.erases.take k
      ·
       rw [if_pos h2, if_pos (this.2 (.inl h2))]
      ·
       rw [if_neg h2, if_neg (fun h3 => (this.1 h3).elim h2 hne)]) i v h
     rw [if_pos ((mem_take_succ HX.out x).2 (.inr rfl))] at h1
     exact h1)
    have H := JH.recs (j := j.spoilK k) (er := (j.spoilK (k + 1)).er) (la := j.la) (pr := j.pr) C1.out R1.out ((Btw.refl (I := fun q => q = m.r) wr).setCell (p := ⟨R, x * 66, none⟩) (v := .bool false) HR.out) (by rw [← HR.out]; exact hset)
    exact ⟨k + 1, by omega, by go_num, Lib.hid H.1, Lib.hid H.2.1, Lib.hid (B1.out.trans H.2.2 fun _ _ h => h)⟩
   case measure => simp [intOf]; omega
  ·
   obtain rfl : k = n := by omega
   have d1 : decide ((k : Int) < (k : Int)) = false := decide_eq_false (by omega)
   have F1 := Lib.hid (show j.spoilK k = j.spoil by unfold Jd.spoilK Jd.spoil; rw [HN.out, List.take_length])
   go_wp2
   go_end0
   refine ⟨rfl, ?_, B1.out⟩
   rw [← F1.out]
   exact ⟨m, C1.out, R1.out⟩
def Jd.stop (j : Jd) : Jd := { j.spoil with op := 0, listed := [], count := 0, busy := false, pol := false, bg := false, bgb := 0, data := false, col := 0, rows := [], blocks := [], erases := [] }
def Jm.bare (m : Jm) : Jm := { m with aL := none, cL := 0, aR := none, cR := 0, aB := none, cB := 0, aE := none, cE := 0 }
theorem Jr.bare {j' : Jd} (h : Jr I w p g j m) (hf : recF g j' = recF g j) (h1 : j'.listed = []) (h2 : j'.rows = []) (h3 : j'.blocks = []) (h4 : j'.erases = []) : Jr I w p g j' m.bare := by
 refine { h with rcs := by rw [hf]; exact h.rcs, lis := by rw [h1]; exact ⟨rfl, .inl ⟨rfl, rfl⟩⟩, l8 := by rw [h1]; simp, row := by rw [h2]; exact ⟨rfl, .inl ⟨rfl, rfl⟩⟩, blk := by rw [h3]; exact ⟨rfl, .inl ⟨rfl, rfl⟩⟩, ers := by rw [h4]; exact ⟨rfl, .inl ⟨rfl, rfl⟩⟩, ab := fun k hk => (by cases hk), ae := fun k hk => (by cases hk), be := fun k hk => (by cases hk), iL := fun k hk => (by cases hk), iR := fun k hk => (by cases hk), iB := fun k hk => (by cases hk), iE := fun k hk => (by cases hk) }
theorem jstop (hE : ∀ b ∈ j.erases, b < g.b.toNat) (hn : j.erases.length ≤ 1000000) (h : JH I w p g j) : Calls Tryz.prog 73 #[.pointer (some ⟨p, 0, none⟩)] w (ActsJ I p g (.tuple #[]) j.stop w) := by
 have HSP := Lib.hid (jspoil hE hn h)
 clear h hE hn
 go_enter Tryz.func73, Tryz.ntmps73
 go_wp2_with fail
 refine HSP.out.mono ?_
 rintro _ w1 ⟨rfl, h1, b1⟩
 obtain ⟨m, hc, hr⟩ := h1
 have C1 := Lib.hid hc
 have R1 := Lib.hid hr
 have B1 := Lib.hid b1
 have T2 := Lib.hid (C1.out.there_ 0 P12.size (by simp [jCells, P12]))
 clear hc hr b1 HSP
 go_wp2_with (with_reducible refine (?_ : wpList _ _ _ ({ dst := _, op := Op.store 129 _ _, type := _, pos := _, after := _, guard := _ } :: _) _ _); apply wpList_store_mid rfl 129 (.tmp 7) (.tmp 5) rfl p 0 P12 (by simp [Act.eval]) (by simp [Act.eval, P12]) T2.out size_progress (by simp [P12, Value.oneCell']))
 go_end0
 have C2 := C1.out.setCs P12.toList 0
 have K2 := Btw.setCells (I := fun k => k = p) (g := p) rfl P12.toList 0 (Btw.refl w1)
 have H := JH.of (j' := j.stop) (m' := m.bare) C1.out R1.out (by
  have e : setL (jCells g j.spoil m) 0 P12.toList = jCells g j.stop m.bare := by simp [setL, jCells, P12, Jd.stop, Jm.bare, Jd.spoil]
  rw [e] at C2
  exact C2) K2 fun W h => h.bare rfl rfl rfl rfl rfl
 exact ⟨rfl, H.1, B1.out.trans H.2 fun _ _ h => h⟩
end
section
variable {I K : Nat → Prop} {w w' : World} {p : Nat} {g : Gm} {j : Jd} {m : Jm}
theorem E66_is : (Tryz.zeroCells134.setIfInBounds 0 (.bool true)).setIfInBounds 1 (.int .i64 (-1)) = E66 := by rfl
theorem E66_at (o : Nat) (ho : o < 66) : E66.toList[o]? = some (if o = 0 then .bool true else if o = 1 then .int .i64 (-1) else .int .i64 0) := by
 unfold E66
 match o with
 | 0 => rfl
 | 1 => rfl
 | o + 2 =>
  simp only [List.getElem?_cons_succ, List.getElem?_replicate]
  rw [if_pos (by omega), if_neg (by omega), if_neg (by omega)]
theorem rec_erase {x : Nat} {er' : Nat → Bool} {la' : Nat → Int} {pr' : Nat → Nat} (hx : x < g.b.toNat) (h1 : er' x = true) (h2 : la' x = -1) (h3 : ∀ q, q < g.s.toNat → pr' (x * g.s.toNat + q) = 0)
  (h4 : ∀ b, b ≠ x → er' b = j.er b) (h5 : ∀ b, b ≠ x → la' b = j.la b) (h6 : ∀ b q, b ≠ x → q < g.s.toNat → pr' (b * g.s.toNat + q) = j.pr (b * g.s.toNat + q)) (i : Nat) (v : Value) (h : recF g { j with er := er', la := la', pr := pr' } i = some v) :
  (if x * 66 ≤ i ∧ i < x * 66 + E66.toList.length then E66.toList[i - x * 66]? else recF g j i) = some v := by
 have hl : E66.toList.length = 66 := by simp [E66]
 rw [hl]
 by_cases e : x * 66 ≤ i ∧ i < x * 66 + 66
 ·
  rw [if_pos e, E66_at _ (by omega)]
  obtain ⟨o, rfl⟩ : ∃ o, i = x * 66 + o := ⟨i - x * 66, by omega⟩
  rw [rec_at o hx (by omega)] at h
  rw [← h, show x * 66 + o - x * 66 = o by omega]
  unfold recV
  by_cases e0 : o = 0
  ·
   rw [if_pos e0, if_pos e0]
   simp only [h1]
  ·
   rw [if_neg e0, if_neg e0]
   by_cases e1 : o = 1
   ·
    rw [if_pos e1, if_pos e1]
    simp only [h2]
   ·
    rw [if_neg e1, if_neg e1]
    by_cases e2 : o - 2 < g.s.toNat
    ·
     rw [if_pos e2]
     simp only [h3 _ e2]
     rfl
    ·
     rw [if_neg e2]
 ·
  rw [if_neg e, ← h]
  unfold recF
  by_cases hi : i / 66 < g.b.toNat
  ·
   have hne : i / 66 ≠ x := by omega
   rw [if_pos hi, if_pos hi]
   unfold recV
   simp only [h4 _ hne, h5 _ hne]
   by_cases e2 : i % 66 - 2 < g.s.toNat
   ·
    simp only [h6 _ _ hne e2]
   ·
    simp only [if_neg e2]
  ·
   rw [if_neg hi, if_neg hi]
def Jd.eraseK (g : Gm) (j : Jd) (k : Nat) : Jd := { j with er := fun b => if b ∈ j.blocks.take k then true else j.er b, la := fun b => if b ∈ j.blocks.take k then -1 else j.la b, pr := fun r => if r / g.s.toNat ∈ j.blocks.take k then 0 else j.pr r }
def Jd.erase (g : Gm) (j : Jd) : Jd := { j with er := fun b => if b ∈ j.blocks then true else j.er b, la := fun b => if b ∈ j.blocks then -1 else j.la b, pr := fun r => if r / g.s.toNat ∈ j.blocks then 0 else j.pr r, erases := j.blocks, blocks := [] }
theorem row_div {S b q : Nat} (hq : q < S) : (b * S + q) / S = b := by rw [Nat.add_comm, Nat.add_mul_div_right _ _ (by omega), Nat.div_eq_of_lt hq, Nat.zero_add]
set_option maxHeartbeats 1000000 in
theorem jerase (hE : ∀ b ∈ j.blocks, b < g.b.toNat) (hn : j.blocks.length ≤ 1000000) (h : JH I w p g j) : Calls Tryz.prog 126 #[.pointer (some ⟨p, 0, none⟩)] w (ActsJ I p g (.tuple #[]) (j.erase g) w) := by
 have hbd := Gm.bounds_of h.ok
 obtain ⟨m, hc, hr⟩ := h
 have HE := Lib.hid hE
 obtain ⟨n, hn0⟩ : ∃ n, n = j.blocks.length := ⟨_, rfl⟩
 have HN := Lib.hid hn0
 rw [← hn0] at hn
 obtain ⟨zE, hz⟩ : ∃ zE, zE = m.aB := ⟨_, rfl⟩
 have HZ := Lib.hid hz
 have x10 : w.cell? ⟨p, 10, none⟩ = some (.slice zE n m.cB) := by rw [hz, hn0]; exact hc.cell_at 10 _ rfl
 have C0 := Lib.hid (show CRow w p 131 (jCells g (j.eraseK g 0) m) from hc)
 have R0 := Lib.hid (show Jr I w p g (j.eraseK g 0) m from { hr with })
 have NE := Lib.hid (hr.apart_p hc).1
 have B0 := Lib.hid (Btw.refl (I := I) w)
 obtain ⟨NB, hNB⟩ : ∃ NB, NB = g.b.toNat := ⟨_, rfl⟩
 have HNB := Lib.hid hNB
 have i5 : NB ≤ 256 := by omega
 obtain ⟨R, hR⟩ : ∃ R, R = m.r := ⟨_, rfl⟩
 have HR := Lib.hid hR
 have C19 := Lib.hid (show ∀ W q, CRow W p 131 (jCells g (j.eraseK g q) m) → W.cell? ⟨p, 19, none⟩ = some (.slice (some ⟨R, 0, none⟩) NB NB) from fun W q hW => by rw [hR, hNB]; exact hW.cell_at 19 _ rfl)
 have C10 := Lib.hid (show ∀ W q, CRow W p 131 (jCells g (j.eraseK g q) m) → W.cell? ⟨p, 10, none⟩ = some (.slice zE n m.cB) from fun W q hW => by rw [hz, hn0]; exact hW.cell_at 10 _ rfl)
 clear hc hr hE hn0 hz hbd hNB hR
 go_enter Tryz.func126, Tryz.ntmps126
 go_wp2
 clear x10
 go_loopw [10] (fun i wr => ∃ k : Nat, k ≤ n ∧ i = .int .i64 (k : Int) ∧ Hid (CRow wr p 131 (jCells g (j.eraseK g k) m)) ∧ Hid (Jr I wr p g (j.eraseK g k) m) ∧ Hid (Btw I w wr)) (fun i _ => n - (intOf i).toNat)
 case atStart => exact ⟨0, Nat.zero_le _, rfl, C0, R0, B0⟩
 case round =>
  obtain ⟨k, hk, rfl, C1, R1, B1⟩ := hrel
  rename World => wr
  clear C0 R0 B0
  by_cases hlt : k < n
  ·
   obtain ⟨x, hx⟩ : ∃ x, j.blocks[k]? = some x := ⟨_, List.getElem?_eq_getElem (by rw [← HN.out]; exact hlt)⟩
   obtain ⟨b9, hA, _, _, y0', _, _⟩ := own_at R1.out.blk (k := k) (by show k < j.blocks.length; rw [← HN.out]; exact hlt)
   obtain rfl : zE = some ⟨b9, 0, none⟩ := HZ.out.trans hA
   have y0 : wr.cell? ⟨b9, k, none⟩ = some (.int .i64 (x : Int)) := by
    rw [y0']
    show (I64 (JI j.blocks))[k]? = _
    rw [I64_JI, hx]
    rfl
   have hxb : x < NB := by rw [HNB.out]; exact HE.out x (List.mem_of_getElem? hx)
   have x19 := C19.out _ _ C1.out
   have HXB := Lib.hid (show x < g.b.toNat by rw [← HNB.out]; exact hxb)
   have X1 := Lib.hid (show Cells wr R 134 (recF g (j.eraseK g k)) by rw [HR.out]; exact R1.out.rcs)
   have hsome : ∀ q, q < E66.size → (recF g (j.eraseK g k) (x * 66 + q)).isSome = true := fun q hq => by
    have h6 : E66.size = 66 := by simp [E66]
    rw [rec_at q HXB.out (by omega)]
    rfl
   have T1 := Lib.hid (X1.out.there_ (x * 66) E66.size hsome)
   have X2 := Lib.hid (X1.out.setCells E66.toList (x * 66) (fun q hq => hsome q (by simpa using hq)))
   have K2 := Lib.hid (Btw.setCells (I := fun q => q = m.r) (g := R) HR.out E66.toList (x * 66) (Btw.refl wr))
   have HX := Lib.hid hx
   have d1 : decide ((k : Int) < (n : Int)) = true := decide_eq_true (by omega)
   have i0 : (0 : Int) ≤ (k : Int) := by omega
   have i1 : (k : Int) < (n : Int) := by omega
   have i2 : (0 : Int) ≤ (x : Int) := by omega
   have i3 : (x : Int) < (NB : Int) := by omega
   clear hA y0' hx hsome
   go_wp2_with (with_reducible refine (?_ : wpList _ _ _ ({ dst := _, op := Op.store 134 _ _, type := _, pos := _, after := _, guard := _ } :: _) _ _); apply wpList_store_mid rfl 134 (.tmp 20) (.tmp 19) rfl R (x * 66) E66 (by simp [Act.eval]) (by simp [Act.eval]; exact E66_is) T1.out size_record (by simp [E66, Value.oneCell']))
   go_roundw
   case rel =>
    have hset := X2.out.sub (f' := recF g (j.eraseK g (k + 1))) (fun i v h => by
     have hm := mem_take_succ HX.out
     have hmx := (hm x).2 (.inr rfl)
     have hno : ∀ b, b ≠ x → (b ∈ j.blocks.take (k + 1) ↔ b ∈ j.blocks.take k) := fun b hne => ⟨fun h => ((hm b).1 h).resolve_right hne, fun h => (hm b).2 (.inl h)⟩
     exact rec_erase (g := g) (j := j.eraseK g k) (er' := (j.eraseK g (k + 1)).er) (la' := (j.eraseK g (k + 1)).la) (pr' := (j.eraseK g (k + 1)).pr) HXB.out (if_pos hmx) (if_pos hmx) (fun q hq => by
       show (if (x * g.s.toNat + q) / g.s.toNat ∈ j.blocks.take (k + 1) then 0 else j.pr _) = 0
       rw [row_div hq, if_pos hmx])
      (fun b hne => by
       show (if b ∈ j.blocks.take (k + 1) then true else j.er b) = (if b ∈ j.blocks.take k then true else j.er b)
       simp only [hno b hne])
      (fun b hne => by
       show (if b ∈ j.blocks.take (k + 1) then -1 else j.la b) = (if b ∈ j.blocks.take k then -1 else j.la b)
       simp only [hno b hne])
      (fun b q hne hq => by
       show (if (b * g.s.toNat + q) / g.s.toNat ∈ j.blocks.take (k + 1) then 0 else j.pr _) = (if (b * g.s.toNat + q) / g.s.toNat ∈ j.blocks.take k then 0 else j.pr _)
       rw [row_div hq]
       simp only [hno b hne]) i v h)
    have H := JH.recs (j := j.eraseK g k) (er := (j.eraseK g (k + 1)).er) (la := (j.eraseK g (k + 1)).la) (pr := (j.eraseK g (k + 1)).pr) C1.out R1.out K2.out (by rw [← HR.out]; exact hset)
    exact ⟨k + 1, by omega, by go_num, Lib.hid H.1, Lib.hid H.2.1, Lib.hid (B1.out.trans H.2.2 fun _ _ h => h)⟩
   case measure => simp [intOf]; omega
  ·
   obtain rfl : k = n := by omega
   have d1 : decide ((k : Int) < (k : Int)) = false := decide_eq_false (by omega)
   have x10 := C10.out _ _ C1.out
   have f10 := C1.out.frozen 10
   have x11 := C1.out.cell_at 11 (.slice m.aE j.erases.length m.cE) rfl
   have f11 := C1.out.frozen 11
   have HV := Lib.hid (show Value.slice zE k m.cB = Value.slice m.aB j.blocks.length m.cB by rw [HZ.out, HN.out])
   have S2 := Lib.hid ((C1.out.setCell 11 (.slice zE k m.cB)).setCell 10 (.slice none 0 0))
   have K2 := Lib.hid (((Btw.refl (I := fun q => q = p) wr).setCell (p := ⟨p, 11, none⟩) (v := .slice zE k m.cB) rfl).setCell (p := ⟨p, 10, none⟩) (v := .slice none 0 0) rfl)
   have F1 := Lib.hid (show j.eraseK g k = { j.erase g with erases := j.erases, blocks := j.blocks } by unfold Jd.eraseK Jd.erase; rw [HN.out, List.take_length])
   go_wp2
   go_end0
   have H := JH.of (j' := j.erase g) (m' := { m with aE := m.aB, cE := m.cB, aB := none, cB := 0 }) C1.out R1.out (by
    have e : ((jCells g (j.eraseK g k) m).setIfInBounds 11 (.slice zE k m.cB)).setIfInBounds 10 (.slice none 0 0) = jCells g (j.erase g) { m with aE := m.aB, cE := m.cB, aB := none, cB := 0 } := by
     rw [HV.out, F1.out]
     rfl
    have h0 := S2.out
    rw [e] at h0
    exact h0) K2.out fun W h => by
    rw [F1.out] at h
    exact { h with
     blk := ⟨rfl, .inl ⟨rfl, rfl⟩⟩
     ers := h.blk
     ab := fun k hk e => (by cases e)
     ae := h.ab
     be := fun k hk => (by cases hk)
     iB := fun k hk => (by cases hk)
     iE := h.iB }
   exact ⟨rfl, H.1, B1.out.trans H.2 fun _ _ h => h⟩
def joinR (g : Gm) (b q r : Nat) : Bool := decide (spP g r = q) && !decide (spB g r % g.p.toNat = b % g.p.toNat)
def Jd.joins (g : Gm) (j : Jd) (b q : Nat) : Bool := (!j.bg || decide (j.bgb = b)) && j.rows.all (joinR g b q)
theorem all_take_succ {f : Nat → Bool} {l : List Nat} {k x : Nat} (hx : l[k]? = some x) (h : (l.take k).all f = true) : (l.take (k + 1)).all f = f x := by
 rw [List.take_add_one, hx, List.all_append, h]
 simp
theorem all_no {f : Nat → Bool} {l : List Nat} {k x : Nat} (hx : l[k]? = some x) (h : f x = false) : l.all f = false := by
 rw [List.all_eq_false]
 exact ⟨x, List.mem_of_getElem? hx, by rw [h]; simp⟩
set_option maxHeartbeats 1000000 in
theorem jjoins (b q : Nat) (hb : b < g.b.toNat) (hn : j.rows.length ≤ 1000000) (h : JH I w p g j) : Calls Tryz.prog 123 #[.pointer (some ⟨p, 0, none⟩), .int .i64 (b : Int), .int .i64 (q : Int)] w (Gives (.bool (j.joins g b q)) w) := by
 have HPL := Lib.hid (fun W x (hx : x < g.b.toNat) (hh : JH I W p g j) => jplane x hx hh)
 have HSP := Lib.hid (fun W x => jSplit g h.ok x W)
 have HSB := Lib.hid (fun x => spB_lt h.ok x)
 have HB := Lib.hid hb
 simp only [Gm.val] at HSP
 have HH := Lib.hid h
 obtain ⟨m, hc, hr⟩ := h
 have C0 := Lib.hid hc
 have HRR := Lib.hid hr
 clear hc hr hb
 cases hbg : j.bg with
 | true =>
  have x5 : w.cell? ⟨p, 5, none⟩ = some (.bool true) := by rw [← hbg]; exact C0.out.cell_at 5 _ rfl
  have x6 := C0.out.cell_at 6 (.int .i64 (j.bgb : Int)) rfl
  by_cases he : j.bgb = b
  ·
   have HE := Lib.hid (show j.joins g b q = j.rows.all (joinR g b q) by unfold Jd.joins; rw [hbg, decide_eq_true he]; rfl)
   rw [he] at x6
   clear he hbg
   rw [HE.out]
   clear HE
   obtain ⟨n, hn0⟩ : ∃ n, n = j.rows.length := ⟨_, rfl⟩
   have HN := Lib.hid hn0
   rw [← hn0] at hn
   obtain ⟨zR, hz⟩ : ∃ zR, zR = m.aR := ⟨_, rfl⟩
   have HZ := Lib.hid hz
   have x9 : w.cell? ⟨p, 9, none⟩ = some (.slice zR n m.cR) := by rw [hz, hn0]; exact C0.out.cell_at 9 _ rfl
   have B0 := Lib.hid (Below.refl w.heap.size w)
   have HR := Lib.hid (show ∃ A c, Value.slice m.aR j.rows.length m.cR = .slice A j.rows.length c from ⟨_, _, rfl⟩)
   have HOWN := Lib.hid (show w.ownsRow 0 3 1 (.slice m.aR j.rows.length m.cR) j.rows.length (I64 (JI j.rows)) from HRR.out.row)
   clear hn0 hz HR
   go_enter Tryz.func123, Tryz.ntmps123
   go_wp2
   clear x9 x5 x6
   go_loopw [32] (fun i wr => ∃ k : Nat, k ≤ n ∧ i = .int .i64 (k : Int) ∧ Hid ((j.rows.take k).all (joinR g b q) = true) ∧ Hid (Below w.heap.size w wr)) (fun i _ => n - (intOf i).toNat)
   case atStart => exact ⟨0, Nat.zero_le _, rfl, Lib.hid rfl, B0⟩
   case round =>
    obtain ⟨k, hk, rfl, HK, B1⟩ := hrel
    rename World => wr
    clear B0
    by_cases hlt : k < n
    ·
     obtain ⟨x, hx⟩ : ∃ x, j.rows[k]? = some x := ⟨_, List.getElem?_eq_getElem (by rw [← HN.out]; exact hlt)⟩
     obtain ⟨b9, hA, _, _, y0', _, _⟩ := own_at (own_below HOWN.out B1.out) (k := k) (by rw [← HN.out]; exact hlt)
     obtain rfl : zR = some ⟨b9, 0, none⟩ := HZ.out.trans hA
     have y0 : wr.cell? ⟨b9, k, none⟩ = some (.int .i64 (x : Int)) := by
      rw [y0', I64_JI, hx]
      rfl
     have HX := Lib.hid hx
     have d1 : decide ((k : Int) < (n : Int)) = true := decide_eq_true (by omega)
     have i0 : (0 : Int) ≤ (k : Int) := by omega
     have i1 : (k : Int) < (n : Int) := by omega
     have C1 := Lib.hid (C0.out.below B1.out)
     have HSX := Lib.hid (HSP.out · x)
     have HF := Lib.hid (show joinR g b q x = (decide (spP g x = q) && !decide (spB g x % g.p.toNat = b % g.p.toNat)) from rfl)
     have HBX := Lib.hid (HSB.out x)
     generalize spB g x = nb at *
     generalize spP g x = np at *
     clear hA y0' hx
     have g12 := C1.out.cell_at 12 (.int .i64 g.p) rfl
     have g13 := C1.out.cell_at 13 (.int .i64 g.b) rfl
     have g14 := C1.out.cell_at 14 (.int .i64 g.s) rfl
     have g15 := C1.out.cell_at 15 (.int .i64 g.c) rfl
     have g16 := C1.out.cell_at 16 (.int .i64 g.k) rfl
     have g17 := C1.out.cell_at 17 (.int .i64 g.r) rfl
     have g18 := C1.out.cell_at 18 (.int .i64 g.q) rfl
     go_wp2_with fail
     clear g12 g13 g14 g15 g16 g17 g18 y0
     refine (HSX.out _).mono ?_
     rintro _ w2 ⟨rfl, hb2⟩
     have B2 := Lib.hid (below_step B1.out hb2)
     clear hb2 C1 HSX
     by_cases hpg : np = q
     ·
      subst hpg
      have HP1 := Lib.hid (HPL.out w2 nb HBX.out (HH.out.below B2.out))
      have HP2 := Lib.hid (fun W (hB : Below w.heap.size w W) => HPL.out W b HB.out (HH.out.below hB))
      generalize nb % g.p.toNat = p1 at *
      generalize b % g.p.toNat = p2 at *
      go_wp2_with fail
      refine HP1.out.mono ?_
      rintro _ w3 ⟨rfl, hb3⟩
      have B3 := Lib.hid (below_step B2.out hb3)
      clear hb3 HP1
      go_wp2_with fail
      refine (HP2.out _ B3.out).mono ?_
      rintro _ w4 ⟨rfl, hb4⟩
      have B4 := Lib.hid (below_step B3.out hb4)
      clear hb4 HP2
      by_cases hpl : p1 = p2
      ·
       subst hpl
       go_wp2
       go_ret
       exact ⟨by rw [all_no HX.out (by rw [HF.out]; simp)]; rfl, B4.out⟩
      ·
       have e1 : decide (p1 = p2) = false := decide_eq_false hpl
       have e2 : ((p1 : Int) == (p2 : Int)) = false := by rw [beq_eq_false_iff_ne]; omega
       have e3 : ¬ ((p1 : Int) = (p2 : Int)) := by omega
       have HPL2 := Lib.hid hpl
       go_wp2
       go_roundw
       case rel => exact ⟨k + 1, by omega, by go_num, Lib.hid (by rw [all_take_succ HX.out HK.out, HF.out]; simp [HPL2.out]), B4⟩
       case measure => simp [intOf]; omega
     ·
      have e1 : decide (np = q) = false := decide_eq_false hpg
      have e2 : ((np : Int) == (q : Int)) = false := by rw [beq_eq_false_iff_ne]; omega
      have e3 : ¬ ((np : Int) = (q : Int)) := by omega
      go_wp2
      go_ret
      exact ⟨by rw [all_no HX.out (by rw [HF.out]; simp [hpg])]; rfl, B2.out⟩
    ·
     obtain rfl : k = n := by omega
     have d1 : decide ((k : Int) < (k : Int)) = false := decide_eq_false (by omega)
     have F1 := Lib.hid (show j.rows.all (joinR g b q) = true by
      have h0 := HK.out
      rw [HN.out, List.take_length] at h0
      exact h0)
     go_wp2
     go_ret
     exact ⟨by rw [F1.out]; rfl, B1.out⟩
  ·
   have HE := Lib.hid (show j.joins g b q = false by unfold Jd.joins; rw [hbg, decide_eq_false he]; rfl)
   have e1 : decide (j.bgb = b) = false := decide_eq_false he
   have e2 : ((j.bgb : Int) == (b : Int)) = false := by rw [beq_eq_false_iff_ne]; omega
   have e3 : ¬ ((j.bgb : Int) = (b : Int)) := by omega
   rw [HE.out]
   clear hbg
   go_enter Tryz.func123, Tryz.ntmps123
   go_wp2
   go_ret
   exact ⟨by simp, Below.refl _ _⟩
 | false =>
  have x5 : w.cell? ⟨p, 5, none⟩ = some (.bool false) := by rw [← hbg]; exact C0.out.cell_at 5 _ rfl
  have HE := Lib.hid (show j.joins g b q = j.rows.all (joinR g b q) by unfold Jd.joins; rw [hbg]; rfl)
  clear hbg
  skip
  rw [HE.out]
  clear HE
  obtain ⟨n, hn0⟩ : ∃ n, n = j.rows.length := ⟨_, rfl⟩
  have HN := Lib.hid hn0
  rw [← hn0] at hn
  obtain ⟨zR, hz⟩ : ∃ zR, zR = m.aR := ⟨_, rfl⟩
  have HZ := Lib.hid hz
  have x9 : w.cell? ⟨p, 9, none⟩ = some (.slice zR n m.cR) := by rw [hz, hn0]; exact C0.out.cell_at 9 _ rfl
  have B0 := Lib.hid (Below.refl w.heap.size w)
  have HR := Lib.hid (show ∃ A c, Value.slice m.aR j.rows.length m.cR = .slice A j.rows.length c from ⟨_, _, rfl⟩)
  have HOWN := Lib.hid (show w.ownsRow 0 3 1 (.slice m.aR j.rows.length m.cR) j.rows.length (I64 (JI j.rows)) from HRR.out.row)
  clear hn0 hz HR
  go_enter Tryz.func123, Tryz.ntmps123
  go_wp2
  clear x9 x5
  go_loopw [32] (fun i wr => ∃ k : Nat, k ≤ n ∧ i = .int .i64 (k : Int) ∧ Hid ((j.rows.take k).all (joinR g b q) = true) ∧ Hid (Below w.heap.size w wr)) (fun i _ => n - (intOf i).toNat)
  case atStart => exact ⟨0, Nat.zero_le _, rfl, Lib.hid rfl, B0⟩
  case round =>
   obtain ⟨k, hk, rfl, HK, B1⟩ := hrel
   rename World => wr
   clear B0
   by_cases hlt : k < n
   ·
    obtain ⟨x, hx⟩ : ∃ x, j.rows[k]? = some x := ⟨_, List.getElem?_eq_getElem (by rw [← HN.out]; exact hlt)⟩
    obtain ⟨b9, hA, _, _, y0', _, _⟩ := own_at (own_below HOWN.out B1.out) (k := k) (by rw [← HN.out]; exact hlt)
    obtain rfl : zR = some ⟨b9, 0, none⟩ := HZ.out.trans hA
    have y0 : wr.cell? ⟨b9, k, none⟩ = some (.int .i64 (x : Int)) := by
     rw [y0', I64_JI, hx]
     rfl
    have HX := Lib.hid hx
    have d1 : decide ((k : Int) < (n : Int)) = true := decide_eq_true (by omega)
    have i0 : (0 : Int) ≤ (k : Int) := by omega
    have i1 : (k : Int) < (n : Int) := by omega
    have C1 := Lib.hid (C0.out.below B1.out)
    have HSX := Lib.hid (HSP.out · x)
    have HF := Lib.hid (show joinR g b q x = (decide (spP g x = q) && !decide (spB g x % g.p.toNat = b % g.p.toNat)) from rfl)
    have HBX := Lib.hid (HSB.out x)
    generalize spB g x = nb at *
    generalize spP g x = np at *
    clear hA y0' hx
    have g12 := C1.out.cell_at 12 (.int .i64 g.p) rfl
    have g13 := C1.out.cell_at 13 (.int .i64 g.b) rfl
    have g14 := C1.out.cell_at 14 (.int .i64 g.s) rfl
    have g15 := C1.out.cell_at 15 (.int .i64 g.c) rfl
    have g16 := C1.out.cell_at 16 (.int .i64 g.k) rfl
    have g17 := C1.out.cell_at 17 (.int .i64 g.r) rfl
    have g18 := C1.out.cell_at 18 (.int .i64 g.q) rfl
    go_wp2_with fail
    clear g12 g13 g14 g15 g16 g17 g18 y0
    refine (HSX.out _).mono ?_
    rintro _ w2 ⟨rfl, hb2⟩
    have B2 := Lib.hid (below_step B1.out hb2)
    clear hb2 C1 HSX
    by_cases hpg : np = q
    ·
     subst hpg
     have HP1 := Lib.hid (HPL.out w2 nb HBX.out (HH.out.below B2.out))
     have HP2 := Lib.hid (fun W (hB : Below w.heap.size w W) => HPL.out W b HB.out (HH.out.below hB))
     generalize nb % g.p.toNat = p1 at *
     generalize b % g.p.toNat = p2 at *
     go_wp2_with fail
     refine HP1.out.mono ?_
     rintro _ w3 ⟨rfl, hb3⟩
     have B3 := Lib.hid (below_step B2.out hb3)
     clear hb3 HP1
     go_wp2_with fail
     refine (HP2.out _ B3.out).mono ?_
     rintro _ w4 ⟨rfl, hb4⟩
     have B4 := Lib.hid (below_step B3.out hb4)
     clear hb4 HP2
     by_cases hpl : p1 = p2
     ·
      subst hpl
      go_wp2
      go_ret
      exact ⟨by rw [all_no HX.out (by rw [HF.out]; simp)]; rfl, B4.out⟩
     ·
      have e1 : decide (p1 = p2) = false := decide_eq_false hpl
      have e2 : ((p1 : Int) == (p2 : Int)) = false := by rw [beq_eq_false_iff_ne]; omega
      have e3 : ¬ ((p1 : Int) = (p2 : Int)) := by omega
      have HPL2 := Lib.hid hpl
      go_wp2
      go_roundw
      case rel => exact ⟨k + 1, by omega, by go_num, Lib.hid (by rw [all_take_succ HX.out HK.out, HF.out]; simp [HPL2.out]), B4⟩
      case measure => simp [intOf]; omega
    ·
     have e1 : decide (np = q) = false := decide_eq_false hpg
     have e2 : ((np : Int) == (q : Int)) = false := by rw [beq_eq_false_iff_ne]; omega
     have e3 : ¬ ((np : Int) = (q : Int)) := by omega
     go_wp2
     go_ret
     exact ⟨by rw [all_no HX.out (by rw [HF.out]; simp [hpg])]; rfl, B2.out⟩
   ·
    obtain rfl : k = n := by omega
    have d1 : decide ((k : Int) < (k : Int)) = false := decide_eq_false (by omega)
    have F1 := Lib.hid (show j.rows.all (joinR g b q) = true by
     have h0 := HK.out
     rw [HN.out, List.take_length] at h0
     exact h0)
    go_wp2
    go_ret
    exact ⟨by rw [F1.out]; rfl, B1.out⟩
end
theorem u8_64 (b : Nat) (h : b < 256) : (bits .and .u8 (b : Int) 64 == 0) = decide (b / 64 % 2 = 0) := by
 have : ∀ x : Fin 256, (bits .and .u8 ((x.val : Nat) : Int) 64 == 0) = decide (x.val / 64 % 2 = 0) := by decide +kernel
 exact this ⟨b, h⟩
theorem u8_1 (b : Nat) (h : b < 256) : (bits .and .u8 (b : Int) 1 == 0) = decide (b % 2 = 0) := by
 have : ∀ x : Fin 256, (bits .and .u8 ((x.val : Nat) : Int) 1 == 0) = decide (x.val % 2 = 0) := by decide +kernel
 exact this ⟨b, h⟩
theorem u8_32 (b : Nat) (h : b < 256) : (bits .and .u8 (b : Int) 32 == 0) = decide (b / 32 % 2 = 0) := by
 have : ∀ x : Fin 256, (bits .and .u8 ((x.val : Nat) : Int) 32 == 0) = decide (x.val / 32 % 2 = 0) := by decide +kernel
 exact this ⟨b, h⟩
section
variable {I K : Nat → Prop} {w w' : World} {p : Nat} {g : Gm} {j : Jd} {m : Jm}
def Jd.poll (j : Jd) (b : Nat) : Jd := if b / 64 % 2 = 0 then j else { (if b % 2 = 1 then j.spoil else j) with erases := [], busy := false, bg := if b / 32 % 2 = 1 then false else j.bg }
set_option maxHeartbeats 1000000 in
theorem jpoll (b : Nat) (hb : b < 256) (hE : ∀ x ∈ j.erases, x < g.b.toNat) (hn : j.erases.length ≤ 1000000) (h : JH I w p g j) : Calls Tryz.prog 76 #[.pointer (some ⟨p, 0, none⟩), .int .u8 (b : Int)] w (ActsJ I p g (.tuple #[]) (j.poll b) w) := by
 have HSP := Lib.hid (jspoil hE hn h)
 have HB := Lib.hid hb
 have HH := Lib.hid h
 clear h hE hn hb
 by_cases h64 : b / 64 % 2 = 0
 ·
  have e64 : (bits .and .u8 (b : Int) 64 == 0) = true := by rw [u8_64 b HB.out, decide_eq_true h64]
  have n64 : bits .and .u8 (b : Int) 64 = 0 := by simpa using e64
  have HE := Lib.hid (show j.poll b = j by unfold Jd.poll; rw [if_pos h64])
  clear h64
  go_enter Tryz.func76, Tryz.ntmps76
  go_wp2
  go_end0
  rw [HE.out]
  exact ⟨rfl, HH.out, Btw.refl w⟩
 ·
  have e64 : (bits .and .u8 (b : Int) 64 == 0) = false := by rw [u8_64 b HB.out, decide_eq_false h64]
  have n64 : ¬ bits .and .u8 (b : Int) 64 = 0 := by simpa using e64
  have H64 := Lib.hid h64
  clear h64
  by_cases h1 : b % 2 = 0
  ·
   have e1 : (bits .and .u8 (b : Int) 1 == 0) = true := by rw [u8_1 b HB.out, decide_eq_true h1]
   have n1 : bits .and .u8 (b : Int) 1 = 0 := by simpa using e1
   have H1 := Lib.hid (show ¬ b % 2 = 1 by omega)
   clear h1
   obtain ⟨m, hc, hr⟩ := HH.out
   obtain ⟨w1, hw⟩ : ∃ w1, w1 = w := ⟨_, rfl⟩
   have B1 := Lib.hid (show Btw I w w1 by rw [hw]; exact Btw.refl w)
   rw [← hw] at hc hr ⊢
   have C1 := Lib.hid hc
   have R1 := Lib.hid hr
   have HW := Lib.hid hw
   clear hc hr hw HH HSP
   go_enter Tryz.func76, Tryz.ntmps76
   by_cases h32 : b / 32 % 2 = 0
   ·
    have e32 : (bits .and .u8 (b : Int) 32 == 0) = true := by rw [u8_32 b HB.out, decide_eq_true h32]
    have n32 : bits .and .u8 (b : Int) 32 = 0 := by simpa using e32
    have HE := Lib.hid (show j.poll b = { j with erases := [], busy := false } by unfold Jd.poll; rw [if_neg H64.out, if_neg H1.out, if_neg (by omega)]; try rfl)
    have x11 := C1.out.cell_at 11 (.slice m.aE j.erases.length m.cE) rfl
    have f11 := C1.out.frozen 11
    have S1 := Lib.hid (C1.out.setCell 11 (.slice none 0 0))
    have K1 := Lib.hid (((Btw.refl w1)).setCell (I := fun k => k = p) (p := ⟨p, 11, none⟩) (v := .slice none 0 0) rfl)
    have x3 := S1.out.cell_at 3 (.bool j.busy) rfl
    have f3 := S1.out.frozen 3
    have S2 := Lib.hid (S1.out.setCell 3 (.bool false))
    have K2 := Lib.hid ((K1.out).setCell (I := fun k => k = p) (p := ⟨p, 3, none⟩) (v := .bool false) rfl)
    clear h32
    go_wp2
    go_end0
    have H := JH.of (j' := j.poll b) (m' := { m with aE := none, cE := 0 }) C1.out R1.out (by rw [HE.out]; exact S2.out) K2.out fun W h => by rw [HE.out]; exact { h with ers := ⟨rfl, .inl ⟨rfl, rfl⟩⟩, ae := fun k _ e => (by cases e), be := fun k _ e => (by cases e), iE := fun k hk => (by cases hk) }
    exact ⟨rfl, H.1, H.2⟩
   ·
    have e32 : (bits .and .u8 (b : Int) 32 == 0) = false := by rw [u8_32 b HB.out, decide_eq_false h32]
    have n32 : ¬ bits .and .u8 (b : Int) 32 = 0 := by simpa using e32
    have HE := Lib.hid (show j.poll b = { j with erases := [], busy := false, bg := false } by unfold Jd.poll; rw [if_neg H64.out, if_neg H1.out, if_pos (by omega)]; try rfl)
    have x11 := C1.out.cell_at 11 (.slice m.aE j.erases.length m.cE) rfl
    have f11 := C1.out.frozen 11
    have S1 := Lib.hid (C1.out.setCell 11 (.slice none 0 0))
    have K1 := Lib.hid (((Btw.refl w1)).setCell (I := fun k => k = p) (p := ⟨p, 11, none⟩) (v := .slice none 0 0) rfl)
    have x3 := S1.out.cell_at 3 (.bool j.busy) rfl
    have f3 := S1.out.frozen 3
    have S2 := Lib.hid (S1.out.setCell 3 (.bool false))
    have K2 := Lib.hid ((K1.out).setCell (I := fun k => k = p) (p := ⟨p, 3, none⟩) (v := .bool false) rfl)
    have x5 := S2.out.cell_at 5 (.bool j.bg) rfl
    have f5 := S2.out.frozen 5
    have S3 := Lib.hid (S2.out.setCell 5 (.bool false))
    have K3 := Lib.hid ((K2.out).setCell (I := fun k => k = p) (p := ⟨p, 5, none⟩) (v := .bool false) rfl)
    clear h32
    go_wp2
    go_end0
    have H := JH.of (j' := j.poll b) (m' := { m with aE := none, cE := 0 }) C1.out R1.out (by rw [HE.out]; exact S3.out) K3.out fun W h => by rw [HE.out]; exact { h with ers := ⟨rfl, .inl ⟨rfl, rfl⟩⟩, ae := fun k _ e => (by cases e), be := fun k _ e => (by cases e), iE := fun k hk => (by cases hk) }
    exact ⟨rfl, H.1, H.2⟩
  ·
   have e1 : (bits .and .u8 (b : Int) 1 == 0) = false := by rw [u8_1 b HB.out, decide_eq_false h1]
   have n1 : ¬ bits .and .u8 (b : Int) 1 = 0 := by simpa using e1
   have H1 := Lib.hid (show b % 2 = 1 by omega)
   clear h1
   go_enter Tryz.func76, Tryz.ntmps76
   go_wp2_with fail
   refine HSP.out.mono ?_
   rintro _ w1 ⟨rfl, h1, b1⟩
   obtain ⟨m, hc, hr⟩ := h1
   have C1 := Lib.hid hc
   have R1 := Lib.hid hr
   have B1 := Lib.hid b1
   clear hc hr b1 HSP HH
   by_cases h32 : b / 32 % 2 = 0
   ·
    have e32 : (bits .and .u8 (b : Int) 32 == 0) = true := by rw [u8_32 b HB.out, decide_eq_true h32]
    have n32 : bits .and .u8 (b : Int) 32 = 0 := by simpa using e32
    have HE := Lib.hid (show j.poll b = { j.spoil with erases := [], busy := false } by unfold Jd.poll; rw [if_neg H64.out, if_pos H1.out, if_neg (by omega)]; try rfl)
    have x11 := C1.out.cell_at 11 (.slice m.aE (j.spoil).erases.length m.cE) rfl
    have f11 := C1.out.frozen 11
    have S1 := Lib.hid (C1.out.setCell 11 (.slice none 0 0))
    have K1 := Lib.hid (((Btw.refl w1)).setCell (I := fun k => k = p) (p := ⟨p, 11, none⟩) (v := .slice none 0 0) rfl)
    have x3 := S1.out.cell_at 3 (.bool (j.spoil).busy) rfl
    have f3 := S1.out.frozen 3
    have S2 := Lib.hid (S1.out.setCell 3 (.bool false))
    have K2 := Lib.hid ((K1.out).setCell (I := fun k => k = p) (p := ⟨p, 3, none⟩) (v := .bool false) rfl)
    clear h32
    go_wp2
    go_end0
    have H := JH.of (j' := j.poll b) (m' := { m with aE := none, cE := 0 }) C1.out R1.out (by rw [HE.out]; exact S2.out) K2.out fun W h => by rw [HE.out]; exact { h with ers := ⟨rfl, .inl ⟨rfl, rfl⟩⟩, ae := fun k _ e => (by cases e), be := fun k _ e => (by cases e), iE := fun k hk => (by cases hk) }
    exact ⟨rfl, H.1, B1.out.trans H.2 fun _ _ h => h⟩
   ·
    have e32 : (bits .and .u8 (b : Int) 32 == 0) = false := by rw [u8_32 b HB.out, decide_eq_false h32]
    have n32 : ¬ bits .and .u8 (b : Int) 32 = 0 := by simpa using e32
    have HE := Lib.hid (show j.poll b = { j.spoil with erases := [], busy := false, bg := false } by unfold Jd.poll; rw [if_neg H64.out, if_pos H1.out, if_pos (by omega)]; try rfl)
    have x11 := C1.out.cell_at 11 (.slice m.aE (j.spoil).erases.length m.cE) rfl
    have f11 := C1.out.frozen 11
    have S1 := Lib.hid (C1.out.setCell 11 (.slice none 0 0))
    have K1 := Lib.hid (((Btw.refl w1)).setCell (I := fun k => k = p) (p := ⟨p, 11, none⟩) (v := .slice none 0 0) rfl)
    have x3 := S1.out.cell_at 3 (.bool (j.spoil).busy) rfl
    have f3 := S1.out.frozen 3
    have S2 := Lib.hid (S1.out.setCell 3 (.bool false))
    have K2 := Lib.hid ((K1.out).setCell (I := fun k => k = p) (p := ⟨p, 3, none⟩) (v := .bool false) rfl)
    have x5 := S2.out.cell_at 5 (.bool (j.spoil).bg) rfl
    have f5 := S2.out.frozen 5
    have S3 := Lib.hid (S2.out.setCell 5 (.bool false))
    have K3 := Lib.hid ((K2.out).setCell (I := fun k => k = p) (p := ⟨p, 5, none⟩) (v := .bool false) rfl)
    clear h32
    go_wp2
    go_end0
    have H := JH.of (j' := j.poll b) (m' := { m with aE := none, cE := 0 }) C1.out R1.out (by rw [HE.out]; exact S3.out) K3.out fun W h => by rw [HE.out]; exact { h with ers := ⟨rfl, .inl ⟨rfl, rfl⟩⟩, ae := fun k _ e => (by cases e), be := fun k _ e => (by cases e), iE := fun k hk => (by cases hk) }
    exact ⟨rfl, H.1, B1.out.trans H.2 fun _ _ h => h⟩
def Jd.begin (j : Jd) (b : Nat) : Bool × Jd :=
 if jopen b = 0 ∨ j.may (jopen b) = false then (false, j) else (true, (if jopen b ≠ 5 ∧ jopen b ≠ 7 then { j with data := false } else j).enter (jopen b))
set_option maxHeartbeats 1000000 in
theorem jbegin (b : Nat) (hb : b < 256) (hR : j.rows.length ≤ 100000) (hB : j.blocks.length ≤ 100000) (h : JH I w p g j) : Calls Tryz.prog 102 #[.pointer (some ⟨p, 0, none⟩), .int .u8 (b : Int)] w (ActsJ I p g (.bool (j.begin b).1) (j.begin b).2 w) := by
 have HO := Lib.hid (fun W => jopened b hb W)
 have HM := Lib.hid (fun W (hh : JH I W p g j) => jmay (jopen b) (jopen_le b) hh hR hB)
 have HL := Lib.hid (jopen_le b)
 have HH := Lib.hid h
 have HE0 : j.begin b = (if jopen b = 0 ∨ j.may (jopen b) = false then (false, j) else (true, (if jopen b ≠ 5 ∧ jopen b ≠ 7 then { j with data := false } else j).enter (jopen b))) := rfl
 generalize jopen b = t at *
 clear h hb hR hB
 by_cases h0 : t = 0
 ·
  rw [if_pos (.inl h0)] at HE0
  have HE := Lib.hid HE0
  clear HE0
  subst h0
  go_enter Tryz.func102, Tryz.ntmps102
  go_wp2_with fail
  refine (HO.out _).mono ?_
  rintro _ w1 ⟨rfl, h1⟩
  have B1 := Lib.hid h1
  clear h1
  go_wp2
  go_ret
  rw [HE.out]
  exact ⟨rfl, HH.out.below B1.out, Btw.of_below B1.out⟩
 ·
  have d0 : decide (t ≠ 0) = true := decide_eq_true h0
  rw [d0] at HO
  cases hm : j.may t with
  | false =>
   rw [hm] at HM
   rw [if_pos (.inr hm)] at HE0
   have HE := Lib.hid HE0
   clear HE0 hm h0
   go_enter Tryz.func102, Tryz.ntmps102
   go_wp2_with fail
   refine (HO.out _).mono ?_
   rintro _ w1 ⟨rfl, h1⟩
   have B1 := Lib.hid h1
   clear h1
   go_wp2_with fail
   refine (HM.out _ (HH.out.below B1.out)).mono ?_
   rintro _ w2 ⟨rfl, h2⟩
   have B2 := Lib.hid (below_step B1.out h2)
   clear h2
   go_wp2
   go_ret
   rw [HE.out]
   exact ⟨rfl, HH.out.below B2.out, Btw.of_below B2.out⟩
  | true =>
   rw [hm] at HM
   rw [if_neg (by rw [hm]; simp; exact h0)] at HE0
   clear hm
   by_cases h57 : t = 5 ∨ t = 7
   ·
    have HE := Lib.hid (show j.begin b = (true, j.enter t) by rw [HE0, if_neg (by omega)])
    have hx := HH.out
    clear HE0
    rcases h57 with rfl | rfl
    all_goals go_enter Tryz.func102, Tryz.ntmps102
    all_goals go_wp2_with fail
    all_goals refine (HO.out _).mono ?_
    all_goals rintro _ w1 ⟨rfl, h1⟩
    all_goals have B1 := Lib.hid h1
    all_goals clear h1
    all_goals go_wp2_with fail
    all_goals refine (HM.out _ (HH.out.below B1.out)).mono ?_
    all_goals rintro _ w2 ⟨rfl, h2⟩
    all_goals have B2 := Lib.hid (below_step B1.out h2)
    all_goals clear h2 hx
    ·
     go_wp2_with fail
     refine (jenter 5 (HH.out.below B2.out)).mono ?_
     rintro _ w3 ⟨rfl, h3, b3⟩
     have H3 := Lib.hid h3
     have B3 := Lib.hid ((Btw.of_below (I := I) B2.out).trans b3 fun _ _ h => h)
     clear h3 b3
     go_wp2
     go_ret
     rw [HE.out]
     exact ⟨rfl, H3.out, B3.out⟩
    ·
     go_wp2_with fail
     refine (jenter 7 (HH.out.below B2.out)).mono ?_
     rintro _ w3 ⟨rfl, h3, b3⟩
     have H3 := Lib.hid h3
     have B3 := Lib.hid ((Btw.of_below (I := I) B2.out).trans b3 fun _ _ h => h)
     clear h3 b3
     go_wp2
     go_ret
     rw [HE.out]
     exact ⟨rfl, H3.out, B3.out⟩
   ·
    have HE := Lib.hid (show j.begin b = (true, ({ j with data := false } : Jd).enter t) by rw [HE0, if_pos (by omega)])
    have hd : t = 1 ∨ t = 2 ∨ t = 3 ∨ t = 4 ∨ t = 6 ∨ t = 8 ∨ t = 9 := by have := HL.out; omega
    clear HE0 h57 h0 d0
    have hx := HH.out
    rcases hd with rfl | rfl | rfl | rfl | rfl | rfl | rfl
    ·
     clear hx
     go_enter Tryz.func102, Tryz.ntmps102
     go_wp2_with fail
     refine (HO.out _).mono ?_
     rintro _ w1 ⟨rfl, h1⟩
     have B1 := Lib.hid h1
     clear h1
     go_wp2_with fail
     refine (HM.out _ (HH.out.below B1.out)).mono ?_
     rintro _ w2 ⟨rfl, h2⟩
     have B2 := Lib.hid (below_step B1.out h2)
     clear h2
     obtain ⟨m, hc, hr⟩ := HH.out.below B2.out
     have C2 := Lib.hid hc
     have R2 := Lib.hid hr
     clear hc hr
     have x7 := C2.out.cell_at 7 (.bool j.data) rfl
     have f7 := C2.out.frozen 7
     have S1 := Lib.hid (C2.out.setCell 7 (.bool false))
     have K1 := Lib.hid (((Btw.refl w2)).setCell (I := fun k => k = p) (p := ⟨p, 7, none⟩) (v := .bool false) rfl)
     have H := JH.of (j' := { j with data := false }) (m' := m) C2.out R2.out S1.out K1.out fun W h => { h with }
     have H2 := Lib.hid H.1
     have K2 := Lib.hid H.2
     clear H
     go_wp2_with fail
     refine (jenter 1 H2.out).mono ?_
     rintro _ w3 ⟨rfl, h3, b3⟩
     have H3 := Lib.hid h3
     have B3 := Lib.hid (((Btw.of_below (I := I) B2.out).trans K2.out fun _ _ h => h).trans b3 fun _ _ h => h)
     clear h3 b3
     go_wp2
     go_ret
     rw [HE.out]
     exact ⟨rfl, H3.out, B3.out⟩
    ·
     clear hx
     go_enter Tryz.func102, Tryz.ntmps102
     go_wp2_with fail
     refine (HO.out _).mono ?_
     rintro _ w1 ⟨rfl, h1⟩
     have B1 := Lib.hid h1
     clear h1
     go_wp2_with fail
     refine (HM.out _ (HH.out.below B1.out)).mono ?_
     rintro _ w2 ⟨rfl, h2⟩
     have B2 := Lib.hid (below_step B1.out h2)
     clear h2
     obtain ⟨m, hc, hr⟩ := HH.out.below B2.out
     have C2 := Lib.hid hc
     have R2 := Lib.hid hr
     clear hc hr
     have x7 := C2.out.cell_at 7 (.bool j.data) rfl
     have f7 := C2.out.frozen 7
     have S1 := Lib.hid (C2.out.setCell 7 (.bool false))
     have K1 := Lib.hid (((Btw.refl w2)).setCell (I := fun k => k = p) (p := ⟨p, 7, none⟩) (v := .bool false) rfl)
     have H := JH.of (j' := { j with data := false }) (m' := m) C2.out R2.out S1.out K1.out fun W h => { h with }
     have H2 := Lib.hid H.1
     have K2 := Lib.hid H.2
     clear H
     go_wp2_with fail
     refine (jenter 2 H2.out).mono ?_
     rintro _ w3 ⟨rfl, h3, b3⟩
     have H3 := Lib.hid h3
     have B3 := Lib.hid (((Btw.of_below (I := I) B2.out).trans K2.out fun _ _ h => h).trans b3 fun _ _ h => h)
     clear h3 b3
     go_wp2
     go_ret
     rw [HE.out]
     exact ⟨rfl, H3.out, B3.out⟩
    ·
     clear hx
     go_enter Tryz.func102, Tryz.ntmps102
     go_wp2_with fail
     refine (HO.out _).mono ?_
     rintro _ w1 ⟨rfl, h1⟩
     have B1 := Lib.hid h1
     clear h1
     go_wp2_with fail
     refine (HM.out _ (HH.out.below B1.out)).mono ?_
     rintro _ w2 ⟨rfl, h2⟩
     have B2 := Lib.hid (below_step B1.out h2)
     clear h2
     obtain ⟨m, hc, hr⟩ := HH.out.below B2.out
     have C2 := Lib.hid hc
     have R2 := Lib.hid hr
     clear hc hr
     have x7 := C2.out.cell_at 7 (.bool j.data) rfl
     have f7 := C2.out.frozen 7
     have S1 := Lib.hid (C2.out.setCell 7 (.bool false))
     have K1 := Lib.hid (((Btw.refl w2)).setCell (I := fun k => k = p) (p := ⟨p, 7, none⟩) (v := .bool false) rfl)
     have H := JH.of (j' := { j with data := false }) (m' := m) C2.out R2.out S1.out K1.out fun W h => { h with }
     have H2 := Lib.hid H.1
     have K2 := Lib.hid H.2
     clear H
     go_wp2_with fail
     refine (jenter 3 H2.out).mono ?_
     rintro _ w3 ⟨rfl, h3, b3⟩
     have H3 := Lib.hid h3
     have B3 := Lib.hid (((Btw.of_below (I := I) B2.out).trans K2.out fun _ _ h => h).trans b3 fun _ _ h => h)
     clear h3 b3
     go_wp2
     go_ret
     rw [HE.out]
     exact ⟨rfl, H3.out, B3.out⟩
    ·
     clear hx
     go_enter Tryz.func102, Tryz.ntmps102
     go_wp2_with fail
     refine (HO.out _).mono ?_
     rintro _ w1 ⟨rfl, h1⟩
     have B1 := Lib.hid h1
     clear h1
     go_wp2_with fail
     refine (HM.out _ (HH.out.below B1.out)).mono ?_
     rintro _ w2 ⟨rfl, h2⟩
     have B2 := Lib.hid (below_step B1.out h2)
     clear h2
     obtain ⟨m, hc, hr⟩ := HH.out.below B2.out
     have C2 := Lib.hid hc
     have R2 := Lib.hid hr
     clear hc hr
     have x7 := C2.out.cell_at 7 (.bool j.data) rfl
     have f7 := C2.out.frozen 7
     have S1 := Lib.hid (C2.out.setCell 7 (.bool false))
     have K1 := Lib.hid (((Btw.refl w2)).setCell (I := fun k => k = p) (p := ⟨p, 7, none⟩) (v := .bool false) rfl)
     have H := JH.of (j' := { j with data := false }) (m' := m) C2.out R2.out S1.out K1.out fun W h => { h with }
     have H2 := Lib.hid H.1
     have K2 := Lib.hid H.2
     clear H
     go_wp2_with fail
     refine (jenter 4 H2.out).mono ?_
     rintro _ w3 ⟨rfl, h3, b3⟩
     have H3 := Lib.hid h3
     have B3 := Lib.hid (((Btw.of_below (I := I) B2.out).trans K2.out fun _ _ h => h).trans b3 fun _ _ h => h)
     clear h3 b3
     go_wp2
     go_ret
     rw [HE.out]
     exact ⟨rfl, H3.out, B3.out⟩
    ·
     clear hx
     go_enter Tryz.func102, Tryz.ntmps102
     go_wp2_with fail
     refine (HO.out _).mono ?_
     rintro _ w1 ⟨rfl, h1⟩
     have B1 := Lib.hid h1
     clear h1
     go_wp2_with fail
     refine (HM.out _ (HH.out.below B1.out)).mono ?_
     rintro _ w2 ⟨rfl, h2⟩
     have B2 := Lib.hid (below_step B1.out h2)
     clear h2
     obtain ⟨m, hc, hr⟩ := HH.out.below B2.out
     have C2 := Lib.hid hc
     have R2 := Lib.hid hr
     clear hc hr
     have x7 := C2.out.cell_at 7 (.bool j.data) rfl
     have f7 := C2.out.frozen 7
     have S1 := Lib.hid (C2.out.setCell 7 (.bool false))
     have K1 := Lib.hid (((Btw.refl w2)).setCell (I := fun k => k = p) (p := ⟨p, 7, none⟩) (v := .bool false) rfl)
     have H := JH.of (j' := { j with data := false }) (m' := m) C2.out R2.out S1.out K1.out fun W h => { h with }
     have H2 := Lib.hid H.1
     have K2 := Lib.hid H.2
     clear H
     go_wp2_with fail
     refine (jenter 6 H2.out).mono ?_
     rintro _ w3 ⟨rfl, h3, b3⟩
     have H3 := Lib.hid h3
     have B3 := Lib.hid (((Btw.of_below (I := I) B2.out).trans K2.out fun _ _ h => h).trans b3 fun _ _ h => h)
     clear h3 b3
     go_wp2
     go_ret
     rw [HE.out]
     exact ⟨rfl, H3.out, B3.out⟩
    ·
     clear hx
     go_enter Tryz.func102, Tryz.ntmps102
     go_wp2_with fail
     refine (HO.out _).mono ?_
     rintro _ w1 ⟨rfl, h1⟩
     have B1 := Lib.hid h1
     clear h1
     go_wp2_with fail
     refine (HM.out _ (HH.out.below B1.out)).mono ?_
     rintro _ w2 ⟨rfl, h2⟩
     have B2 := Lib.hid (below_step B1.out h2)
     clear h2
     obtain ⟨m, hc, hr⟩ := HH.out.below B2.out
     have C2 := Lib.hid hc
     have R2 := Lib.hid hr
     clear hc hr
     have x7 := C2.out.cell_at 7 (.bool j.data) rfl
     have f7 := C2.out.frozen 7
     have S1 := Lib.hid (C2.out.setCell 7 (.bool false))
     have K1 := Lib.hid (((Btw.refl w2)).setCell (I := fun k => k = p) (p := ⟨p, 7, none⟩) (v := .bool false) rfl)
     have H := JH.of (j' := { j with data := false }) (m' := m) C2.out R2.out S1.out K1.out fun W h => { h with }
     have H2 := Lib.hid H.1
     have K2 := Lib.hid H.2
     clear H
     go_wp2_with fail
     refine (jenter 8 H2.out).mono ?_
     rintro _ w3 ⟨rfl, h3, b3⟩
     have H3 := Lib.hid h3
     have B3 := Lib.hid (((Btw.of_below (I := I) B2.out).trans K2.out fun _ _ h => h).trans b3 fun _ _ h => h)
     clear h3 b3
     go_wp2
     go_ret
     rw [HE.out]
     exact ⟨rfl, H3.out, B3.out⟩
    ·
     clear hx
     go_enter Tryz.func102, Tryz.ntmps102
     go_wp2_with fail
     refine (HO.out _).mono ?_
     rintro _ w1 ⟨rfl, h1⟩
     have B1 := Lib.hid h1
     clear h1
     go_wp2_with fail
     refine (HM.out _ (HH.out.below B1.out)).mono ?_
     rintro _ w2 ⟨rfl, h2⟩
     have B2 := Lib.hid (below_step B1.out h2)
     clear h2
     obtain ⟨m, hc, hr⟩ := HH.out.below B2.out
     have C2 := Lib.hid hc
     have R2 := Lib.hid hr
     clear hc hr
     have x7 := C2.out.cell_at 7 (.bool j.data) rfl
     have f7 := C2.out.frozen 7
     have S1 := Lib.hid (C2.out.setCell 7 (.bool false))
     have K1 := Lib.hid (((Btw.refl w2)).setCell (I := fun k => k = p) (p := ⟨p, 7, none⟩) (v := .bool false) rfl)
     have H := JH.of (j' := { j with data := false }) (m' := m) C2.out R2.out S1.out K1.out fun W h => { h with }
     have H2 := Lib.hid H.1
     have K2 := Lib.hid H.2
     clear H
     go_wp2_with fail
     refine (jenter 9 H2.out).mono ?_
     rintro _ w3 ⟨rfl, h3, b3⟩
     have H3 := Lib.hid h3
     have B3 := Lib.hid (((Btw.of_below (I := I) B2.out).trans K2.out fun _ _ h => h).trans b3 fun _ _ h => h)
     clear h3 b3
     go_wp2
     go_ret
     rw [HE.out]
     exact ⟨rfl, H3.out, B3.out⟩
end
section
variable {I K : Nat → Prop} {w w' : World} {p : Nat} {g : Gm} {j : Jd} {m : Jm}
def Jd.endFetch (j : Jd) (b : Nat) : Bool × Jd := if b = 48 ∧ 4 ≤ j.listed.length then (true, ({ j with data := true } : Jd).start) else (false, j)
def Jd.endMove (j : Jd) (b : Nat) : Bool × Jd := if b = 224 ∧ 2 ≤ j.listed.length then (true, ({ j with col := j.addr2 0 } : Jd).enter 6) else (false, j)
set_option maxHeartbeats 1000000 in
theorem jendFetch (b : Nat) (hb : b < 256) (hl : j.listed.length ≤ 100) (h : JH I w p g j) : Calls Tryz.prog 103 #[.pointer (some ⟨p, 0, none⟩), .int .u8 (b : Int)] w (ActsJ I p g (.bool (j.endFetch b).1) (j.endFetch b).2 w) := by
 have HH := Lib.hid h
 obtain ⟨m, hc, hr⟩ := h
 have C0 := Lib.hid hc
 have R0 := Lib.hid hr
 obtain ⟨n, hn⟩ : ∃ n, n = j.listed.length := ⟨_, rfl⟩
 have x1 : w.cell? ⟨p, 1, none⟩ = some (.slice m.aL n m.cL) := by rw [hn]; exact hc.cell_at 1 _ rfl
 have HE0 : j.endFetch b = (if b = 48 ∧ 4 ≤ n then (true, ({ j with data := true } : Jd).start) else (false, j)) := by rw [hn]; rfl
 rw [← hn] at hl
 clear hc hr hn
 by_cases h1 : b = 48
 ·
  subst h1
  by_cases h2 : 4 ≤ n
  ·
   rw [if_pos ⟨rfl, h2⟩] at HE0
   have HE := Lib.hid HE0
   have d1 : decide ((n : Int) < 4) = false := decide_eq_false (by omega)
   have d2 : decide (n < 4) = false := decide_eq_false (by omega)
   have x7 := C0.out.cell_at 7 (.bool j.data) rfl
   have f7 := C0.out.frozen 7
   have S1 := Lib.hid (C0.out.setCell 7 (.bool true))
   have K1 := Lib.hid (((Btw.refl w)).setCell (I := fun k => k = p) (p := ⟨p, 7, none⟩) (v := .bool true) rfl)
   have H := JH.of (j' := { j with data := true }) (m' := m) C0.out R0.out S1.out K1.out fun W h => { h with }
   have H2 := Lib.hid H.1
   have K2 := Lib.hid H.2
   clear H HE0 h2
   go_enter Tryz.func103, Tryz.ntmps103
   go_wp2_with fail
   refine (jstart H2.out).mono ?_
   rintro _ w3 ⟨rfl, h3, b3⟩
   have H3 := Lib.hid h3
   have B3 := Lib.hid (K2.out.trans b3 fun _ _ h => h)
   clear h3 b3
   go_wp2
   go_ret
   rw [HE.out]
   exact ⟨rfl, H3.out, B3.out⟩
  ·
   rw [if_neg (fun h => h2 h.2)] at HE0
   have HE := Lib.hid HE0
   have d1 : decide ((n : Int) < 4) = true := decide_eq_true (by omega)
   have d2 : decide (n < 4) = true := decide_eq_true (by omega)
   clear HE0 h2
   go_enter Tryz.func103, Tryz.ntmps103
   go_wp2
   go_ret
   rw [HE.out]
   exact ⟨rfl, HH.out, Btw.refl w⟩
 ·
  rw [if_neg (fun h => h1 h.1)] at HE0
  have HE := Lib.hid HE0
  have b48 : ((b : Int) == 48) = false := by simp; omega
  have j48 : ((b : Int) = 48) = False := eq_false (by omega)
  have d48 : decide ((b : Int) = 48) = false := decide_eq_false (by omega)
  clear HE0 h1
  go_enter Tryz.func103, Tryz.ntmps103
  go_wp2
  go_ret
  rw [HE.out]
  exact ⟨rfl, HH.out, Btw.refl w⟩
set_option maxHeartbeats 1000000 in
theorem jendMove (b : Nat) (hb : b < 256) (hl : j.listed.length ≤ 100) (h : JH I w p g j) : Calls Tryz.prog 101 #[.pointer (some ⟨p, 0, none⟩), .int .u8 (b : Int)] w (ActsJ I p g (.bool (j.endMove b).1) (j.endMove b).2 w) := by
 have HH := Lib.hid h
 obtain ⟨m, hc, hr⟩ := h
 have C0 := Lib.hid hc
 have R0 := Lib.hid hr
 obtain ⟨n, hn⟩ : ∃ n, n = j.listed.length := ⟨_, rfl⟩
 have x1 : w.cell? ⟨p, 1, none⟩ = some (.slice m.aL n m.cL) := by rw [hn]; exact hc.cell_at 1 _ rfl
 have HE0 : j.endMove b = (if b = 224 ∧ 2 ≤ n then (true, ({ j with col := j.addr2 0 } : Jd).enter 6) else (false, j)) := by rw [hn]; rfl
 have HN := Lib.hid hn
 rw [← hn] at hl
 clear hc hr hn
 by_cases h1 : b = 224
 ·
  subst h1
  by_cases h2 : 2 ≤ n
  ·
   rw [if_pos ⟨rfl, h2⟩] at HE0
   have HE := Lib.hid HE0
   have d1 : decide ((n : Int) < 2) = false := decide_eq_false (by omega)
   have d2 : decide (n < 2) = false := decide_eq_false (by omega)
   have HLC := Lib.hid (jlistedColumn (by rw [← HN.out]; exact h2) HH.out)
   generalize j.addr2 0 = a at *
   clear HE0 h2
   go_enter Tryz.func101, Tryz.ntmps101
   go_wp2_with fail
   refine HLC.out.mono ?_
   rintro _ w1 ⟨rfl, h1⟩
   have B1 := Lib.hid h1
   have C1 := Lib.hid (C0.out.below h1)
   have R1 := Lib.hid (R0.out.below h1)
   clear h1 HLC
   have x8 := C1.out.cell_at 8 (.int .i64 (j.col : Int)) rfl
   have f8 := C1.out.frozen 8
   have S1 := Lib.hid (C1.out.setCell 8 (.int .i64 (a : Int)))
   have K1 := Lib.hid (((Btw.refl w1)).setCell (I := fun k => k = p) (p := ⟨p, 8, none⟩) (v := .int .i64 (a : Int)) rfl)
   have H := JH.of (j' := { j with col := a }) (m' := m) C1.out R1.out S1.out K1.out fun W h => { h with }
   have H2 := Lib.hid H.1
   have K2 := Lib.hid H.2
   clear H
   go_wp2_with fail
   refine (jenter 6 H2.out).mono ?_
   rintro _ w3 ⟨rfl, h3, b3⟩
   have H3 := Lib.hid h3
   have B3 := Lib.hid (((Btw.of_below (I := I) B1.out).trans K2.out fun _ _ h => h).trans b3 fun _ _ h => h)
   clear h3 b3
   go_wp2
   go_ret
   rw [HE.out]
   exact ⟨rfl, H3.out, B3.out⟩
  ·
   rw [if_neg (fun h => h2 h.2)] at HE0
   have HE := Lib.hid HE0
   have d1 : decide ((n : Int) < 2) = true := decide_eq_true (by omega)
   have d2 : decide (n < 2) = true := decide_eq_true (by omega)
   clear HE0 h2
   go_enter Tryz.func101, Tryz.ntmps101
   go_wp2
   go_ret
   rw [HE.out]
   exact ⟨rfl, HH.out, Btw.refl w⟩
 ·
  rw [if_neg (fun h => h1 h.1)] at HE0
  have HE := Lib.hid HE0
  have b224 : ((b : Int) == 224) = false := by simp; omega
  have j224 : ((b : Int) = 224) = False := eq_false (by omega)
  have d224 : decide ((b : Int) = 224) = false := decide_eq_false (by omega)
  clear HE0 h1
  go_enter Tryz.func101, Tryz.ntmps101
  go_wp2
  go_ret
  rw [HE.out]
  exact ⟨rfl, HH.out, Btw.refl w⟩
def Jd.write (g : Gm) (j : Jd) : Bool × Jd :=
 if j.op = 4 ∧ 0 < j.listed.length then (true, if j.count + 1 = 4 then ({ j with count := j.count + 1 } : Jd).start else { j with count := j.count + 1 })
 else if j.op = 8 ∧ j.listed.length = 4 then (decide (j.col + (j.count + 1) ≤ g.raw.toNat), { j with count := j.count + 1 })
 else (false, j)
set_option maxHeartbeats 1000000 in
theorem jwrite (hst : j.op ≤ 9) (hl : j.listed.length ≤ 100) (hct : j.count ≤ 1000000) (hcl : j.col ≤ 1000000) (h : JH I w p g j) : Calls Tryz.prog 88 #[.pointer (some ⟨p, 0, none⟩)] w (ActsJ I p g (.bool (j.write g).1) (j.write g).2 w) := by
 have HH := Lib.hid h
 have HRA := Lib.hid (fun W => Raw_is g (g.raw.toNat : Int) (Gm.raw_nat h.ok).1 W)
 simp only [Gm.val] at HRA
 obtain ⟨m, hc, hr⟩ := h
 have C0 := Lib.hid hc
 have R0 := Lib.hid hr
 obtain ⟨n, hn⟩ : ∃ n, n = j.listed.length := ⟨_, rfl⟩
 obtain ⟨t, ht⟩ : ∃ t, t = j.op := ⟨_, rfl⟩
 obtain ⟨ct, hc2⟩ : ∃ ct, ct = j.count := ⟨_, rfl⟩
 obtain ⟨cl, hc8⟩ : ∃ cl, cl = j.col := ⟨_, rfl⟩
 have x0 : w.cell? ⟨p, 0, none⟩ = some (.int .i64 (t : Int)) := by rw [ht]; exact hc.cell_at 0 _ rfl
 have x1 : w.cell? ⟨p, 1, none⟩ = some (.slice m.aL n m.cL) := by rw [hn]; exact hc.cell_at 1 _ rfl
 have x2 : w.cell? ⟨p, 2, none⟩ = some (.int .i64 (ct : Int)) := by rw [hc2]; exact hc.cell_at 2 _ rfl
 have f2 := hc.frozen 2
 have wz : IntKind.i64.wrap ((ct : Int) + 1) = (ct : Int) + 1 := IntWalk.i64_in _ (by omega)
 have HE0 : j.write g = (if t = 4 ∧ 0 < n then (true, if ct + 1 = 4 then ({ j with count := ct + 1 } : Jd).start else { j with count := ct + 1 }) else if t = 8 ∧ n = 4 then (decide (cl + (ct + 1) ≤ g.raw.toNat), { j with count := ct + 1 }) else (false, j)) := by rw [hn, ht, hc2, hc8]; rfl
 have S1 := Lib.hid (show CRow (w.setCell ⟨p, 2, none⟩ (.int .i64 ((ct : Int) + 1))) p 131 (jCells g { j with count := ct + 1 } m) from hc.setCell 2 (.int .i64 ((ct : Int) + 1)))
 have HJ := JH.of (j' := { j with count := ct + 1 }) (m' := m) C0.out R0.out S1.out (((Btw.refl w)).setCell (I := fun k => k = p) (p := ⟨p, 2, none⟩) (v := .int .i64 ((ct : Int) + 1)) rfl) fun W h => { h with }
 have H1 := Lib.hid HJ.1
 have K1 := Lib.hid HJ.2
 have X8 := Lib.hid (show (w.setCell ⟨p, 2, none⟩ (.int .i64 ((ct : Int) + 1))).cell? ⟨p, 8, none⟩ = some (.int .i64 (cl : Int)) by rw [hc8]; exact S1.out.cell_at 8 _ rfl)
 have X2 := Lib.hid (show (w.setCell ⟨p, 2, none⟩ (.int .i64 ((ct : Int) + 1))).cell? ⟨p, 2, none⟩ = some (.int .i64 ((ct : Int) + 1)) from S1.out.cell_at 2 _ rfl)
 rw [← hn] at hl
 rw [← ht] at hst
 rw [← hc2] at hct
 rw [← hc8] at hcl
 clear hc hr hn ht hc2 hc8 HJ
 have ht : t = 0 ∨ t = 1 ∨ t = 2 ∨ t = 3 ∨ t = 4 ∨ t = 5 ∨ t = 6 ∨ t = 7 ∨ t = 8 ∨ t = 9 := by omega
 by_cases h4 : t = 4 ∧ 0 < n
 ·
  rw [if_pos h4] at HE0
  obtain ⟨rfl, h0⟩ := h4
  have d1 : decide ((0 : Int) < (n : Int)) = true := decide_eq_true (by omega)
  have d2 : decide (0 < n) = true := decide_eq_true (by omega)
  clear ht hst h0
  by_cases h3 : ct = 3
  ·
   subst h3
   rw [if_pos rfl] at HE0
   have HE := Lib.hid HE0
   clear HE0
   go_enter Tryz.func88, Tryz.ntmps88
   go_wp2_with fail
   refine (jstart H1.out).mono ?_
   rintro _ w3 ⟨rfl, h3, b3⟩
   have H3 := Lib.hid h3
   have B3 := Lib.hid (K1.out.trans b3 fun _ _ h => h)
   clear h3 b3
   go_wp2
   go_ret
   rw [HE.out]
   exact ⟨rfl, H3.out, B3.out⟩
  ·
   rw [if_neg (by omega)] at HE0
   have HE := Lib.hid HE0
   have b4 : ((ct : Int) + 1 == 4) = false := by rw [beq_eq_false_iff_ne]; omega
   have j4 : ((ct : Int) + 1 = 4) = False := eq_false (by omega)
   have d4 : decide ((ct : Int) + 1 = 4) = false := decide_eq_false (by omega)
   clear HE0 h3
   go_enter Tryz.func88, Tryz.ntmps88
   go_wp2
   go_ret
   rw [HE.out]
   exact ⟨rfl, H1.out, K1.out⟩
 ·
  rw [if_neg h4] at HE0
  by_cases h8 : t = 8 ∧ n = 4
  ·
   rw [if_pos h8] at HE0
   obtain ⟨rfl, rfl⟩ := h8
   have HE := Lib.hid HE0
   have wy : IntKind.i64.wrap ((cl : Int) + ((ct : Int) + 1)) = (cl : Int) + ((ct : Int) + 1) := IntWalk.i64_in _ (by omega)
   have hdec : decide ((cl : Int) + ((ct : Int) + 1) ≤ (g.raw.toNat : Int)) = decide (cl + (ct + 1) ≤ g.raw.toNat) := decide_eq_decide.2 (by omega)
   have HD := Lib.hid hdec
   generalize g.raw.toNat = N at *
   clear HE0 ht hst h4 hdec
   go_enter Tryz.func88, Tryz.ntmps88
   go_wp2
   obtain ⟨w2, hw2⟩ : ∃ w2, w2 = w.setCell ⟨p, 2, none⟩ (.int .i64 ((ct : Int) + 1)) := ⟨_, rfl⟩
   rw [← hw2] at S1 H1 K1 X8 X2 ⊢
   have C2 := S1
   clear hw2 x0 x1 x2 f2
   refine wp_region_noPanic ?_
   refine wp_region_held_drew (S := fun w' => Below w2.heap.size w2 w') (by kernel_rfl) ((Below.refl _ _).drew) (fun C9 => ?_)
   refine tkH4 0 C9 ?_
   refine tkH4 1 C9 ?_
   refine tkH4 2 C9 ?_
   refine tkH4 3 C9 ?_
   refine tkH4 4 C9 ?_ (hy := fun W' hSw => by have x8 : W'.cell? ⟨p, 8, none⟩ = some (.int .i64 (cl : Int)) := (hSw.cell (show (⟨p, 8, none⟩ : Addr).block < w2.heap.size from C2.out.lt)).trans X8.out; clear hSw; go_simp <;> with_reducible rfl)
   refine tkH4 5 C9 ?_
   refine tkH4 6 C9 ?_
   refine tkH4 7 C9 ?_
   refine tkH4 8 C9 ?_
   refine tkH4 9 C9 ?_ (hy := fun W' hSw => by have x2 : W'.cell? ⟨p, 2, none⟩ = some (.int .i64 ((ct : Int) + 1)) := (hSw.cell (show (⟨p, 2, none⟩ : Addr).block < w2.heap.size from C2.out.lt)).trans X2.out; clear hSw; go_simp <;> with_reducible rfl)
   refine tkH4 10 C9 ?_
   refine tkH4 11 C9 ?_
   refine tkH4 12 C9 ?_
   refine tkH4 13 C9 ?_
   refine tkH4 14 C9 ?_ (hy := fun W' hSw => by have g12 : W'.cell? ⟨p, 12, none⟩ = some (.int .i64 g.p) := (hSw.cell (show (⟨p, 12, none⟩ : Addr).block < w2.heap.size from C2.out.lt)).trans (C2.out.cell_at 12 _ rfl); have g13 : W'.cell? ⟨p, 13, none⟩ = some (.int .i64 g.b) := (hSw.cell (show (⟨p, 13, none⟩ : Addr).block < w2.heap.size from C2.out.lt)).trans (C2.out.cell_at 13 _ rfl); have g14 : W'.cell? ⟨p, 14, none⟩ = some (.int .i64 g.s) := (hSw.cell (show (⟨p, 14, none⟩ : Addr).block < w2.heap.size from C2.out.lt)).trans (C2.out.cell_at 14 _ rfl); have g15 : W'.cell? ⟨p, 15, none⟩ = some (.int .i64 g.c) := (hSw.cell (show (⟨p, 15, none⟩ : Addr).block < w2.heap.size from C2.out.lt)).trans (C2.out.cell_at 15 _ rfl); have g16 : W'.cell? ⟨p, 16, none⟩ = some (.int .i64 g.k) := (hSw.cell (show (⟨p, 16, none⟩ : Addr).block < w2.heap.size from C2.out.lt)).trans (C2.out.cell_at 16 _ rfl); have g17 : W'.cell? ⟨p, 17, none⟩ = some (.int .i64 g.r) := (hSw.cell (show (⟨p, 17, none⟩ : Addr).block < w2.heap.size from C2.out.lt)).trans (C2.out.cell_at 17 _ rfl); have g18 : W'.cell? ⟨p, 18, none⟩ = some (.int .i64 g.q) := (hSw.cell (show (⟨p, 18, none⟩ : Addr).block < w2.heap.size from C2.out.lt)).trans (C2.out.cell_at 18 _ rfl); clear hSw; go_simp <;> with_reducible rfl)
   refine wpAnyH_ready (rs := [15]) (by kernel_rfl) (by simp) ?_
   refine AllReadyH.cons (o := { dst := some 76, op := Op.call { callee := Callee.value (Operand.func 68), args := #[Operand.tmp 75], argTypes := #[23] }, type := 3, pos := "rules.go:221", after := #[{ on := 14, ground := Ground.data }], guard := none }) rfl (fun K hK => ?_) AllReadyH.nil
   go_simp
   refine (HRA.out _).mono ?_
   rintro _ w3 ⟨rfl, hb⟩
   have B3 := Lib.hid (show Below w2.heap.size w2 w3 from C9.trans (hb.mono C9.size))
   clear hb
   go_wp2_with fail
   refine hK.out _ _ B3.out (fun C10 => ?_)
   clear hK K
   try simp only [Act.put, zzI, zzO, zzS]
   refine tkH4 16 C10 ?_
   refine tkH4 17 C10 ?_
   refine wpAnyH_done (by kernel_rfl) ?_ _
   refine NoPanic.normal ?_
   go_wp2
   go_ret
   rw [HE.out]
   exact ⟨by simp only [HD.out]; rfl, H1.out.below B3.out, K1.out.trans (Btw.of_below B3.out) fun _ _ h => h⟩
  ·
   rw [if_neg h8] at HE0
   have HE := Lib.hid HE0
   clear HE0
   by_cases e4 : t = 4
   ·
    subst e4
    have d1 : decide ((0 : Int) < (n : Int)) = false := decide_eq_false (by omega)
    have d2 : decide (0 < n) = false := decide_eq_false (by omega)
    clear ht hst h4 h8
    go_enter Tryz.func88, Tryz.ntmps88
    go_wp2
    go_ret
    rw [HE.out]
    exact ⟨rfl, HH.out, Btw.refl w⟩
   ·
    by_cases e8 : t = 8
    ·
     subst e8
     have b4 : ((n : Int) == 4) = false := by simp; omega
     have j4 : ((n : Int) = 4) = False := eq_false (by omega)
     have d4 : decide ((n : Int) = 4) = false := decide_eq_false (by omega)
     clear ht hst h4 h8 e4
     go_enter Tryz.func88, Tryz.ntmps88
     go_wp2
     go_ret
     rw [HE.out]
     exact ⟨rfl, HH.out, Btw.refl w⟩
    ·
     clear h4 h8 hst
     rcases ht with rfl | rfl | rfl | rfl | rfl | rfl | rfl | rfl | rfl | rfl
     all_goals first | (exact absurd rfl e4) | (exact absurd rfl e8) | (clear e4 e8; go_enter Tryz.func88, Tryz.ntmps88; go_wp2; go_ret; rw [HE.out]; exact ⟨rfl, HH.out, Btw.refl w⟩)
end
end Go.Proofs.YtmbgoopkpfhamaaGreat
