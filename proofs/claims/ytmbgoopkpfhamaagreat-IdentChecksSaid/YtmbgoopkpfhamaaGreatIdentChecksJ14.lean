/-
  The judge's read.
-/
import Derived.Test.YtmbgoopkpfhamaaGreatTk
import Derived.Test.YtmbgoopkpfhamaaGreatTkB
import Derived.Maps.AppendAt
import Derived.Test.YtmbgoopkpfhamaaGreatIdentChecksJ13
import Derived.Test.YtmbgoopkpfhamaaGreatIdentChecksJ3
namespace Go.Proofs.YtmbgoopkpfhamaaGreat
open Go.RowKit
set_option maxRecDepth 100000
def zFc0 : Oper := { dst := some 75, op := Op.call { callee := Callee.value (Operand.func 68), args := #[Operand.tmp 74], argTypes := #[23] }, type := 3, pos := "rules.go:240", after := #[{ on := 8, ground := Ground.data }], guard := none }
def zFc1 : Oper := { dst := some 31, op := Op.call { callee := Callee.value (Operand.func 121), args := #[Operand.tmp 30], argTypes := #[89] }, type := 3, pos := "rules.go:361", after := #[{ on := 4, ground := Ground.data }], guard := none }
def zFc2 : Oper := { dst := some 32, op := Op.call { callee := Callee.value (Operand.func 78), args := #[Operand.tmp 29, Operand.tmp 31], argTypes := #[23, 3] }, type := 153, pos := "rules.go:361", after := #[{ on := 3, ground := Ground.data }, { on := 5, ground := Ground.data }, { on := 5, ground := Ground.chain }], guard := none }
section
variable {I K : Nat → Prop} {w w' : World} {p : Nat} {g : Gm} {j : Jd} {m : Jm}
def Jd.readOut (g : Gm) (j : Jd) : Bool × Jd := (decide (j.col + 1 ≤ g.raw.toNat), { j with col := j.col + 1 })
def Jd.read (g : Gm) (j : Jd) : Bool × Jd :=
 if j.op = 2 then (decide (0 < j.listed.length) && decide (j.count + 1 ≤ 5), { j with count := j.count + 1 })
 else if j.op = 5 then (if 0 < j.listed.length ∨ j.data = false then (false, j) else ({ j with op := 6 } : Jd).readOut g)
 else if j.op = 6 then j.readOut g
 else (false, j)
set_option maxHeartbeats 1000000 in
theorem jread (hst : j.op ≤ 9) (hl : j.listed.length ≤ 100) (hct : j.count ≤ 1000000) (hcl : j.col ≤ 1000000) (h : JH I w p g j) : Calls Tryz.prog 89 #[.pointer (some ⟨p, 0, none⟩)] w (ActsJ I p g (.bool (j.read g).1) (j.read g).2 w) := by
 have HH := Lib.hid h
 have HRA := Lib.hid (fun W => Raw_is g (g.raw.toNat : Int) (Gm.raw_nat h.ok).1 W)
 simp only [Gm.val] at HRA
 obtain ⟨m, hc, hr⟩ := h
 have C0 := Lib.hid hc
 have R0 := Lib.hid hr
 obtain ⟨n, hn⟩ : ∃ n, n = j.listed.length := ⟨_, rfl⟩
 obtain ⟨t, ht⟩ : ∃ t, t = j.op := ⟨_, rfl⟩
 obtain ⟨ct, hc2⟩ : ∃ ct, ct = j.count := ⟨_, rfl⟩
 obtain ⟨cl, hc8⟩ : ∃ cl, cl = j.col := ⟨_, rfl⟩
 obtain ⟨dt, hc7⟩ : ∃ dt, dt = j.data := ⟨_, rfl⟩
 have x0 : w.cell? ⟨p, 0, none⟩ = some (.int .i64 (t : Int)) := by rw [ht]; exact hc.cell_at 0 _ rfl
 have f0 := hc.frozen 0
 have x1 : w.cell? ⟨p, 1, none⟩ = some (.slice m.aL n m.cL) := by rw [hn]; exact hc.cell_at 1 _ rfl
 have x2 : w.cell? ⟨p, 2, none⟩ = some (.int .i64 (ct : Int)) := by rw [hc2]; exact hc.cell_at 2 _ rfl
 have f2 := hc.frozen 2
 have x7 : w.cell? ⟨p, 7, none⟩ = some (.bool dt) := by rw [hc7]; exact hc.cell_at 7 _ rfl
 have x8 : w.cell? ⟨p, 8, none⟩ = some (.int .i64 (cl : Int)) := by rw [hc8]; exact hc.cell_at 8 _ rfl
 have f8 := hc.frozen 8
 have wz : IntKind.i64.wrap ((ct : Int) + 1) = (ct : Int) + 1 := IntWalk.i64_in _ (by omega)
 have wy : IntKind.i64.wrap ((cl : Int) + 1) = (cl : Int) + 1 := IntWalk.i64_in _ (by omega)
 have HE0 : j.read g = (if t = 2 then (decide (0 < n) && decide (ct + 1 ≤ 5), { j with count := ct + 1 }) else if t = 5 then (if 0 < n ∨ dt = false then (false, j) else (decide (cl + 1 ≤ g.raw.toNat), { j with op := 6, col := cl + 1 })) else if t = 6 then (decide (cl + 1 ≤ g.raw.toNat), { j with col := cl + 1 }) else (false, j)) := by rw [hn, ht, hc2, hc8, hc7]; rfl
 have HCL := Lib.hid hc8
 have HT := Lib.hid ht
 rw [← hn] at hl
 rw [← ht] at hst
 rw [← hc2] at hct
 rw [← hc8] at hcl
 clear hc hr hn ht hc2 hc8 hc7
 have ht : t = 0 ∨ t = 1 ∨ t = 2 ∨ t = 3 ∨ t = 4 ∨ t = 5 ∨ t = 6 ∨ t = 7 ∨ t = 8 ∨ t = 9 := by omega
 clear hst
 by_cases h2 : t = 2
 ·
  subst h2
  rw [if_pos rfl] at HE0
  have HE := Lib.hid HE0
  have S1 := Lib.hid (show CRow (w.setCell ⟨p, 2, none⟩ (.int .i64 ((ct : Int) + 1))) p 131 (jCells g { j with count := ct + 1 } m) from C0.out.setCell 2 (.int .i64 ((ct : Int) + 1)))
  have HJ := JH.of (j' := { j with count := ct + 1 }) (m' := m) C0.out R0.out S1.out (((Btw.refl w)).setCell (I := fun k => k = p) (p := ⟨p, 2, none⟩) (v := .int .i64 ((ct : Int) + 1)) rfl) fun W h => { h with }
  have H1 := Lib.hid HJ.1
  have K1 := Lib.hid HJ.2
  have q1 : decide ((0 : Int) < (n : Int)) = decide (0 < n) := decide_eq_decide.2 (by omega)
  have q2 : decide ((ct : Int) + 1 ≤ 5) = decide (ct + 1 ≤ 5) := decide_eq_decide.2 (by omega)
  have Q1 := Lib.hid q1
  have Q2 := Lib.hid q2
  clear HE0 ht HJ
  cases hq : decide (0 < n) with
  | false =>
   rw [hq] at q1
   have d2 : decide (0 < n) = false := hq
   have HQ := Lib.hid hq
   clear hq q2
   go_enter Tryz.func89, Tryz.ntmps89
   go_wp2
   go_ret
   rw [HE.out]
   exact ⟨by rw [HQ.out]; simp, H1.out, K1.out⟩
  | true =>
   rw [hq] at q1
   have d2 : decide (0 < n) = true := hq
   have HQ := Lib.hid hq
   clear hq q2
   go_enter Tryz.func89, Tryz.ntmps89
   go_wp2
   go_ret
   rw [HE.out]
   exact ⟨by rw [HQ.out, ← Q2.out]; simp, H1.out, K1.out⟩
 ·
  rw [if_neg h2] at HE0
  have hdec : decide ((cl : Int) + 1 ≤ (g.raw.toNat : Int)) = decide (cl + 1 ≤ g.raw.toNat) := decide_eq_decide.2 (by omega)
  have HD := Lib.hid hdec
  generalize g.raw.toNat = N at *
  clear hdec
  by_cases h5 : t = 5
  ·
   subst h5
   rw [if_pos rfl] at HE0
   clear ht h2
   by_cases h0 : 0 < n
   ·
    rw [if_pos (.inl h0)] at HE0
    have HE := Lib.hid HE0
    have d1 : decide ((0 : Int) < (n : Int)) = true := decide_eq_true (by omega)
    have d2 : decide (0 < n) = true := decide_eq_true (by omega)
    clear HE0 h0
    go_enter Tryz.func89, Tryz.ntmps89
    go_wp2
    go_ret
    rw [HE.out]
    exact ⟨rfl, HH.out, Btw.refl w⟩
   ·
    have d1 : decide ((0 : Int) < (n : Int)) = false := decide_eq_false (by omega)
    have d2 : decide (0 < n) = false := decide_eq_false (by omega)
    cases dt
    ·
     rw [if_pos (.inr rfl)] at HE0
     have HE := Lib.hid HE0
     clear HE0 h0
     go_enter Tryz.func89, Tryz.ntmps89
     go_wp2
     go_ret
     rw [HE.out]
     exact ⟨rfl, HH.out, Btw.refl w⟩
    ·
     rw [if_neg (by simp; omega)] at HE0
     have HE := Lib.hid HE0
     have S1 := Lib.hid (show CRow ((w.setCell ⟨p, 0, none⟩ (.int .i64 6)).setCell ⟨p, 8, none⟩ (.int .i64 ((cl : Int) + 1))) p 131 (jCells g { j with op := 6, col := cl + 1 } m) from (C0.out.setCell 0 (.int .i64 6)).setCell 8 (.int .i64 ((cl : Int) + 1)))
     have HJ := JH.of (j' := { j with op := 6, col := cl + 1 }) (m' := m) C0.out R0.out S1.out ((((Btw.refl w)).setCell (I := fun k => k = p) (p := ⟨p, 0, none⟩) (v := .int .i64 6) rfl).setCell (p := ⟨p, 8, none⟩) (v := .int .i64 ((cl : Int) + 1)) rfl) fun W h => { h with }
     have H1 := Lib.hid HJ.1
     have K1 := Lib.hid HJ.2
     have X8 := Lib.hid (show ((w.setCell ⟨p, 0, none⟩ (.int .i64 6)).setCell ⟨p, 8, none⟩ (.int .i64 ((cl : Int) + 1))).cell? ⟨p, 8, none⟩ = some (.int .i64 ((cl : Int) + 1)) from S1.out.cell_at 8 _ rfl)
     clear HE0 h0 HJ
     go_enter Tryz.func89, Tryz.ntmps89
     go_wp2
     obtain ⟨w2, hw2⟩ : ∃ w2, w2 = (w.setCell ⟨p, 0, none⟩ (.int .i64 6)).setCell ⟨p, 8, none⟩ (.int .i64 ((cl : Int) + 1)) := ⟨_, rfl⟩
     rw [← hw2] at S1 H1 K1 X8 ⊢
     have C2 := S1
     clear hw2 x0 x1 x2 f2 x7 x8 f0 f8
     refine wp_region_noPanic ?_
     refine wp_region_held_drew (S := fun w' => Below w2.heap.size w2 w') (by kernel_rfl) ((Below.refl _ _).drew) (fun C9 => ?_)
     refine tkH4 0 C9 ?_
     refine tkH4 1 C9 ?_
     refine tkH4 2 C9 ?_
     refine tkH4 3 C9 ?_
     refine tkH4 4 C9 ?_ (hy := fun W' hSw => by have x8 : W'.cell? ⟨p, 8, none⟩ = some (.int .i64 ((cl : Int) + 1)) := (hSw.cell (show (⟨p, 8, none⟩ : Addr).block < w2.heap.size from C2.out.lt)).trans X8.out; clear hSw; go_simp <;> with_reducible rfl)
     refine tkH4 5 C9 ?_
     refine tkH4 6 C9 ?_
     refine tkH4 7 C9 ?_
     refine tkH4 8 C9 ?_ (hy := fun W' hSw => by have g12 : W'.cell? ⟨p, 12, none⟩ = some (.int .i64 g.p) := (hSw.cell (show (⟨p, 12, none⟩ : Addr).block < w2.heap.size from C2.out.lt)).trans (C2.out.cell_at 12 _ rfl); have g13 : W'.cell? ⟨p, 13, none⟩ = some (.int .i64 g.b) := (hSw.cell (show (⟨p, 13, none⟩ : Addr).block < w2.heap.size from C2.out.lt)).trans (C2.out.cell_at 13 _ rfl); have g14 : W'.cell? ⟨p, 14, none⟩ = some (.int .i64 g.s) := (hSw.cell (show (⟨p, 14, none⟩ : Addr).block < w2.heap.size from C2.out.lt)).trans (C2.out.cell_at 14 _ rfl); have g15 : W'.cell? ⟨p, 15, none⟩ = some (.int .i64 g.c) := (hSw.cell (show (⟨p, 15, none⟩ : Addr).block < w2.heap.size from C2.out.lt)).trans (C2.out.cell_at 15 _ rfl); have g16 : W'.cell? ⟨p, 16, none⟩ = some (.int .i64 g.k) := (hSw.cell (show (⟨p, 16, none⟩ : Addr).block < w2.heap.size from C2.out.lt)).trans (C2.out.cell_at 16 _ rfl); have g17 : W'.cell? ⟨p, 17, none⟩ = some (.int .i64 g.r) := (hSw.cell (show (⟨p, 17, none⟩ : Addr).block < w2.heap.size from C2.out.lt)).trans (C2.out.cell_at 17 _ rfl); have g18 : W'.cell? ⟨p, 18, none⟩ = some (.int .i64 g.q) := (hSw.cell (show (⟨p, 18, none⟩ : Addr).block < w2.heap.size from C2.out.lt)).trans (C2.out.cell_at 18 _ rfl); clear hSw; go_simp <;> with_reducible rfl)
     refine wpAnyH_ready (rs := [9]) (by kernel_rfl) (by simp) ?_
     refine AllReadyH.cons (o := zFc0) rfl (fun K hK => ?_) AllReadyH.nil
     dsimp only [zFc0]
     go_simp
     refine (HRA.out _).mono ?_
     rintro _ w3 ⟨rfl, hb⟩
     have B3 := Lib.hid (show Below w2.heap.size w2 w3 from C9.trans (hb.mono C9.size))
     clear hb
     go_wp2_with fail
     refine hK.out _ _ B3.out (fun C10 => ?_)
     clear hK K
     try simp only [Act.put, zzI, zzO, zzS]
     refine tkH4 10 C10 ?_
     refine tkH4 11 C10 ?_
     refine wpAnyH_done (by kernel_rfl) ?_ _
     refine NoPanic.normal ?_
     go_wp2
     go_ret
     rw [HE.out]
     exact ⟨by simp only [HD.out]; rfl, H1.out.below B3.out, K1.out.trans (Btw.of_below B3.out) fun _ _ h => h⟩
  ·
   rw [if_neg h5] at HE0
   by_cases h6 : t = 6
   ·
    subst h6
    rw [if_pos rfl] at HE0
    have HE := Lib.hid HE0
    have S1 := Lib.hid (show CRow (w.setCell ⟨p, 8, none⟩ (.int .i64 ((cl : Int) + 1))) p 131 (jCells g { j with col := cl + 1 } m) from C0.out.setCell 8 (.int .i64 ((cl : Int) + 1)))
    have HJ := JH.of (j' := { j with col := cl + 1 }) (m' := m) C0.out R0.out S1.out (((Btw.refl w)).setCell (I := fun k => k = p) (p := ⟨p, 8, none⟩) (v := .int .i64 ((cl : Int) + 1)) rfl) fun W h => { h with }
    have H1 := Lib.hid HJ.1
    have K1 := Lib.hid HJ.2
    have X8 := Lib.hid (show (w.setCell ⟨p, 8, none⟩ (.int .i64 ((cl : Int) + 1))).cell? ⟨p, 8, none⟩ = some (.int .i64 ((cl : Int) + 1)) from S1.out.cell_at 8 _ rfl)
    clear HE0 ht h2 h5 HJ
    go_enter Tryz.func89, Tryz.ntmps89
    go_wp2
    obtain ⟨w2, hw2⟩ : ∃ w2, w2 = w.setCell ⟨p, 8, none⟩ (.int .i64 ((cl : Int) + 1)) := ⟨_, rfl⟩
    rw [← hw2] at S1 H1 K1 X8 ⊢
    have C2 := S1
    clear hw2 x0 x1 x2 f2 x7 x8 f0 f8
    refine wp_region_noPanic ?_
    refine wp_region_held_drew (S := fun w' => Below w2.heap.size w2 w') (by kernel_rfl) ((Below.refl _ _).drew) (fun C9 => ?_)
    refine tkH4 0 C9 ?_
    refine tkH4 1 C9 ?_
    refine tkH4 2 C9 ?_
    refine tkH4 3 C9 ?_
    refine tkH4 4 C9 ?_ (hy := fun W' hSw => by have x8 : W'.cell? ⟨p, 8, none⟩ = some (.int .i64 ((cl : Int) + 1)) := (hSw.cell (show (⟨p, 8, none⟩ : Addr).block < w2.heap.size from C2.out.lt)).trans X8.out; clear hSw; go_simp <;> with_reducible rfl)
    refine tkH4 5 C9 ?_
    refine tkH4 6 C9 ?_
    refine tkH4 7 C9 ?_
    refine tkH4 8 C9 ?_ (hy := fun W' hSw => by have g12 : W'.cell? ⟨p, 12, none⟩ = some (.int .i64 g.p) := (hSw.cell (show (⟨p, 12, none⟩ : Addr).block < w2.heap.size from C2.out.lt)).trans (C2.out.cell_at 12 _ rfl); have g13 : W'.cell? ⟨p, 13, none⟩ = some (.int .i64 g.b) := (hSw.cell (show (⟨p, 13, none⟩ : Addr).block < w2.heap.size from C2.out.lt)).trans (C2.out.cell_at 13 _ rfl); have g14 : W'.cell? ⟨p, 14, none⟩ = some (.int .i64 g.s) := (hSw.cell (show (⟨p, 14, none⟩ : Addr).block < w2.heap.size from C2.out.lt)).trans (C2.out.cell_at 14 _ rfl); have g15 : W'.cell? ⟨p, 15, none⟩ = some (.int .i64 g.c) := (hSw.cell (show (⟨p, 15, none⟩ : Addr).block < w2.heap.size from C2.out.lt)).trans (C2.out.cell_at 15 _ rfl); have g16 : W'.cell? ⟨p, 16, none⟩ = some (.int .i64 g.k) := (hSw.cell (show (⟨p, 16, none⟩ : Addr).block < w2.heap.size from C2.out.lt)).trans (C2.out.cell_at 16 _ rfl); have g17 : W'.cell? ⟨p, 17, none⟩ = some (.int .i64 g.r) := (hSw.cell (show (⟨p, 17, none⟩ : Addr).block < w2.heap.size from C2.out.lt)).trans (C2.out.cell_at 17 _ rfl); have g18 : W'.cell? ⟨p, 18, none⟩ = some (.int .i64 g.q) := (hSw.cell (show (⟨p, 18, none⟩ : Addr).block < w2.heap.size from C2.out.lt)).trans (C2.out.cell_at 18 _ rfl); clear hSw; go_simp <;> with_reducible rfl)
    refine wpAnyH_ready (rs := [9]) (by kernel_rfl) (by simp) ?_
    refine AllReadyH.cons (o := zFc0) rfl (fun K hK => ?_) AllReadyH.nil
    dsimp only [zFc0]
    go_simp
    refine (HRA.out _).mono ?_
    rintro _ w3 ⟨rfl, hb⟩
    have B3 := Lib.hid (show Below w2.heap.size w2 w3 from C9.trans (hb.mono C9.size))
    clear hb
    go_wp2_with fail
    refine hK.out _ _ B3.out (fun C10 => ?_)
    clear hK K
    try simp only [Act.put, zzI, zzO, zzS]
    refine tkH4 10 C10 ?_
    refine tkH4 11 C10 ?_
    refine wpAnyH_done (by kernel_rfl) ?_ _
    refine NoPanic.normal ?_
    go_wp2
    go_ret
    rw [HE.out]
    exact ⟨by simp only [HD.out]; rfl, H1.out.below B3.out, K1.out.trans (Btw.of_below B3.out) fun _ _ h => h⟩
   ·
    rw [if_neg h6] at HE0
    have HE := Lib.hid HE0
    clear HE0 HT
    rcases ht with rfl | rfl | rfl | rfl | rfl | rfl | rfl | rfl | rfl | rfl
    all_goals first | (exact absurd rfl h2) | (exact absurd rfl h5) | (exact absurd rfl h6) | (clear h2 h5 h6; go_enter Tryz.func89, Tryz.ntmps89; go_wp2; go_ret; rw [HE.out]; exact ⟨rfl, HH.out, Btw.refl w⟩)
end
theorem japp_at1 (w : World) {ops : Array Oper} {rest : List Oper} {o : Oper} {a : Act} {Q : Exit → Act → World → Prop} (hgd : o.guard = none) (s x : Operand) (t : TypeId)
  (ho : o.op = .call { callee := .builtin .append, args := #[s, x], argTypes := #[t, t] })
  (base : Nat) (e : TypeId) (i : TypeInfo) (z : Value) (bytes : Nat) (ht : Tryz.prog.underlying t = some (.slice e)) (hi : Tryz.prog.info? e = some i) (hz : i.zero = some z) (hsize : i.size = 1) (hby : i.bytes = bytes) (hzs : z.cells.size = 1)
  (v : Value) (n : Nat) (xs : List Value) (hs : a.eval s = v) (hown : w.ownsRow base e 1 v n xs)
  (ad : Addr) (m c : Nat) (news : List Value) (hx : a.eval x = .slice (some ad) m c) (hl : news.length = m) (hnews : ∀ j u, news[j]? = some u → w.cell? (ad.add j) = some u) (h1 : ∀ u ∈ news, u.oneCell' = true)
  (h63 : n + m ≤ maxLen) (hbytes : (n + m) * bytes ≤ 140737488355328) (hbase : base ≤ w.heap.size)
  (h : ∀ v' w', w'.ownsRow base e 1 v' (n + m) (xs ++ news) → w.grownBy w' v.ownBlock → (v'.ownBlock = v.ownBlock ∨ v'.ownBlock = some w.heap.size) → wpList Tryz.prog ops Q rest (a.put o.dst v') w') : wpList Tryz.prog ops Q (o :: rest) a w := by
 refine wpList_plain hgd fun K hK => ?_
 obtain ⟨v', w', hrun, h2, h3, _, h4⟩ := run_append_own_at (P := Tryz.prog) (w := w) base t o.type e i z 1 bytes ht hi hz hsize hby hzs (by decide) v n xs hown ad m c news (by omega) hnews h1 h63 hbytes hbase
 unfold Oper.wp execOp
 simp only [ho, resolve, invoke, builtin, Sem.run_bind, Sem.run_pure, Result.andThen_ok, List.map_toArray, List.map_cons, List.map_nil, hs, hx, hrun]
 exact hK _ _ (h v' w' h2 h3 h4)
theorem jown_form {w : World} {base : Nat} {e : TypeId} {v : Value} {n : Nat} {xs : List Value} (h : w.ownsRow base e 1 v n xs) : ∃ A c, v = .slice A n c := own_form h
theorem jwp_app8 (w : World) {o : Oper} {a : Act} {K : Act → World → Prop} {Q : Exit → Act → World → Prop} (s x : Operand)
  (ho : o.op = .call { callee := .builtin .append, args := #[s, x], argTypes := #[26, 26] }) (base : Nat) (v : Value) (l : List Nat) (hs : a.eval s = v) (hown : w.ownsRow base 5 1 v l.length (U8 l))
  (ad : Addr) (m c : Nat) (k : List Nat) (hx : a.eval x = .slice (some ad) m c) (hr : R8 w (some ad) m k) (h63 : l.length + m ≤ 1099511627776) (hbase : base ≤ w.heap.size)
  (h : ∀ v' w', w'.ownsRow base 5 1 v' (l.length + m) (U8 (l ++ k)) → w.grownBy w' v.ownBlock → (v'.ownBlock = v.ownBlock ∨ v'.ownBlock = some w.heap.size) → K (a.put o.dst v') w') : o.wp Tryz.prog a w K Q := by
 obtain ⟨i0, hi, hz0, hz1, hz2⟩ := info_parts info_u8
 obtain ⟨v', w', hrun, h2, h3, _, h4⟩ := run_append_own_at (P := Tryz.prog) (w := w) base 26 o.type 5 i0 _ 1 1 Tryz.underlying26 hi hz0 hz1 hz2 rfl (by decide) v l.length (U8 l) hown ad m c (U8 k) (by rw [U8_length, hr.len]; omega) (by
   intro j u hu
   have hj : j < m := by
    have := (List.getElem?_eq_some_iff.1 hu).1
    rw [U8_length, hr.len] at this
    exact this
   obtain ⟨b, off, e, hb, hc⟩ := hr.1.2 (by omega)
   injection e with e
   subst e
   exact Rd.news hc hr.1.1 j u hu) (U8_one k) (by unfold maxLen; omega) (by omega) hbase
 unfold Oper.wp execOp
 simp only [ho, resolve, invoke, builtin, Sem.run_bind, Sem.run_pure, Result.andThen_ok, List.map_toArray, List.map_cons, List.map_nil, hs, hx, hrun]
 exact h v' w' (by rw [U8_append]; exact h2) h3 h4
theorem japp8 (w : World) {ops : Array Oper} {rest : List Oper} {o : Oper} {a : Act} {Q : Exit → Act → World → Prop} (hgd : o.guard = none) (s x : Operand)
  (ho : o.op = .call { callee := .builtin .append, args := #[s, x], argTypes := #[26, 26] }) (base : Nat) (v : Value) (l : List Nat) (hs : a.eval s = v) (hown : w.ownsRow base 5 1 v l.length (U8 l))
  (ad : Addr) (m c : Nat) (k : List Nat) (hx : a.eval x = .slice (some ad) m c) (hr : R8 w (some ad) m k) (h63 : l.length + m ≤ 1099511627776) (hbase : base ≤ w.heap.size)
  (h : ∀ v' w', w'.ownsRow base 5 1 v' (l.length + m) (U8 (l ++ k)) → w.grownBy w' v.ownBlock → (v'.ownBlock = v.ownBlock ∨ v'.ownBlock = some w.heap.size) → wpList Tryz.prog ops Q rest (a.put o.dst v') w') : wpList Tryz.prog ops Q (o :: rest) a w :=
 wpList_plain hgd fun _ hK => jwp_app8 w s x ho base v l hs hown ad m c k hx hr h63 hbase fun v' w' h1 h2 h3 => hK _ _ (h v' w' h1 h2 h3)
theorem jr8_one (w : World) (b : Nat) (h : b < 256) (t : TypeId) : R8 (w.alloc (.cells #[.int .u8 (b : Int)] t)) (some ⟨w.heap.size, 0, none⟩) 1 [b] := by
 refine ⟨⟨rfl, fun _ => ⟨w.heap.size, 0, rfl, by simp, fun j hj => ?_⟩⟩, by simpa using h⟩
 match j, hj with
 | 0, _ => exact (CRow.new w #[.int .u8 (b : Int)] t).cell 0
theorem jone64 (w : World) (x : Int) (t : TypeId) : (w.alloc (.cells #[.int .i64 x] t)).cell? ((⟨w.heap.size, 0, none⟩ : Addr).add 0) = some (.int .i64 x) := (CRow.new w #[.int .i64 x] t).cell 0
theorem japp64 (w : World) {ops : Array Oper} {rest : List Oper} {o : Oper} {a : Act} {Q : Exit → Act → World → Prop} (hgd : o.guard = none) (s x : Operand)
  (ho : o.op = .call { callee := .builtin .append, args := #[s, x], argTypes := #[24, 24] }) (base : Nat) (v : Value) (l : List Int) (n : Nat) (hn : l.length = n) (hs : a.eval s = v) (hown : w.ownsRow base 3 1 v n (I64 l))
  (ad : Addr) (c : Nat) (y : Int) (hx : a.eval x = .slice (some ad) 1 c) (hr : w.cell? (ad.add 0) = some (.int .i64 y)) (h63 : n + 1 ≤ 1099511627776) (hbase : base ≤ w.heap.size)
  (h : ∀ v' w', w'.ownsRow base 3 1 v' (n + 1) (I64 (l ++ [y])) → w.grownBy w' v.ownBlock → (v'.ownBlock = v.ownBlock ∨ v'.ownBlock = some w.heap.size) → wpList Tryz.prog ops Q rest (a.put o.dst v') w') : wpList Tryz.prog ops Q (o :: rest) a w := by
 obtain ⟨i0, hi, hz0, hz1, hz2⟩ := info_parts info_int
 refine japp_at1 w hgd s x 24 ho base 3 i0 _ 8 Tryz.underlying24 hi hz0 hz1 hz2 rfl v n (I64 l) hs hown ad 1 c [.int .i64 y] hx rfl (fun j u hu => ?_) (by simp [Value.oneCell']) (by unfold maxLen; omega) (by omega) hbase fun v' w' h1 h2 h3 => h v' w' (by simpa [I64] using h1) h2 h3
 match j, hu with
 | 0, hu => injection hu with hu; rw [← hu]; exact hr
section
variable {I K : Nat → Prop} {w w' : World} {p : Nat} {g : Gm} {j : Jd} {m : Jm}
theorem any_take_succ {f : Nat → Bool} {l : List Nat} {k x : Nat} (hx : l[k]? = some x) (h : (l.take k).any f = false) : (l.take (k + 1)).any f = f x := by
 rw [List.take_add_one, hx, List.any_append, h]
 simp
theorem any_yes {f : Nat → Bool} {l : List Nat} {k x : Nat} (hx : l[k]? = some x) (h : f x = true) : l.any f = true := by
 rw [List.any_eq_true]
 exact ⟨x, List.mem_of_getElem? hx, h⟩
def Jd.endErase (g : Gm) (j : Jd) (b : Nat) : Bool × Jd :=
 if ¬ (b = 208 ∨ b = 209) ∨ j.listed.length < 2 then (false, j)
 else if j.blocks.any (fun x => decide (x % g.p.toNat = spB g (j.addr2 (j.listed.length - 2)) % g.p.toNat)) = true then (false, j)
 else if b = 208 then (true, (({ j with blocks := j.blocks ++ [spB g (j.addr2 (j.listed.length - 2))] } : Jd).erase g).start)
 else (true, ({ j with blocks := j.blocks ++ [spB g (j.addr2 (j.listed.length - 2))] } : Jd).start)
set_option maxHeartbeats 2000000 in
theorem jendErase (b : Nat) (hb : b < 256) (hl : j.listed.length ≤ 4) (hbb : ∀ x ∈ j.blocks, x < g.b.toNat) (hnq : j.blocks.length ≤ 100000) (h : JH I w p g j) : Calls Tryz.prog 100 #[.pointer (some ⟨p, 0, none⟩), .int .u8 (b : Int)] w (ActsJ I p g (.bool (j.endErase g b).1) (j.endErase g b).2 w) := by
 have HH := Lib.hid h
 have HBB := Lib.hid hbb
 have NQ := Lib.hid hnq
 have HOK := Lib.hid h.ok
 obtain ⟨m, hc, hr⟩ := h
 have C0 := Lib.hid hc
 have R0 := Lib.hid hr
 obtain ⟨n, hn⟩ : ∃ n, n = j.listed.length := ⟨_, rfl⟩
 have x1 : w.cell? ⟨p, 1, none⟩ = some (.slice m.aL n m.cL) := by rw [hn]; exact hc.cell_at 1 _ rfl
 have HE0 : j.endErase g b = (if ¬ (b = 208 ∨ b = 209) ∨ n < 2 then (false, j) else if j.blocks.any (fun x => decide (x % g.p.toNat = spB g (j.addr2 (n - 2)) % g.p.toNat)) = true then (false, j) else if b = 208 then (true, (({ j with blocks := j.blocks ++ [spB g (j.addr2 (n - 2))] } : Jd).erase g).start) else (true, ({ j with blocks := j.blocks ++ [spB g (j.addr2 (n - 2))] } : Jd).start)) := by rw [hn]; rfl
 have HNL := Lib.hid hn
 rw [← hn] at hl
 clear hc hr hn hbb hnq
 by_cases h1 : b = 208 ∨ b = 209
 ·
  by_cases h2 : n < 2
  ·
   rw [if_pos (.inr h2)] at HE0
   have HE := Lib.hid HE0
   clear HE0
   have d1 : decide ((n : Int) < 2) = true := decide_eq_true (by omega)
   have d2 : decide (n < 2) = true := decide_eq_true (by omega)
   clear h2
   rcases h1 with rfl | rfl
   all_goals go_enter Tryz.func100, Tryz.ntmps100
   all_goals go_wp2
   all_goals go_ret
   all_goals rw [HE.out]
   all_goals exact ⟨rfl, HH.out, Btw.refl w⟩
  ·
   rw [if_neg (by omega)] at HE0
   have d1 : decide ((n : Int) < 2) = false := decide_eq_false (by omega)
   have d2 : decide (n < 2) = false := decide_eq_false (by omega)
   have HLR := Lib.hid (fun W (hh : JH I W p g j) => jlistedRow (n - 2) (by rw [← HNL.out]; omega) (by omega) hh)
   generalize j.addr2 (n - 2) = a at *
   have HSP := Lib.hid (fun W => jSplit g HOK.out a W)
   have HBK := Lib.hid (spB_lt HOK.out a)
   simp only [Gm.val] at HSP
   generalize spB g a = bk at *
   generalize spP g a = np at *
   generalize decide (a < g.rows_) = bb at *
   have x13 := C0.out.cell_at 13 (.int .i64 g.b) rfl
   have HNO := Lib.hid (fun (e : j.blocks.any (fun x => decide (x % g.p.toNat = bk % g.p.toNat)) = true) => HE0.trans (if_pos e))
   rcases h1 with rfl | rfl
   ·
    have HE := Lib.hid (fun (e : j.blocks.any (fun x => decide (x % g.p.toNat = bk % g.p.toNat)) = false) => HE0.trans ((if_neg (by rw [e]; decide)).trans (if_pos rfl)))
    obtain ⟨nb, hnb⟩ : ∃ nb, nb = j.blocks.length := ⟨_, rfl⟩
    have HN := Lib.hid hnb
    obtain ⟨zR, hz⟩ : ∃ zR, zR = m.aB := ⟨_, rfl⟩
    have HZ := Lib.hid hz
    have hnq := NQ.out
    rw [← hnb] at hnq
    have X10 := Lib.hid (show ∀ W, CRow W p 131 (jCells g j m) → W.cell? ⟨p, 10, none⟩ = some (.slice zR nb m.cB) from fun W hW => by rw [hz, hnb]; exact hW.cell_at 10 _ rfl)
    clear hnb hz HE0
    go_enter Tryz.func100, Tryz.ntmps100
    go_wp2
    refine wp_region_noPanic ?_
    refine wp_region_held_drew (S := fun w' => Below w.heap.size w w') (by kernel_rfl) ((Below.refl _ _).drew) (fun C1 => ?_)
    refine tkH4 0 C1 ?_
    refine tkH4 1 C1 ?_
    refine tkH4 2 C1 ?_
    refine tkH4 3 C1 ?_ (hy := fun W' hSw => by have g12 : W'.cell? ⟨p, 12, none⟩ = some (.int .i64 g.p) := (hSw.cell (show (⟨p, 12, none⟩ : Addr).block < w.heap.size from C0.out.lt)).trans (C0.out.cell_at 12 _ rfl); have g13 : W'.cell? ⟨p, 13, none⟩ = some (.int .i64 g.b) := (hSw.cell (show (⟨p, 13, none⟩ : Addr).block < w.heap.size from C0.out.lt)).trans (C0.out.cell_at 13 _ rfl); have g14 : W'.cell? ⟨p, 14, none⟩ = some (.int .i64 g.s) := (hSw.cell (show (⟨p, 14, none⟩ : Addr).block < w.heap.size from C0.out.lt)).trans (C0.out.cell_at 14 _ rfl); have g15 : W'.cell? ⟨p, 15, none⟩ = some (.int .i64 g.c) := (hSw.cell (show (⟨p, 15, none⟩ : Addr).block < w.heap.size from C0.out.lt)).trans (C0.out.cell_at 15 _ rfl); have g16 : W'.cell? ⟨p, 16, none⟩ = some (.int .i64 g.k) := (hSw.cell (show (⟨p, 16, none⟩ : Addr).block < w.heap.size from C0.out.lt)).trans (C0.out.cell_at 16 _ rfl); have g17 : W'.cell? ⟨p, 17, none⟩ = some (.int .i64 g.r) := (hSw.cell (show (⟨p, 17, none⟩ : Addr).block < w.heap.size from C0.out.lt)).trans (C0.out.cell_at 17 _ rfl); have g18 : W'.cell? ⟨p, 18, none⟩ = some (.int .i64 g.q) := (hSw.cell (show (⟨p, 18, none⟩ : Addr).block < w.heap.size from C0.out.lt)).trans (C0.out.cell_at 18 _ rfl); clear hSw; go_simp <;> with_reducible rfl)
    refine tkH4 4 C1 ?_
    refine wpAnyH_ready (rs := [5]) (by kernel_rfl) (by simp) ?_
    refine AllReadyH.cons (o := zFc1) rfl (fun K hK => ?_) AllReadyH.nil
    dsimp only [zFc1]
    go_simp
    refine (HLR.out _ (HH.out.below C1)).mono ?_
    rintro _ w2 ⟨rfl, hb⟩
    have B2 := Lib.hid (show Below w.heap.size w w2 from C1.trans (hb.mono C1.size))
    clear hb
    go_wp2_with fail
    refine hK.out _ _ B2.out (fun C2 => ?_)
    clear hK K
    try simp only [Act.put, zzI, zzO, zzS]
    refine wpAnyH_ready (rs := [6]) (by kernel_rfl) (by simp) ?_
    refine AllReadyH.cons (o := zFc2) rfl (fun K hK => ?_) AllReadyH.nil
    dsimp only [zFc2]
    go_simp
    refine (HSP.out _).mono ?_
    rintro _ w3 ⟨rfl, hb⟩
    have B3 := Lib.hid (show Below w.heap.size w w3 from C2.trans (hb.mono C2.size))
    clear hb
    go_wp2_with fail
    refine hK.out _ _ B3.out (fun C3 => ?_)
    clear hK K
    try simp only [Act.put, zzI, zzO, zzS]
    refine tkH4 7 C3 ?_
    refine tkH4 8 C3 ?_
    refine tkH4 9 C3 ?_
    refine tkH4 10 C3 ?_
    refine tkH4 11 C3 ?_
    refine tkH4 12 C3 ?_
    refine tkH4 13 C3 ?_
    refine wpAnyH_done (by kernel_rfl) ?_ _
    refine NoPanic.normal ?_
    have y10 := X10.out _ (C0.out.below B3.out)
    go_wp2
    clear y10 x1 x13
    go_loopw [42] (fun i wr => ∃ k : Nat, k ≤ nb ∧ i = .int .i64 (k : Int) ∧ Hid ((j.blocks.take k).any (fun x => decide (x % g.p.toNat = bk % g.p.toNat)) = false) ∧ Hid (Below w.heap.size w wr)) (fun i _ => nb - (intOf i).toNat)
    case atStart => exact ⟨0, Nat.zero_le _, rfl, Lib.hid rfl, B3⟩
    case round =>
     obtain ⟨k, hk, rfl, HK, B1⟩ := hrel
     rename World => wr
     clear B3 B2
     by_cases hlt : k < nb
     ·
      obtain ⟨x, hx⟩ : ∃ x, j.blocks[k]? = some x := ⟨_, List.getElem?_eq_getElem (by rw [← HN.out]; exact hlt)⟩
      obtain ⟨b9, hA, _, _, y0', _, _⟩ := own_at (own_below R0.out.blk B1.out) (k := k) (by rw [← HN.out]; exact hlt)
      obtain rfl : zR = some ⟨b9, 0, none⟩ := HZ.out.trans hA
      have y0 : wr.cell? ⟨b9, k, none⟩ = some (.int .i64 (x : Int)) := by
       rw [y0', I64_JI, hx]
       rfl
      have HX := Lib.hid hx
      have d3 : decide ((k : Int) < (nb : Int)) = true := decide_eq_true (by omega)
      have i0 : (0 : Int) ≤ (k : Int) := by omega
      have i1 : (k : Int) < (nb : Int) := by omega
      have HP1 := Lib.hid (jplane x (HBB.out x (List.mem_of_getElem? hx)) (HH.out.below B1.out))
      have HP2 := Lib.hid (fun W (hB : Below w.heap.size w W) => jplane bk HBK.out (HH.out.below hB))
      obtain ⟨p1, hp1⟩ : ∃ p1, p1 = x % g.p.toNat := ⟨_, rfl⟩
      obtain ⟨p2, hp2⟩ : ∃ p2, p2 = bk % g.p.toNat := ⟨_, rfl⟩
      have HQ1 := Lib.hid hp1
      have HQ2 := Lib.hid hp2
      rw [← hp1] at HP1
      rw [← hp2] at HP2
      clear hA y0' hx hp1 hp2
      go_wp2_with fail
      clear y0
      refine HP1.out.mono ?_
      rintro _ w5 ⟨rfl, hb5⟩
      have B5 := Lib.hid (below_step B1.out hb5)
      clear hb5 HP1
      go_wp2_with fail
      refine (HP2.out _ B5.out).mono ?_
      rintro _ w6 ⟨rfl, hb6⟩
      have B6 := Lib.hid (below_step B5.out hb6)
      clear hb6 HP2
      by_cases hpl : p1 = p2
      ·
       have HPL := Lib.hid hpl
       subst hpl
       go_wp2
       go_ret
       rw [HNO.out (any_yes HX.out (by show decide (x % g.p.toNat = bk % g.p.toNat) = true; rw [← HQ1.out, ← HQ2.out]; simp))]
       exact ⟨rfl, HH.out.below B6.out, Btw.of_below B6.out⟩
      ·
       have e1 : decide (p1 = p2) = false := decide_eq_false hpl
       have e2 : ((p1 : Int) == (p2 : Int)) = false := by rw [beq_eq_false_iff_ne]; omega
       have e3 : ¬ ((p1 : Int) = (p2 : Int)) := by omega
       have E1 := Lib.hid e1
       go_wp2
       go_roundw
       case rel => exact ⟨k + 1, by omega, by go_num, Lib.hid (by rw [any_take_succ HX.out HK.out]; show decide (x % g.p.toNat = bk % g.p.toNat) = false; rw [← HQ1.out, ← HQ2.out]; exact E1.out), B6⟩
       case measure => simp [intOf]; omega
     ·
      obtain rfl : k = nb := by omega
      have d3 : decide ((k : Int) < (k : Int)) = false := decide_eq_false (by omega)
      have F1 := Lib.hid (show j.blocks.any (fun x => decide (x % g.p.toNat = bk % g.p.toNat)) = false by
       have h0 := HK.out
       rw [HN.out, List.take_length] at h0
       exact h0)
      clear hk hlt
      obtain ⟨m4, hc, hr⟩ := HH.out.below B1.out
      have C4 := Lib.hid hc
      have R4 := Lib.hid hr
      have OQ := Lib.hid hr.blk
      obtain ⟨nq, hnq⟩ : ∃ nq, nq = j.blocks.length := ⟨_, rfl⟩
      have y10 : wr.cell? ⟨p, 10, none⟩ = some (.slice m4.aB j.blocks.length m4.cB) := hc.cell_at 10 _ rfl
      clear hc hr hnq
      go_wp2_with (at_builtin; refine japp64 (wr.alloc (.cells #[.int .i64 (bk : Int)] 3)) rfl (.tmp 59) (.tmp 61) rfl 0 _ (JI j.blocks) j.blocks.length (JI_length _) rfl (OQ.out.alloc _) ⟨wr.heap.size, 0, none⟩ 1 (bk : Int) rfl (jone64 wr (bk : Int) _) (by have := NQ.out; omega) (Nat.zero_le _) ?_)
      intro v3 w5 hown hg hwh
      obtain ⟨A3, c3, rfl⟩ := jown_form hown
      have hP := Jr.pushB (I := I) bk C4.out R4.out hown hg (by simpa using hwh)
      have C5 := Lib.hid hP.1
      have R5 := Lib.hid hP.2.1
      have B5 := Lib.hid ((Btw.of_below (I := I) B1.out).trans hP.2.2 fun _ _ h => h)
      clear hown hg hwh hP y10
      have y10 := C5.out.cell_at 10 (.slice m4.aB j.blocks.length m4.cB) rfl
      have f10 := C5.out.frozen 10
      have S6 := Lib.hid (show CRow (w5.setCell ⟨p, 10, none⟩ (.slice A3 (j.blocks.length + 1) c3)) p 131 (jCells g { j with blocks := j.blocks ++ [bk] } { m4 with aB := A3, cB := c3 }) by
       have h0 := C5.out.setCell 10 (.slice A3 (j.blocks.length + 1) c3)
       have e : (jCells g j m4).setIfInBounds 10 (.slice A3 (j.blocks.length + 1) c3) = jCells g { j with blocks := j.blocks ++ [bk] } { m4 with aB := A3, cB := c3 } := by simp [jCells]
       rw [e] at h0
       exact h0)
      have HJ := JH.of (j' := { j with blocks := j.blocks ++ [bk] }) (m' := { m4 with aB := A3, cB := c3 }) C5.out R5.out S6.out ((Btw.refl w5).setCell (I := fun k => k = p) (p := ⟨p, 10, none⟩) (v := .slice A3 (j.blocks.length + 1) c3) rfl) fun W h => h
      have H6 := Lib.hid HJ.1
      have B6 := Lib.hid (B5.out.trans HJ.2 fun _ _ h => h)
      clear HJ
      go_wp2_with fail
      refine (jerase (fun x hx => by
       rcases List.mem_append.1 hx with h | h
       ·
        exact HBB.out x h
       ·
        rw [List.mem_singleton.1 h]; exact HBK.out) (by show (j.blocks ++ [bk]).length ≤ 1000000; rw [List.length_append]; show _ + 1 ≤ _; have := NQ.out; omega) H6.out).mono ?_
      rintro _ w7 ⟨rfl, h7, b7⟩
      have H7 := Lib.hid h7
      have B7 := Lib.hid (B6.out.trans b7 fun _ _ h => h)
      clear h7 b7
      go_wp2_with fail
      refine (jstart H7.out).mono ?_
      rintro _ w8 ⟨rfl, h8, b8⟩
      have H8 := Lib.hid h8
      have B8 := Lib.hid (B7.out.trans b8 fun _ _ h => h)
      clear h8 b8
      go_wp2
      go_ret
      rw [HE.out F1.out]
      exact ⟨rfl, H8.out, B8.out⟩
   ·
    have HE := Lib.hid (fun (e : j.blocks.any (fun x => decide (x % g.p.toNat = bk % g.p.toNat)) = false) => HE0.trans ((if_neg (by rw [e]; decide)).trans (if_neg (by omega))))
    obtain ⟨nb, hnb⟩ : ∃ nb, nb = j.blocks.length := ⟨_, rfl⟩
    have HN := Lib.hid hnb
    obtain ⟨zR, hz⟩ : ∃ zR, zR = m.aB := ⟨_, rfl⟩
    have HZ := Lib.hid hz
    have hnq := NQ.out
    rw [← hnb] at hnq
    have X10 := Lib.hid (show ∀ W, CRow W p 131 (jCells g j m) → W.cell? ⟨p, 10, none⟩ = some (.slice zR nb m.cB) from fun W hW => by rw [hz, hnb]; exact hW.cell_at 10 _ rfl)
    clear hnb hz HE0
    go_enter Tryz.func100, Tryz.ntmps100
    go_wp2
    refine wp_region_noPanic ?_
    refine wp_region_held_drew (S := fun w' => Below w.heap.size w w') (by kernel_rfl) ((Below.refl _ _).drew) (fun C1 => ?_)
    refine tkH4 0 C1 ?_
    refine tkH4 1 C1 ?_
    refine tkH4 2 C1 ?_
    refine tkH4 3 C1 ?_ (hy := fun W' hSw => by have g12 : W'.cell? ⟨p, 12, none⟩ = some (.int .i64 g.p) := (hSw.cell (show (⟨p, 12, none⟩ : Addr).block < w.heap.size from C0.out.lt)).trans (C0.out.cell_at 12 _ rfl); have g13 : W'.cell? ⟨p, 13, none⟩ = some (.int .i64 g.b) := (hSw.cell (show (⟨p, 13, none⟩ : Addr).block < w.heap.size from C0.out.lt)).trans (C0.out.cell_at 13 _ rfl); have g14 : W'.cell? ⟨p, 14, none⟩ = some (.int .i64 g.s) := (hSw.cell (show (⟨p, 14, none⟩ : Addr).block < w.heap.size from C0.out.lt)).trans (C0.out.cell_at 14 _ rfl); have g15 : W'.cell? ⟨p, 15, none⟩ = some (.int .i64 g.c) := (hSw.cell (show (⟨p, 15, none⟩ : Addr).block < w.heap.size from C0.out.lt)).trans (C0.out.cell_at 15 _ rfl); have g16 : W'.cell? ⟨p, 16, none⟩ = some (.int .i64 g.k) := (hSw.cell (show (⟨p, 16, none⟩ : Addr).block < w.heap.size from C0.out.lt)).trans (C0.out.cell_at 16 _ rfl); have g17 : W'.cell? ⟨p, 17, none⟩ = some (.int .i64 g.r) := (hSw.cell (show (⟨p, 17, none⟩ : Addr).block < w.heap.size from C0.out.lt)).trans (C0.out.cell_at 17 _ rfl); have g18 : W'.cell? ⟨p, 18, none⟩ = some (.int .i64 g.q) := (hSw.cell (show (⟨p, 18, none⟩ : Addr).block < w.heap.size from C0.out.lt)).trans (C0.out.cell_at 18 _ rfl); clear hSw; go_simp <;> with_reducible rfl)
    refine tkH4 4 C1 ?_
    refine wpAnyH_ready (rs := [5]) (by kernel_rfl) (by simp) ?_
    refine AllReadyH.cons (o := zFc1) rfl (fun K hK => ?_) AllReadyH.nil
    dsimp only [zFc1]
    go_simp
    refine (HLR.out _ (HH.out.below C1)).mono ?_
    rintro _ w2 ⟨rfl, hb⟩
    have B2 := Lib.hid (show Below w.heap.size w w2 from C1.trans (hb.mono C1.size))
    clear hb
    go_wp2_with fail
    refine hK.out _ _ B2.out (fun C2 => ?_)
    clear hK K
    try simp only [Act.put, zzI, zzO, zzS]
    refine wpAnyH_ready (rs := [6]) (by kernel_rfl) (by simp) ?_
    refine AllReadyH.cons (o := zFc2) rfl (fun K hK => ?_) AllReadyH.nil
    dsimp only [zFc2]
    go_simp
    refine (HSP.out _).mono ?_
    rintro _ w3 ⟨rfl, hb⟩
    have B3 := Lib.hid (show Below w.heap.size w w3 from C2.trans (hb.mono C2.size))
    clear hb
    go_wp2_with fail
    refine hK.out _ _ B3.out (fun C3 => ?_)
    clear hK K
    try simp only [Act.put, zzI, zzO, zzS]
    refine tkH4 7 C3 ?_
    refine tkH4 8 C3 ?_
    refine tkH4 9 C3 ?_
    refine tkH4 10 C3 ?_
    refine tkH4 11 C3 ?_
    refine tkH4 12 C3 ?_
    refine tkH4 13 C3 ?_
    refine wpAnyH_done (by kernel_rfl) ?_ _
    refine NoPanic.normal ?_
    have y10 := X10.out _ (C0.out.below B3.out)
    go_wp2
    clear y10 x1 x13
    go_loopw [42] (fun i wr => ∃ k : Nat, k ≤ nb ∧ i = .int .i64 (k : Int) ∧ Hid ((j.blocks.take k).any (fun x => decide (x % g.p.toNat = bk % g.p.toNat)) = false) ∧ Hid (Below w.heap.size w wr)) (fun i _ => nb - (intOf i).toNat)
    case atStart => exact ⟨0, Nat.zero_le _, rfl, Lib.hid rfl, B3⟩
    case round =>
     obtain ⟨k, hk, rfl, HK, B1⟩ := hrel
     rename World => wr
     clear B3 B2
     by_cases hlt : k < nb
     ·
      obtain ⟨x, hx⟩ : ∃ x, j.blocks[k]? = some x := ⟨_, List.getElem?_eq_getElem (by rw [← HN.out]; exact hlt)⟩
      obtain ⟨b9, hA, _, _, y0', _, _⟩ := own_at (own_below R0.out.blk B1.out) (k := k) (by rw [← HN.out]; exact hlt)
      obtain rfl : zR = some ⟨b9, 0, none⟩ := HZ.out.trans hA
      have y0 : wr.cell? ⟨b9, k, none⟩ = some (.int .i64 (x : Int)) := by
       rw [y0', I64_JI, hx]
       rfl
      have HX := Lib.hid hx
      have d3 : decide ((k : Int) < (nb : Int)) = true := decide_eq_true (by omega)
      have i0 : (0 : Int) ≤ (k : Int) := by omega
      have i1 : (k : Int) < (nb : Int) := by omega
      have HP1 := Lib.hid (jplane x (HBB.out x (List.mem_of_getElem? hx)) (HH.out.below B1.out))
      have HP2 := Lib.hid (fun W (hB : Below w.heap.size w W) => jplane bk HBK.out (HH.out.below hB))
      obtain ⟨p1, hp1⟩ : ∃ p1, p1 = x % g.p.toNat := ⟨_, rfl⟩
      obtain ⟨p2, hp2⟩ : ∃ p2, p2 = bk % g.p.toNat := ⟨_, rfl⟩
      have HQ1 := Lib.hid hp1
      have HQ2 := Lib.hid hp2
      rw [← hp1] at HP1
      rw [← hp2] at HP2
      clear hA y0' hx hp1 hp2
      go_wp2_with fail
      clear y0
      refine HP1.out.mono ?_
      rintro _ w5 ⟨rfl, hb5⟩
      have B5 := Lib.hid (below_step B1.out hb5)
      clear hb5 HP1
      go_wp2_with fail
      refine (HP2.out _ B5.out).mono ?_
      rintro _ w6 ⟨rfl, hb6⟩
      have B6 := Lib.hid (below_step B5.out hb6)
      clear hb6 HP2
      by_cases hpl : p1 = p2
      ·
       have HPL := Lib.hid hpl
       subst hpl
       go_wp2
       go_ret
       rw [HNO.out (any_yes HX.out (by show decide (x % g.p.toNat = bk % g.p.toNat) = true; rw [← HQ1.out, ← HQ2.out]; simp))]
       exact ⟨rfl, HH.out.below B6.out, Btw.of_below B6.out⟩
      ·
       have e1 : decide (p1 = p2) = false := decide_eq_false hpl
       have e2 : ((p1 : Int) == (p2 : Int)) = false := by rw [beq_eq_false_iff_ne]; omega
       have e3 : ¬ ((p1 : Int) = (p2 : Int)) := by omega
       have E1 := Lib.hid e1
       go_wp2
       go_roundw
       case rel => exact ⟨k + 1, by omega, by go_num, Lib.hid (by rw [any_take_succ HX.out HK.out]; show decide (x % g.p.toNat = bk % g.p.toNat) = false; rw [← HQ1.out, ← HQ2.out]; exact E1.out), B6⟩
       case measure => simp [intOf]; omega
     ·
      obtain rfl : k = nb := by omega
      have d3 : decide ((k : Int) < (k : Int)) = false := decide_eq_false (by omega)
      have F1 := Lib.hid (show j.blocks.any (fun x => decide (x % g.p.toNat = bk % g.p.toNat)) = false by
       have h0 := HK.out
       rw [HN.out, List.take_length] at h0
       exact h0)
      clear hk hlt
      obtain ⟨m4, hc, hr⟩ := HH.out.below B1.out
      have C4 := Lib.hid hc
      have R4 := Lib.hid hr
      have OQ := Lib.hid hr.blk
      obtain ⟨nq, hnq⟩ : ∃ nq, nq = j.blocks.length := ⟨_, rfl⟩
      have y10 : wr.cell? ⟨p, 10, none⟩ = some (.slice m4.aB j.blocks.length m4.cB) := hc.cell_at 10 _ rfl
      clear hc hr hnq
      go_wp2_with (at_builtin; refine japp64 (wr.alloc (.cells #[.int .i64 (bk : Int)] 3)) rfl (.tmp 59) (.tmp 61) rfl 0 _ (JI j.blocks) j.blocks.length (JI_length _) rfl (OQ.out.alloc _) ⟨wr.heap.size, 0, none⟩ 1 (bk : Int) rfl (jone64 wr (bk : Int) _) (by have := NQ.out; omega) (Nat.zero_le _) ?_)
      intro v3 w5 hown hg hwh
      obtain ⟨A3, c3, rfl⟩ := jown_form hown
      have hP := Jr.pushB (I := I) bk C4.out R4.out hown hg (by simpa using hwh)
      have C5 := Lib.hid hP.1
      have R5 := Lib.hid hP.2.1
      have B5 := Lib.hid ((Btw.of_below (I := I) B1.out).trans hP.2.2 fun _ _ h => h)
      clear hown hg hwh hP y10
      have y10 := C5.out.cell_at 10 (.slice m4.aB j.blocks.length m4.cB) rfl
      have f10 := C5.out.frozen 10
      have S6 := Lib.hid (show CRow (w5.setCell ⟨p, 10, none⟩ (.slice A3 (j.blocks.length + 1) c3)) p 131 (jCells g { j with blocks := j.blocks ++ [bk] } { m4 with aB := A3, cB := c3 }) by
       have h0 := C5.out.setCell 10 (.slice A3 (j.blocks.length + 1) c3)
       have e : (jCells g j m4).setIfInBounds 10 (.slice A3 (j.blocks.length + 1) c3) = jCells g { j with blocks := j.blocks ++ [bk] } { m4 with aB := A3, cB := c3 } := by simp [jCells]
       rw [e] at h0
       exact h0)
      have HJ := JH.of (j' := { j with blocks := j.blocks ++ [bk] }) (m' := { m4 with aB := A3, cB := c3 }) C5.out R5.out S6.out ((Btw.refl w5).setCell (I := fun k => k = p) (p := ⟨p, 10, none⟩) (v := .slice A3 (j.blocks.length + 1) c3) rfl) fun W h => h
      have H6 := Lib.hid HJ.1
      have B6 := Lib.hid (B5.out.trans HJ.2 fun _ _ h => h)
      clear HJ
      go_wp2_with fail
      have B7 := B6
      refine (jstart H6.out).mono ?_
      rintro _ w8 ⟨rfl, h8, b8⟩
      have H8 := Lib.hid h8
      have B8 := Lib.hid (B7.out.trans b8 fun _ _ h => h)
      clear h8 b8
      go_wp2
      go_ret
      rw [HE.out F1.out]
      exact ⟨rfl, H8.out, B8.out⟩
 ·
  rw [if_pos (.inl h1)] at HE0
  have HE := Lib.hid HE0
  clear HE0
  have b208 : ((b : Int) == 208) = false := by simp; omega
  have j208 : ((b : Int) = 208) = False := eq_false (by omega)
  have d208 : decide ((b : Int) = 208) = false := decide_eq_false (by omega)
  have b209 : ((b : Int) == 209) = false := by simp; omega
  have j209 : ((b : Int) = 209) = False := eq_false (by omega)
  have d209 : decide ((b : Int) = 209) = false := decide_eq_false (by omega)
  clear h1
  go_enter Tryz.func100, Tryz.ntmps100
  go_wp2
  go_ret
  rw [HE.out]
  exact ⟨rfl, HH.out, Btw.refl w⟩
end
section
variable {I K : Nat → Prop} {w w' : World} {p : Nat} {g : Gm} {j : Jd} {m : Jm}
theorem jCanN (x : Nat) (h : JH I w p g j) : Calls Tryz.prog 122 #[.pointer (some ⟨p, 0, none⟩), .int .i64 (x : Int)] w (Gives (.bool (j.can g x)) w) := by
 by_cases hx : x < g.rows_
 ·
  exact jCan x hx h
 ·
  have e : j.can g x = false := by unfold Jd.can; rw [decide_eq_false hx]; rfl
  rw [e]
  refine jCan_no (x : Int) (fun hr => ?_) h
  have := hr.2.2
  rw [Gm.rows_int h.ok] at this
  omega
def Jd.endLoad (g : Gm) (j : Jd) (b : Nat) : Bool × Jd :=
 if j.listed.length < 4 ∨ j.count = 0 then (false, j)
 else if j.can g (j.addr2 2) = false ∨ j.joins g (spB g (j.addr2 2)) (spP g (j.addr2 2)) = false then (false, j)
 else if b = 16 then (true, (({ j with rows := [] } : Jd).prog g (spB g (j.addr2 2)) (spP g (j.addr2 2))).start)
 else if b = 21 then (if 0 < j.rows.length then (false, j) else (true, (({ j with bg := true, bgb := spB g (j.addr2 2) } : Jd).prog g (spB g (j.addr2 2)) (spP g (j.addr2 2))).start))
 else if b = 17 then (if j.bg = true then (false, j) else (true, (({ j with rows := j.rows ++ [j.addr2 2] } : Jd).prog g (spB g (j.addr2 2)) (spP g (j.addr2 2))).start))
 else (false, j)
set_option maxHeartbeats 2000000 in
theorem jendLoad (b : Nat) (hb : b < 256) (hl : j.listed.length ≤ 4) (hct : j.count ≤ 1000000) (hpr : ∀ r, j.pr r ≤ 1000000) (hnq : j.rows.length ≤ 100000) (h : JH I w p g j) : Calls Tryz.prog 99 #[.pointer (some ⟨p, 0, none⟩), .int .u8 (b : Int)] w (ActsJ I p g (.bool (j.endLoad g b).1) (j.endLoad g b).2 w) := by
 have HH := Lib.hid h
 have HPR := Lib.hid hpr
 have NQ := Lib.hid hnq
 have HOK := Lib.hid h.ok
 obtain ⟨m, hc, hr⟩ := h
 have C0 := Lib.hid hc
 have R0 := Lib.hid hr
 obtain ⟨n, hn⟩ : ∃ n, n = j.listed.length := ⟨_, rfl⟩
 obtain ⟨ct, hct0⟩ : ∃ ct, ct = j.count := ⟨_, rfl⟩
 have x1 : w.cell? ⟨p, 1, none⟩ = some (.slice m.aL n m.cL) := by rw [hn]; exact hc.cell_at 1 _ rfl
 have x2 : w.cell? ⟨p, 2, none⟩ = some (.int .i64 (ct : Int)) := by rw [hct0]; exact hc.cell_at 2 _ rfl
 have HE0 : j.endLoad g b = (if n < 4 ∨ ct = 0 then (false, j)
  else if j.can g (j.addr2 2) = false ∨ j.joins g (spB g (j.addr2 2)) (spP g (j.addr2 2)) = false then (false, j)
  else if b = 16 then (true, (({ j with rows := [] } : Jd).prog g (spB g (j.addr2 2)) (spP g (j.addr2 2))).start)
  else if b = 21 then (if 0 < j.rows.length then (false, j) else (true, (({ j with bg := true, bgb := spB g (j.addr2 2) } : Jd).prog g (spB g (j.addr2 2)) (spP g (j.addr2 2))).start))
  else if b = 17 then (if j.bg = true then (false, j) else (true, (({ j with rows := j.rows ++ [j.addr2 2] } : Jd).prog g (spB g (j.addr2 2)) (spP g (j.addr2 2))).start))
  else (false, j)) := by rw [hn, hct0]; rfl
 have HNL := Lib.hid hn
 rw [← hn] at hl
 rw [← hct0] at hct
 clear hc hr hn hct0 hpr hnq
 by_cases h4 : n < 4
 ·
  rw [if_pos (.inl h4)] at HE0
  have HE := Lib.hid HE0
  have d1 : decide ((n : Int) < 4) = true := decide_eq_true (by omega)
  have d2 : decide (n < 4) = true := decide_eq_true h4
  clear HE0 h4
  go_enter Tryz.func99, Tryz.ntmps99
  go_wp2
  go_ret
  rw [HE.out]
  exact ⟨rfl, HH.out, Btw.refl w⟩
 ·
  have d1 : decide ((n : Int) < 4) = false := decide_eq_false (by omega)
  have d2 : decide (n < 4) = false := decide_eq_false h4
  by_cases h0 : ct = 0
  ·
   rw [if_pos (.inr h0)] at HE0
   have HE := Lib.hid HE0
   subst h0
   clear HE0 h4
   go_enter Tryz.func99, Tryz.ntmps99
   go_wp2
   go_ret
   rw [HE.out]
   exact ⟨rfl, HH.out, Btw.refl w⟩
  ·
   rw [if_neg (by omega)] at HE0
   have b0 : ((ct : Int) == 0) = false := by simp; omega
   have j0 : ((ct : Int) = 0) = False := eq_false (by omega)
   have d0 : decide ((ct : Int) = 0) = false := decide_eq_false (by omega)
   have d00 : decide (ct = 0) = false := decide_eq_false h0
   have HLR := Lib.hid (jlistedRow 2 (by rw [← HNL.out]; omega) (by omega) HH.out)
   have hbd := Gm.bounds_of HOK.out
   generalize j.addr2 2 = a at *
   have HSP := Lib.hid (fun W => jSplit g HOK.out a W)
   have HBK := Lib.hid (spB_lt HOK.out a)
   have HPG := Lib.hid (spP_lt HOK.out a)
   simp only [Gm.val] at HSP
   have HCA := Lib.hid (fun W (hh : JH I W p g j) => jCanN a hh)
   have HJO := Lib.hid (fun W (hh : JH I W p g j) => jjoins (spB g a) (spP g a) HBK.out (by have := NQ.out; omega) hh)
   generalize spB g a = bk at *
   generalize spP g a = pg at *
   generalize decide (a < g.rows_) = bb at *
   clear h4 h0 hbd
   cases hca : j.can g a with
   | false =>
    rw [hca] at HCA
    rw [if_pos (.inl hca)] at HE0
    have HE := Lib.hid HE0
    clear HE0 hca
    go_enter Tryz.func99, Tryz.ntmps99
    go_wp2_with fail
    clear x1 x2
    refine (HLR.out).mono ?_
    rintro _ w1 ⟨rfl, hb1⟩
    have B1 := Lib.hid hb1
    have C1 := Lib.hid (C0.out.below hb1)
    clear hb1 HLR
    have g12 := C1.out.cell_at 12 (.int .i64 g.p) rfl
    have g13 := C1.out.cell_at 13 (.int .i64 g.b) rfl
    have g14 := C1.out.cell_at 14 (.int .i64 g.s) rfl
    have g15 := C1.out.cell_at 15 (.int .i64 g.c) rfl
    have g16 := C1.out.cell_at 16 (.int .i64 g.k) rfl
    have g17 := C1.out.cell_at 17 (.int .i64 g.r) rfl
    have g18 := C1.out.cell_at 18 (.int .i64 g.q) rfl
    go_wp2_with fail
    clear g12 g13 g14 g15 g16 g17 g18
    refine (HSP.out _).mono ?_
    rintro _ w2 ⟨rfl, hb2⟩
    have B2 := Lib.hid (below_step B1.out hb2)
    clear hb2 HSP C1
    go_wp2_with fail
    refine (HCA.out _ (HH.out.below B2.out)).mono ?_
    rintro _ w3 ⟨rfl, hb3⟩
    have B3 := Lib.hid (below_step B2.out hb3)
    clear hb3 HCA
    go_wp2
    go_ret
    rw [HE.out]
    exact ⟨rfl, HH.out.below B3.out, Btw.of_below B3.out⟩
   | true =>
    rw [hca] at HCA
    cases hjo : j.joins g bk pg with
    | false =>
     rw [hjo] at HJO
     rw [if_pos (.inr hjo)] at HE0
     have HE := Lib.hid HE0
     clear HE0 hca hjo
     go_enter Tryz.func99, Tryz.ntmps99
     go_wp2_with fail
     clear x1 x2
     refine (HLR.out).mono ?_
     rintro _ w1 ⟨rfl, hb1⟩
     have B1 := Lib.hid hb1
     have C1 := Lib.hid (C0.out.below hb1)
     clear hb1 HLR
     have g12 := C1.out.cell_at 12 (.int .i64 g.p) rfl
     have g13 := C1.out.cell_at 13 (.int .i64 g.b) rfl
     have g14 := C1.out.cell_at 14 (.int .i64 g.s) rfl
     have g15 := C1.out.cell_at 15 (.int .i64 g.c) rfl
     have g16 := C1.out.cell_at 16 (.int .i64 g.k) rfl
     have g17 := C1.out.cell_at 17 (.int .i64 g.r) rfl
     have g18 := C1.out.cell_at 18 (.int .i64 g.q) rfl
     go_wp2_with fail
     clear g12 g13 g14 g15 g16 g17 g18
     refine (HSP.out _).mono ?_
     rintro _ w2 ⟨rfl, hb2⟩
     have B2 := Lib.hid (below_step B1.out hb2)
     clear hb2 HSP C1
     go_wp2_with fail
     refine (HCA.out _ (HH.out.below B2.out)).mono ?_
     rintro _ w3 ⟨rfl, hb3⟩
     have B3 := Lib.hid (below_step B2.out hb3)
     clear hb3 HCA
     go_wp2_with fail
     refine (HJO.out _ (HH.out.below B3.out)).mono ?_
     rintro _ w4 ⟨rfl, hb4⟩
     have B4 := Lib.hid (below_step B3.out hb4)
     clear hb4 HJO
     go_wp2
     go_ret
     rw [HE.out]
     exact ⟨rfl, HH.out.below B4.out, Btw.of_below B4.out⟩
    | true =>
     rw [hjo] at HJO
     rw [if_neg (by rw [hca, hjo]; decide)] at HE0
     clear hca hjo
     by_cases h16 : b = 16
     ·
      skip
      subst h16
      rw [if_pos rfl] at HE0
      have HE := Lib.hid HE0
      clear HE0
      go_enter Tryz.func99, Tryz.ntmps99
      go_wp2_with fail
      clear x1 x2
      refine (HLR.out).mono ?_
      rintro _ w1 ⟨rfl, hb1⟩
      have B1 := Lib.hid hb1
      have C1 := Lib.hid (C0.out.below hb1)
      clear hb1 HLR
      have g12 := C1.out.cell_at 12 (.int .i64 g.p) rfl
      have g13 := C1.out.cell_at 13 (.int .i64 g.b) rfl
      have g14 := C1.out.cell_at 14 (.int .i64 g.s) rfl
      have g15 := C1.out.cell_at 15 (.int .i64 g.c) rfl
      have g16 := C1.out.cell_at 16 (.int .i64 g.k) rfl
      have g17 := C1.out.cell_at 17 (.int .i64 g.r) rfl
      have g18 := C1.out.cell_at 18 (.int .i64 g.q) rfl
      go_wp2_with fail
      clear g12 g13 g14 g15 g16 g17 g18
      refine (HSP.out _).mono ?_
      rintro _ w2 ⟨rfl, hb2⟩
      have B2 := Lib.hid (below_step B1.out hb2)
      clear hb2 HSP C1
      go_wp2_with fail
      refine (HCA.out _ (HH.out.below B2.out)).mono ?_
      rintro _ w3 ⟨rfl, hb3⟩
      have B3 := Lib.hid (below_step B2.out hb3)
      clear hb3 HCA
      go_wp2_with fail
      refine (HJO.out _ (HH.out.below B3.out)).mono ?_
      rintro _ w4 ⟨rfl, hb4⟩
      have B4 := Lib.hid (below_step B3.out hb4)
      clear hb4 HJO
      obtain ⟨m4, hc, hr⟩ := HH.out.below B4.out
      have C4 := Lib.hid hc
      have R4 := Lib.hid hr
      clear hc hr
      have x9 := C4.out.cell_at 9 (.slice m4.aR j.rows.length m4.cR) rfl
      have f9 := C4.out.frozen 9
      have S1 := Lib.hid (C4.out.setCell 9 (.slice none 0 0))
      have K1 := Lib.hid (((Btw.refl w4)).setCell (I := fun k => k = p) (p := ⟨p, 9, none⟩) (v := .slice none 0 0) rfl)
      have HJ := JH.of (j' := { j with rows := [] }) (m' := { m4 with aR := none, cR := 0 }) C4.out R4.out S1.out K1.out fun W h => { h with row := ⟨rfl, .inl ⟨rfl, rfl⟩⟩, ab := fun k hk => (by cases hk), ae := fun k hk => (by cases hk), iR := fun k hk => (by cases hk) }
      have H5 := Lib.hid HJ.1
      have B5 := Lib.hid ((Btw.of_below (I := I) B4.out).trans HJ.2 fun _ _ h => h)
      clear HJ
      go_wp2_with fail
      refine (jprogram bk pg HBK.out HPG.out (by exact HPR.out _) H5.out).mono ?_
      rintro _ w6 ⟨rfl, h6, b6⟩
      have H6 := Lib.hid h6
      have B6 := Lib.hid (B5.out.trans b6 fun _ _ h => h)
      clear h6 b6
      go_wp2_with fail
      refine (jstart H6.out).mono ?_
      rintro _ w7 ⟨rfl, h7, b7⟩
      have H7 := Lib.hid h7
      have B7 := Lib.hid (B6.out.trans b7 fun _ _ h => h)
      clear h7 b7
      go_wp2
      go_ret
      rw [HE.out]
      exact ⟨rfl, H7.out, B7.out⟩
     ·
      by_cases h21 : b = 21
      ·
       skip
       subst h21
       rw [if_neg (by omega), if_pos rfl] at HE0
       obtain ⟨nr, hnr⟩ : ∃ nr, nr = j.rows.length := ⟨_, rfl⟩
       have hq := NQ.out
       rw [← hnr] at HE0 hq
       have HNR := Lib.hid hnr
       clear hnr
       by_cases h0 : 0 < nr
       ·
        rw [if_pos h0] at HE0
        have HE := Lib.hid HE0
        have e1 : decide ((0 : Int) < (nr : Int)) = true := decide_eq_true (by omega)
        have e2 : decide (0 < nr) = true := decide_eq_true h0
        clear HE0 h0
        go_enter Tryz.func99, Tryz.ntmps99
        go_wp2_with fail
        clear x1 x2
        refine (HLR.out).mono ?_
        rintro _ w1 ⟨rfl, hb1⟩
        have B1 := Lib.hid hb1
        have C1 := Lib.hid (C0.out.below hb1)
        clear hb1 HLR
        have g12 := C1.out.cell_at 12 (.int .i64 g.p) rfl
        have g13 := C1.out.cell_at 13 (.int .i64 g.b) rfl
        have g14 := C1.out.cell_at 14 (.int .i64 g.s) rfl
        have g15 := C1.out.cell_at 15 (.int .i64 g.c) rfl
        have g16 := C1.out.cell_at 16 (.int .i64 g.k) rfl
        have g17 := C1.out.cell_at 17 (.int .i64 g.r) rfl
        have g18 := C1.out.cell_at 18 (.int .i64 g.q) rfl
        go_wp2_with fail
        clear g12 g13 g14 g15 g16 g17 g18
        refine (HSP.out _).mono ?_
        rintro _ w2 ⟨rfl, hb2⟩
        have B2 := Lib.hid (below_step B1.out hb2)
        clear hb2 HSP C1
        go_wp2_with fail
        refine (HCA.out _ (HH.out.below B2.out)).mono ?_
        rintro _ w3 ⟨rfl, hb3⟩
        have B3 := Lib.hid (below_step B2.out hb3)
        clear hb3 HCA
        go_wp2_with fail
        refine (HJO.out _ (HH.out.below B3.out)).mono ?_
        rintro _ w4 ⟨rfl, hb4⟩
        have B4 := Lib.hid (below_step B3.out hb4)
        clear hb4 HJO
        obtain ⟨m4, hc, hr⟩ := HH.out.below B4.out
        have C4 := Lib.hid hc
        have R4 := Lib.hid hr
        clear hc hr
        have x9 : w4.cell? ⟨p, 9, none⟩ = some (.slice m4.aR nr m4.cR) := by rw [HNR.out]; exact C4.out.cell_at 9 _ rfl
        go_wp2
        go_ret
        rw [HE.out]
        exact ⟨rfl, HH.out.below B4.out, Btw.of_below B4.out⟩
       ·
        rw [if_neg h0] at HE0
        have HE := Lib.hid HE0
        have e1 : decide ((0 : Int) < (nr : Int)) = false := decide_eq_false (by omega)
        have e2 : decide (0 < nr) = false := decide_eq_false h0
        clear HE0 h0
        go_enter Tryz.func99, Tryz.ntmps99
        go_wp2_with fail
        clear x1 x2
        refine (HLR.out).mono ?_
        rintro _ w1 ⟨rfl, hb1⟩
        have B1 := Lib.hid hb1
        have C1 := Lib.hid (C0.out.below hb1)
        clear hb1 HLR
        have g12 := C1.out.cell_at 12 (.int .i64 g.p) rfl
        have g13 := C1.out.cell_at 13 (.int .i64 g.b) rfl
        have g14 := C1.out.cell_at 14 (.int .i64 g.s) rfl
        have g15 := C1.out.cell_at 15 (.int .i64 g.c) rfl
        have g16 := C1.out.cell_at 16 (.int .i64 g.k) rfl
        have g17 := C1.out.cell_at 17 (.int .i64 g.r) rfl
        have g18 := C1.out.cell_at 18 (.int .i64 g.q) rfl
        go_wp2_with fail
        clear g12 g13 g14 g15 g16 g17 g18
        refine (HSP.out _).mono ?_
        rintro _ w2 ⟨rfl, hb2⟩
        have B2 := Lib.hid (below_step B1.out hb2)
        clear hb2 HSP C1
        go_wp2_with fail
        refine (HCA.out _ (HH.out.below B2.out)).mono ?_
        rintro _ w3 ⟨rfl, hb3⟩
        have B3 := Lib.hid (below_step B2.out hb3)
        clear hb3 HCA
        go_wp2_with fail
        refine (HJO.out _ (HH.out.below B3.out)).mono ?_
        rintro _ w4 ⟨rfl, hb4⟩
        have B4 := Lib.hid (below_step B3.out hb4)
        clear hb4 HJO
        obtain ⟨m4, hc, hr⟩ := HH.out.below B4.out
        have C4 := Lib.hid hc
        have R4 := Lib.hid hr
        clear hc hr
        have x9 : w4.cell? ⟨p, 9, none⟩ = some (.slice m4.aR nr m4.cR) := by rw [HNR.out]; exact C4.out.cell_at 9 _ rfl
        have x5 := C4.out.cell_at 5 (.bool j.bg) rfl
        have f5 := C4.out.frozen 5
        have S1 := Lib.hid (C4.out.setCell 5 (.bool true))
        have K1 := Lib.hid (((Btw.refl w4)).setCell (I := fun k => k = p) (p := ⟨p, 5, none⟩) (v := .bool true) rfl)
        have x6 := S1.out.cell_at 6 (.int .i64 (j.bgb : Int)) rfl
        have f6 := S1.out.frozen 6
        have S2 := Lib.hid (S1.out.setCell 6 (.int .i64 (bk : Int)))
        have K2 := Lib.hid ((K1.out).setCell (I := fun k => k = p) (p := ⟨p, 6, none⟩) (v := .int .i64 (bk : Int)) rfl)
        have HJ := JH.of (j' := { j with bg := true, bgb := bk }) (m' := m4) C4.out R4.out S2.out K2.out fun W h => { h with }
        have H5 := Lib.hid HJ.1
        have B5 := Lib.hid ((Btw.of_below (I := I) B4.out).trans HJ.2 fun _ _ h => h)
        clear HJ
        go_wp2_with fail
        refine (jprogram bk pg HBK.out HPG.out (by exact HPR.out _) H5.out).mono ?_
        rintro _ w6 ⟨rfl, h6, b6⟩
        have H6 := Lib.hid h6
        have B6 := Lib.hid (B5.out.trans b6 fun _ _ h => h)
        clear h6 b6
        go_wp2_with fail
        refine (jstart H6.out).mono ?_
        rintro _ w7 ⟨rfl, h7, b7⟩
        have H7 := Lib.hid h7
        have B7 := Lib.hid (B6.out.trans b7 fun _ _ h => h)
        clear h7 b7
        go_wp2
        go_ret
        rw [HE.out]
        exact ⟨rfl, H7.out, B7.out⟩
      ·
       by_cases h17 : b = 17
       ·
        skip
        subst h17
        rw [if_neg (by omega), if_neg (by omega), if_pos rfl] at HE0
        cases hbg : j.bg with
        | true =>
         rw [if_pos hbg] at HE0
         have HE := Lib.hid HE0
         have HBG := Lib.hid hbg
         clear HE0 hbg
         go_enter Tryz.func99, Tryz.ntmps99
         go_wp2_with fail
         clear x1 x2
         refine (HLR.out).mono ?_
         rintro _ w1 ⟨rfl, hb1⟩
         have B1 := Lib.hid hb1
         have C1 := Lib.hid (C0.out.below hb1)
         clear hb1 HLR
         have g12 := C1.out.cell_at 12 (.int .i64 g.p) rfl
         have g13 := C1.out.cell_at 13 (.int .i64 g.b) rfl
         have g14 := C1.out.cell_at 14 (.int .i64 g.s) rfl
         have g15 := C1.out.cell_at 15 (.int .i64 g.c) rfl
         have g16 := C1.out.cell_at 16 (.int .i64 g.k) rfl
         have g17 := C1.out.cell_at 17 (.int .i64 g.r) rfl
         have g18 := C1.out.cell_at 18 (.int .i64 g.q) rfl
         go_wp2_with fail
         clear g12 g13 g14 g15 g16 g17 g18
         refine (HSP.out _).mono ?_
         rintro _ w2 ⟨rfl, hb2⟩
         have B2 := Lib.hid (below_step B1.out hb2)
         clear hb2 HSP C1
         go_wp2_with fail
         refine (HCA.out _ (HH.out.below B2.out)).mono ?_
         rintro _ w3 ⟨rfl, hb3⟩
         have B3 := Lib.hid (below_step B2.out hb3)
         clear hb3 HCA
         go_wp2_with fail
         refine (HJO.out _ (HH.out.below B3.out)).mono ?_
         rintro _ w4 ⟨rfl, hb4⟩
         have B4 := Lib.hid (below_step B3.out hb4)
         clear hb4 HJO
         obtain ⟨m4, hc, hr⟩ := HH.out.below B4.out
         have C4 := Lib.hid hc
         have R4 := Lib.hid hr
         clear hc hr
         have x5 : w4.cell? ⟨p, 5, none⟩ = some (.bool true) := by rw [← HBG.out]; exact C4.out.cell_at 5 _ rfl
         go_wp2
         go_ret
         rw [HE.out]
         exact ⟨rfl, HH.out.below B4.out, Btw.of_below B4.out⟩
        | false =>
         rw [if_neg (by rw [hbg]; decide)] at HE0
         have HE := Lib.hid HE0
         have HBG := Lib.hid hbg
         clear HE0 hbg
         go_enter Tryz.func99, Tryz.ntmps99
         go_wp2_with fail
         clear x1 x2
         refine (HLR.out).mono ?_
         rintro _ w1 ⟨rfl, hb1⟩
         have B1 := Lib.hid hb1
         have C1 := Lib.hid (C0.out.below hb1)
         clear hb1 HLR
         have g12 := C1.out.cell_at 12 (.int .i64 g.p) rfl
         have g13 := C1.out.cell_at 13 (.int .i64 g.b) rfl
         have g14 := C1.out.cell_at 14 (.int .i64 g.s) rfl
         have g15 := C1.out.cell_at 15 (.int .i64 g.c) rfl
         have g16 := C1.out.cell_at 16 (.int .i64 g.k) rfl
         have g17 := C1.out.cell_at 17 (.int .i64 g.r) rfl
         have g18 := C1.out.cell_at 18 (.int .i64 g.q) rfl
         go_wp2_with fail
         clear g12 g13 g14 g15 g16 g17 g18
         refine (HSP.out _).mono ?_
         rintro _ w2 ⟨rfl, hb2⟩
         have B2 := Lib.hid (below_step B1.out hb2)
         clear hb2 HSP C1
         go_wp2_with fail
         refine (HCA.out _ (HH.out.below B2.out)).mono ?_
         rintro _ w3 ⟨rfl, hb3⟩
         have B3 := Lib.hid (below_step B2.out hb3)
         clear hb3 HCA
         go_wp2_with fail
         refine (HJO.out _ (HH.out.below B3.out)).mono ?_
         rintro _ w4 ⟨rfl, hb4⟩
         have B4 := Lib.hid (below_step B3.out hb4)
         clear hb4 HJO
         obtain ⟨m4, hc, hr⟩ := HH.out.below B4.out
         have C4 := Lib.hid hc
         have R4 := Lib.hid hr
         clear hc hr
         have x5 : w4.cell? ⟨p, 5, none⟩ = some (.bool false) := by rw [← HBG.out]; exact C4.out.cell_at 5 _ rfl
         have OQ := Lib.hid R4.out.row
         have y9 : w4.cell? ⟨p, 9, none⟩ = some (.slice m4.aR j.rows.length m4.cR) := C4.out.cell_at 9 _ rfl
         go_wp2_with (at_builtin; refine japp64 (w4.alloc (.cells #[.int .i64 (a : Int)] 3)) rfl (.tmp 84) (.tmp 86) rfl 0 _ (JI j.rows) j.rows.length (JI_length _) rfl (OQ.out.alloc _) ⟨w4.heap.size, 0, none⟩ 1 (a : Int) rfl (jone64 w4 (a : Int) _) (by have := NQ.out; omega) (Nat.zero_le _) ?_)
         intro v3 w5 hown hg hwh
         obtain ⟨A3, c3, rfl⟩ := jown_form hown
         have hP := Jr.pushR (I := I) a C4.out R4.out hown hg (by simpa using hwh)
         have C5 := Lib.hid hP.1
         have R5 := Lib.hid hP.2.1
         have K5 := Lib.hid ((Btw.of_below (I := I) B4.out).trans hP.2.2 fun _ _ h => h)
         clear hown hg hwh hP y9 x5
         have y9 := C5.out.cell_at 9 (.slice m4.aR j.rows.length m4.cR) rfl
         have f9 := C5.out.frozen 9
         have S6 := Lib.hid (show CRow (w5.setCell ⟨p, 9, none⟩ (.slice A3 (j.rows.length + 1) c3)) p 131 (jCells g { j with rows := j.rows ++ [a] } { m4 with aR := A3, cR := c3 }) by
          have h0 := C5.out.setCell 9 (.slice A3 (j.rows.length + 1) c3)
          have e : (jCells g j m4).setIfInBounds 9 (.slice A3 (j.rows.length + 1) c3) = jCells g { j with rows := j.rows ++ [a] } { m4 with aR := A3, cR := c3 } := by simp [jCells]
          rw [e] at h0
          exact h0)
         have HJ := JH.of (j' := { j with rows := j.rows ++ [a] }) (m' := { m4 with aR := A3, cR := c3 }) C5.out R5.out S6.out ((Btw.refl w5).setCell (I := fun k => k = p) (p := ⟨p, 9, none⟩) (v := .slice A3 (j.rows.length + 1) c3) rfl) fun W h => h
         have H5 := Lib.hid HJ.1
         have B5 := Lib.hid (K5.out.trans HJ.2 fun _ _ h => h)
         clear HJ
         go_wp2_with fail
         refine (jprogram bk pg HBK.out HPG.out (by exact HPR.out _) H5.out).mono ?_
         rintro _ w6 ⟨rfl, h6, b6⟩
         have H6 := Lib.hid h6
         have B6 := Lib.hid (B5.out.trans b6 fun _ _ h => h)
         clear h6 b6
         go_wp2_with fail
         refine (jstart H6.out).mono ?_
         rintro _ w7 ⟨rfl, h7, b7⟩
         have H7 := Lib.hid h7
         have B7 := Lib.hid (B6.out.trans b7 fun _ _ h => h)
         clear h7 b7
         go_wp2
         go_ret
         rw [HE.out]
         exact ⟨rfl, H7.out, B7.out⟩
       ·
        rw [if_neg h16, if_neg h21, if_neg h17] at HE0
        have HE := Lib.hid HE0
        have b16 : ((b : Int) == 16) = false := by simp; omega
        have j16 : ((b : Int) = 16) = False := eq_false (by omega)
        have d16 : decide ((b : Int) = 16) = false := decide_eq_false (by omega)
        have b21 : ((b : Int) == 21) = false := by simp; omega
        have j21 : ((b : Int) = 21) = False := eq_false (by omega)
        have d21 : decide ((b : Int) = 21) = false := decide_eq_false (by omega)
        have b17 : ((b : Int) == 17) = false := by simp; omega
        have j17 : ((b : Int) = 17) = False := eq_false (by omega)
        have d17 : decide ((b : Int) = 17) = false := decide_eq_false (by omega)
        clear HE0 h16 h21 h17
        go_enter Tryz.func99, Tryz.ntmps99
        go_wp2_with fail
        clear x1 x2
        refine (HLR.out).mono ?_
        rintro _ w1 ⟨rfl, hb1⟩
        have B1 := Lib.hid hb1
        have C1 := Lib.hid (C0.out.below hb1)
        clear hb1 HLR
        have g12 := C1.out.cell_at 12 (.int .i64 g.p) rfl
        have g13 := C1.out.cell_at 13 (.int .i64 g.b) rfl
        have g14 := C1.out.cell_at 14 (.int .i64 g.s) rfl
        have g15 := C1.out.cell_at 15 (.int .i64 g.c) rfl
        have g16 := C1.out.cell_at 16 (.int .i64 g.k) rfl
        have g17 := C1.out.cell_at 17 (.int .i64 g.r) rfl
        have g18 := C1.out.cell_at 18 (.int .i64 g.q) rfl
        go_wp2_with fail
        clear g12 g13 g14 g15 g16 g17 g18
        refine (HSP.out _).mono ?_
        rintro _ w2 ⟨rfl, hb2⟩
        have B2 := Lib.hid (below_step B1.out hb2)
        clear hb2 HSP C1
        go_wp2_with fail
        refine (HCA.out _ (HH.out.below B2.out)).mono ?_
        rintro _ w3 ⟨rfl, hb3⟩
        have B3 := Lib.hid (below_step B2.out hb3)
        clear hb3 HCA
        go_wp2_with fail
        refine (HJO.out _ (HH.out.below B3.out)).mono ?_
        rintro _ w4 ⟨rfl, hb4⟩
        have B4 := Lib.hid (below_step B3.out hb4)
        clear hb4 HJO
        go_wp2
        go_ret
        rw [HE.out]
        exact ⟨rfl, HH.out.below B4.out, Btw.of_below B4.out⟩
end
section
variable {I K : Nat → Prop} {w w' : World} {p : Nat} {g : Gm} {j : Jd} {m : Jm}
theorem japp8n (w : World) {ops : Array Oper} {rest : List Oper} {o : Oper} {a : Act} {Q : Exit → Act → World → Prop} (hgd : o.guard = none) (s x : Operand)
  (ho : o.op = .call { callee := .builtin .append, args := #[s, x], argTypes := #[26, 26] }) (base : Nat) (v : Value) (l : List Nat) (n : Nat) (hn : l.length = n) (hs : a.eval s = v) (hown : w.ownsRow base 5 1 v n (U8 l))
  (ad : Addr) (m c : Nat) (k : List Nat) (hx : a.eval x = .slice (some ad) m c) (hr : R8 w (some ad) m k) (h63 : n + m ≤ 1099511627776) (hbase : base ≤ w.heap.size)
  (h : ∀ v' w', w'.ownsRow base 5 1 v' (n + m) (U8 (l ++ k)) → w.grownBy w' v.ownBlock → (v'.ownBlock = v.ownBlock ∨ v'.ownBlock = some w.heap.size) → wpList Tryz.prog ops Q rest (a.put o.dst v') w') : wpList Tryz.prog ops Q (o :: rest) a w := by
 subst hn
 exact japp8 w hgd s x ho base v l hs hown ad m c k hx hr h63 hbase h
def Jd.push (j : Jd) (b : Nat) : Jd := { j with listed := j.listed ++ [b] }
def Jd.addr4 (g : Gm) (j : Jd) : Bool × Jd := if j.listed.length = 4 then (decide (j.addr2 0 < g.raw.toNat) && decide (j.addr2 2 < g.rows_), { j with col := j.addr2 0 }) else (true, j)
def Jd.addr (g : Gm) (j : Jd) (b : Nat) : Bool × Jd :=
 if j.lists b = false then (false, j)
 else if j.op = 3 then (true, ({ j.push b with data := true, col := 0 } : Jd).start)
 else if j.op = 5 then ({ j.push b with data := false } : Jd).addr4 g
 else if j.op = 8 then (j.push b).addr4 g
 else if j.op = 7 then (decide ((j.push b).listed.length < 2) || decide ((j.push b).addr2 0 < g.raw.toNat), j.push b)
 else if j.op = 9 then (decide ((j.push b).listed.length < 2) || decide ((j.push b).addr2 0 < g.rows_), j.push b)
 else (true, j.push b)
theorem lists_what {b : Nat} (h : j.lists b = true) : ((j.op = 2 ∨ j.op = 3 ∨ j.op = 4) ∧ j.listed.length = 0) ∨ ((j.op = 5 ∨ j.op = 8) ∧ j.listed.length < 4) ∨ ((j.op = 7 ∨ j.op = 9) ∧ j.listed.length < 2) := by
 unfold Jd.lists at h
 split at h
 ·
  rw [Bool.and_eq_true] at h
  exact .inl ⟨by omega, of_decide_eq_true h.2⟩
 ·
  split at h
  ·
   rw [Bool.and_eq_true] at h
   exact .inl ⟨by omega, of_decide_eq_true h.2⟩
  ·
   split at h
   ·
    exact .inr (.inl ⟨by omega, of_decide_eq_true h⟩)
   ·
    split at h
    ·
     exact .inr (.inr ⟨by omega, of_decide_eq_true h⟩)
    ·
     cases h
set_option maxHeartbeats 1000000 in
theorem jaddr_2_0 (b : Nat) (hb : b < 256) (hli : j.lists b = true) (ht : j.op = 2) (hn : j.listed.length = 0) (h : JH I w p g j) : Calls Tryz.prog 87 #[.pointer (some ⟨p, 0, none⟩), .int .u8 (b : Int)] w (ActsJ I p g (.bool (j.addr g b).1) (j.addr g b).2 w) := by
 have HH := Lib.hid h
 have HLI := jlists b hb (by omega) (by omega) h
 rw [hli] at HLI
 have HLI := Lib.hid HLI
 have HT := Lib.hid ht
 have HNL := Lib.hid hn
 have BB := Lib.hid hb
 have hpl : (j.push b).listed.length = 1 := by show (j.listed ++ [b]).length = 1; rw [List.length_append, hn]; rfl
 have HE := Lib.hid (show j.addr g b = (true, j.push b) by
  unfold Jd.addr
  rw [if_neg (by rw [hli]; decide), ht]
  first
   | rfl
   | (simp only [hpl]; rfl)
   | (show ({ j.push b with data := false } : Jd).addr4 g = _; unfold Jd.addr4; rw [show ({ j.push b with data := false } : Jd).listed.length = 1 from hpl]; rfl)
   | (show (j.push b).addr4 g = _; unfold Jd.addr4; rw [hpl]; rfl)
   | (show (decide ((j.push b).listed.length < 2) || _, j.push b) = _; rw [hpl]; rfl))
 clear h hb hli ht hn hpl
 ·
  skip
  go_enter Tryz.func87, Tryz.ntmps87
  go_wp2_with fail
  refine HLI.out.mono ?_
  rintro _ w1 ⟨rfl, h1⟩
  obtain ⟨m, hc, hr⟩ := HH.out.below h1
  have B1 := Lib.hid h1
  have C1 := Lib.hid hc
  have R1 := Lib.hid hr
  have NP := Lib.hid (hr.apart_p hc).2.1
  have y1 : w1.cell? ⟨p, 1, none⟩ = some (.slice m.aL 0 m.cL) := by
   have h0 := hc.cell_at 1 (.slice m.aL j.listed.length m.cL) rfl
   rw [HNL.out] at h0
   exact h0
  have OL := Lib.hid (show w1.ownsRow 0 5 1 (.slice m.aL 0 m.cL) 0 (U8 j.listed) by
   have h0 := hr.lis
   rw [HNL.out] at h0
   exact h0)
  clear h1 hc hr HLI
  go_wp2_with (at_builtin; refine japp8n (w1.alloc (.cells #[.int .u8 (b : Int)] 5)) rfl (.tmp 14) (.tmp 16) rfl 0 _ j.listed 0 HNL.out rfl (OL.out.alloc _) ⟨w1.heap.size, 0, none⟩ 1 1 [b] rfl (jr8_one w1 b BB.out _) (by omega) (Nat.zero_le _) ?_)
  intro v3 w3 hown hg hwh
  obtain ⟨A3, c3, rfl⟩ := jown_form hown
  have hP := Jr.pushL (I := I) (o := .cells #[.int .u8 (b : Int)] 5) (A3 := A3) (c3 := c3) b BB.out C1.out R1.out (by rw [HNL.out]; exact hown) (by rw [HNL.out]; exact hg) (by rw [HNL.out]; simpa using hwh)
  have C3 := Lib.hid hP.1
  have R3 := Lib.hid hP.2.1
  have B3 := Lib.hid ((Btw.of_below (I := I) B1.out).trans hP.2.2 fun _ _ h => h)
  clear hown hg hwh hP y1
  have x1 := C3.out.cell_at 1 (.slice m.aL j.listed.length m.cL) rfl
  have f1 := C3.out.frozen 1
  have S1 := Lib.hid (C3.out.setCell 1 (.slice A3 1 c3))
  have K1 := Lib.hid (((Btw.refl w3)).setCell (I := fun k => k = p) (p := ⟨p, 1, none⟩) (v := .slice A3 1 c3) rfl)
  have z0 : w3.cell? ⟨p, 0, none⟩ = some (.int .i64 2) := by
   have h0 := C3.out.cell_at 0 (.int .i64 (j.op : Int)) rfl
   rw [HT.out] at h0
   exact h0
  have HJ := JH.of (j' := { j with listed := j.listed ++ [b] }) (m' := { m with aL := A3, cL := c3 }) C3.out R3.out (by
   have h0 := S1.out
   have e : (j.listed ++ [b]).length = 1 := by rw [List.length_append, HNL.out]; rfl
   show CRow _ p 131 (jCells g { j with listed := j.listed ++ [b] } { m with aL := A3, cL := c3 })
   unfold jCells at h0 ⊢
   rw [show ({ j with listed := j.listed ++ [b] } : Jd).listed.length = 1 from e]
   exact h0) K1.out fun W h => { h with }
  have H5 := Lib.hid HJ.1
  have B5 := Lib.hid (B3.out.trans HJ.2 fun _ _ h => h)
  clear HJ
  go_wp2
  go_ret
  rw [HE.out]
  exact ⟨rfl, H5.out, B5.out⟩
set_option maxHeartbeats 1000000 in
theorem jaddr_3_0 (b : Nat) (hb : b < 256) (hli : j.lists b = true) (ht : j.op = 3) (hn : j.listed.length = 0) (h : JH I w p g j) : Calls Tryz.prog 87 #[.pointer (some ⟨p, 0, none⟩), .int .u8 (b : Int)] w (ActsJ I p g (.bool (j.addr g b).1) (j.addr g b).2 w) := by
 have HH := Lib.hid h
 have HLI := jlists b hb (by omega) (by omega) h
 rw [hli] at HLI
 have HLI := Lib.hid HLI
 have HT := Lib.hid ht
 have HNL := Lib.hid hn
 have BB := Lib.hid hb
 have hpl : (j.push b).listed.length = 1 := by show (j.listed ++ [b]).length = 1; rw [List.length_append, hn]; rfl
 have HE := Lib.hid (show j.addr g b = (true, ({ j.push b with data := true, col := 0 } : Jd).start) by
  unfold Jd.addr
  rw [if_neg (by rw [hli]; decide), ht]
  first
   | rfl
   | (simp only [hpl]; rfl)
   | (show ({ j.push b with data := false } : Jd).addr4 g = _; unfold Jd.addr4; rw [show ({ j.push b with data := false } : Jd).listed.length = 1 from hpl]; rfl)
   | (show (j.push b).addr4 g = _; unfold Jd.addr4; rw [hpl]; rfl)
   | (show (decide ((j.push b).listed.length < 2) || _, j.push b) = _; rw [hpl]; rfl))
 clear h hb hli ht hn hpl
 ·
  skip
  go_enter Tryz.func87, Tryz.ntmps87
  go_wp2_with fail
  refine HLI.out.mono ?_
  rintro _ w1 ⟨rfl, h1⟩
  obtain ⟨m, hc, hr⟩ := HH.out.below h1
  have B1 := Lib.hid h1
  have C1 := Lib.hid hc
  have R1 := Lib.hid hr
  have NP := Lib.hid (hr.apart_p hc).2.1
  have y1 : w1.cell? ⟨p, 1, none⟩ = some (.slice m.aL 0 m.cL) := by
   have h0 := hc.cell_at 1 (.slice m.aL j.listed.length m.cL) rfl
   rw [HNL.out] at h0
   exact h0
  have OL := Lib.hid (show w1.ownsRow 0 5 1 (.slice m.aL 0 m.cL) 0 (U8 j.listed) by
   have h0 := hr.lis
   rw [HNL.out] at h0
   exact h0)
  clear h1 hc hr HLI
  go_wp2_with (at_builtin; refine japp8n (w1.alloc (.cells #[.int .u8 (b : Int)] 5)) rfl (.tmp 14) (.tmp 16) rfl 0 _ j.listed 0 HNL.out rfl (OL.out.alloc _) ⟨w1.heap.size, 0, none⟩ 1 1 [b] rfl (jr8_one w1 b BB.out _) (by omega) (Nat.zero_le _) ?_)
  intro v3 w3 hown hg hwh
  obtain ⟨A3, c3, rfl⟩ := jown_form hown
  have hP := Jr.pushL (I := I) (o := .cells #[.int .u8 (b : Int)] 5) (A3 := A3) (c3 := c3) b BB.out C1.out R1.out (by rw [HNL.out]; exact hown) (by rw [HNL.out]; exact hg) (by rw [HNL.out]; simpa using hwh)
  have C3 := Lib.hid hP.1
  have R3 := Lib.hid hP.2.1
  have B3 := Lib.hid ((Btw.of_below (I := I) B1.out).trans hP.2.2 fun _ _ h => h)
  clear hown hg hwh hP y1
  have x1 := C3.out.cell_at 1 (.slice m.aL j.listed.length m.cL) rfl
  have f1 := C3.out.frozen 1
  have S1 := Lib.hid (C3.out.setCell 1 (.slice A3 1 c3))
  have K1 := Lib.hid (((Btw.refl w3)).setCell (I := fun k => k = p) (p := ⟨p, 1, none⟩) (v := .slice A3 1 c3) rfl)
  have x7 := S1.out.cell_at 7 (.bool j.data) rfl
  have f7 := S1.out.frozen 7
  have S2 := Lib.hid (S1.out.setCell 7 (.bool true))
  have K2 := Lib.hid ((K1.out).setCell (I := fun k => k = p) (p := ⟨p, 7, none⟩) (v := .bool true) rfl)
  have x8 := S2.out.cell_at 8 (.int .i64 (j.col : Int)) rfl
  have f8 := S2.out.frozen 8
  have S3 := Lib.hid (S2.out.setCell 8 (.int .i64 0))
  have K3 := Lib.hid ((K2.out).setCell (I := fun k => k = p) (p := ⟨p, 8, none⟩) (v := .int .i64 0) rfl)
  have z0 : w3.cell? ⟨p, 0, none⟩ = some (.int .i64 3) := by
   have h0 := C3.out.cell_at 0 (.int .i64 (j.op : Int)) rfl
   rw [HT.out] at h0
   exact h0
  have HJ := JH.of (j' := { j with listed := j.listed ++ [b], data := true, col := 0 }) (m' := { m with aL := A3, cL := c3 }) C3.out R3.out (by
   have h0 := S3.out
   have e : (j.listed ++ [b]).length = 1 := by rw [List.length_append, HNL.out]; rfl
   show CRow _ p 131 (jCells g { j with listed := j.listed ++ [b], data := true, col := 0 } { m with aL := A3, cL := c3 })
   unfold jCells at h0 ⊢
   rw [show ({ j with listed := j.listed ++ [b], data := true, col := 0 } : Jd).listed.length = 1 from e]
   exact h0) K3.out fun W h => { h with }
  have H5 := Lib.hid HJ.1
  have B5 := Lib.hid (B3.out.trans HJ.2 fun _ _ h => h)
  clear HJ
  go_wp2_with fail
  refine (jstart H5.out).mono ?_
  rintro _ w6 ⟨rfl, h6, b6⟩
  have H6 := Lib.hid h6
  have B6 := Lib.hid (B5.out.trans b6 fun _ _ h => h)
  clear h6 b6
  go_wp2
  go_ret
  rw [HE.out]
  exact ⟨rfl, H6.out, B6.out⟩
set_option maxHeartbeats 1000000 in
theorem jaddr_4_0 (b : Nat) (hb : b < 256) (hli : j.lists b = true) (ht : j.op = 4) (hn : j.listed.length = 0) (h : JH I w p g j) : Calls Tryz.prog 87 #[.pointer (some ⟨p, 0, none⟩), .int .u8 (b : Int)] w (ActsJ I p g (.bool (j.addr g b).1) (j.addr g b).2 w) := by
 have HH := Lib.hid h
 have HLI := jlists b hb (by omega) (by omega) h
 rw [hli] at HLI
 have HLI := Lib.hid HLI
 have HT := Lib.hid ht
 have HNL := Lib.hid hn
 have BB := Lib.hid hb
 have hpl : (j.push b).listed.length = 1 := by show (j.listed ++ [b]).length = 1; rw [List.length_append, hn]; rfl
 have HE := Lib.hid (show j.addr g b = (true, j.push b) by
  unfold Jd.addr
  rw [if_neg (by rw [hli]; decide), ht]
  first
   | rfl
   | (simp only [hpl]; rfl)
   | (show ({ j.push b with data := false } : Jd).addr4 g = _; unfold Jd.addr4; rw [show ({ j.push b with data := false } : Jd).listed.length = 1 from hpl]; rfl)
   | (show (j.push b).addr4 g = _; unfold Jd.addr4; rw [hpl]; rfl)
   | (show (decide ((j.push b).listed.length < 2) || _, j.push b) = _; rw [hpl]; rfl))
 clear h hb hli ht hn hpl
 ·
  skip
  go_enter Tryz.func87, Tryz.ntmps87
  go_wp2_with fail
  refine HLI.out.mono ?_
  rintro _ w1 ⟨rfl, h1⟩
  obtain ⟨m, hc, hr⟩ := HH.out.below h1
  have B1 := Lib.hid h1
  have C1 := Lib.hid hc
  have R1 := Lib.hid hr
  have NP := Lib.hid (hr.apart_p hc).2.1
  have y1 : w1.cell? ⟨p, 1, none⟩ = some (.slice m.aL 0 m.cL) := by
   have h0 := hc.cell_at 1 (.slice m.aL j.listed.length m.cL) rfl
   rw [HNL.out] at h0
   exact h0
  have OL := Lib.hid (show w1.ownsRow 0 5 1 (.slice m.aL 0 m.cL) 0 (U8 j.listed) by
   have h0 := hr.lis
   rw [HNL.out] at h0
   exact h0)
  clear h1 hc hr HLI
  go_wp2_with (at_builtin; refine japp8n (w1.alloc (.cells #[.int .u8 (b : Int)] 5)) rfl (.tmp 14) (.tmp 16) rfl 0 _ j.listed 0 HNL.out rfl (OL.out.alloc _) ⟨w1.heap.size, 0, none⟩ 1 1 [b] rfl (jr8_one w1 b BB.out _) (by omega) (Nat.zero_le _) ?_)
  intro v3 w3 hown hg hwh
  obtain ⟨A3, c3, rfl⟩ := jown_form hown
  have hP := Jr.pushL (I := I) (o := .cells #[.int .u8 (b : Int)] 5) (A3 := A3) (c3 := c3) b BB.out C1.out R1.out (by rw [HNL.out]; exact hown) (by rw [HNL.out]; exact hg) (by rw [HNL.out]; simpa using hwh)
  have C3 := Lib.hid hP.1
  have R3 := Lib.hid hP.2.1
  have B3 := Lib.hid ((Btw.of_below (I := I) B1.out).trans hP.2.2 fun _ _ h => h)
  clear hown hg hwh hP y1
  have x1 := C3.out.cell_at 1 (.slice m.aL j.listed.length m.cL) rfl
  have f1 := C3.out.frozen 1
  have S1 := Lib.hid (C3.out.setCell 1 (.slice A3 1 c3))
  have K1 := Lib.hid (((Btw.refl w3)).setCell (I := fun k => k = p) (p := ⟨p, 1, none⟩) (v := .slice A3 1 c3) rfl)
  have z0 : w3.cell? ⟨p, 0, none⟩ = some (.int .i64 4) := by
   have h0 := C3.out.cell_at 0 (.int .i64 (j.op : Int)) rfl
   rw [HT.out] at h0
   exact h0
  have HJ := JH.of (j' := { j with listed := j.listed ++ [b] }) (m' := { m with aL := A3, cL := c3 }) C3.out R3.out (by
   have h0 := S1.out
   have e : (j.listed ++ [b]).length = 1 := by rw [List.length_append, HNL.out]; rfl
   show CRow _ p 131 (jCells g { j with listed := j.listed ++ [b] } { m with aL := A3, cL := c3 })
   unfold jCells at h0 ⊢
   rw [show ({ j with listed := j.listed ++ [b] } : Jd).listed.length = 1 from e]
   exact h0) K1.out fun W h => { h with }
  have H5 := Lib.hid HJ.1
  have B5 := Lib.hid (B3.out.trans HJ.2 fun _ _ h => h)
  clear HJ
  go_wp2
  go_ret
  rw [HE.out]
  exact ⟨rfl, H5.out, B5.out⟩
set_option maxHeartbeats 1000000 in
theorem jaddr_5_0 (b : Nat) (hb : b < 256) (hli : j.lists b = true) (ht : j.op = 5) (hn : j.listed.length = 0) (h : JH I w p g j) : Calls Tryz.prog 87 #[.pointer (some ⟨p, 0, none⟩), .int .u8 (b : Int)] w (ActsJ I p g (.bool (j.addr g b).1) (j.addr g b).2 w) := by
 have HH := Lib.hid h
 have HLI := jlists b hb (by omega) (by omega) h
 rw [hli] at HLI
 have HLI := Lib.hid HLI
 have HT := Lib.hid ht
 have HNL := Lib.hid hn
 have BB := Lib.hid hb
 have hpl : (j.push b).listed.length = 1 := by show (j.listed ++ [b]).length = 1; rw [List.length_append, hn]; rfl
 have HE := Lib.hid (show j.addr g b = (true, { j.push b with data := false }) by
  unfold Jd.addr
  rw [if_neg (by rw [hli]; decide), ht]
  first
   | rfl
   | (simp only [hpl]; rfl)
   | (show ({ j.push b with data := false } : Jd).addr4 g = _; unfold Jd.addr4; rw [show ({ j.push b with data := false } : Jd).listed.length = 1 from hpl]; rfl)
   | (show (j.push b).addr4 g = _; unfold Jd.addr4; rw [hpl]; rfl)
   | (show (decide ((j.push b).listed.length < 2) || _, j.push b) = _; rw [hpl]; rfl))
 clear h hb hli ht hn hpl
 ·
  skip
  go_enter Tryz.func87, Tryz.ntmps87
  go_wp2_with fail
  refine HLI.out.mono ?_
  rintro _ w1 ⟨rfl, h1⟩
  obtain ⟨m, hc, hr⟩ := HH.out.below h1
  have B1 := Lib.hid h1
  have C1 := Lib.hid hc
  have R1 := Lib.hid hr
  have NP := Lib.hid (hr.apart_p hc).2.1
  have y1 : w1.cell? ⟨p, 1, none⟩ = some (.slice m.aL 0 m.cL) := by
   have h0 := hc.cell_at 1 (.slice m.aL j.listed.length m.cL) rfl
   rw [HNL.out] at h0
   exact h0
  have OL := Lib.hid (show w1.ownsRow 0 5 1 (.slice m.aL 0 m.cL) 0 (U8 j.listed) by
   have h0 := hr.lis
   rw [HNL.out] at h0
   exact h0)
  clear h1 hc hr HLI
  go_wp2_with (at_builtin; refine japp8n (w1.alloc (.cells #[.int .u8 (b : Int)] 5)) rfl (.tmp 14) (.tmp 16) rfl 0 _ j.listed 0 HNL.out rfl (OL.out.alloc _) ⟨w1.heap.size, 0, none⟩ 1 1 [b] rfl (jr8_one w1 b BB.out _) (by omega) (Nat.zero_le _) ?_)
  intro v3 w3 hown hg hwh
  obtain ⟨A3, c3, rfl⟩ := jown_form hown
  have hP := Jr.pushL (I := I) (o := .cells #[.int .u8 (b : Int)] 5) (A3 := A3) (c3 := c3) b BB.out C1.out R1.out (by rw [HNL.out]; exact hown) (by rw [HNL.out]; exact hg) (by rw [HNL.out]; simpa using hwh)
  have C3 := Lib.hid hP.1
  have R3 := Lib.hid hP.2.1
  have B3 := Lib.hid ((Btw.of_below (I := I) B1.out).trans hP.2.2 fun _ _ h => h)
  clear hown hg hwh hP y1
  have x1 := C3.out.cell_at 1 (.slice m.aL j.listed.length m.cL) rfl
  have f1 := C3.out.frozen 1
  have S1 := Lib.hid (C3.out.setCell 1 (.slice A3 1 c3))
  have K1 := Lib.hid (((Btw.refl w3)).setCell (I := fun k => k = p) (p := ⟨p, 1, none⟩) (v := .slice A3 1 c3) rfl)
  have x7 := S1.out.cell_at 7 (.bool j.data) rfl
  have f7 := S1.out.frozen 7
  have S2 := Lib.hid (S1.out.setCell 7 (.bool false))
  have K2 := Lib.hid ((K1.out).setCell (I := fun k => k = p) (p := ⟨p, 7, none⟩) (v := .bool false) rfl)
  have z0 : w3.cell? ⟨p, 0, none⟩ = some (.int .i64 5) := by
   have h0 := C3.out.cell_at 0 (.int .i64 (j.op : Int)) rfl
   rw [HT.out] at h0
   exact h0
  have HJ := JH.of (j' := { j with listed := j.listed ++ [b], data := false }) (m' := { m with aL := A3, cL := c3 }) C3.out R3.out (by
   have h0 := S2.out
   have e : (j.listed ++ [b]).length = 1 := by rw [List.length_append, HNL.out]; rfl
   show CRow _ p 131 (jCells g { j with listed := j.listed ++ [b], data := false } { m with aL := A3, cL := c3 })
   unfold jCells at h0 ⊢
   rw [show ({ j with listed := j.listed ++ [b], data := false } : Jd).listed.length = 1 from e]
   exact h0) K2.out fun W h => { h with }
  have H5 := Lib.hid HJ.1
  have B5 := Lib.hid (B3.out.trans HJ.2 fun _ _ h => h)
  clear HJ
  go_wp2
  go_ret
  rw [HE.out]
  exact ⟨rfl, H5.out, B5.out⟩
set_option maxHeartbeats 1000000 in
theorem jaddr_5_1 (b : Nat) (hb : b < 256) (hli : j.lists b = true) (ht : j.op = 5) (hn : j.listed.length = 1) (h : JH I w p g j) : Calls Tryz.prog 87 #[.pointer (some ⟨p, 0, none⟩), .int .u8 (b : Int)] w (ActsJ I p g (.bool (j.addr g b).1) (j.addr g b).2 w) := by
 have HH := Lib.hid h
 have HLI := jlists b hb (by omega) (by omega) h
 rw [hli] at HLI
 have HLI := Lib.hid HLI
 have HT := Lib.hid ht
 have HNL := Lib.hid hn
 have BB := Lib.hid hb
 have hpl : (j.push b).listed.length = 2 := by show (j.listed ++ [b]).length = 2; rw [List.length_append, hn]; rfl
 have HE := Lib.hid (show j.addr g b = (true, { j.push b with data := false }) by
  unfold Jd.addr
  rw [if_neg (by rw [hli]; decide), ht]
  first
   | rfl
   | (simp only [hpl]; rfl)
   | (show ({ j.push b with data := false } : Jd).addr4 g = _; unfold Jd.addr4; rw [show ({ j.push b with data := false } : Jd).listed.length = 2 from hpl]; rfl)
   | (show (j.push b).addr4 g = _; unfold Jd.addr4; rw [hpl]; rfl)
   | (show (decide ((j.push b).listed.length < 2) || _, j.push b) = _; rw [hpl]; rfl))
 clear h hb hli ht hn hpl
 ·
  skip
  go_enter Tryz.func87, Tryz.ntmps87
  go_wp2_with fail
  refine HLI.out.mono ?_
  rintro _ w1 ⟨rfl, h1⟩
  obtain ⟨m, hc, hr⟩ := HH.out.below h1
  have B1 := Lib.hid h1
  have C1 := Lib.hid hc
  have R1 := Lib.hid hr
  have NP := Lib.hid (hr.apart_p hc).2.1
  have y1 : w1.cell? ⟨p, 1, none⟩ = some (.slice m.aL 1 m.cL) := by
   have h0 := hc.cell_at 1 (.slice m.aL j.listed.length m.cL) rfl
   rw [HNL.out] at h0
   exact h0
  have OL := Lib.hid (show w1.ownsRow 0 5 1 (.slice m.aL 1 m.cL) 1 (U8 j.listed) by
   have h0 := hr.lis
   rw [HNL.out] at h0
   exact h0)
  clear h1 hc hr HLI
  go_wp2_with (at_builtin; refine japp8n (w1.alloc (.cells #[.int .u8 (b : Int)] 5)) rfl (.tmp 14) (.tmp 16) rfl 0 _ j.listed 1 HNL.out rfl (OL.out.alloc _) ⟨w1.heap.size, 0, none⟩ 1 1 [b] rfl (jr8_one w1 b BB.out _) (by omega) (Nat.zero_le _) ?_)
  intro v3 w3 hown hg hwh
  obtain ⟨A3, c3, rfl⟩ := jown_form hown
  have hP := Jr.pushL (I := I) (o := .cells #[.int .u8 (b : Int)] 5) (A3 := A3) (c3 := c3) b BB.out C1.out R1.out (by rw [HNL.out]; exact hown) (by rw [HNL.out]; exact hg) (by rw [HNL.out]; simpa using hwh)
  have C3 := Lib.hid hP.1
  have R3 := Lib.hid hP.2.1
  have B3 := Lib.hid ((Btw.of_below (I := I) B1.out).trans hP.2.2 fun _ _ h => h)
  clear hown hg hwh hP y1
  have x1 := C3.out.cell_at 1 (.slice m.aL j.listed.length m.cL) rfl
  have f1 := C3.out.frozen 1
  have S1 := Lib.hid (C3.out.setCell 1 (.slice A3 2 c3))
  have K1 := Lib.hid (((Btw.refl w3)).setCell (I := fun k => k = p) (p := ⟨p, 1, none⟩) (v := .slice A3 2 c3) rfl)
  have x7 := S1.out.cell_at 7 (.bool j.data) rfl
  have f7 := S1.out.frozen 7
  have S2 := Lib.hid (S1.out.setCell 7 (.bool false))
  have K2 := Lib.hid ((K1.out).setCell (I := fun k => k = p) (p := ⟨p, 7, none⟩) (v := .bool false) rfl)
  have z0 : w3.cell? ⟨p, 0, none⟩ = some (.int .i64 5) := by
   have h0 := C3.out.cell_at 0 (.int .i64 (j.op : Int)) rfl
   rw [HT.out] at h0
   exact h0
  have HJ := JH.of (j' := { j with listed := j.listed ++ [b], data := false }) (m' := { m with aL := A3, cL := c3 }) C3.out R3.out (by
   have h0 := S2.out
   have e : (j.listed ++ [b]).length = 2 := by rw [List.length_append, HNL.out]; rfl
   show CRow _ p 131 (jCells g { j with listed := j.listed ++ [b], data := false } { m with aL := A3, cL := c3 })
   unfold jCells at h0 ⊢
   rw [show ({ j with listed := j.listed ++ [b], data := false } : Jd).listed.length = 2 from e]
   exact h0) K2.out fun W h => { h with }
  have H5 := Lib.hid HJ.1
  have B5 := Lib.hid (B3.out.trans HJ.2 fun _ _ h => h)
  clear HJ
  go_wp2
  go_ret
  rw [HE.out]
  exact ⟨rfl, H5.out, B5.out⟩
set_option maxHeartbeats 1000000 in
theorem jaddr_5_2 (b : Nat) (hb : b < 256) (hli : j.lists b = true) (ht : j.op = 5) (hn : j.listed.length = 2) (h : JH I w p g j) : Calls Tryz.prog 87 #[.pointer (some ⟨p, 0, none⟩), .int .u8 (b : Int)] w (ActsJ I p g (.bool (j.addr g b).1) (j.addr g b).2 w) := by
 have HH := Lib.hid h
 have HLI := jlists b hb (by omega) (by omega) h
 rw [hli] at HLI
 have HLI := Lib.hid HLI
 have HT := Lib.hid ht
 have HNL := Lib.hid hn
 have BB := Lib.hid hb
 have hpl : (j.push b).listed.length = 3 := by show (j.listed ++ [b]).length = 3; rw [List.length_append, hn]; rfl
 have HE := Lib.hid (show j.addr g b = (true, { j.push b with data := false }) by
  unfold Jd.addr
  rw [if_neg (by rw [hli]; decide), ht]
  first
   | rfl
   | (simp only [hpl]; rfl)
   | (show ({ j.push b with data := false } : Jd).addr4 g = _; unfold Jd.addr4; rw [show ({ j.push b with data := false } : Jd).listed.length = 3 from hpl]; rfl)
   | (show (j.push b).addr4 g = _; unfold Jd.addr4; rw [hpl]; rfl)
   | (show (decide ((j.push b).listed.length < 2) || _, j.push b) = _; rw [hpl]; rfl))
 clear h hb hli ht hn hpl
 ·
  skip
  go_enter Tryz.func87, Tryz.ntmps87
  go_wp2_with fail
  refine HLI.out.mono ?_
  rintro _ w1 ⟨rfl, h1⟩
  obtain ⟨m, hc, hr⟩ := HH.out.below h1
  have B1 := Lib.hid h1
  have C1 := Lib.hid hc
  have R1 := Lib.hid hr
  have NP := Lib.hid (hr.apart_p hc).2.1
  have y1 : w1.cell? ⟨p, 1, none⟩ = some (.slice m.aL 2 m.cL) := by
   have h0 := hc.cell_at 1 (.slice m.aL j.listed.length m.cL) rfl
   rw [HNL.out] at h0
   exact h0
  have OL := Lib.hid (show w1.ownsRow 0 5 1 (.slice m.aL 2 m.cL) 2 (U8 j.listed) by
   have h0 := hr.lis
   rw [HNL.out] at h0
   exact h0)
  clear h1 hc hr HLI
  go_wp2_with (at_builtin; refine japp8n (w1.alloc (.cells #[.int .u8 (b : Int)] 5)) rfl (.tmp 14) (.tmp 16) rfl 0 _ j.listed 2 HNL.out rfl (OL.out.alloc _) ⟨w1.heap.size, 0, none⟩ 1 1 [b] rfl (jr8_one w1 b BB.out _) (by omega) (Nat.zero_le _) ?_)
  intro v3 w3 hown hg hwh
  obtain ⟨A3, c3, rfl⟩ := jown_form hown
  have hP := Jr.pushL (I := I) (o := .cells #[.int .u8 (b : Int)] 5) (A3 := A3) (c3 := c3) b BB.out C1.out R1.out (by rw [HNL.out]; exact hown) (by rw [HNL.out]; exact hg) (by rw [HNL.out]; simpa using hwh)
  have C3 := Lib.hid hP.1
  have R3 := Lib.hid hP.2.1
  have B3 := Lib.hid ((Btw.of_below (I := I) B1.out).trans hP.2.2 fun _ _ h => h)
  clear hown hg hwh hP y1
  have x1 := C3.out.cell_at 1 (.slice m.aL j.listed.length m.cL) rfl
  have f1 := C3.out.frozen 1
  have S1 := Lib.hid (C3.out.setCell 1 (.slice A3 3 c3))
  have K1 := Lib.hid (((Btw.refl w3)).setCell (I := fun k => k = p) (p := ⟨p, 1, none⟩) (v := .slice A3 3 c3) rfl)
  have x7 := S1.out.cell_at 7 (.bool j.data) rfl
  have f7 := S1.out.frozen 7
  have S2 := Lib.hid (S1.out.setCell 7 (.bool false))
  have K2 := Lib.hid ((K1.out).setCell (I := fun k => k = p) (p := ⟨p, 7, none⟩) (v := .bool false) rfl)
  have z0 : w3.cell? ⟨p, 0, none⟩ = some (.int .i64 5) := by
   have h0 := C3.out.cell_at 0 (.int .i64 (j.op : Int)) rfl
   rw [HT.out] at h0
   exact h0
  have HJ := JH.of (j' := { j with listed := j.listed ++ [b], data := false }) (m' := { m with aL := A3, cL := c3 }) C3.out R3.out (by
   have h0 := S2.out
   have e : (j.listed ++ [b]).length = 3 := by rw [List.length_append, HNL.out]; rfl
   show CRow _ p 131 (jCells g { j with listed := j.listed ++ [b], data := false } { m with aL := A3, cL := c3 })
   unfold jCells at h0 ⊢
   rw [show ({ j with listed := j.listed ++ [b], data := false } : Jd).listed.length = 3 from e]
   exact h0) K2.out fun W h => { h with }
  have H5 := Lib.hid HJ.1
  have B5 := Lib.hid (B3.out.trans HJ.2 fun _ _ h => h)
  clear HJ
  go_wp2
  go_ret
  rw [HE.out]
  exact ⟨rfl, H5.out, B5.out⟩
set_option maxHeartbeats 1000000 in
theorem jaddr_5_3 (b : Nat) (hb : b < 256) (hli : j.lists b = true) (ht : j.op = 5) (hn : j.listed.length = 3) (h : JH I w p g j) : Calls Tryz.prog 87 #[.pointer (some ⟨p, 0, none⟩), .int .u8 (b : Int)] w (ActsJ I p g (.bool (j.addr g b).1) (j.addr g b).2 w) := by
 have HH := Lib.hid h
 have HLI := jlists b hb (by omega) (by omega) h
 rw [hli] at HLI
 have HLI := Lib.hid HLI
 have HT := Lib.hid ht
 have HNL := Lib.hid hn
 have BB := Lib.hid hb
 have hpl : (j.push b).listed.length = 4 := by show (j.listed ++ [b]).length = 4; rw [List.length_append, hn]; rfl
 have HE := Lib.hid (show j.addr g b = (decide ((j.push b).addr2 0 < g.raw.toNat) && decide ((j.push b).addr2 2 < g.rows_), { j.push b with data := false, col := (j.push b).addr2 0 }) by
  unfold Jd.addr
  rw [if_neg (by rw [hli]; decide), ht]
  first
   | rfl
   | (simp only [hpl]; rfl)
   | (show ({ j.push b with data := false } : Jd).addr4 g = _; unfold Jd.addr4; rw [show ({ j.push b with data := false } : Jd).listed.length = 4 from hpl]; rfl)
   | (show (j.push b).addr4 g = _; unfold Jd.addr4; rw [hpl]; rfl)
   | (show (decide ((j.push b).listed.length < 2) || _, j.push b) = _; rw [hpl]; rfl))
 clear h hb hli ht hn hpl
 ·
  skip
  go_enter Tryz.func87, Tryz.ntmps87
  go_wp2_with fail
  refine HLI.out.mono ?_
  rintro _ w1 ⟨rfl, h1⟩
  obtain ⟨m, hc, hr⟩ := HH.out.below h1
  have B1 := Lib.hid h1
  have C1 := Lib.hid hc
  have R1 := Lib.hid hr
  have NP := Lib.hid (hr.apart_p hc).2.1
  have y1 : w1.cell? ⟨p, 1, none⟩ = some (.slice m.aL 3 m.cL) := by
   have h0 := hc.cell_at 1 (.slice m.aL j.listed.length m.cL) rfl
   rw [HNL.out] at h0
   exact h0
  have OL := Lib.hid (show w1.ownsRow 0 5 1 (.slice m.aL 3 m.cL) 3 (U8 j.listed) by
   have h0 := hr.lis
   rw [HNL.out] at h0
   exact h0)
  clear h1 hc hr HLI
  go_wp2_with (at_builtin; refine japp8n (w1.alloc (.cells #[.int .u8 (b : Int)] 5)) rfl (.tmp 14) (.tmp 16) rfl 0 _ j.listed 3 HNL.out rfl (OL.out.alloc _) ⟨w1.heap.size, 0, none⟩ 1 1 [b] rfl (jr8_one w1 b BB.out _) (by omega) (Nat.zero_le _) ?_)
  intro v3 w3 hown hg hwh
  obtain ⟨A3, c3, rfl⟩ := jown_form hown
  have hP := Jr.pushL (I := I) (o := .cells #[.int .u8 (b : Int)] 5) (A3 := A3) (c3 := c3) b BB.out C1.out R1.out (by rw [HNL.out]; exact hown) (by rw [HNL.out]; exact hg) (by rw [HNL.out]; simpa using hwh)
  have C3 := Lib.hid hP.1
  have R3 := Lib.hid hP.2.1
  have B3 := Lib.hid ((Btw.of_below (I := I) B1.out).trans hP.2.2 fun _ _ h => h)
  clear hown hg hwh hP y1
  have x1 := C3.out.cell_at 1 (.slice m.aL j.listed.length m.cL) rfl
  have f1 := C3.out.frozen 1
  have S1 := Lib.hid (C3.out.setCell 1 (.slice A3 4 c3))
  have K1 := Lib.hid (((Btw.refl w3)).setCell (I := fun k => k = p) (p := ⟨p, 1, none⟩) (v := .slice A3 4 c3) rfl)
  have x7 := S1.out.cell_at 7 (.bool j.data) rfl
  have f7 := S1.out.frozen 7
  have S2 := Lib.hid (S1.out.setCell 7 (.bool false))
  have K2 := Lib.hid ((K1.out).setCell (I := fun k => k = p) (p := ⟨p, 7, none⟩) (v := .bool false) rfl)
  have z0 : w3.cell? ⟨p, 0, none⟩ = some (.int .i64 5) := by
   have h0 := C3.out.cell_at 0 (.int .i64 (j.op : Int)) rfl
   rw [HT.out] at h0
   exact h0
  have HJ := JH.of (j' := { j with listed := j.listed ++ [b], data := false }) (m' := { m with aL := A3, cL := c3 }) C3.out R3.out (by
   have h0 := S2.out
   have e : (j.listed ++ [b]).length = 4 := by rw [List.length_append, HNL.out]; rfl
   show CRow _ p 131 (jCells g { j with listed := j.listed ++ [b], data := false } { m with aL := A3, cL := c3 })
   unfold jCells at h0 ⊢
   rw [show ({ j with listed := j.listed ++ [b], data := false } : Jd).listed.length = 4 from e]
   exact h0) K2.out fun W h => { h with }
  have H5 := Lib.hid HJ.1
  have B5 := Lib.hid (B3.out.trans HJ.2 fun _ _ h => h)
  clear HJ
  have L5 := Lib.hid (show ({ j with listed := j.listed ++ [b], data := false } : Jd).listed.length = 4 by show (j.listed ++ [b]).length = 4; rw [List.length_append, HNL.out]; rfl)
  have HC5 := Lib.hid (jlistedColumn (j := ({ j with listed := j.listed ++ [b], data := false } : Jd)) (by show 2 ≤ ({ j with listed := j.listed ++ [b], data := false } : Jd).listed.length; rw [L5.out]; omega) H5.out)
  have ea := Lib.hid (show ({ j with listed := j.listed ++ [b], data := false } : Jd).addr2 0 = (j.push b).addr2 0 from rfl)
  obtain ⟨a, ha⟩ : ∃ a, a = (j.push b).addr2 0 := ⟨_, rfl⟩
  rw [ea.out, ← ha] at HC5
  have HA := Lib.hid ha
  clear ha
  go_wp2_with fail
  refine HC5.out.mono ?_
  rintro _ w6 ⟨rfl, h6⟩
  obtain ⟨m6, hc6, hr6⟩ := H5.out.below h6
  have B6 := Lib.hid (B5.out.trans (Btw.of_below h6) fun _ _ h => h)
  have C6 := Lib.hid hc6
  have R6 := Lib.hid hr6
  clear h6 hc6 hr6 HC5
  have x8 := C6.out.cell_at 8 (.int .i64 (j.col : Int)) rfl
  have f8 := C6.out.frozen 8
  have HJ := JH.of (j' := { ({ j with listed := j.listed ++ [b], data := false } : Jd) with col := a }) (m' := m6) C6.out R6.out (C6.out.setCell 8 (.int .i64 (a : Int))) ((Btw.refl w6).setCell (I := fun k => k = p) (p := ⟨p, 8, none⟩) (v := .int .i64 (a : Int)) rfl) fun W h => { h with }
  have H7 := Lib.hid HJ.1
  have B7 := Lib.hid (B6.out.trans HJ.2 fun _ _ h => h)
  have HI7 := Lib.hid (jisColumn (by show 2 ≤ ({ j with listed := j.listed ++ [b], data := false } : Jd).listed.length; rw [L5.out]; omega) H7.out)
  have HR7 := Lib.hid (fun W (hh : JH I W p g { ({ j with listed := j.listed ++ [b], data := false } : Jd) with col := a }) => jisRow 2 (by show ({ j with listed := j.listed ++ [b], data := false } : Jd).listed.length = 4; exact L5.out) (by omega) hh)
  have ei := Lib.hid (show ({ ({ j with listed := j.listed ++ [b], data := false } : Jd) with col := a } : Jd).addr2 0 = a by rw [HA.out]; rfl)
  have er := Lib.hid (show ({ ({ j with listed := j.listed ++ [b], data := false } : Jd) with col := a } : Jd).addr2 2 = (j.push b).addr2 2 from rfl)
  obtain ⟨a2, ha2⟩ : ∃ a2, a2 = (j.push b).addr2 2 := ⟨_, rfl⟩
  rw [ei.out] at HI7
  rw [er.out, ← ha2] at HR7
  have HA2 := Lib.hid ha2
  rw [← HA.out, ← HA2.out] at HE
  clear HJ ha2 ea ei er HA HA2
  cases hq : decide (a < g.raw.toNat) with
  | false =>
   rw [hq] at HI7 HE
   clear hq
   go_wp2_with fail
   refine HI7.out.mono ?_
   rintro _ w8 ⟨rfl, h8⟩
   have H8 := Lib.hid (H7.out.below h8)
   have B8 := Lib.hid (B7.out.trans (Btw.of_below h8) fun _ _ h => h)
   clear h8 HI7
   go_wp2
   go_ret
   rw [HE.out]
   exact ⟨rfl, H8.out, B8.out⟩
  | true =>
   rw [hq] at HI7 HE
   clear hq
   go_wp2_with fail
   refine HI7.out.mono ?_
   rintro _ w8 ⟨rfl, h8⟩
   have H8 := Lib.hid (H7.out.below h8)
   have B8 := Lib.hid (B7.out.trans (Btw.of_below h8) fun _ _ h => h)
   clear h8 HI7
   go_wp2_with fail
   refine (HR7.out _ H8.out).mono ?_
   rintro _ w9 ⟨rfl, h9⟩
   have H9 := Lib.hid (H8.out.below h9)
   have B9 := Lib.hid (B8.out.trans (Btw.of_below h9) fun _ _ h => h)
   clear h9 HR7
   go_wp2
   go_ret
   rw [HE.out, Bool.true_and]
   exact ⟨rfl, H9.out, B9.out⟩
set_option maxHeartbeats 1000000 in
theorem jaddr_8_0 (b : Nat) (hb : b < 256) (hli : j.lists b = true) (ht : j.op = 8) (hn : j.listed.length = 0) (h : JH I w p g j) : Calls Tryz.prog 87 #[.pointer (some ⟨p, 0, none⟩), .int .u8 (b : Int)] w (ActsJ I p g (.bool (j.addr g b).1) (j.addr g b).2 w) := by
 have HH := Lib.hid h
 have HLI := jlists b hb (by omega) (by omega) h
 rw [hli] at HLI
 have HLI := Lib.hid HLI
 have HT := Lib.hid ht
 have HNL := Lib.hid hn
 have BB := Lib.hid hb
 have hpl : (j.push b).listed.length = 1 := by show (j.listed ++ [b]).length = 1; rw [List.length_append, hn]; rfl
 have HE := Lib.hid (show j.addr g b = (true, j.push b) by
  unfold Jd.addr
  rw [if_neg (by rw [hli]; decide), ht]
  first
   | rfl
   | (simp only [hpl]; rfl)
   | (show ({ j.push b with data := false } : Jd).addr4 g = _; unfold Jd.addr4; rw [show ({ j.push b with data := false } : Jd).listed.length = 1 from hpl]; rfl)
   | (show (j.push b).addr4 g = _; unfold Jd.addr4; rw [hpl]; rfl)
   | (show (decide ((j.push b).listed.length < 2) || _, j.push b) = _; rw [hpl]; rfl))
 clear h hb hli ht hn hpl
 ·
  skip
  go_enter Tryz.func87, Tryz.ntmps87
  go_wp2_with fail
  refine HLI.out.mono ?_
  rintro _ w1 ⟨rfl, h1⟩
  obtain ⟨m, hc, hr⟩ := HH.out.below h1
  have B1 := Lib.hid h1
  have C1 := Lib.hid hc
  have R1 := Lib.hid hr
  have NP := Lib.hid (hr.apart_p hc).2.1
  have y1 : w1.cell? ⟨p, 1, none⟩ = some (.slice m.aL 0 m.cL) := by
   have h0 := hc.cell_at 1 (.slice m.aL j.listed.length m.cL) rfl
   rw [HNL.out] at h0
   exact h0
  have OL := Lib.hid (show w1.ownsRow 0 5 1 (.slice m.aL 0 m.cL) 0 (U8 j.listed) by
   have h0 := hr.lis
   rw [HNL.out] at h0
   exact h0)
  clear h1 hc hr HLI
  go_wp2_with (at_builtin; refine japp8n (w1.alloc (.cells #[.int .u8 (b : Int)] 5)) rfl (.tmp 14) (.tmp 16) rfl 0 _ j.listed 0 HNL.out rfl (OL.out.alloc _) ⟨w1.heap.size, 0, none⟩ 1 1 [b] rfl (jr8_one w1 b BB.out _) (by omega) (Nat.zero_le _) ?_)
  intro v3 w3 hown hg hwh
  obtain ⟨A3, c3, rfl⟩ := jown_form hown
  have hP := Jr.pushL (I := I) (o := .cells #[.int .u8 (b : Int)] 5) (A3 := A3) (c3 := c3) b BB.out C1.out R1.out (by rw [HNL.out]; exact hown) (by rw [HNL.out]; exact hg) (by rw [HNL.out]; simpa using hwh)
  have C3 := Lib.hid hP.1
  have R3 := Lib.hid hP.2.1
  have B3 := Lib.hid ((Btw.of_below (I := I) B1.out).trans hP.2.2 fun _ _ h => h)
  clear hown hg hwh hP y1
  have x1 := C3.out.cell_at 1 (.slice m.aL j.listed.length m.cL) rfl
  have f1 := C3.out.frozen 1
  have S1 := Lib.hid (C3.out.setCell 1 (.slice A3 1 c3))
  have K1 := Lib.hid (((Btw.refl w3)).setCell (I := fun k => k = p) (p := ⟨p, 1, none⟩) (v := .slice A3 1 c3) rfl)
  have z0 : w3.cell? ⟨p, 0, none⟩ = some (.int .i64 8) := by
   have h0 := C3.out.cell_at 0 (.int .i64 (j.op : Int)) rfl
   rw [HT.out] at h0
   exact h0
  have HJ := JH.of (j' := { j with listed := j.listed ++ [b] }) (m' := { m with aL := A3, cL := c3 }) C3.out R3.out (by
   have h0 := S1.out
   have e : (j.listed ++ [b]).length = 1 := by rw [List.length_append, HNL.out]; rfl
   show CRow _ p 131 (jCells g { j with listed := j.listed ++ [b] } { m with aL := A3, cL := c3 })
   unfold jCells at h0 ⊢
   rw [show ({ j with listed := j.listed ++ [b] } : Jd).listed.length = 1 from e]
   exact h0) K1.out fun W h => { h with }
  have H5 := Lib.hid HJ.1
  have B5 := Lib.hid (B3.out.trans HJ.2 fun _ _ h => h)
  clear HJ
  go_wp2
  go_ret
  rw [HE.out]
  exact ⟨rfl, H5.out, B5.out⟩
set_option maxHeartbeats 1000000 in
theorem jaddr_8_1 (b : Nat) (hb : b < 256) (hli : j.lists b = true) (ht : j.op = 8) (hn : j.listed.length = 1) (h : JH I w p g j) : Calls Tryz.prog 87 #[.pointer (some ⟨p, 0, none⟩), .int .u8 (b : Int)] w (ActsJ I p g (.bool (j.addr g b).1) (j.addr g b).2 w) := by
 have HH := Lib.hid h
 have HLI := jlists b hb (by omega) (by omega) h
 rw [hli] at HLI
 have HLI := Lib.hid HLI
 have HT := Lib.hid ht
 have HNL := Lib.hid hn
 have BB := Lib.hid hb
 have hpl : (j.push b).listed.length = 2 := by show (j.listed ++ [b]).length = 2; rw [List.length_append, hn]; rfl
 have HE := Lib.hid (show j.addr g b = (true, j.push b) by
  unfold Jd.addr
  rw [if_neg (by rw [hli]; decide), ht]
  first
   | rfl
   | (simp only [hpl]; rfl)
   | (show ({ j.push b with data := false } : Jd).addr4 g = _; unfold Jd.addr4; rw [show ({ j.push b with data := false } : Jd).listed.length = 2 from hpl]; rfl)
   | (show (j.push b).addr4 g = _; unfold Jd.addr4; rw [hpl]; rfl)
   | (show (decide ((j.push b).listed.length < 2) || _, j.push b) = _; rw [hpl]; rfl))
 clear h hb hli ht hn hpl
 ·
  skip
  go_enter Tryz.func87, Tryz.ntmps87
  go_wp2_with fail
  refine HLI.out.mono ?_
  rintro _ w1 ⟨rfl, h1⟩
  obtain ⟨m, hc, hr⟩ := HH.out.below h1
  have B1 := Lib.hid h1
  have C1 := Lib.hid hc
  have R1 := Lib.hid hr
  have NP := Lib.hid (hr.apart_p hc).2.1
  have y1 : w1.cell? ⟨p, 1, none⟩ = some (.slice m.aL 1 m.cL) := by
   have h0 := hc.cell_at 1 (.slice m.aL j.listed.length m.cL) rfl
   rw [HNL.out] at h0
   exact h0
  have OL := Lib.hid (show w1.ownsRow 0 5 1 (.slice m.aL 1 m.cL) 1 (U8 j.listed) by
   have h0 := hr.lis
   rw [HNL.out] at h0
   exact h0)
  clear h1 hc hr HLI
  go_wp2_with (at_builtin; refine japp8n (w1.alloc (.cells #[.int .u8 (b : Int)] 5)) rfl (.tmp 14) (.tmp 16) rfl 0 _ j.listed 1 HNL.out rfl (OL.out.alloc _) ⟨w1.heap.size, 0, none⟩ 1 1 [b] rfl (jr8_one w1 b BB.out _) (by omega) (Nat.zero_le _) ?_)
  intro v3 w3 hown hg hwh
  obtain ⟨A3, c3, rfl⟩ := jown_form hown
  have hP := Jr.pushL (I := I) (o := .cells #[.int .u8 (b : Int)] 5) (A3 := A3) (c3 := c3) b BB.out C1.out R1.out (by rw [HNL.out]; exact hown) (by rw [HNL.out]; exact hg) (by rw [HNL.out]; simpa using hwh)
  have C3 := Lib.hid hP.1
  have R3 := Lib.hid hP.2.1
  have B3 := Lib.hid ((Btw.of_below (I := I) B1.out).trans hP.2.2 fun _ _ h => h)
  clear hown hg hwh hP y1
  have x1 := C3.out.cell_at 1 (.slice m.aL j.listed.length m.cL) rfl
  have f1 := C3.out.frozen 1
  have S1 := Lib.hid (C3.out.setCell 1 (.slice A3 2 c3))
  have K1 := Lib.hid (((Btw.refl w3)).setCell (I := fun k => k = p) (p := ⟨p, 1, none⟩) (v := .slice A3 2 c3) rfl)
  have z0 : w3.cell? ⟨p, 0, none⟩ = some (.int .i64 8) := by
   have h0 := C3.out.cell_at 0 (.int .i64 (j.op : Int)) rfl
   rw [HT.out] at h0
   exact h0
  have HJ := JH.of (j' := { j with listed := j.listed ++ [b] }) (m' := { m with aL := A3, cL := c3 }) C3.out R3.out (by
   have h0 := S1.out
   have e : (j.listed ++ [b]).length = 2 := by rw [List.length_append, HNL.out]; rfl
   show CRow _ p 131 (jCells g { j with listed := j.listed ++ [b] } { m with aL := A3, cL := c3 })
   unfold jCells at h0 ⊢
   rw [show ({ j with listed := j.listed ++ [b] } : Jd).listed.length = 2 from e]
   exact h0) K1.out fun W h => { h with }
  have H5 := Lib.hid HJ.1
  have B5 := Lib.hid (B3.out.trans HJ.2 fun _ _ h => h)
  clear HJ
  go_wp2
  go_ret
  rw [HE.out]
  exact ⟨rfl, H5.out, B5.out⟩
set_option maxHeartbeats 1000000 in
theorem jaddr_8_2 (b : Nat) (hb : b < 256) (hli : j.lists b = true) (ht : j.op = 8) (hn : j.listed.length = 2) (h : JH I w p g j) : Calls Tryz.prog 87 #[.pointer (some ⟨p, 0, none⟩), .int .u8 (b : Int)] w (ActsJ I p g (.bool (j.addr g b).1) (j.addr g b).2 w) := by
 have HH := Lib.hid h
 have HLI := jlists b hb (by omega) (by omega) h
 rw [hli] at HLI
 have HLI := Lib.hid HLI
 have HT := Lib.hid ht
 have HNL := Lib.hid hn
 have BB := Lib.hid hb
 have hpl : (j.push b).listed.length = 3 := by show (j.listed ++ [b]).length = 3; rw [List.length_append, hn]; rfl
 have HE := Lib.hid (show j.addr g b = (true, j.push b) by
  unfold Jd.addr
  rw [if_neg (by rw [hli]; decide), ht]
  first
   | rfl
   | (simp only [hpl]; rfl)
   | (show ({ j.push b with data := false } : Jd).addr4 g = _; unfold Jd.addr4; rw [show ({ j.push b with data := false } : Jd).listed.length = 3 from hpl]; rfl)
   | (show (j.push b).addr4 g = _; unfold Jd.addr4; rw [hpl]; rfl)
   | (show (decide ((j.push b).listed.length < 2) || _, j.push b) = _; rw [hpl]; rfl))
 clear h hb hli ht hn hpl
 ·
  skip
  go_enter Tryz.func87, Tryz.ntmps87
  go_wp2_with fail
  refine HLI.out.mono ?_
  rintro _ w1 ⟨rfl, h1⟩
  obtain ⟨m, hc, hr⟩ := HH.out.below h1
  have B1 := Lib.hid h1
  have C1 := Lib.hid hc
  have R1 := Lib.hid hr
  have NP := Lib.hid (hr.apart_p hc).2.1
  have y1 : w1.cell? ⟨p, 1, none⟩ = some (.slice m.aL 2 m.cL) := by
   have h0 := hc.cell_at 1 (.slice m.aL j.listed.length m.cL) rfl
   rw [HNL.out] at h0
   exact h0
  have OL := Lib.hid (show w1.ownsRow 0 5 1 (.slice m.aL 2 m.cL) 2 (U8 j.listed) by
   have h0 := hr.lis
   rw [HNL.out] at h0
   exact h0)
  clear h1 hc hr HLI
  go_wp2_with (at_builtin; refine japp8n (w1.alloc (.cells #[.int .u8 (b : Int)] 5)) rfl (.tmp 14) (.tmp 16) rfl 0 _ j.listed 2 HNL.out rfl (OL.out.alloc _) ⟨w1.heap.size, 0, none⟩ 1 1 [b] rfl (jr8_one w1 b BB.out _) (by omega) (Nat.zero_le _) ?_)
  intro v3 w3 hown hg hwh
  obtain ⟨A3, c3, rfl⟩ := jown_form hown
  have hP := Jr.pushL (I := I) (o := .cells #[.int .u8 (b : Int)] 5) (A3 := A3) (c3 := c3) b BB.out C1.out R1.out (by rw [HNL.out]; exact hown) (by rw [HNL.out]; exact hg) (by rw [HNL.out]; simpa using hwh)
  have C3 := Lib.hid hP.1
  have R3 := Lib.hid hP.2.1
  have B3 := Lib.hid ((Btw.of_below (I := I) B1.out).trans hP.2.2 fun _ _ h => h)
  clear hown hg hwh hP y1
  have x1 := C3.out.cell_at 1 (.slice m.aL j.listed.length m.cL) rfl
  have f1 := C3.out.frozen 1
  have S1 := Lib.hid (C3.out.setCell 1 (.slice A3 3 c3))
  have K1 := Lib.hid (((Btw.refl w3)).setCell (I := fun k => k = p) (p := ⟨p, 1, none⟩) (v := .slice A3 3 c3) rfl)
  have z0 : w3.cell? ⟨p, 0, none⟩ = some (.int .i64 8) := by
   have h0 := C3.out.cell_at 0 (.int .i64 (j.op : Int)) rfl
   rw [HT.out] at h0
   exact h0
  have HJ := JH.of (j' := { j with listed := j.listed ++ [b] }) (m' := { m with aL := A3, cL := c3 }) C3.out R3.out (by
   have h0 := S1.out
   have e : (j.listed ++ [b]).length = 3 := by rw [List.length_append, HNL.out]; rfl
   show CRow _ p 131 (jCells g { j with listed := j.listed ++ [b] } { m with aL := A3, cL := c3 })
   unfold jCells at h0 ⊢
   rw [show ({ j with listed := j.listed ++ [b] } : Jd).listed.length = 3 from e]
   exact h0) K1.out fun W h => { h with }
  have H5 := Lib.hid HJ.1
  have B5 := Lib.hid (B3.out.trans HJ.2 fun _ _ h => h)
  clear HJ
  go_wp2
  go_ret
  rw [HE.out]
  exact ⟨rfl, H5.out, B5.out⟩
set_option maxHeartbeats 1000000 in
theorem jaddr_8_3 (b : Nat) (hb : b < 256) (hli : j.lists b = true) (ht : j.op = 8) (hn : j.listed.length = 3) (h : JH I w p g j) : Calls Tryz.prog 87 #[.pointer (some ⟨p, 0, none⟩), .int .u8 (b : Int)] w (ActsJ I p g (.bool (j.addr g b).1) (j.addr g b).2 w) := by
 have HH := Lib.hid h
 have HLI := jlists b hb (by omega) (by omega) h
 rw [hli] at HLI
 have HLI := Lib.hid HLI
 have HT := Lib.hid ht
 have HNL := Lib.hid hn
 have BB := Lib.hid hb
 have hpl : (j.push b).listed.length = 4 := by show (j.listed ++ [b]).length = 4; rw [List.length_append, hn]; rfl
 have HE := Lib.hid (show j.addr g b = (decide ((j.push b).addr2 0 < g.raw.toNat) && decide ((j.push b).addr2 2 < g.rows_), { j.push b with col := (j.push b).addr2 0 }) by
  unfold Jd.addr
  rw [if_neg (by rw [hli]; decide), ht]
  first
   | rfl
   | (simp only [hpl]; rfl)
   | (show ({ j.push b with data := false } : Jd).addr4 g = _; unfold Jd.addr4; rw [show ({ j.push b with data := false } : Jd).listed.length = 4 from hpl]; rfl)
   | (show (j.push b).addr4 g = _; unfold Jd.addr4; rw [hpl]; rfl)
   | (show (decide ((j.push b).listed.length < 2) || _, j.push b) = _; rw [hpl]; rfl))
 clear h hb hli ht hn hpl
 ·
  skip
  go_enter Tryz.func87, Tryz.ntmps87
  go_wp2_with fail
  refine HLI.out.mono ?_
  rintro _ w1 ⟨rfl, h1⟩
  obtain ⟨m, hc, hr⟩ := HH.out.below h1
  have B1 := Lib.hid h1
  have C1 := Lib.hid hc
  have R1 := Lib.hid hr
  have NP := Lib.hid (hr.apart_p hc).2.1
  have y1 : w1.cell? ⟨p, 1, none⟩ = some (.slice m.aL 3 m.cL) := by
   have h0 := hc.cell_at 1 (.slice m.aL j.listed.length m.cL) rfl
   rw [HNL.out] at h0
   exact h0
  have OL := Lib.hid (show w1.ownsRow 0 5 1 (.slice m.aL 3 m.cL) 3 (U8 j.listed) by
   have h0 := hr.lis
   rw [HNL.out] at h0
   exact h0)
  clear h1 hc hr HLI
  go_wp2_with (at_builtin; refine japp8n (w1.alloc (.cells #[.int .u8 (b : Int)] 5)) rfl (.tmp 14) (.tmp 16) rfl 0 _ j.listed 3 HNL.out rfl (OL.out.alloc _) ⟨w1.heap.size, 0, none⟩ 1 1 [b] rfl (jr8_one w1 b BB.out _) (by omega) (Nat.zero_le _) ?_)
  intro v3 w3 hown hg hwh
  obtain ⟨A3, c3, rfl⟩ := jown_form hown
  have hP := Jr.pushL (I := I) (o := .cells #[.int .u8 (b : Int)] 5) (A3 := A3) (c3 := c3) b BB.out C1.out R1.out (by rw [HNL.out]; exact hown) (by rw [HNL.out]; exact hg) (by rw [HNL.out]; simpa using hwh)
  have C3 := Lib.hid hP.1
  have R3 := Lib.hid hP.2.1
  have B3 := Lib.hid ((Btw.of_below (I := I) B1.out).trans hP.2.2 fun _ _ h => h)
  clear hown hg hwh hP y1
  have x1 := C3.out.cell_at 1 (.slice m.aL j.listed.length m.cL) rfl
  have f1 := C3.out.frozen 1
  have S1 := Lib.hid (C3.out.setCell 1 (.slice A3 4 c3))
  have K1 := Lib.hid (((Btw.refl w3)).setCell (I := fun k => k = p) (p := ⟨p, 1, none⟩) (v := .slice A3 4 c3) rfl)
  have z0 : w3.cell? ⟨p, 0, none⟩ = some (.int .i64 8) := by
   have h0 := C3.out.cell_at 0 (.int .i64 (j.op : Int)) rfl
   rw [HT.out] at h0
   exact h0
  have HJ := JH.of (j' := { j with listed := j.listed ++ [b] }) (m' := { m with aL := A3, cL := c3 }) C3.out R3.out (by
   have h0 := S1.out
   have e : (j.listed ++ [b]).length = 4 := by rw [List.length_append, HNL.out]; rfl
   show CRow _ p 131 (jCells g { j with listed := j.listed ++ [b] } { m with aL := A3, cL := c3 })
   unfold jCells at h0 ⊢
   rw [show ({ j with listed := j.listed ++ [b] } : Jd).listed.length = 4 from e]
   exact h0) K1.out fun W h => { h with }
  have H5 := Lib.hid HJ.1
  have B5 := Lib.hid (B3.out.trans HJ.2 fun _ _ h => h)
  clear HJ
  have L5 := Lib.hid (show ({ j with listed := j.listed ++ [b] } : Jd).listed.length = 4 by show (j.listed ++ [b]).length = 4; rw [List.length_append, HNL.out]; rfl)
  have HC5 := Lib.hid (jlistedColumn (j := ({ j with listed := j.listed ++ [b] } : Jd)) (by show 2 ≤ ({ j with listed := j.listed ++ [b] } : Jd).listed.length; rw [L5.out]; omega) H5.out)
  have ea := Lib.hid (show ({ j with listed := j.listed ++ [b] } : Jd).addr2 0 = (j.push b).addr2 0 from rfl)
  obtain ⟨a, ha⟩ : ∃ a, a = (j.push b).addr2 0 := ⟨_, rfl⟩
  rw [ea.out, ← ha] at HC5
  have HA := Lib.hid ha
  clear ha
  go_wp2_with fail
  refine HC5.out.mono ?_
  rintro _ w6 ⟨rfl, h6⟩
  obtain ⟨m6, hc6, hr6⟩ := H5.out.below h6
  have B6 := Lib.hid (B5.out.trans (Btw.of_below h6) fun _ _ h => h)
  have C6 := Lib.hid hc6
  have R6 := Lib.hid hr6
  clear h6 hc6 hr6 HC5
  have x8 := C6.out.cell_at 8 (.int .i64 (j.col : Int)) rfl
  have f8 := C6.out.frozen 8
  have HJ := JH.of (j' := { ({ j with listed := j.listed ++ [b] } : Jd) with col := a }) (m' := m6) C6.out R6.out (C6.out.setCell 8 (.int .i64 (a : Int))) ((Btw.refl w6).setCell (I := fun k => k = p) (p := ⟨p, 8, none⟩) (v := .int .i64 (a : Int)) rfl) fun W h => { h with }
  have H7 := Lib.hid HJ.1
  have B7 := Lib.hid (B6.out.trans HJ.2 fun _ _ h => h)
  have HI7 := Lib.hid (jisColumn (by show 2 ≤ ({ j with listed := j.listed ++ [b] } : Jd).listed.length; rw [L5.out]; omega) H7.out)
  have HR7 := Lib.hid (fun W (hh : JH I W p g { ({ j with listed := j.listed ++ [b] } : Jd) with col := a }) => jisRow 2 (by show ({ j with listed := j.listed ++ [b] } : Jd).listed.length = 4; exact L5.out) (by omega) hh)
  have ei := Lib.hid (show ({ ({ j with listed := j.listed ++ [b] } : Jd) with col := a } : Jd).addr2 0 = a by rw [HA.out]; rfl)
  have er := Lib.hid (show ({ ({ j with listed := j.listed ++ [b] } : Jd) with col := a } : Jd).addr2 2 = (j.push b).addr2 2 from rfl)
  obtain ⟨a2, ha2⟩ : ∃ a2, a2 = (j.push b).addr2 2 := ⟨_, rfl⟩
  rw [ei.out] at HI7
  rw [er.out, ← ha2] at HR7
  have HA2 := Lib.hid ha2
  rw [← HA.out, ← HA2.out] at HE
  clear HJ ha2 ea ei er HA HA2
  cases hq : decide (a < g.raw.toNat) with
  | false =>
   rw [hq] at HI7 HE
   clear hq
   go_wp2_with fail
   refine HI7.out.mono ?_
   rintro _ w8 ⟨rfl, h8⟩
   have H8 := Lib.hid (H7.out.below h8)
   have B8 := Lib.hid (B7.out.trans (Btw.of_below h8) fun _ _ h => h)
   clear h8 HI7
   go_wp2
   go_ret
   rw [HE.out]
   exact ⟨rfl, H8.out, B8.out⟩
  | true =>
   rw [hq] at HI7 HE
   clear hq
   go_wp2_with fail
   refine HI7.out.mono ?_
   rintro _ w8 ⟨rfl, h8⟩
   have H8 := Lib.hid (H7.out.below h8)
   have B8 := Lib.hid (B7.out.trans (Btw.of_below h8) fun _ _ h => h)
   clear h8 HI7
   go_wp2_with fail
   refine (HR7.out _ H8.out).mono ?_
   rintro _ w9 ⟨rfl, h9⟩
   have H9 := Lib.hid (H8.out.below h9)
   have B9 := Lib.hid (B8.out.trans (Btw.of_below h9) fun _ _ h => h)
   clear h9 HR7
   go_wp2
   go_ret
   rw [HE.out, Bool.true_and]
   exact ⟨rfl, H9.out, B9.out⟩
set_option maxHeartbeats 1000000 in
theorem jaddr_7_0 (b : Nat) (hb : b < 256) (hli : j.lists b = true) (ht : j.op = 7) (hn : j.listed.length = 0) (h : JH I w p g j) : Calls Tryz.prog 87 #[.pointer (some ⟨p, 0, none⟩), .int .u8 (b : Int)] w (ActsJ I p g (.bool (j.addr g b).1) (j.addr g b).2 w) := by
 have HH := Lib.hid h
 have HLI := jlists b hb (by omega) (by omega) h
 rw [hli] at HLI
 have HLI := Lib.hid HLI
 have HT := Lib.hid ht
 have HNL := Lib.hid hn
 have BB := Lib.hid hb
 have hpl : (j.push b).listed.length = 1 := by show (j.listed ++ [b]).length = 1; rw [List.length_append, hn]; rfl
 have HE := Lib.hid (show j.addr g b = (true, j.push b) by
  unfold Jd.addr
  rw [if_neg (by rw [hli]; decide), ht]
  first
   | rfl
   | (simp only [hpl]; rfl)
   | (show ({ j.push b with data := false } : Jd).addr4 g = _; unfold Jd.addr4; rw [show ({ j.push b with data := false } : Jd).listed.length = 1 from hpl]; rfl)
   | (show (j.push b).addr4 g = _; unfold Jd.addr4; rw [hpl]; rfl)
   | (show (decide ((j.push b).listed.length < 2) || _, j.push b) = _; rw [hpl]; rfl))
 clear h hb hli ht hn hpl
 ·
  skip
  go_enter Tryz.func87, Tryz.ntmps87
  go_wp2_with fail
  refine HLI.out.mono ?_
  rintro _ w1 ⟨rfl, h1⟩
  obtain ⟨m, hc, hr⟩ := HH.out.below h1
  have B1 := Lib.hid h1
  have C1 := Lib.hid hc
  have R1 := Lib.hid hr
  have NP := Lib.hid (hr.apart_p hc).2.1
  have y1 : w1.cell? ⟨p, 1, none⟩ = some (.slice m.aL 0 m.cL) := by
   have h0 := hc.cell_at 1 (.slice m.aL j.listed.length m.cL) rfl
   rw [HNL.out] at h0
   exact h0
  have OL := Lib.hid (show w1.ownsRow 0 5 1 (.slice m.aL 0 m.cL) 0 (U8 j.listed) by
   have h0 := hr.lis
   rw [HNL.out] at h0
   exact h0)
  clear h1 hc hr HLI
  go_wp2_with (at_builtin; refine japp8n (w1.alloc (.cells #[.int .u8 (b : Int)] 5)) rfl (.tmp 14) (.tmp 16) rfl 0 _ j.listed 0 HNL.out rfl (OL.out.alloc _) ⟨w1.heap.size, 0, none⟩ 1 1 [b] rfl (jr8_one w1 b BB.out _) (by omega) (Nat.zero_le _) ?_)
  intro v3 w3 hown hg hwh
  obtain ⟨A3, c3, rfl⟩ := jown_form hown
  have hP := Jr.pushL (I := I) (o := .cells #[.int .u8 (b : Int)] 5) (A3 := A3) (c3 := c3) b BB.out C1.out R1.out (by rw [HNL.out]; exact hown) (by rw [HNL.out]; exact hg) (by rw [HNL.out]; simpa using hwh)
  have C3 := Lib.hid hP.1
  have R3 := Lib.hid hP.2.1
  have B3 := Lib.hid ((Btw.of_below (I := I) B1.out).trans hP.2.2 fun _ _ h => h)
  clear hown hg hwh hP y1
  have x1 := C3.out.cell_at 1 (.slice m.aL j.listed.length m.cL) rfl
  have f1 := C3.out.frozen 1
  have S1 := Lib.hid (C3.out.setCell 1 (.slice A3 1 c3))
  have K1 := Lib.hid (((Btw.refl w3)).setCell (I := fun k => k = p) (p := ⟨p, 1, none⟩) (v := .slice A3 1 c3) rfl)
  have z0 : w3.cell? ⟨p, 0, none⟩ = some (.int .i64 7) := by
   have h0 := C3.out.cell_at 0 (.int .i64 (j.op : Int)) rfl
   rw [HT.out] at h0
   exact h0
  have HJ := JH.of (j' := { j with listed := j.listed ++ [b] }) (m' := { m with aL := A3, cL := c3 }) C3.out R3.out (by
   have h0 := S1.out
   have e : (j.listed ++ [b]).length = 1 := by rw [List.length_append, HNL.out]; rfl
   show CRow _ p 131 (jCells g { j with listed := j.listed ++ [b] } { m with aL := A3, cL := c3 })
   unfold jCells at h0 ⊢
   rw [show ({ j with listed := j.listed ++ [b] } : Jd).listed.length = 1 from e]
   exact h0) K1.out fun W h => { h with }
  have H5 := Lib.hid HJ.1
  have B5 := Lib.hid (B3.out.trans HJ.2 fun _ _ h => h)
  clear HJ
  go_wp2
  go_ret
  rw [HE.out]
  exact ⟨rfl, H5.out, B5.out⟩
set_option maxHeartbeats 1000000 in
theorem jaddr_7_1 (b : Nat) (hb : b < 256) (hli : j.lists b = true) (ht : j.op = 7) (hn : j.listed.length = 1) (h : JH I w p g j) : Calls Tryz.prog 87 #[.pointer (some ⟨p, 0, none⟩), .int .u8 (b : Int)] w (ActsJ I p g (.bool (j.addr g b).1) (j.addr g b).2 w) := by
 have HH := Lib.hid h
 have HLI := jlists b hb (by omega) (by omega) h
 rw [hli] at HLI
 have HLI := Lib.hid HLI
 have HT := Lib.hid ht
 have HNL := Lib.hid hn
 have BB := Lib.hid hb
 have hpl : (j.push b).listed.length = 2 := by show (j.listed ++ [b]).length = 2; rw [List.length_append, hn]; rfl
 have HE := Lib.hid (show j.addr g b = (decide ((j.push b).addr2 0 < g.raw.toNat), j.push b) by
  unfold Jd.addr
  rw [if_neg (by rw [hli]; decide), ht]
  first
   | rfl
   | (simp only [hpl]; rfl)
   | (show ({ j.push b with data := false } : Jd).addr4 g = _; unfold Jd.addr4; rw [show ({ j.push b with data := false } : Jd).listed.length = 2 from hpl]; rfl)
   | (show (j.push b).addr4 g = _; unfold Jd.addr4; rw [hpl]; rfl)
   | (show (decide ((j.push b).listed.length < 2) || _, j.push b) = _; rw [hpl]; rfl))
 clear h hb hli ht hn hpl
 ·
  skip
  go_enter Tryz.func87, Tryz.ntmps87
  go_wp2_with fail
  refine HLI.out.mono ?_
  rintro _ w1 ⟨rfl, h1⟩
  obtain ⟨m, hc, hr⟩ := HH.out.below h1
  have B1 := Lib.hid h1
  have C1 := Lib.hid hc
  have R1 := Lib.hid hr
  have NP := Lib.hid (hr.apart_p hc).2.1
  have y1 : w1.cell? ⟨p, 1, none⟩ = some (.slice m.aL 1 m.cL) := by
   have h0 := hc.cell_at 1 (.slice m.aL j.listed.length m.cL) rfl
   rw [HNL.out] at h0
   exact h0
  have OL := Lib.hid (show w1.ownsRow 0 5 1 (.slice m.aL 1 m.cL) 1 (U8 j.listed) by
   have h0 := hr.lis
   rw [HNL.out] at h0
   exact h0)
  clear h1 hc hr HLI
  go_wp2_with (at_builtin; refine japp8n (w1.alloc (.cells #[.int .u8 (b : Int)] 5)) rfl (.tmp 14) (.tmp 16) rfl 0 _ j.listed 1 HNL.out rfl (OL.out.alloc _) ⟨w1.heap.size, 0, none⟩ 1 1 [b] rfl (jr8_one w1 b BB.out _) (by omega) (Nat.zero_le _) ?_)
  intro v3 w3 hown hg hwh
  obtain ⟨A3, c3, rfl⟩ := jown_form hown
  have hP := Jr.pushL (I := I) (o := .cells #[.int .u8 (b : Int)] 5) (A3 := A3) (c3 := c3) b BB.out C1.out R1.out (by rw [HNL.out]; exact hown) (by rw [HNL.out]; exact hg) (by rw [HNL.out]; simpa using hwh)
  have C3 := Lib.hid hP.1
  have R3 := Lib.hid hP.2.1
  have B3 := Lib.hid ((Btw.of_below (I := I) B1.out).trans hP.2.2 fun _ _ h => h)
  clear hown hg hwh hP y1
  have x1 := C3.out.cell_at 1 (.slice m.aL j.listed.length m.cL) rfl
  have f1 := C3.out.frozen 1
  have S1 := Lib.hid (C3.out.setCell 1 (.slice A3 2 c3))
  have K1 := Lib.hid (((Btw.refl w3)).setCell (I := fun k => k = p) (p := ⟨p, 1, none⟩) (v := .slice A3 2 c3) rfl)
  have z0 : w3.cell? ⟨p, 0, none⟩ = some (.int .i64 7) := by
   have h0 := C3.out.cell_at 0 (.int .i64 (j.op : Int)) rfl
   rw [HT.out] at h0
   exact h0
  have HJ := JH.of (j' := { j with listed := j.listed ++ [b] }) (m' := { m with aL := A3, cL := c3 }) C3.out R3.out (by
   have h0 := S1.out
   have e : (j.listed ++ [b]).length = 2 := by rw [List.length_append, HNL.out]; rfl
   show CRow _ p 131 (jCells g { j with listed := j.listed ++ [b] } { m with aL := A3, cL := c3 })
   unfold jCells at h0 ⊢
   rw [show ({ j with listed := j.listed ++ [b] } : Jd).listed.length = 2 from e]
   exact h0) K1.out fun W h => { h with }
  have H5 := Lib.hid HJ.1
  have B5 := Lib.hid (B3.out.trans HJ.2 fun _ _ h => h)
  clear HJ
  have L5 := Lib.hid (show (j.push b).listed.length = 2 by show (j.listed ++ [b]).length = 2; rw [List.length_append, HNL.out]; rfl)
  have HQ := Lib.hid (jisColumn (j := j.push b) (by have := L5.out; omega) H5.out)
  obtain ⟨bb, hbb⟩ : ∃ bb, bb = decide ((j.push b).addr2 0 < g.raw.toNat) := ⟨_, rfl⟩
  rw [← hbb] at HQ HE
  clear hbb
  go_wp2_with fail
  refine HQ.out.mono ?_
  rintro _ w6 ⟨rfl, h6⟩
  have H6 := Lib.hid (H5.out.below h6)
  have B6 := Lib.hid (B5.out.trans (Btw.of_below h6) fun _ _ h => h)
  clear h6 HQ
  go_wp2
  go_ret
  rw [HE.out]
  exact ⟨rfl, H6.out, B6.out⟩
set_option maxHeartbeats 1000000 in
theorem jaddr_9_0 (b : Nat) (hb : b < 256) (hli : j.lists b = true) (ht : j.op = 9) (hn : j.listed.length = 0) (h : JH I w p g j) : Calls Tryz.prog 87 #[.pointer (some ⟨p, 0, none⟩), .int .u8 (b : Int)] w (ActsJ I p g (.bool (j.addr g b).1) (j.addr g b).2 w) := by
 have HH := Lib.hid h
 have HLI := jlists b hb (by omega) (by omega) h
 rw [hli] at HLI
 have HLI := Lib.hid HLI
 have HT := Lib.hid ht
 have HNL := Lib.hid hn
 have BB := Lib.hid hb
 have hpl : (j.push b).listed.length = 1 := by show (j.listed ++ [b]).length = 1; rw [List.length_append, hn]; rfl
 have HE := Lib.hid (show j.addr g b = (true, j.push b) by
  unfold Jd.addr
  rw [if_neg (by rw [hli]; decide), ht]
  first
   | rfl
   | (simp only [hpl]; rfl)
   | (show ({ j.push b with data := false } : Jd).addr4 g = _; unfold Jd.addr4; rw [show ({ j.push b with data := false } : Jd).listed.length = 1 from hpl]; rfl)
   | (show (j.push b).addr4 g = _; unfold Jd.addr4; rw [hpl]; rfl)
   | (show (decide ((j.push b).listed.length < 2) || _, j.push b) = _; rw [hpl]; rfl))
 clear h hb hli ht hn hpl
 ·
  skip
  go_enter Tryz.func87, Tryz.ntmps87
  go_wp2_with fail
  refine HLI.out.mono ?_
  rintro _ w1 ⟨rfl, h1⟩
  obtain ⟨m, hc, hr⟩ := HH.out.below h1
  have B1 := Lib.hid h1
  have C1 := Lib.hid hc
  have R1 := Lib.hid hr
  have NP := Lib.hid (hr.apart_p hc).2.1
  have y1 : w1.cell? ⟨p, 1, none⟩ = some (.slice m.aL 0 m.cL) := by
   have h0 := hc.cell_at 1 (.slice m.aL j.listed.length m.cL) rfl
   rw [HNL.out] at h0
   exact h0
  have OL := Lib.hid (show w1.ownsRow 0 5 1 (.slice m.aL 0 m.cL) 0 (U8 j.listed) by
   have h0 := hr.lis
   rw [HNL.out] at h0
   exact h0)
  clear h1 hc hr HLI
  go_wp2_with (at_builtin; refine japp8n (w1.alloc (.cells #[.int .u8 (b : Int)] 5)) rfl (.tmp 14) (.tmp 16) rfl 0 _ j.listed 0 HNL.out rfl (OL.out.alloc _) ⟨w1.heap.size, 0, none⟩ 1 1 [b] rfl (jr8_one w1 b BB.out _) (by omega) (Nat.zero_le _) ?_)
  intro v3 w3 hown hg hwh
  obtain ⟨A3, c3, rfl⟩ := jown_form hown
  have hP := Jr.pushL (I := I) (o := .cells #[.int .u8 (b : Int)] 5) (A3 := A3) (c3 := c3) b BB.out C1.out R1.out (by rw [HNL.out]; exact hown) (by rw [HNL.out]; exact hg) (by rw [HNL.out]; simpa using hwh)
  have C3 := Lib.hid hP.1
  have R3 := Lib.hid hP.2.1
  have B3 := Lib.hid ((Btw.of_below (I := I) B1.out).trans hP.2.2 fun _ _ h => h)
  clear hown hg hwh hP y1
  have x1 := C3.out.cell_at 1 (.slice m.aL j.listed.length m.cL) rfl
  have f1 := C3.out.frozen 1
  have S1 := Lib.hid (C3.out.setCell 1 (.slice A3 1 c3))
  have K1 := Lib.hid (((Btw.refl w3)).setCell (I := fun k => k = p) (p := ⟨p, 1, none⟩) (v := .slice A3 1 c3) rfl)
  have z0 : w3.cell? ⟨p, 0, none⟩ = some (.int .i64 9) := by
   have h0 := C3.out.cell_at 0 (.int .i64 (j.op : Int)) rfl
   rw [HT.out] at h0
   exact h0
  have HJ := JH.of (j' := { j with listed := j.listed ++ [b] }) (m' := { m with aL := A3, cL := c3 }) C3.out R3.out (by
   have h0 := S1.out
   have e : (j.listed ++ [b]).length = 1 := by rw [List.length_append, HNL.out]; rfl
   show CRow _ p 131 (jCells g { j with listed := j.listed ++ [b] } { m with aL := A3, cL := c3 })
   unfold jCells at h0 ⊢
   rw [show ({ j with listed := j.listed ++ [b] } : Jd).listed.length = 1 from e]
   exact h0) K1.out fun W h => { h with }
  have H5 := Lib.hid HJ.1
  have B5 := Lib.hid (B3.out.trans HJ.2 fun _ _ h => h)
  clear HJ
  go_wp2
  go_ret
  rw [HE.out]
  exact ⟨rfl, H5.out, B5.out⟩
set_option maxHeartbeats 1000000 in
theorem jaddr_9_1 (b : Nat) (hb : b < 256) (hli : j.lists b = true) (ht : j.op = 9) (hn : j.listed.length = 1) (h : JH I w p g j) : Calls Tryz.prog 87 #[.pointer (some ⟨p, 0, none⟩), .int .u8 (b : Int)] w (ActsJ I p g (.bool (j.addr g b).1) (j.addr g b).2 w) := by
 have HH := Lib.hid h
 have HLI := jlists b hb (by omega) (by omega) h
 rw [hli] at HLI
 have HLI := Lib.hid HLI
 have HT := Lib.hid ht
 have HNL := Lib.hid hn
 have BB := Lib.hid hb
 have hpl : (j.push b).listed.length = 2 := by show (j.listed ++ [b]).length = 2; rw [List.length_append, hn]; rfl
 have HE := Lib.hid (show j.addr g b = (decide ((j.push b).addr2 0 < g.rows_), j.push b) by
  unfold Jd.addr
  rw [if_neg (by rw [hli]; decide), ht]
  first
   | rfl
   | (simp only [hpl]; rfl)
   | (show ({ j.push b with data := false } : Jd).addr4 g = _; unfold Jd.addr4; rw [show ({ j.push b with data := false } : Jd).listed.length = 2 from hpl]; rfl)
   | (show (j.push b).addr4 g = _; unfold Jd.addr4; rw [hpl]; rfl)
   | (show (decide ((j.push b).listed.length < 2) || _, j.push b) = _; rw [hpl]; rfl))
 clear h hb hli ht hn hpl
 ·
  skip
  go_enter Tryz.func87, Tryz.ntmps87
  go_wp2_with fail
  refine HLI.out.mono ?_
  rintro _ w1 ⟨rfl, h1⟩
  obtain ⟨m, hc, hr⟩ := HH.out.below h1
  have B1 := Lib.hid h1
  have C1 := Lib.hid hc
  have R1 := Lib.hid hr
  have NP := Lib.hid (hr.apart_p hc).2.1
  have y1 : w1.cell? ⟨p, 1, none⟩ = some (.slice m.aL 1 m.cL) := by
   have h0 := hc.cell_at 1 (.slice m.aL j.listed.length m.cL) rfl
   rw [HNL.out] at h0
   exact h0
  have OL := Lib.hid (show w1.ownsRow 0 5 1 (.slice m.aL 1 m.cL) 1 (U8 j.listed) by
   have h0 := hr.lis
   rw [HNL.out] at h0
   exact h0)
  clear h1 hc hr HLI
  go_wp2_with (at_builtin; refine japp8n (w1.alloc (.cells #[.int .u8 (b : Int)] 5)) rfl (.tmp 14) (.tmp 16) rfl 0 _ j.listed 1 HNL.out rfl (OL.out.alloc _) ⟨w1.heap.size, 0, none⟩ 1 1 [b] rfl (jr8_one w1 b BB.out _) (by omega) (Nat.zero_le _) ?_)
  intro v3 w3 hown hg hwh
  obtain ⟨A3, c3, rfl⟩ := jown_form hown
  have hP := Jr.pushL (I := I) (o := .cells #[.int .u8 (b : Int)] 5) (A3 := A3) (c3 := c3) b BB.out C1.out R1.out (by rw [HNL.out]; exact hown) (by rw [HNL.out]; exact hg) (by rw [HNL.out]; simpa using hwh)
  have C3 := Lib.hid hP.1
  have R3 := Lib.hid hP.2.1
  have B3 := Lib.hid ((Btw.of_below (I := I) B1.out).trans hP.2.2 fun _ _ h => h)
  clear hown hg hwh hP y1
  have x1 := C3.out.cell_at 1 (.slice m.aL j.listed.length m.cL) rfl
  have f1 := C3.out.frozen 1
  have S1 := Lib.hid (C3.out.setCell 1 (.slice A3 2 c3))
  have K1 := Lib.hid (((Btw.refl w3)).setCell (I := fun k => k = p) (p := ⟨p, 1, none⟩) (v := .slice A3 2 c3) rfl)
  have z0 : w3.cell? ⟨p, 0, none⟩ = some (.int .i64 9) := by
   have h0 := C3.out.cell_at 0 (.int .i64 (j.op : Int)) rfl
   rw [HT.out] at h0
   exact h0
  have HJ := JH.of (j' := { j with listed := j.listed ++ [b] }) (m' := { m with aL := A3, cL := c3 }) C3.out R3.out (by
   have h0 := S1.out
   have e : (j.listed ++ [b]).length = 2 := by rw [List.length_append, HNL.out]; rfl
   show CRow _ p 131 (jCells g { j with listed := j.listed ++ [b] } { m with aL := A3, cL := c3 })
   unfold jCells at h0 ⊢
   rw [show ({ j with listed := j.listed ++ [b] } : Jd).listed.length = 2 from e]
   exact h0) K1.out fun W h => { h with }
  have H5 := Lib.hid HJ.1
  have B5 := Lib.hid (B3.out.trans HJ.2 fun _ _ h => h)
  clear HJ
  have L5 := Lib.hid (show (j.push b).listed.length = 2 by show (j.listed ++ [b]).length = 2; rw [List.length_append, HNL.out]; rfl)
  have HQ := Lib.hid (jisRow (j := j.push b) 0 (by have := L5.out; omega) (by omega) H5.out)
  obtain ⟨bb, hbb⟩ : ∃ bb, bb = decide ((j.push b).addr2 0 < g.rows_) := ⟨_, rfl⟩
  rw [← hbb] at HQ HE
  clear hbb
  go_wp2_with fail
  refine HQ.out.mono ?_
  rintro _ w6 ⟨rfl, h6⟩
  have H6 := Lib.hid (H5.out.below h6)
  have B6 := Lib.hid (B5.out.trans (Btw.of_below h6) fun _ _ h => h)
  clear h6 HQ
  go_wp2
  go_ret
  rw [HE.out]
  exact ⟨rfl, H6.out, B6.out⟩
theorem jaddress (b : Nat) (hb : b < 256) (hst : j.op ≤ 9) (hl : j.listed.length ≤ 100) (h : JH I w p g j) : Calls Tryz.prog 87 #[.pointer (some ⟨p, 0, none⟩), .int .u8 (b : Int)] w (ActsJ I p g (.bool (j.addr g b).1) (j.addr g b).2 w) := by
 cases hli : j.lists b with
 | false =>
  have HLI := jlists b hb hst hl h
  rw [hli] at HLI
  have HLI := Lib.hid HLI
  have HH := Lib.hid h
  have HE := Lib.hid (show j.addr g b = (false, j) by unfold Jd.addr; rw [if_pos hli])
  clear h hli hl hst hb
  go_enter Tryz.func87, Tryz.ntmps87
  go_wp2_with fail
  refine HLI.out.mono ?_
  rintro _ w1 ⟨rfl, h1⟩
  have B1 := Lib.hid h1
  clear h1
  go_wp2
  go_ret
  rw [HE.out]
  exact ⟨rfl, HH.out.below B1.out, Btw.of_below B1.out⟩
 | true =>
  rcases lists_what hli with ⟨h1 | h1 | h1, hn⟩ | ⟨h1 | h1, hn⟩ | ⟨h1 | h1, hn⟩
  ·
   exact jaddr_2_0 b hb hli h1 hn h
  ·
   exact jaddr_3_0 b hb hli h1 hn h
  ·
   exact jaddr_4_0 b hb hli h1 hn h
  ·
   have hd : j.listed.length = 0 ∨ j.listed.length = 1 ∨ j.listed.length = 2 ∨ j.listed.length = 3 := by omega
   rcases hd with hd | hd | hd | hd
   ·
    exact jaddr_5_0 b hb hli h1 hd h
   ·
    exact jaddr_5_1 b hb hli h1 hd h
   ·
    exact jaddr_5_2 b hb hli h1 hd h
   ·
    exact jaddr_5_3 b hb hli h1 hd h
  ·
   have hd : j.listed.length = 0 ∨ j.listed.length = 1 ∨ j.listed.length = 2 ∨ j.listed.length = 3 := by omega
   rcases hd with hd | hd | hd | hd
   ·
    exact jaddr_8_0 b hb hli h1 hd h
   ·
    exact jaddr_8_1 b hb hli h1 hd h
   ·
    exact jaddr_8_2 b hb hli h1 hd h
   ·
    exact jaddr_8_3 b hb hli h1 hd h
  ·
   have hd : j.listed.length = 0 ∨ j.listed.length = 1 := by omega
   rcases hd with hd | hd
   ·
    exact jaddr_7_0 b hb hli h1 hd h
   ·
    exact jaddr_7_1 b hb hli h1 hd h
  ·
   have hd : j.listed.length = 0 ∨ j.listed.length = 1 := by omega
   rcases hd with hd | hd
   ·
    exact jaddr_9_0 b hb hli h1 hd h
   ·
    exact jaddr_9_1 b hb hli h1 hd h
end
section
variable {I K : Nat → Prop} {w w' : World} {p : Nat} {g : Gm} {j : Jd} {m : Jm}
structure Jf (g : Gm) (q : Nat) (j : Jd) : Prop where
 op : j.op ≤ 9
 ls : j.listed.length ≤ 4
 ct : j.count ≤ q
 cl : j.col ≤ 65536 + q
 pr : ∀ r, j.pr r ≤ q
 rn : j.rows.length ≤ q
 bn : j.blocks.length ≤ q
 en : j.erases.length ≤ q
 bb : ∀ x ∈ j.blocks, x < g.b.toNat
 eb : ∀ x ∈ j.erases, x < g.b.toNat
def Jd.command (g : Gm) (j : Jd) (b : Nat) : Bool × Jd :=
 if j.op = 8 then j.endLoad g b else if j.op = 9 then j.endErase g b else if j.op = 7 then j.endMove b
 else if j.op = 2 then (if 0 < j.listed.length then j.begin b else (false, j))
 else if j.op = 5 then (if 0 < j.listed.length then j.endFetch b else if j.data = false then (false, j) else j.begin b)
 else if j.op = 1 ∨ j.op = 6 then j.begin b
 else (false, j)
set_option maxHeartbeats 1000000 in
theorem jcommand {q : Nat} (b : Nat) (hb : b < 256) (hq : q ≤ 100000) (hf : Jf g q j) (h : JH I w p g j) : Calls Tryz.prog 86 #[.pointer (some ⟨p, 0, none⟩), .int .u8 (b : Int)] w (ActsJ I p g (.bool (j.command g b).1) (j.command g b).2 w) := by
 have HH := Lib.hid h
 have HB := Lib.hid hb
 have hn1 := hf.rn
 have hn2 := hf.bn
 have hn3 := hf.ct
 have hn4 := hf.ls
 have HLO := Lib.hid (jendLoad b hb hn4 (by omega) (fun r => by have := hf.pr r; omega) (by omega) h)
 have HER := Lib.hid (jendErase b hb hn4 hf.bb (by omega) h)
 have HMO := Lib.hid (jendMove b hb (by omega) h)
 have HFE := Lib.hid (jendFetch b hb (by omega) h)
 have HBE := Lib.hid (jbegin b hb (by omega) (by omega) h)
 obtain ⟨m, hc, hr⟩ := h
 obtain ⟨n, hn⟩ : ∃ n, n = j.listed.length := ⟨_, rfl⟩
 obtain ⟨t, ht⟩ : ∃ t, t = j.op := ⟨_, rfl⟩
 obtain ⟨dt, hd⟩ : ∃ dt, dt = j.data := ⟨_, rfl⟩
 have x0 : w.cell? ⟨p, 0, none⟩ = some (.int .i64 (t : Int)) := by rw [ht]; exact hc.cell_at 0 _ rfl
 have x1 : w.cell? ⟨p, 1, none⟩ = some (.slice m.aL n m.cL) := by rw [hn]; exact hc.cell_at 1 _ rfl
 have x7 : w.cell? ⟨p, 7, none⟩ = some (.bool dt) := by rw [hd]; exact hc.cell_at 7 _ rfl
 have HE0 : j.command g b = (if t = 8 then j.endLoad g b else if t = 9 then j.endErase g b else if t = 7 then j.endMove b
  else if t = 2 then (if 0 < n then j.begin b else (false, j)) else if t = 5 then (if 0 < n then j.endFetch b else if dt = false then (false, j) else j.begin b)
  else if t = 1 ∨ t = 6 then j.begin b else (false, j)) := by rw [hn, ht, hd]; rfl
 have hop := hf.op
 rw [← ht] at hop
 rw [← hn] at hn4
 have ht2 : t = 0 ∨ t = 1 ∨ t = 2 ∨ t = 3 ∨ t = 4 ∨ t = 5 ∨ t = 6 ∨ t = 7 ∨ t = 8 ∨ t = 9 := by omega
 clear hc hr hn ht hd hop hn1 hn2 hn3 hf hb
 rcases ht2 with rfl | rfl | rfl | rfl | rfl | rfl | rfl | rfl | rfl | rfl
 ·
  skip
  have HE := Lib.hid (show j.command g b = (false, j) from HE0)
  clear HE0
  go_enter Tryz.func86, Tryz.ntmps86
  go_wp2
  go_ret
  rw [HE.out]
  exact ⟨rfl, HH.out, Btw.refl w⟩
 ·
  skip
  have HE := Lib.hid (show j.command g b = j.begin b from HE0)
  clear HE0
  go_enter Tryz.func86, Tryz.ntmps86
  go_wp2_with fail
  refine (HBE.out).mono ?_
  rintro e w1 ⟨he, h1, b1⟩
  obtain ⟨v, hv⟩ : ∃ v, v = (j.command g b).1 := ⟨_, rfl⟩
  rw [← HE.out, ← hv] at he
  rw [← HE.out] at h1
  have HV := Lib.hid hv
  subst he
  have H1 := Lib.hid h1
  have B1 := Lib.hid b1
  clear hv h1 b1
  go_wp2
  go_ret
  rw [← HV.out]
  exact ⟨rfl, H1.out, B1.out⟩
 ·
  skip
  by_cases h0 : 0 < n
  ·
   have d1 : decide ((0 : Int) < (n : Int)) = true := decide_eq_true (by omega)
   have d2 : decide (0 < n) = true := decide_eq_true h0
   have HE := Lib.hid (show j.command g b = j.begin b from HE0.trans (if_pos h0))
   clear HE0 h0
   go_enter Tryz.func86, Tryz.ntmps86
   go_wp2_with fail
   refine (HBE.out).mono ?_
   rintro e w1 ⟨he, h1, b1⟩
   obtain ⟨v, hv⟩ : ∃ v, v = (j.command g b).1 := ⟨_, rfl⟩
   rw [← HE.out, ← hv] at he
   rw [← HE.out] at h1
   have HV := Lib.hid hv
   subst he
   have H1 := Lib.hid h1
   have B1 := Lib.hid b1
   clear hv h1 b1
   go_wp2
   go_ret
   rw [← HV.out]
   exact ⟨rfl, H1.out, B1.out⟩
  ·
   have d1 : decide ((0 : Int) < (n : Int)) = false := decide_eq_false (by omega)
   have d2 : decide (0 < n) = false := decide_eq_false h0
   have HE := Lib.hid (show j.command g b = (false, j) from HE0.trans (if_neg h0))
   clear HE0 h0
   go_enter Tryz.func86, Tryz.ntmps86
   go_wp2
   go_ret
   rw [HE.out]
   exact ⟨rfl, HH.out, Btw.refl w⟩
 ·
  skip
  have HE := Lib.hid (show j.command g b = (false, j) from HE0)
  clear HE0
  go_enter Tryz.func86, Tryz.ntmps86
  go_wp2
  go_ret
  rw [HE.out]
  exact ⟨rfl, HH.out, Btw.refl w⟩
 ·
  skip
  have HE := Lib.hid (show j.command g b = (false, j) from HE0)
  clear HE0
  go_enter Tryz.func86, Tryz.ntmps86
  go_wp2
  go_ret
  rw [HE.out]
  exact ⟨rfl, HH.out, Btw.refl w⟩
 ·
  skip
  by_cases h0 : 0 < n
  ·
   have d1 : decide ((0 : Int) < (n : Int)) = true := decide_eq_true (by omega)
   have d2 : decide (0 < n) = true := decide_eq_true h0
   have HE := Lib.hid (show j.command g b = j.endFetch b from HE0.trans (if_pos h0))
   clear HE0 h0
   go_enter Tryz.func86, Tryz.ntmps86
   go_wp2_with fail
   refine (HFE.out).mono ?_
   rintro e w1 ⟨he, h1, b1⟩
   obtain ⟨v, hv⟩ : ∃ v, v = (j.command g b).1 := ⟨_, rfl⟩
   rw [← HE.out, ← hv] at he
   rw [← HE.out] at h1
   have HV := Lib.hid hv
   subst he
   have H1 := Lib.hid h1
   have B1 := Lib.hid b1
   clear hv h1 b1
   go_wp2
   go_ret
   rw [← HV.out]
   exact ⟨rfl, H1.out, B1.out⟩
  ·
   have d1 : decide ((0 : Int) < (n : Int)) = false := decide_eq_false (by omega)
   have d2 : decide (0 < n) = false := decide_eq_false h0
   have HE1 := HE0.trans (if_neg h0)
   clear HE0 h0
   cases dt
   ·
    have HE := Lib.hid (show j.command g b = (false, j) from HE1)
    clear HE1
    go_enter Tryz.func86, Tryz.ntmps86
    go_wp2
    go_ret
    rw [HE.out]
    exact ⟨rfl, HH.out, Btw.refl w⟩
   ·
    have HE := Lib.hid (show j.command g b = j.begin b from HE1)
    clear HE1
    go_enter Tryz.func86, Tryz.ntmps86
    go_wp2_with fail
    refine (HBE.out).mono ?_
    rintro e w1 ⟨he, h1, b1⟩
    obtain ⟨v, hv⟩ : ∃ v, v = (j.command g b).1 := ⟨_, rfl⟩
    rw [← HE.out, ← hv] at he
    rw [← HE.out] at h1
    have HV := Lib.hid hv
    subst he
    have H1 := Lib.hid h1
    have B1 := Lib.hid b1
    clear hv h1 b1
    go_wp2
    go_ret
    rw [← HV.out]
    exact ⟨rfl, H1.out, B1.out⟩
 ·
  skip
  have HE := Lib.hid (show j.command g b = j.begin b from HE0)
  clear HE0
  go_enter Tryz.func86, Tryz.ntmps86
  go_wp2_with fail
  refine (HBE.out).mono ?_
  rintro e w1 ⟨he, h1, b1⟩
  obtain ⟨v, hv⟩ : ∃ v, v = (j.command g b).1 := ⟨_, rfl⟩
  rw [← HE.out, ← hv] at he
  rw [← HE.out] at h1
  have HV := Lib.hid hv
  subst he
  have H1 := Lib.hid h1
  have B1 := Lib.hid b1
  clear hv h1 b1
  go_wp2
  go_ret
  rw [← HV.out]
  exact ⟨rfl, H1.out, B1.out⟩
 ·
  skip
  have HE := Lib.hid (show j.command g b = j.endMove b from HE0)
  clear HE0
  go_enter Tryz.func86, Tryz.ntmps86
  go_wp2_with fail
  refine (HMO.out).mono ?_
  rintro e w1 ⟨he, h1, b1⟩
  obtain ⟨v, hv⟩ : ∃ v, v = (j.command g b).1 := ⟨_, rfl⟩
  rw [← HE.out, ← hv] at he
  rw [← HE.out] at h1
  have HV := Lib.hid hv
  subst he
  have H1 := Lib.hid h1
  have B1 := Lib.hid b1
  clear hv h1 b1
  go_wp2
  go_ret
  rw [← HV.out]
  exact ⟨rfl, H1.out, B1.out⟩
 ·
  skip
  have HE := Lib.hid (show j.command g b = j.endLoad g b from HE0)
  clear HE0
  go_enter Tryz.func86, Tryz.ntmps86
  go_wp2_with fail
  refine (HLO.out).mono ?_
  rintro e w1 ⟨he, h1, b1⟩
  obtain ⟨v, hv⟩ : ∃ v, v = (j.command g b).1 := ⟨_, rfl⟩
  rw [← HE.out, ← hv] at he
  rw [← HE.out] at h1
  have HV := Lib.hid hv
  subst he
  have H1 := Lib.hid h1
  have B1 := Lib.hid b1
  clear hv h1 b1
  go_wp2
  go_ret
  rw [← HV.out]
  exact ⟨rfl, H1.out, B1.out⟩
 ·
  skip
  have HE := Lib.hid (show j.command g b = j.endErase g b from HE0)
  clear HE0
  go_enter Tryz.func86, Tryz.ntmps86
  go_wp2_with fail
  refine (HER.out).mono ?_
  rintro e w1 ⟨he, h1, b1⟩
  obtain ⟨v, hv⟩ : ∃ v, v = (j.command g b).1 := ⟨_, rfl⟩
  rw [← HE.out, ← hv] at he
  rw [← HE.out] at h1
  have HV := Lib.hid hv
  subst he
  have H1 := Lib.hid h1
  have B1 := Lib.hid b1
  clear hv h1 b1
  go_wp2
  go_ret
  rw [← HV.out]
  exact ⟨rfl, H1.out, B1.out⟩
def Jd.cont (g : Gm) (j : Jd) (k : Int) (b : Nat) : Bool × Jd := if k = 1 then j.command g b else if k = 2 then j.addr g b else if k = 3 then j.write g else if k = 4 then j.read g else (false, j)
set_option maxHeartbeats 1000000 in
theorem jcont {q : Nat} (k : Int) (b : Nat) (hb : b < 256) (hq : q ≤ 100000) (hf : Jf g q j) (h : JH I w p g j) : Calls Tryz.prog 77 #[.pointer (some ⟨p, 0, none⟩), .agg #[.int .i64 k, .int .u8 (b : Int)]] w (ActsJ I p g (.bool (j.cont g k b).1) (j.cont g k b).2 w) := by
 have B0 := Lib.hid (below_new w (.cells #[.int .i64 k, .int .u8 (b : Int)] 93))
 have Z0 := Lib.hid (CRow.new w #[.int .i64 k, .int .u8 (b : Int)] 93)
 have H0 := Lib.hid (h.below B0.out)
 have hn3 := hf.ct
 have hn4 := hf.ls
 have hn5 := hf.cl
 have HCO := Lib.hid (jcommand b hb hq hf H0.out)
 have HAD := Lib.hid (jaddress b hb hf.op (by omega) H0.out)
 have HWR := Lib.hid (jwrite hf.op (by omega) (by omega) (by omega) H0.out)
 have HRD := Lib.hid (jread hf.op (by omega) (by omega) (by omega) H0.out)
 clear h hn3 hn4 hn5
 by_cases hk : k = 1
 ·
  skip
  have HE := Lib.hid (show j.cont g k b = j.command g b by unfold Jd.cont; simp [hk])
  subst hk
  clear hb hf
  have x0 := Z0.out.cell_at 0 _ rfl
  have x1 := Z0.out.cell_at 1 _ rfl
  go_enter Tryz.func77, Tryz.ntmps77
  go_wp2_with fail
  refine (HCO.out).mono ?_
  rintro e w1 ⟨he, h1, b1⟩
  obtain ⟨v, hv⟩ : ∃ v, v = (j.command g b).1 := ⟨_, rfl⟩
  obtain ⟨j2, hj⟩ : ∃ j2, j2 = (j.command g b).2 := ⟨_, rfl⟩
  rw [← hv] at he
  rw [← hj] at h1
  have HV := Lib.hid (show (v, j2) = j.command g b by rw [hv, hj])
  subst he
  have H1 := Lib.hid h1
  have B1 := Lib.hid ((Btw.of_below (I := I) B0.out).trans b1 fun _ _ h => h)
  clear hv hj h1 b1 x0 x1
  go_wp2
  go_ret
  rw [HE.out, ← HV.out]
  exact ⟨rfl, H1.out, B1.out⟩
 by_cases hk2 : k = 2
 ·
  have hk := hk2
  have HE := Lib.hid (show j.cont g k b = j.addr g b by unfold Jd.cont; simp [hk])
  subst hk
  clear hb hf
  have x0 := Z0.out.cell_at 0 _ rfl
  have x1 := Z0.out.cell_at 1 _ rfl
  go_enter Tryz.func77, Tryz.ntmps77
  go_wp2_with fail
  refine (HAD.out).mono ?_
  rintro e w1 ⟨he, h1, b1⟩
  obtain ⟨v, hv⟩ : ∃ v, v = (j.addr g b).1 := ⟨_, rfl⟩
  obtain ⟨j2, hj⟩ : ∃ j2, j2 = (j.addr g b).2 := ⟨_, rfl⟩
  rw [← hv] at he
  rw [← hj] at h1
  have HV := Lib.hid (show (v, j2) = j.addr g b by rw [hv, hj])
  subst he
  have H1 := Lib.hid h1
  have B1 := Lib.hid ((Btw.of_below (I := I) B0.out).trans b1 fun _ _ h => h)
  clear hv hj h1 b1 x0 x1
  go_wp2
  go_ret
  rw [HE.out, ← HV.out]
  exact ⟨rfl, H1.out, B1.out⟩
 by_cases hk3 : k = 3
 ·
  have hk := hk3
  have HE := Lib.hid (show j.cont g k b = j.write g by unfold Jd.cont; simp [hk])
  subst hk
  clear hb hf
  have x0 := Z0.out.cell_at 0 _ rfl
  have x1 := Z0.out.cell_at 1 _ rfl
  go_enter Tryz.func77, Tryz.ntmps77
  go_wp2_with fail
  refine (HWR.out).mono ?_
  rintro e w1 ⟨he, h1, b1⟩
  obtain ⟨v, hv⟩ : ∃ v, v = (j.write g).1 := ⟨_, rfl⟩
  obtain ⟨j2, hj⟩ : ∃ j2, j2 = (j.write g).2 := ⟨_, rfl⟩
  rw [← hv] at he
  rw [← hj] at h1
  have HV := Lib.hid (show (v, j2) = j.write g by rw [hv, hj])
  subst he
  have H1 := Lib.hid h1
  have B1 := Lib.hid ((Btw.of_below (I := I) B0.out).trans b1 fun _ _ h => h)
  clear hv hj h1 b1 x0 x1
  go_wp2
  go_ret
  rw [HE.out, ← HV.out]
  exact ⟨rfl, H1.out, B1.out⟩
 by_cases hk4 : k = 4
 ·
  have hk := hk4
  have HE := Lib.hid (show j.cont g k b = j.read g by unfold Jd.cont; simp [hk])
  subst hk
  clear hb hf
  have x0 := Z0.out.cell_at 0 _ rfl
  have x1 := Z0.out.cell_at 1 _ rfl
  go_enter Tryz.func77, Tryz.ntmps77
  go_wp2_with fail
  refine (HRD.out).mono ?_
  rintro e w1 ⟨he, h1, b1⟩
  obtain ⟨v, hv⟩ : ∃ v, v = (j.read g).1 := ⟨_, rfl⟩
  obtain ⟨j2, hj⟩ : ∃ j2, j2 = (j.read g).2 := ⟨_, rfl⟩
  rw [← hv] at he
  rw [← hj] at h1
  have HV := Lib.hid (show (v, j2) = j.read g by rw [hv, hj])
  subst he
  have H1 := Lib.hid h1
  have B1 := Lib.hid ((Btw.of_below (I := I) B0.out).trans b1 fun _ _ h => h)
  clear hv hj h1 b1 x0 x1
  go_wp2
  go_ret
  rw [HE.out, ← HV.out]
  exact ⟨rfl, H1.out, B1.out⟩
 have HE := Lib.hid (show j.cont g k b = (false, j) by unfold Jd.cont; rw [if_neg hk, if_neg hk2, if_neg hk3, if_neg hk4])
 have e1 : (k == 1) = false := by rw [beq_eq_false_iff_ne]; exact hk
 have e2 : (k == 2) = false := by rw [beq_eq_false_iff_ne]; exact hk2
 have e3 : (k == 3) = false := by rw [beq_eq_false_iff_ne]; exact hk3
 have e4 : (k == 4) = false := by rw [beq_eq_false_iff_ne]; exact hk4
 have f1 : decide (k = 1) = false := decide_eq_false hk
 have f2 : decide (k = 2) = false := decide_eq_false hk2
 have f3 : decide (k = 3) = false := decide_eq_false hk3
 have f4 : decide (k = 4) = false := decide_eq_false hk4
 have x0 := Z0.out.cell_at 0 _ rfl
 have x1 := Z0.out.cell_at 1 _ rfl
 clear hf hb hk hk2 hk3 hk4
 go_enter Tryz.func77, Tryz.ntmps77
 go_wp2
 go_ret
 rw [HE.out]
 exact ⟨rfl, H0.out, Btw.of_below B0.out⟩
def Jd.acc (g : Gm) (j : Jd) (k : Int) (b : Nat) : Bool × Jd :=
 if k = 1 ∧ b = 255 then (true, j.stop.start) else if j.op = 0 then (false, j) else if k = 1 ∧ b = 112 then (true, j.enter 1)
 else if k = 4 ∧ j.pol = true then (true, j.poll b) else if j.busy = true then (false, j) else j.cont g k b
theorem isC (k : Int) (b c : Nat) (v : Bool) (hv : decide (k = 1 ∧ b = c) = v) (C : Int) (hC : C = (c : Int)) (W : World) : Calls Tryz.prog 57 #[.agg #[.int .i64 k, .int .u8 (b : Int)], .int .u8 C] W (Gives (.bool v) W) := by
 subst hC
 have h := isCommand_any k (b : Int) (c : Int) W
 have e : decide (k = 1 ∧ (b : Int) = (c : Int)) = v := by rw [← hv]; exact decide_eq_decide.2 (by omega)
 rw [e] at h
 exact h
set_option maxHeartbeats 2000000 in
theorem jaccepts {q : Nat} (k : Int) (b : Nat) (hb : b < 256) (hq : q ≤ 100000) (hf : Jf g q j) (h : JH I w p g j) : Calls Tryz.prog 56 #[.pointer (some ⟨p, 0, none⟩), .agg #[.int .i64 k, .int .u8 (b : Int)]] w (ActsJ I p g (.bool (j.acc g k b).1) (j.acc g k b).2 w) := by
 have B0 := Lib.hid (below_new w (.cells #[.int .i64 k, .int .u8 (b : Int)] 93))
 have Z0 := Lib.hid (CRow.new w #[.int .i64 k, .int .u8 (b : Int)] 93)
 have H0 := Lib.hid (h.below B0.out)
 have hen := hf.en
 have HST := Lib.hid (fun W (hh : JH I W p g j) => jstop hf.eb (by omega) hh)
 have HPO := Lib.hid (fun W (hh : JH I W p g j) => jpoll b hb hf.eb (by omega) hh)
 have HCO := Lib.hid (fun W (hh : JH I W p g j) => jcont k b hb hq hf hh)
 have z0 := Z0.out.cell_at 0 _ rfl
 have z1 := Z0.out.cell_at 1 _ rfl
 have hop := Lib.hid hf.op
 clear h hf hb hen
 by_cases h1 : k = 1 ∧ b = 255
 ·
  have HC255 := Lib.hid (fun W => isC k b 255 true (decide_eq_true h1) 255 rfl W)
  have HE := Lib.hid (show j.acc g k b = (true, j.stop.start) by unfold Jd.acc; rw [if_pos h1])
  clear h1
  go_enter Tryz.func56, Tryz.ntmps56
  go_wp2_with fail
  clear z0 z1
  refine (HC255.out _).mono ?_
  rintro _ w1 ⟨rfl, h1⟩
  have B1 := Lib.hid (below_step B0.out h1)
  have H1 := Lib.hid (H0.out.below h1)
  have Z1 := Lib.hid (Z0.out.below h1)
  have z0 := Z1.out.cell_at 0 _ rfl
  have z1 := Z1.out.cell_at 1 _ rfl
  clear h1
  clear z0 z1
  go_wp2_with fail
  refine (HST.out _ H1.out).mono ?_
  rintro _ w2 ⟨rfl, h2, b2⟩
  have H2 := Lib.hid h2
  have B2 := Lib.hid ((Btw.of_below (I := I) B1.out).trans b2 fun _ _ h => h)
  clear h2 b2
  go_wp2_with fail
  refine (jstart H2.out).mono ?_
  rintro _ w3 ⟨rfl, h3, b3⟩
  have H3 := Lib.hid h3
  have B3 := Lib.hid (B2.out.trans b3 fun _ _ h => h)
  clear h3 b3
  go_wp2
  go_ret
  rw [HE.out]
  exact ⟨rfl, H3.out, B3.out⟩
 have HC255 := Lib.hid (fun W => isC k b 255 false (decide_eq_false h1) 255 rfl W)
 by_cases h2 : j.op = 0
 ·
  have HE := Lib.hid (show j.acc g k b = (false, j) by unfold Jd.acc; rw [if_neg h1, if_pos h2])
  have HT := Lib.hid h2
  clear h1 h2
  go_enter Tryz.func56, Tryz.ntmps56
  go_wp2_with fail
  clear z0 z1
  refine (HC255.out _).mono ?_
  rintro _ w1 ⟨rfl, h1⟩
  have B1 := Lib.hid (below_step B0.out h1)
  have H1 := Lib.hid (H0.out.below h1)
  have Z1 := Lib.hid (Z0.out.below h1)
  have z0 := Z1.out.cell_at 0 _ rfl
  have z1 := Z1.out.cell_at 1 _ rfl
  clear h1
  obtain ⟨m, hc, hr⟩ := H1.out
  have C1 := Lib.hid hc
  clear hc hr
  have x0 : w1.cell? ⟨p, 0, none⟩ = some (.int .i64 0) := by
   have h0 := C1.out.cell_at 0 (.int .i64 (j.op : Int)) rfl
   rw [HT.out] at h0
   exact h0
  go_wp2
  go_ret
  rw [HE.out]
  exact ⟨rfl, H1.out, Btw.of_below B1.out⟩
 obtain ⟨t, ht⟩ : ∃ t, t = j.op := ⟨_, rfl⟩
 have HT := Lib.hid ht
 have HT9 := Lib.hid (show t ≤ 9 by rw [ht]; exact hop.out)
 have ht0 : t ≠ 0 := by rw [ht]; exact h2
 have b0 : ((t : Int) == 0) = false := by simp; omega
 have j0 : ((t : Int) = 0) = False := eq_false (by omega)
 have d0 : decide ((t : Int) = 0) = false := decide_eq_false (by omega)
 have t00 : decide (t = 0) = false := decide_eq_false ht0
 have h2x := h2
 clear ht ht0
 by_cases h3 : k = 1 ∧ b = 112
 ·
  have HC112 := Lib.hid (fun W => isC k b 112 true (decide_eq_true h3) 112 rfl W)
  have HE := Lib.hid (show j.acc g k b = (true, j.enter 1) by unfold Jd.acc; rw [if_neg h1, if_neg h2, if_pos h3])
  clear h1 h2 h3 h2x
  go_enter Tryz.func56, Tryz.ntmps56
  go_wp2_with fail
  clear z0 z1
  refine (HC255.out _).mono ?_
  rintro _ w1 ⟨rfl, h1⟩
  have B1 := Lib.hid (below_step B0.out h1)
  have H1 := Lib.hid (H0.out.below h1)
  have Z1 := Lib.hid (Z0.out.below h1)
  have z0 := Z1.out.cell_at 0 _ rfl
  have z1 := Z1.out.cell_at 1 _ rfl
  clear h1
  obtain ⟨m, hc, hr⟩ := H1.out
  have C1 := Lib.hid hc
  clear hc hr
  have x0 : w1.cell? ⟨p, 0, none⟩ = some (.int .i64 (t : Int)) := by rw [HT.out]; exact C1.out.cell_at 0 _ rfl
  go_wp2_with fail
  clear z0 z1
  refine (HC112.out _).mono ?_
  rintro _ w2 ⟨rfl, h1⟩
  have B2 := Lib.hid (below_step B1.out h1)
  have H2 := Lib.hid (H1.out.below h1)
  have Z2 := Lib.hid (Z1.out.below h1)
  have z0 := Z2.out.cell_at 0 _ rfl
  have z1 := Z2.out.cell_at 1 _ rfl
  clear h1
  clear z0 z1 x0
  go_wp2_with fail
  refine (jenter 1 H2.out).mono ?_
  rintro _ w3 ⟨rfl, h3, b3⟩
  have H3 := Lib.hid h3
  have B3 := Lib.hid ((Btw.of_below (I := I) B2.out).trans b3 fun _ _ h => h)
  clear h3 b3
  go_wp2
  go_ret
  rw [HE.out]
  exact ⟨rfl, H3.out, B3.out⟩
 have HC112 := Lib.hid (fun W => isC k b 112 false (decide_eq_false h3) 112 rfl W)
 by_cases h4 : k = 4 ∧ j.pol = true
 ·
  have HE := Lib.hid (show j.acc g k b = (true, j.poll b) by unfold Jd.acc; rw [if_neg h1, if_neg h2, if_neg h3, if_pos h4])
  have HP := Lib.hid h4.2
  obtain rfl := h4.1
  clear h1 h2 h3 h2x h4
  go_enter Tryz.func56, Tryz.ntmps56
  go_wp2_with fail
  clear z0 z1
  refine (HC255.out _).mono ?_
  rintro _ w1 ⟨rfl, h1⟩
  have B1 := Lib.hid (below_step B0.out h1)
  have H1 := Lib.hid (H0.out.below h1)
  have Z1 := Lib.hid (Z0.out.below h1)
  have z0 := Z1.out.cell_at 0 _ rfl
  have z1 := Z1.out.cell_at 1 _ rfl
  clear h1
  obtain ⟨m, hc, hr⟩ := H1.out
  have C1 := Lib.hid hc
  clear hc hr
  have x0 : w1.cell? ⟨p, 0, none⟩ = some (.int .i64 (t : Int)) := by rw [HT.out]; exact C1.out.cell_at 0 _ rfl
  go_wp2_with fail
  clear z0 z1
  refine (HC112.out _).mono ?_
  rintro _ w2 ⟨rfl, h1⟩
  have B2 := Lib.hid (below_step B1.out h1)
  have H2 := Lib.hid (H1.out.below h1)
  have Z2 := Lib.hid (Z1.out.below h1)
  have z0 := Z2.out.cell_at 0 _ rfl
  have z1 := Z2.out.cell_at 1 _ rfl
  clear h1
  have x4 : w2.cell? ⟨p, 4, none⟩ = some (.bool true) := by
   obtain ⟨m2, hc2, _⟩ := H2.out
   have h0 := hc2.cell_at 4 (.bool j.pol) rfl
   rw [HP.out] at h0
   exact h0
  clear x0
  go_wp2_with fail
  clear z0 z1 x4
  refine (HPO.out _ H2.out).mono ?_
  rintro _ w3 ⟨rfl, h3, b3⟩
  have H3 := Lib.hid h3
  have B3 := Lib.hid ((Btw.of_below (I := I) B2.out).trans b3 fun _ _ h => h)
  clear h3 b3
  go_wp2
  go_ret
  rw [HE.out]
  exact ⟨rfl, H3.out, B3.out⟩
 obtain ⟨pl, hpl⟩ : ∃ pl, pl = j.pol := ⟨_, rfl⟩
 have HPL := Lib.hid hpl
 rw [← hpl] at h4
 have h4x : ¬ (k = 4 ∧ j.pol = true) := by rw [← hpl]; exact h4
 clear hpl
 by_cases hk4 : k = 4
 ·
  have hpf : pl = false := by
   cases pl with
   | false => rfl
   | true => exact absurd ⟨hk4, rfl⟩ h4
  subst hk4
  subst hpf
  cases hbu : j.busy with
  | true =>
   have HE := Lib.hid (show j.acc g 4 b = (false, j) by unfold Jd.acc; rw [if_neg h1, if_neg h2, if_neg h3, if_neg h4x, if_pos hbu])
   have HBU := Lib.hid hbu
   clear h1 h2 h3 h2x h4 h4x hbu
   go_enter Tryz.func56, Tryz.ntmps56
   go_wp2_with fail
   clear z0 z1
   refine (HC255.out _).mono ?_
   rintro _ w1 ⟨rfl, h1⟩
   have B1 := Lib.hid (below_step B0.out h1)
   have H1 := Lib.hid (H0.out.below h1)
   have Z1 := Lib.hid (Z0.out.below h1)
   have z0 := Z1.out.cell_at 0 _ rfl
   have z1 := Z1.out.cell_at 1 _ rfl
   clear h1
   obtain ⟨m, hc, hr⟩ := H1.out
   have C1 := Lib.hid hc
   clear hc hr
   have x0 : w1.cell? ⟨p, 0, none⟩ = some (.int .i64 (t : Int)) := by rw [HT.out]; exact C1.out.cell_at 0 _ rfl
   go_wp2_with fail
   clear z0 z1
   refine (HC112.out _).mono ?_
   rintro _ w2 ⟨rfl, h1⟩
   have B2 := Lib.hid (below_step B1.out h1)
   have H2 := Lib.hid (H1.out.below h1)
   have Z2 := Lib.hid (Z1.out.below h1)
   have z0 := Z2.out.cell_at 0 _ rfl
   have z1 := Z2.out.cell_at 1 _ rfl
   clear h1
   have x4 : w2.cell? ⟨p, 4, none⟩ = some (.bool false) := by
    obtain ⟨m2, hc2, _⟩ := H2.out
    have h0 := hc2.cell_at 4 (.bool j.pol) rfl
    rw [← HPL.out] at h0
    exact h0
   have x3 : w2.cell? ⟨p, 3, none⟩ = some (.bool true) := by
    obtain ⟨m2, hc2, _⟩ := H2.out
    have h0 := hc2.cell_at 3 (.bool j.busy) rfl
    rw [HBU.out] at h0
    exact h0
   clear x0
   go_wp2
   go_ret
   rw [HE.out]
   exact ⟨rfl, H2.out, Btw.of_below B2.out⟩
  | false =>
   have HE := Lib.hid (show j.acc g 4 b = j.cont g 4 b by unfold Jd.acc; rw [if_neg h1, if_neg h2, if_neg h3, if_neg h4x, if_neg (by rw [hbu]; decide)])
   have HBU := Lib.hid hbu
   clear h1 h2 h3 h2x h4 h4x hbu
   go_enter Tryz.func56, Tryz.ntmps56
   go_wp2_with fail
   clear z0 z1
   refine (HC255.out _).mono ?_
   rintro _ w1 ⟨rfl, h1⟩
   have B1 := Lib.hid (below_step B0.out h1)
   have H1 := Lib.hid (H0.out.below h1)
   have Z1 := Lib.hid (Z0.out.below h1)
   have z0 := Z1.out.cell_at 0 _ rfl
   have z1 := Z1.out.cell_at 1 _ rfl
   clear h1
   obtain ⟨m, hc, hr⟩ := H1.out
   have C1 := Lib.hid hc
   clear hc hr
   have x0 : w1.cell? ⟨p, 0, none⟩ = some (.int .i64 (t : Int)) := by rw [HT.out]; exact C1.out.cell_at 0 _ rfl
   go_wp2_with fail
   clear z0 z1
   refine (HC112.out _).mono ?_
   rintro _ w2 ⟨rfl, h1⟩
   have B2 := Lib.hid (below_step B1.out h1)
   have H2 := Lib.hid (H1.out.below h1)
   have Z2 := Lib.hid (Z1.out.below h1)
   have z0 := Z2.out.cell_at 0 _ rfl
   have z1 := Z2.out.cell_at 1 _ rfl
   clear h1
   have x4 : w2.cell? ⟨p, 4, none⟩ = some (.bool false) := by
    obtain ⟨m2, hc2, _⟩ := H2.out
    have h0 := hc2.cell_at 4 (.bool j.pol) rfl
    rw [← HPL.out] at h0
    exact h0
   have x3 : w2.cell? ⟨p, 3, none⟩ = some (.bool false) := by
    obtain ⟨m2, hc2, _⟩ := H2.out
    have h0 := hc2.cell_at 3 (.bool j.busy) rfl
    rw [HBU.out] at h0
    exact h0
   clear x0
   go_wp2_with fail
   clear z0 z1 x4 x3
   refine (HCO.out _ H2.out).mono ?_
   rintro e w3 ⟨he, h3, b3⟩
   obtain ⟨v, hv⟩ : ∃ v, v = (j.cont g 4 b).1 := ⟨_, rfl⟩
   obtain ⟨j2, hj⟩ : ∃ j2, j2 = (j.cont g 4 b).2 := ⟨_, rfl⟩
   rw [← hv] at he
   rw [← hj] at h3
   have HV := Lib.hid (show (v, j2) = j.cont g 4 b by rw [hv, hj])
   subst he
   have H3 := Lib.hid h3
   have B3 := Lib.hid ((Btw.of_below (I := I) B2.out).trans b3 fun _ _ h => h)
   clear hv hj h3 b3
   go_wp2
   go_ret
   rw [HE.out, ← HV.out]
   exact ⟨rfl, H3.out, B3.out⟩
 ·
  have e4 : (k == 4) = false := by rw [beq_eq_false_iff_ne]; exact hk4
  have f4 : decide (k = 4) = false := decide_eq_false hk4
  clear hk4
  cases hbu : j.busy with
  | true =>
   have HE := Lib.hid (show j.acc g k b = (false, j) by unfold Jd.acc; rw [if_neg h1, if_neg h2, if_neg h3, if_neg h4x, if_pos hbu])
   have HBU := Lib.hid hbu
   clear h1 h2 h3 h2x h4 h4x hbu
   go_enter Tryz.func56, Tryz.ntmps56
   go_wp2_with fail
   clear z0 z1
   refine (HC255.out _).mono ?_
   rintro _ w1 ⟨rfl, h1⟩
   have B1 := Lib.hid (below_step B0.out h1)
   have H1 := Lib.hid (H0.out.below h1)
   have Z1 := Lib.hid (Z0.out.below h1)
   have z0 := Z1.out.cell_at 0 _ rfl
   have z1 := Z1.out.cell_at 1 _ rfl
   clear h1
   obtain ⟨m, hc, hr⟩ := H1.out
   have C1 := Lib.hid hc
   clear hc hr
   have x0 : w1.cell? ⟨p, 0, none⟩ = some (.int .i64 (t : Int)) := by rw [HT.out]; exact C1.out.cell_at 0 _ rfl
   go_wp2_with fail
   clear z0 z1
   refine (HC112.out _).mono ?_
   rintro _ w2 ⟨rfl, h1⟩
   have B2 := Lib.hid (below_step B1.out h1)
   have H2 := Lib.hid (H1.out.below h1)
   have Z2 := Lib.hid (Z1.out.below h1)
   have z0 := Z2.out.cell_at 0 _ rfl
   have z1 := Z2.out.cell_at 1 _ rfl
   clear h1
   have x4 : w2.cell? ⟨p, 4, none⟩ = some (.bool pl) := by
    obtain ⟨m2, hc2, _⟩ := H2.out
    have h0 := hc2.cell_at 4 (.bool j.pol) rfl
    rw [← HPL.out] at h0
    exact h0
   have x3 : w2.cell? ⟨p, 3, none⟩ = some (.bool true) := by
    obtain ⟨m2, hc2, _⟩ := H2.out
    have h0 := hc2.cell_at 3 (.bool j.busy) rfl
    rw [HBU.out] at h0
    exact h0
   clear x0
   go_wp2
   go_ret
   rw [HE.out]
   exact ⟨rfl, H2.out, Btw.of_below B2.out⟩
  | false =>
   have HE := Lib.hid (show j.acc g k b = j.cont g k b by unfold Jd.acc; rw [if_neg h1, if_neg h2, if_neg h3, if_neg h4x, if_neg (by rw [hbu]; decide)])
   have HBU := Lib.hid hbu
   clear h1 h2 h3 h2x h4 h4x hbu
   go_enter Tryz.func56, Tryz.ntmps56
   go_wp2_with fail
   clear z0 z1
   refine (HC255.out _).mono ?_
   rintro _ w1 ⟨rfl, h1⟩
   have B1 := Lib.hid (below_step B0.out h1)
   have H1 := Lib.hid (H0.out.below h1)
   have Z1 := Lib.hid (Z0.out.below h1)
   have z0 := Z1.out.cell_at 0 _ rfl
   have z1 := Z1.out.cell_at 1 _ rfl
   clear h1
   obtain ⟨m, hc, hr⟩ := H1.out
   have C1 := Lib.hid hc
   clear hc hr
   have x0 : w1.cell? ⟨p, 0, none⟩ = some (.int .i64 (t : Int)) := by rw [HT.out]; exact C1.out.cell_at 0 _ rfl
   go_wp2_with fail
   clear z0 z1
   refine (HC112.out _).mono ?_
   rintro _ w2 ⟨rfl, h1⟩
   have B2 := Lib.hid (below_step B1.out h1)
   have H2 := Lib.hid (H1.out.below h1)
   have Z2 := Lib.hid (Z1.out.below h1)
   have z0 := Z2.out.cell_at 0 _ rfl
   have z1 := Z2.out.cell_at 1 _ rfl
   clear h1
   have x4 : w2.cell? ⟨p, 4, none⟩ = some (.bool pl) := by
    obtain ⟨m2, hc2, _⟩ := H2.out
    have h0 := hc2.cell_at 4 (.bool j.pol) rfl
    rw [← HPL.out] at h0
    exact h0
   have x3 : w2.cell? ⟨p, 3, none⟩ = some (.bool false) := by
    obtain ⟨m2, hc2, _⟩ := H2.out
    have h0 := hc2.cell_at 3 (.bool j.busy) rfl
    rw [HBU.out] at h0
    exact h0
   clear x0
   go_wp2_with fail
   clear z0 z1 x4 x3
   refine (HCO.out _ H2.out).mono ?_
   rintro e w3 ⟨he, h3, b3⟩
   obtain ⟨v, hv⟩ : ∃ v, v = (j.cont g k b).1 := ⟨_, rfl⟩
   obtain ⟨j2, hj⟩ : ∃ j2, j2 = (j.cont g k b).2 := ⟨_, rfl⟩
   rw [← hv] at he
   rw [← hj] at h3
   have HV := Lib.hid (show (v, j2) = j.cont g k b by rw [hv, hj])
   subst he
   have H3 := Lib.hid h3
   have B3 := Lib.hid ((Btw.of_below (I := I) B2.out).trans b3 fun _ _ h => h)
   clear hv hj h3 b3
   go_wp2
   go_ret
   rw [HE.out, ← HV.out]
   exact ⟨rfl, H3.out, B3.out⟩
end
end Go.Proofs.YtmbgoopkpfhamaaGreat
