/-
  The walk of ChipStill.
-/
import Derived.Test.YtlalghhaibknfaaGreatChipStillJ14
import Derived.Test.YtlalghhaibknfaaGreatChipStillJArAw
import Derived.Test.YtlalghhaibknfaaGreatChipStillJ10
namespace Go.Proofs.YtlalghhaibknfaaGreat
open Go.RowKit
set_option maxRecDepth 100000

/-- append onto a row of one's own, elements of one cell; it tells where the row lies then. -/
theorem wpList_append_at1 (w : World) {ops : Array Oper} {rest : List Oper} {o : Oper} {a : Act} {Q : Exit → Act → World → Prop} (hgd : o.guard = none) (s x : Operand) (t : TypeId)
    (ho : o.op = .call { callee := .builtin .append, args := #[s, x], argTypes := #[t, t] })
    (base : Nat) (e : TypeId) (i : TypeInfo) (z : Value) (bytes : Nat) (ht : Tryz.prog.underlying t = some (.slice e)) (hi : Tryz.prog.info? e = some i) (hz : i.zero = some z) (hsize : i.size = 1) (hby : i.bytes = bytes) (hzs : z.cells.size = 1)
    (v : Value) (n : Nat) (xs : List Value) (hs : a.eval s = v) (hown : w.ownsRow base e 1 v n xs)
    (ad : Addr) (m c : Nat) (news : List Value) (hx : a.eval x = .slice (some ad) m c) (hl : news.length = m) (hnews : ∀ j u, news[j]? = some u → w.cell? (ad.add j) = some u) (h1 : ∀ u ∈ news, u.oneCell' = true)
    (h63 : n + m ≤ maxLen) (hbytes : (n + m) * bytes ≤ 140737488355328) (hbase : base ≤ w.heap.size)
    (h : ∀ v' w', w'.ownsRow base e 1 v' (n + m) (xs ++ news) → w.grownBy w' v.ownBlock → (v'.ownBlock = v.ownBlock ∨ v'.ownBlock = some w.heap.size) → wpList Tryz.prog ops Q rest (a.put o.dst v') w') : wpList Tryz.prog ops Q (o :: rest) a w := by
  refine wpList_plain hgd fun K hK => ?_
  obtain ⟨v', w', hrun, h2, h3, _, h4⟩ := run_append_own_at (P := Tryz.prog) (w := w) base t o.type e i z 1 bytes ht hi hz hsize hby hzs (by decide) v n xs hown ad m c news (by omega) hnews h1 h63 hbytes hbase
  unfold Oper.wp execOp
  simp only [ho, resolve, invoke, builtin, Sem.run_bind, Sem.run_pure, Result.andThen_ok, List.map_toArray, List.map_cons, List.map_nil, hs, hx, hrun]
  exact hK _ _ (h v' w' h2 h3 h4)
theorem info_sl24 : (Tryz.prog.info? 26).map (fun i => (i.zero, i.size, i.bytes)) = some (some (.slice none 0 0), 1, 24) := by kernel_rfl
/-- Raw pages that were kept, apart from the blocks of J. -/
structure Kept (J : Nat → Prop) (w : World) (v : Value) (xs : List Value) (rows : List Pg) (k : Nat) : Prop where
  len : xs.length = k
  at_ : ∀ r, r < k → ∃ a c y, xs[r]? = some (.slice a y.raw.length c) ∧ rows[r]? = some y ∧ R8 w a y.raw.length y.raw ∧ ∀ b off, a = some ⟨b, off, none⟩ → ¬ J b ∧ b < w.heap.size ∧ v.ownBlock ≠ some b
theorem Kept.btw {J J' K : Nat → Prop} {w w' : World} {v : Value} {xs : List Value} {rows : List Pg} {k : Nat} (h : Kept J w v xs rows k) (hb : Btw K w w') (hK : ∀ j, K j → J j ∨ v.ownBlock = some j) (hJ : ∀ j, j < w.heap.size → J' j → J j) : Kept J' w' v xs rows k :=
  ⟨h.len, fun r hr => by
    obtain ⟨a, c, y, h1, h2, h3, h4⟩ := h.at_ r hr
    exact ⟨a, c, y, h1, h2, h3.btw0 hb fun b off e _ hk => by
      obtain ⟨h5, _, h6⟩ := h4 b off e
      rcases hK b hk with h7 | h7
      · exact h5 h7
      · exact h6 h7, fun b off e => by
      obtain ⟨h5, h7, h6⟩ := h4 b off e
      exact ⟨fun hj => h5 (hJ b h7 hj), Nat.lt_of_lt_of_le h7 hb.size, h6⟩⟩⟩
/-- One more. -/
theorem Kept.push {J : Nat → Prop} {w w' w6 : World} {v v' : Value} {xs : List Value} {rows : List Pg} {k : Nat} {a : Option Addr} {c : Nat} {y : Pg} (h : Kept J w v xs rows k) (hy : rows[k]? = some y) (ha : R8 w' a y.raw.length y.raw) (hb : Below w.heap.size w w')
    (hn : ∀ b off, a = some ⟨b, off, none⟩ → w.heap.size ≤ b ∧ b < w'.heap.size) (hv : ∀ j, v.ownBlock = some j → j < w.heap.size) (hg : Btw (fun j => v.ownBlock = some j) w' w6) (hw : v'.ownBlock = v.ownBlock ∨ ∃ j, v'.ownBlock = some j ∧ w'.heap.size ≤ j) :
    Kept (fun j => J j ∧ (j < w.heap.size ∨ w6.heap.size ≤ j)) w6 v' (xs ++ [.slice a y.raw.length c]) rows (k + 1) := by
  have hne : ∀ b, b < w'.heap.size → v.ownBlock ≠ some b → v'.ownBlock ≠ some b := fun b h1 h2 h3 => by
    rcases hw with e | ⟨j, e, hj⟩
    · exact h2 (e ▸ h3)
    · rw [e] at h3
      injection h3 with h3
      omega
  refine ⟨by rw [List.length_append, h.len]; rfl, fun r hr => ?_⟩
  by_cases e : r = k
  · subst e
    refine ⟨a, c, y, ?_, hy, ha.btw0 hg fun b off e _ hk => ?_, fun b off e => ?_⟩
    · rw [List.getElem?_append_right (by rw [h.len]; omega), h.len, Nat.sub_self]; rfl
    · have := hn b off e
      have := hv b hk
      omega
    · have h1 := hn b off e
      refine ⟨fun hj => by have := hj.2; have := hg.size; omega, Nat.lt_of_lt_of_le h1.2 hg.size, hne b h1.2 fun hk => ?_⟩
      have := hv b hk
      omega
  · obtain ⟨a1, c1, y1, h1, h2, h3, h4⟩ := h.at_ r (by omega)
    refine ⟨a1, c1, y1, by rw [List.getElem?_append_left (by rw [h.len]; omega)]; exact h1, h2, (h3.below hb).btw0 hg fun b off e _ hk => (h4 b off e).2.2 hk, fun b off e => ?_⟩
    have h5 := h4 b off e
    have h6 := hb.size
    exact ⟨fun hj => h5.1 hj.1, Nat.lt_of_lt_of_le h5.2.1 (Nat.le_trans h6 hg.size), hne b (by omega) h5.2.2⟩
/-- A chip for which nothing waits, behind at most q cycles. -/
structure Qt (a : St) (q : Nat) (c : Ch) : Prop where
  st : c.state = 0
  on : c.on = true
  eng : c.engaged = false
  th : c.there = false
  pr : c.progs = []
  bl : c.blocks = []
  cut : c.cut = -1
  cyc : c.cycles ≤ q
  arr : c.arr = a
  wk : c.wk = 0
theorem Qt.step {a : St} {q : Nat} {c : Ch} (h : Qt a q c) : Qt a (q + 1) c.tick.leave :=
  ⟨rfl, h.on, h.eng, h.th, h.pr, h.bl, by show (if c.cut = -1 then -1 else c.cut - 1) = -1; rw [if_pos h.cut], by show c.cycles + 1 ≤ q + 1; have := h.cyc; omega, h.arr, h.wk⟩
theorem R8.low {w : World} {a : Option Addr} {n : Nat} {l : List Nat} (h : R8 w a n l) (hn : 0 < n) : ∀ b off, a = some ⟨b, off, none⟩ → b < w.heap.size := fun b off e => by
  obtain ⟨b', off', e', hb, _⟩ := h.1.2 hn
  rw [e] at e'
  injection e' with e'
  injection e' with e1 _
  omega
theorem new_rows (g : Gm) (s : Sc) (i : Nat) (h : i < (g.b * g.s).toNat) (hN : 0 < g.raw.toNat) : ∃ y, (Ch.new g s).arr.rows[i]? = some y ∧ y.n = 0 ∧ 0 < y.raw.length := by
  refine ⟨_, newR_get g.raw.toNat _ g.s.toNat s.marked i h, ?_⟩
  split
  · exact ⟨rfl, by simp [mrk]; omega⟩
  · exact ⟨rfl, by simp [ersd]; omega⟩
set_option maxHeartbeats 4000000 in
theorem ChipStill_walk (g : Gm) (m : Sa) (s : Sc) (A : Option Addr) (n d : Nat) (l : List Cy) (w : World) (h : SIn w m s) (hl : RC w A n l) (hn : n ≤ 9223372036854775807) :
    Calls Tryz.prog 3 #[g.val, m.val s, .slice A n d] w (Gives (.bool true) w) := by
  have HI := Lib.hid h
  have HR := Lib.hid hl
  have HS := Lib.hid (fun W => show Calls Tryz.prog 13 #[g.val] W (Checks (small13 g) W) from by
    obtain ⟨v, hv, hc⟩ := Small13_any g W
    exact hc.mono fun e w' h => ⟨v, h.1, hv, h.2⟩)
  have S0 := Lib.hid (CRow.new (w.alloc (.cells #[.int .i64 g.p, .int .i64 g.b, .int .i64 g.s, .int .i64 g.c, .int .i64 g.k, .int .i64 g.r, .int .i64 g.q] 23)) (m.cells s) 28)
  have S0 := Lib.hid (show CRow _ (w.heap.size + 1) 28 (m.cells s) by simpa using S0.out)
  have Y0 := Lib.hid ((GBox.new w g 23).below (below_new _ (.cells (m.cells s) 28)))
  have B0 := Lib.hid ((below_new w (.cells #[.int .i64 g.p, .int .i64 g.b, .int .i64 g.s, .int .i64 g.c, .int .i64 g.k, .int .i64 g.r, .int .i64 g.q] 23)).alloc (by simp) (.cells (m.cells s) 28))
  clear h hl
  simp only [Gm.val, Sa.val, Sa.cells] at *
  go_enter Tryz.func3, Tryz.ntmps3
  go_wp2_with fail
  refine (awake14_any _).mono ?_
  rintro _ w1 ⟨rfl, hB⟩
  have B1 := Lib.hid (below_step B0.out hB)
  have Y1 := Lib.hid (Y0.out.below hB)
  have S1 := Lib.hid (S0.out.below hB)
  clear hB B0 Y0 S0
  go_wp2_with fail
  refine (Power_nil _).mono ?_
  rintro _ w2 ⟨rfl, hB⟩
  have B2 := Lib.hid (below_step B1.out hB)
  have Y2 := Lib.hid (Y1.out.below hB)
  have S2 := Lib.hid (S1.out.below hB)
  clear hB B1 Y1 S1
  go_wp2_with fail
  refine (Cut_nil 3 _).mono ?_
  rintro _ w3 ⟨rfl, hB⟩
  have B3 := Lib.hid (below_step B2.out hB)
  have Y3 := Lib.hid (Y2.out.below hB)
  have S3 := Lib.hid (S2.out.below hB)
  clear hB B2 Y2 S2
  go_wp2_with fail
  refine (Do_nil 0 0 _).mono ?_
  rintro _ w4 ⟨rfl, hB⟩
  have B4 := Lib.hid (below_step B3.out hB)
  have Y4 := Lib.hid (Y3.out.below hB)
  have S4 := Lib.hid (S3.out.below hB)
  clear hB B3 Y3 S3
  go_wp2_with fail
  refine (On_nil _).mono ?_
  rintro _ w5 ⟨rfl, hB⟩
  have B5 := Lib.hid (below_step B4.out hB)
  have Y5 := Lib.hid (Y4.out.below hB)
  have S5 := Lib.hid (S4.out.below hB)
  clear hB B4 Y4 S4
  go_wp2_with fail
  refine (Cycles_nil _).mono ?_
  rintro _ w6 ⟨rfl, hB⟩
  have B6 := Lib.hid (below_step B5.out hB)
  have Y6 := Lib.hid (Y5.out.below hB)
  have S6 := Lib.hid (S5.out.below hB)
  clear hB B5 Y5 S5
  go_wp2_with fail
  refine (Work_nil _).mono ?_
  rintro _ w7 ⟨rfl, hB⟩
  have B7 := Lib.hid (below_step B6.out hB)
  have Y7 := Lib.hid (Y6.out.below hB)
  have S7 := Lib.hid (S6.out.below hB)
  clear hB B6 Y6 S6
  go_wp2_with fail
  refine (Array_nil _).mono ?_
  rintro _ w8 ⟨rfl, hB⟩
  have B8 := Lib.hid (below_step B7.out hB)
  have Y8 := Lib.hid (Y7.out.below hB)
  have S8 := Lib.hid (S7.out.below hB)
  clear hB B7 Y7 S7
  obtain ⟨_, g0, g1, g2, g3, g4, g5, g6⟩ := Y8.out
  go_wp2_with fail
  clear g0 g1 g2 g3 g4 g5 g6
  refine (HS.out _).mono ?_
  rintro _ w9 ⟨v, rfl, hv, hB⟩
  have B9 := Lib.hid (below_step B8.out hB)
  have Y9 := Lib.hid (Y8.out.below hB)
  have S9 := Lib.hid (S8.out.below hB)
  clear hB B8 Y8 S8 HS
  cases v
  · clear hv
    go_wp2
    go_ret
    exact ⟨rfl, B9.out⟩
  have HSM := Lib.hid (hv.1 rfl)
  clear hv
  have y0 := S9.out.cell_at 0 (.slice m.a1 s.busy.length m.c1) rfl
  have y1 := S9.out.cell_at 1 (.slice m.a2 s.fails.length m.c2) rfl
  have y2 := S9.out.cell_at 2 (.slice m.a3 s.turns.length m.c3) rfl
  have y3 := S9.out.cell_at 3 (.int .i64 s.cut) rfl
  have y4 := S9.out.cell_at 4 (.slice m.a4 s.torn.length m.c4) rfl
  have y5 := S9.out.cell_at 5 (.slice m.a5 s.marked.length m.c5) rfl
  go_wp2_with fail
  clear y0 y1 y2 y3 y4 y5
  refine (Few_any m s _).mono ?_
  rintro _ w10 ⟨v, rfl, hv, hB⟩
  have B10 := Lib.hid (below_step B9.out hB)
  have Y10 := Lib.hid (Y9.out.below hB)
  have S10 := Lib.hid (S9.out.below hB)
  clear hB B9 Y9 S9
  cases v
  · clear hv
    go_wp2
    go_ret
    exact ⟨rfl, B10.out⟩
  have HF := Lib.hid (hv.1 rfl)
  clear hv
  by_cases h200 : n ≤ 200
  rotate_left
  · have d1 : decide (200 < (n : Int)) = true := decide_eq_true (by omega)
    go_wp2
    go_ret
    exact ⟨rfl, B10.out⟩
  have d1 : decide (200 < (n : Int)) = false := decide_eq_false (by omega)
  obtain ⟨_, g0, g1, g2, g3, g4, g5, g6⟩ := Y10.out
  have y0 := S10.out.cell_at 0 (.slice m.a1 s.busy.length m.c1) rfl
  have y1 := S10.out.cell_at 1 (.slice m.a2 s.fails.length m.c2) rfl
  have y2 := S10.out.cell_at 2 (.slice m.a3 s.turns.length m.c3) rfl
  have y3 := S10.out.cell_at 3 (.int .i64 s.cut) rfl
  have y4 := S10.out.cell_at 4 (.slice m.a4 s.torn.length m.c4) rfl
  have y5 := S10.out.cell_at 5 (.slice m.a5 s.marked.length m.c5) rfl
  by_cases hok : g.ok = true
  rotate_left
  · have HNB := Lib.hid (fun W => ChipNew_bad g (by simpa using hok) m s W)
    simp only [Gm.val, Sa.val, Sa.cells] at HNB
    clear hok
    go_wp2_with fail
    clear g0 g1 g2 g3 g4 g5 g6 y0 y1 y2 y3 y4 y5
    refine (HNB.out _).mono ?_
    rintro _ w11 ⟨rfl, hB⟩
    have B11 := Lib.hid (below_step B10.out hB)
    clear hB HNB
    go_wp2
    go_ret
    exact ⟨rfl, B11.out⟩
  have HN := Lib.hid (fun W h => ChipNew_any g hok (raw_small hok HSM.out) m s W h HF.out.short)
  simp only [Gm.val, Sa.val, Sa.cells] at HN
  have HOK := Lib.hid hok
  clear hok
  go_wp2_with fail
  clear g0 g1 g2 g3 g4 g5 g6 y0 y1 y2 y3 y4 y5
  refine (HN.out _ (HI.out.below B10.out)).mono ?_
  rintro _ w11 hR
  rcases hR with ⟨hsk, p, rfl, hB, hC⟩ | ⟨hno, rfl, hB⟩
  rotate_left
  · have B11 := Lib.hid (below_step B10.out hB)
    clear hno hB HN
    go_wp2
    go_ret
    exact ⟨rfl, B11.out⟩
  have B11 := Lib.hid (below_step B10.out hB)
  have Y11 := Lib.hid (Y10.out.below hB)
  have SOK := Lib.hid hsk
  have C11 := Lib.hid hC
  have L11 := Lib.hid B10.out.size
  clear hsk hB hC HN S10 HI
  have hbd := Gm.bounds_of HOK.out
  have hraw : g.raw = g.c * (g.k + 2) + 31 := by unfold Gm.raw; rw [if_pos HOK.out]
  have hck : 0 ≤ g.c * (g.k + 2) := Int.mul_nonneg (by omega) (by omega)
  have hN0 : 0 < g.raw.toNat := by omega
  obtain ⟨R, hR⟩ : ∃ R, R = (g.b * g.s).toNat := ⟨_, rfl⟩
  have hms : 0 ≤ g.b * g.s ∧ g.b * g.s ≤ 256 * 64 := ⟨Int.mul_nonneg (by omega) (by omega), Int.mul_le_mul (by omega) (by omega) (by omega) (by omega)⟩
  have hR6 : R ≤ 16384 := by omega
  have HRR := Lib.hid hR
  have HW : IntKind.i64.wrap (g.b * g.s) = (R : Int) := by
    rw [IntWalk.i64_in _ (by omega)]
    omega
  obtain ⟨c0, hc0⟩ : ∃ c0, c0 = Ch.new g s := ⟨_, rfl⟩
  have HRW := Lib.hid (fun i (hi : i < R) => show ∃ y, c0.arr.rows[i]? = some y ∧ y.n = 0 ∧ 0 < y.raw.length from hc0 ▸ new_rows g s i (by omega) hN0)
  have HC0 := Lib.hid hc0
  rw [← hc0] at C11
  obtain ⟨i0, hi, hz0, hz1, hz2⟩ := info_parts info_sl24
  clear hbd hraw hck hN0 hR hms hc0
  obtain ⟨_, g0, g1, g2, g3, g4, g5, g6⟩ := Y11.out
  have O11 := Lib.hid (show w11.ownsRow 0 26 1 (.slice none 0 0) 0 [] from ⟨rfl, .inl ⟨rfl, rfl⟩⟩)
  go_wp2
  clear g0 g1 g2 g3 g4 g5 g6 HW
  go_loopw [13, 88] (fun v i wr => ∃ (k : Nat) (xs : List Value) (A2 : Option Addr) (c2 : Nat) (J : Nat → Prop), k ≤ R ∧ v = .slice A2 k c2 ∧ i = .int .i64 (k : Int) ∧ Hid (CH J wr p g s c0) ∧ Hid (wr.ownsRow 0 26 1 (.slice A2 k c2) k xs) ∧ Hid (Kept J wr (.slice A2 k c2) xs c0.arr.rows k) ∧
    Hid (∀ j, (Value.slice A2 k c2).ownBlock = some j → ¬ J j ∧ w.heap.size ≤ j) ∧ Hid (∀ j, J j → w.heap.size ≤ j) ∧ Hid (Below w.heap.size w wr)) (fun _ i _ => R - (intOf i).toNat)
  case atStart => exact ⟨0, [], none, 0, _, by omega, rfl, rfl, C11, O11, Lib.hid ⟨rfl, fun r hr => by omega⟩, Lib.hid (fun k hk => by cases hk), Lib.hid (fun j hj => Nat.le_trans L11.out hj), B11⟩
  case round =>
    obtain ⟨k, xs, A2, c2, J, hk, rfl, rfl, HC, HO, HK, HA, HJ, HB⟩ := hrel
    rename World => wr
    clear C11 O11 B11
    by_cases hlt : k < R
    · obtain ⟨y, hy1, hy2, hy3⟩ := HRW.out k hlt
      have HY := Lib.hid hy1
      have HY3 := Lib.hid hy3
      clear hy1 hy2 hy3
      have d1 : decide ((k : Int) < (R : Int)) = true := decide_eq_true (by omega)
      go_wp2_with fail
      refine (Array_any HC.out).mono ?_
      rintro _ w12 ⟨ap, aq, ar, Ja, rfl, har, hb⟩
      have A12 := Lib.hid har
      have B12 := Lib.hid hb
      clear har hb
      go_wp2_with fail
      refine (Raw_fresh A12.out HY.out).mono ?_
      rintro _ w13 ⟨Ar, cr, rfl, hr, hb, hn⟩
      have R13 := Lib.hid hr
      have B13 := Lib.hid (below_step B12.out hb)
      have N13 := Lib.hid (fun b off e => And.intro (Nat.le_trans B12.out.size (hn b off e)) (hr.low HY3.out b off e))
      clear hr hb hn A12 B12
      obtain ⟨ry, hry⟩ : ∃ ry, ry = y.raw.length := ⟨_, rfl⟩
      have O13 := Lib.hid (own_below HO.out B13.out)
      go_wp2_with (at_builtin; refine wpList_append_at1 (w13.alloc (.cells #[.slice Ar y.raw.length cr] 26)) rfl (.tmp 91) (.tmp 96) _ rfl 0 26 i0 _ 24 Tryz.underlying45 hi hz0 hz1 hz2 rfl (.slice A2 k c2) k xs rfl (O13.out.alloc _) ⟨w13.heap.size, 0, none⟩ 1 1 [.slice Ar y.raw.length cr] rfl rfl (one_new _ _ _) (by simp [Value.oneCell']) (by unfold maxLen; omega) (by omega) (Nat.zero_le _) ?_)
      intro v6 w14 hown hg hwh
      obtain ⟨A3, c3, rfl⟩ := own_form1 hown
      have O14 := Lib.hid hown
      have G14 := Lib.hid (((Btw.refl (I := fun j => (Value.slice A2 k c2).ownBlock = some j) w13).alloc (.cells #[.slice Ar y.raw.length cr] 26)).trans (Btw.of_grown (I := fun j => (Value.slice A2 k c2).ownBlock = some j) hg (fun _ h => h)) (fun _ _ h => h))
      have G0 := Lib.hid ((Btw.of_below (I := fun j => (Value.slice A2 k c2).ownBlock = some j) B13.out).trans G14.out (fun _ _ h => h))
      have WH := Lib.hid (show (Value.slice A3 (k + 1) c3).ownBlock = (Value.slice A2 k c2).ownBlock ∨ ∃ j, (Value.slice A3 (k + 1) c3).ownBlock = some j ∧ w13.heap.size ≤ j from hwh.imp id fun h => ⟨_, h, by simp⟩)
      have C14 := Lib.hid (HC.out.away G0.out fun j hj => (HA.out j hj).1)
      have K14 := Lib.hid (HK.out.push (v' := .slice A3 (k + 1) c3) (c := cr) HY.out R13.out B13.out N13.out (fun j hj => (own_low HO.out j hj).2) G14.out WH.out)
      have B14 := Lib.hid (HB.out.trans (G0.out.below (S := w.heap.size) (fun j hj => (HA.out j hj).2) HB.out.size))
      clear hown hg hwh
      go_wp2
      go_roundw
      case rel =>
        refine ⟨k + 1, _, A3, c3, _, by omega, rfl, by go_num, C14, O14, K14, Lib.hid (fun j hj => ?_), Lib.hid (fun j hj => HJ.out j hj.1), B14⟩
        have hs := B13.out.size
        have hs2 := HB.out.size
        have hlow := own_low O14.out j hj
        rcases WH.out with h | ⟨j2, h, h2⟩
        · have h0 := HA.out j (h ▸ hj)
          exact ⟨fun h1 => h0.1 h1.1, h0.2⟩
        · have e : j = j2 := Option.some.inj (hj.symm.trans h)
          exact ⟨fun h1 => by have := h1.2; omega, by omega⟩
      case measure => simp [intOf]; omega
    · obtain rfl : k = R := by omega
      have d1 : decide ((k : Int) < (k : Int)) = false := decide_eq_false (by omega)
      clear hk hlt
      go_wp2_with fail
      refine (Cut_any (-1) (HC0.out ▸ rfl) HC.out).mono ?_
      rintro _ w15 ⟨rfl, hc, hb⟩
      have C15 := Lib.hid hc
      have K15 := Lib.hid (HK.out.btw (J' := J) hb (fun j hj => .inl hj) (fun j _ hj => hj))
      have O15 := Lib.hid (own_btw1 HO.out hb fun j hj => (HA.out j hj).1)
      have B15 := Lib.hid (HB.out.trans (hb.below (S := w.heap.size) HJ.out HB.out.size))
      have Q15 := Lib.hid (show Qt (Ch.new g s).arr 0 { c0 with cut := max (-1) (-1) } by rw [HC0.out]; exact ⟨rfl, rfl, rfl, rfl, rfl, rfl, rfl, Nat.le_refl _, rfl, rfl⟩)
      have RW := Lib.hid (show (Ch.new g s).arr.rows = c0.arr.rows by rw [HC0.out])
      generalize (Ch.new g s).arr = ar0 at Q15 RW
      rw [← RW.out] at K15 HRW
      generalize ({ c0 with cut := max (-1) (-1) } : Ch) = c1 at C15 Q15
      clear hc hb HC HK HO HB HC0 RW
      go_wp2
      go_loopw [103] (fun i wr => ∃ (q : Nat) (c : Ch), q ≤ n ∧ i = .int .i64 (q : Int) ∧ Hid (Qt ar0 q c) ∧ Hid (CH J wr p g s c) ∧ Hid (wr.ownsRow 0 26 1 (.slice A2 k c2) k xs) ∧ Hid (Kept J wr (.slice A2 k c2) xs ar0.rows k) ∧ Hid (Below w.heap.size w wr)) (fun i _ => n - (intOf i).toNat)
      case atStart => exact ⟨0, c1, Nat.zero_le _, rfl, Q15, C15, O15, K15, B15⟩
      case round =>
        obtain ⟨q, c, hq, rfl, HQ, HC, HO, HK, HB⟩ := hrel
        rename World => wr
        clear C15 O15 K15 B15 Q15
        by_cases hlt : q < n
        · obtain ⟨b9, o9, t, rfl, hb9, HX, hin, x0, x1⟩ := (HR.out.below HB.out).at_ hlt
          have d1 : decide ((q : Int) < (n : Int)) = true := decide_eq_true (by omega)
          have i0 : (0 : Int) ≤ (q : Int) := by omega
          have N1 := Lib.hid (below_new wr (.cells #[.int .i64 t.k, .int .u8 (t.b : Int)] 37))
          have HA1 := Lib.hid (HC.out.below N1.out)
          have HO1 := Lib.hid (own_below HO.out N1.out)
          have HK1 := Lib.hid (HK.out.btw (J' := J) (Btw.of_below (I := J) N1.out) (fun j hj => .inl hj) (fun j _ hj => hj))
          have B1 := Lib.hid (below_step HB.out N1.out)
          clear HC HO HK HB hb9 hin
          by_cases hk : t.k = 2 ∨ t.k = 3 ∨ t.k = 4
          · obtain ⟨k9, hk9⟩ : ∃ k9, k9 = t.k := ⟨_, rfl⟩
            rw [← hk9] at x0 HA1 HO1 HK1 B1 hk
            clear hk9 N1
            have e1 : (k9 == 1) = false := by rw [beq_eq_false_iff_ne]; omega
            have e4 : ¬ k9 = 1 := by omega
            have e2 : decide (1 ≤ k9) = true := decide_eq_true (by omega)
            have e3 : decide (k9 ≤ 4) = true := decide_eq_true (by omega)
            have HD := Lib.hid (Do_idle k9 (t.b : Int) hk HQ.out.on (by rw [HQ.out.cut]; omega) (by rw [HQ.out.cut]; omega) (by rw [HQ.out.cut]; omega) (by have := HQ.out.cyc; omega) HQ.out.eng HQ.out.st HA1.out)
            clear hk
            go_wp2_with fail
            clear x0 x1 e1 e2 e3 e4
            refine HD.out.mono ?_
            rintro _ w16 ⟨rfl, hc, hb⟩
            have C16 := Lib.hid hc
            have K16 := Lib.hid (HK1.out.btw (J' := J) hb (fun j hj => .inl hj) (fun j _ hj => hj))
            have O16 := Lib.hid (own_btw1 HO1.out hb fun j hj => (HA.out j hj).1)
            have B16 := Lib.hid (B1.out.trans (hb.below (S := w.heap.size) HJ.out B1.out.size))
            clear hc hb HD HA1 HO1 HK1 B1
            go_wp2
            go_roundw
            case rel => exact ⟨q + 1, _, by omega, by go_num, Lib.hid HQ.out.step, C16, O16, K16, B16⟩
            case measure => simp [intOf]; omega
          · have FIN := Lib.hid (show Qt ar0 (q + 1) c from { HQ.out with cyc := by have := HQ.out.cyc; omega })
            obtain ⟨k9, hk9⟩ : ∃ k9, k9 = t.k := ⟨_, rfl⟩
            rw [← hk9] at x0 HA1 HO1 HK1 B1 hk
            clear hk9 N1
            by_cases h1 : k9 = 1
            · subst h1
              go_wp2
              go_roundw
              case rel => exact ⟨q + 1, _, by omega, by go_num, FIN, HA1, HO1, HK1, B1⟩
              case measure => simp [intOf]; omega
            have e1 : (k9 == 1) = false := by rw [beq_eq_false_iff_ne]; omega
            by_cases h2 : 1 ≤ k9
            · have e2 : decide (1 ≤ k9) = true := decide_eq_true h2
              have e3 : decide (k9 ≤ 4) = false := decide_eq_false (by omega)
              clear hk
              go_wp2
              go_roundw
              case rel => exact ⟨q + 1, _, by omega, by go_num, FIN, HA1, HO1, HK1, B1⟩
              case measure => simp [intOf]; omega
            · have e2 : decide (1 ≤ k9) = false := decide_eq_false h2
              clear hk
              go_wp2
              go_roundw
              case rel => exact ⟨q + 1, _, by omega, by go_num, FIN, HA1, HO1, HK1, B1⟩
              case measure => simp [intOf]; omega
        · obtain rfl : q = n := by omega
          have d1 : decide ((q : Int) < (q : Int)) = false := decide_eq_false (by omega)
          clear hq hlt
          go_wp2_with fail
          refine (Cut_any 0 HQ.out.on HC.out).mono ?_
          rintro _ w20 ⟨rfl, hc, hb⟩
          have C20 := Lib.hid hc
          have K20 := Lib.hid (HK.out.btw (J' := J) hb (fun j hj => .inl hj) (fun j _ hj => hj))
          have O20 := Lib.hid (own_btw1 HO.out hb fun j hj => (HA.out j hj).1)
          have B20 := Lib.hid (HB.out.trans (hb.below (S := w.heap.size) HJ.out HB.out.size))
          have HD := Lib.hid (Do_lose 4 0 (by omega) HQ.out.on (c := { c with cut := max 0 (-1) }) rfl _ (fun W h => lose_idle (c := { c with cut := max 0 (-1) }) HQ.out.th HQ.out.pr HQ.out.bl h) hc)
          clear hc hb HC HK HO HB
          go_wp2_with fail
          refine HD.out.mono ?_
          rintro _ w21 ⟨rfl, hc, hb⟩
          have C21 := Lib.hid hc
          have K21 := Lib.hid (K20.out.btw (J' := J) hb (fun j hj => .inl hj) (fun j _ hj => hj))
          have O21 := Lib.hid (own_btw1 O20.out hb fun j hj => (HA.out j hj).1)
          have B21 := Lib.hid (B20.out.trans (hb.below (S := w.heap.size) HJ.out B20.out.size))
          obtain ⟨c3, hc3⟩ : ∃ c3, c3 = Ch.lost { c with cut := max 0 (-1) } g.raw.toNat := ⟨_, rfl⟩
          have H3 := Lib.hid (show c3.on = false ∧ c3.arr = ar0 ∧ c3.wk = 0 from hc3 ▸ ⟨rfl, HQ.out.arr, HQ.out.wk⟩)
          rw [← hc3] at C21
          clear hc hb HD C20 K20 O20 B20 hc3
          go_wp2_with fail
          refine (Cycles_any C21.out).mono ?_
          rintro _ w22 ⟨rfl, hb⟩
          have C22 := Lib.hid (C21.out.below hb)
          have K22 := Lib.hid (K21.out.btw (J' := J) (Btw.of_below (I := J) hb) (fun j hj => .inl hj) (fun j _ hj => hj))
          have O22 := Lib.hid (own_below O21.out hb)
          have B22 := Lib.hid (below_step B21.out hb)
          clear hb C21 K21 O21 B21
          go_wp2
          go_loopw [141] (fun i wr => ∃ r : Nat, r ≤ q ∧ i = .int .i64 (r : Int) ∧ Hid (CH J wr p g s c3) ∧ Hid (wr.ownsRow 0 26 1 (.slice A2 k c2) k xs) ∧ Hid (Kept J wr (.slice A2 k c2) xs ar0.rows k) ∧ Hid (Below w.heap.size w wr)) (fun i _ => q - (intOf i).toNat)
          case atStart => exact ⟨0, Nat.zero_le _, rfl, C22, O22, K22, B22⟩
          case round =>
            obtain ⟨r, hr, rfl, HC, HO, HK, HB⟩ := hrel
            rename World => wr
            clear C22 O22 K22 B22
            by_cases hlt : r < q
            · obtain ⟨b9, o9, t, rfl, hb9, HX, hin, x0, x1⟩ := (HR.out.below HB.out).at_ hlt
              have d1 : decide ((r : Int) < (q : Int)) = true := decide_eq_true (by omega)
              have i0 : (0 : Int) ≤ (r : Int) := by omega
              have N1 := Lib.hid (below_new wr (.cells #[.int .i64 t.k, .int .u8 (t.b : Int)] 37))
              have HD := Lib.hid (Do_off t.k (t.b : Int) H3.out.1 (HC.out.below N1.out))
              clear hb9 hin
              go_wp2_with fail
              clear x0 x1
              refine HD.out.mono ?_
              rintro _ w23 ⟨rfl, hb⟩
              have B1 := Lib.hid (below_step N1.out hb)
              clear hb HD N1
              go_wp2
              go_roundw
              case rel => exact ⟨r + 1, by omega, by go_num, Lib.hid (HC.out.below B1.out), Lib.hid (own_below HO.out B1.out), Lib.hid (HK.out.btw (J' := J) (Btw.of_below (I := J) B1.out) (fun j hj => .inl hj) (fun j _ hj => hj)), Lib.hid (below_step HB.out B1.out)⟩
              case measure => simp [intOf]; omega
            · obtain rfl : r = q := by omega
              have d1 : decide ((r : Int) < (r : Int)) = false := decide_eq_false (by omega)
              clear hr hlt
              go_wp2
              go_loopw [159] (fun i w' => ∃ f : Nat, f ≤ k ∧ i = .int .i64 (f : Int) ∧ Hid (Below wr.heap.size wr w')) (fun i _ => k - (intOf i).toNat)
              case atStart => exact ⟨0, Nat.zero_le _, rfl, Lib.hid (Below.refl _ _)⟩
              case round =>
                obtain ⟨f, hf, rfl, HW⟩ := hrel
                rename World => wz
                by_cases hlt : f < k
                · obtain ⟨a9, cc9, y, hx, hy, hr8, hap⟩ := HK.out.at_ f hlt
                  obtain ⟨y2, hy2, hn0, hl0⟩ := HRW.out f hlt
                  have HY := Lib.hid hy
                  obtain rfl : y2 = y := Option.some.inj (hy2.symm.trans hy)
                  have HLY := Lib.hid (show y2.raw.length ≤ 1000 from by
                    obtain ⟨_, _, _, hp, _⟩ := HC.out
                    have h1 := hp.arr
                    obtain ⟨ls, e1, _, e3⟩ := h1.rows
                    have e2 : y2 ∈ c3.arr.rows := by rw [H3.out.2.1]; exact List.mem_of_getElem? hy
                    rw [e1] at e2
                    obtain ⟨x, hx1, hx2⟩ := List.mem_map.1 e2
                    have h3 := (e3 x hx1).1.1
                    rw [← hx2, h3]
                    have := h1.low
                    omega)
                  have R9 := Lib.hid (hr8.below HW.out)
                  obtain ⟨g9, hg9, _, hg8, hcell, _, _⟩ := own_at HO.out hlt
                  subst hg9
                  have x9 : wz.cell? ⟨g9, f, none⟩ = some (.slice a9 y2.raw.length cc9) := (HW.out.cell hg8).trans (hcell.trans hx)
                  have X9 := Lib.hid x9
                  have HC1 := Lib.hid (HC.out.below HW.out)
                  have HN0 := Lib.hid hn0
                  have HG9 := Lib.hid (show g9 < wz.heap.size from Nat.lt_of_lt_of_le hg8 HW.out.size)
                  clear hx hy hr8 hap hy2 hn0 hl0 hcell hg8 x9
                  have d1 : decide ((f : Int) < (k : Int)) = true := decide_eq_true (by omega)
                  have i0 : (0 : Int) ≤ (f : Int) := by omega
                  have i1 : (f : Int) < (k : Int) := by omega
                  go_wp2
                  refine wp_region_noPanic ?_
                  refine wp_region_held_drew (S := fun w' => Below wz.heap.size wz w') (by kernel_rfl) ((Below.refl _ _).drew) (fun C0 => ?_)
                  refine wpAnyH_take (i := 0) (oi := { dst := some 162, op := Op.move (Operand.tmp 10), type := 31, pos := "law.go:109", after := #[], guard := none }) (v := ?_) rfl (by kernel_rfl) (by kernel_rfl) (by kernel_rfl) (fun _ _ _ h => h) (Or.inl ⟨by rfl, ?_⟩) C0 ?_
                  rotate_left
                  · intro W' hSw
                    clear hSw
                    go_simp <;> with_reducible rfl
                  try simp only [Act.put, List.setIfInBounds_toArray, List.set_cons_zero, List.set_cons_succ]
                  refine wpAnyH_take (i := 2) (oi := { dst := some 164, op := Op.move (Operand.tmp 26), type := 3, pos := "law.go:109", after := #[], guard := none }) (v := ?_) rfl (by kernel_rfl) (by kernel_rfl) (by kernel_rfl) (fun _ _ _ h => h) (Or.inl ⟨by rfl, ?_⟩) C0 ?_
                  rotate_left
                  · intro W' hSw
                    clear hSw
                    go_simp <;> with_reducible rfl
                  try simp only [Act.put, List.setIfInBounds_toArray, List.set_cons_zero, List.set_cons_succ]
                  refine wpAnyH_take (i := 4) (oi := { dst := some 166, op := Op.move (Operand.tmp 13), type := 45, pos := "law.go:109", after := #[], guard := none }) (v := ?_) rfl (by kernel_rfl) (by kernel_rfl) (by kernel_rfl) (fun _ _ _ h => h) (Or.inl ⟨by rfl, ?_⟩) C0 ?_
                  rotate_left
                  · intro W' hSw
                    clear hSw
                    go_simp <;> with_reducible rfl
                  try simp only [Act.put, List.setIfInBounds_toArray, List.set_cons_zero, List.set_cons_succ]
                  refine wpAnyH_take (i := 5) (oi := { dst := some 167, op := Op.move (Operand.tmp 26), type := 3, pos := "law.go:109", after := #[], guard := none }) (v := ?_) rfl (by kernel_rfl) (by kernel_rfl) (by kernel_rfl) (fun _ _ _ h => h) (Or.inl ⟨by rfl, ?_⟩) C0 ?_
                  rotate_left
                  · intro W' hSw
                    clear hSw
                    go_simp <;> with_reducible rfl
                  try simp only [Act.put, List.setIfInBounds_toArray, List.set_cons_zero, List.set_cons_succ]
                  refine wpAnyH_take (i := 6) (oi := { dst := some 168, op := Op.indexAddr 45 (Operand.tmp 166) (Operand.tmp 167), type := 0, pos := "law.go:109", after := #[{ on := 4, ground := Ground.data }, { on := 5, ground := Ground.data }], guard := none }) (v := ?_) rfl (by kernel_rfl) (by kernel_rfl) (by kernel_rfl) (fun _ _ _ h => h) (Or.inl ⟨by rfl, ?_⟩) C0 ?_
                  rotate_left
                  · intro W' hSw
                    clear hSw
                    go_simp <;> with_reducible rfl
                  try simp only [Act.put, List.setIfInBounds_toArray, List.set_cons_zero, List.set_cons_succ]
                  refine wpAnyH_take (i := 7) (oi := { dst := some 169, op := Op.load 26 (Operand.tmp 168), type := 26, pos := "law.go:109", after := #[{ on := 6, ground := Ground.data }], guard := none }) (v := ?_) rfl (by kernel_rfl) (by kernel_rfl) (by kernel_rfl) (fun _ _ _ h => h) (Or.inl ⟨by rfl, ?_⟩) C0 ?_
                  rotate_left
                  · intro W' hSw
                    have x31 : W'.cell? ⟨g9, f, none⟩ = some (.slice a9 y2.raw.length cc9) := (hSw.cell (show (⟨g9, f, none⟩ : Addr).block < wz.heap.size from HG9.out)).trans X9.out
                    clear hSw
                    go_simp <;> with_reducible rfl
                  try simp only [Act.put, List.setIfInBounds_toArray, List.set_cons_zero, List.set_cons_succ]
                  refine wpAnyH_ready (rs := [1]) (by kernel_rfl) (by simp) ?_
                  refine AllReadyH.cons (o := { dst := some 163, op := Op.call { callee := Callee.value (Operand.func 12), args := #[Operand.tmp 162], argTypes := #[31] }, type := 39, pos := "law.go:109", after := #[{ on := 0, ground := Ground.data }], guard := none }) rfl (fun K hK => ?_) AllReadyH.nil
                  go_simp
                  refine (Array_any (HC1.out.below C0)).mono ?_
                  rintro _ w30 ⟨ap, aq, ar, Ja, rfl, har, hb⟩
                  have A30 := Lib.hid har
                  have B30 := Lib.hid (show Below wz.heap.size wz w30 from C0.trans (hb.mono C0.size))
                  clear har hb
                  go_wp2_with fail
                  refine hK.out _ _ B30.out (fun C1 => ?_)
                  clear hK K
                  try simp only [Act.put, List.setIfInBounds_toArray, List.set_cons_zero, List.set_cons_succ]
                  refine wpAnyH_ready (rs := [3]) (by kernel_rfl) (by simp) ?_
                  refine AllReadyH.cons (o := { dst := some 165, op := Op.call { callee := Callee.value (Operand.func 16), args := #[Operand.tmp 163, Operand.tmp 164], argTypes := #[39, 3] }, type := 26, pos := "law.go:109", after := #[{ on := 1, ground := Ground.data }, { on := 2, ground := Ground.data }, { on := 1, ground := Ground.chain }], guard := none }) rfl (fun K hK => ?_) AllReadyH.nil
                  go_simp
                  refine (Raw_yes A30.out (i := f) (by rw [H3.out.2.1]; exact HY.out)).mono ?_
                  rintro _ w31 ⟨Ar, cr, rfl, hr, hb⟩
                  have R31 := Lib.hid hr
                  have B31 := Lib.hid (show Below wz.heap.size wz w31 from C1.trans (hb.mono C1.size))
                  clear hr hb
                  go_wp2_with fail
                  refine hK.out _ _ B31.out (fun C2 => ?_)
                  clear hK K
                  try simp only [Act.put, List.setIfInBounds_toArray, List.set_cons_zero, List.set_cons_succ]
                  refine wpAnyH_ready (rs := [8]) (by kernel_rfl) (by simp) ?_
                  refine AllReadyH.cons (o := { dst := some 170, op := Op.call { callee := Callee.value (Operand.func 17), args := #[Operand.tmp 165, Operand.tmp 169], argTypes := #[26, 26] }, type := 4, pos := "law.go:109", after := #[{ on := 3, ground := Ground.data }, { on := 7, ground := Ground.data }, { on := 3, ground := Ground.chain }], guard := none }) rfl (fun K hK => ?_) AllReadyH.nil
                  go_simp
                  have HSA := Lib.hid (Same_any Ar a9 y2.raw.length cr y2.raw.length cc9 y2.raw y2.raw w31 R31.out (R9.out.below B31.out) (by have := HLY.out; omega) (by have := HLY.out; omega))
                  rw [decide_eq_true rfl] at HSA
                  refine HSA.out.mono ?_
                  intro _ w32 hq
                  obtain ⟨rfl, D32⟩ := hq.at_
                  have B32 := Lib.hid (show Below wz.heap.size wz w32 from B31.out.trans (D32.out.mono B31.out.size))
                  clear hq HSA D32
                  go_wp2_with fail
                  refine hK.out _ _ B32.out (fun C3 => ?_)
                  clear hK K
                  try simp only [Act.put, List.setIfInBounds_toArray, List.set_cons_zero, List.set_cons_succ]
                  refine wpAnyH_take (i := 9) (oi := { dst := some 171, op := Op.unOp UnOp.not 4 (Operand.tmp 170), type := 4, pos := "law.go:109", after := #[{ on := 8, ground := Ground.data }], guard := none }) (v := ?_) rfl (by kernel_rfl) (by kernel_rfl) (by kernel_rfl) (fun _ _ _ h => h) (Or.inl ⟨by rfl, ?_⟩) C3 ?_
                  rotate_left
                  · intro W' hSw
                    clear hSw
                    go_simp <;> with_reducible rfl
                  try simp only [Act.put, List.setIfInBounds_toArray, List.set_cons_zero, List.set_cons_succ]
                  refine wpAnyH_take (i := 10) (oi := { dst := some 172, op := Op.move (Operand.tmp 171), type := 4, pos := "law.go:109", after := #[{ on := 9, ground := Ground.data }, { on := 8, ground := Ground.chain }], guard := none }) (v := ?_) rfl (by kernel_rfl) (by kernel_rfl) (by kernel_rfl) (fun _ _ _ h => h) (Or.inl ⟨by rfl, ?_⟩) C3 ?_
                  rotate_left
                  · intro W' hSw
                    clear hSw
                    go_simp <;> with_reducible rfl
                  try simp only [Act.put, List.setIfInBounds_toArray, List.set_cons_zero, List.set_cons_succ]
                  refine wpAnyH_take (i := 11) (oi := { dst := some 173, op := Op.move (Operand.tmp 10), type := 31, pos := "law.go:109", after := #[{ on := 10, ground := Ground.guard }], guard := some (10, false) }) (v := ?_) rfl (by kernel_rfl) (by kernel_rfl) (by kernel_rfl) (fun _ _ _ h => h) (Or.inl ⟨by rfl, ?_⟩) C3 ?_
                  rotate_left
                  · intro W' hSw
                    clear hSw
                    go_simp <;> with_reducible rfl
                  try simp only [Act.put, List.setIfInBounds_toArray, List.set_cons_zero, List.set_cons_succ]
                  refine wpAnyH_take (i := 13) (oi := { dst := some 175, op := Op.move (Operand.tmp 26), type := 3, pos := "law.go:109", after := #[{ on := 10, ground := Ground.guard }], guard := some (10, false) }) (v := ?_) rfl (by kernel_rfl) (by kernel_rfl) (by kernel_rfl) (fun _ _ _ h => h) (Or.inl ⟨by rfl, ?_⟩) C3 ?_
                  rotate_left
                  · intro W' hSw
                    clear hSw
                    go_simp <;> with_reducible rfl
                  try simp only [Act.put, List.setIfInBounds_toArray, List.set_cons_zero, List.set_cons_succ]
                  refine wpAnyH_ready (rs := [12]) (by kernel_rfl) (by simp) ?_
                  refine AllReadyH.cons (o := { dst := some 174, op := Op.call { callee := Callee.value (Operand.func 12), args := #[Operand.tmp 173], argTypes := #[31] }, type := 39, pos := "law.go:109", after := #[{ on := 11, ground := Ground.data }, { on := 10, ground := Ground.chain }, { on := 10, ground := Ground.guard }], guard := some (10, false) }) rfl (fun K hK => ?_) AllReadyH.nil
                  go_simp
                  refine (Array_any (HC1.out.below C3)).mono ?_
                  rintro _ w33 ⟨ap2, aq2, ar2, Ja2, rfl, har, hb⟩
                  have A33 := Lib.hid har
                  have B33 := Lib.hid (show Below wz.heap.size wz w33 from C3.trans (hb.mono C3.size))
                  clear har hb
                  go_wp2_with fail
                  refine hK.out _ _ B33.out (fun C4 => ?_)
                  clear hK K
                  try simp only [Act.put, List.setIfInBounds_toArray, List.set_cons_zero, List.set_cons_succ]
                  refine wpAnyH_ready (rs := [14]) (by kernel_rfl) (by simp) ?_
                  refine AllReadyH.cons (o := { dst := some 176, op := Op.call { callee := Callee.value (Operand.func 18), args := #[Operand.tmp 174, Operand.tmp 175], argTypes := #[39, 3] }, type := 3, pos := "law.go:109", after := #[{ on := 12, ground := Ground.data }, { on := 13, ground := Ground.data }, { on := 12, ground := Ground.chain }, { on := 10, ground := Ground.guard }], guard := some (10, false) }) rfl (fun K hK => ?_) AllReadyH.nil
                  go_simp
                  have HP := Lib.hid (Programs_yes A33.out (i := f) (by rw [H3.out.2.1]; exact HY.out))
                  rw [HN0.out] at HP
                  refine HP.out.mono ?_
                  rintro _ w34 ⟨rfl, hb⟩
                  have B34 := Lib.hid (show Below wz.heap.size wz w34 from C4.trans (hb.mono C4.size))
                  clear hb HP
                  go_wp2_with fail
                  refine hK.out _ _ B34.out (fun C5 => ?_)
                  clear hK K
                  try simp only [Act.put, List.setIfInBounds_toArray, List.set_cons_zero, List.set_cons_succ]
                  refine wpAnyH_take (i := 15) (oi := { dst := some 177, op := Op.binOp BinOp.neq 3 (Operand.tmp 176) (Operand.const (Value.int IntKind.i64 0)) 3, type := 4, pos := "law.go:109", after := #[{ on := 14, ground := Ground.data }, { on := 10, ground := Ground.guard }], guard := some (10, false) }) (v := ?_) rfl (by kernel_rfl) (by kernel_rfl) (by kernel_rfl) (fun _ _ _ h => h) (Or.inl ⟨by rfl, ?_⟩) C5 ?_
                  rotate_left
                  · intro W' hSw
                    clear hSw
                    go_simp <;> with_reducible rfl
                  try simp only [Act.put, List.setIfInBounds_toArray, List.set_cons_zero, List.set_cons_succ]
                  refine wpAnyH_take (i := 16) (oi := { dst := some 178, op := Op.pick (Operand.tmp 172) (Operand.const (Value.bool true)) (Operand.tmp 177), type := 4, pos := "law.go:109", after := #[{ on := 10, ground := Ground.data }, { on := 15, ground := Ground.data }], guard := none }) (v := ?_) rfl (by kernel_rfl) (by kernel_rfl) (by kernel_rfl) (fun _ _ _ h => h) (Or.inl ⟨by rfl, ?_⟩) C5 ?_
                  rotate_left
                  · intro W' hSw
                    clear hSw
                    go_simp <;> with_reducible rfl
                  try simp only [Act.put, List.setIfInBounds_toArray, List.set_cons_zero, List.set_cons_succ]
                  refine wpAnyH_done (by kernel_rfl) ?_ _
                  refine NoPanic.normal ?_
                  have B34 := Lib.hid (below_step HW.out B34.out)
                  go_wp2
                  go_roundw
                  case rel => exact ⟨f + 1, by omega, by go_num, B34⟩
                  case measure => simp [intOf]; omega
                · obtain rfl : f = k := by omega
                  have d1 : decide ((f : Int) < (f : Int)) = false := decide_eq_false (by omega)
                  have HC1 := Lib.hid (HC.out.below HW.out)
                  have B1 := Lib.hid (below_step HB.out HW.out)
                  clear hf hlt HO HK HC HW HB
                  have HON := Lib.hid (On_any HC1.out)
                  rw [H3.out.1] at HON
                  go_wp2_with fail
                  refine HON.out.mono ?_
                  rintro _ w40 ⟨rfl, hb⟩
                  have C40 := Lib.hid (HC1.out.below hb)
                  have B40 := Lib.hid (below_step B1.out hb)
                  clear hb HON HC1 B1
                  go_wp2_with fail
                  refine (Power_any C40.out).mono ?_
                  rintro _ w41 ⟨rfl, hc, hb⟩
                  have C41 := Lib.hid hc
                  have B41 := Lib.hid (B40.out.trans (hb.below (S := w.heap.size) HJ.out B40.out.size))
                  clear hc hb C40 B40
                  go_wp2_with fail
                  refine (On_any C41.out).mono ?_
                  rintro _ w42 ⟨rfl, hb⟩
                  have C42 := Lib.hid (C41.out.below hb)
                  have B42 := Lib.hid (below_step B41.out hb)
                  clear hb C41 B41
                  go_wp2_with fail
                  refine (Cycles_any C42.out).mono ?_
                  rintro _ w43 ⟨rfl, hb⟩
                  have C43 := Lib.hid (C42.out.below hb)
                  have B43 := Lib.hid (below_step B42.out hb)
                  clear hb C42 B42
                  have HWK := Lib.hid (Work_any C43.out)
                  rw [show (({ c3 with on := true } : Ch).wk) = 0 from H3.out.2.2] at HWK
                  go_wp2_with fail
                  refine HWK.out.mono ?_
                  rintro _ w44 ⟨rfl, hb⟩
                  have B44 := Lib.hid (below_step B43.out hb)
                  clear hb HWK C43 B43
                  go_wp2
                  go_ret
                  exact ⟨rfl, B44.out⟩
end Go.Proofs.YtlalghhaibknfaaGreat
