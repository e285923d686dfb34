/-
  The walk of ChipStill.
-/
import Derived.Test.YtmbgoopkpfhamaaGreatTk
import Derived.Test.YtmbgoopkpfhamaaGreatTkB
import Derived.Test.YtmbgoopkpfhamaaGreatIdentChecksJ19
import Derived.Test.YtmbgoopkpfhamaaGreatIdentChecksJArAw
import Derived.Test.YtmbgoopkpfhamaaGreatIdentChecksJ10
import Derived.Test.YtmbgoopkpfhamaaGreatIdentChecksJ3
namespace Go.Proofs.YtmbgoopkpfhamaaGreat
open Go.RowKit
set_option maxRecDepth 100000
def zNc0 : Oper := { dst := some 23, op := Op.call { callee := Callee.value (Operand.func 111), args := #[Operand.tmp 22], argTypes := #[54] }, type := 3, pos := "work.go:85", after := #[{ on := 5, ground := Ground.data }], guard := none }
def zNc1 : Oper := { dst := none, op := Op.store 67 (Operand.tmp 27) (Operand.tmp 24), type := 0, pos := "work.go:85", after := #[{ on := 10, ground := Ground.data }, { on := 7, ground := Ground.data }, { on := 6, ground := Ground.chain }, { on := 0, ground := Ground.phase }, { on := 1, ground := Ground.phase }, { on := 2, ground := Ground.phase }, { on := 3, ground := Ground.phase }, { on := 4, ground := Ground.phase }, { on := 5, ground := Ground.phase }, { on := 6, ground := Ground.phase }, { on := 7, ground := Ground.phase }], guard := none }
def zNc2 : Oper := { dst := some 34, op := Op.call { callee := Callee.builtin Builtin.append, args := #[Operand.tmp 31, Operand.tmp 33], argTypes := #[61, 61] }, type := 61, pos := "cycles.go:208", after := #[{ on := 5, ground := Ground.data }, { on := 7, ground := Ground.data }], guard := none }
def zNc3 : Oper := { dst := some 36, op := Op.call { callee := Callee.value (Operand.func 146), args := #[Operand.tmp 26, Operand.tmp 35], argTypes := #[34, 63] }, type := 0, pos := "cycles.go:208", after := #[{ on := 0, ground := Ground.data }, { on := 9, ground := Ground.data }, { on := 8, ground := Ground.chain }], guard := none }
def zNc4 : Oper := { dst := some 59, op := Op.call { callee := Callee.builtin Builtin.append, args := #[Operand.tmp 56, Operand.tmp 58], argTypes := #[61, 61] }, type := 61, pos := "cycles.go:211", after := #[{ on := 5, ground := Ground.data }, { on := 7, ground := Ground.data }], guard := none }
def zNc5 : Oper := { dst := none, op := Op.store 61 (Operand.tmp 62) (Operand.tmp 59), type := 0, pos := "cycles.go:211", after := #[{ on := 11, ground := Ground.data }, { on := 8, ground := Ground.data }, { on := 8, ground := Ground.chain }, { on := 0, ground := Ground.phase }, { on := 1, ground := Ground.phase }, { on := 2, ground := Ground.phase }, { on := 3, ground := Ground.phase }, { on := 4, ground := Ground.phase }, { on := 5, ground := Ground.phase }, { on := 6, ground := Ground.phase }, { on := 7, ground := Ground.phase }, { on := 8, ground := Ground.phase }], guard := none }
theorem wpList_append_at1 (w : World) {ops : Array Oper} {rest : List Oper} {o : Oper} {a : Act} {Q : Exit → Act → World → Prop} (hgd : o.guard = none) (s x : Operand) (t : TypeId)
  (ho : o.op = .call { callee := .builtin .append, args := #[s, x], argTypes := #[t, t] })
  (base : Nat) (e : TypeId) (i : TypeInfo) (z : Value) (bytes : Nat) (ht : Tryz.prog.underlying t = some (.slice e)) (hi : Tryz.prog.info? e = some i) (hz : i.zero = some z) (hsize : i.size = 1) (hby : i.bytes = bytes) (hzs : z.cells.size = 1)
  (v : Value) (n : Nat) (xs : List Value) (hs : a.eval s = v) (hown : w.ownsRow base e 1 v n xs)
  (ad : Addr) (m c : Nat) (news : List Value) (hx : a.eval x = .slice (some ad) m c) (hl : news.length = m) (hnews : ∀ j u, news[j]? = some u → w.cell? (ad.add j) = some u) (h1 : ∀ u ∈ news, u.oneCell' = true)
  (h63 : n + m ≤ maxLen) (hbytes : (n + m) * bytes ≤ 140737488355328) (hbase : base ≤ w.heap.size)
  (h : ∀ v' w', w'.ownsRow base e 1 v' (n + m) (xs ++ news) → w.grownBy w' v.ownBlock → (v'.ownBlock = v.ownBlock ∨ v'.ownBlock = some w.heap.size) → wpList Tryz.prog ops Q rest (a.put o.dst v') w') : wpList Tryz.prog ops Q (o :: rest) a w := by
 refine wpList_plain hgd fun K hK => ?_
 obtain ⟨v', w', hrun, h2, h3, _, h4⟩ := run_append_own_at (P := Tryz.prog) (w := w) base t o.type e i z 1 bytes ht hi hz hsize hby hzs (by decide) v n xs hown ad m c news (by omega) hnews h1 h63 hbytes hbase
 unfold Oper.wp execOp
 simp only [ho, resolve, invoke, builtin, Sem.run_bind, Sem.run_pure, Result.andThen_ok, List.map_toArray, List.map_cons, List.map_nil, hs, hx, hrun]
 exact hK _ _ (h v' w' h2 h3 h4)
structure Kept (J : Nat → Prop) (w : World) (v : Value) (xs : List Value) (rows : List Pg) (k : Nat) : Prop where
 len : xs.length = k
 at_ : ∀ r, r < k → ∃ a c y, xs[r]? = some (.slice a y.raw.length c) ∧ rows[r]? = some y ∧ R8 w a y.raw.length y.raw ∧ ∀ b off, a = some ⟨b, off, none⟩ → ¬ J b ∧ b < w.heap.size ∧ v.ownBlock ≠ some b
structure Qt (a : St) (q : Nat) (c : Ch) : Prop where
 st : c.state = 0
 on : c.on = true
 eng : c.engaged = false
 th : c.there = false
 pr : c.progs = []
 bl : c.blocks = []
 cut : c.cut = -1
 cyc : c.cycles ≤ q
 arr : c.arr = a
 wk : c.wk = 0
section
theorem one64 (w : World) (x : Int) (t : TypeId) : (w.alloc (.cells #[.int .i64 x] t)).cell? ((⟨w.heap.size, 0, none⟩ : Addr).add 0) = some (.int .i64 x) := (CRow.new w #[.int .i64 x] t).cell 0
theorem wpList_append64A (w : World) {ops : Array Oper} {rest : List Oper} {o : Oper} {a : Act} {Q : Exit → Act → World → Prop} (hgd : o.guard = none) (s x : Operand)
  (ho : o.op = .call { callee := .builtin .append, args := #[s, x], argTypes := #[24, 24] }) (base : Nat) (v : Value) (l : List Int) (n : Nat) (hn : l.length = n) (hs : a.eval s = v) (hown : w.ownsRow base 3 1 v n (I64 l))
  (ad : Addr) (c : Nat) (y : Int) (hx : a.eval x = .slice (some ad) 1 c) (hr : w.cell? (ad.add 0) = some (.int .i64 y)) (h63 : n + 1 ≤ 1099511627776) (hbase : base ≤ w.heap.size)
  (h : ∀ v' w', w'.ownsRow base 3 1 v' (n + 1) (I64 (l ++ [y])) → w.grownBy w' v.ownBlock → (v'.ownBlock = v.ownBlock ∨ v'.ownBlock = some w.heap.size) → wpList Tryz.prog ops Q rest (a.put o.dst v') w') : wpList Tryz.prog ops Q (o :: rest) a w := by
 obtain ⟨i0, hi, hz0, hz1, hz2⟩ := info_parts info_int
 refine wpList_append_at1 w hgd s x 24 ho base 3 i0 _ 8 Tryz.underlying24 hi hz0 hz1 hz2 rfl v n (I64 l) hs hown ad 1 c [.int .i64 y] hx rfl (fun j u hu => ?_) (by simp [Value.oneCell']) (by unfold maxLen; omega) (by omega) hbase fun v' w' h1 h2 h3 => h v' w' (by simpa [I64] using h1) h2 h3
 match j, hu with
 | 0, hu => injection hu with hu; rw [← hu]; exact hr
variable {ρ : Nat → Nat} {I J : Nat → Prop} {w w' : World} {p : Nat} {g : Gm} {s : Sc} {c : Ch} {m : Cm}
theorem Pt.grownTo {wa w3 : World} {v v' : Value} (R : Nat) (hR : R ≠ 0) (hE : Pt ρ wa p g s c m) (hi : CI ρ I wa) (hJ : ∀ j, v.ownBlock = some j → m.idle (ρ j) ∧ ρ j ≠ 99) (hg : wa.grownBy w3 v.ownBlock)
  (hwh : v'.ownBlock = v.ownBlock ∨ v'.ownBlock = some wa.heap.size) (hlow : ∀ k, v'.ownBlock = some k → k < w3.heap.size) :
  ∃ ρ', Pt ρ' w3 p g s c m ∧ CI ρ' I w3 ∧ (∀ k, v'.ownBlock = some k → ρ' k = R) ∧ Btw (fun j => v.ownBlock = some j) wa w3 ∧ Btw I wa w3 := by
 have hB0 : Btw (fun j => v.ownBlock = some j) wa w3 := Btw.of_grown hg (fun _ h => h)
 have hJI : ∀ j, v.ownBlock = some j → I j := fun j hj => hi.own j (by have := (hJ j hj).1; unfold Cm.idle at this; omega) (hJ j hj).2
 have hBI : Btw I wa w3 := (Btw.refl wa).trans hB0 fun j _ h => hJI j h
 cases hk : v'.ownBlock with
 | none => exact ⟨ρ, hE.btwI hB0 (fun j hj => .inr (hJ j hj).1), hi.grow hB0.size, fun k hk => (nomatch hk), hB0, hBI⟩
 | some k =>
  have hlt := hlow k hk
  have hor : (m.idle (ρ k) ∧ ρ k ≠ 99) ∨ wa.heap.size ≤ k := by
   rw [hk] at hwh
   rcases hwh with e | e
   ·
    exact .inl (hJ k e.symm)
   ·
    injection e with e; exact .inr (by omega)
  exact ⟨role1 ρ k R, hE.grew hB0 hJ k R hR hor hlt, hi.grew (m := m) hB0.size k R hor, fun j hj => by injection hj with e; unfold role1; rw [if_pos e.symm], hB0, hBI⟩
def Ch.qB (c : Ch) (x : Nat) : Ch := { c with qblocks := c.qblocks ++ [x] }
def Ch.endErase (g : Gm) (s : Sc) (c : Ch) (b : Nat) : Bool × Ch :=
 if c.addr2 0 < g.b.toNat * g.s.toNat then
  if b = 208 then (true, (c.discard.pend false 0 [] (c.qblocks ++ [c.addr2 0 / g.s.toNat])).begun s)
  else if b = 209 then (true, ((if (c.qblocks.length : Int) < g.p then c.qB (c.addr2 0 / g.s.toNat) else c).pend false 0 [] []).begun s)
  else (false, c)
 else (false, c)
theorem IC_push (l : List Nat) (x : Nat) : IC (l ++ [x]) = IC l ++ [(x : Int)] := by simp [IC]
set_option maxHeartbeats 4000000 in
theorem endErase_any (b : Nat) (hb8 : b < 256) (hs : SG g s) (hz : c.bz ≤ 1099511627776) (hf : c.fit g) (hl : c.listed.length = 2) (h : CH I w p g s c) :
  Calls Tryz.prog 143 #[.pointer (some ⟨p, 0, none⟩), .int .u8 (b : Int)] w (Acts I p g s (.bool (c.endErase g s b).1) (c.endErase g s b).2 w) := by
 have HH := Lib.hid h
 obtain ⟨ρ, m, hc, hp, hi⟩ := h
 have hro := row_any (c := c) 0 hl (by omega) hp hc
 have C0 := Lib.hid hc
 have P0 := Lib.hid hp
 have I0 := Lib.hid hi
 have HS := Lib.hid hs
 have HZ := Lib.hid hz
 have hbd := Gm.bounds_of hp.arr.ok
 have hgs : g.s = (g.s.toNat : Int) := by omega
 have hgb : g.b = (g.b.toNat : Int) := by omega
 have NQ := Lib.hid (show c.qblocks.length ≤ 100 by have := hf.nqb; omega)
 by_cases hr : c.addr2 0 < g.b.toNat * g.s.toNat
 ·
  rw [decide_eq_true hr] at hro
  have HRO := Lib.hid hro
  have hrow : g.hasRow (c.addr2 0 : Int) := by
   have e : g.b * g.s = ((g.b.toNat * g.s.toNat : Nat) : Int) := by rw [Int.natCast_mul, ← hgb, ← hgs]
   unfold Gm.hasRow
   rw [e]
   exact ⟨hp.arr.ok, by omega, by omega⟩
  obtain ⟨bk, hbk⟩ : ∃ bk, bk = c.addr2 0 / g.s.toNat := ⟨_, rfl⟩
  obtain ⟨pg, hpg⟩ : ∃ pg : Int, pg = (c.addr2 0 : Int) % g.s := ⟨_, rfl⟩
  have hdiv : (c.addr2 0 : Int) / g.s = (bk : Int) := by rw [hbk, Int.natCast_ediv, ← hgs]
  have HSP := Lib.hid (fun W => Split_yes g (c.addr2 0 : Int) hrow W)
  rw [hdiv, ← hpg] at HSP
  have HE0 : c.endErase g s b = (if b = 208 then (true, (c.discard.pend false 0 [] (c.qblocks ++ [bk])).begun s) else if b = 209 then (true, ((if (c.qblocks.length : Int) < g.p then c.qB bk else c).pend false 0 [] []).begun s) else (false, c)) := by
   unfold Ch.endErase
   rw [if_pos hr, hbk]
  generalize c.addr2 0 = rw0 at *
  clear hdiv hbk hpg hrow hr hbd hgs hgb hro hc hp hi hs hz hf hl
  by_cases h8 : b = 208
  ·
   rw [if_pos h8] at HE0
   have HE := Lib.hid HE0
   subst h8
   clear HE0 hb8
   go_enter Tryz.func143, Tryz.ntmps143
   go_wp2_with fail
   refine HRO.out.mono ?_
   rintro _ w1 ⟨rfl, h1⟩
   have B1 := Lib.hid h1
   have C1 := Lib.hid (C0.out.below h1)
   clear h1 C0
   have x19 := C1.out.cell_at 19 (.int .i64 g.p) rfl
   have x20 := C1.out.cell_at 20 (.int .i64 g.b) rfl
   have x21 := C1.out.cell_at 21 (.int .i64 g.s) rfl
   have x22 := C1.out.cell_at 22 (.int .i64 g.c) rfl
   have x23 := C1.out.cell_at 23 (.int .i64 g.k) rfl
   have x24 := C1.out.cell_at 24 (.int .i64 g.r) rfl
   have x25 := C1.out.cell_at 25 (.int .i64 g.q) rfl
   go_wp2_with fail
   refine (HSP.out _).mono ?_
   rintro _ w2 ⟨rfl, h2⟩
   have B2 := Lib.hid (show Below w.heap.size w w2 from B1.out.trans (h2.mono B1.out.size))
   have C2 := Lib.hid (C1.out.below h2)
   have P2 := Lib.hid (P0.out.below B2.out)
   have I2 := Lib.hid (I0.out.grow B2.out.size)
   have OQ := Lib.hid P2.out.qbl
   have OL := Lib.hid (show (IC c.qblocks).length = c.qblocks.length by simp [IC])
   clear h2 x19 x20 x21 x22 x23 x24 x25 C1
   have y16 : w2.cell? ⟨p, 16, none⟩ = some (.slice m.aB c.qblocks.length m.cB) := C2.out.cell_at 16 _ rfl
   go_wp2_with (at_builtin; refine wpList_append64A (w2.alloc (.cells #[.int .i64 (bk : Int)] 3)) rfl (.tmp 35) (.tmp 37) rfl 0 _ (IC c.qblocks) c.qblocks.length (by simp [IC]) rfl (OQ.out.alloc _) ⟨w2.heap.size, 0, none⟩ 1 (bk : Int) rfl (one64 w2 (bk : Int) _) (by have := NQ.out; omega) (Nat.zero_le _) ?_)
   intro v3 w3 hown hg hwh
   obtain ⟨A3, c3, rfl⟩ := own_form1 hown
   have hP1 : Pt ρ (w2.alloc (.cells #[.int .i64 (bk : Int)] 3)) p g s c m := P2.out.below (below_new w2 _)
   have hI1 : CI ρ I (w2.alloc (.cells #[.int .i64 (bk : Int)] 3)) := I2.out.grow (below_new w2 _).size
   obtain ⟨ρ', hp3, hi3, hr3, hb3, hbi3⟩ := Pt.grownTo (v' := .slice A3 (c.qblocks.length + 1) c3) 11 (by omega) (hP1.discard.pend0 false 0) hI1 (fun j hj => by
    have h6 := P2.out.rb j hj
    exact ⟨.inr (.inr (.inr (.inl ⟨h6, rfl⟩))), by omega⟩) hg (by simpa using hwh) (fun k hk => (own_low hown k hk).2)
   have P3 := Lib.hid (show Pt ρ' w3 p g s (c.discard.pend false 0 [] (c.qblocks ++ [bk])) (m.discard.pend none 0 A3 c3 []) from { hp3 with
    blk := by simpa [Ch.pend, Cm.pend, IC_push] using hown
    rbl := by simpa [Ch.pend, Cm.pend] using hr3 })
   have I3 := Lib.hid hi3
   have C3 := Lib.hid ((C2.out.alloc (.cells #[.int .i64 (bk : Int)] 3)).btw hb3 (fun e => by have h6 := P2.out.rb p e; have := P2.out.rp; omega))
   have B3 := Lib.hid (((Btw.of_below (I := I) B2.out).trans (Btw.of_below (below_new w2 (.cells #[.int .i64 (bk : Int)] 3))) fun _ _ h => h).trans hbi3 fun _ _ h => h)
   clear hown hg hwh hP1 hI1 hp3 hi3 hr3 hb3 hbi3 y16
   go_wp2_with fail
   have hst := start_any (c := c) (m := m) false 0 [] (c.qblocks ++ [bk]) none 0 A3 c3 [] HS.out HZ.out P3.out C3.out
   rw [List.length_append, List.length_singleton] at hst
   refine hst.mono ?_
   rintro _ w4 ⟨rfl, h4, h5, hb⟩
   have H4 := Lib.hid (show CH I w4 p g s _ from ⟨ρ', _, h4, h5, I3.out.grow hb.size⟩)
   have B4 := Lib.hid (B3.out.trans hb fun j _ h => by
    rcases h with h | h
    ·
     rw [h]; exact I3.out.self P3.out
    ·
     rw [h]; have h6 := P3.out.rt m.t P3.out.tel.in_.1 P3.out.tel.in_.2; exact I3.out.own m.t (by omega) (by omega))
   clear h4 h5 hb hst
   go_wp2
   go_ret
   rw [HE.out]
   exact ⟨rfl, H4.out, B4.out⟩
  ·
   rw [if_neg h8] at HE0
   have b8 : ((b : Int) == 208) = false := by simp; omega
   have j8 : ((b : Int) = 208) = False := eq_false (by omega)
   have d8 : decide ((b : Int) = 208) = false := decide_eq_false (by omega)
   by_cases h9 : b = 209
   ·
    subst h9
    rw [if_pos rfl] at HE0
    by_cases hq : (c.qblocks.length : Int) < g.p
    ·
     have HE := Lib.hid (show c.endErase g s 209 = (true, ((c.qB bk).pend false 0 [] []).begun s) by rw [HE0, if_pos hq])
     have dq : decide ((c.qblocks.length : Int) < g.p) = true := decide_eq_true hq
     clear HE0 h8 hb8
     go_enter Tryz.func143, Tryz.ntmps143
     go_wp2_with fail
     refine HRO.out.mono ?_
     rintro _ w1 ⟨rfl, h1⟩
     have B1 := Lib.hid h1
     have C1 := Lib.hid (C0.out.below h1)
     clear h1 C0
     have x19 := C1.out.cell_at 19 (.int .i64 g.p) rfl
     have x20 := C1.out.cell_at 20 (.int .i64 g.b) rfl
     have x21 := C1.out.cell_at 21 (.int .i64 g.s) rfl
     have x22 := C1.out.cell_at 22 (.int .i64 g.c) rfl
     have x23 := C1.out.cell_at 23 (.int .i64 g.k) rfl
     have x24 := C1.out.cell_at 24 (.int .i64 g.r) rfl
     have x25 := C1.out.cell_at 25 (.int .i64 g.q) rfl
     go_wp2_with fail
     refine (HSP.out _).mono ?_
     rintro _ w2 ⟨rfl, h2⟩
     have B2 := Lib.hid (show Below w.heap.size w w2 from B1.out.trans (h2.mono B1.out.size))
     have C2 := Lib.hid (C1.out.below h2)
     have P2 := Lib.hid (P0.out.below B2.out)
     have I2 := Lib.hid (I0.out.grow B2.out.size)
     have OQ := Lib.hid P2.out.qbl
     have OL := Lib.hid (show (IC c.qblocks).length = c.qblocks.length by simp [IC])
     clear h2 x19 x20 x21 x22 x23 x24 x25 C1
     go_wp2_with fail
     refine wp_region_noPanic ?_
     refine wp_region_held_drew (S := fun w' => Below w2.heap.size w2 w') (by kernel_rfl) ((Below.refl _ _).drew) (fun C0 => ?_)
     refine tkH4 0 C0 ?_
     refine tkH4 1 C0 ?_
     refine tkH4 2 C0 ?_
     refine tkH4 3 C0 ?_
     refine tkH4 4 C0 ?_ (hy := fun W' hSw => by have y16 : W'.cell? ⟨p, 16, none⟩ = some (.slice m.aB c.qblocks.length m.cB) := (hSw.cell (show (⟨p, 16, none⟩ : Addr).block < w2.heap.size from C2.out.lt)).trans (C2.out.cell_at 16 _ rfl); clear hSw; go_simp <;> with_reducible rfl)
     refine tkH4 5 C0 ?_
     refine tkH4 6 C0 ?_
     refine tkH4 7 C0 ?_
     refine tkH4 8 C0 ?_
     refine tkH4 9 C0 ?_
     refine tkH4 10 C0 ?_ (hy := fun W' hSw => by have y19 : W'.cell? ⟨p, 19, none⟩ = some (.int .i64 g.p) := (hSw.cell (show (⟨p, 19, none⟩ : Addr).block < w2.heap.size from C2.out.lt)).trans (C2.out.cell_at 19 _ rfl); clear hSw; go_simp <;> with_reducible rfl)
     refine tkH4 11 C0 ?_
     refine wpAnyH_done (by kernel_rfl) ?_ _
     refine NoPanic.normal ?_
     obtain ⟨wd, hwd⟩ : ∃ wd, wd = w2.drew := ⟨_, rfl⟩
     rw [← hwd]
     have CD := Lib.hid (show CRow wd p 72 (chCells g c m) by rw [hwd]; exact C2.out.drew)
     have BD := Lib.hid (show Below w2.heap.size w2 wd by rw [hwd]; exact (Below.refl _ _).drew)
     have PD := Lib.hid (P2.out.below BD.out)
     have ID := Lib.hid (I2.out.grow BD.out.size)
     have OQ := Lib.hid PD.out.qbl
     have BW := Lib.hid ((Btw.of_below (I := I) B2.out).trans (Btw.of_below BD.out) fun _ _ h => h)
     clear hwd
     have y16 : wd.cell? ⟨p, 16, none⟩ = some (.slice m.aB c.qblocks.length m.cB) := CD.out.cell_at 16 _ rfl
     go_wp2_with (at_builtin; refine wpList_append64A (wd.alloc (.cells #[.int .i64 (bk : Int)] 3)) rfl (.tmp 60) (.tmp 62) rfl 0 _ (IC c.qblocks) c.qblocks.length (by simp [IC]) rfl (OQ.out.alloc _) ⟨wd.heap.size, 0, none⟩ 1 (bk : Int) rfl (one64 wd (bk : Int) _) (by have := NQ.out; omega) (Nat.zero_le _) ?_)
     intro v3 w3 hown hg hwh
     obtain ⟨A3, c3, rfl⟩ := own_form1 hown
     have hP1 : Pt ρ (wd.alloc (.cells #[.int .i64 (bk : Int)] 3)) p g s c m := PD.out.below (below_new wd _)
     have hI1 : CI ρ I (wd.alloc (.cells #[.int .i64 (bk : Int)] 3)) := ID.out.grow (below_new wd _).size
     obtain ⟨ρ', hp3, hi3, hr3, hb3, hbi3⟩ := Pt.grownTo (v' := .slice A3 (c.qblocks.length + 1) c3) 9 (by omega) hP1.noB hI1 (fun j hj => by
      have h6 := PD.out.rb j hj
      exact ⟨.inr (.inr (.inr (.inl ⟨h6, rfl⟩))), by omega⟩) hg (by simpa using hwh) (fun k hk => (own_low hown k hk).2)
     have P3 := Lib.hid (show Pt ρ' w3 p g s (c.qB bk) { m with aB := A3, cB := c3 } from { hp3 with
      qbl := by simpa [Ch.qB, IC_push] using hown
      rb := by simpa [Ch.qB] using hr3 })
     have I3 := Lib.hid hi3
     have C3 := Lib.hid ((CD.out.alloc (.cells #[.int .i64 (bk : Int)] 3)).btw hb3 (fun e => by have h6 := PD.out.rb p e; have := PD.out.rp; omega))
     have B3 := Lib.hid ((BW.out.trans (Btw.of_below (below_new wd (.cells #[.int .i64 (bk : Int)] 3))) fun _ _ h => h).trans hbi3 fun _ _ h => h)
     clear hown hg hwh hP1 hI1 hp3 hi3 hr3 hb3 hbi3 y16
     have x16 := C3.out.cell_at 16 (.slice m.aB c.qblocks.length m.cB) rfl
     have f16 := C3.out.frozen 16
     have H4 := Lib.hid (CH.of' (I := I) (c' := c.qB bk) (m' := { m with aB := A3, cB := c3 }) (w' := w3.setCell ⟨p, 16, none⟩ (.slice A3 (c.qblocks.length + 1) c3)) (by
      have h0 := C3.out.setCell 16 (.slice A3 (c.qblocks.length + 1) c3)
      simpa [chCells, Ch.qB] using h0) P3.out I3.out ((Btw.refl _).setCell (p := ⟨p, 16, none⟩) rfl) fun W h => h)
     go_wp2_with fail
     refine (begin_ch (c := c.qB bk) false 0 HS.out HZ.out H4.out.1).mono ?_
     rintro _ w5 ⟨rfl, h5, hb5⟩
     have H5 := Lib.hid h5
     have B5 := Lib.hid ((B3.out.trans H4.out.2 fun _ _ h => h).trans hb5 fun _ _ h => h)
     clear h5 hb5 x16 f16
     go_wp2
     go_ret
     rw [HE.out]
     exact ⟨rfl, H5.out, B5.out⟩
    ·
     have HE := Lib.hid (show c.endErase g s 209 = (true, (c.pend false 0 [] []).begun s) by rw [HE0, if_neg hq])
     have dq : decide ((c.qblocks.length : Int) < g.p) = false := decide_eq_false hq
     clear HE0 h8 hb8
     go_enter Tryz.func143, Tryz.ntmps143
     go_wp2_with fail
     refine HRO.out.mono ?_
     rintro _ w1 ⟨rfl, h1⟩
     have B1 := Lib.hid h1
     have C1 := Lib.hid (C0.out.below h1)
     clear h1 C0
     have x19 := C1.out.cell_at 19 (.int .i64 g.p) rfl
     have x20 := C1.out.cell_at 20 (.int .i64 g.b) rfl
     have x21 := C1.out.cell_at 21 (.int .i64 g.s) rfl
     have x22 := C1.out.cell_at 22 (.int .i64 g.c) rfl
     have x23 := C1.out.cell_at 23 (.int .i64 g.k) rfl
     have x24 := C1.out.cell_at 24 (.int .i64 g.r) rfl
     have x25 := C1.out.cell_at 25 (.int .i64 g.q) rfl
     go_wp2_with fail
     refine (HSP.out _).mono ?_
     rintro _ w2 ⟨rfl, h2⟩
     have B2 := Lib.hid (show Below w.heap.size w w2 from B1.out.trans (h2.mono B1.out.size))
     have C2 := Lib.hid (C1.out.below h2)
     have P2 := Lib.hid (P0.out.below B2.out)
     have I2 := Lib.hid (I0.out.grow B2.out.size)
     have OQ := Lib.hid P2.out.qbl
     have OL := Lib.hid (show (IC c.qblocks).length = c.qblocks.length by simp [IC])
     clear h2 x19 x20 x21 x22 x23 x24 x25 C1
     go_wp2_with fail
     refine wp_region_noPanic ?_
     refine wp_region_held_drew (S := fun w' => Below w2.heap.size w2 w') (by kernel_rfl) ((Below.refl _ _).drew) (fun C0 => ?_)
     refine tkH4 0 C0 ?_
     refine tkH4 1 C0 ?_
     refine tkH4 2 C0 ?_
     refine tkH4 3 C0 ?_
     refine tkH4 4 C0 ?_ (hy := fun W' hSw => by have y16 : W'.cell? ⟨p, 16, none⟩ = some (.slice m.aB c.qblocks.length m.cB) := (hSw.cell (show (⟨p, 16, none⟩ : Addr).block < w2.heap.size from C2.out.lt)).trans (C2.out.cell_at 16 _ rfl); clear hSw; go_simp <;> with_reducible rfl)
     refine tkH4 5 C0 ?_
     refine tkH4 6 C0 ?_
     refine tkH4 7 C0 ?_
     refine tkH4 8 C0 ?_
     refine tkH4 9 C0 ?_
     refine tkH4 10 C0 ?_ (hy := fun W' hSw => by have y19 : W'.cell? ⟨p, 19, none⟩ = some (.int .i64 g.p) := (hSw.cell (show (⟨p, 19, none⟩ : Addr).block < w2.heap.size from C2.out.lt)).trans (C2.out.cell_at 19 _ rfl); clear hSw; go_simp <;> with_reducible rfl)
     refine tkH4 11 C0 ?_
     refine wpAnyH_done (by kernel_rfl) ?_ _
     refine NoPanic.normal ?_
     obtain ⟨wd, hwd⟩ : ∃ wd, wd = w2.drew := ⟨_, rfl⟩
     rw [← hwd]
     have CD := Lib.hid (show CRow wd p 72 (chCells g c m) by rw [hwd]; exact C2.out.drew)
     have BD := Lib.hid (show Below w2.heap.size w2 wd by rw [hwd]; exact (Below.refl _ _).drew)
     have PD := Lib.hid (P2.out.below BD.out)
     have ID := Lib.hid (I2.out.grow BD.out.size)
     have OQ := Lib.hid PD.out.qbl
     have BW := Lib.hid ((Btw.of_below (I := I) B2.out).trans (Btw.of_below BD.out) fun _ _ h => h)
     clear hwd
     go_wp2_with fail
     refine (begin_ch false 0 HS.out HZ.out ⟨ρ, m, CD.out, PD.out, ID.out⟩).mono ?_
     rintro _ w5 ⟨rfl, h5, hb5⟩
     have H5 := Lib.hid h5
     have B5 := Lib.hid (BW.out.trans hb5 fun _ _ h => h)
     clear h5 hb5
     go_wp2
     go_ret
     rw [HE.out]
     exact ⟨rfl, H5.out, B5.out⟩
   ·
    rw [if_neg h9] at HE0
    have HE := Lib.hid HE0
    have b9 : ((b : Int) == 209) = false := by simp; omega
    have j9 : ((b : Int) = 209) = False := eq_false (by omega)
    have d9 : decide ((b : Int) = 209) = false := decide_eq_false (by omega)
    clear HE0 h8 h9 hb8
    go_enter Tryz.func143, Tryz.ntmps143
    go_wp2_with fail
    refine HRO.out.mono ?_
    rintro _ w1 ⟨rfl, h1⟩
    have B1 := Lib.hid h1
    have C1 := Lib.hid (C0.out.below h1)
    clear h1 C0
    have x19 := C1.out.cell_at 19 (.int .i64 g.p) rfl
    have x20 := C1.out.cell_at 20 (.int .i64 g.b) rfl
    have x21 := C1.out.cell_at 21 (.int .i64 g.s) rfl
    have x22 := C1.out.cell_at 22 (.int .i64 g.c) rfl
    have x23 := C1.out.cell_at 23 (.int .i64 g.k) rfl
    have x24 := C1.out.cell_at 24 (.int .i64 g.r) rfl
    have x25 := C1.out.cell_at 25 (.int .i64 g.q) rfl
    go_wp2_with fail
    refine (HSP.out _).mono ?_
    rintro _ w2 ⟨rfl, h2⟩
    have B2 := Lib.hid (show Below w.heap.size w w2 from B1.out.trans (h2.mono B1.out.size))
    have C2 := Lib.hid (C1.out.below h2)
    have P2 := Lib.hid (P0.out.below B2.out)
    have I2 := Lib.hid (I0.out.grow B2.out.size)
    have OQ := Lib.hid P2.out.qbl
    have OL := Lib.hid (show (IC c.qblocks).length = c.qblocks.length by simp [IC])
    clear h2 x19 x20 x21 x22 x23 x24 x25 C1
    go_wp2
    go_ret
    rw [HE.out]
    exact ⟨rfl, HH.out.below B2.out, Btw.of_below B2.out⟩
 ·
  rw [decide_eq_false hr] at hro
  have HRO := Lib.hid hro
  have HE := Lib.hid (show c.endErase g s b = (false, c) by unfold Ch.endErase; rw [if_neg hr])
  clear hr hbd hgs hgb hro hc hp hi hs hz hf hl
  go_enter Tryz.func143, Tryz.ntmps143
  go_wp2_with fail
  refine HRO.out.mono ?_
  rintro _ w1 ⟨rfl, h1⟩
  have B1 := Lib.hid h1
  clear h1
  go_wp2
  go_ret
  rw [HE.out]
  exact ⟨rfl, HH.out.below B1.out, Btw.of_below B1.out⟩
end
section
variable {ρ : Nat → Nat} {I J : Nat → Prop} {w w' : World} {p : Nat} {g : Gm} {s : Sc} {c : Ch} {m : Cm}
def Ch.putB (s : Sc) (c : Ch) (y : Pr) : Ch := { c with brow := y.row, braw := y.raw, there := true, polls := nb s c, bz := c.bz + 1 }
def Cm.putB (m : Cm) (a : Option Addr) (n : Nat) : Cm := { m with aG := a, cG := n }
def Ch.putBehind (g : Gm) (s : Sc) (c : Ch) (y : Pr) : Ch := ((if c.there then c else { c with prev := false }).pBehind g s).putB s y
theorem pBehind_bz (g : Gm) (s : Sc) (c : Ch) : (c.pBehind g s).bz = c.bz := by unfold Ch.pBehind; split <;> rfl
theorem putB_row {y : Pr} {aX : Option Addr} {cX : Nat} (h : CRow w p 72 (chCells g { c with bz := c.bz } m)) :
  CRow (w.setCells p 11 (#[.int .i64 (y.row : Int), .slice aX y.raw.length cX, .bool true, .int .i64 ((nb s c : Nat) : Int)] : Array Value).toList) p 72 (chCells g (c.putB s y) (m.putB aX cX)) := by
 have h1 := h.setCells (#[.int .i64 (y.row : Int), .slice aX y.raw.length cX, .bool true, .int .i64 ((nb s c : Nat) : Int)] : Array Value).toList 11
 have e : setList (chCells g c m) 11 (#[.int .i64 (y.row : Int), .slice aX y.raw.length cX, .bool true, .int .i64 ((nb s c : Nat) : Int)] : Array Value).toList = chCells g (c.putB s y) (m.putB aX cX) := by simp [setList, chCells, Ch.putB, Cm.putB]
 rw [e] at h1
 exact h1
theorem Pt.putB {y : Pr} {aX : Option Addr} {cX : Nat} (h : Pt ρ w p g s { c with bz := c.bz + 1, wk := c.wk } m) (hX : R8 w aX y.raw.length y.raw) (hr : ∀ b off, aX = some ⟨b, off, none⟩ → 0 < y.raw.length → ρ b = 12) : Pt ρ w p g s (c.putB s y) (m.putB aX cX) :=
 {
  h with
  bgr := hX
  rg := hr }
set_option maxHeartbeats 4000000 in
theorem putBehind_any (y : Pr) (aX : Option Addr) (cX : Nat) (hs : SG g s) (hf : c.fit g) (hz : c.bz ≤ 1099511627776) (hw : c.wk ≤ 1099511627776) (hX : R8 w aX y.raw.length y.raw) (hXr : ∀ b off, aX = some ⟨b, off, none⟩ → 0 < y.raw.length → ρ b = 12) (hp : Pt ρ w p g s c m) (h : CRow w p 72 (chCells g c m)) :
  Calls Tryz.prog 161 #[.pointer (some ⟨p, 0, none⟩), .agg #[.int .i64 (y.row : Int), .slice aX y.raw.length cX]] w (PfT ρ p g s m (.tuple #[]) (c.putBehind g s y) ((m.pBehind c.there).putB aX cX) w) := by
 have HS := Lib.hid hs
 have HW := Lib.hid hw
 have N1 := Lib.hid (below_new w (.cells #[.int .i64 (y.row : Int), .slice aX y.raw.length cX] 65))
 have Z1 := Lib.hid (CRow.new w #[.int .i64 (y.row : Int), .slice aX y.raw.length cX] 65)
 have C1 := Lib.hid (h.below N1.out)
 have P1 := Lib.hid (hp.below N1.out)
 have hne : w.heap.size ≠ p := by have := h.lt; omega
 have HX1 := Lib.hid hX
 have HXN := Lib.hid (show ∀ b off, aX = some ⟨b, off, none⟩ → 0 < y.raw.length → ¬ Own4 m p b from fun b off e hn h4 => by
  have h12 := hXr b off e hn
  have := hp.own4 b h4
  omega)
 have HX := Lib.hid hXr
 have HNP := Lib.hid (show ¬ Own4 m p w.heap.size from fun h4 => by have := hp.own4 _ h4; have h5 := hp.lt w.heap.size (by omega); omega)
 have HNW := Lib.hid hne
 have HZ := Lib.hid hz
 cases hth : c.there with
 | true =>
  have x13 : (w.alloc (.cells #[.int .i64 (y.row : Int), .slice aX y.raw.length cX] 65)).cell? ⟨p, 13, none⟩ = some (.bool true) := by
   have h0 := C1.out.cell_at 13 (.bool c.there) rfl
   rw [hth] at h0
   exact h0
  have CX := C1
  have ZX := Z1
  have PX := P1
  have BX := Lib.hid (Btw.of_below (I := Own4 m p) N1.out)
  have HF1 := Lib.hid (show (c : Ch).fit g from { hf with })
  have HE := Lib.hid (show c.putBehind g s y = ((c : Ch).pBehind g s).putB s y by unfold Ch.putBehind; rw [hth]; rfl)
  have HTH := Lib.hid hth
  clear h hp hs hz hf hw hth C1 Z1 P1
  go_enter Tryz.func161, Tryz.ntmps161
  go_wp2_with fail
  refine (performBehind_any HS.out HF1.out HW.out PX.out CX.out).mono ?_
  rintro _ w2 ⟨rfl, hc, hp, hb⟩
  have C2 := Lib.hid (show CRow w2 p 72 (chCells g ((c : Ch).pBehind g s) m.noBehind) by have h0 := hc; rw [show m.pBehind (c : Ch).there = m.noBehind by (show m.pBehind c.there = m.noBehind); rw [HTH.out]; rfl] at h0; exact h0)
  have P2 := Lib.hid (show Pt ρ w2 p g s ((c : Ch).pBehind g s) m.noBehind by have h0 := hp; rw [show m.pBehind (c : Ch).there = m.noBehind by (show m.pBehind c.there = m.noBehind); rw [HTH.out]; rfl] at h0; exact h0)
  have B2 := Lib.hid (BX.out.trans hb (fun _ _ h => h))
  have Z2 := Lib.hid (ZX.out.btw hb HNP.out)
  have X2 := Lib.hid ((HX1.out).btw0 B2.out HXN.out)
  have HBZ0 : ((c : Ch).pBehind g s).bz ≤ 1099511627776 := by rw [pBehind_bz]; exact HZ.out
  generalize hcc : (c : Ch).pBehind g s = cc at *
  clear hc hp hb hcc
  have HN := nb_is HS.out.ok cc
  have HBZ := Lib.hid (fun W (ht : Tel W m.t m.lo m.hi s (cc.bz : Int) (cc.wk : Int)) => Busy_any m.t m.lo m.hi s cc.bz (cc.wk : Int) W ht HS.out.short HS.out.ok HBZ0)
  rw [HN.1] at HBZ
  clear HN HBZ0
  have X26 := Lib.hid (C2.out.cell_at 26 (.pointer (some ⟨m.t, 0, none⟩)) rfl)
  have z0 := Z2.out.cell_at 0 _ rfl
  have z1 := Z2.out.cell_at 1 _ rfl
  go_wp2_with fail
  refine wp_region_noPanic ?_
  refine wp_region_held_drew (S := fun w' => CRow w' w.heap.size 65 #[.int .i64 (y.row : Int), .slice aX y.raw.length cX] ∧ w'.cell? ⟨p, 26, none⟩ = some (.pointer (some ⟨m.t, 0, none⟩))) (by kernel_rfl) ⟨Z2.out.drew, X26.out⟩ (fun C0 => ?_)
  refine tkH4 0 C0 ?_
  refine tkH4 1 C0 ?_ (hy := fun W' hSw => by have y0 := hSw.1.cell_at 0 _ rfl; have y1 := hSw.1.cell_at 1 _ rfl; clear hSw; go_simp <;> with_reducible rfl)
  refine tkH4 2 C0 ?_
  refine tkH4 3 C0 ?_
  refine tkH4 4 C0 ?_
  refine tkH4 5 C0 ?_ (hy := fun W' hSw => by have y26 := hSw.2; clear hSw; go_simp <;> with_reducible rfl)
  refine wpAnyH_ready (rs := [6]) (by kernel_rfl) (by simp) ?_
  refine AllReadyH.cons (o := zNc0) rfl (fun K hK => ?_) AllReadyH.nil
  dsimp only [zNc0]
  go_simp
  refine (HBZ.out _ (P2.out.below ((Below.refl _ _).drew)).tel).mono ?_
  rintro _ w3 ⟨rfl, hb, ht⟩
  have P3 := Lib.hid ((P2.out.below ((Below.refl _ _).drew)).teller (bz := cc.bz + 1) (wk := cc.wk) hb (by push_cast; exact ht))
  have C3 := Lib.hid ((C2.out.drew).btw hb P2.out.ne_q.2.2)
  have Z3 := Lib.hid ((Z2.out.drew).btw hb (fun e => HNP.out (.inr (.inl e))))
  have B3 := Lib.hid ((B2.out.drew).trans hb (fun _ _ h => .inr (.inl h)))
  have X3 := Lib.hid (HX1.out.btw0 B3.out HXN.out)
  clear hb ht
  go_wp2_with fail
  refine hK.out _ _ ⟨Z3.out, C3.out.cell_at 26 (.pointer (some ⟨m.t, 0, none⟩)) rfl⟩ (fun C1 => ?_)
  clear hK K
  try simp only [Act.put, zzI, zzO, zzS]
  refine tkH4 7 C1 ?_
  refine tkH4 8 C1 ?_
  refine tkH4 9 C1 ?_
  refine tkH4 10 C1 ?_
  refine wpAnyH_ready (rs := [11]) (by kernel_rfl) (by simp) ?_
  refine AllReadyH.cons (o := zNc1) rfl (fun K hK => ?_) AllReadyH.nil
  dsimp only [zNc1]
  refine wp_store_mid 67 (.tmp 27) (.tmp 24) rfl p 11 #[.int .i64 (y.row : Int), .slice aX y.raw.length cX, .bool true, .int .i64 ((nb s cc : Nat) : Int)] (by simp [Act.eval]) (by simp [Act.eval]) (C3.out.there 11 4 (by simp [chCells])) size_background (by simp [Value.oneCell']) ?_
  have C5 := Lib.hid (putB_row (y := y) (aX := aX) (cX := cX) (s := s) C3.out)
  have X5 := Btw.setCells (I := fun j => j = p) (g := p) rfl (#[.int .i64 (y.row : Int), .slice aX y.raw.length cX, .bool true, .int .i64 ((nb s cc : Nat) : Int)] : Array Value).toList 11 (Btw.refl w3)
  have P5 := Lib.hid ((P3.out.btw X5 (fun j e => e ▸ P3.out.rp)).putB (y := y) (aX := aX) (cX := cX) (s := s) (X3.out.btw0 (Btw.setCells (I := Own4 m p) (g := p) (.inl rfl) _ 11 (Btw.refl w3)) HXN.out) HX.out)
  have B5 := Lib.hid (B3.out.trans X5 (fun _ _ h => .inl h))
  refine hK.out _ _ ⟨Z3.out.btw X5 HNW.out, (putB_row (y := y) (aX := aX) (cX := cX) (s := s) C3.out).cell_at 26 (.pointer (some ⟨m.t, 0, none⟩)) rfl⟩ (fun C2 => ?_)
  clear X5
  clear hK K
  try simp only [Act.put]
  refine wpAnyH_done (by kernel_rfl) ?_ _
  refine NoPanic.normal ?_
  go_wp2
  go_end0
  rw [HE.out]
  exact ⟨rfl, C5.out, P5.out, B5.out⟩
 | false =>
  have x13 : (w.alloc (.cells #[.int .i64 (y.row : Int), .slice aX y.raw.length cX] 65)).cell? ⟨p, 13, none⟩ = some (.bool false) := by
   have h0 := C1.out.cell_at 13 (.bool c.there) rfl
   rw [hth] at h0
   exact h0
  have x18 := C1.out.cell_at 18 (.bool c.prev) rfl
  have f18 := C1.out.frozen 18
  have CX := Lib.hid (show CRow ((w.alloc (.cells #[.int .i64 (y.row : Int), .slice aX y.raw.length cX] 65)).setCell ⟨p, 18, none⟩ (.bool false)) p 72 (chCells g { c with prev := false } m) by
   have h0 := C1.out.setCell 18 (.bool false)
   have e : (chCells g c m).setIfInBounds 18 (.bool false) = chCells g { c with prev := false } m := by simp [chCells]
   rw [e] at h0
   exact h0)
  have ZX := Lib.hid (Z1.out.setCell_other (p := ⟨p, 18, none⟩) hne (.bool false))
  have PX := Lib.hid (show Pt ρ ((w.alloc (.cells #[.int .i64 (y.row : Int), .slice aX y.raw.length cX] 65)).setCell ⟨p, 18, none⟩ (.bool false)) p g s { c with prev := false } m from { P1.out.set 18 (.bool false) with })
  have BX := Lib.hid ((Btw.of_below (I := Own4 m p) N1.out).setCell (p := ⟨p, 18, none⟩) (v := .bool false) (.inl rfl))
  have HF1 := Lib.hid (show ({ c with prev := false } : Ch).fit g from { hf with })
  have HE := Lib.hid (show c.putBehind g s y = (({ c with prev := false } : Ch).pBehind g s).putB s y by unfold Ch.putBehind; rw [hth]; rfl)
  have HTH := Lib.hid hth
  clear h hp hs hz hf hw hth C1 Z1 P1
  go_enter Tryz.func161, Tryz.ntmps161
  go_wp2_with fail
  refine (performBehind_any HS.out HF1.out HW.out PX.out CX.out).mono ?_
  rintro _ w2 ⟨rfl, hc, hp, hb⟩
  have C2 := Lib.hid (show CRow w2 p 72 (chCells g (({ c with prev := false } : Ch).pBehind g s) m) by have h0 := hc; rw [show m.pBehind ({ c with prev := false } : Ch).there = m by (show m.pBehind c.there = m); rw [HTH.out]; rfl] at h0; exact h0)
  have P2 := Lib.hid (show Pt ρ w2 p g s (({ c with prev := false } : Ch).pBehind g s) m by have h0 := hp; rw [show m.pBehind ({ c with prev := false } : Ch).there = m by (show m.pBehind c.there = m); rw [HTH.out]; rfl] at h0; exact h0)
  have B2 := Lib.hid (BX.out.trans hb (fun _ _ h => h))
  have Z2 := Lib.hid (ZX.out.btw hb HNP.out)
  have X2 := Lib.hid ((HX1.out).btw0 B2.out HXN.out)
  have HBZ0 : (({ c with prev := false } : Ch).pBehind g s).bz ≤ 1099511627776 := by rw [pBehind_bz]; exact HZ.out
  generalize hcc : ({ c with prev := false } : Ch).pBehind g s = cc at *
  clear hc hp hb hcc
  have HN := nb_is HS.out.ok cc
  have HBZ := Lib.hid (fun W (ht : Tel W m.t m.lo m.hi s (cc.bz : Int) (cc.wk : Int)) => Busy_any m.t m.lo m.hi s cc.bz (cc.wk : Int) W ht HS.out.short HS.out.ok HBZ0)
  rw [HN.1] at HBZ
  clear HN HBZ0
  have X26 := Lib.hid (C2.out.cell_at 26 (.pointer (some ⟨m.t, 0, none⟩)) rfl)
  have z0 := Z2.out.cell_at 0 _ rfl
  have z1 := Z2.out.cell_at 1 _ rfl
  go_wp2_with fail
  refine wp_region_noPanic ?_
  refine wp_region_held_drew (S := fun w' => CRow w' w.heap.size 65 #[.int .i64 (y.row : Int), .slice aX y.raw.length cX] ∧ w'.cell? ⟨p, 26, none⟩ = some (.pointer (some ⟨m.t, 0, none⟩))) (by kernel_rfl) ⟨Z2.out.drew, X26.out⟩ (fun C0 => ?_)
  refine tkH4 0 C0 ?_
  refine tkH4 1 C0 ?_ (hy := fun W' hSw => by have y0 := hSw.1.cell_at 0 _ rfl; have y1 := hSw.1.cell_at 1 _ rfl; clear hSw; go_simp <;> with_reducible rfl)
  refine tkH4 2 C0 ?_
  refine tkH4 3 C0 ?_
  refine tkH4 4 C0 ?_
  refine tkH4 5 C0 ?_ (hy := fun W' hSw => by have y26 := hSw.2; clear hSw; go_simp <;> with_reducible rfl)
  refine wpAnyH_ready (rs := [6]) (by kernel_rfl) (by simp) ?_
  refine AllReadyH.cons (o := zNc0) rfl (fun K hK => ?_) AllReadyH.nil
  dsimp only [zNc0]
  go_simp
  refine (HBZ.out _ (P2.out.below ((Below.refl _ _).drew)).tel).mono ?_
  rintro _ w3 ⟨rfl, hb, ht⟩
  have P3 := Lib.hid ((P2.out.below ((Below.refl _ _).drew)).teller (bz := cc.bz + 1) (wk := cc.wk) hb (by push_cast; exact ht))
  have C3 := Lib.hid ((C2.out.drew).btw hb P2.out.ne_q.2.2)
  have Z3 := Lib.hid ((Z2.out.drew).btw hb (fun e => HNP.out (.inr (.inl e))))
  have B3 := Lib.hid ((B2.out.drew).trans hb (fun _ _ h => .inr (.inl h)))
  have X3 := Lib.hid (HX1.out.btw0 B3.out HXN.out)
  clear hb ht
  go_wp2_with fail
  refine hK.out _ _ ⟨Z3.out, C3.out.cell_at 26 (.pointer (some ⟨m.t, 0, none⟩)) rfl⟩ (fun C1 => ?_)
  clear hK K
  try simp only [Act.put, zzI, zzO, zzS]
  refine tkH4 7 C1 ?_
  refine tkH4 8 C1 ?_
  refine tkH4 9 C1 ?_
  refine tkH4 10 C1 ?_
  refine wpAnyH_ready (rs := [11]) (by kernel_rfl) (by simp) ?_
  refine AllReadyH.cons (o := zNc1) rfl (fun K hK => ?_) AllReadyH.nil
  dsimp only [zNc1]
  refine wp_store_mid 67 (.tmp 27) (.tmp 24) rfl p 11 #[.int .i64 (y.row : Int), .slice aX y.raw.length cX, .bool true, .int .i64 ((nb s cc : Nat) : Int)] (by simp [Act.eval]) (by simp [Act.eval]) (C3.out.there 11 4 (by simp [chCells])) size_background (by simp [Value.oneCell']) ?_
  have C5 := Lib.hid (putB_row (y := y) (aX := aX) (cX := cX) (s := s) C3.out)
  have X5 := Btw.setCells (I := fun j => j = p) (g := p) rfl (#[.int .i64 (y.row : Int), .slice aX y.raw.length cX, .bool true, .int .i64 ((nb s cc : Nat) : Int)] : Array Value).toList 11 (Btw.refl w3)
  have P5 := Lib.hid ((P3.out.btw X5 (fun j e => e ▸ P3.out.rp)).putB (y := y) (aX := aX) (cX := cX) (s := s) (X3.out.btw0 (Btw.setCells (I := Own4 m p) (g := p) (.inl rfl) _ 11 (Btw.refl w3)) HXN.out) HX.out)
  have B5 := Lib.hid (B3.out.trans X5 (fun _ _ h => .inl h))
  refine hK.out _ _ ⟨Z3.out.btw X5 HNW.out, (putB_row (y := y) (aX := aX) (cX := cX) (s := s) C3.out).cell_at 26 (.pointer (some ⟨m.t, 0, none⟩)) rfl⟩ (fun C2 => ?_)
  clear X5
  clear hK K
  try simp only [Act.put]
  refine wpAnyH_done (by kernel_rfl) ?_ _
  refine NoPanic.normal ?_
  go_wp2
  go_end0
  rw [HE.out]
  exact ⟨rfl, C5.out, P5.out, B5.out⟩
end
section
theorem info_program : (Tryz.prog.info? 65).map (fun i => (i.zero, i.size, i.bytes)) = some (some (.agg #[.int .i64 0, .slice none 0 0]), 2, 32) := by kernel_rfl
theorem PC_push (l : List Rp) (x : Rp) : PC (l ++ [x]) = PC l ++ [.int .i64 (x.y.row : Int), .slice x.a x.y.raw.length x.c] := by simp [PC]
theorem wp_appendPA (w : World) {o : Oper} {a : Act} {K : Act → World → Prop} {Q : Exit → Act → World → Prop} (s x : Operand)
  (ho : o.op = .call { callee := .builtin .append, args := #[s, x], argTypes := #[61, 61] }) (base : Nat) (v : Value) (l : List Rp) (n : Nat) (y : Rp) (hs : a.eval s = v) (hown : w.ownsRow base 65 2 v n (PC l))
  (ad : Addr) (c : Nat) (hx : a.eval x = .slice (some ad) 1 c) (hr : ∀ j u, ([.int .i64 (y.y.row : Int), .slice y.a y.y.raw.length y.c] : List Value)[j]? = some u → w.cell? (ad.add j) = some u) (h63 : n + 1 ≤ 1099511627776) (hbase : base ≤ w.heap.size)
  (h : ∀ v' w', w'.ownsRow base 65 2 v' (n + 1) (PC (l ++ [y])) → w.grownBy w' v.ownBlock → (v'.ownBlock = v.ownBlock ∨ v'.ownBlock = some w.heap.size) → K (a.put o.dst v') w') : o.wp Tryz.prog a w K Q := by
 obtain ⟨i0, hi, hz0, hz1, hz2⟩ := info_parts info_program
 obtain ⟨v', w', hrun, h2, h3, _, h4⟩ := run_append_own_at (P := Tryz.prog) (w := w) base 61 o.type 65 i0 _ 2 32 Tryz.underlying61 hi hz0 hz1 hz2 rfl (by decide) v n (PC l) hown ad 1 c [.int .i64 (y.y.row : Int), .slice y.a y.y.raw.length y.c] rfl hr (by simp [Value.oneCell']) (by unfold maxLen; omega) (by omega) hbase
 unfold Oper.wp execOp
 simp only [ho, resolve, invoke, builtin, Sem.run_bind, Sem.run_pure, Result.andThen_ok, List.map_toArray, List.map_cons, List.map_nil, hs, hx, hrun]
 exact (h v' w' (by rw [PC_push]; exact h2) h3 h4)
variable {ρ : Nat → Nat} {I J : Nat → Prop} {w w' : World} {p : Nat} {g : Gm} {s : Sc} {c : Ch} {m : Cm}
theorem Pt.grownTo2 {wa w3 : World} {v v' : Value} (R : Nat) (hR : R ≠ 0) (hE : Pt ρ wa p g s c m) (hi : CI ρ I wa) (hJ : ∀ j, v.ownBlock = some j → m.idle (ρ j) ∧ ρ j ≠ 99) (hg : wa.grownBy w3 v.ownBlock)
  (hwh : v'.ownBlock = v.ownBlock ∨ v'.ownBlock = some wa.heap.size) (hlow : ∀ k, v'.ownBlock = some k → k < w3.heap.size) :
  ∃ ρ', Pt ρ' w3 p g s c m ∧ CI ρ' I w3 ∧ (∀ k, v'.ownBlock = some k → ρ' k = R) ∧ Btw (fun j => v.ownBlock = some j) wa w3 ∧ Btw I wa w3 ∧ ∀ j, ρ j = 12 → ρ' j = 12 := by
 have hB0 : Btw (fun j => v.ownBlock = some j) wa w3 := Btw.of_grown hg (fun _ h => h)
 have hJI : ∀ j, v.ownBlock = some j → I j := fun j hj => hi.own j (by have := (hJ j hj).1; unfold Cm.idle at this; omega) (hJ j hj).2
 have hBI : Btw I wa w3 := (Btw.refl wa).trans hB0 fun j _ h => hJI j h
 cases hk : v'.ownBlock with
 | none => exact ⟨ρ, hE.btwI hB0 (fun j hj => .inr (hJ j hj).1), hi.grow hB0.size, fun k hk => (nomatch hk), hB0, hBI, fun _ h => h⟩
 | some k =>
  have hlt := hlow k hk
  have hor : (m.idle (ρ k) ∧ ρ k ≠ 99) ∨ wa.heap.size ≤ k := by
   rw [hk] at hwh
   rcases hwh with e | e
   ·
    exact .inl (hJ k e.symm)
   ·
    injection e with e; exact .inr (by omega)
  refine ⟨role1 ρ k R, hE.grew hB0 hJ k R hR hor hlt, hi.grew (m := m) hB0.size k R hor, fun j hj => by injection hj with e; unfold role1; rw [if_pos e.symm], hB0, hBI, fun j hj => ?_⟩
  have hne : j ≠ k := by
   rintro rfl
   rcases hor with h | h
   ·
    have h5 := h.1; unfold Cm.idle at h5; omega
   ·
    have := hE.lt j (by omega); omega
  unfold role1
  rw [if_neg hne]
  exact hj
def Ch.qP (c : Ch) (y : Pr) : Ch := { c with queued := c.queued ++ [y] }
def Ch.endLoad (g : Gm) (s : Sc) (c : Ch) (b : Nat) : Bool × Ch :=
 if c.addr2 2 < g.b.toNat * g.s.toNat then
  if b = 16 then (true, (c.discard.pend false 0 (c.queued ++ [⟨c.addr2 2, c.reg⟩]) []).begun s)
  else if b = 17 then (true, ((if (c.queued.length : Int) < g.p then c.qP ⟨c.addr2 2, c.reg⟩ else c).pend false 0 [] []).begun s)
  else if b = 21 then (true, ((c.putBehind g s ⟨c.addr2 2, c.reg⟩).discard.pend false 0 [] []).begun s)
  else (false, c)
 else (false, c)
theorem putBehind_bz (y : Pr) : (c.putBehind g s y).bz = c.bz + 1 := by
 unfold Ch.putBehind Ch.putB
 show Ch.bz (Ch.pBehind g s _) + 1 = _
 rw [pBehind_bz]
 split <;> rfl
set_option maxHeartbeats 4000000 in
theorem endLoad_any (b : Nat) (hb8 : b < 256) (hs : SG g s) (hz : c.bz ≤ 1099511600000) (hw : c.wk ≤ 1099511627776) (hf : c.fit g) (hl : c.listed.length = 4) (h : CH I w p g s c) :
  Calls Tryz.prog 142 #[.pointer (some ⟨p, 0, none⟩), .int .u8 (b : Int)] w (Acts I p g s (.bool (c.endLoad g s b).1) (c.endLoad g s b).2 w) := by
 have HH := Lib.hid h
 obtain ⟨ρ, m, hc, hp, hi⟩ := h
 have hro := row_any (c := c) 2 hl (by omega) hp hc
 have C0 := Lib.hid hc
 have P0 := Lib.hid hp
 have I0 := Lib.hid hi
 have HS := Lib.hid hs
 have HZ := Lib.hid (show c.bz ≤ 1099511627776 by omega)
 have HF := Lib.hid hf
 have HW := Lib.hid hw
 have HZP := Lib.hid (fun y => show (c.putBehind g s y).bz ≤ 1099511627776 by rw [putBehind_bz]; omega)
 have hraw := hp.raw_
 have hrn := hp.regn
 have hbd := Gm.bounds_of hp.arr.ok
 have NQ := Lib.hid (show c.queued.length ≤ 100 by have := hf.nq; omega)
 by_cases hr : c.addr2 2 < g.b.toNat * g.s.toNat
 ·
  rw [decide_eq_true hr] at hro
  have HRO := Lib.hid hro
  have HE0 : c.endLoad g s b = (if b = 16 then (true, (c.discard.pend false 0 (c.queued ++ [⟨c.addr2 2, c.reg⟩]) []).begun s) else if b = 17 then (true, ((if (c.queued.length : Int) < g.p then c.qP ⟨c.addr2 2, c.reg⟩ else c).pend false 0 [] []).begun s) else if b = 21 then (true, ((c.putBehind g s ⟨c.addr2 2, c.reg⟩).discard.pend false 0 [] []).begun s) else (false, c)) := by
   unfold Ch.endLoad
   rw [if_pos hr]
  obtain ⟨br, cur, u, ea, e2, e3, e4⟩ := hp.reg
  have HCL := Lib.hid (fun W (hh : R8 W (some ⟨br, 0, none⟩) c.reg.length c.reg) => BClone_any (some ⟨br, 0, none⟩) c.reg.length m.cR c.reg W hh (by omega))
  have R0 := Lib.hid e4
  have EA := Lib.hid ea
  have HRN := Lib.hid (show 0 < c.reg.length by omega)
  have L8 := Lib.hid e4.2
  generalize c.addr2 2 = rw0 at *
  clear hr hbd hraw hrn hro hc hp hi hs hz hf hl hw e2 e3 e4 ea
  by_cases h8 : b = 16
  ·
   rw [if_pos h8] at HE0
   have HE := Lib.hid HE0
   subst h8
   clear HE0 hb8
   go_enter Tryz.func142, Tryz.ntmps142
   go_wp2_with fail
   refine HRO.out.mono ?_
   rintro _ w1 ⟨rfl, h1⟩
   have B1 := Lib.hid h1
   have C1 := Lib.hid (C0.out.below h1)
   clear h1 C0
   have x5 : w1.cell? ⟨p, 5, none⟩ = some (.slice (some ⟨br, 0, none⟩) c.reg.length m.cR) := by rw [← EA.out]; exact C1.out.cell_at 5 _ rfl
   go_wp2_with fail
   refine (HCL.out _ (R0.out.below B1.out)).mono ?_
   rintro _ w2 ⟨Ax, cx, rfl, hox, h2⟩
   obtain ⟨bx, rfl, hbx⟩ := own_head hox HRN.out L8.out
   have B2 := Lib.hid (show Below w.heap.size w w2 from B1.out.trans (h2.mono B1.out.size))
   have hlx := (own_low hox bx rfl).2
   have C3 := Lib.hid ((C1.out.below h2).below (below_new w2 (.cells #[.int .i64 (rw0 : Int), .slice (some ⟨bx, 0, none⟩) c.reg.length cx] 65)))
   have hx8 : R8 w2 (some ⟨bx, 0, none⟩) c.reg.length c.reg := R8.own hox L8.out
   have hbx2 : w.heap.size ≤ bx := Nat.le_trans B1.out.size hbx.1
   have P3 := Lib.hid ((P0.out.more1 B2.out bx 12 hbx2 hlx).below (below_new w2 (.cells #[.int .i64 (rw0 : Int), .slice (some ⟨bx, 0, none⟩) c.reg.length cx] 65)))
   have I3 := Lib.hid ((I0.out.one B2.out.size bx 12 hbx2).grow (below_new w2 (.cells #[.int .i64 (rw0 : Int), .slice (some ⟨bx, 0, none⟩) c.reg.length cx] 65)).size)
   have B3 := Lib.hid ((Btw.of_below (I := I) B2.out).trans (Btw.of_below (below_new w2 (.cells #[.int .i64 (rw0 : Int), .slice (some ⟨bx, 0, none⟩) c.reg.length cx] 65))) fun _ _ h => h)
   have X3 := Lib.hid (hx8.below (below_new w2 (.cells #[.int .i64 (rw0 : Int), .slice (some ⟨bx, 0, none⟩) c.reg.length cx] 65)))
   have Z3 := Lib.hid (CRow.new w2 #[.int .i64 (rw0 : Int), .slice (some ⟨bx, 0, none⟩) c.reg.length cx] 65)
   have NZ := Lib.hid (show ∀ j, role1 ρ bx 12 j ≠ 0 → j < w2.heap.size from fun j hj => (P0.out.more1 B2.out bx 12 hbx2 hlx).lt j hj)
   have R12 := Lib.hid (show role1 ρ bx 12 bx = 12 from if_pos rfl)
   have OQ := Lib.hid P3.out.que
   have z0 := Z3.out.cell_at 0 _ rfl
   have z1 := Z3.out.cell_at 1 _ rfl
   clear hox h2 hbx hlx hx8 hbx2 x5 C1
   obtain ⟨w3, hw3⟩ : ∃ w3, w3 = (w2.alloc (.cells #[.int .i64 (rw0 : Int), .slice (some ⟨bx, 0, none⟩) c.reg.length cx] 65)) := ⟨_, rfl⟩
   rw [← hw3] at C3 P3 I3 B3 X3 Z3 OQ
   have N0 := Lib.hid (show role1 ρ bx 12 w2.heap.size = 0 from Classical.byContradiction fun e => by have := NZ.out _ e; omega)
   have CD := Lib.hid (C3.out.drew)
   have PD := Lib.hid (P3.out.below ((Below.refl _ _).drew))
   have ID := Lib.hid (I3.out.grow ((Below.refl w3.heap.size w3).drew).size)
   have BD := Lib.hid (B3.out.drew)
   have XD := Lib.hid (X3.out.below ((Below.refl _ _).drew))
   go_wp2_with fail
   rw [← hw3]
   clear hw3 z0 z1
   refine wp_region_noPanic ?_
   refine wp_region_held_drew (S := fun w' => CRow w' w2.heap.size 65 #[.int .i64 (rw0 : Int), .slice (some ⟨bx, 0, none⟩) c.reg.length cx]) (by kernel_rfl) Z3.out.drew (fun C0 => ?_)
   refine tkH4 0 C0 ?_
   refine tkH4 1 C0 ?_
   refine tkH4 2 C0 ?_
   refine tkH4 3 C0 ?_
   refine tkH4 4 C0 ?_
   refine tkH4 6 C0 ?_ (hy := fun W' hSw => by have y0 := hSw.cell_at 0 _ rfl; have y1 := hSw.cell_at 1 _ rfl; clear hSw; go_simp <;> with_reducible rfl)
   refine wpAnyH_ready (rs := [5, 7]) (by kernel_rfl) (by simp) ?_
   refine AllReadyH.cons (o := { dst := some 31, op := Op.load 61 (Operand.tmp 30), type := 61, pos := "cycles.go:208", after := #[{ on := 4, ground := Ground.data }], guard := none }) rfl (fun K hK => ?_) (AllReadyH.cons (o := { dst := some 33, op := Op.buildSlice 61 1 #[(0, Operand.tmp 32)], type := 61, pos := "cycles.go:208", after := #[{ on := 6, ground := Ground.data }], guard := none }) rfl (fun K hK => ?_) AllReadyH.nil)
   ·
    have y15 := CD.out.cell_at 15 (.slice m.aQ c.queued.length m.cQ) rfl
    go_simp
    refine hK.out _ _ C0 (fun C1 => ?_)
    clear y15
    clear hK K
    try simp only [Act.put, zzI, zzO, zzS]
    refine wpAnyH_ready (rs := [7]) (by kernel_rfl) (by simp) ?_
    refine AllReadyH.cons (o := { dst := some 33, op := Op.buildSlice 61 1 #[(0, Operand.tmp 32)], type := 61, pos := "cycles.go:208", after := #[{ on := 6, ground := Ground.data }], guard := none }) rfl (fun K hK => ?_) AllReadyH.nil
    go_simp
    refine hK.out _ _ (C1.alloc _) (fun C2 => ?_)
    clear hK K
    try simp only [Act.put, zzI, zzO, zzS]
    refine wpAnyH_ready (rs := [8]) (by kernel_rfl) (by simp) ?_
    refine AllReadyH.cons (o := zNc2) rfl (fun K hK => ?_) AllReadyH.nil
    dsimp only [zNc2]
    refine wp_appendPA (w3.drew.alloc (.cells #[.int .i64 (rw0 : Int), .slice (some ⟨bx, 0, none⟩) c.reg.length cx] 65)) (.tmp 31) (.tmp 33) rfl 0 _ m.lQ c.queued.length ⟨some ⟨bx, 0, none⟩, cx, ⟨rw0, c.reg⟩⟩ rfl (own_below2 PD.out.que (below_new w3.drew _)) ⟨w3.drew.heap.size, 0, none⟩ 1 rfl (pair_new w3.drew _ _ _) (by have := NQ.out; omega) (Nat.zero_le _) ?_
    intro v3 w5 hown hg hwh
    obtain ⟨A3, c3, rfl⟩ := own_form2 hown
    have hP1 : Pt (role1 ρ bx 12) (w3.drew.alloc (.cells #[.int .i64 (rw0 : Int), .slice (some ⟨bx, 0, none⟩) c.reg.length cx] 65)) p g s c m := PD.out.below (below_new w3.drew _)
    have hI1 : CI (role1 ρ bx 12) I (w3.drew.alloc (.cells #[.int .i64 (rw0 : Int), .slice (some ⟨bx, 0, none⟩) c.reg.length cx] 65)) := ID.out.grow (below_new w3.drew _).size
    obtain ⟨ρ', hp5, hi5, hr5, hb5, hbi5, h12⟩ := Pt.grownTo2 (v' := .slice A3 (c.queued.length + 1) c3) 10 (by omega) (hP1.discard.pend0 false 0) hI1 (fun j hj => by
     have h6 := PD.out.rq j hj
     exact ⟨.inr (.inr (.inl ⟨h6, rfl⟩)), by omega⟩) hg (by simpa using hwh) (fun k hk => by obtain ⟨_, cur, hh⟩ := own_at2 hown k hk; exact (Array.getElem?_eq_some_iff.1 hh).1)
    have no8 : ∀ {j : Nat}, role1 ρ bx 12 j = 12 → ¬ (Value.slice m.aQ c.queued.length m.cQ).ownBlock = some j := fun e h => by have := PD.out.rq _ h; omega
    have P5 := Lib.hid (show Pt ρ' w5 p g s (c.discard.pend false 0 (c.queued ++ [⟨rw0, c.reg⟩]) []) (m.discard.pend A3 c3 none 0 (m.lQ ++ [⟨some ⟨bx, 0, none⟩, cx, ⟨rw0, c.reg⟩⟩])) from { hp5 with
     pro := by simpa [Ch.pend, Cm.pend] using hown
     py := by simp [Ch.pend, Cm.pend, PD.out.qy]
     rpr := by simpa [Ch.pend, Cm.pend] using hr5
     raws := fun x hx => by
      have hx : x ∈ m.lQ ++ [⟨some ⟨bx, 0, none⟩, cx, ⟨rw0, c.reg⟩⟩] := by simpa [Cm.pend, Cm.discard] using hx
      rcases List.mem_append.1 hx with h | h
      ·
       obtain ⟨q1, q2⟩ := PD.out.raws x (List.mem_append_left _ h)
       exact ⟨(q1.below (below_new w3.drew _)).btw0 hb5 fun b off e hn => no8 (q2 b off e hn), fun b off e hn => h12 _ (q2 b off e hn)⟩
      ·
       rw [List.mem_singleton.1 h]
       exact ⟨(XD.out.below (below_new w3.drew _)).btw0 hb5 fun b off e hn => (by injection e with e; injection e with e _; rw [← e]; exact no8 R12.out), fun b off e hn => by injection e with e; injection e with e _; rw [← e]; exact h12 _ R12.out⟩ })
    have I5 := Lib.hid hi5
    have C5 := Lib.hid ((CD.out.alloc (.cells #[.int .i64 (rw0 : Int), .slice (some ⟨bx, 0, none⟩) c.reg.length cx] 65)).btw hb5 (fun e => by have h6 := PD.out.rq p e; have := PD.out.rp; omega))
    have B5 := Lib.hid ((BD.out.trans (Btw.of_below (below_new w3.drew (.cells #[.int .i64 (rw0 : Int), .slice (some ⟨bx, 0, none⟩) c.reg.length cx] 65))) fun _ _ h => h).trans hbi5 fun _ _ h => h)
    have Z5 := Lib.hid ((Z3.out.drew.alloc _).btw hb5 (fun e => by have := PD.out.rq _ e; have := N0.out; omega))
    clear hown hg hwh hP1 hI1 hp5 hi5 hr5 hb5 hbi5 h12 no8
    refine hK.out _ _ Z5.out (fun C3 => ?_)
    clear hK K
    try simp only [Act.put, zzI, zzO, zzS]
    refine tkH4 9 C3 ?_
    refine wpAnyH_ready (rs := [10]) (by kernel_rfl) (by simp) ?_
    refine AllReadyH.cons (o := zNc3) rfl (fun K hK => ?_) AllReadyH.nil
    dsimp only [zNc3]
    go_simp
    have hst := start_any (c := c) (m := m) false 0 (c.queued ++ [⟨rw0, c.reg⟩]) [] A3 c3 none 0 (m.lQ ++ [⟨some ⟨bx, 0, none⟩, cx, ⟨rw0, c.reg⟩⟩]) HS.out HZ.out P5.out C5.out
    rw [List.length_append, List.length_singleton] at hst
    refine hst.mono ?_
    rintro _ w6 ⟨rfl, h4, h5, hb⟩
    have H6 := Lib.hid (show CH I w6 p g s _ from ⟨ρ', _, h4, h5, I5.out.grow hb.size⟩)
    have B6 := Lib.hid (B5.out.trans hb fun j _ h => by rcases h with h | h; (rw [h]; exact I5.out.self P5.out); (rw [h]; have h6 := P5.out.rt m.t P5.out.tel.in_.1 P5.out.tel.in_.2; exact I5.out.own m.t (by omega) (by omega)))
    have Z6 := Lib.hid (Z5.out.btw hb (fun e => by rcases e with e | e; (have := PD.out.rp; have := N0.out; rw [e] at this; omega); (have := PD.out.rt m.t PD.out.tel.in_.1 PD.out.tel.in_.2; have := N0.out; rw [e] at this; omega)))
    clear h4 h5 hb hst
    go_wp2_with fail
    refine hK.out _ _ Z6.out (fun C4 => ?_)
    clear hK K
    try simp only [Act.put, zzI, zzO, zzS]
    refine wpAnyH_done (by kernel_rfl) ?_ _
    refine NoPanic.normal ?_
    go_wp2
    go_ret
    rw [HE.out]
    exact ⟨rfl, H6.out, B6.out⟩
   ·
    go_simp
    refine hK.out _ _ (C0.alloc _) (fun C1 => ?_)
    clear hK K
    try simp only [Act.put, zzI, zzO, zzS]
    have CA := Lib.hid ((C3.out.alloc (.cells #[.int .i64 (rw0 : Int), .slice (some ⟨bx, 0, none⟩) c.reg.length cx] 65)).drew)
    refine wpAnyH_ready (rs := [5]) (by kernel_rfl) (by simp) ?_
    refine AllReadyH.cons (o := { dst := some 31, op := Op.load 61 (Operand.tmp 30), type := 61, pos := "cycles.go:208", after := #[{ on := 4, ground := Ground.data }], guard := none }) rfl (fun K hK => ?_) AllReadyH.nil
    have y15 := CA.out.cell_at 15 (.slice m.aQ c.queued.length m.cQ) rfl
    go_simp
    refine hK.out _ _ C1 (fun C2 => ?_)
    clear y15
    clear hK K
    try simp only [Act.put, zzI, zzO, zzS]
    refine wpAnyH_ready (rs := [8]) (by kernel_rfl) (by simp) ?_
    refine AllReadyH.cons (o := zNc2) rfl (fun K hK => ?_) AllReadyH.nil
    dsimp only [zNc2]
    refine wp_appendPA (w3.drew.alloc (.cells #[.int .i64 (rw0 : Int), .slice (some ⟨bx, 0, none⟩) c.reg.length cx] 65)) (.tmp 31) (.tmp 33) rfl 0 _ m.lQ c.queued.length ⟨some ⟨bx, 0, none⟩, cx, ⟨rw0, c.reg⟩⟩ rfl (own_below2 PD.out.que (below_new w3.drew _)) ⟨w3.drew.heap.size, 0, none⟩ 1 rfl (pair_new w3.drew _ _ _) (by have := NQ.out; omega) (Nat.zero_le _) ?_
    intro v3 w5 hown hg hwh
    obtain ⟨A3, c3, rfl⟩ := own_form2 hown
    have hP1 : Pt (role1 ρ bx 12) (w3.drew.alloc (.cells #[.int .i64 (rw0 : Int), .slice (some ⟨bx, 0, none⟩) c.reg.length cx] 65)) p g s c m := PD.out.below (below_new w3.drew _)
    have hI1 : CI (role1 ρ bx 12) I (w3.drew.alloc (.cells #[.int .i64 (rw0 : Int), .slice (some ⟨bx, 0, none⟩) c.reg.length cx] 65)) := ID.out.grow (below_new w3.drew _).size
    obtain ⟨ρ', hp5, hi5, hr5, hb5, hbi5, h12⟩ := Pt.grownTo2 (v' := .slice A3 (c.queued.length + 1) c3) 10 (by omega) (hP1.discard.pend0 false 0) hI1 (fun j hj => by
     have h6 := PD.out.rq j hj
     exact ⟨.inr (.inr (.inl ⟨h6, rfl⟩)), by omega⟩) hg (by simpa using hwh) (fun k hk => by obtain ⟨_, cur, hh⟩ := own_at2 hown k hk; exact (Array.getElem?_eq_some_iff.1 hh).1)
    have no8 : ∀ {j : Nat}, role1 ρ bx 12 j = 12 → ¬ (Value.slice m.aQ c.queued.length m.cQ).ownBlock = some j := fun e h => by have := PD.out.rq _ h; omega
    have P5 := Lib.hid (show Pt ρ' w5 p g s (c.discard.pend false 0 (c.queued ++ [⟨rw0, c.reg⟩]) []) (m.discard.pend A3 c3 none 0 (m.lQ ++ [⟨some ⟨bx, 0, none⟩, cx, ⟨rw0, c.reg⟩⟩])) from { hp5 with
     pro := by simpa [Ch.pend, Cm.pend] using hown
     py := by simp [Ch.pend, Cm.pend, PD.out.qy]
     rpr := by simpa [Ch.pend, Cm.pend] using hr5
     raws := fun x hx => by
      have hx : x ∈ m.lQ ++ [⟨some ⟨bx, 0, none⟩, cx, ⟨rw0, c.reg⟩⟩] := by simpa [Cm.pend, Cm.discard] using hx
      rcases List.mem_append.1 hx with h | h
      ·
       obtain ⟨q1, q2⟩ := PD.out.raws x (List.mem_append_left _ h)
       exact ⟨(q1.below (below_new w3.drew _)).btw0 hb5 fun b off e hn => no8 (q2 b off e hn), fun b off e hn => h12 _ (q2 b off e hn)⟩
      ·
       rw [List.mem_singleton.1 h]
       exact ⟨(XD.out.below (below_new w3.drew _)).btw0 hb5 fun b off e hn => (by injection e with e; injection e with e _; rw [← e]; exact no8 R12.out), fun b off e hn => by injection e with e; injection e with e _; rw [← e]; exact h12 _ R12.out⟩ })
    have I5 := Lib.hid hi5
    have C5 := Lib.hid ((CD.out.alloc (.cells #[.int .i64 (rw0 : Int), .slice (some ⟨bx, 0, none⟩) c.reg.length cx] 65)).btw hb5 (fun e => by have h6 := PD.out.rq p e; have := PD.out.rp; omega))
    have B5 := Lib.hid ((BD.out.trans (Btw.of_below (below_new w3.drew (.cells #[.int .i64 (rw0 : Int), .slice (some ⟨bx, 0, none⟩) c.reg.length cx] 65))) fun _ _ h => h).trans hbi5 fun _ _ h => h)
    have Z5 := Lib.hid ((Z3.out.drew.alloc _).btw hb5 (fun e => by have := PD.out.rq _ e; have := N0.out; omega))
    clear hown hg hwh hP1 hI1 hp5 hi5 hr5 hb5 hbi5 h12 no8
    refine hK.out _ _ Z5.out (fun C3 => ?_)
    clear hK K
    try simp only [Act.put, zzI, zzO, zzS]
    refine tkH4 9 C3 ?_
    refine wpAnyH_ready (rs := [10]) (by kernel_rfl) (by simp) ?_
    refine AllReadyH.cons (o := zNc3) rfl (fun K hK => ?_) AllReadyH.nil
    dsimp only [zNc3]
    go_simp
    have hst := start_any (c := c) (m := m) false 0 (c.queued ++ [⟨rw0, c.reg⟩]) [] A3 c3 none 0 (m.lQ ++ [⟨some ⟨bx, 0, none⟩, cx, ⟨rw0, c.reg⟩⟩]) HS.out HZ.out P5.out C5.out
    rw [List.length_append, List.length_singleton] at hst
    refine hst.mono ?_
    rintro _ w6 ⟨rfl, h4, h5, hb⟩
    have H6 := Lib.hid (show CH I w6 p g s _ from ⟨ρ', _, h4, h5, I5.out.grow hb.size⟩)
    have B6 := Lib.hid (B5.out.trans hb fun j _ h => by rcases h with h | h; (rw [h]; exact I5.out.self P5.out); (rw [h]; have h6 := P5.out.rt m.t P5.out.tel.in_.1 P5.out.tel.in_.2; exact I5.out.own m.t (by omega) (by omega)))
    have Z6 := Lib.hid (Z5.out.btw hb (fun e => by rcases e with e | e; (have := PD.out.rp; have := N0.out; rw [e] at this; omega); (have := PD.out.rt m.t PD.out.tel.in_.1 PD.out.tel.in_.2; have := N0.out; rw [e] at this; omega)))
    clear h4 h5 hb hst
    go_wp2_with fail
    refine hK.out _ _ Z6.out (fun C4 => ?_)
    clear hK K
    try simp only [Act.put, zzI, zzO, zzS]
    refine wpAnyH_done (by kernel_rfl) ?_ _
    refine NoPanic.normal ?_
    go_wp2
    go_ret
    rw [HE.out]
    exact ⟨rfl, H6.out, B6.out⟩
  ·
   rw [if_neg h8] at HE0
   have b8 : ((b : Int) == 16) = false := by simp; omega
   have j8 : ((b : Int) = 16) = False := eq_false (by omega)
   have d8 : decide ((b : Int) = 16) = false := decide_eq_false (by omega)
   by_cases h9 : b = 17
   ·
    subst h9
    rw [if_pos rfl] at HE0
    clear b8 j8 d8 h8
    by_cases hq : (c.queued.length : Int) < g.p
    ·
     have HE := Lib.hid (show c.endLoad g s 17 = (true, ((c.qP ⟨rw0, c.reg⟩).pend false 0 [] []).begun s) by rw [HE0, if_pos hq])
     have dq : decide ((c.queued.length : Int) < g.p) = true := decide_eq_true hq
     clear HE0 hb8
     go_enter Tryz.func142, Tryz.ntmps142
     go_wp2_with fail
     refine HRO.out.mono ?_
     rintro _ w1 ⟨rfl, h1⟩
     have B1 := Lib.hid h1
     have C1 := Lib.hid (C0.out.below h1)
     clear h1 C0
     have x5 : w1.cell? ⟨p, 5, none⟩ = some (.slice (some ⟨br, 0, none⟩) c.reg.length m.cR) := by rw [← EA.out]; exact C1.out.cell_at 5 _ rfl
     go_wp2_with fail
     refine (HCL.out _ (R0.out.below B1.out)).mono ?_
     rintro _ w2 ⟨Ax, cx, rfl, hox, h2⟩
     obtain ⟨bx, rfl, hbx⟩ := own_head hox HRN.out L8.out
     have B2 := Lib.hid (show Below w.heap.size w w2 from B1.out.trans (h2.mono B1.out.size))
     have hlx := (own_low hox bx rfl).2
     have C3 := Lib.hid ((C1.out.below h2).below (below_new w2 (.cells #[.int .i64 (rw0 : Int), .slice (some ⟨bx, 0, none⟩) c.reg.length cx] 65)))
     have hx8 : R8 w2 (some ⟨bx, 0, none⟩) c.reg.length c.reg := R8.own hox L8.out
     have hbx2 : w.heap.size ≤ bx := Nat.le_trans B1.out.size hbx.1
     have P3 := Lib.hid ((P0.out.more1 B2.out bx 12 hbx2 hlx).below (below_new w2 (.cells #[.int .i64 (rw0 : Int), .slice (some ⟨bx, 0, none⟩) c.reg.length cx] 65)))
     have I3 := Lib.hid ((I0.out.one B2.out.size bx 12 hbx2).grow (below_new w2 (.cells #[.int .i64 (rw0 : Int), .slice (some ⟨bx, 0, none⟩) c.reg.length cx] 65)).size)
     have B3 := Lib.hid ((Btw.of_below (I := I) B2.out).trans (Btw.of_below (below_new w2 (.cells #[.int .i64 (rw0 : Int), .slice (some ⟨bx, 0, none⟩) c.reg.length cx] 65))) fun _ _ h => h)
     have X3 := Lib.hid (hx8.below (below_new w2 (.cells #[.int .i64 (rw0 : Int), .slice (some ⟨bx, 0, none⟩) c.reg.length cx] 65)))
     have Z3 := Lib.hid (CRow.new w2 #[.int .i64 (rw0 : Int), .slice (some ⟨bx, 0, none⟩) c.reg.length cx] 65)
     have NZ := Lib.hid (show ∀ j, role1 ρ bx 12 j ≠ 0 → j < w2.heap.size from fun j hj => (P0.out.more1 B2.out bx 12 hbx2 hlx).lt j hj)
     have R12 := Lib.hid (show role1 ρ bx 12 bx = 12 from if_pos rfl)
     have OQ := Lib.hid P3.out.que
     have z0 := Z3.out.cell_at 0 _ rfl
     have z1 := Z3.out.cell_at 1 _ rfl
     clear hox h2 hbx hlx hx8 hbx2 x5 C1
     obtain ⟨w3, hw3⟩ : ∃ w3, w3 = (w2.alloc (.cells #[.int .i64 (rw0 : Int), .slice (some ⟨bx, 0, none⟩) c.reg.length cx] 65)) := ⟨_, rfl⟩
     rw [← hw3] at C3 P3 I3 B3 X3 Z3 OQ
     have N0 := Lib.hid (show role1 ρ bx 12 w2.heap.size = 0 from Classical.byContradiction fun e => by have := NZ.out _ e; omega)
     have HNP := Lib.hid (show w2.heap.size ≠ p from fun e => by have h0 := N0.out; have h1 := P3.out.rp; rw [e] at h0; omega)
     go_wp2_with fail
     rw [← hw3]
     clear hw3 z0 z1
     refine wp_region_noPanic ?_
     refine wp_region_held_drew (S := fun w' => Below w3.heap.size w3 w') (by kernel_rfl) ((Below.refl _ _).drew) (fun C0 => ?_)
     refine tkH4 0 C0 ?_
     refine tkH4 1 C0 ?_
     refine tkH4 2 C0 ?_
     refine tkH4 3 C0 ?_
     refine tkH4 4 C0 ?_ (hy := fun W' hSw => by have y15 : W'.cell? ⟨p, 15, none⟩ = some (.slice m.aQ c.queued.length m.cQ) := (hSw.cell (show (⟨p, 15, none⟩ : Addr).block < w3.heap.size from C3.out.lt)).trans (C3.out.cell_at 15 _ rfl); clear hSw; go_simp <;> with_reducible rfl)
     refine tkH4 5 C0 ?_
     refine tkH4 6 C0 ?_
     refine tkH4 7 C0 ?_
     refine tkH4 8 C0 ?_
     refine tkH4 9 C0 ?_
     refine tkH4 10 C0 ?_ (hy := fun W' hSw => by have y19 : W'.cell? ⟨p, 19, none⟩ = some (.int .i64 g.p) := (hSw.cell (show (⟨p, 19, none⟩ : Addr).block < w3.heap.size from C3.out.lt)).trans (C3.out.cell_at 19 _ rfl); clear hSw; go_simp <;> with_reducible rfl)
     refine tkH4 11 C0 ?_
     refine wpAnyH_done (by kernel_rfl) ?_ _
     refine NoPanic.normal ?_
     obtain ⟨wd, hwd⟩ : ∃ wd, wd = w3.drew := ⟨_, rfl⟩
     rw [← hwd]
     have CF := Lib.hid (show CRow wd p 72 (chCells g c m) by rw [hwd]; exact C3.out.drew)
     have ZE := Lib.hid (show CRow wd w2.heap.size 65 #[.int .i64 (rw0 : Int), .slice (some ⟨bx, 0, none⟩) c.reg.length cx] by rw [hwd]; exact Z3.out.drew)
     have hbd : Below w3.heap.size w3 wd := by rw [hwd]; exact (Below.refl _ _).drew
     have PF := Lib.hid (P3.out.below hbd)
     have IF := Lib.hid (I3.out.grow hbd.size)
     have BF := Lib.hid (B3.out.trans (Btw.of_below hbd) fun _ _ h => h)
     have XF := Lib.hid (X3.out.below hbd)
     clear hwd hbd
     have CE := Lib.hid (CF.out.drew)
     have PE := Lib.hid (PF.out.below ((Below.refl _ _).drew))
     have IE := Lib.hid (IF.out.grow ((Below.refl wd.heap.size wd).drew).size)
     have BE := Lib.hid (BF.out.drew)
     have XE := Lib.hid (XF.out.below ((Below.refl _ _).drew))
     go_wp2_with fail
     refine wp_region_noPanic ?_
     refine wp_region_held_drew (S := fun w' => CRow w' w2.heap.size 65 #[.int .i64 (rw0 : Int), .slice (some ⟨bx, 0, none⟩) c.reg.length cx]) (by kernel_rfl) ZE.out.drew (fun C0 => ?_)
     refine tkH4 0 C0 ?_
     refine tkH4 1 C0 ?_
     refine tkH4 2 C0 ?_
     refine tkH4 3 C0 ?_
     refine tkH4 4 C0 ?_
     refine tkH4 6 C0 ?_ (hy := fun W' hSw => by have y0 := hSw.cell_at 0 _ rfl; have y1 := hSw.cell_at 1 _ rfl; clear hSw; go_simp <;> with_reducible rfl)
     refine wpAnyH_ready (rs := [5, 7]) (by kernel_rfl) (by simp) ?_
     refine AllReadyH.cons (o := { dst := some 56, op := Op.load 61 (Operand.tmp 55), type := 61, pos := "cycles.go:211", after := #[{ on := 4, ground := Ground.data }], guard := none }) rfl (fun K hK => ?_) (AllReadyH.cons (o := { dst := some 58, op := Op.buildSlice 61 1 #[(0, Operand.tmp 57)], type := 61, pos := "cycles.go:211", after := #[{ on := 6, ground := Ground.data }], guard := none }) rfl (fun K hK => ?_) AllReadyH.nil)
     ·
      have y15 := CE.out.cell_at 15 (.slice m.aQ c.queued.length m.cQ) rfl
      go_simp
      refine hK.out _ _ C0 (fun C1 => ?_)
      clear y15
      clear hK K
      try simp only [Act.put, zzI, zzO, zzS]
      refine wpAnyH_ready (rs := [7]) (by kernel_rfl) (by simp) ?_
      refine AllReadyH.cons (o := { dst := some 58, op := Op.buildSlice 61 1 #[(0, Operand.tmp 57)], type := 61, pos := "cycles.go:211", after := #[{ on := 6, ground := Ground.data }], guard := none }) rfl (fun K hK => ?_) AllReadyH.nil
      go_simp
      refine hK.out _ _ (C1.alloc _) (fun C2 => ?_)
      clear hK K
      try simp only [Act.put, zzI, zzO, zzS]
      refine wpAnyH_ready (rs := [8]) (by kernel_rfl) (by simp) ?_
      refine AllReadyH.cons (o := zNc4) rfl (fun K hK => ?_) AllReadyH.nil
      dsimp only [zNc4]
      refine wp_appendPA (wd.drew.alloc (.cells #[.int .i64 (rw0 : Int), .slice (some ⟨bx, 0, none⟩) c.reg.length cx] 65)) (.tmp 56) (.tmp 58) rfl 0 _ m.lQ c.queued.length ⟨some ⟨bx, 0, none⟩, cx, ⟨rw0, c.reg⟩⟩ rfl (own_below2 PE.out.que (below_new wd.drew _)) ⟨wd.drew.heap.size, 0, none⟩ 1 rfl (pair_new wd.drew _ _ _) (by have := NQ.out; omega) (Nat.zero_le _) ?_
      intro v3 w5 hown hg hwh
      obtain ⟨A3, c3, rfl⟩ := own_form2 hown
      have hP1 : Pt (role1 ρ bx 12) (wd.drew.alloc (.cells #[.int .i64 (rw0 : Int), .slice (some ⟨bx, 0, none⟩) c.reg.length cx] 65)) p g s c m := PE.out.below (below_new wd.drew _)
      have hI1 : CI (role1 ρ bx 12) I (wd.drew.alloc (.cells #[.int .i64 (rw0 : Int), .slice (some ⟨bx, 0, none⟩) c.reg.length cx] 65)) := IE.out.grow (below_new wd.drew _).size
      obtain ⟨ρ', hp5, hi5, hr5, hb5, hbi5, h12⟩ := Pt.grownTo2 (v' := .slice A3 (c.queued.length + 1) c3) 8 (by omega) hP1.noQ hI1 (fun j hj => by
       have h6 := PE.out.rq j hj
       exact ⟨.inr (.inr (.inl ⟨h6, rfl⟩)), by omega⟩) hg (by simpa using hwh) (fun k hk => by obtain ⟨_, cur, hh⟩ := own_at2 hown k hk; exact (Array.getElem?_eq_some_iff.1 hh).1)
      have no8 : ∀ {j : Nat}, role1 ρ bx 12 j = 12 → ¬ (Value.slice m.aQ c.queued.length m.cQ).ownBlock = some j := fun e h => by have := PE.out.rq _ h; omega
      have P5 := Lib.hid (show Pt ρ' w5 p g s (c.qP ⟨rw0, c.reg⟩) { m with aQ := A3, cQ := c3, lQ := m.lQ ++ [⟨some ⟨bx, 0, none⟩, cx, ⟨rw0, c.reg⟩⟩] } from { hp5 with
       que := by simpa [Ch.qP] using hown
       qy := by simp [Ch.qP, PE.out.qy]
       rq := by simpa [Ch.qP] using hr5
       raws := fun x hx => by
        rcases List.mem_append.1 hx with hx | h9
        rotate_left
        ·
         obtain ⟨q1, q2⟩ := PE.out.raws x (List.mem_append_right _ h9)
         exact ⟨(q1.below (below_new wd.drew _)).btw0 hb5 fun b off e hn => no8 (q2 b off e hn), fun b off e hn => h12 _ (q2 b off e hn)⟩
        rcases List.mem_append.1 hx with h | h
        ·
         obtain ⟨q1, q2⟩ := PE.out.raws x (List.mem_append_left _ h)
         exact ⟨(q1.below (below_new wd.drew _)).btw0 hb5 fun b off e hn => no8 (q2 b off e hn), fun b off e hn => h12 _ (q2 b off e hn)⟩
        ·
         rw [List.mem_singleton.1 h]
         exact ⟨(XE.out.below (below_new wd.drew _)).btw0 hb5 fun b off e hn => (by injection e with e; injection e with e _; rw [← e]; exact no8 R12.out), fun b off e hn => by injection e with e; injection e with e _; rw [← e]; exact h12 _ R12.out⟩ })
      have I5 := Lib.hid hi5
      have C5 := Lib.hid ((CE.out.alloc (.cells #[.int .i64 (rw0 : Int), .slice (some ⟨bx, 0, none⟩) c.reg.length cx] 65)).btw hb5 (fun e => by have h6 := PE.out.rq p e; have := PE.out.rp; omega))
      have B5 := Lib.hid ((BE.out.trans (Btw.of_below (below_new wd.drew (.cells #[.int .i64 (rw0 : Int), .slice (some ⟨bx, 0, none⟩) c.reg.length cx] 65))) fun _ _ h => h).trans hbi5 fun _ _ h => h)
      have Z5 := Lib.hid ((ZE.out.drew.alloc _).btw hb5 (fun e => by have := PE.out.rq _ e; have := N0.out; omega))
      clear hown hg hwh hP1 hI1 hp5 hi5 hr5 hb5 hbi5 h12 no8
      refine hK.out _ _ Z5.out (fun C3 => ?_)
      clear hK K
      try simp only [Act.put, zzI, zzO, zzS]
      refine tkH4 9 C3 ?_
      refine tkH4 10 C3 ?_
      refine tkH4 11 C3 ?_
      refine wpAnyH_ready (rs := [12]) (by kernel_rfl) (by simp) ?_
      refine AllReadyH.cons (o := zNc5) rfl (fun K hK => ?_) AllReadyH.nil
      dsimp only [zNc5]
      have x15 := C5.out.cell_at 15 (.slice m.aQ c.queued.length m.cQ) rfl
      have f15 := C5.out.frozen 15
      have H6 := Lib.hid (CH.of' (I := I) (c' := c.qP ⟨rw0, c.reg⟩) (m' := { m with aQ := A3, cQ := c3, lQ := m.lQ ++ [⟨some ⟨bx, 0, none⟩, cx, ⟨rw0, c.reg⟩⟩] }) (w' := w5.setCell ⟨p, 15, none⟩ (.slice A3 (c.queued.length + 1) c3)) (by have h0 := C5.out.setCell 15 (.slice A3 (c.queued.length + 1) c3); simpa [chCells, Ch.qP] using h0) P5.out I5.out ((Btw.refl _).setCell (p := ⟨p, 15, none⟩) rfl) fun W h => h)
      go_simp
      refine hK.out _ _ (Z5.out.setCell_other (p := ⟨p, 15, none⟩) HNP.out _) (fun C4 => ?_)
      clear x15 f15
      clear hK K
      try simp only [Act.put]
      refine wpAnyH_done (by kernel_rfl) ?_ _
      refine NoPanic.normal ?_
      go_wp2_with fail
      refine (begin_ch (c := c.qP ⟨rw0, c.reg⟩) false 0 HS.out HZ.out H6.out.1).mono ?_
      rintro _ w7 ⟨rfl, h7, hb7⟩
      have H7 := Lib.hid h7
      have B7 := Lib.hid ((B5.out.trans H6.out.2 fun _ _ h => h).trans hb7 fun _ _ h => h)
      clear h7 hb7
      go_wp2
      go_ret
      rw [HE.out]
      exact ⟨rfl, H7.out, B7.out⟩
     ·
      go_simp
      refine hK.out _ _ (C0.alloc _) (fun C1 => ?_)
      clear hK K
      try simp only [Act.put, zzI, zzO, zzS]
      have CA := Lib.hid ((CF.out.alloc (.cells #[.int .i64 (rw0 : Int), .slice (some ⟨bx, 0, none⟩) c.reg.length cx] 65)).drew)
      refine wpAnyH_ready (rs := [5]) (by kernel_rfl) (by simp) ?_
      refine AllReadyH.cons (o := { dst := some 56, op := Op.load 61 (Operand.tmp 55), type := 61, pos := "cycles.go:211", after := #[{ on := 4, ground := Ground.data }], guard := none }) rfl (fun K hK => ?_) AllReadyH.nil
      have y15 := CA.out.cell_at 15 (.slice m.aQ c.queued.length m.cQ) rfl
      go_simp
      refine hK.out _ _ C1 (fun C2 => ?_)
      clear y15
      clear hK K
      try simp only [Act.put, zzI, zzO, zzS]
      refine wpAnyH_ready (rs := [8]) (by kernel_rfl) (by simp) ?_
      refine AllReadyH.cons (o := zNc4) rfl (fun K hK => ?_) AllReadyH.nil
      dsimp only [zNc4]
      refine wp_appendPA (wd.drew.alloc (.cells #[.int .i64 (rw0 : Int), .slice (some ⟨bx, 0, none⟩) c.reg.length cx] 65)) (.tmp 56) (.tmp 58) rfl 0 _ m.lQ c.queued.length ⟨some ⟨bx, 0, none⟩, cx, ⟨rw0, c.reg⟩⟩ rfl (own_below2 PE.out.que (below_new wd.drew _)) ⟨wd.drew.heap.size, 0, none⟩ 1 rfl (pair_new wd.drew _ _ _) (by have := NQ.out; omega) (Nat.zero_le _) ?_
      intro v3 w5 hown hg hwh
      obtain ⟨A3, c3, rfl⟩ := own_form2 hown
      have hP1 : Pt (role1 ρ bx 12) (wd.drew.alloc (.cells #[.int .i64 (rw0 : Int), .slice (some ⟨bx, 0, none⟩) c.reg.length cx] 65)) p g s c m := PE.out.below (below_new wd.drew _)
      have hI1 : CI (role1 ρ bx 12) I (wd.drew.alloc (.cells #[.int .i64 (rw0 : Int), .slice (some ⟨bx, 0, none⟩) c.reg.length cx] 65)) := IE.out.grow (below_new wd.drew _).size
      obtain ⟨ρ', hp5, hi5, hr5, hb5, hbi5, h12⟩ := Pt.grownTo2 (v' := .slice A3 (c.queued.length + 1) c3) 8 (by omega) hP1.noQ hI1 (fun j hj => by
       have h6 := PE.out.rq j hj
       exact ⟨.inr (.inr (.inl ⟨h6, rfl⟩)), by omega⟩) hg (by simpa using hwh) (fun k hk => by obtain ⟨_, cur, hh⟩ := own_at2 hown k hk; exact (Array.getElem?_eq_some_iff.1 hh).1)
      have no8 : ∀ {j : Nat}, role1 ρ bx 12 j = 12 → ¬ (Value.slice m.aQ c.queued.length m.cQ).ownBlock = some j := fun e h => by have := PE.out.rq _ h; omega
      have P5 := Lib.hid (show Pt ρ' w5 p g s (c.qP ⟨rw0, c.reg⟩) { m with aQ := A3, cQ := c3, lQ := m.lQ ++ [⟨some ⟨bx, 0, none⟩, cx, ⟨rw0, c.reg⟩⟩] } from { hp5 with
       que := by simpa [Ch.qP] using hown
       qy := by simp [Ch.qP, PE.out.qy]
       rq := by simpa [Ch.qP] using hr5
       raws := fun x hx => by
        rcases List.mem_append.1 hx with hx | h9
        rotate_left
        ·
         obtain ⟨q1, q2⟩ := PE.out.raws x (List.mem_append_right _ h9)
         exact ⟨(q1.below (below_new wd.drew _)).btw0 hb5 fun b off e hn => no8 (q2 b off e hn), fun b off e hn => h12 _ (q2 b off e hn)⟩
        rcases List.mem_append.1 hx with h | h
        ·
         obtain ⟨q1, q2⟩ := PE.out.raws x (List.mem_append_left _ h)
         exact ⟨(q1.below (below_new wd.drew _)).btw0 hb5 fun b off e hn => no8 (q2 b off e hn), fun b off e hn => h12 _ (q2 b off e hn)⟩
        ·
         rw [List.mem_singleton.1 h]
         exact ⟨(XE.out.below (below_new wd.drew _)).btw0 hb5 fun b off e hn => (by injection e with e; injection e with e _; rw [← e]; exact no8 R12.out), fun b off e hn => by injection e with e; injection e with e _; rw [← e]; exact h12 _ R12.out⟩ })
      have I5 := Lib.hid hi5
      have C5 := Lib.hid ((CE.out.alloc (.cells #[.int .i64 (rw0 : Int), .slice (some ⟨bx, 0, none⟩) c.reg.length cx] 65)).btw hb5 (fun e => by have h6 := PE.out.rq p e; have := PE.out.rp; omega))
      have B5 := Lib.hid ((BE.out.trans (Btw.of_below (below_new wd.drew (.cells #[.int .i64 (rw0 : Int), .slice (some ⟨bx, 0, none⟩) c.reg.length cx] 65))) fun _ _ h => h).trans hbi5 fun _ _ h => h)
      have Z5 := Lib.hid ((ZE.out.drew.alloc _).btw hb5 (fun e => by have := PE.out.rq _ e; have := N0.out; omega))
      clear hown hg hwh hP1 hI1 hp5 hi5 hr5 hb5 hbi5 h12 no8
      refine hK.out _ _ Z5.out (fun C3 => ?_)
      clear hK K
      try simp only [Act.put, zzI, zzO, zzS]
      refine tkH4 9 C3 ?_
      refine tkH4 10 C3 ?_
      refine tkH4 11 C3 ?_
      refine wpAnyH_ready (rs := [12]) (by kernel_rfl) (by simp) ?_
      refine AllReadyH.cons (o := zNc5) rfl (fun K hK => ?_) AllReadyH.nil
      dsimp only [zNc5]
      have x15 := C5.out.cell_at 15 (.slice m.aQ c.queued.length m.cQ) rfl
      have f15 := C5.out.frozen 15
      have H6 := Lib.hid (CH.of' (I := I) (c' := c.qP ⟨rw0, c.reg⟩) (m' := { m with aQ := A3, cQ := c3, lQ := m.lQ ++ [⟨some ⟨bx, 0, none⟩, cx, ⟨rw0, c.reg⟩⟩] }) (w' := w5.setCell ⟨p, 15, none⟩ (.slice A3 (c.queued.length + 1) c3)) (by have h0 := C5.out.setCell 15 (.slice A3 (c.queued.length + 1) c3); simpa [chCells, Ch.qP] using h0) P5.out I5.out ((Btw.refl _).setCell (p := ⟨p, 15, none⟩) rfl) fun W h => h)
      go_simp
      refine hK.out _ _ (Z5.out.setCell_other (p := ⟨p, 15, none⟩) HNP.out _) (fun C4 => ?_)
      clear x15 f15
      clear hK K
      try simp only [Act.put]
      refine wpAnyH_done (by kernel_rfl) ?_ _
      refine NoPanic.normal ?_
      go_wp2_with fail
      refine (begin_ch (c := c.qP ⟨rw0, c.reg⟩) false 0 HS.out HZ.out H6.out.1).mono ?_
      rintro _ w7 ⟨rfl, h7, hb7⟩
      have H7 := Lib.hid h7
      have B7 := Lib.hid ((B5.out.trans H6.out.2 fun _ _ h => h).trans hb7 fun _ _ h => h)
      clear h7 hb7
      go_wp2
      go_ret
      rw [HE.out]
      exact ⟨rfl, H7.out, B7.out⟩
    ·
     have HE := Lib.hid (show c.endLoad g s 17 = (true, (c.pend false 0 [] []).begun s) by rw [HE0, if_neg hq])
     have dq : decide ((c.queued.length : Int) < g.p) = false := decide_eq_false hq
     clear HE0 hb8
     go_enter Tryz.func142, Tryz.ntmps142
     go_wp2_with fail
     refine HRO.out.mono ?_
     rintro _ w1 ⟨rfl, h1⟩
     have B1 := Lib.hid h1
     have C1 := Lib.hid (C0.out.below h1)
     clear h1 C0
     have x5 : w1.cell? ⟨p, 5, none⟩ = some (.slice (some ⟨br, 0, none⟩) c.reg.length m.cR) := by rw [← EA.out]; exact C1.out.cell_at 5 _ rfl
     go_wp2_with fail
     refine (HCL.out _ (R0.out.below B1.out)).mono ?_
     rintro _ w2 ⟨Ax, cx, rfl, hox, h2⟩
     obtain ⟨bx, rfl, hbx⟩ := own_head hox HRN.out L8.out
     have B2 := Lib.hid (show Below w.heap.size w w2 from B1.out.trans (h2.mono B1.out.size))
     have hlx := (own_low hox bx rfl).2
     have C3 := Lib.hid ((C1.out.below h2).below (below_new w2 (.cells #[.int .i64 (rw0 : Int), .slice (some ⟨bx, 0, none⟩) c.reg.length cx] 65)))
     have hx8 : R8 w2 (some ⟨bx, 0, none⟩) c.reg.length c.reg := R8.own hox L8.out
     have hbx2 : w.heap.size ≤ bx := Nat.le_trans B1.out.size hbx.1
     have P3 := Lib.hid ((P0.out.more1 B2.out bx 12 hbx2 hlx).below (below_new w2 (.cells #[.int .i64 (rw0 : Int), .slice (some ⟨bx, 0, none⟩) c.reg.length cx] 65)))
     have I3 := Lib.hid ((I0.out.one B2.out.size bx 12 hbx2).grow (below_new w2 (.cells #[.int .i64 (rw0 : Int), .slice (some ⟨bx, 0, none⟩) c.reg.length cx] 65)).size)
     have B3 := Lib.hid ((Btw.of_below (I := I) B2.out).trans (Btw.of_below (below_new w2 (.cells #[.int .i64 (rw0 : Int), .slice (some ⟨bx, 0, none⟩) c.reg.length cx] 65))) fun _ _ h => h)
     have X3 := Lib.hid (hx8.below (below_new w2 (.cells #[.int .i64 (rw0 : Int), .slice (some ⟨bx, 0, none⟩) c.reg.length cx] 65)))
     have Z3 := Lib.hid (CRow.new w2 #[.int .i64 (rw0 : Int), .slice (some ⟨bx, 0, none⟩) c.reg.length cx] 65)
     have NZ := Lib.hid (show ∀ j, role1 ρ bx 12 j ≠ 0 → j < w2.heap.size from fun j hj => (P0.out.more1 B2.out bx 12 hbx2 hlx).lt j hj)
     have R12 := Lib.hid (show role1 ρ bx 12 bx = 12 from if_pos rfl)
     have OQ := Lib.hid P3.out.que
     have z0 := Z3.out.cell_at 0 _ rfl
     have z1 := Z3.out.cell_at 1 _ rfl
     clear hox h2 hbx hlx hx8 hbx2 x5 C1
     obtain ⟨w3, hw3⟩ : ∃ w3, w3 = (w2.alloc (.cells #[.int .i64 (rw0 : Int), .slice (some ⟨bx, 0, none⟩) c.reg.length cx] 65)) := ⟨_, rfl⟩
     rw [← hw3] at C3 P3 I3 B3 X3 Z3 OQ
     have N0 := Lib.hid (show role1 ρ bx 12 w2.heap.size = 0 from Classical.byContradiction fun e => by have := NZ.out _ e; omega)
     have HNP := Lib.hid (show w2.heap.size ≠ p from fun e => by have h0 := N0.out; have h1 := P3.out.rp; rw [e] at h0; omega)
     go_wp2_with fail
     rw [← hw3]
     clear hw3 z0 z1
     refine wp_region_noPanic ?_
     refine wp_region_held_drew (S := fun w' => Below w3.heap.size w3 w') (by kernel_rfl) ((Below.refl _ _).drew) (fun C0 => ?_)
     refine tkH4 0 C0 ?_
     refine tkH4 1 C0 ?_
     refine tkH4 2 C0 ?_
     refine tkH4 3 C0 ?_
     refine tkH4 4 C0 ?_ (hy := fun W' hSw => by have y15 : W'.cell? ⟨p, 15, none⟩ = some (.slice m.aQ c.queued.length m.cQ) := (hSw.cell (show (⟨p, 15, none⟩ : Addr).block < w3.heap.size from C3.out.lt)).trans (C3.out.cell_at 15 _ rfl); clear hSw; go_simp <;> with_reducible rfl)
     refine tkH4 5 C0 ?_
     refine tkH4 6 C0 ?_
     refine tkH4 7 C0 ?_
     refine tkH4 8 C0 ?_
     refine tkH4 9 C0 ?_
     refine tkH4 10 C0 ?_ (hy := fun W' hSw => by have y19 : W'.cell? ⟨p, 19, none⟩ = some (.int .i64 g.p) := (hSw.cell (show (⟨p, 19, none⟩ : Addr).block < w3.heap.size from C3.out.lt)).trans (C3.out.cell_at 19 _ rfl); clear hSw; go_simp <;> with_reducible rfl)
     refine tkH4 11 C0 ?_
     refine wpAnyH_done (by kernel_rfl) ?_ _
     refine NoPanic.normal ?_
     obtain ⟨wd, hwd⟩ : ∃ wd, wd = w3.drew := ⟨_, rfl⟩
     rw [← hwd]
     have CF := Lib.hid (show CRow wd p 72 (chCells g c m) by rw [hwd]; exact C3.out.drew)
     have ZE := Lib.hid (show CRow wd w2.heap.size 65 #[.int .i64 (rw0 : Int), .slice (some ⟨bx, 0, none⟩) c.reg.length cx] by rw [hwd]; exact Z3.out.drew)
     have hbd : Below w3.heap.size w3 wd := by rw [hwd]; exact (Below.refl _ _).drew
     have PF := Lib.hid (P3.out.below hbd)
     have IF := Lib.hid (I3.out.grow hbd.size)
     have BF := Lib.hid (B3.out.trans (Btw.of_below hbd) fun _ _ h => h)
     have XF := Lib.hid (X3.out.below hbd)
     clear hwd hbd
     have CE := Lib.hid (CF.out.drew)
     have PE := Lib.hid (PF.out.below ((Below.refl _ _).drew))
     have IE := Lib.hid (IF.out.grow ((Below.refl wd.heap.size wd).drew).size)
     have BE := Lib.hid (BF.out.drew)
     have XE := Lib.hid (XF.out.below ((Below.refl _ _).drew))
     go_wp2_with fail
     refine (begin_ch false 0 HS.out HZ.out ⟨_, m, CF.out, PF.out, IF.out⟩).mono ?_
     rintro _ w5 ⟨rfl, h5, hb5⟩
     have H5 := Lib.hid h5
     have B5 := Lib.hid (BF.out.trans hb5 fun _ _ h => h)
     clear h5 hb5
     go_wp2
     go_ret
     rw [HE.out]
     exact ⟨rfl, H5.out, B5.out⟩
   ·
    rw [if_neg h9] at HE0
    have b9 : ((b : Int) == 17) = false := by simp; omega
    have j9 : ((b : Int) = 17) = False := eq_false (by omega)
    have d9 : decide ((b : Int) = 17) = false := decide_eq_false (by omega)
    by_cases h21 : b = 21
    ·
     subst h21
     rw [if_pos rfl] at HE0
     have HE := Lib.hid HE0
     clear HE0 hb8 b8 j8 d8 b9 j9 d9 h8 h9
     go_enter Tryz.func142, Tryz.ntmps142
     go_wp2_with fail
     refine HRO.out.mono ?_
     rintro _ w1 ⟨rfl, h1⟩
     have B1 := Lib.hid h1
     have C1 := Lib.hid (C0.out.below h1)
     clear h1 C0
     have x5 : w1.cell? ⟨p, 5, none⟩ = some (.slice (some ⟨br, 0, none⟩) c.reg.length m.cR) := by rw [← EA.out]; exact C1.out.cell_at 5 _ rfl
     go_wp2_with fail
     refine (HCL.out _ (R0.out.below B1.out)).mono ?_
     rintro _ w2 ⟨Ax, cx, rfl, hox, h2⟩
     obtain ⟨bx, rfl, hbx⟩ := own_head hox HRN.out L8.out
     have B2 := Lib.hid (show Below w.heap.size w w2 from B1.out.trans (h2.mono B1.out.size))
     have hlx := (own_low hox bx rfl).2
     have C3 := Lib.hid ((C1.out.below h2).below (below_new w2 (.cells #[.int .i64 (rw0 : Int), .slice (some ⟨bx, 0, none⟩) c.reg.length cx] 65)))
     have hx8 : R8 w2 (some ⟨bx, 0, none⟩) c.reg.length c.reg := R8.own hox L8.out
     have hbx2 : w.heap.size ≤ bx := Nat.le_trans B1.out.size hbx.1
     have P3 := Lib.hid ((P0.out.more1 B2.out bx 12 hbx2 hlx).below (below_new w2 (.cells #[.int .i64 (rw0 : Int), .slice (some ⟨bx, 0, none⟩) c.reg.length cx] 65)))
     have I3 := Lib.hid ((I0.out.one B2.out.size bx 12 hbx2).grow (below_new w2 (.cells #[.int .i64 (rw0 : Int), .slice (some ⟨bx, 0, none⟩) c.reg.length cx] 65)).size)
     have B3 := Lib.hid ((Btw.of_below (I := I) B2.out).trans (Btw.of_below (below_new w2 (.cells #[.int .i64 (rw0 : Int), .slice (some ⟨bx, 0, none⟩) c.reg.length cx] 65))) fun _ _ h => h)
     have X3 := Lib.hid (hx8.below (below_new w2 (.cells #[.int .i64 (rw0 : Int), .slice (some ⟨bx, 0, none⟩) c.reg.length cx] 65)))
     have Z3 := Lib.hid (CRow.new w2 #[.int .i64 (rw0 : Int), .slice (some ⟨bx, 0, none⟩) c.reg.length cx] 65)
     have NZ := Lib.hid (show ∀ j, role1 ρ bx 12 j ≠ 0 → j < w2.heap.size from fun j hj => (P0.out.more1 B2.out bx 12 hbx2 hlx).lt j hj)
     have R12 := Lib.hid (show role1 ρ bx 12 bx = 12 from if_pos rfl)
     have OQ := Lib.hid P3.out.que
     have z0 := Z3.out.cell_at 0 _ rfl
     have z1 := Z3.out.cell_at 1 _ rfl
     clear hox h2 hbx hlx hx8 hbx2 x5 C1
     go_wp2_with fail
     refine (putBehind_any (y := ⟨rw0, c.reg⟩) (some ⟨bx, 0, none⟩) cx HS.out HF.out HZ.out HW.out X3.out (fun b off e hn => by injection e with e; injection e with e _; rw [← e]; exact R12.out) P3.out C3.out).mono ?_
     rintro _ w4 ⟨rfl, hc4, hp4, hb4⟩
     have H4 := Lib.hid (show CH I w4 p g s (c.putBehind g s ⟨rw0, c.reg⟩) from ⟨_, _, hc4, hp4, I3.out.grow hb4.size⟩)
     have B4 := Lib.hid (B3.out.trans (CH.own_ I3.out P3.out hb4 (fun _ h => h)) fun _ _ h => h)
     clear hc4 hp4 hb4 z0 z1
     go_wp2_with fail
     refine (start_ch (c := c.putBehind g s ⟨rw0, c.reg⟩) false 0 HS.out (HZP.out _) H4.out).mono ?_
     rintro _ w5 ⟨rfl, h5, hb5⟩
     have H5 := Lib.hid h5
     have B5 := Lib.hid (B4.out.trans hb5 fun _ _ h => h)
     clear h5 hb5
     go_wp2
     go_ret
     rw [HE.out]
     exact ⟨rfl, H5.out, B5.out⟩
    ·
     rw [if_neg h21] at HE0
     have b21 : ((b : Int) == 21) = false := by simp; omega
     have j21 : ((b : Int) = 21) = False := eq_false (by omega)
     have d21 : decide ((b : Int) = 21) = false := decide_eq_false (by omega)
     have HE := Lib.hid HE0
     clear HE0 hb8 h8 h9 h21
     go_enter Tryz.func142, Tryz.ntmps142
     go_wp2_with fail
     refine HRO.out.mono ?_
     rintro _ w1 ⟨rfl, h1⟩
     have B1 := Lib.hid h1
     have C1 := Lib.hid (C0.out.below h1)
     clear h1 C0
     have x5 : w1.cell? ⟨p, 5, none⟩ = some (.slice (some ⟨br, 0, none⟩) c.reg.length m.cR) := by rw [← EA.out]; exact C1.out.cell_at 5 _ rfl
     go_wp2_with fail
     refine (HCL.out _ (R0.out.below B1.out)).mono ?_
     rintro _ w2 ⟨Ax, cx, rfl, hox, h2⟩
     obtain ⟨bx, rfl, hbx⟩ := own_head hox HRN.out L8.out
     have B2 := Lib.hid (show Below w.heap.size w w2 from B1.out.trans (h2.mono B1.out.size))
     have hlx := (own_low hox bx rfl).2
     have C3 := Lib.hid ((C1.out.below h2).below (below_new w2 (.cells #[.int .i64 (rw0 : Int), .slice (some ⟨bx, 0, none⟩) c.reg.length cx] 65)))
     have hx8 : R8 w2 (some ⟨bx, 0, none⟩) c.reg.length c.reg := R8.own hox L8.out
     have hbx2 : w.heap.size ≤ bx := Nat.le_trans B1.out.size hbx.1
     have P3 := Lib.hid ((P0.out.more1 B2.out bx 12 hbx2 hlx).below (below_new w2 (.cells #[.int .i64 (rw0 : Int), .slice (some ⟨bx, 0, none⟩) c.reg.length cx] 65)))
     have I3 := Lib.hid ((I0.out.one B2.out.size bx 12 hbx2).grow (below_new w2 (.cells #[.int .i64 (rw0 : Int), .slice (some ⟨bx, 0, none⟩) c.reg.length cx] 65)).size)
     have B3 := Lib.hid ((Btw.of_below (I := I) B2.out).trans (Btw.of_below (below_new w2 (.cells #[.int .i64 (rw0 : Int), .slice (some ⟨bx, 0, none⟩) c.reg.length cx] 65))) fun _ _ h => h)
     have X3 := Lib.hid (hx8.below (below_new w2 (.cells #[.int .i64 (rw0 : Int), .slice (some ⟨bx, 0, none⟩) c.reg.length cx] 65)))
     have Z3 := Lib.hid (CRow.new w2 #[.int .i64 (rw0 : Int), .slice (some ⟨bx, 0, none⟩) c.reg.length cx] 65)
     have NZ := Lib.hid (show ∀ j, role1 ρ bx 12 j ≠ 0 → j < w2.heap.size from fun j hj => (P0.out.more1 B2.out bx 12 hbx2 hlx).lt j hj)
     have R12 := Lib.hid (show role1 ρ bx 12 bx = 12 from if_pos rfl)
     have OQ := Lib.hid P3.out.que
     have z0 := Z3.out.cell_at 0 _ rfl
     have z1 := Z3.out.cell_at 1 _ rfl
     clear hox h2 hbx hlx hx8 hbx2 x5 C1
     go_wp2
     go_ret
     rw [HE.out]
     exact ⟨rfl, ⟨_, m, C3.out, P3.out, I3.out⟩, B3.out⟩
 ·
  rw [decide_eq_false hr] at hro
  have HRO := Lib.hid hro
  have HE := Lib.hid (show c.endLoad g s b = (false, c) by unfold Ch.endLoad; rw [if_neg hr])
  clear hr hbd hraw hrn hro hc hp hi hs hz hf hl hw
  go_enter Tryz.func142, Tryz.ntmps142
  go_wp2_with fail
  refine HRO.out.mono ?_
  rintro _ w1 ⟨rfl, h1⟩
  have B1 := Lib.hid h1
  clear h1
  go_wp2
  go_ret
  rw [HE.out]
  exact ⟨rfl, HH.out.below B1.out, Btw.of_below B1.out⟩
end
section
variable {ρ : Nat → Nat} {I J : Nat → Prop} {w w' : World} {p : Nat} {g : Gm} {s : Sc} {c : Ch} {m : Cm}
def Ch.ends (g : Gm) (s : Sc) (c : Ch) (b : Nat) : Bool × Ch :=
 if c.state = 6 ∧ c.listed.length = 4 then (decide ((b : Int) = 48 ∧ c.addr2 2 < g.b.toNat * g.s.toNat), if (b : Int) = 48 ∧ c.addr2 2 < g.b.toNat * g.s.toNat then c.endFetch s else c)
 else if c.state = 8 ∧ c.listed.length = 2 then (decide ((b : Int) = 224), if (b : Int) = 224 then c.endMove else c)
 else if c.state = 9 ∧ c.listed.length = 4 then c.endLoad g s b
 else if c.state = 10 ∧ c.listed.length = 2 then c.endErase g s b
 else (false, c)
set_option maxHeartbeats 4000000 in
theorem end_any (b : Nat) (hb8 : b < 256) (hs : SG g s) (hz : c.bz ≤ 1099511600000) (hw : c.wk ≤ 1099511627776) (hf : c.fit g) (h : CH I w p g s c) :
  Calls Tryz.prog 117 #[.pointer (some ⟨p, 0, none⟩), .int .u8 (b : Int)] w (Acts I p g s (.bool (c.ends g s b).1) (c.ends g s b).2 w) := by
 have HF1 := fun hl => endFetch_any (b : Int) hs (by omega) hl h
 have HM1 := fun hl => endMove_any (b : Int) hl h
 have HL1 := fun hl => endLoad_any b hb8 hs hz hw hf hl h
 have HE1 := fun hl => endErase_any b hb8 hs (by omega) hf hl h
 have HH := Lib.hid h
 obtain ⟨n, hn⟩ : ∃ n, n = c.listed.length := ⟨_, rfl⟩
 obtain ⟨t, ht⟩ : ∃ t, t = c.state := ⟨_, rfl⟩
 obtain ⟨ρ, m, hc, hp, hi⟩ := h
 have x0 : w.cell? ⟨p, 0, none⟩ = some (.int .i64 (t : Int)) := by rw [ht]; exact hc.cell_at 0 _ rfl
 have x1 : w.cell? ⟨p, 1, none⟩ = some (.slice m.aL n m.cL) := by rw [hn]; exact hc.cell_at 1 _ rfl
 by_cases h6 : t = 6
 ·
  by_cases h0 : n = 4
  ·
   have HE := Lib.hid (show c.ends g s b = (decide ((b : Int) = 48 ∧ c.addr2 2 < g.b.toNat * g.s.toNat), if (b : Int) = 48 ∧ c.addr2 2 < g.b.toNat * g.s.toNat then c.endFetch s else c) by unfold Ch.ends; rw [if_pos ⟨by omega, by omega⟩])
   have HX := Lib.hid (HF1 (by omega))
   subst h6
   subst h0
   clear hc hp hi hn ht hs hz hw hf HF1 HM1 HL1 HE1
   go_enter Tryz.func117, Tryz.ntmps117
   go_wp2_with fail
   refine HX.out.mono ?_
   rintro _ w1 ⟨rfl, h1, hb1⟩
   have H1 := Lib.hid h1
   have B1 := Lib.hid hb1
   clear h1 hb1
   go_wp2
   go_ret
   rw [HE.out]
   refine ⟨?_, H1.out, B1.out⟩; simp
  ·
   have HE := Lib.hid (show c.ends g s b = (false, c) by unfold Ch.ends; rw [if_neg (by omega), if_neg (by omega), if_neg (by omega), if_neg (by omega)])
   have b0 : ((n : Int) == 4) = false := by simp; omega
   have j0 : ((n : Int) = 4) = False := eq_false (by omega)
   have d0 : decide (n = 4) = false := decide_eq_false (by omega)
   subst h6
   clear hc hp hi hn ht hs hz hw hf h0 HF1 HM1 HL1 HE1
   go_enter Tryz.func117, Tryz.ntmps117
   go_wp2
   go_ret
   rw [HE.out]
   exact ⟨rfl, HH.out, Btw.refl w⟩
 by_cases h8 : t = 8
 ·
  by_cases h0 : n = 2
  ·
   have HE := Lib.hid (show c.ends g s b = (decide ((b : Int) = 224), if (b : Int) = 224 then c.endMove else c) by unfold Ch.ends; rw [if_neg (by omega), if_pos ⟨by omega, by omega⟩])
   have HX := Lib.hid (HM1 (by omega))
   subst h8
   subst h0
   clear hc hp hi hn ht hs hz hw hf HF1 HM1 HL1 HE1
   go_enter Tryz.func117, Tryz.ntmps117
   go_wp2_with fail
   refine HX.out.mono ?_
   rintro _ w1 ⟨rfl, h1, hb1⟩
   have H1 := Lib.hid h1
   have B1 := Lib.hid hb1
   clear h1 hb1
   go_wp2
   go_ret
   rw [HE.out]
   exact ⟨rfl, H1.out, B1.out⟩
  ·
   have HE := Lib.hid (show c.ends g s b = (false, c) by unfold Ch.ends; rw [if_neg (by omega), if_neg (by omega), if_neg (by omega), if_neg (by omega)])
   have b0 : ((n : Int) == 2) = false := by simp; omega
   have j0 : ((n : Int) = 2) = False := eq_false (by omega)
   have d0 : decide (n = 2) = false := decide_eq_false (by omega)
   subst h8
   clear hc hp hi hn ht hs hz hw hf h0 HF1 HM1 HL1 HE1
   go_enter Tryz.func117, Tryz.ntmps117
   go_wp2
   go_ret
   rw [HE.out]
   exact ⟨rfl, HH.out, Btw.refl w⟩
 by_cases h9 : t = 9
 ·
  by_cases h0 : n = 4
  ·
   have HE := Lib.hid (show c.ends g s b = c.endLoad g s b by unfold Ch.ends; rw [if_neg (by omega), if_neg (by omega), if_pos ⟨by omega, by omega⟩])
   have HX := Lib.hid (HL1 (by omega))
   subst h9
   subst h0
   clear hc hp hi hn ht hs hz hw hf HF1 HM1 HL1 HE1
   go_enter Tryz.func117, Tryz.ntmps117
   go_wp2_with fail
   refine HX.out.mono ?_
   rintro _ w1 ⟨rfl, h1, hb1⟩
   have H1 := Lib.hid h1
   have B1 := Lib.hid hb1
   clear h1 hb1
   go_wp2
   go_ret
   rw [HE.out]
   exact ⟨rfl, H1.out, B1.out⟩
  ·
   have HE := Lib.hid (show c.ends g s b = (false, c) by unfold Ch.ends; rw [if_neg (by omega), if_neg (by omega), if_neg (by omega), if_neg (by omega)])
   have b0 : ((n : Int) == 4) = false := by simp; omega
   have j0 : ((n : Int) = 4) = False := eq_false (by omega)
   have d0 : decide (n = 4) = false := decide_eq_false (by omega)
   subst h9
   clear hc hp hi hn ht hs hz hw hf h0 HF1 HM1 HL1 HE1
   go_enter Tryz.func117, Tryz.ntmps117
   go_wp2
   go_ret
   rw [HE.out]
   exact ⟨rfl, HH.out, Btw.refl w⟩
 by_cases h10 : t = 10
 ·
  by_cases h0 : n = 2
  ·
   have HE := Lib.hid (show c.ends g s b = c.endErase g s b by unfold Ch.ends; rw [if_neg (by omega), if_neg (by omega), if_neg (by omega), if_pos ⟨by omega, by omega⟩])
   have HX := Lib.hid (HE1 (by omega))
   subst h10
   subst h0
   clear hc hp hi hn ht hs hz hw hf HF1 HM1 HL1 HE1
   go_enter Tryz.func117, Tryz.ntmps117
   go_wp2_with fail
   refine HX.out.mono ?_
   rintro _ w1 ⟨rfl, h1, hb1⟩
   have H1 := Lib.hid h1
   have B1 := Lib.hid hb1
   clear h1 hb1
   go_wp2
   go_ret
   rw [HE.out]
   exact ⟨rfl, H1.out, B1.out⟩
  ·
   have HE := Lib.hid (show c.ends g s b = (false, c) by unfold Ch.ends; rw [if_neg (by omega), if_neg (by omega), if_neg (by omega), if_neg (by omega)])
   have b0 : ((n : Int) == 2) = false := by simp; omega
   have j0 : ((n : Int) = 2) = False := eq_false (by omega)
   have d0 : decide (n = 2) = false := decide_eq_false (by omega)
   subst h10
   clear hc hp hi hn ht hs hz hw hf h0 HF1 HM1 HL1 HE1
   go_enter Tryz.func117, Tryz.ntmps117
   go_wp2
   go_ret
   rw [HE.out]
   exact ⟨rfl, HH.out, Btw.refl w⟩
 have HE := Lib.hid (show c.ends g s b = (false, c) by unfold Ch.ends; rw [if_neg (by omega), if_neg (by omega), if_neg (by omega), if_neg (by omega)])
 have b6 : ((t : Int) == 6) = false := by simp; omega
 have j6 : ((t : Int) = 6) = False := eq_false (by omega)
 have d6 : decide ((t : Int) = 6) = false := decide_eq_false (by omega)
 have b8 : ((t : Int) == 8) = false := by simp; omega
 have j8 : ((t : Int) = 8) = False := eq_false (by omega)
 have d8 : decide ((t : Int) = 8) = false := decide_eq_false (by omega)
 have b9 : ((t : Int) == 9) = false := by simp; omega
 have j9 : ((t : Int) = 9) = False := eq_false (by omega)
 have d9 : decide ((t : Int) = 9) = false := decide_eq_false (by omega)
 have b10 : ((t : Int) == 10) = false := by simp; omega
 have j10 : ((t : Int) = 10) = False := eq_false (by omega)
 have d10 : decide ((t : Int) = 10) = false := decide_eq_false (by omega)
 clear hc hp hi hn ht hs hz hw hf h6 h8 h9 h10 HF1 HM1 HL1 HE1
 go_enter Tryz.func117, Tryz.ntmps117
 go_wp2
 go_ret
 rw [HE.out]
 exact ⟨rfl, HH.out, Btw.refl w⟩
def Ch.opens (g : Gm) (c : Ch) (b : Nat) : Bool × Ch :=
 if openedS b = 0 then (false, c) else if openedS b = 9 then (true, ((c.newReg (List.replicate g.raw.toNat 255)).noB).enter 9)
 else if openedS b = 10 then (true, c.noQ.enter 10) else (true, c.discard.enter (openedS b))
set_option maxHeartbeats 4000000 in
theorem open_ch (b : Nat) (hb8 : b < 256) (h : CH I w p g s c) : Calls Tryz.prog 116 #[.pointer (some ⟨p, 0, none⟩), .int .u8 (b : Int)] w (Acts I p g s (.bool (c.opens g b).1) (c.opens g b).2 w) := by
 have HO := fun W => opened_any b hb8 W
 have hn : openedS b = 0 ∨ openedS b = 2 ∨ openedS b = 4 ∨ openedS b = 5 ∨ openedS b = 6 ∨ openedS b = 8 ∨ openedS b = 9 ∨ openedS b = 10 := by
  have : ∀ v, v = openedS b → v = 0 ∨ v = 2 ∨ v = 4 ∨ v = 5 ∨ v = 6 ∨ v = 8 ∨ v = 9 ∨ v = 10 := by
   intro v hv
   unfold openedS at hv
   repeat' (split at hv)
   all_goals omega
  exact this _ rfl
 have K : ∀ {c' : Ch}, c.opens g b = (true, c') → (∀ ρ m, CRow w p 72 (chCells g c m) → Pt ρ w p g s c m → CI ρ I w → ∃ m', (∀ W, Pt ρ W p g s c m → Pt ρ W p g s c' m') ∧ Calls Tryz.prog 116 #[.pointer (some ⟨p, 0, none⟩), .int .u8 (b : Int)] w (SetsR (.bool true) p g c' m' w)) →
   Calls Tryz.prog 116 #[.pointer (some ⟨p, 0, none⟩), .int .u8 (b : Int)] w (Acts I p g s (.bool (c.opens g b).1) (c.opens g b).2 w) := fun {c'} e hk => by
  rw [e]
  obtain ⟨ρ, m, hc, hp, hi⟩ := h
  obtain ⟨m', h1, h2⟩ := hk ρ m hc hp hi
  refine h2.mono ?_
  rintro _ w1 ⟨rfl, h3, hb⟩
  exact ⟨rfl, CH.of' h3 hp hi hb h1⟩
 rcases hn with e | e | e | e | e | e | e | e
 ·
  have HE : c.opens g b = (false, c) := by unfold Ch.opens; rw [if_pos e]
  rw [HE]
  rw [e] at HO
  have HOP := Lib.hid HO
  have HH := Lib.hid h
  clear HO e HE h K
  go_enter Tryz.func116, Tryz.ntmps116
  go_wp2_with fail
  refine (HOP.out _).mono ?_
  rintro _ w1 ⟨rfl, h1⟩
  have B1 := Lib.hid h1
  clear h1
  go_wp2
  go_ret
  exact ⟨rfl, HH.out.below B1.out, Btw.of_below B1.out⟩
 ·
  rw [e] at HO
  exact K (c' := c.discard.enter 2) (by unfold Ch.opens; rw [e]; rfl) fun ρ m hc hp hi => ⟨m.discard.enter, fun W h => h.discard.enter 2, open_2 b HO hc⟩
 ·
  rw [e] at HO
  exact K (c' := c.discard.enter 4) (by unfold Ch.opens; rw [e]; rfl) fun ρ m hc hp hi => ⟨m.discard.enter, fun W h => h.discard.enter 4, open_4 b HO hc⟩
 ·
  rw [e] at HO
  exact K (c' := c.discard.enter 5) (by unfold Ch.opens; rw [e]; rfl) fun ρ m hc hp hi => ⟨m.discard.enter, fun W h => h.discard.enter 5, open_5 b HO hc⟩
 ·
  rw [e] at HO
  exact K (c' := c.discard.enter 6) (by unfold Ch.opens; rw [e]; rfl) fun ρ m hc hp hi => ⟨m.discard.enter, fun W h => h.discard.enter 6, open_6 b HO hc⟩
 ·
  rw [e] at HO
  exact K (c' := c.discard.enter 8) (by unfold Ch.opens; rw [e]; rfl) fun ρ m hc hp hi => ⟨m.discard.enter, fun W h => h.discard.enter 8, open_8 b HO hc⟩
 ·
  rw [e] at HO
  have HE : c.opens g b = (true, ((c.newReg (List.replicate g.raw.toNat 255)).noB).enter 9) := by unfold Ch.opens; rw [e]; rfl
  rw [HE]
  exact open_9 b HO h
 ·
  rw [e] at HO
  exact K (c' := c.noQ.enter 10) (by unfold Ch.opens; rw [e]; rfl) fun ρ m hc hp hi => ⟨m.noQ.enter, fun W h => h.noQ.enter 10, open_10 b HO hc⟩
end
end Go.Proofs.YtmbgoopkpfhamaaGreat
