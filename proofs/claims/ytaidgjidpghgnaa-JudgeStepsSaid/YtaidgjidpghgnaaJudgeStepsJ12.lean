/-
  The judge's address.
-/
import Derived.Test.YtaidgjidpghgnaaTk
import Derived.Laws.MakeOwn
import Derived.Laws.ResultCell
import Derived.Test.YtaidgjidpghgnaaJudgeStepsJ9
import Derived.Test.YtaidgjidpghgnaaJudgeStepsJRjI
import Derived.Test.YtaidgjidpghgnaaJudgeStepsJCycMem
import Derived.Test.YtaidgjidpghgnaaJudgeStepsJ6
import Derived.Test.YtaidgjidpghgnaaJudgeStepsJ4
namespace Go.Proofs.Ytaidgjidpghgnaa
open Go.RowKit
set_option maxRecDepth 100000
def zD0 : Oper := { dst := some 9, op := Op.load 23 (Operand.tmp 1), type := 23, pos := "judge.go:58", after := #[], guard := none }
def zD1 : Oper := { dst := some 10, op := Op.fieldAddr 23 (Operand.tmp 1) 1, type := 0, pos := "judge.go:58", after := #[], guard := none }
def zD2 : Oper := { dst := some 11, op := Op.load 3 (Operand.tmp 10), type := 3, pos := "judge.go:58", after := #[{ on := 1, ground := Ground.data }], guard := none }
def zD3 : Oper := { dst := some 13, op := Op.build 52 #[(1, Operand.tmp 9), (2, Operand.tmp 12)], type := 52, pos := "judge.go:58", after := #[{ on := 0, ground := Ground.data }, { on := 3, ground := Ground.data }], guard := none }
def zD4 : Oper := { dst := some 4, op := Op.assign (Operand.tmp 14), type := 27, pos := "judge.go:58", after := #[{ on := 5, ground := Ground.data }, { on := 0, ground := Ground.phase }, { on := 1, ground := Ground.phase }, { on := 2, ground := Ground.phase }, { on := 3, ground := Ground.phase }, { on := 4, ground := Ground.phase }, { on := 5, ground := Ground.phase }], guard := none }

section
variable {I K : Nat → Prop} {w w' : World} {p : Nat} {g : Gm} {j : Jd} {m : Jm}
theorem japp8n (w : World) {ops : Array Oper} {rest : List Oper} {o : Oper} {a : Act} {Q : Exit → Act → World → Prop} (hgd : o.guard = none) (s x : Operand)
  (ho : o.op = .call { callee := .builtin .append, args := #[s, x], argTypes := #[48, 48] }) (base : Nat) (v : Value) (l : List Nat) (n : Nat) (hn : l.length = n) (hs : a.eval s = v) (hown : w.ownsRow base 5 1 v n (U8 l))
  (ad : Addr) (m c : Nat) (k : List Nat) (hx : a.eval x = .slice (some ad) m c) (hr : R8 w (some ad) m k) (h63 : n + m ≤ 1099511627776) (hbase : base ≤ w.heap.size)
  (h : ∀ v' w', w'.ownsRow base 5 1 v' (n + m) (U8 (l ++ k)) → w.grownBy w' v.ownBlock → (v'.ownBlock = v.ownBlock ∨ v'.ownBlock = some w.heap.size) → wpList Try.prog ops Q rest (a.put o.dst v') w') : wpList Try.prog ops Q (o :: rest) a w := by
 subst hn
 exact japp8 w hgd s x ho base v l hs hown ad m c k hx hr h63 hbase h
def Jd.push (j : Jd) (b : Nat) : Jd := { j with listed := j.listed ++ [b] }
/-- Fetch and Load: with the fourth Address there are a column and a row. -/
def Jd.addr4 (g : Gm) (j : Jd) : Bool × Jd := if j.listed.length = 4 then (decide (j.addr2 0 < g.raw.toNat) && decide (j.addr2 2 < g.rows_), { j with col := j.addr2 0 }) else (true, j)
/-- An Address. -/
def Jd.addr (g : Gm) (j : Jd) (b : Nat) : Bool × Jd :=
 if j.lists b = false then (false, j)
 else if j.op = 3 then (true, ({ j.push b with data := true, col := 0 } : Jd).start)
 else if j.op = 5 then ({ j.push b with data := false } : Jd).addr4 g
 else if j.op = 8 then (j.push b).addr4 g
 else if j.op = 7 then (decide ((j.push b).listed.length < 2) || decide ((j.push b).addr2 0 < g.raw.toNat), j.push b)
 else if j.op = 9 then (decide ((j.push b).listed.length < 2) || decide ((j.push b).addr2 0 < g.rows_), j.push b)
 else (true, j.push b)
theorem lists_what {b : Nat} (h : j.lists b = true) : ((j.op = 2 ∨ j.op = 3 ∨ j.op = 4) ∧ j.listed.length = 0) ∨ ((j.op = 5 ∨ j.op = 8) ∧ j.listed.length < 4) ∨ ((j.op = 7 ∨ j.op = 9) ∧ j.listed.length < 2) := by
 unfold Jd.lists at h
 split at h
 ·
  rw [Bool.and_eq_true] at h
  exact .inl ⟨by omega, of_decide_eq_true h.2⟩
 ·
  split at h
  ·
   rw [Bool.and_eq_true] at h
   exact .inl ⟨by omega, of_decide_eq_true h.2⟩
  ·
   split at h
   ·
    exact .inr (.inl ⟨by omega, of_decide_eq_true h⟩)
   ·
    split at h
    ·
     exact .inr (.inr ⟨by omega, of_decide_eq_true h⟩)
    ·
     cases h
set_option maxHeartbeats 1000000 in
theorem jaddr_2_0 (b : Nat) (hb : b < 256) (hli : j.lists b = true) (ht : j.op = 2) (hn : j.listed.length = 0) (h : JH I w p g j) : Calls Try.prog 49 #[.pointer (some ⟨p, 0, none⟩), .int .u8 (b : Int)] w (ActsJ I p g (.bool (j.addr g b).1) (j.addr g b).2 w) := by
 have HH := Lib.hid h
 have HLI := jlists b hb (by omega) (by omega) h
 rw [hli] at HLI
 have HLI := Lib.hid HLI
 have HT := Lib.hid ht
 have HNL := Lib.hid hn
 have BB := Lib.hid hb
 have hpl : (j.push b).listed.length = 1 := by show (j.listed ++ [b]).length = 1; rw [List.length_append, hn]; rfl
 have HE := Lib.hid (show j.addr g b = (true, j.push b) by
  unfold Jd.addr
  rw [if_neg (by rw [hli]; decide), ht]
  first
   | rfl
   | (simp only [hpl]; rfl)
   | (show ({ j.push b with data := false } : Jd).addr4 g = _; unfold Jd.addr4; rw [show ({ j.push b with data := false } : Jd).listed.length = 1 from hpl]; rfl)
   | (show (j.push b).addr4 g = _; unfold Jd.addr4; rw [hpl]; rfl)
   | (show (decide ((j.push b).listed.length < 2) || _, j.push b) = _; rw [hpl]; rfl))
 clear h hb hli ht hn hpl
 ·
  skip
  go_enter Try.func49, Try.ntmps49
  go_wp2_with fail
  refine HLI.out.mono ?_
  rintro _ w1 ⟨rfl, h1⟩
  obtain ⟨m, hc, hr⟩ := HH.out.below h1
  have B1 := Lib.hid h1
  have C1 := Lib.hid hc
  have R1 := Lib.hid hr
  have NP := Lib.hid (hr.apart_p hc).2.1
  have y1 : w1.cell? ⟨p, 1, none⟩ = some (.slice m.aL 0 m.cL) := by
   have h0 := hc.cell_at 1 (.slice m.aL j.listed.length m.cL) rfl
   rw [HNL.out] at h0
   exact h0
  have OL := Lib.hid (show w1.ownsRow 0 5 1 (.slice m.aL 0 m.cL) 0 (U8 j.listed) by
   have h0 := hr.lis
   rw [HNL.out] at h0
   exact h0)
  clear h1 hc hr HLI
  go_wp2_with (at_builtin; refine japp8n (w1.alloc (.cells #[.int .u8 (b : Int)] 5)) rfl (.tmp 14) (.tmp 16) rfl 0 _ j.listed 0 HNL.out rfl (OL.out.alloc _) ⟨w1.heap.size, 0, none⟩ 1 1 [b] rfl (jr8_one w1 b BB.out _) (by omega) (Nat.zero_le _) ?_)
  intro v3 w3 hown hg hwh
  obtain ⟨A3, c3, rfl⟩ := jown_form hown
  have hP := Jr.pushL (I := I) (o := .cells #[.int .u8 (b : Int)] 5) (A3 := A3) (c3 := c3) b BB.out C1.out R1.out (by rw [HNL.out]; exact hown) (by rw [HNL.out]; exact hg) (by rw [HNL.out]; simpa using hwh)
  have C3 := Lib.hid hP.1
  have R3 := Lib.hid hP.2.1
  have B3 := Lib.hid ((Btw.of_below (I := I) B1.out).trans hP.2.2 fun _ _ h => h)
  clear hown hg hwh hP y1
  have x1 := C3.out.cell_at 1 (.slice m.aL j.listed.length m.cL) rfl
  have f1 := C3.out.frozen 1
  have S1 := Lib.hid (C3.out.setCell 1 (.slice A3 1 c3))
  have K1 := Lib.hid (((Btw.refl w3)).setCell (I := fun k => k = p) (p := ⟨p, 1, none⟩) (v := .slice A3 1 c3) rfl)
  have z0 : w3.cell? ⟨p, 0, none⟩ = some (.int .i64 2) := by
   have h0 := C3.out.cell_at 0 (.int .i64 (j.op : Int)) rfl
   rw [HT.out] at h0
   exact h0
  have HJ := JH.of (j' := { j with listed := j.listed ++ [b] }) (m' := { m with aL := A3, cL := c3 }) C3.out R3.out (by
   have h0 := S1.out
   have e : (j.listed ++ [b]).length = 1 := by rw [List.length_append, HNL.out]; rfl
   show CRow _ p 52 (jCells g { j with listed := j.listed ++ [b] } { m with aL := A3, cL := c3 })
   unfold jCells at h0 ⊢
   rw [show ({ j with listed := j.listed ++ [b] } : Jd).listed.length = 1 from e]
   exact h0) K1.out fun W h => { h with }
  have H5 := Lib.hid HJ.1
  have B5 := Lib.hid (B3.out.trans HJ.2 fun _ _ h => h)
  clear HJ
  go_wp2
  go_ret
  rw [HE.out]
  exact ⟨rfl, H5.out, B5.out⟩
set_option maxHeartbeats 1000000 in
theorem jaddr_3_0 (b : Nat) (hb : b < 256) (hli : j.lists b = true) (ht : j.op = 3) (hn : j.listed.length = 0) (h : JH I w p g j) : Calls Try.prog 49 #[.pointer (some ⟨p, 0, none⟩), .int .u8 (b : Int)] w (ActsJ I p g (.bool (j.addr g b).1) (j.addr g b).2 w) := by
 have HH := Lib.hid h
 have HLI := jlists b hb (by omega) (by omega) h
 rw [hli] at HLI
 have HLI := Lib.hid HLI
 have HT := Lib.hid ht
 have HNL := Lib.hid hn
 have BB := Lib.hid hb
 have hpl : (j.push b).listed.length = 1 := by show (j.listed ++ [b]).length = 1; rw [List.length_append, hn]; rfl
 have HE := Lib.hid (show j.addr g b = (true, ({ j.push b with data := true, col := 0 } : Jd).start) by
  unfold Jd.addr
  rw [if_neg (by rw [hli]; decide), ht]
  first
   | rfl
   | (simp only [hpl]; rfl)
   | (show ({ j.push b with data := false } : Jd).addr4 g = _; unfold Jd.addr4; rw [show ({ j.push b with data := false } : Jd).listed.length = 1 from hpl]; rfl)
   | (show (j.push b).addr4 g = _; unfold Jd.addr4; rw [hpl]; rfl)
   | (show (decide ((j.push b).listed.length < 2) || _, j.push b) = _; rw [hpl]; rfl))
 clear h hb hli ht hn hpl
 ·
  skip
  go_enter Try.func49, Try.ntmps49
  go_wp2_with fail
  refine HLI.out.mono ?_
  rintro _ w1 ⟨rfl, h1⟩
  obtain ⟨m, hc, hr⟩ := HH.out.below h1
  have B1 := Lib.hid h1
  have C1 := Lib.hid hc
  have R1 := Lib.hid hr
  have NP := Lib.hid (hr.apart_p hc).2.1
  have y1 : w1.cell? ⟨p, 1, none⟩ = some (.slice m.aL 0 m.cL) := by
   have h0 := hc.cell_at 1 (.slice m.aL j.listed.length m.cL) rfl
   rw [HNL.out] at h0
   exact h0
  have OL := Lib.hid (show w1.ownsRow 0 5 1 (.slice m.aL 0 m.cL) 0 (U8 j.listed) by
   have h0 := hr.lis
   rw [HNL.out] at h0
   exact h0)
  clear h1 hc hr HLI
  go_wp2_with (at_builtin; refine japp8n (w1.alloc (.cells #[.int .u8 (b : Int)] 5)) rfl (.tmp 14) (.tmp 16) rfl 0 _ j.listed 0 HNL.out rfl (OL.out.alloc _) ⟨w1.heap.size, 0, none⟩ 1 1 [b] rfl (jr8_one w1 b BB.out _) (by omega) (Nat.zero_le _) ?_)
  intro v3 w3 hown hg hwh
  obtain ⟨A3, c3, rfl⟩ := jown_form hown
  have hP := Jr.pushL (I := I) (o := .cells #[.int .u8 (b : Int)] 5) (A3 := A3) (c3 := c3) b BB.out C1.out R1.out (by rw [HNL.out]; exact hown) (by rw [HNL.out]; exact hg) (by rw [HNL.out]; simpa using hwh)
  have C3 := Lib.hid hP.1
  have R3 := Lib.hid hP.2.1
  have B3 := Lib.hid ((Btw.of_below (I := I) B1.out).trans hP.2.2 fun _ _ h => h)
  clear hown hg hwh hP y1
  have x1 := C3.out.cell_at 1 (.slice m.aL j.listed.length m.cL) rfl
  have f1 := C3.out.frozen 1
  have S1 := Lib.hid (C3.out.setCell 1 (.slice A3 1 c3))
  have K1 := Lib.hid (((Btw.refl w3)).setCell (I := fun k => k = p) (p := ⟨p, 1, none⟩) (v := .slice A3 1 c3) rfl)
  have x7 := S1.out.cell_at 7 (.bool j.data) rfl
  have f7 := S1.out.frozen 7
  have S2 := Lib.hid (S1.out.setCell 7 (.bool true))
  have K2 := Lib.hid ((K1.out).setCell (I := fun k => k = p) (p := ⟨p, 7, none⟩) (v := .bool true) rfl)
  have x8 := S2.out.cell_at 8 (.int .i64 (j.col : Int)) rfl
  have f8 := S2.out.frozen 8
  have S3 := Lib.hid (S2.out.setCell 8 (.int .i64 0))
  have K3 := Lib.hid ((K2.out).setCell (I := fun k => k = p) (p := ⟨p, 8, none⟩) (v := .int .i64 0) rfl)
  have z0 : w3.cell? ⟨p, 0, none⟩ = some (.int .i64 3) := by
   have h0 := C3.out.cell_at 0 (.int .i64 (j.op : Int)) rfl
   rw [HT.out] at h0
   exact h0
  have HJ := JH.of (j' := { j with listed := j.listed ++ [b], data := true, col := 0 }) (m' := { m with aL := A3, cL := c3 }) C3.out R3.out (by
   have h0 := S3.out
   have e : (j.listed ++ [b]).length = 1 := by rw [List.length_append, HNL.out]; rfl
   show CRow _ p 52 (jCells g { j with listed := j.listed ++ [b], data := true, col := 0 } { m with aL := A3, cL := c3 })
   unfold jCells at h0 ⊢
   rw [show ({ j with listed := j.listed ++ [b], data := true, col := 0 } : Jd).listed.length = 1 from e]
   exact h0) K3.out fun W h => { h with }
  have H5 := Lib.hid HJ.1
  have B5 := Lib.hid (B3.out.trans HJ.2 fun _ _ h => h)
  clear HJ
  go_wp2_with fail
  refine (jstart H5.out).mono ?_
  rintro _ w6 ⟨rfl, h6, b6⟩
  have H6 := Lib.hid h6
  have B6 := Lib.hid (B5.out.trans b6 fun _ _ h => h)
  clear h6 b6
  go_wp2
  go_ret
  rw [HE.out]
  exact ⟨rfl, H6.out, B6.out⟩
set_option maxHeartbeats 1000000 in
theorem jaddr_4_0 (b : Nat) (hb : b < 256) (hli : j.lists b = true) (ht : j.op = 4) (hn : j.listed.length = 0) (h : JH I w p g j) : Calls Try.prog 49 #[.pointer (some ⟨p, 0, none⟩), .int .u8 (b : Int)] w (ActsJ I p g (.bool (j.addr g b).1) (j.addr g b).2 w) := by
 have HH := Lib.hid h
 have HLI := jlists b hb (by omega) (by omega) h
 rw [hli] at HLI
 have HLI := Lib.hid HLI
 have HT := Lib.hid ht
 have HNL := Lib.hid hn
 have BB := Lib.hid hb
 have hpl : (j.push b).listed.length = 1 := by show (j.listed ++ [b]).length = 1; rw [List.length_append, hn]; rfl
 have HE := Lib.hid (show j.addr g b = (true, j.push b) by
  unfold Jd.addr
  rw [if_neg (by rw [hli]; decide), ht]
  first
   | rfl
   | (simp only [hpl]; rfl)
   | (show ({ j.push b with data := false } : Jd).addr4 g = _; unfold Jd.addr4; rw [show ({ j.push b with data := false } : Jd).listed.length = 1 from hpl]; rfl)
   | (show (j.push b).addr4 g = _; unfold Jd.addr4; rw [hpl]; rfl)
   | (show (decide ((j.push b).listed.length < 2) || _, j.push b) = _; rw [hpl]; rfl))
 clear h hb hli ht hn hpl
 ·
  skip
  go_enter Try.func49, Try.ntmps49
  go_wp2_with fail
  refine HLI.out.mono ?_
  rintro _ w1 ⟨rfl, h1⟩
  obtain ⟨m, hc, hr⟩ := HH.out.below h1
  have B1 := Lib.hid h1
  have C1 := Lib.hid hc
  have R1 := Lib.hid hr
  have NP := Lib.hid (hr.apart_p hc).2.1
  have y1 : w1.cell? ⟨p, 1, none⟩ = some (.slice m.aL 0 m.cL) := by
   have h0 := hc.cell_at 1 (.slice m.aL j.listed.length m.cL) rfl
   rw [HNL.out] at h0
   exact h0
  have OL := Lib.hid (show w1.ownsRow 0 5 1 (.slice m.aL 0 m.cL) 0 (U8 j.listed) by
   have h0 := hr.lis
   rw [HNL.out] at h0
   exact h0)
  clear h1 hc hr HLI
  go_wp2_with (at_builtin; refine japp8n (w1.alloc (.cells #[.int .u8 (b : Int)] 5)) rfl (.tmp 14) (.tmp 16) rfl 0 _ j.listed 0 HNL.out rfl (OL.out.alloc _) ⟨w1.heap.size, 0, none⟩ 1 1 [b] rfl (jr8_one w1 b BB.out _) (by omega) (Nat.zero_le _) ?_)
  intro v3 w3 hown hg hwh
  obtain ⟨A3, c3, rfl⟩ := jown_form hown
  have hP := Jr.pushL (I := I) (o := .cells #[.int .u8 (b : Int)] 5) (A3 := A3) (c3 := c3) b BB.out C1.out R1.out (by rw [HNL.out]; exact hown) (by rw [HNL.out]; exact hg) (by rw [HNL.out]; simpa using hwh)
  have C3 := Lib.hid hP.1
  have R3 := Lib.hid hP.2.1
  have B3 := Lib.hid ((Btw.of_below (I := I) B1.out).trans hP.2.2 fun _ _ h => h)
  clear hown hg hwh hP y1
  have x1 := C3.out.cell_at 1 (.slice m.aL j.listed.length m.cL) rfl
  have f1 := C3.out.frozen 1
  have S1 := Lib.hid (C3.out.setCell 1 (.slice A3 1 c3))
  have K1 := Lib.hid (((Btw.refl w3)).setCell (I := fun k => k = p) (p := ⟨p, 1, none⟩) (v := .slice A3 1 c3) rfl)
  have z0 : w3.cell? ⟨p, 0, none⟩ = some (.int .i64 4) := by
   have h0 := C3.out.cell_at 0 (.int .i64 (j.op : Int)) rfl
   rw [HT.out] at h0
   exact h0
  have HJ := JH.of (j' := { j with listed := j.listed ++ [b] }) (m' := { m with aL := A3, cL := c3 }) C3.out R3.out (by
   have h0 := S1.out
   have e : (j.listed ++ [b]).length = 1 := by rw [List.length_append, HNL.out]; rfl
   show CRow _ p 52 (jCells g { j with listed := j.listed ++ [b] } { m with aL := A3, cL := c3 })
   unfold jCells at h0 ⊢
   rw [show ({ j with listed := j.listed ++ [b] } : Jd).listed.length = 1 from e]
   exact h0) K1.out fun W h => { h with }
  have H5 := Lib.hid HJ.1
  have B5 := Lib.hid (B3.out.trans HJ.2 fun _ _ h => h)
  clear HJ
  go_wp2
  go_ret
  rw [HE.out]
  exact ⟨rfl, H5.out, B5.out⟩
set_option maxHeartbeats 1000000 in
theorem jaddr_5_0 (b : Nat) (hb : b < 256) (hli : j.lists b = true) (ht : j.op = 5) (hn : j.listed.length = 0) (h : JH I w p g j) : Calls Try.prog 49 #[.pointer (some ⟨p, 0, none⟩), .int .u8 (b : Int)] w (ActsJ I p g (.bool (j.addr g b).1) (j.addr g b).2 w) := by
 have HH := Lib.hid h
 have HLI := jlists b hb (by omega) (by omega) h
 rw [hli] at HLI
 have HLI := Lib.hid HLI
 have HT := Lib.hid ht
 have HNL := Lib.hid hn
 have BB := Lib.hid hb
 have hpl : (j.push b).listed.length = 1 := by show (j.listed ++ [b]).length = 1; rw [List.length_append, hn]; rfl
 have HE := Lib.hid (show j.addr g b = (true, { j.push b with data := false }) by
  unfold Jd.addr
  rw [if_neg (by rw [hli]; decide), ht]
  first
   | rfl
   | (simp only [hpl]; rfl)
   | (show ({ j.push b with data := false } : Jd).addr4 g = _; unfold Jd.addr4; rw [show ({ j.push b with data := false } : Jd).listed.length = 1 from hpl]; rfl)
   | (show (j.push b).addr4 g = _; unfold Jd.addr4; rw [hpl]; rfl)
   | (show (decide ((j.push b).listed.length < 2) || _, j.push b) = _; rw [hpl]; rfl))
 clear h hb hli ht hn hpl
 ·
  skip
  go_enter Try.func49, Try.ntmps49
  go_wp2_with fail
  refine HLI.out.mono ?_
  rintro _ w1 ⟨rfl, h1⟩
  obtain ⟨m, hc, hr⟩ := HH.out.below h1
  have B1 := Lib.hid h1
  have C1 := Lib.hid hc
  have R1 := Lib.hid hr
  have NP := Lib.hid (hr.apart_p hc).2.1
  have y1 : w1.cell? ⟨p, 1, none⟩ = some (.slice m.aL 0 m.cL) := by
   have h0 := hc.cell_at 1 (.slice m.aL j.listed.length m.cL) rfl
   rw [HNL.out] at h0
   exact h0
  have OL := Lib.hid (show w1.ownsRow 0 5 1 (.slice m.aL 0 m.cL) 0 (U8 j.listed) by
   have h0 := hr.lis
   rw [HNL.out] at h0
   exact h0)
  clear h1 hc hr HLI
  go_wp2_with (at_builtin; refine japp8n (w1.alloc (.cells #[.int .u8 (b : Int)] 5)) rfl (.tmp 14) (.tmp 16) rfl 0 _ j.listed 0 HNL.out rfl (OL.out.alloc _) ⟨w1.heap.size, 0, none⟩ 1 1 [b] rfl (jr8_one w1 b BB.out _) (by omega) (Nat.zero_le _) ?_)
  intro v3 w3 hown hg hwh
  obtain ⟨A3, c3, rfl⟩ := jown_form hown
  have hP := Jr.pushL (I := I) (o := .cells #[.int .u8 (b : Int)] 5) (A3 := A3) (c3 := c3) b BB.out C1.out R1.out (by rw [HNL.out]; exact hown) (by rw [HNL.out]; exact hg) (by rw [HNL.out]; simpa using hwh)
  have C3 := Lib.hid hP.1
  have R3 := Lib.hid hP.2.1
  have B3 := Lib.hid ((Btw.of_below (I := I) B1.out).trans hP.2.2 fun _ _ h => h)
  clear hown hg hwh hP y1
  have x1 := C3.out.cell_at 1 (.slice m.aL j.listed.length m.cL) rfl
  have f1 := C3.out.frozen 1
  have S1 := Lib.hid (C3.out.setCell 1 (.slice A3 1 c3))
  have K1 := Lib.hid (((Btw.refl w3)).setCell (I := fun k => k = p) (p := ⟨p, 1, none⟩) (v := .slice A3 1 c3) rfl)
  have x7 := S1.out.cell_at 7 (.bool j.data) rfl
  have f7 := S1.out.frozen 7
  have S2 := Lib.hid (S1.out.setCell 7 (.bool false))
  have K2 := Lib.hid ((K1.out).setCell (I := fun k => k = p) (p := ⟨p, 7, none⟩) (v := .bool false) rfl)
  have z0 : w3.cell? ⟨p, 0, none⟩ = some (.int .i64 5) := by
   have h0 := C3.out.cell_at 0 (.int .i64 (j.op : Int)) rfl
   rw [HT.out] at h0
   exact h0
  have HJ := JH.of (j' := { j with listed := j.listed ++ [b], data := false }) (m' := { m with aL := A3, cL := c3 }) C3.out R3.out (by
   have h0 := S2.out
   have e : (j.listed ++ [b]).length = 1 := by rw [List.length_append, HNL.out]; rfl
   show CRow _ p 52 (jCells g { j with listed := j.listed ++ [b], data := false } { m with aL := A3, cL := c3 })
   unfold jCells at h0 ⊢
   rw [show ({ j with listed := j.listed ++ [b], data := false } : Jd).listed.length = 1 from e]
   exact h0) K2.out fun W h => { h with }
  have H5 := Lib.hid HJ.1
  have B5 := Lib.hid (B3.out.trans HJ.2 fun _ _ h => h)
  clear HJ
  go_wp2
  go_ret
  rw [HE.out]
  exact ⟨rfl, H5.out, B5.out⟩
set_option maxHeartbeats 1000000 in
theorem jaddr_5_1 (b : Nat) (hb : b < 256) (hli : j.lists b = true) (ht : j.op = 5) (hn : j.listed.length = 1) (h : JH I w p g j) : Calls Try.prog 49 #[.pointer (some ⟨p, 0, none⟩), .int .u8 (b : Int)] w (ActsJ I p g (.bool (j.addr g b).1) (j.addr g b).2 w) := by
 have HH := Lib.hid h
 have HLI := jlists b hb (by omega) (by omega) h
 rw [hli] at HLI
 have HLI := Lib.hid HLI
 have HT := Lib.hid ht
 have HNL := Lib.hid hn
 have BB := Lib.hid hb
 have hpl : (j.push b).listed.length = 2 := by show (j.listed ++ [b]).length = 2; rw [List.length_append, hn]; rfl
 have HE := Lib.hid (show j.addr g b = (true, { j.push b with data := false }) by
  unfold Jd.addr
  rw [if_neg (by rw [hli]; decide), ht]
  first
   | rfl
   | (simp only [hpl]; rfl)
   | (show ({ j.push b with data := false } : Jd).addr4 g = _; unfold Jd.addr4; rw [show ({ j.push b with data := false } : Jd).listed.length = 2 from hpl]; rfl)
   | (show (j.push b).addr4 g = _; unfold Jd.addr4; rw [hpl]; rfl)
   | (show (decide ((j.push b).listed.length < 2) || _, j.push b) = _; rw [hpl]; rfl))
 clear h hb hli ht hn hpl
 ·
  skip
  go_enter Try.func49, Try.ntmps49
  go_wp2_with fail
  refine HLI.out.mono ?_
  rintro _ w1 ⟨rfl, h1⟩
  obtain ⟨m, hc, hr⟩ := HH.out.below h1
  have B1 := Lib.hid h1
  have C1 := Lib.hid hc
  have R1 := Lib.hid hr
  have NP := Lib.hid (hr.apart_p hc).2.1
  have y1 : w1.cell? ⟨p, 1, none⟩ = some (.slice m.aL 1 m.cL) := by
   have h0 := hc.cell_at 1 (.slice m.aL j.listed.length m.cL) rfl
   rw [HNL.out] at h0
   exact h0
  have OL := Lib.hid (show w1.ownsRow 0 5 1 (.slice m.aL 1 m.cL) 1 (U8 j.listed) by
   have h0 := hr.lis
   rw [HNL.out] at h0
   exact h0)
  clear h1 hc hr HLI
  go_wp2_with (at_builtin; refine japp8n (w1.alloc (.cells #[.int .u8 (b : Int)] 5)) rfl (.tmp 14) (.tmp 16) rfl 0 _ j.listed 1 HNL.out rfl (OL.out.alloc _) ⟨w1.heap.size, 0, none⟩ 1 1 [b] rfl (jr8_one w1 b BB.out _) (by omega) (Nat.zero_le _) ?_)
  intro v3 w3 hown hg hwh
  obtain ⟨A3, c3, rfl⟩ := jown_form hown
  have hP := Jr.pushL (I := I) (o := .cells #[.int .u8 (b : Int)] 5) (A3 := A3) (c3 := c3) b BB.out C1.out R1.out (by rw [HNL.out]; exact hown) (by rw [HNL.out]; exact hg) (by rw [HNL.out]; simpa using hwh)
  have C3 := Lib.hid hP.1
  have R3 := Lib.hid hP.2.1
  have B3 := Lib.hid ((Btw.of_below (I := I) B1.out).trans hP.2.2 fun _ _ h => h)
  clear hown hg hwh hP y1
  have x1 := C3.out.cell_at 1 (.slice m.aL j.listed.length m.cL) rfl
  have f1 := C3.out.frozen 1
  have S1 := Lib.hid (C3.out.setCell 1 (.slice A3 2 c3))
  have K1 := Lib.hid (((Btw.refl w3)).setCell (I := fun k => k = p) (p := ⟨p, 1, none⟩) (v := .slice A3 2 c3) rfl)
  have x7 := S1.out.cell_at 7 (.bool j.data) rfl
  have f7 := S1.out.frozen 7
  have S2 := Lib.hid (S1.out.setCell 7 (.bool false))
  have K2 := Lib.hid ((K1.out).setCell (I := fun k => k = p) (p := ⟨p, 7, none⟩) (v := .bool false) rfl)
  have z0 : w3.cell? ⟨p, 0, none⟩ = some (.int .i64 5) := by
   have h0 := C3.out.cell_at 0 (.int .i64 (j.op : Int)) rfl
   rw [HT.out] at h0
   exact h0
  have HJ := JH.of (j' := { j with listed := j.listed ++ [b], data := false }) (m' := { m with aL := A3, cL := c3 }) C3.out R3.out (by
   have h0 := S2.out
   have e : (j.listed ++ [b]).length = 2 := by rw [List.length_append, HNL.out]; rfl
   show CRow _ p 52 (jCells g { j with listed := j.listed ++ [b], data := false } { m with aL := A3, cL := c3 })
   unfold jCells at h0 ⊢
   rw [show ({ j with listed := j.listed ++ [b], data := false } : Jd).listed.length = 2 from e]
   exact h0) K2.out fun W h => { h with }
  have H5 := Lib.hid HJ.1
  have B5 := Lib.hid (B3.out.trans HJ.2 fun _ _ h => h)
  clear HJ
  go_wp2
  go_ret
  rw [HE.out]
  exact ⟨rfl, H5.out, B5.out⟩
set_option maxHeartbeats 1000000 in
theorem jaddr_5_2 (b : Nat) (hb : b < 256) (hli : j.lists b = true) (ht : j.op = 5) (hn : j.listed.length = 2) (h : JH I w p g j) : Calls Try.prog 49 #[.pointer (some ⟨p, 0, none⟩), .int .u8 (b : Int)] w (ActsJ I p g (.bool (j.addr g b).1) (j.addr g b).2 w) := by
 have HH := Lib.hid h
 have HLI := jlists b hb (by omega) (by omega) h
 rw [hli] at HLI
 have HLI := Lib.hid HLI
 have HT := Lib.hid ht
 have HNL := Lib.hid hn
 have BB := Lib.hid hb
 have hpl : (j.push b).listed.length = 3 := by show (j.listed ++ [b]).length = 3; rw [List.length_append, hn]; rfl
 have HE := Lib.hid (show j.addr g b = (true, { j.push b with data := false }) by
  unfold Jd.addr
  rw [if_neg (by rw [hli]; decide), ht]
  first
   | rfl
   | (simp only [hpl]; rfl)
   | (show ({ j.push b with data := false } : Jd).addr4 g = _; unfold Jd.addr4; rw [show ({ j.push b with data := false } : Jd).listed.length = 3 from hpl]; rfl)
   | (show (j.push b).addr4 g = _; unfold Jd.addr4; rw [hpl]; rfl)
   | (show (decide ((j.push b).listed.length < 2) || _, j.push b) = _; rw [hpl]; rfl))
 clear h hb hli ht hn hpl
 ·
  skip
  go_enter Try.func49, Try.ntmps49
  go_wp2_with fail
  refine HLI.out.mono ?_
  rintro _ w1 ⟨rfl, h1⟩
  obtain ⟨m, hc, hr⟩ := HH.out.below h1
  have B1 := Lib.hid h1
  have C1 := Lib.hid hc
  have R1 := Lib.hid hr
  have NP := Lib.hid (hr.apart_p hc).2.1
  have y1 : w1.cell? ⟨p, 1, none⟩ = some (.slice m.aL 2 m.cL) := by
   have h0 := hc.cell_at 1 (.slice m.aL j.listed.length m.cL) rfl
   rw [HNL.out] at h0
   exact h0
  have OL := Lib.hid (show w1.ownsRow 0 5 1 (.slice m.aL 2 m.cL) 2 (U8 j.listed) by
   have h0 := hr.lis
   rw [HNL.out] at h0
   exact h0)
  clear h1 hc hr HLI
  go_wp2_with (at_builtin; refine japp8n (w1.alloc (.cells #[.int .u8 (b : Int)] 5)) rfl (.tmp 14) (.tmp 16) rfl 0 _ j.listed 2 HNL.out rfl (OL.out.alloc _) ⟨w1.heap.size, 0, none⟩ 1 1 [b] rfl (jr8_one w1 b BB.out _) (by omega) (Nat.zero_le _) ?_)
  intro v3 w3 hown hg hwh
  obtain ⟨A3, c3, rfl⟩ := jown_form hown
  have hP := Jr.pushL (I := I) (o := .cells #[.int .u8 (b : Int)] 5) (A3 := A3) (c3 := c3) b BB.out C1.out R1.out (by rw [HNL.out]; exact hown) (by rw [HNL.out]; exact hg) (by rw [HNL.out]; simpa using hwh)
  have C3 := Lib.hid hP.1
  have R3 := Lib.hid hP.2.1
  have B3 := Lib.hid ((Btw.of_below (I := I) B1.out).trans hP.2.2 fun _ _ h => h)
  clear hown hg hwh hP y1
  have x1 := C3.out.cell_at 1 (.slice m.aL j.listed.length m.cL) rfl
  have f1 := C3.out.frozen 1
  have S1 := Lib.hid (C3.out.setCell 1 (.slice A3 3 c3))
  have K1 := Lib.hid (((Btw.refl w3)).setCell (I := fun k => k = p) (p := ⟨p, 1, none⟩) (v := .slice A3 3 c3) rfl)
  have x7 := S1.out.cell_at 7 (.bool j.data) rfl
  have f7 := S1.out.frozen 7
  have S2 := Lib.hid (S1.out.setCell 7 (.bool false))
  have K2 := Lib.hid ((K1.out).setCell (I := fun k => k = p) (p := ⟨p, 7, none⟩) (v := .bool false) rfl)
  have z0 : w3.cell? ⟨p, 0, none⟩ = some (.int .i64 5) := by
   have h0 := C3.out.cell_at 0 (.int .i64 (j.op : Int)) rfl
   rw [HT.out] at h0
   exact h0
  have HJ := JH.of (j' := { j with listed := j.listed ++ [b], data := false }) (m' := { m with aL := A3, cL := c3 }) C3.out R3.out (by
   have h0 := S2.out
   have e : (j.listed ++ [b]).length = 3 := by rw [List.length_append, HNL.out]; rfl
   show CRow _ p 52 (jCells g { j with listed := j.listed ++ [b], data := false } { m with aL := A3, cL := c3 })
   unfold jCells at h0 ⊢
   rw [show ({ j with listed := j.listed ++ [b], data := false } : Jd).listed.length = 3 from e]
   exact h0) K2.out fun W h => { h with }
  have H5 := Lib.hid HJ.1
  have B5 := Lib.hid (B3.out.trans HJ.2 fun _ _ h => h)
  clear HJ
  go_wp2
  go_ret
  rw [HE.out]
  exact ⟨rfl, H5.out, B5.out⟩
set_option maxHeartbeats 1000000 in
theorem jaddr_5_3 (b : Nat) (hb : b < 256) (hli : j.lists b = true) (ht : j.op = 5) (hn : j.listed.length = 3) (h : JH I w p g j) : Calls Try.prog 49 #[.pointer (some ⟨p, 0, none⟩), .int .u8 (b : Int)] w (ActsJ I p g (.bool (j.addr g b).1) (j.addr g b).2 w) := by
 have HH := Lib.hid h
 have HLI := jlists b hb (by omega) (by omega) h
 rw [hli] at HLI
 have HLI := Lib.hid HLI
 have HT := Lib.hid ht
 have HNL := Lib.hid hn
 have BB := Lib.hid hb
 have hpl : (j.push b).listed.length = 4 := by show (j.listed ++ [b]).length = 4; rw [List.length_append, hn]; rfl
 have HE := Lib.hid (show j.addr g b = (decide ((j.push b).addr2 0 < g.raw.toNat) && decide ((j.push b).addr2 2 < g.rows_), { j.push b with data := false, col := (j.push b).addr2 0 }) by
  unfold Jd.addr
  rw [if_neg (by rw [hli]; decide), ht]
  first
   | rfl
   | (simp only [hpl]; rfl)
   | (show ({ j.push b with data := false } : Jd).addr4 g = _; unfold Jd.addr4; rw [show ({ j.push b with data := false } : Jd).listed.length = 4 from hpl]; rfl)
   | (show (j.push b).addr4 g = _; unfold Jd.addr4; rw [hpl]; rfl)
   | (show (decide ((j.push b).listed.length < 2) || _, j.push b) = _; rw [hpl]; rfl))
 clear h hb hli ht hn hpl
 ·
  skip
  go_enter Try.func49, Try.ntmps49
  go_wp2_with fail
  refine HLI.out.mono ?_
  rintro _ w1 ⟨rfl, h1⟩
  obtain ⟨m, hc, hr⟩ := HH.out.below h1
  have B1 := Lib.hid h1
  have C1 := Lib.hid hc
  have R1 := Lib.hid hr
  have NP := Lib.hid (hr.apart_p hc).2.1
  have y1 : w1.cell? ⟨p, 1, none⟩ = some (.slice m.aL 3 m.cL) := by
   have h0 := hc.cell_at 1 (.slice m.aL j.listed.length m.cL) rfl
   rw [HNL.out] at h0
   exact h0
  have OL := Lib.hid (show w1.ownsRow 0 5 1 (.slice m.aL 3 m.cL) 3 (U8 j.listed) by
   have h0 := hr.lis
   rw [HNL.out] at h0
   exact h0)
  clear h1 hc hr HLI
  go_wp2_with (at_builtin; refine japp8n (w1.alloc (.cells #[.int .u8 (b : Int)] 5)) rfl (.tmp 14) (.tmp 16) rfl 0 _ j.listed 3 HNL.out rfl (OL.out.alloc _) ⟨w1.heap.size, 0, none⟩ 1 1 [b] rfl (jr8_one w1 b BB.out _) (by omega) (Nat.zero_le _) ?_)
  intro v3 w3 hown hg hwh
  obtain ⟨A3, c3, rfl⟩ := jown_form hown
  have hP := Jr.pushL (I := I) (o := .cells #[.int .u8 (b : Int)] 5) (A3 := A3) (c3 := c3) b BB.out C1.out R1.out (by rw [HNL.out]; exact hown) (by rw [HNL.out]; exact hg) (by rw [HNL.out]; simpa using hwh)
  have C3 := Lib.hid hP.1
  have R3 := Lib.hid hP.2.1
  have B3 := Lib.hid ((Btw.of_below (I := I) B1.out).trans hP.2.2 fun _ _ h => h)
  clear hown hg hwh hP y1
  have x1 := C3.out.cell_at 1 (.slice m.aL j.listed.length m.cL) rfl
  have f1 := C3.out.frozen 1
  have S1 := Lib.hid (C3.out.setCell 1 (.slice A3 4 c3))
  have K1 := Lib.hid (((Btw.refl w3)).setCell (I := fun k => k = p) (p := ⟨p, 1, none⟩) (v := .slice A3 4 c3) rfl)
  have x7 := S1.out.cell_at 7 (.bool j.data) rfl
  have f7 := S1.out.frozen 7
  have S2 := Lib.hid (S1.out.setCell 7 (.bool false))
  have K2 := Lib.hid ((K1.out).setCell (I := fun k => k = p) (p := ⟨p, 7, none⟩) (v := .bool false) rfl)
  have z0 : w3.cell? ⟨p, 0, none⟩ = some (.int .i64 5) := by
   have h0 := C3.out.cell_at 0 (.int .i64 (j.op : Int)) rfl
   rw [HT.out] at h0
   exact h0
  have HJ := JH.of (j' := { j with listed := j.listed ++ [b], data := false }) (m' := { m with aL := A3, cL := c3 }) C3.out R3.out (by
   have h0 := S2.out
   have e : (j.listed ++ [b]).length = 4 := by rw [List.length_append, HNL.out]; rfl
   show CRow _ p 52 (jCells g { j with listed := j.listed ++ [b], data := false } { m with aL := A3, cL := c3 })
   unfold jCells at h0 ⊢
   rw [show ({ j with listed := j.listed ++ [b], data := false } : Jd).listed.length = 4 from e]
   exact h0) K2.out fun W h => { h with }
  have H5 := Lib.hid HJ.1
  have B5 := Lib.hid (B3.out.trans HJ.2 fun _ _ h => h)
  clear HJ
  have L5 := Lib.hid (show ({ j with listed := j.listed ++ [b], data := false } : Jd).listed.length = 4 by show (j.listed ++ [b]).length = 4; rw [List.length_append, HNL.out]; rfl)
  have HC5 := Lib.hid (jlistedColumn (j := ({ j with listed := j.listed ++ [b], data := false } : Jd)) (by show 2 ≤ ({ j with listed := j.listed ++ [b], data := false } : Jd).listed.length; rw [L5.out]; omega) H5.out)
  have ea := Lib.hid (show ({ j with listed := j.listed ++ [b], data := false } : Jd).addr2 0 = (j.push b).addr2 0 from rfl)
  obtain ⟨a, ha⟩ : ∃ a, a = (j.push b).addr2 0 := ⟨_, rfl⟩
  rw [ea.out, ← ha] at HC5
  have HA := Lib.hid ha
  clear ha
  go_wp2_with fail
  refine HC5.out.mono ?_
  rintro _ w6 ⟨rfl, h6⟩
  obtain ⟨m6, hc6, hr6⟩ := H5.out.below h6
  have B6 := Lib.hid (B5.out.trans (Btw.of_below h6) fun _ _ h => h)
  have C6 := Lib.hid hc6
  have R6 := Lib.hid hr6
  clear h6 hc6 hr6 HC5
  have x8 := C6.out.cell_at 8 (.int .i64 (j.col : Int)) rfl
  have f8 := C6.out.frozen 8
  have HJ := JH.of (j' := { ({ j with listed := j.listed ++ [b], data := false } : Jd) with col := a }) (m' := m6) C6.out R6.out (C6.out.setCell 8 (.int .i64 (a : Int))) ((Btw.refl w6).setCell (I := fun k => k = p) (p := ⟨p, 8, none⟩) (v := .int .i64 (a : Int)) rfl) fun W h => { h with }
  have H7 := Lib.hid HJ.1
  have B7 := Lib.hid (B6.out.trans HJ.2 fun _ _ h => h)
  have HI7 := Lib.hid (jisColumn (by show 2 ≤ ({ j with listed := j.listed ++ [b], data := false } : Jd).listed.length; rw [L5.out]; omega) H7.out)
  have HR7 := Lib.hid (fun W (hh : JH I W p g { ({ j with listed := j.listed ++ [b], data := false } : Jd) with col := a }) => jisRow 2 (by show ({ j with listed := j.listed ++ [b], data := false } : Jd).listed.length = 4; exact L5.out) (by omega) hh)
  have ei := Lib.hid (show ({ ({ j with listed := j.listed ++ [b], data := false } : Jd) with col := a } : Jd).addr2 0 = a by rw [HA.out]; rfl)
  have er := Lib.hid (show ({ ({ j with listed := j.listed ++ [b], data := false } : Jd) with col := a } : Jd).addr2 2 = (j.push b).addr2 2 from rfl)
  obtain ⟨a2, ha2⟩ : ∃ a2, a2 = (j.push b).addr2 2 := ⟨_, rfl⟩
  rw [ei.out] at HI7
  rw [er.out, ← ha2] at HR7
  have HA2 := Lib.hid ha2
  rw [← HA.out, ← HA2.out] at HE
  clear HJ ha2 ea ei er HA HA2
  cases hq : decide (a < g.raw.toNat) with
  | false =>
   rw [hq] at HI7 HE
   clear hq
   go_wp2_with fail
   refine HI7.out.mono ?_
   rintro _ w8 ⟨rfl, h8⟩
   have H8 := Lib.hid (H7.out.below h8)
   have B8 := Lib.hid (B7.out.trans (Btw.of_below h8) fun _ _ h => h)
   clear h8 HI7
   go_wp2
   go_ret
   rw [HE.out]
   exact ⟨rfl, H8.out, B8.out⟩
  | true =>
   rw [hq] at HI7 HE
   clear hq
   go_wp2_with fail
   refine HI7.out.mono ?_
   rintro _ w8 ⟨rfl, h8⟩
   have H8 := Lib.hid (H7.out.below h8)
   have B8 := Lib.hid (B7.out.trans (Btw.of_below h8) fun _ _ h => h)
   clear h8 HI7
   go_wp2_with fail
   refine (HR7.out _ H8.out).mono ?_
   rintro _ w9 ⟨rfl, h9⟩
   have H9 := Lib.hid (H8.out.below h9)
   have B9 := Lib.hid (B8.out.trans (Btw.of_below h9) fun _ _ h => h)
   clear h9 HR7
   go_wp2
   go_ret
   rw [HE.out, Bool.true_and]
   exact ⟨rfl, H9.out, B9.out⟩
set_option maxHeartbeats 1000000 in
theorem jaddr_8_0 (b : Nat) (hb : b < 256) (hli : j.lists b = true) (ht : j.op = 8) (hn : j.listed.length = 0) (h : JH I w p g j) : Calls Try.prog 49 #[.pointer (some ⟨p, 0, none⟩), .int .u8 (b : Int)] w (ActsJ I p g (.bool (j.addr g b).1) (j.addr g b).2 w) := by
 have HH := Lib.hid h
 have HLI := jlists b hb (by omega) (by omega) h
 rw [hli] at HLI
 have HLI := Lib.hid HLI
 have HT := Lib.hid ht
 have HNL := Lib.hid hn
 have BB := Lib.hid hb
 have hpl : (j.push b).listed.length = 1 := by show (j.listed ++ [b]).length = 1; rw [List.length_append, hn]; rfl
 have HE := Lib.hid (show j.addr g b = (true, j.push b) by
  unfold Jd.addr
  rw [if_neg (by rw [hli]; decide), ht]
  first
   | rfl
   | (simp only [hpl]; rfl)
   | (show ({ j.push b with data := false } : Jd).addr4 g = _; unfold Jd.addr4; rw [show ({ j.push b with data := false } : Jd).listed.length = 1 from hpl]; rfl)
   | (show (j.push b).addr4 g = _; unfold Jd.addr4; rw [hpl]; rfl)
   | (show (decide ((j.push b).listed.length < 2) || _, j.push b) = _; rw [hpl]; rfl))
 clear h hb hli ht hn hpl
 ·
  skip
  go_enter Try.func49, Try.ntmps49
  go_wp2_with fail
  refine HLI.out.mono ?_
  rintro _ w1 ⟨rfl, h1⟩
  obtain ⟨m, hc, hr⟩ := HH.out.below h1
  have B1 := Lib.hid h1
  have C1 := Lib.hid hc
  have R1 := Lib.hid hr
  have NP := Lib.hid (hr.apart_p hc).2.1
  have y1 : w1.cell? ⟨p, 1, none⟩ = some (.slice m.aL 0 m.cL) := by
   have h0 := hc.cell_at 1 (.slice m.aL j.listed.length m.cL) rfl
   rw [HNL.out] at h0
   exact h0
  have OL := Lib.hid (show w1.ownsRow 0 5 1 (.slice m.aL 0 m.cL) 0 (U8 j.listed) by
   have h0 := hr.lis
   rw [HNL.out] at h0
   exact h0)
  clear h1 hc hr HLI
  go_wp2_with (at_builtin; refine japp8n (w1.alloc (.cells #[.int .u8 (b : Int)] 5)) rfl (.tmp 14) (.tmp 16) rfl 0 _ j.listed 0 HNL.out rfl (OL.out.alloc _) ⟨w1.heap.size, 0, none⟩ 1 1 [b] rfl (jr8_one w1 b BB.out _) (by omega) (Nat.zero_le _) ?_)
  intro v3 w3 hown hg hwh
  obtain ⟨A3, c3, rfl⟩ := jown_form hown
  have hP := Jr.pushL (I := I) (o := .cells #[.int .u8 (b : Int)] 5) (A3 := A3) (c3 := c3) b BB.out C1.out R1.out (by rw [HNL.out]; exact hown) (by rw [HNL.out]; exact hg) (by rw [HNL.out]; simpa using hwh)
  have C3 := Lib.hid hP.1
  have R3 := Lib.hid hP.2.1
  have B3 := Lib.hid ((Btw.of_below (I := I) B1.out).trans hP.2.2 fun _ _ h => h)
  clear hown hg hwh hP y1
  have x1 := C3.out.cell_at 1 (.slice m.aL j.listed.length m.cL) rfl
  have f1 := C3.out.frozen 1
  have S1 := Lib.hid (C3.out.setCell 1 (.slice A3 1 c3))
  have K1 := Lib.hid (((Btw.refl w3)).setCell (I := fun k => k = p) (p := ⟨p, 1, none⟩) (v := .slice A3 1 c3) rfl)
  have z0 : w3.cell? ⟨p, 0, none⟩ = some (.int .i64 8) := by
   have h0 := C3.out.cell_at 0 (.int .i64 (j.op : Int)) rfl
   rw [HT.out] at h0
   exact h0
  have HJ := JH.of (j' := { j with listed := j.listed ++ [b] }) (m' := { m with aL := A3, cL := c3 }) C3.out R3.out (by
   have h0 := S1.out
   have e : (j.listed ++ [b]).length = 1 := by rw [List.length_append, HNL.out]; rfl
   show CRow _ p 52 (jCells g { j with listed := j.listed ++ [b] } { m with aL := A3, cL := c3 })
   unfold jCells at h0 ⊢
   rw [show ({ j with listed := j.listed ++ [b] } : Jd).listed.length = 1 from e]
   exact h0) K1.out fun W h => { h with }
  have H5 := Lib.hid HJ.1
  have B5 := Lib.hid (B3.out.trans HJ.2 fun _ _ h => h)
  clear HJ
  go_wp2
  go_ret
  rw [HE.out]
  exact ⟨rfl, H5.out, B5.out⟩
set_option maxHeartbeats 1000000 in
theorem jaddr_8_1 (b : Nat) (hb : b < 256) (hli : j.lists b = true) (ht : j.op = 8) (hn : j.listed.length = 1) (h : JH I w p g j) : Calls Try.prog 49 #[.pointer (some ⟨p, 0, none⟩), .int .u8 (b : Int)] w (ActsJ I p g (.bool (j.addr g b).1) (j.addr g b).2 w) := by
 have HH := Lib.hid h
 have HLI := jlists b hb (by omega) (by omega) h
 rw [hli] at HLI
 have HLI := Lib.hid HLI
 have HT := Lib.hid ht
 have HNL := Lib.hid hn
 have BB := Lib.hid hb
 have hpl : (j.push b).listed.length = 2 := by show (j.listed ++ [b]).length = 2; rw [List.length_append, hn]; rfl
 have HE := Lib.hid (show j.addr g b = (true, j.push b) by
  unfold Jd.addr
  rw [if_neg (by rw [hli]; decide), ht]
  first
   | rfl
   | (simp only [hpl]; rfl)
   | (show ({ j.push b with data := false } : Jd).addr4 g = _; unfold Jd.addr4; rw [show ({ j.push b with data := false } : Jd).listed.length = 2 from hpl]; rfl)
   | (show (j.push b).addr4 g = _; unfold Jd.addr4; rw [hpl]; rfl)
   | (show (decide ((j.push b).listed.length < 2) || _, j.push b) = _; rw [hpl]; rfl))
 clear h hb hli ht hn hpl
 ·
  skip
  go_enter Try.func49, Try.ntmps49
  go_wp2_with fail
  refine HLI.out.mono ?_
  rintro _ w1 ⟨rfl, h1⟩
  obtain ⟨m, hc, hr⟩ := HH.out.below h1
  have B1 := Lib.hid h1
  have C1 := Lib.hid hc
  have R1 := Lib.hid hr
  have NP := Lib.hid (hr.apart_p hc).2.1
  have y1 : w1.cell? ⟨p, 1, none⟩ = some (.slice m.aL 1 m.cL) := by
   have h0 := hc.cell_at 1 (.slice m.aL j.listed.length m.cL) rfl
   rw [HNL.out] at h0
   exact h0
  have OL := Lib.hid (show w1.ownsRow 0 5 1 (.slice m.aL 1 m.cL) 1 (U8 j.listed) by
   have h0 := hr.lis
   rw [HNL.out] at h0
   exact h0)
  clear h1 hc hr HLI
  go_wp2_with (at_builtin; refine japp8n (w1.alloc (.cells #[.int .u8 (b : Int)] 5)) rfl (.tmp 14) (.tmp 16) rfl 0 _ j.listed 1 HNL.out rfl (OL.out.alloc _) ⟨w1.heap.size, 0, none⟩ 1 1 [b] rfl (jr8_one w1 b BB.out _) (by omega) (Nat.zero_le _) ?_)
  intro v3 w3 hown hg hwh
  obtain ⟨A3, c3, rfl⟩ := jown_form hown
  have hP := Jr.pushL (I := I) (o := .cells #[.int .u8 (b : Int)] 5) (A3 := A3) (c3 := c3) b BB.out C1.out R1.out (by rw [HNL.out]; exact hown) (by rw [HNL.out]; exact hg) (by rw [HNL.out]; simpa using hwh)
  have C3 := Lib.hid hP.1
  have R3 := Lib.hid hP.2.1
  have B3 := Lib.hid ((Btw.of_below (I := I) B1.out).trans hP.2.2 fun _ _ h => h)
  clear hown hg hwh hP y1
  have x1 := C3.out.cell_at 1 (.slice m.aL j.listed.length m.cL) rfl
  have f1 := C3.out.frozen 1
  have S1 := Lib.hid (C3.out.setCell 1 (.slice A3 2 c3))
  have K1 := Lib.hid (((Btw.refl w3)).setCell (I := fun k => k = p) (p := ⟨p, 1, none⟩) (v := .slice A3 2 c3) rfl)
  have z0 : w3.cell? ⟨p, 0, none⟩ = some (.int .i64 8) := by
   have h0 := C3.out.cell_at 0 (.int .i64 (j.op : Int)) rfl
   rw [HT.out] at h0
   exact h0
  have HJ := JH.of (j' := { j with listed := j.listed ++ [b] }) (m' := { m with aL := A3, cL := c3 }) C3.out R3.out (by
   have h0 := S1.out
   have e : (j.listed ++ [b]).length = 2 := by rw [List.length_append, HNL.out]; rfl
   show CRow _ p 52 (jCells g { j with listed := j.listed ++ [b] } { m with aL := A3, cL := c3 })
   unfold jCells at h0 ⊢
   rw [show ({ j with listed := j.listed ++ [b] } : Jd).listed.length = 2 from e]
   exact h0) K1.out fun W h => { h with }
  have H5 := Lib.hid HJ.1
  have B5 := Lib.hid (B3.out.trans HJ.2 fun _ _ h => h)
  clear HJ
  go_wp2
  go_ret
  rw [HE.out]
  exact ⟨rfl, H5.out, B5.out⟩
set_option maxHeartbeats 1000000 in
theorem jaddr_8_2 (b : Nat) (hb : b < 256) (hli : j.lists b = true) (ht : j.op = 8) (hn : j.listed.length = 2) (h : JH I w p g j) : Calls Try.prog 49 #[.pointer (some ⟨p, 0, none⟩), .int .u8 (b : Int)] w (ActsJ I p g (.bool (j.addr g b).1) (j.addr g b).2 w) := by
 have HH := Lib.hid h
 have HLI := jlists b hb (by omega) (by omega) h
 rw [hli] at HLI
 have HLI := Lib.hid HLI
 have HT := Lib.hid ht
 have HNL := Lib.hid hn
 have BB := Lib.hid hb
 have hpl : (j.push b).listed.length = 3 := by show (j.listed ++ [b]).length = 3; rw [List.length_append, hn]; rfl
 have HE := Lib.hid (show j.addr g b = (true, j.push b) by
  unfold Jd.addr
  rw [if_neg (by rw [hli]; decide), ht]
  first
   | rfl
   | (simp only [hpl]; rfl)
   | (show ({ j.push b with data := false } : Jd).addr4 g = _; unfold Jd.addr4; rw [show ({ j.push b with data := false } : Jd).listed.length = 3 from hpl]; rfl)
   | (show (j.push b).addr4 g = _; unfold Jd.addr4; rw [hpl]; rfl)
   | (show (decide ((j.push b).listed.length < 2) || _, j.push b) = _; rw [hpl]; rfl))
 clear h hb hli ht hn hpl
 ·
  skip
  go_enter Try.func49, Try.ntmps49
  go_wp2_with fail
  refine HLI.out.mono ?_
  rintro _ w1 ⟨rfl, h1⟩
  obtain ⟨m, hc, hr⟩ := HH.out.below h1
  have B1 := Lib.hid h1
  have C1 := Lib.hid hc
  have R1 := Lib.hid hr
  have NP := Lib.hid (hr.apart_p hc).2.1
  have y1 : w1.cell? ⟨p, 1, none⟩ = some (.slice m.aL 2 m.cL) := by
   have h0 := hc.cell_at 1 (.slice m.aL j.listed.length m.cL) rfl
   rw [HNL.out] at h0
   exact h0
  have OL := Lib.hid (show w1.ownsRow 0 5 1 (.slice m.aL 2 m.cL) 2 (U8 j.listed) by
   have h0 := hr.lis
   rw [HNL.out] at h0
   exact h0)
  clear h1 hc hr HLI
  go_wp2_with (at_builtin; refine japp8n (w1.alloc (.cells #[.int .u8 (b : Int)] 5)) rfl (.tmp 14) (.tmp 16) rfl 0 _ j.listed 2 HNL.out rfl (OL.out.alloc _) ⟨w1.heap.size, 0, none⟩ 1 1 [b] rfl (jr8_one w1 b BB.out _) (by omega) (Nat.zero_le _) ?_)
  intro v3 w3 hown hg hwh
  obtain ⟨A3, c3, rfl⟩ := jown_form hown
  have hP := Jr.pushL (I := I) (o := .cells #[.int .u8 (b : Int)] 5) (A3 := A3) (c3 := c3) b BB.out C1.out R1.out (by rw [HNL.out]; exact hown) (by rw [HNL.out]; exact hg) (by rw [HNL.out]; simpa using hwh)
  have C3 := Lib.hid hP.1
  have R3 := Lib.hid hP.2.1
  have B3 := Lib.hid ((Btw.of_below (I := I) B1.out).trans hP.2.2 fun _ _ h => h)
  clear hown hg hwh hP y1
  have x1 := C3.out.cell_at 1 (.slice m.aL j.listed.length m.cL) rfl
  have f1 := C3.out.frozen 1
  have S1 := Lib.hid (C3.out.setCell 1 (.slice A3 3 c3))
  have K1 := Lib.hid (((Btw.refl w3)).setCell (I := fun k => k = p) (p := ⟨p, 1, none⟩) (v := .slice A3 3 c3) rfl)
  have z0 : w3.cell? ⟨p, 0, none⟩ = some (.int .i64 8) := by
   have h0 := C3.out.cell_at 0 (.int .i64 (j.op : Int)) rfl
   rw [HT.out] at h0
   exact h0
  have HJ := JH.of (j' := { j with listed := j.listed ++ [b] }) (m' := { m with aL := A3, cL := c3 }) C3.out R3.out (by
   have h0 := S1.out
   have e : (j.listed ++ [b]).length = 3 := by rw [List.length_append, HNL.out]; rfl
   show CRow _ p 52 (jCells g { j with listed := j.listed ++ [b] } { m with aL := A3, cL := c3 })
   unfold jCells at h0 ⊢
   rw [show ({ j with listed := j.listed ++ [b] } : Jd).listed.length = 3 from e]
   exact h0) K1.out fun W h => { h with }
  have H5 := Lib.hid HJ.1
  have B5 := Lib.hid (B3.out.trans HJ.2 fun _ _ h => h)
  clear HJ
  go_wp2
  go_ret
  rw [HE.out]
  exact ⟨rfl, H5.out, B5.out⟩
set_option maxHeartbeats 1000000 in
theorem jaddr_8_3 (b : Nat) (hb : b < 256) (hli : j.lists b = true) (ht : j.op = 8) (hn : j.listed.length = 3) (h : JH I w p g j) : Calls Try.prog 49 #[.pointer (some ⟨p, 0, none⟩), .int .u8 (b : Int)] w (ActsJ I p g (.bool (j.addr g b).1) (j.addr g b).2 w) := by
 have HH := Lib.hid h
 have HLI := jlists b hb (by omega) (by omega) h
 rw [hli] at HLI
 have HLI := Lib.hid HLI
 have HT := Lib.hid ht
 have HNL := Lib.hid hn
 have BB := Lib.hid hb
 have hpl : (j.push b).listed.length = 4 := by show (j.listed ++ [b]).length = 4; rw [List.length_append, hn]; rfl
 have HE := Lib.hid (show j.addr g b = (decide ((j.push b).addr2 0 < g.raw.toNat) && decide ((j.push b).addr2 2 < g.rows_), { j.push b with col := (j.push b).addr2 0 }) by
  unfold Jd.addr
  rw [if_neg (by rw [hli]; decide), ht]
  first
   | rfl
   | (simp only [hpl]; rfl)
   | (show ({ j.push b with data := false } : Jd).addr4 g = _; unfold Jd.addr4; rw [show ({ j.push b with data := false } : Jd).listed.length = 4 from hpl]; rfl)
   | (show (j.push b).addr4 g = _; unfold Jd.addr4; rw [hpl]; rfl)
   | (show (decide ((j.push b).listed.length < 2) || _, j.push b) = _; rw [hpl]; rfl))
 clear h hb hli ht hn hpl
 ·
  skip
  go_enter Try.func49, Try.ntmps49
  go_wp2_with fail
  refine HLI.out.mono ?_
  rintro _ w1 ⟨rfl, h1⟩
  obtain ⟨m, hc, hr⟩ := HH.out.below h1
  have B1 := Lib.hid h1
  have C1 := Lib.hid hc
  have R1 := Lib.hid hr
  have NP := Lib.hid (hr.apart_p hc).2.1
  have y1 : w1.cell? ⟨p, 1, none⟩ = some (.slice m.aL 3 m.cL) := by
   have h0 := hc.cell_at 1 (.slice m.aL j.listed.length m.cL) rfl
   rw [HNL.out] at h0
   exact h0
  have OL := Lib.hid (show w1.ownsRow 0 5 1 (.slice m.aL 3 m.cL) 3 (U8 j.listed) by
   have h0 := hr.lis
   rw [HNL.out] at h0
   exact h0)
  clear h1 hc hr HLI
  go_wp2_with (at_builtin; refine japp8n (w1.alloc (.cells #[.int .u8 (b : Int)] 5)) rfl (.tmp 14) (.tmp 16) rfl 0 _ j.listed 3 HNL.out rfl (OL.out.alloc _) ⟨w1.heap.size, 0, none⟩ 1 1 [b] rfl (jr8_one w1 b BB.out _) (by omega) (Nat.zero_le _) ?_)
  intro v3 w3 hown hg hwh
  obtain ⟨A3, c3, rfl⟩ := jown_form hown
  have hP := Jr.pushL (I := I) (o := .cells #[.int .u8 (b : Int)] 5) (A3 := A3) (c3 := c3) b BB.out C1.out R1.out (by rw [HNL.out]; exact hown) (by rw [HNL.out]; exact hg) (by rw [HNL.out]; simpa using hwh)
  have C3 := Lib.hid hP.1
  have R3 := Lib.hid hP.2.1
  have B3 := Lib.hid ((Btw.of_below (I := I) B1.out).trans hP.2.2 fun _ _ h => h)
  clear hown hg hwh hP y1
  have x1 := C3.out.cell_at 1 (.slice m.aL j.listed.length m.cL) rfl
  have f1 := C3.out.frozen 1
  have S1 := Lib.hid (C3.out.setCell 1 (.slice A3 4 c3))
  have K1 := Lib.hid (((Btw.refl w3)).setCell (I := fun k => k = p) (p := ⟨p, 1, none⟩) (v := .slice A3 4 c3) rfl)
  have z0 : w3.cell? ⟨p, 0, none⟩ = some (.int .i64 8) := by
   have h0 := C3.out.cell_at 0 (.int .i64 (j.op : Int)) rfl
   rw [HT.out] at h0
   exact h0
  have HJ := JH.of (j' := { j with listed := j.listed ++ [b] }) (m' := { m with aL := A3, cL := c3 }) C3.out R3.out (by
   have h0 := S1.out
   have e : (j.listed ++ [b]).length = 4 := by rw [List.length_append, HNL.out]; rfl
   show CRow _ p 52 (jCells g { j with listed := j.listed ++ [b] } { m with aL := A3, cL := c3 })
   unfold jCells at h0 ⊢
   rw [show ({ j with listed := j.listed ++ [b] } : Jd).listed.length = 4 from e]
   exact h0) K1.out fun W h => { h with }
  have H5 := Lib.hid HJ.1
  have B5 := Lib.hid (B3.out.trans HJ.2 fun _ _ h => h)
  clear HJ
  have L5 := Lib.hid (show ({ j with listed := j.listed ++ [b] } : Jd).listed.length = 4 by show (j.listed ++ [b]).length = 4; rw [List.length_append, HNL.out]; rfl)
  have HC5 := Lib.hid (jlistedColumn (j := ({ j with listed := j.listed ++ [b] } : Jd)) (by show 2 ≤ ({ j with listed := j.listed ++ [b] } : Jd).listed.length; rw [L5.out]; omega) H5.out)
  have ea := Lib.hid (show ({ j with listed := j.listed ++ [b] } : Jd).addr2 0 = (j.push b).addr2 0 from rfl)
  obtain ⟨a, ha⟩ : ∃ a, a = (j.push b).addr2 0 := ⟨_, rfl⟩
  rw [ea.out, ← ha] at HC5
  have HA := Lib.hid ha
  clear ha
  go_wp2_with fail
  refine HC5.out.mono ?_
  rintro _ w6 ⟨rfl, h6⟩
  obtain ⟨m6, hc6, hr6⟩ := H5.out.below h6
  have B6 := Lib.hid (B5.out.trans (Btw.of_below h6) fun _ _ h => h)
  have C6 := Lib.hid hc6
  have R6 := Lib.hid hr6
  clear h6 hc6 hr6 HC5
  have x8 := C6.out.cell_at 8 (.int .i64 (j.col : Int)) rfl
  have f8 := C6.out.frozen 8
  have HJ := JH.of (j' := { ({ j with listed := j.listed ++ [b] } : Jd) with col := a }) (m' := m6) C6.out R6.out (C6.out.setCell 8 (.int .i64 (a : Int))) ((Btw.refl w6).setCell (I := fun k => k = p) (p := ⟨p, 8, none⟩) (v := .int .i64 (a : Int)) rfl) fun W h => { h with }
  have H7 := Lib.hid HJ.1
  have B7 := Lib.hid (B6.out.trans HJ.2 fun _ _ h => h)
  have HI7 := Lib.hid (jisColumn (by show 2 ≤ ({ j with listed := j.listed ++ [b] } : Jd).listed.length; rw [L5.out]; omega) H7.out)
  have HR7 := Lib.hid (fun W (hh : JH I W p g { ({ j with listed := j.listed ++ [b] } : Jd) with col := a }) => jisRow 2 (by show ({ j with listed := j.listed ++ [b] } : Jd).listed.length = 4; exact L5.out) (by omega) hh)
  have ei := Lib.hid (show ({ ({ j with listed := j.listed ++ [b] } : Jd) with col := a } : Jd).addr2 0 = a by rw [HA.out]; rfl)
  have er := Lib.hid (show ({ ({ j with listed := j.listed ++ [b] } : Jd) with col := a } : Jd).addr2 2 = (j.push b).addr2 2 from rfl)
  obtain ⟨a2, ha2⟩ : ∃ a2, a2 = (j.push b).addr2 2 := ⟨_, rfl⟩
  rw [ei.out] at HI7
  rw [er.out, ← ha2] at HR7
  have HA2 := Lib.hid ha2
  rw [← HA.out, ← HA2.out] at HE
  clear HJ ha2 ea ei er HA HA2
  cases hq : decide (a < g.raw.toNat) with
  | false =>
   rw [hq] at HI7 HE
   clear hq
   go_wp2_with fail
   refine HI7.out.mono ?_
   rintro _ w8 ⟨rfl, h8⟩
   have H8 := Lib.hid (H7.out.below h8)
   have B8 := Lib.hid (B7.out.trans (Btw.of_below h8) fun _ _ h => h)
   clear h8 HI7
   go_wp2
   go_ret
   rw [HE.out]
   exact ⟨rfl, H8.out, B8.out⟩
  | true =>
   rw [hq] at HI7 HE
   clear hq
   go_wp2_with fail
   refine HI7.out.mono ?_
   rintro _ w8 ⟨rfl, h8⟩
   have H8 := Lib.hid (H7.out.below h8)
   have B8 := Lib.hid (B7.out.trans (Btw.of_below h8) fun _ _ h => h)
   clear h8 HI7
   go_wp2_with fail
   refine (HR7.out _ H8.out).mono ?_
   rintro _ w9 ⟨rfl, h9⟩
   have H9 := Lib.hid (H8.out.below h9)
   have B9 := Lib.hid (B8.out.trans (Btw.of_below h9) fun _ _ h => h)
   clear h9 HR7
   go_wp2
   go_ret
   rw [HE.out, Bool.true_and]
   exact ⟨rfl, H9.out, B9.out⟩
set_option maxHeartbeats 1000000 in
theorem jaddr_7_0 (b : Nat) (hb : b < 256) (hli : j.lists b = true) (ht : j.op = 7) (hn : j.listed.length = 0) (h : JH I w p g j) : Calls Try.prog 49 #[.pointer (some ⟨p, 0, none⟩), .int .u8 (b : Int)] w (ActsJ I p g (.bool (j.addr g b).1) (j.addr g b).2 w) := by
 have HH := Lib.hid h
 have HLI := jlists b hb (by omega) (by omega) h
 rw [hli] at HLI
 have HLI := Lib.hid HLI
 have HT := Lib.hid ht
 have HNL := Lib.hid hn
 have BB := Lib.hid hb
 have hpl : (j.push b).listed.length = 1 := by show (j.listed ++ [b]).length = 1; rw [List.length_append, hn]; rfl
 have HE := Lib.hid (show j.addr g b = (true, j.push b) by
  unfold Jd.addr
  rw [if_neg (by rw [hli]; decide), ht]
  first
   | rfl
   | (simp only [hpl]; rfl)
   | (show ({ j.push b with data := false } : Jd).addr4 g = _; unfold Jd.addr4; rw [show ({ j.push b with data := false } : Jd).listed.length = 1 from hpl]; rfl)
   | (show (j.push b).addr4 g = _; unfold Jd.addr4; rw [hpl]; rfl)
   | (show (decide ((j.push b).listed.length < 2) || _, j.push b) = _; rw [hpl]; rfl))
 clear h hb hli ht hn hpl
 ·
  skip
  go_enter Try.func49, Try.ntmps49
  go_wp2_with fail
  refine HLI.out.mono ?_
  rintro _ w1 ⟨rfl, h1⟩
  obtain ⟨m, hc, hr⟩ := HH.out.below h1
  have B1 := Lib.hid h1
  have C1 := Lib.hid hc
  have R1 := Lib.hid hr
  have NP := Lib.hid (hr.apart_p hc).2.1
  have y1 : w1.cell? ⟨p, 1, none⟩ = some (.slice m.aL 0 m.cL) := by
   have h0 := hc.cell_at 1 (.slice m.aL j.listed.length m.cL) rfl
   rw [HNL.out] at h0
   exact h0
  have OL := Lib.hid (show w1.ownsRow 0 5 1 (.slice m.aL 0 m.cL) 0 (U8 j.listed) by
   have h0 := hr.lis
   rw [HNL.out] at h0
   exact h0)
  clear h1 hc hr HLI
  go_wp2_with (at_builtin; refine japp8n (w1.alloc (.cells #[.int .u8 (b : Int)] 5)) rfl (.tmp 14) (.tmp 16) rfl 0 _ j.listed 0 HNL.out rfl (OL.out.alloc _) ⟨w1.heap.size, 0, none⟩ 1 1 [b] rfl (jr8_one w1 b BB.out _) (by omega) (Nat.zero_le _) ?_)
  intro v3 w3 hown hg hwh
  obtain ⟨A3, c3, rfl⟩ := jown_form hown
  have hP := Jr.pushL (I := I) (o := .cells #[.int .u8 (b : Int)] 5) (A3 := A3) (c3 := c3) b BB.out C1.out R1.out (by rw [HNL.out]; exact hown) (by rw [HNL.out]; exact hg) (by rw [HNL.out]; simpa using hwh)
  have C3 := Lib.hid hP.1
  have R3 := Lib.hid hP.2.1
  have B3 := Lib.hid ((Btw.of_below (I := I) B1.out).trans hP.2.2 fun _ _ h => h)
  clear hown hg hwh hP y1
  have x1 := C3.out.cell_at 1 (.slice m.aL j.listed.length m.cL) rfl
  have f1 := C3.out.frozen 1
  have S1 := Lib.hid (C3.out.setCell 1 (.slice A3 1 c3))
  have K1 := Lib.hid (((Btw.refl w3)).setCell (I := fun k => k = p) (p := ⟨p, 1, none⟩) (v := .slice A3 1 c3) rfl)
  have z0 : w3.cell? ⟨p, 0, none⟩ = some (.int .i64 7) := by
   have h0 := C3.out.cell_at 0 (.int .i64 (j.op : Int)) rfl
   rw [HT.out] at h0
   exact h0
  have HJ := JH.of (j' := { j with listed := j.listed ++ [b] }) (m' := { m with aL := A3, cL := c3 }) C3.out R3.out (by
   have h0 := S1.out
   have e : (j.listed ++ [b]).length = 1 := by rw [List.length_append, HNL.out]; rfl
   show CRow _ p 52 (jCells g { j with listed := j.listed ++ [b] } { m with aL := A3, cL := c3 })
   unfold jCells at h0 ⊢
   rw [show ({ j with listed := j.listed ++ [b] } : Jd).listed.length = 1 from e]
   exact h0) K1.out fun W h => { h with }
  have H5 := Lib.hid HJ.1
  have B5 := Lib.hid (B3.out.trans HJ.2 fun _ _ h => h)
  clear HJ
  go_wp2
  go_ret
  rw [HE.out]
  exact ⟨rfl, H5.out, B5.out⟩
set_option maxHeartbeats 1000000 in
theorem jaddr_7_1 (b : Nat) (hb : b < 256) (hli : j.lists b = true) (ht : j.op = 7) (hn : j.listed.length = 1) (h : JH I w p g j) : Calls Try.prog 49 #[.pointer (some ⟨p, 0, none⟩), .int .u8 (b : Int)] w (ActsJ I p g (.bool (j.addr g b).1) (j.addr g b).2 w) := by
 have HH := Lib.hid h
 have HLI := jlists b hb (by omega) (by omega) h
 rw [hli] at HLI
 have HLI := Lib.hid HLI
 have HT := Lib.hid ht
 have HNL := Lib.hid hn
 have BB := Lib.hid hb
 have hpl : (j.push b).listed.length = 2 := by show (j.listed ++ [b]).length = 2; rw [List.length_append, hn]; rfl
 have HE := Lib.hid (show j.addr g b = (decide ((j.push b).addr2 0 < g.raw.toNat), j.push b) by
  unfold Jd.addr
  rw [if_neg (by rw [hli]; decide), ht]
  first
   | rfl
   | (simp only [hpl]; rfl)
   | (show ({ j.push b with data := false } : Jd).addr4 g = _; unfold Jd.addr4; rw [show ({ j.push b with data := false } : Jd).listed.length = 2 from hpl]; rfl)
   | (show (j.push b).addr4 g = _; unfold Jd.addr4; rw [hpl]; rfl)
   | (show (decide ((j.push b).listed.length < 2) || _, j.push b) = _; rw [hpl]; rfl))
 clear h hb hli ht hn hpl
 ·
  skip
  go_enter Try.func49, Try.ntmps49
  go_wp2_with fail
  refine HLI.out.mono ?_
  rintro _ w1 ⟨rfl, h1⟩
  obtain ⟨m, hc, hr⟩ := HH.out.below h1
  have B1 := Lib.hid h1
  have C1 := Lib.hid hc
  have R1 := Lib.hid hr
  have NP := Lib.hid (hr.apart_p hc).2.1
  have y1 : w1.cell? ⟨p, 1, none⟩ = some (.slice m.aL 1 m.cL) := by
   have h0 := hc.cell_at 1 (.slice m.aL j.listed.length m.cL) rfl
   rw [HNL.out] at h0
   exact h0
  have OL := Lib.hid (show w1.ownsRow 0 5 1 (.slice m.aL 1 m.cL) 1 (U8 j.listed) by
   have h0 := hr.lis
   rw [HNL.out] at h0
   exact h0)
  clear h1 hc hr HLI
  go_wp2_with (at_builtin; refine japp8n (w1.alloc (.cells #[.int .u8 (b : Int)] 5)) rfl (.tmp 14) (.tmp 16) rfl 0 _ j.listed 1 HNL.out rfl (OL.out.alloc _) ⟨w1.heap.size, 0, none⟩ 1 1 [b] rfl (jr8_one w1 b BB.out _) (by omega) (Nat.zero_le _) ?_)
  intro v3 w3 hown hg hwh
  obtain ⟨A3, c3, rfl⟩ := jown_form hown
  have hP := Jr.pushL (I := I) (o := .cells #[.int .u8 (b : Int)] 5) (A3 := A3) (c3 := c3) b BB.out C1.out R1.out (by rw [HNL.out]; exact hown) (by rw [HNL.out]; exact hg) (by rw [HNL.out]; simpa using hwh)
  have C3 := Lib.hid hP.1
  have R3 := Lib.hid hP.2.1
  have B3 := Lib.hid ((Btw.of_below (I := I) B1.out).trans hP.2.2 fun _ _ h => h)
  clear hown hg hwh hP y1
  have x1 := C3.out.cell_at 1 (.slice m.aL j.listed.length m.cL) rfl
  have f1 := C3.out.frozen 1
  have S1 := Lib.hid (C3.out.setCell 1 (.slice A3 2 c3))
  have K1 := Lib.hid (((Btw.refl w3)).setCell (I := fun k => k = p) (p := ⟨p, 1, none⟩) (v := .slice A3 2 c3) rfl)
  have z0 : w3.cell? ⟨p, 0, none⟩ = some (.int .i64 7) := by
   have h0 := C3.out.cell_at 0 (.int .i64 (j.op : Int)) rfl
   rw [HT.out] at h0
   exact h0
  have HJ := JH.of (j' := { j with listed := j.listed ++ [b] }) (m' := { m with aL := A3, cL := c3 }) C3.out R3.out (by
   have h0 := S1.out
   have e : (j.listed ++ [b]).length = 2 := by rw [List.length_append, HNL.out]; rfl
   show CRow _ p 52 (jCells g { j with listed := j.listed ++ [b] } { m with aL := A3, cL := c3 })
   unfold jCells at h0 ⊢
   rw [show ({ j with listed := j.listed ++ [b] } : Jd).listed.length = 2 from e]
   exact h0) K1.out fun W h => { h with }
  have H5 := Lib.hid HJ.1
  have B5 := Lib.hid (B3.out.trans HJ.2 fun _ _ h => h)
  clear HJ
  have L5 := Lib.hid (show (j.push b).listed.length = 2 by show (j.listed ++ [b]).length = 2; rw [List.length_append, HNL.out]; rfl)
  have HQ := Lib.hid (jisColumn (j := j.push b) (by have := L5.out; omega) H5.out)
  obtain ⟨bb, hbb⟩ : ∃ bb, bb = decide ((j.push b).addr2 0 < g.raw.toNat) := ⟨_, rfl⟩
  rw [← hbb] at HQ HE
  clear hbb
  go_wp2_with fail
  refine HQ.out.mono ?_
  rintro _ w6 ⟨rfl, h6⟩
  have H6 := Lib.hid (H5.out.below h6)
  have B6 := Lib.hid (B5.out.trans (Btw.of_below h6) fun _ _ h => h)
  clear h6 HQ
  go_wp2
  go_ret
  rw [HE.out]
  exact ⟨rfl, H6.out, B6.out⟩
set_option maxHeartbeats 1000000 in
theorem jaddr_9_0 (b : Nat) (hb : b < 256) (hli : j.lists b = true) (ht : j.op = 9) (hn : j.listed.length = 0) (h : JH I w p g j) : Calls Try.prog 49 #[.pointer (some ⟨p, 0, none⟩), .int .u8 (b : Int)] w (ActsJ I p g (.bool (j.addr g b).1) (j.addr g b).2 w) := by
 have HH := Lib.hid h
 have HLI := jlists b hb (by omega) (by omega) h
 rw [hli] at HLI
 have HLI := Lib.hid HLI
 have HT := Lib.hid ht
 have HNL := Lib.hid hn
 have BB := Lib.hid hb
 have hpl : (j.push b).listed.length = 1 := by show (j.listed ++ [b]).length = 1; rw [List.length_append, hn]; rfl
 have HE := Lib.hid (show j.addr g b = (true, j.push b) by
  unfold Jd.addr
  rw [if_neg (by rw [hli]; decide), ht]
  first
   | rfl
   | (simp only [hpl]; rfl)
   | (show ({ j.push b with data := false } : Jd).addr4 g = _; unfold Jd.addr4; rw [show ({ j.push b with data := false } : Jd).listed.length = 1 from hpl]; rfl)
   | (show (j.push b).addr4 g = _; unfold Jd.addr4; rw [hpl]; rfl)
   | (show (decide ((j.push b).listed.length < 2) || _, j.push b) = _; rw [hpl]; rfl))
 clear h hb hli ht hn hpl
 ·
  skip
  go_enter Try.func49, Try.ntmps49
  go_wp2_with fail
  refine HLI.out.mono ?_
  rintro _ w1 ⟨rfl, h1⟩
  obtain ⟨m, hc, hr⟩ := HH.out.below h1
  have B1 := Lib.hid h1
  have C1 := Lib.hid hc
  have R1 := Lib.hid hr
  have NP := Lib.hid (hr.apart_p hc).2.1
  have y1 : w1.cell? ⟨p, 1, none⟩ = some (.slice m.aL 0 m.cL) := by
   have h0 := hc.cell_at 1 (.slice m.aL j.listed.length m.cL) rfl
   rw [HNL.out] at h0
   exact h0
  have OL := Lib.hid (show w1.ownsRow 0 5 1 (.slice m.aL 0 m.cL) 0 (U8 j.listed) by
   have h0 := hr.lis
   rw [HNL.out] at h0
   exact h0)
  clear h1 hc hr HLI
  go_wp2_with (at_builtin; refine japp8n (w1.alloc (.cells #[.int .u8 (b : Int)] 5)) rfl (.tmp 14) (.tmp 16) rfl 0 _ j.listed 0 HNL.out rfl (OL.out.alloc _) ⟨w1.heap.size, 0, none⟩ 1 1 [b] rfl (jr8_one w1 b BB.out _) (by omega) (Nat.zero_le _) ?_)
  intro v3 w3 hown hg hwh
  obtain ⟨A3, c3, rfl⟩ := jown_form hown
  have hP := Jr.pushL (I := I) (o := .cells #[.int .u8 (b : Int)] 5) (A3 := A3) (c3 := c3) b BB.out C1.out R1.out (by rw [HNL.out]; exact hown) (by rw [HNL.out]; exact hg) (by rw [HNL.out]; simpa using hwh)
  have C3 := Lib.hid hP.1
  have R3 := Lib.hid hP.2.1
  have B3 := Lib.hid ((Btw.of_below (I := I) B1.out).trans hP.2.2 fun _ _ h => h)
  clear hown hg hwh hP y1
  have x1 := C3.out.cell_at 1 (.slice m.aL j.listed.length m.cL) rfl
  have f1 := C3.out.frozen 1
  have S1 := Lib.hid (C3.out.setCell 1 (.slice A3 1 c3))
  have K1 := Lib.hid (((Btw.refl w3)).setCell (I := fun k => k = p) (p := ⟨p, 1, none⟩) (v := .slice A3 1 c3) rfl)
  have z0 : w3.cell? ⟨p, 0, none⟩ = some (.int .i64 9) := by
   have h0 := C3.out.cell_at 0 (.int .i64 (j.op : Int)) rfl
   rw [HT.out] at h0
   exact h0
  have HJ := JH.of (j' := { j with listed := j.listed ++ [b] }) (m' := { m with aL := A3, cL := c3 }) C3.out R3.out (by
   have h0 := S1.out
   have e : (j.listed ++ [b]).length = 1 := by rw [List.length_append, HNL.out]; rfl
   show CRow _ p 52 (jCells g { j with listed := j.listed ++ [b] } { m with aL := A3, cL := c3 })
   unfold jCells at h0 ⊢
   rw [show ({ j with listed := j.listed ++ [b] } : Jd).listed.length = 1 from e]
   exact h0) K1.out fun W h => { h with }
  have H5 := Lib.hid HJ.1
  have B5 := Lib.hid (B3.out.trans HJ.2 fun _ _ h => h)
  clear HJ
  go_wp2
  go_ret
  rw [HE.out]
  exact ⟨rfl, H5.out, B5.out⟩
set_option maxHeartbeats 1000000 in
theorem jaddr_9_1 (b : Nat) (hb : b < 256) (hli : j.lists b = true) (ht : j.op = 9) (hn : j.listed.length = 1) (h : JH I w p g j) : Calls Try.prog 49 #[.pointer (some ⟨p, 0, none⟩), .int .u8 (b : Int)] w (ActsJ I p g (.bool (j.addr g b).1) (j.addr g b).2 w) := by
 have HH := Lib.hid h
 have HLI := jlists b hb (by omega) (by omega) h
 rw [hli] at HLI
 have HLI := Lib.hid HLI
 have HT := Lib.hid ht
 have HNL := Lib.hid hn
 have BB := Lib.hid hb
 have hpl : (j.push b).listed.length = 2 := by show (j.listed ++ [b]).length = 2; rw [List.length_append, hn]; rfl
 have HE := Lib.hid (show j.addr g b = (decide ((j.push b).addr2 0 < g.rows_), j.push b) by
  unfold Jd.addr
  rw [if_neg (by rw [hli]; decide), ht]
  first
   | rfl
   | (simp only [hpl]; rfl)
   | (show ({ j.push b with data := false } : Jd).addr4 g = _; unfold Jd.addr4; rw [show ({ j.push b with data := false } : Jd).listed.length = 2 from hpl]; rfl)
   | (show (j.push b).addr4 g = _; unfold Jd.addr4; rw [hpl]; rfl)
   | (show (decide ((j.push b).listed.length < 2) || _, j.push b) = _; rw [hpl]; rfl))
 clear h hb hli ht hn hpl
 ·
  skip
  go_enter Try.func49, Try.ntmps49
  go_wp2_with fail
  refine HLI.out.mono ?_
  rintro _ w1 ⟨rfl, h1⟩
  obtain ⟨m, hc, hr⟩ := HH.out.below h1
  have B1 := Lib.hid h1
  have C1 := Lib.hid hc
  have R1 := Lib.hid hr
  have NP := Lib.hid (hr.apart_p hc).2.1
  have y1 : w1.cell? ⟨p, 1, none⟩ = some (.slice m.aL 1 m.cL) := by
   have h0 := hc.cell_at 1 (.slice m.aL j.listed.length m.cL) rfl
   rw [HNL.out] at h0
   exact h0
  have OL := Lib.hid (show w1.ownsRow 0 5 1 (.slice m.aL 1 m.cL) 1 (U8 j.listed) by
   have h0 := hr.lis
   rw [HNL.out] at h0
   exact h0)
  clear h1 hc hr HLI
  go_wp2_with (at_builtin; refine japp8n (w1.alloc (.cells #[.int .u8 (b : Int)] 5)) rfl (.tmp 14) (.tmp 16) rfl 0 _ j.listed 1 HNL.out rfl (OL.out.alloc _) ⟨w1.heap.size, 0, none⟩ 1 1 [b] rfl (jr8_one w1 b BB.out _) (by omega) (Nat.zero_le _) ?_)
  intro v3 w3 hown hg hwh
  obtain ⟨A3, c3, rfl⟩ := jown_form hown
  have hP := Jr.pushL (I := I) (o := .cells #[.int .u8 (b : Int)] 5) (A3 := A3) (c3 := c3) b BB.out C1.out R1.out (by rw [HNL.out]; exact hown) (by rw [HNL.out]; exact hg) (by rw [HNL.out]; simpa using hwh)
  have C3 := Lib.hid hP.1
  have R3 := Lib.hid hP.2.1
  have B3 := Lib.hid ((Btw.of_below (I := I) B1.out).trans hP.2.2 fun _ _ h => h)
  clear hown hg hwh hP y1
  have x1 := C3.out.cell_at 1 (.slice m.aL j.listed.length m.cL) rfl
  have f1 := C3.out.frozen 1
  have S1 := Lib.hid (C3.out.setCell 1 (.slice A3 2 c3))
  have K1 := Lib.hid (((Btw.refl w3)).setCell (I := fun k => k = p) (p := ⟨p, 1, none⟩) (v := .slice A3 2 c3) rfl)
  have z0 : w3.cell? ⟨p, 0, none⟩ = some (.int .i64 9) := by
   have h0 := C3.out.cell_at 0 (.int .i64 (j.op : Int)) rfl
   rw [HT.out] at h0
   exact h0
  have HJ := JH.of (j' := { j with listed := j.listed ++ [b] }) (m' := { m with aL := A3, cL := c3 }) C3.out R3.out (by
   have h0 := S1.out
   have e : (j.listed ++ [b]).length = 2 := by rw [List.length_append, HNL.out]; rfl
   show CRow _ p 52 (jCells g { j with listed := j.listed ++ [b] } { m with aL := A3, cL := c3 })
   unfold jCells at h0 ⊢
   rw [show ({ j with listed := j.listed ++ [b] } : Jd).listed.length = 2 from e]
   exact h0) K1.out fun W h => { h with }
  have H5 := Lib.hid HJ.1
  have B5 := Lib.hid (B3.out.trans HJ.2 fun _ _ h => h)
  clear HJ
  have L5 := Lib.hid (show (j.push b).listed.length = 2 by show (j.listed ++ [b]).length = 2; rw [List.length_append, HNL.out]; rfl)
  have HQ := Lib.hid (jisRow (j := j.push b) 0 (by have := L5.out; omega) (by omega) H5.out)
  obtain ⟨bb, hbb⟩ : ∃ bb, bb = decide ((j.push b).addr2 0 < g.rows_) := ⟨_, rfl⟩
  rw [← hbb] at HQ HE
  clear hbb
  go_wp2_with fail
  refine HQ.out.mono ?_
  rintro _ w6 ⟨rfl, h6⟩
  have H6 := Lib.hid (H5.out.below h6)
  have B6 := Lib.hid (B5.out.trans (Btw.of_below h6) fun _ _ h => h)
  clear h6 HQ
  go_wp2
  go_ret
  rw [HE.out]
  exact ⟨rfl, H6.out, B6.out⟩
theorem jaddress (b : Nat) (hb : b < 256) (hst : j.op ≤ 9) (hl : j.listed.length ≤ 100) (h : JH I w p g j) : Calls Try.prog 49 #[.pointer (some ⟨p, 0, none⟩), .int .u8 (b : Int)] w (ActsJ I p g (.bool (j.addr g b).1) (j.addr g b).2 w) := by
 cases hli : j.lists b with
 | false =>
  have HLI := jlists b hb hst hl h
  rw [hli] at HLI
  have HLI := Lib.hid HLI
  have HH := Lib.hid h
  have HE := Lib.hid (show j.addr g b = (false, j) by unfold Jd.addr; rw [if_pos hli])
  clear h hli hl hst hb
  go_enter Try.func49, Try.ntmps49
  go_wp2_with fail
  refine HLI.out.mono ?_
  rintro _ w1 ⟨rfl, h1⟩
  have B1 := Lib.hid h1
  clear h1
  go_wp2
  go_ret
  rw [HE.out]
  exact ⟨rfl, HH.out.below B1.out, Btw.of_below B1.out⟩
 | true =>
  rcases lists_what hli with ⟨h1 | h1 | h1, hn⟩ | ⟨h1 | h1, hn⟩ | ⟨h1 | h1, hn⟩
  ·
   exact jaddr_2_0 b hb hli h1 hn h
  ·
   exact jaddr_3_0 b hb hli h1 hn h
  ·
   exact jaddr_4_0 b hb hli h1 hn h
  ·
   have hd : j.listed.length = 0 ∨ j.listed.length = 1 ∨ j.listed.length = 2 ∨ j.listed.length = 3 := by omega
   rcases hd with hd | hd | hd | hd
   ·
    exact jaddr_5_0 b hb hli h1 hd h
   ·
    exact jaddr_5_1 b hb hli h1 hd h
   ·
    exact jaddr_5_2 b hb hli h1 hd h
   ·
    exact jaddr_5_3 b hb hli h1 hd h
  ·
   have hd : j.listed.length = 0 ∨ j.listed.length = 1 ∨ j.listed.length = 2 ∨ j.listed.length = 3 := by omega
   rcases hd with hd | hd | hd | hd
   ·
    exact jaddr_8_0 b hb hli h1 hd h
   ·
    exact jaddr_8_1 b hb hli h1 hd h
   ·
    exact jaddr_8_2 b hb hli h1 hd h
   ·
    exact jaddr_8_3 b hb hli h1 hd h
  ·
   have hd : j.listed.length = 0 ∨ j.listed.length = 1 := by omega
   rcases hd with hd | hd
   ·
    exact jaddr_7_0 b hb hli h1 hd h
   ·
    exact jaddr_7_1 b hb hli h1 hd h
  ·
   have hd : j.listed.length = 0 ∨ j.listed.length = 1 := by omega
   rcases hd with hd | hd
   ·
    exact jaddr_9_0 b hb hli h1 hd h
   ·
    exact jaddr_9_1 b hb hli h1 hd h
end
end Go.Proofs.Ytaidgjidpghgnaa

/-
  The judge's command, continues, accepts.
-/
namespace Go.Proofs.Ytaidgjidpghgnaa
open Go.RowKit
set_option maxRecDepth 100000

section
variable {I K : Nat → Prop} {w w' : World} {p : Nat} {g : Gm} {j : Jd} {m : Jm}
/-- What a judge keeps to, behind q cycles. -/
structure Jf (g : Gm) (q : Nat) (j : Jd) : Prop where
 op : j.op ≤ 9
 ls : j.listed.length ≤ 4
 ct : j.count ≤ q
 cl : j.col ≤ 65536 + q
 pr : ∀ r, j.pr r ≤ q
 rn : j.rows.length ≤ q
 bn : j.blocks.length ≤ q
 en : j.erases.length ≤ q
 bb : ∀ x ∈ j.blocks, x < g.b.toNat
 eb : ∀ x ∈ j.erases, x < g.b.toNat
/-- A Command. -/
def Jd.command (g : Gm) (j : Jd) (b : Nat) : Bool × Jd :=
 if j.op = 8 then j.endLoad g b else if j.op = 9 then j.endErase g b else if j.op = 7 then j.endMove b
 else if j.op = 2 then (if 0 < j.listed.length then j.begin b else (false, j))
 else if j.op = 5 then (if 0 < j.listed.length then j.endFetch b else if j.data = false then (false, j) else j.begin b)
 else if j.op = 1 ∨ j.op = 6 then j.begin b
 else (false, j)
set_option maxHeartbeats 1000000 in
theorem jcommand {q : Nat} (b : Nat) (hb : b < 256) (hq : q ≤ 100000) (hf : Jf g q j) (h : JH I w p g j) : Calls Try.prog 48 #[.pointer (some ⟨p, 0, none⟩), .int .u8 (b : Int)] w (ActsJ I p g (.bool (j.command g b).1) (j.command g b).2 w) := by
 have HH := Lib.hid h
 have HB := Lib.hid hb
 have hn1 := hf.rn
 have hn2 := hf.bn
 have hn3 := hf.ct
 have hn4 := hf.ls
 have HLO := Lib.hid (jendLoad b hb hn4 (by omega) (fun r => by have := hf.pr r; omega) (by omega) h)
 have HER := Lib.hid (jendErase b hb hn4 hf.bb (by omega) h)
 have HMO := Lib.hid (jendMove b hb (by omega) h)
 have HFE := Lib.hid (jendFetch b hb (by omega) h)
 have HBE := Lib.hid (jbegin b hb (by omega) (by omega) h)
 obtain ⟨m, hc, hr⟩ := h
 obtain ⟨n, hn⟩ : ∃ n, n = j.listed.length := ⟨_, rfl⟩
 obtain ⟨t, ht⟩ : ∃ t, t = j.op := ⟨_, rfl⟩
 obtain ⟨dt, hd⟩ : ∃ dt, dt = j.data := ⟨_, rfl⟩
 have x0 : w.cell? ⟨p, 0, none⟩ = some (.int .i64 (t : Int)) := by rw [ht]; exact hc.cell_at 0 _ rfl
 have x1 : w.cell? ⟨p, 1, none⟩ = some (.slice m.aL n m.cL) := by rw [hn]; exact hc.cell_at 1 _ rfl
 have x7 : w.cell? ⟨p, 7, none⟩ = some (.bool dt) := by rw [hd]; exact hc.cell_at 7 _ rfl
 have HE0 : j.command g b = (if t = 8 then j.endLoad g b else if t = 9 then j.endErase g b else if t = 7 then j.endMove b
  else if t = 2 then (if 0 < n then j.begin b else (false, j)) else if t = 5 then (if 0 < n then j.endFetch b else if dt = false then (false, j) else j.begin b)
  else if t = 1 ∨ t = 6 then j.begin b else (false, j)) := by rw [hn, ht, hd]; rfl
 have hop := hf.op
 rw [← ht] at hop
 rw [← hn] at hn4
 have ht2 : t = 0 ∨ t = 1 ∨ t = 2 ∨ t = 3 ∨ t = 4 ∨ t = 5 ∨ t = 6 ∨ t = 7 ∨ t = 8 ∨ t = 9 := by omega
 clear hc hr hn ht hd hop hn1 hn2 hn3 hf hb
 rcases ht2 with rfl | rfl | rfl | rfl | rfl | rfl | rfl | rfl | rfl | rfl
 ·
  skip
  have HE := Lib.hid (show j.command g b = (false, j) from HE0)
  clear HE0
  go_enter Try.func48, Try.ntmps48
  go_wp2
  go_ret
  rw [HE.out]
  exact ⟨rfl, HH.out, Btw.refl w⟩
 ·
  skip
  have HE := Lib.hid (show j.command g b = j.begin b from HE0)
  clear HE0
  go_enter Try.func48, Try.ntmps48
  go_wp2_with fail
  refine (HBE.out).mono ?_
  rintro e w1 ⟨he, h1, b1⟩
  obtain ⟨v, hv⟩ : ∃ v, v = (j.command g b).1 := ⟨_, rfl⟩
  rw [← HE.out, ← hv] at he
  rw [← HE.out] at h1
  have HV := Lib.hid hv
  subst he
  have H1 := Lib.hid h1
  have B1 := Lib.hid b1
  clear hv h1 b1
  go_wp2
  go_ret
  rw [← HV.out]
  exact ⟨rfl, H1.out, B1.out⟩
 ·
  skip
  by_cases h0 : 0 < n
  ·
   have d1 : decide ((0 : Int) < (n : Int)) = true := decide_eq_true (by omega)
   have d2 : decide (0 < n) = true := decide_eq_true h0
   have HE := Lib.hid (show j.command g b = j.begin b from HE0.trans (if_pos h0))
   clear HE0 h0
   go_enter Try.func48, Try.ntmps48
   go_wp2_with fail
   refine (HBE.out).mono ?_
   rintro e w1 ⟨he, h1, b1⟩
   obtain ⟨v, hv⟩ : ∃ v, v = (j.command g b).1 := ⟨_, rfl⟩
   rw [← HE.out, ← hv] at he
   rw [← HE.out] at h1
   have HV := Lib.hid hv
   subst he
   have H1 := Lib.hid h1
   have B1 := Lib.hid b1
   clear hv h1 b1
   go_wp2
   go_ret
   rw [← HV.out]
   exact ⟨rfl, H1.out, B1.out⟩
  ·
   have d1 : decide ((0 : Int) < (n : Int)) = false := decide_eq_false (by omega)
   have d2 : decide (0 < n) = false := decide_eq_false h0
   have HE := Lib.hid (show j.command g b = (false, j) from HE0.trans (if_neg h0))
   clear HE0 h0
   go_enter Try.func48, Try.ntmps48
   go_wp2
   go_ret
   rw [HE.out]
   exact ⟨rfl, HH.out, Btw.refl w⟩
 ·
  skip
  have HE := Lib.hid (show j.command g b = (false, j) from HE0)
  clear HE0
  go_enter Try.func48, Try.ntmps48
  go_wp2
  go_ret
  rw [HE.out]
  exact ⟨rfl, HH.out, Btw.refl w⟩
 ·
  skip
  have HE := Lib.hid (show j.command g b = (false, j) from HE0)
  clear HE0
  go_enter Try.func48, Try.ntmps48
  go_wp2
  go_ret
  rw [HE.out]
  exact ⟨rfl, HH.out, Btw.refl w⟩
 ·
  skip
  by_cases h0 : 0 < n
  ·
   have d1 : decide ((0 : Int) < (n : Int)) = true := decide_eq_true (by omega)
   have d2 : decide (0 < n) = true := decide_eq_true h0
   have HE := Lib.hid (show j.command g b = j.endFetch b from HE0.trans (if_pos h0))
   clear HE0 h0
   go_enter Try.func48, Try.ntmps48
   go_wp2_with fail
   refine (HFE.out).mono ?_
   rintro e w1 ⟨he, h1, b1⟩
   obtain ⟨v, hv⟩ : ∃ v, v = (j.command g b).1 := ⟨_, rfl⟩
   rw [← HE.out, ← hv] at he
   rw [← HE.out] at h1
   have HV := Lib.hid hv
   subst he
   have H1 := Lib.hid h1
   have B1 := Lib.hid b1
   clear hv h1 b1
   go_wp2
   go_ret
   rw [← HV.out]
   exact ⟨rfl, H1.out, B1.out⟩
  ·
   have d1 : decide ((0 : Int) < (n : Int)) = false := decide_eq_false (by omega)
   have d2 : decide (0 < n) = false := decide_eq_false h0
   have HE1 := HE0.trans (if_neg h0)
   clear HE0 h0
   cases dt
   ·
    have HE := Lib.hid (show j.command g b = (false, j) from HE1)
    clear HE1
    go_enter Try.func48, Try.ntmps48
    go_wp2
    go_ret
    rw [HE.out]
    exact ⟨rfl, HH.out, Btw.refl w⟩
   ·
    have HE := Lib.hid (show j.command g b = j.begin b from HE1)
    clear HE1
    go_enter Try.func48, Try.ntmps48
    go_wp2_with fail
    refine (HBE.out).mono ?_
    rintro e w1 ⟨he, h1, b1⟩
    obtain ⟨v, hv⟩ : ∃ v, v = (j.command g b).1 := ⟨_, rfl⟩
    rw [← HE.out, ← hv] at he
    rw [← HE.out] at h1
    have HV := Lib.hid hv
    subst he
    have H1 := Lib.hid h1
    have B1 := Lib.hid b1
    clear hv h1 b1
    go_wp2
    go_ret
    rw [← HV.out]
    exact ⟨rfl, H1.out, B1.out⟩
 ·
  skip
  have HE := Lib.hid (show j.command g b = j.begin b from HE0)
  clear HE0
  go_enter Try.func48, Try.ntmps48
  go_wp2_with fail
  refine (HBE.out).mono ?_
  rintro e w1 ⟨he, h1, b1⟩
  obtain ⟨v, hv⟩ : ∃ v, v = (j.command g b).1 := ⟨_, rfl⟩
  rw [← HE.out, ← hv] at he
  rw [← HE.out] at h1
  have HV := Lib.hid hv
  subst he
  have H1 := Lib.hid h1
  have B1 := Lib.hid b1
  clear hv h1 b1
  go_wp2
  go_ret
  rw [← HV.out]
  exact ⟨rfl, H1.out, B1.out⟩
 ·
  skip
  have HE := Lib.hid (show j.command g b = j.endMove b from HE0)
  clear HE0
  go_enter Try.func48, Try.ntmps48
  go_wp2_with fail
  refine (HMO.out).mono ?_
  rintro e w1 ⟨he, h1, b1⟩
  obtain ⟨v, hv⟩ : ∃ v, v = (j.command g b).1 := ⟨_, rfl⟩
  rw [← HE.out, ← hv] at he
  rw [← HE.out] at h1
  have HV := Lib.hid hv
  subst he
  have H1 := Lib.hid h1
  have B1 := Lib.hid b1
  clear hv h1 b1
  go_wp2
  go_ret
  rw [← HV.out]
  exact ⟨rfl, H1.out, B1.out⟩
 ·
  skip
  have HE := Lib.hid (show j.command g b = j.endLoad g b from HE0)
  clear HE0
  go_enter Try.func48, Try.ntmps48
  go_wp2_with fail
  refine (HLO.out).mono ?_
  rintro e w1 ⟨he, h1, b1⟩
  obtain ⟨v, hv⟩ : ∃ v, v = (j.command g b).1 := ⟨_, rfl⟩
  rw [← HE.out, ← hv] at he
  rw [← HE.out] at h1
  have HV := Lib.hid hv
  subst he
  have H1 := Lib.hid h1
  have B1 := Lib.hid b1
  clear hv h1 b1
  go_wp2
  go_ret
  rw [← HV.out]
  exact ⟨rfl, H1.out, B1.out⟩
 ·
  skip
  have HE := Lib.hid (show j.command g b = j.endErase g b from HE0)
  clear HE0
  go_enter Try.func48, Try.ntmps48
  go_wp2_with fail
  refine (HER.out).mono ?_
  rintro e w1 ⟨he, h1, b1⟩
  obtain ⟨v, hv⟩ : ∃ v, v = (j.command g b).1 := ⟨_, rfl⟩
  rw [← HE.out, ← hv] at he
  rw [← HE.out] at h1
  have HV := Lib.hid hv
  subst he
  have H1 := Lib.hid h1
  have B1 := Lib.hid b1
  clear hv h1 b1
  go_wp2
  go_ret
  rw [← HV.out]
  exact ⟨rfl, H1.out, B1.out⟩
/-- A cycle that depends on what is open. -/
def Jd.cont (g : Gm) (j : Jd) (k : Int) (b : Nat) : Bool × Jd := if k = 1 then j.command g b else if k = 2 then j.addr g b else if k = 3 then j.write g else if k = 4 then j.read g else (false, j)
set_option maxHeartbeats 1000000 in
theorem jcont {q : Nat} (k : Int) (b : Nat) (hb : b < 256) (hq : q ≤ 100000) (hf : Jf g q j) (h : JH I w p g j) : Calls Try.prog 41 #[.pointer (some ⟨p, 0, none⟩), .agg #[.int .i64 k, .int .u8 (b : Int)]] w (ActsJ I p g (.bool (j.cont g k b).1) (j.cont g k b).2 w) := by
 have B0 := Lib.hid (below_new w (.cells #[.int .i64 k, .int .u8 (b : Int)] 36))
 have Z0 := Lib.hid (CRow.new w #[.int .i64 k, .int .u8 (b : Int)] 36)
 have H0 := Lib.hid (h.below B0.out)
 have hn3 := hf.ct
 have hn4 := hf.ls
 have hn5 := hf.cl
 have HCO := Lib.hid (jcommand b hb hq hf H0.out)
 have HAD := Lib.hid (jaddress b hb hf.op (by omega) H0.out)
 have HWR := Lib.hid (jwrite hf.op (by omega) (by omega) (by omega) H0.out)
 have HRD := Lib.hid (jread hf.op (by omega) (by omega) (by omega) H0.out)
 clear h hn3 hn4 hn5
 by_cases hk : k = 1
 ·
  skip
  have HE := Lib.hid (show j.cont g k b = j.command g b by unfold Jd.cont; simp [hk])
  subst hk
  clear hb hf
  have x0 := Z0.out.cell_at 0 _ rfl
  have x1 := Z0.out.cell_at 1 _ rfl
  go_enter Try.func41, Try.ntmps41
  go_wp2_with fail
  refine (HCO.out).mono ?_
  rintro e w1 ⟨he, h1, b1⟩
  obtain ⟨v, hv⟩ : ∃ v, v = (j.command g b).1 := ⟨_, rfl⟩
  obtain ⟨j2, hj⟩ : ∃ j2, j2 = (j.command g b).2 := ⟨_, rfl⟩
  rw [← hv] at he
  rw [← hj] at h1
  have HV := Lib.hid (show (v, j2) = j.command g b by rw [hv, hj])
  subst he
  have H1 := Lib.hid h1
  have B1 := Lib.hid ((Btw.of_below (I := I) B0.out).trans b1 fun _ _ h => h)
  clear hv hj h1 b1 x0 x1
  go_wp2
  go_ret
  rw [HE.out, ← HV.out]
  exact ⟨rfl, H1.out, B1.out⟩
 by_cases hk2 : k = 2
 ·
  have hk := hk2
  have HE := Lib.hid (show j.cont g k b = j.addr g b by unfold Jd.cont; simp [hk])
  subst hk
  clear hb hf
  have x0 := Z0.out.cell_at 0 _ rfl
  have x1 := Z0.out.cell_at 1 _ rfl
  go_enter Try.func41, Try.ntmps41
  go_wp2_with fail
  refine (HAD.out).mono ?_
  rintro e w1 ⟨he, h1, b1⟩
  obtain ⟨v, hv⟩ : ∃ v, v = (j.addr g b).1 := ⟨_, rfl⟩
  obtain ⟨j2, hj⟩ : ∃ j2, j2 = (j.addr g b).2 := ⟨_, rfl⟩
  rw [← hv] at he
  rw [← hj] at h1
  have HV := Lib.hid (show (v, j2) = j.addr g b by rw [hv, hj])
  subst he
  have H1 := Lib.hid h1
  have B1 := Lib.hid ((Btw.of_below (I := I) B0.out).trans b1 fun _ _ h => h)
  clear hv hj h1 b1 x0 x1
  go_wp2
  go_ret
  rw [HE.out, ← HV.out]
  exact ⟨rfl, H1.out, B1.out⟩
 by_cases hk3 : k = 3
 ·
  have hk := hk3
  have HE := Lib.hid (show j.cont g k b = j.write g by unfold Jd.cont; simp [hk])
  subst hk
  clear hb hf
  have x0 := Z0.out.cell_at 0 _ rfl
  have x1 := Z0.out.cell_at 1 _ rfl
  go_enter Try.func41, Try.ntmps41
  go_wp2_with fail
  refine (HWR.out).mono ?_
  rintro e w1 ⟨he, h1, b1⟩
  obtain ⟨v, hv⟩ : ∃ v, v = (j.write g).1 := ⟨_, rfl⟩
  obtain ⟨j2, hj⟩ : ∃ j2, j2 = (j.write g).2 := ⟨_, rfl⟩
  rw [← hv] at he
  rw [← hj] at h1
  have HV := Lib.hid (show (v, j2) = j.write g by rw [hv, hj])
  subst he
  have H1 := Lib.hid h1
  have B1 := Lib.hid ((Btw.of_below (I := I) B0.out).trans b1 fun _ _ h => h)
  clear hv hj h1 b1 x0 x1
  go_wp2
  go_ret
  rw [HE.out, ← HV.out]
  exact ⟨rfl, H1.out, B1.out⟩
 by_cases hk4 : k = 4
 ·
  have hk := hk4
  have HE := Lib.hid (show j.cont g k b = j.read g by unfold Jd.cont; simp [hk])
  subst hk
  clear hb hf
  have x0 := Z0.out.cell_at 0 _ rfl
  have x1 := Z0.out.cell_at 1 _ rfl
  go_enter Try.func41, Try.ntmps41
  go_wp2_with fail
  refine (HRD.out).mono ?_
  rintro e w1 ⟨he, h1, b1⟩
  obtain ⟨v, hv⟩ : ∃ v, v = (j.read g).1 := ⟨_, rfl⟩
  obtain ⟨j2, hj⟩ : ∃ j2, j2 = (j.read g).2 := ⟨_, rfl⟩
  rw [← hv] at he
  rw [← hj] at h1
  have HV := Lib.hid (show (v, j2) = j.read g by rw [hv, hj])
  subst he
  have H1 := Lib.hid h1
  have B1 := Lib.hid ((Btw.of_below (I := I) B0.out).trans b1 fun _ _ h => h)
  clear hv hj h1 b1 x0 x1
  go_wp2
  go_ret
  rw [HE.out, ← HV.out]
  exact ⟨rfl, H1.out, B1.out⟩
 have HE := Lib.hid (show j.cont g k b = (false, j) by unfold Jd.cont; rw [if_neg hk, if_neg hk2, if_neg hk3, if_neg hk4])
 have e1 : (k == 1) = false := by rw [beq_eq_false_iff_ne]; exact hk
 have e2 : (k == 2) = false := by rw [beq_eq_false_iff_ne]; exact hk2
 have e3 : (k == 3) = false := by rw [beq_eq_false_iff_ne]; exact hk3
 have e4 : (k == 4) = false := by rw [beq_eq_false_iff_ne]; exact hk4
 have f1 : decide (k = 1) = false := decide_eq_false hk
 have f2 : decide (k = 2) = false := decide_eq_false hk2
 have f3 : decide (k = 3) = false := decide_eq_false hk3
 have f4 : decide (k = 4) = false := decide_eq_false hk4
 have x0 := Z0.out.cell_at 0 _ rfl
 have x1 := Z0.out.cell_at 1 _ rfl
 clear hf hb hk hk2 hk3 hk4
 go_enter Try.func41, Try.ntmps41
 go_wp2
 go_ret
 rw [HE.out]
 exact ⟨rfl, H0.out, Btw.of_below B0.out⟩
/-- A cycle of a judge that has rejected none. -/
def Jd.acc (g : Gm) (j : Jd) (k : Int) (b : Nat) : Bool × Jd :=
 if k = 1 ∧ b = 255 then (true, j.stop.start) else if j.op = 0 then (false, j) else if k = 1 ∧ b = 112 then (true, j.enter 1)
 else if k = 4 ∧ j.pol = true then (true, j.poll b) else if j.busy = true then (false, j) else j.cont g k b
theorem isC (k : Int) (b c : Nat) (v : Bool) (hv : decide (k = 1 ∧ b = c) = v) (C : Int) (hC : C = (c : Int)) (W : World) : Calls Try.prog 26 #[.agg #[.int .i64 k, .int .u8 (b : Int)], .int .u8 C] W (Gives (.bool v) W) := by
 subst hC
 have h := isCommand_any k (b : Int) (c : Int) W
 have e : decide (k = 1 ∧ (b : Int) = (c : Int)) = v := by rw [← hv]; exact decide_eq_decide.2 (by omega)
 rw [e] at h
 exact h
set_option maxHeartbeats 2000000 in
theorem jaccepts {q : Nat} (k : Int) (b : Nat) (hb : b < 256) (hq : q ≤ 100000) (hf : Jf g q j) (h : JH I w p g j) : Calls Try.prog 25 #[.pointer (some ⟨p, 0, none⟩), .agg #[.int .i64 k, .int .u8 (b : Int)]] w (ActsJ I p g (.bool (j.acc g k b).1) (j.acc g k b).2 w) := by
 have B0 := Lib.hid (below_new w (.cells #[.int .i64 k, .int .u8 (b : Int)] 36))
 have Z0 := Lib.hid (CRow.new w #[.int .i64 k, .int .u8 (b : Int)] 36)
 have H0 := Lib.hid (h.below B0.out)
 have hen := hf.en
 have HST := Lib.hid (fun W (hh : JH I W p g j) => jstop hf.eb (by omega) hh)
 have HPO := Lib.hid (fun W (hh : JH I W p g j) => jpoll b hb hf.eb (by omega) hh)
 have HCO := Lib.hid (fun W (hh : JH I W p g j) => jcont k b hb hq hf hh)
 have z0 := Z0.out.cell_at 0 _ rfl
 have z1 := Z0.out.cell_at 1 _ rfl
 have hop := Lib.hid hf.op
 clear h hf hb hen
 by_cases h1 : k = 1 ∧ b = 255
 ·
  have HC255 := Lib.hid (fun W => isC k b 255 true (decide_eq_true h1) 255 rfl W)
  have HE := Lib.hid (show j.acc g k b = (true, j.stop.start) by unfold Jd.acc; rw [if_pos h1])
  clear h1
  go_enter Try.func25, Try.ntmps25
  go_wp2_with fail
  clear z0 z1
  refine (HC255.out _).mono ?_
  rintro _ w1 ⟨rfl, h1⟩
  have B1 := Lib.hid (below_step B0.out h1)
  have H1 := Lib.hid (H0.out.below h1)
  have Z1 := Lib.hid (Z0.out.below h1)
  have z0 := Z1.out.cell_at 0 _ rfl
  have z1 := Z1.out.cell_at 1 _ rfl
  clear h1
  clear z0 z1
  go_wp2_with fail
  refine (HST.out _ H1.out).mono ?_
  rintro _ w2 ⟨rfl, h2, b2⟩
  have H2 := Lib.hid h2
  have B2 := Lib.hid ((Btw.of_below (I := I) B1.out).trans b2 fun _ _ h => h)
  clear h2 b2
  go_wp2_with fail
  refine (jstart H2.out).mono ?_
  rintro _ w3 ⟨rfl, h3, b3⟩
  have H3 := Lib.hid h3
  have B3 := Lib.hid (B2.out.trans b3 fun _ _ h => h)
  clear h3 b3
  go_wp2
  go_ret
  rw [HE.out]
  exact ⟨rfl, H3.out, B3.out⟩
 have HC255 := Lib.hid (fun W => isC k b 255 false (decide_eq_false h1) 255 rfl W)
 by_cases h2 : j.op = 0
 ·
  have HE := Lib.hid (show j.acc g k b = (false, j) by unfold Jd.acc; rw [if_neg h1, if_pos h2])
  have HT := Lib.hid h2
  clear h1 h2
  go_enter Try.func25, Try.ntmps25
  go_wp2_with fail
  clear z0 z1
  refine (HC255.out _).mono ?_
  rintro _ w1 ⟨rfl, h1⟩
  have B1 := Lib.hid (below_step B0.out h1)
  have H1 := Lib.hid (H0.out.below h1)
  have Z1 := Lib.hid (Z0.out.below h1)
  have z0 := Z1.out.cell_at 0 _ rfl
  have z1 := Z1.out.cell_at 1 _ rfl
  clear h1
  obtain ⟨m, hc, hr⟩ := H1.out
  have C1 := Lib.hid hc
  clear hc hr
  have x0 : w1.cell? ⟨p, 0, none⟩ = some (.int .i64 0) := by
   have h0 := C1.out.cell_at 0 (.int .i64 (j.op : Int)) rfl
   rw [HT.out] at h0
   exact h0
  go_wp2
  go_ret
  rw [HE.out]
  exact ⟨rfl, H1.out, Btw.of_below B1.out⟩
 obtain ⟨t, ht⟩ : ∃ t, t = j.op := ⟨_, rfl⟩
 have HT := Lib.hid ht
 have HT9 := Lib.hid (show t ≤ 9 by rw [ht]; exact hop.out)
 have ht0 : t ≠ 0 := by rw [ht]; exact h2
 have b0 : ((t : Int) == 0) = false := by simp; omega
 have j0 : ((t : Int) = 0) = False := eq_false (by omega)
 have d0 : decide ((t : Int) = 0) = false := decide_eq_false (by omega)
 have t00 : decide (t = 0) = false := decide_eq_false ht0
 have h2x := h2
 clear ht ht0
 by_cases h3 : k = 1 ∧ b = 112
 ·
  have HC112 := Lib.hid (fun W => isC k b 112 true (decide_eq_true h3) 112 rfl W)
  have HE := Lib.hid (show j.acc g k b = (true, j.enter 1) by unfold Jd.acc; rw [if_neg h1, if_neg h2, if_pos h3])
  clear h1 h2 h3 h2x
  go_enter Try.func25, Try.ntmps25
  go_wp2_with fail
  clear z0 z1
  refine (HC255.out _).mono ?_
  rintro _ w1 ⟨rfl, h1⟩
  have B1 := Lib.hid (below_step B0.out h1)
  have H1 := Lib.hid (H0.out.below h1)
  have Z1 := Lib.hid (Z0.out.below h1)
  have z0 := Z1.out.cell_at 0 _ rfl
  have z1 := Z1.out.cell_at 1 _ rfl
  clear h1
  obtain ⟨m, hc, hr⟩ := H1.out
  have C1 := Lib.hid hc
  clear hc hr
  have x0 : w1.cell? ⟨p, 0, none⟩ = some (.int .i64 (t : Int)) := by rw [HT.out]; exact C1.out.cell_at 0 _ rfl
  go_wp2_with fail
  clear z0 z1
  refine (HC112.out _).mono ?_
  rintro _ w2 ⟨rfl, h1⟩
  have B2 := Lib.hid (below_step B1.out h1)
  have H2 := Lib.hid (H1.out.below h1)
  have Z2 := Lib.hid (Z1.out.below h1)
  have z0 := Z2.out.cell_at 0 _ rfl
  have z1 := Z2.out.cell_at 1 _ rfl
  clear h1
  clear z0 z1 x0
  go_wp2_with fail
  refine (jenter 1 H2.out).mono ?_
  rintro _ w3 ⟨rfl, h3, b3⟩
  have H3 := Lib.hid h3
  have B3 := Lib.hid ((Btw.of_below (I := I) B2.out).trans b3 fun _ _ h => h)
  clear h3 b3
  go_wp2
  go_ret
  rw [HE.out]
  exact ⟨rfl, H3.out, B3.out⟩
 have HC112 := Lib.hid (fun W => isC k b 112 false (decide_eq_false h3) 112 rfl W)
 by_cases h4 : k = 4 ∧ j.pol = true
 ·
  have HE := Lib.hid (show j.acc g k b = (true, j.poll b) by unfold Jd.acc; rw [if_neg h1, if_neg h2, if_neg h3, if_pos h4])
  have HP := Lib.hid h4.2
  obtain rfl := h4.1
  clear h1 h2 h3 h2x h4
  go_enter Try.func25, Try.ntmps25
  go_wp2_with fail
  clear z0 z1
  refine (HC255.out _).mono ?_
  rintro _ w1 ⟨rfl, h1⟩
  have B1 := Lib.hid (below_step B0.out h1)
  have H1 := Lib.hid (H0.out.below h1)
  have Z1 := Lib.hid (Z0.out.below h1)
  have z0 := Z1.out.cell_at 0 _ rfl
  have z1 := Z1.out.cell_at 1 _ rfl
  clear h1
  obtain ⟨m, hc, hr⟩ := H1.out
  have C1 := Lib.hid hc
  clear hc hr
  have x0 : w1.cell? ⟨p, 0, none⟩ = some (.int .i64 (t : Int)) := by rw [HT.out]; exact C1.out.cell_at 0 _ rfl
  go_wp2_with fail
  clear z0 z1
  refine (HC112.out _).mono ?_
  rintro _ w2 ⟨rfl, h1⟩
  have B2 := Lib.hid (below_step B1.out h1)
  have H2 := Lib.hid (H1.out.below h1)
  have Z2 := Lib.hid (Z1.out.below h1)
  have z0 := Z2.out.cell_at 0 _ rfl
  have z1 := Z2.out.cell_at 1 _ rfl
  clear h1
  have x4 : w2.cell? ⟨p, 4, none⟩ = some (.bool true) := by
   obtain ⟨m2, hc2, _⟩ := H2.out
   have h0 := hc2.cell_at 4 (.bool j.pol) rfl
   rw [HP.out] at h0
   exact h0
  clear x0
  go_wp2_with fail
  clear z0 z1 x4
  refine (HPO.out _ H2.out).mono ?_
  rintro _ w3 ⟨rfl, h3, b3⟩
  have H3 := Lib.hid h3
  have B3 := Lib.hid ((Btw.of_below (I := I) B2.out).trans b3 fun _ _ h => h)
  clear h3 b3
  go_wp2
  go_ret
  rw [HE.out]
  exact ⟨rfl, H3.out, B3.out⟩
 obtain ⟨pl, hpl⟩ : ∃ pl, pl = j.pol := ⟨_, rfl⟩
 have HPL := Lib.hid hpl
 rw [← hpl] at h4
 have h4x : ¬ (k = 4 ∧ j.pol = true) := by rw [← hpl]; exact h4
 clear hpl
 by_cases hk4 : k = 4
 ·
  have hpf : pl = false := by
   cases pl with
   | false => rfl
   | true => exact absurd ⟨hk4, rfl⟩ h4
  subst hk4
  subst hpf
  cases hbu : j.busy with
  | true =>
   have HE := Lib.hid (show j.acc g 4 b = (false, j) by unfold Jd.acc; rw [if_neg h1, if_neg h2, if_neg h3, if_neg h4x, if_pos hbu])
   have HBU := Lib.hid hbu
   clear h1 h2 h3 h2x h4 h4x hbu
   go_enter Try.func25, Try.ntmps25
   go_wp2_with fail
   clear z0 z1
   refine (HC255.out _).mono ?_
   rintro _ w1 ⟨rfl, h1⟩
   have B1 := Lib.hid (below_step B0.out h1)
   have H1 := Lib.hid (H0.out.below h1)
   have Z1 := Lib.hid (Z0.out.below h1)
   have z0 := Z1.out.cell_at 0 _ rfl
   have z1 := Z1.out.cell_at 1 _ rfl
   clear h1
   obtain ⟨m, hc, hr⟩ := H1.out
   have C1 := Lib.hid hc
   clear hc hr
   have x0 : w1.cell? ⟨p, 0, none⟩ = some (.int .i64 (t : Int)) := by rw [HT.out]; exact C1.out.cell_at 0 _ rfl
   go_wp2_with fail
   clear z0 z1
   refine (HC112.out _).mono ?_
   rintro _ w2 ⟨rfl, h1⟩
   have B2 := Lib.hid (below_step B1.out h1)
   have H2 := Lib.hid (H1.out.below h1)
   have Z2 := Lib.hid (Z1.out.below h1)
   have z0 := Z2.out.cell_at 0 _ rfl
   have z1 := Z2.out.cell_at 1 _ rfl
   clear h1
   have x4 : w2.cell? ⟨p, 4, none⟩ = some (.bool false) := by
    obtain ⟨m2, hc2, _⟩ := H2.out
    have h0 := hc2.cell_at 4 (.bool j.pol) rfl
    rw [← HPL.out] at h0
    exact h0
   have x3 : w2.cell? ⟨p, 3, none⟩ = some (.bool true) := by
    obtain ⟨m2, hc2, _⟩ := H2.out
    have h0 := hc2.cell_at 3 (.bool j.busy) rfl
    rw [HBU.out] at h0
    exact h0
   clear x0
   go_wp2
   go_ret
   rw [HE.out]
   exact ⟨rfl, H2.out, Btw.of_below B2.out⟩
  | false =>
   have HE := Lib.hid (show j.acc g 4 b = j.cont g 4 b by unfold Jd.acc; rw [if_neg h1, if_neg h2, if_neg h3, if_neg h4x, if_neg (by rw [hbu]; decide)])
   have HBU := Lib.hid hbu
   clear h1 h2 h3 h2x h4 h4x hbu
   go_enter Try.func25, Try.ntmps25
   go_wp2_with fail
   clear z0 z1
   refine (HC255.out _).mono ?_
   rintro _ w1 ⟨rfl, h1⟩
   have B1 := Lib.hid (below_step B0.out h1)
   have H1 := Lib.hid (H0.out.below h1)
   have Z1 := Lib.hid (Z0.out.below h1)
   have z0 := Z1.out.cell_at 0 _ rfl
   have z1 := Z1.out.cell_at 1 _ rfl
   clear h1
   obtain ⟨m, hc, hr⟩ := H1.out
   have C1 := Lib.hid hc
   clear hc hr
   have x0 : w1.cell? ⟨p, 0, none⟩ = some (.int .i64 (t : Int)) := by rw [HT.out]; exact C1.out.cell_at 0 _ rfl
   go_wp2_with fail
   clear z0 z1
   refine (HC112.out _).mono ?_
   rintro _ w2 ⟨rfl, h1⟩
   have B2 := Lib.hid (below_step B1.out h1)
   have H2 := Lib.hid (H1.out.below h1)
   have Z2 := Lib.hid (Z1.out.below h1)
   have z0 := Z2.out.cell_at 0 _ rfl
   have z1 := Z2.out.cell_at 1 _ rfl
   clear h1
   have x4 : w2.cell? ⟨p, 4, none⟩ = some (.bool false) := by
    obtain ⟨m2, hc2, _⟩ := H2.out
    have h0 := hc2.cell_at 4 (.bool j.pol) rfl
    rw [← HPL.out] at h0
    exact h0
   have x3 : w2.cell? ⟨p, 3, none⟩ = some (.bool false) := by
    obtain ⟨m2, hc2, _⟩ := H2.out
    have h0 := hc2.cell_at 3 (.bool j.busy) rfl
    rw [HBU.out] at h0
    exact h0
   clear x0
   go_wp2_with fail
   clear z0 z1 x4 x3
   refine (HCO.out _ H2.out).mono ?_
   rintro e w3 ⟨he, h3, b3⟩
   obtain ⟨v, hv⟩ : ∃ v, v = (j.cont g 4 b).1 := ⟨_, rfl⟩
   obtain ⟨j2, hj⟩ : ∃ j2, j2 = (j.cont g 4 b).2 := ⟨_, rfl⟩
   rw [← hv] at he
   rw [← hj] at h3
   have HV := Lib.hid (show (v, j2) = j.cont g 4 b by rw [hv, hj])
   subst he
   have H3 := Lib.hid h3
   have B3 := Lib.hid ((Btw.of_below (I := I) B2.out).trans b3 fun _ _ h => h)
   clear hv hj h3 b3
   go_wp2
   go_ret
   rw [HE.out, ← HV.out]
   exact ⟨rfl, H3.out, B3.out⟩
 ·
  have e4 : (k == 4) = false := by rw [beq_eq_false_iff_ne]; exact hk4
  have f4 : decide (k = 4) = false := decide_eq_false hk4
  clear hk4
  cases hbu : j.busy with
  | true =>
   have HE := Lib.hid (show j.acc g k b = (false, j) by unfold Jd.acc; rw [if_neg h1, if_neg h2, if_neg h3, if_neg h4x, if_pos hbu])
   have HBU := Lib.hid hbu
   clear h1 h2 h3 h2x h4 h4x hbu
   go_enter Try.func25, Try.ntmps25
   go_wp2_with fail
   clear z0 z1
   refine (HC255.out _).mono ?_
   rintro _ w1 ⟨rfl, h1⟩
   have B1 := Lib.hid (below_step B0.out h1)
   have H1 := Lib.hid (H0.out.below h1)
   have Z1 := Lib.hid (Z0.out.below h1)
   have z0 := Z1.out.cell_at 0 _ rfl
   have z1 := Z1.out.cell_at 1 _ rfl
   clear h1
   obtain ⟨m, hc, hr⟩ := H1.out
   have C1 := Lib.hid hc
   clear hc hr
   have x0 : w1.cell? ⟨p, 0, none⟩ = some (.int .i64 (t : Int)) := by rw [HT.out]; exact C1.out.cell_at 0 _ rfl
   go_wp2_with fail
   clear z0 z1
   refine (HC112.out _).mono ?_
   rintro _ w2 ⟨rfl, h1⟩
   have B2 := Lib.hid (below_step B1.out h1)
   have H2 := Lib.hid (H1.out.below h1)
   have Z2 := Lib.hid (Z1.out.below h1)
   have z0 := Z2.out.cell_at 0 _ rfl
   have z1 := Z2.out.cell_at 1 _ rfl
   clear h1
   have x4 : w2.cell? ⟨p, 4, none⟩ = some (.bool pl) := by
    obtain ⟨m2, hc2, _⟩ := H2.out
    have h0 := hc2.cell_at 4 (.bool j.pol) rfl
    rw [← HPL.out] at h0
    exact h0
   have x3 : w2.cell? ⟨p, 3, none⟩ = some (.bool true) := by
    obtain ⟨m2, hc2, _⟩ := H2.out
    have h0 := hc2.cell_at 3 (.bool j.busy) rfl
    rw [HBU.out] at h0
    exact h0
   clear x0
   go_wp2
   go_ret
   rw [HE.out]
   exact ⟨rfl, H2.out, Btw.of_below B2.out⟩
  | false =>
   have HE := Lib.hid (show j.acc g k b = j.cont g k b by unfold Jd.acc; rw [if_neg h1, if_neg h2, if_neg h3, if_neg h4x, if_neg (by rw [hbu]; decide)])
   have HBU := Lib.hid hbu
   clear h1 h2 h3 h2x h4 h4x hbu
   go_enter Try.func25, Try.ntmps25
   go_wp2_with fail
   clear z0 z1
   refine (HC255.out _).mono ?_
   rintro _ w1 ⟨rfl, h1⟩
   have B1 := Lib.hid (below_step B0.out h1)
   have H1 := Lib.hid (H0.out.below h1)
   have Z1 := Lib.hid (Z0.out.below h1)
   have z0 := Z1.out.cell_at 0 _ rfl
   have z1 := Z1.out.cell_at 1 _ rfl
   clear h1
   obtain ⟨m, hc, hr⟩ := H1.out
   have C1 := Lib.hid hc
   clear hc hr
   have x0 : w1.cell? ⟨p, 0, none⟩ = some (.int .i64 (t : Int)) := by rw [HT.out]; exact C1.out.cell_at 0 _ rfl
   go_wp2_with fail
   clear z0 z1
   refine (HC112.out _).mono ?_
   rintro _ w2 ⟨rfl, h1⟩
   have B2 := Lib.hid (below_step B1.out h1)
   have H2 := Lib.hid (H1.out.below h1)
   have Z2 := Lib.hid (Z1.out.below h1)
   have z0 := Z2.out.cell_at 0 _ rfl
   have z1 := Z2.out.cell_at 1 _ rfl
   clear h1
   have x4 : w2.cell? ⟨p, 4, none⟩ = some (.bool pl) := by
    obtain ⟨m2, hc2, _⟩ := H2.out
    have h0 := hc2.cell_at 4 (.bool j.pol) rfl
    rw [← HPL.out] at h0
    exact h0
   have x3 : w2.cell? ⟨p, 3, none⟩ = some (.bool false) := by
    obtain ⟨m2, hc2, _⟩ := H2.out
    have h0 := hc2.cell_at 3 (.bool j.busy) rfl
    rw [HBU.out] at h0
    exact h0
   clear x0
   go_wp2_with fail
   clear z0 z1 x4 x3
   refine (HCO.out _ H2.out).mono ?_
   rintro e w3 ⟨he, h3, b3⟩
   obtain ⟨v, hv⟩ : ∃ v, v = (j.cont g k b).1 := ⟨_, rfl⟩
   obtain ⟨j2, hj⟩ : ∃ j2, j2 = (j.cont g k b).2 := ⟨_, rfl⟩
   rw [← hv] at he
   rw [← hj] at h3
   have HV := Lib.hid (show (v, j2) = j.cont g k b by rw [hv, hj])
   subst he
   have H3 := Lib.hid h3
   have B3 := Lib.hid ((Btw.of_below (I := I) B2.out).trans b3 fun _ _ h => h)
   clear hv hj h3 b3
   go_wp2
   go_ret
   rw [HE.out, ← HV.out]
   exact ⟨rfl, H3.out, B3.out⟩
end
end Go.Proofs.Ytaidgjidpghgnaa

/-
  The judge's Step, Power.
-/
namespace Go.Proofs.Ytaidgjidpghgnaa
open Go.RowKit
set_option maxRecDepth 100000

section
variable {I K : Nat → Prop} {w w' : World} {p : Nat} {g : Gm} {j : Jd} {m : Jm}
theorem JH.widen {I' : Nat → Prop} (h : JH I w p g j) (hI : ∀ k, I k → I' k) : JH I' w p g j := by
 obtain ⟨m, hc, hr⟩ := h
 exact ⟨m, hc, { hr with
  ip := hI _ hr.ip
  ir := hI _ hr.ir
  iL := fun k hk => hI _ (hr.iL k hk)
  iR := fun k hk => hI _ (hr.iR k hk)
  iB := fun k hk => hI _ (hr.iB k hk)
  iE := fun k hk => hI _ (hr.iE k hk)
  new := fun k hk => hI _ (hr.new k hk) }⟩
/-- A cycle. -/
def Jd.step (g : Gm) (j : Jd) (k : Int) (b : Nat) : Bool × Jd :=
 if j.rej = true then (false, j)
 else if (j.acc g k b).1 = false then (false, { (j.acc g k b).2 with rej := true })
 else (true, if k = 4 then (j.acc g k b).2 else { (j.acc g k b).2 with pol := decide (k = 1 ∧ b = 112) })
set_option maxHeartbeats 2000000 in
theorem jStep {q : Nat} (k : Int) (b : Nat) (hb : b < 256) (hq : q ≤ 100000) (hf : Jf g q j) (h : JH I w p g j) : Calls Try.prog 13 #[.pointer (some ⟨p, 0, none⟩), .agg #[.int .i64 k, .int .u8 (b : Int)]] w (ActsJ I p g (.bool (j.step g k b).1) (j.step g k b).2 w) := by
 have B0 := Lib.hid (below_new w (.cells #[.int .i64 k, .int .u8 (b : Int)] 36))
 have Z0 := Lib.hid (CRow.new w #[.int .i64 k, .int .u8 (b : Int)] 36)
 have HS0 := Lib.hid (h.shrink B0.out)
 have H0 := Lib.hid (h.below B0.out)
 have HAC := Lib.hid (fun W (hh : JH (fun q => I q ∧ (q < w.heap.size ∨ (w.alloc (.cells #[.int .i64 k, .int .u8 (b : Int)] 36)).heap.size ≤ q)) W p g j) => jaccepts k b hb hq hf hh)
 obtain ⟨m, hc, hr⟩ := HS0.out
 have C0 := Lib.hid hc
 clear h hc hr hf hq hb
 cases hrj : j.rej with
 | true =>
  have HE := Lib.hid (show j.step g k b = (false, j) by unfold Jd.step; rw [if_pos hrj])
  have HRJ := Lib.hid hrj
  clear hrj
  go_enter Try.func13, Try.ntmps13
  go_wp2_with fail
  refine (jmade_row C0.out).mono ?_
  rintro _ w1 ⟨rfl, h1⟩
  have C1 := Lib.hid (C0.out.below h1)
  have H1 := Lib.hid (H0.out.below h1)
  have B1 := Lib.hid (below_step B0.out h1)
  clear h1
  have x20 : w1.cell? ⟨p, 20, none⟩ = some (.bool true) := by
   have h0 := C1.out.cell_at 20 (.bool j.rej) rfl
   rw [HRJ.out] at h0
   exact h0
  go_wp2
  go_ret
  rw [HE.out]
  exact ⟨rfl, H1.out, Btw.of_below B1.out⟩
 | false =>
  have HRJ := Lib.hid hrj
  cases ha : (j.acc g k b).1 with
  | false =>
   have HE := Lib.hid (show j.step g k b = (false, { (j.acc g k b).2 with rej := true }) by unfold Jd.step; rw [if_neg (by rw [hrj]; decide), if_pos ha])
   have HA := Lib.hid ha
   clear hrj ha
   go_enter Try.func13, Try.ntmps13
   go_wp2_with fail
   refine (jmade_row C0.out).mono ?_
   rintro _ w1 ⟨rfl, h1⟩
   have C1 := Lib.hid (C0.out.below h1)
   have H1 := Lib.hid (HS0.out.below h1)
   have Z1 := Lib.hid (Z0.out.below h1)
   have B1 := Lib.hid (below_step B0.out h1)
   clear h1
   have x20 : w1.cell? ⟨p, 20, none⟩ = some (.bool false) := by
    have h0 := C1.out.cell_at 20 (.bool j.rej) rfl
    rw [HRJ.out] at h0
    exact h0
   have z0 := Z1.out.cell_at 0 _ rfl
   have z1 := Z1.out.cell_at 1 _ rfl
   go_wp2_with fail
   clear z0 z1 x20
   refine (HAC.out _ H1.out).mono ?_
   rintro e w2 ⟨he, h2, b2⟩

   obtain ⟨j2, hj⟩ : ∃ j2, j2 = (j.acc g k b).2 := ⟨_, rfl⟩
   rw [HA.out] at he
   rw [← hj] at h2
   have HJ2 := Lib.hid hj
   subst he
   have NZ : ¬ (fun q => I q ∧ (q < w.heap.size ∨ (w.alloc (.cells #[.int .i64 k, .int .u8 (b : Int)] 36)).heap.size ≤ q)) w.heap.size := fun h => by
    have e : (w.alloc (.cells #[.int .i64 k, .int .u8 (b : Int)] 36)).heap.size = w.heap.size + 1 := by simp
    rcases h.2 with h | h
    ·
     exact absurd h (Nat.lt_irrefl _)
    ·
     have h : (w.alloc (.cells #[.int .i64 k, .int .u8 (b : Int)] 36)).heap.size ≤ w.heap.size := h
     omega
   have Z2 := Lib.hid (Z1.out.btw b2 NZ)
   have H2 := Lib.hid h2
   have B2 := Lib.hid ((Btw.of_below (I := I) B1.out).trans b2 fun q _ h => h.1)
   obtain ⟨m2, hc2, hr2⟩ := H2.out
   have C2 := Lib.hid hc2
   have R2 := Lib.hid hr2
   clear hj h2 b2 NZ hc2 hr2
   have x20 := C2.out.cell_at 20 (.bool (j2).rej) rfl
   have f20 := C2.out.frozen 20
   have S1 := Lib.hid (C2.out.setCell 20 (.bool true))
   have K1 := Lib.hid (((Btw.refl w2)).setCell (I := fun k => k = p) (p := ⟨p, 20, none⟩) (v := .bool true) rfl)
   go_wp2
   go_ret
   have HJ := JH.of (j' := { j2 with rej := true }) (m' := m2) C2.out R2.out S1.out K1.out fun W h => { h with }
   rw [HE.out, ← HJ2.out]
   exact ⟨rfl, HJ.1.widen (fun q h => h.1), B2.out.trans HJ.2 fun q _ h => h.1⟩
  | true =>
   by_cases hk : k = 4
   ·
    have HE := Lib.hid (show j.step g k b = (true, (j.acc g k b).2) by unfold Jd.step; rw [if_neg (by rw [hrj]; decide), if_neg (by rw [ha]; decide), if_pos hk])
    have HA := Lib.hid ha
    have HK := Lib.hid hk
    clear hrj ha hk
    go_enter Try.func13, Try.ntmps13
    go_wp2_with fail
    refine (jmade_row C0.out).mono ?_
    rintro _ w1 ⟨rfl, h1⟩
    have C1 := Lib.hid (C0.out.below h1)
    have H1 := Lib.hid (HS0.out.below h1)
    have Z1 := Lib.hid (Z0.out.below h1)
    have B1 := Lib.hid (below_step B0.out h1)
    clear h1
    have x20 : w1.cell? ⟨p, 20, none⟩ = some (.bool false) := by
     have h0 := C1.out.cell_at 20 (.bool j.rej) rfl
     rw [HRJ.out] at h0
     exact h0
    have z0 := Z1.out.cell_at 0 _ rfl
    have z1 := Z1.out.cell_at 1 _ rfl
    go_wp2_with fail
    clear z0 z1 x20
    refine (HAC.out _ H1.out).mono ?_
    rintro e w2 ⟨he, h2, b2⟩

    obtain ⟨j2, hj⟩ : ∃ j2, j2 = (j.acc g k b).2 := ⟨_, rfl⟩
    rw [HA.out] at he
    rw [← hj] at h2
    have HJ2 := Lib.hid hj
    subst he
    have NZ : ¬ (fun q => I q ∧ (q < w.heap.size ∨ (w.alloc (.cells #[.int .i64 k, .int .u8 (b : Int)] 36)).heap.size ≤ q)) w.heap.size := fun h => by
     have e : (w.alloc (.cells #[.int .i64 k, .int .u8 (b : Int)] 36)).heap.size = w.heap.size + 1 := by simp
     rcases h.2 with h | h
     ·
      exact absurd h (Nat.lt_irrefl _)
     ·
      have h : (w.alloc (.cells #[.int .i64 k, .int .u8 (b : Int)] 36)).heap.size ≤ w.heap.size := h
      omega
    have Z2 := Lib.hid (Z1.out.btw b2 NZ)
    have H2 := Lib.hid h2
    have B2 := Lib.hid ((Btw.of_below (I := I) B1.out).trans b2 fun q _ h => h.1)
    obtain ⟨m2, hc2, hr2⟩ := H2.out
    have C2 := Lib.hid hc2
    have R2 := Lib.hid hr2
    clear hj h2 b2 NZ hc2 hr2
    have z0 : w2.cell? ⟨w.heap.size, 0, none⟩ = some (.int .i64 4) := by
     have h0 := Z2.out.cell_at 0 (.int .i64 k) rfl
     rw [h0, HK.out]
    go_wp2
    go_ret
    rw [HE.out, ← HJ2.out]
    exact ⟨rfl, H2.out.widen (fun q h => h.1), B2.out⟩
   ·
    have HE := Lib.hid (show j.step g k b = (true, { (j.acc g k b).2 with pol := decide (k = 1 ∧ b = 112) }) by unfold Jd.step; rw [if_neg (by rw [hrj]; decide), if_neg (by rw [ha]; decide), if_neg hk])
    have HA := Lib.hid ha
    have e4 : (k == 4) = false := by rw [beq_eq_false_iff_ne]; exact hk
    have f4 : decide (k = 4) = false := decide_eq_false hk
    have HIS := Lib.hid (fun W => isC k b 112 (decide (k = 1 ∧ b = 112)) rfl 112 rfl W)
    generalize decide (k = 1 ∧ b = 112) = v2 at *
    clear hrj ha hk
    go_enter Try.func13, Try.ntmps13
    go_wp2_with fail
    refine (jmade_row C0.out).mono ?_
    rintro _ w1 ⟨rfl, h1⟩
    have C1 := Lib.hid (C0.out.below h1)
    have H1 := Lib.hid (HS0.out.below h1)
    have Z1 := Lib.hid (Z0.out.below h1)
    have B1 := Lib.hid (below_step B0.out h1)
    clear h1
    have x20 : w1.cell? ⟨p, 20, none⟩ = some (.bool false) := by
     have h0 := C1.out.cell_at 20 (.bool j.rej) rfl
     rw [HRJ.out] at h0
     exact h0
    have z0 := Z1.out.cell_at 0 _ rfl
    have z1 := Z1.out.cell_at 1 _ rfl
    go_wp2_with fail
    clear z0 z1 x20
    refine (HAC.out _ H1.out).mono ?_
    rintro e w2 ⟨he, h2, b2⟩

    obtain ⟨j2, hj⟩ : ∃ j2, j2 = (j.acc g k b).2 := ⟨_, rfl⟩
    rw [HA.out] at he
    rw [← hj] at h2
    have HJ2 := Lib.hid hj
    subst he
    have NZ : ¬ (fun q => I q ∧ (q < w.heap.size ∨ (w.alloc (.cells #[.int .i64 k, .int .u8 (b : Int)] 36)).heap.size ≤ q)) w.heap.size := fun h => by
     have e : (w.alloc (.cells #[.int .i64 k, .int .u8 (b : Int)] 36)).heap.size = w.heap.size + 1 := by simp
     rcases h.2 with h | h
     ·
      exact absurd h (Nat.lt_irrefl _)
     ·
      have h : (w.alloc (.cells #[.int .i64 k, .int .u8 (b : Int)] 36)).heap.size ≤ w.heap.size := h
      omega
    have Z2 := Lib.hid (Z1.out.btw b2 NZ)
    have H2 := Lib.hid h2
    have B2 := Lib.hid ((Btw.of_below (I := I) B1.out).trans b2 fun q _ h => h.1)
    obtain ⟨m2, hc2, hr2⟩ := H2.out
    have C2 := Lib.hid hc2
    have R2 := Lib.hid hr2
    clear hj h2 b2 NZ hc2 hr2
    have z0 := Z2.out.cell_at 0 _ rfl
    have z1 := Z2.out.cell_at 1 _ rfl
    go_wp2_with fail
    refine (HIS.out _).mono ?_
    rintro _ w3 ⟨rfl, h3⟩
    have C3 := Lib.hid (C2.out.below h3)
    have R3 := Lib.hid (R2.out.below h3)
    have B3 := Lib.hid (B2.out.trans (Btw.of_below (I := I) h3) fun _ _ h => h)
    clear h3 z0 z1
    have x4 := C3.out.cell_at 4 (.bool (j2).pol) rfl
    have f4 := C3.out.frozen 4
    have S1 := Lib.hid (C3.out.setCell 4 (.bool v2))
    have K1 := Lib.hid (((Btw.refl w3)).setCell (I := fun k => k = p) (p := ⟨p, 4, none⟩) (v := .bool v2) rfl)
    go_wp2
    go_ret
    have HJ := JH.of (j' := { j2 with pol := v2 }) (m' := m2) C3.out R3.out S1.out K1.out fun W h => { h with }
    rw [HE.out, ← HJ2.out]
    exact ⟨rfl, HJ.1.widen (fun q h => h.1), B3.out.trans HJ.2 fun q _ h => h.1⟩
/-- The power goes. -/
def Jd.power (j : Jd) : Jd := { j.stop with rej := false }
theorem jPower {q : Nat} (hq : q ≤ 100000) (hf : Jf g q j) (h : JH I w p g j) : Calls Try.prog 11 #[.pointer (some ⟨p, 0, none⟩)] w (ActsJ I p g (.tuple #[]) j.power w) := by
 have hen := hf.en
 have HST := Lib.hid (fun W (hh : JH I W p g j) => jstop hf.eb (by omega) hh)
 have H0 := Lib.hid h
 obtain ⟨m, hc, hr⟩ := h
 have C0 := Lib.hid hc
 clear hc hr hf hq hen
 go_enter Try.func11, Try.ntmps11
 go_wp2_with fail
 refine (jmade_row C0.out).mono ?_
 rintro _ w1 ⟨rfl, h1⟩
 have H1 := Lib.hid (H0.out.below h1)
 have B1 := Lib.hid h1
 clear h1
 go_wp2_with fail
 refine (HST.out _ H1.out).mono ?_
 rintro _ w2 ⟨rfl, h2, b2⟩
 have B2 := Lib.hid ((Btw.of_below (I := I) B1.out).trans b2 fun _ _ h => h)
 obtain ⟨m2, hc2, hr2⟩ := h2
 have C2 := Lib.hid hc2
 have R2 := Lib.hid hr2
 clear b2 hc2 hr2
 have x20 := C2.out.cell_at 20 (.bool (j.stop).rej) rfl
 have f20 := C2.out.frozen 20
 have S1 := Lib.hid (C2.out.setCell 20 (.bool false))
 have K1 := Lib.hid (((Btw.refl w2)).setCell (I := fun k => k = p) (p := ⟨p, 20, none⟩) (v := .bool false) rfl)
 go_wp2
 go_end0
 have HJ := JH.of (j' := j.power) (m' := m2) C2.out R2.out S1.out K1.out fun W h => { h with }
 exact ⟨rfl, HJ.1, B2.out.trans HJ.2 fun _ _ h => h⟩
end
end Go.Proofs.Ytaidgjidpghgnaa

/-
  Both judges, the code's and the document's, at once: as long as nothing was rejected they differ in the column and the background's block alone, and these only where nobody looks.
-/
namespace Go.Proofs.Ytaidgjidpghgnaa
open Go.RowKit
set_option maxRecDepth 100000

/-- What is so of the code's judge a, and of the document's b, as long as all was taken. -/
structure Sm (g : Gm) (a b : Jd) : Prop where
 eq : b = { a with col := b.col, bgb := b.bgb }
 bgb : a.bg = true → b.bgb = a.bgb
 col : a.data = true ∨ a.listed.length = 4 → b.col = a.col
 i1 : a.busy = true → a.op = 1 ∧ a.listed = [] ∧ a.count = 0
 i2 : a.op = 6 ∨ a.op = 7 → a.data = true
 i3 : a.op = 2 ∨ a.op = 3 ∨ a.op = 4 ∨ a.op = 8 ∨ a.op = 9 → a.data = false
 i4 : a.op = 5 → a.listed ≠ [] → a.data = false
 i5 : a.op = 5 ∨ a.op = 8 → a.listed.length = 4 → a.col = a.addr2 0 ∧ a.addr2 2 < g.rows_
 i6 : a.erases ≠ [] → a.busy = true
 i7 : a.op = 0 ∨ a.op = 1 ∨ a.op = 6 → a.listed = []
 i8 : a.op = 2 ∨ a.op = 3 ∨ a.op = 4 → a.listed.length ≤ 1
 i9 : a.op = 7 ∨ a.op = 9 → a.listed.length ≤ 2
 ia : a.listed.length ≤ 4
 ib : ∀ x ∈ a.rows, x < g.rows_
 ic : a.op = 9 → a.listed.length = 2 → a.addr2 0 < g.rows_
 id : a.op ≤ 9
section
variable {g : Gm} {a b : Jd}
theorem Sm.data (h : Sm g a b) : b.data = a.data := by rw [h.eq]
theorem Sm.same (h : Sm g a b) : b.op = a.op ∧ b.listed = a.listed ∧ b.count = a.count ∧ b.busy = a.busy ∧ b.pol = a.pol ∧ b.bg = a.bg ∧ b.data = a.data ∧ b.rows = a.rows ∧ b.blocks = a.blocks ∧ b.erases = a.erases ∧ b.er = a.er ∧ b.la = a.la ∧ b.pr = a.pr ∧ b.rej = a.rej := by
 rw [h.eq]
 exact ⟨rfl, rfl, rfl, rfl, rfl, rfl, rfl, rfl, rfl, rfl, rfl, rfl, rfl, rfl⟩
theorem ropen_is (d : Bool) (c : Nat) : ropen d c = if jopen c = 0 ∨ (jopen c = 7 ∧ d = false) then none else some (jopen c) := by
 unfold ropen jopen
 repeat' split
 all_goals first | rfl | (simp_all; done) | (rename_i h; simp at h) | skip
theorem jopen_8 (c : Nat) : jopen c = 8 ↔ c = 128 := by
 unfold jopen
 repeat' split
 all_goals omega
theorem jopen_9 (c : Nat) : jopen c = 9 ↔ c = 96 := by
 unfold jopen
 repeat' split
 all_goals omega
theorem jopen_in (c : Nat) : jopen c = 0 ∨ jopen c = 2 ∨ jopen c = 3 ∨ jopen c = 4 ∨ jopen c = 5 ∨ jopen c = 7 ∨ jopen c = 8 ∨ jopen c = 9 := by
 unfold jopen
 repeat' split
 all_goals simp
theorem Sm.out (h : Sm g a b) : ∃ x y, b = { a with col := x, bgb := y } := ⟨_, _, h.eq⟩
theorem sm_enter {x y : Nat} (h : Sm g a { a with col := x, bgb := y }) (hbu : a.busy = false) (o : Nat) (d : Bool) (hd : d = true → a.data = true) (h6 : o = 6 ∨ o = 7 → d = true) (h3 : o = 2 ∨ o = 3 ∨ o = 4 ∨ o = 8 ∨ o = 9 → d = false) (h9 : o ≤ 9) :
  Sm g (({ a with data := d } : Jd).enter o) { (({ a with col := x, bgb := y } : Jd).enter o) with data := d } :=
 {
  eq := rfl
  bgb := fun e => h.bgb e
  col := fun e => by
   rcases e with e | e
   ·
    exact h.col (.inl (hd e))
   ·
    exact absurd (show (0 : Nat) = 4 from e) (by decide)
  i1 := fun e => absurd (hbu.symm.trans e) (by decide)
  i2 := fun e => h6 e
  i3 := fun e => h3 e
  i4 := fun _ e => absurd rfl e
  i5 := fun _ e => absurd (show (0 : Nat) = 4 from e) (by decide)
  i6 := fun e => absurd (hbu.symm.trans (h.i6 e)) (by decide)
  i7 := fun _ => rfl
  i8 := fun _ => Nat.zero_le _
  i9 := fun _ => Nat.zero_le _
  ia := Nat.zero_le _
  ib := h.ib
  ic := fun _ e => absurd (show (0 : Nat) = 2 from e) (by decide)
  id := h9 }
/-- Behind what makes the chip busy, with whatever column and block in the background. -/
theorem sm_start {x y : Nat} (heq : b = { a with col := x, bgb := y }) (hbg : a.bg = true → y = a.bgb) (hco : a.data = true → x = a.col) (hro : ∀ z ∈ a.rows, z < g.rows_) : Sm g a.start b.start := by
 subst heq
 exact {
     eq := rfl
     bgb := hbg
     col := fun e => by
      rcases e with e | e
      ·
       exact hco e
      ·
       exact absurd (show (0 : Nat) = 4 from e) (by decide)
     i1 := fun _ => ⟨rfl, rfl, rfl⟩
     i2 := fun e => absurd (show (1 : Nat) = 6 ∨ (1 : Nat) = 7 from e) (by decide)
     i3 := fun e => absurd (show (1 : Nat) = 2 ∨ (1 : Nat) = 3 ∨ (1 : Nat) = 4 ∨ (1 : Nat) = 8 ∨ (1 : Nat) = 9 from e) (by decide)
     i4 := fun _ e => absurd rfl e
     i5 := fun _ e => absurd (show (0 : Nat) = 4 from e) (by decide)
     i6 := fun _ => rfl
     i7 := fun _ => rfl
     i8 := fun _ => Nat.zero_le _
     i9 := fun _ => Nat.zero_le _
     ia := Nat.zero_le _
     ib := hro
     ic := fun _ e => absurd (show (0 : Nat) = 2 from e) (by decide)
     id := by show (1 : Nat) ≤ 9; decide }
theorem sim_begin (h : Sm g a b) (hbu : a.busy = false) (c : Nat) : (b.rbegin c).1 = (a.begin c).1 ∧ ((a.begin c).1 = true → Sm g (a.begin c).2 (b.rbegin c).2) := by
 obtain ⟨x, y, rfl⟩ := h.out
 have h8 := jopen_8 c
 have h9 := jopen_9 c
 have hin := jopen_in c
 unfold Jd.begin Jd.rbegin Jd.rbars Jd.may
 rw [ropen_is]
 obtain ⟨o, ho⟩ : ∃ o, o = jopen c := ⟨_, rfl⟩
 rw [← ho] at h8 h9 hin ⊢
 have hopen : ∀ (hd : o = 7 → a.data = true) (h0 : o ≠ 0), Sm g ((if o ≠ 5 ∧ o ≠ 7 then { a with data := false } else a : Jd).enter o) (({ a with col := x, bgb := y } : Jd).opened o) := fun hd h0 => by
  unfold Jd.opened
  by_cases h57 : o = 5 ∨ o = 7
  ·
   rw [if_neg (by omega), if_pos h57]
   exact sm_enter h hbu o a.data (fun e => e) (fun e => hd (by omega)) (fun e => by omega) (by omega)
  ·
   rw [if_pos (by omega), if_neg h57]
   exact sm_enter h hbu o false (fun e => absurd e (by decide)) (fun e => by omega) (fun _ => rfl) (by omega)
 by_cases hq : a.bg = true ∨ 0 < a.rows.length
 ·
  by_cases h128 : c = 128
  ·
   have e8 : o = 8 := h8.2 h128
   have := hopen (by omega) (by omega)
   simp [hq, h128, e8] at this ⊢
   exact this
  ·
   have e8 : o ≠ 8 := fun e => h128 (h8.1 e)
   simp [hq, h128, e8]
 ·
  by_cases hbl : 0 < a.blocks.length
  ·
   by_cases h96 : c = 96
   ·
    have e9 : o = 9 := h9.2 h96
    have := hopen (by omega) (by omega)
    simp [hq, hbl, h96, e9] at this ⊢
    exact this
   ·
    have e9 : o ≠ 9 := fun e => h96 (h9.1 e)
    simp [hq, hbl, h96, e9]
  ·
   by_cases h0 : o = 0
   ·
    simp [hq, hbl, h0]
   ·
    by_cases h7 : o = 7
    ·
     cases hd : a.data with
     | true =>
      have := hopen (fun _ => hd) h0
      simp [hq, hbl, h7, hd] at this ⊢
      exact this
     | false => simp [hq, hbl, h7]
    ·
     have := hopen (fun e => absurd e h7) h0
     simp [hq, hbl, h7, h0] at this ⊢
     exact this
theorem sim_write (h : Sm g a b) (hbu : a.busy = false) : (b.rwrite g).1 = (a.write g).1 ∧ ((a.write g).1 = true → Sm g (a.write g).2 (b.rwrite g).2) := by
 obtain ⟨x, y, rfl⟩ := h.out
 unfold Jd.write Jd.rwrite
 by_cases h4 : a.op = 4 ∧ 0 < a.listed.length
 ·
  have h1 : a.listed.length = 1 := by have := h.i8 (by omega); omega
  rw [if_pos h4, if_pos ⟨h4.1, h1⟩]
  refine ⟨rfl, fun _ => ?_⟩
  by_cases hc : a.count + 1 = 4
  ·
   rw [if_pos hc, if_pos hc]
   exact sm_start (x := x) (y := y) rfl h.bgb (fun e => h.col (.inl e)) h.ib
  ·
   rw [if_neg hc, if_neg hc]
   exact { h with
    eq := rfl
    i1 := fun e => absurd (hbu.symm.trans e) (by decide) }
 ·
  rw [if_neg h4, if_neg (fun e => h4 ⟨e.1, by have e2 : a.listed.length = 1 := e.2; omega⟩)]
  by_cases h8 : a.op = 8 ∧ a.listed.length = 4
  ·
   rw [if_pos h8]
   have hx : x = a.col := h.col (.inr h8.2)
   refine ⟨?_, fun _ => ?_⟩
   ·
    show decide (a.op = 8 ∧ a.listed.length = 4 ∧ x + (a.count + 1) ≤ g.raw.toNat) = decide (a.col + (a.count + 1) ≤ g.raw.toNat)
    rw [hx]
    simp [h8.1, h8.2]
   ·
    exact { h with
     eq := rfl
     i1 := fun e => absurd (hbu.symm.trans e) (by decide) }
  ·
   rw [if_neg h8]
   refine ⟨?_, fun e => absurd e (by simp)⟩
   show decide (a.op = 8 ∧ a.listed.length = 4 ∧ x + (a.count + 1) ≤ g.raw.toNat) = false
   exact decide_eq_false fun e => h8 ⟨e.1, e.2.1⟩
theorem sim_read (h : Sm g a b) (hbu : a.busy = false) : (b.rread g).1 = (a.read g).1 ∧ ((a.read g).1 = true → Sm g (a.read g).2 (b.rread g).2) := by
 obtain ⟨x, y, rfl⟩ := h.out
 have nb : ∀ {P : Prop}, a.busy = true → P := fun e => absurd (hbu.symm.trans e) (by decide)
 unfold Jd.read Jd.rread
 by_cases h2 : a.op = 2
 ·
  rw [if_pos h2]
  by_cases hl : a.listed.length = 1
  ·
   rw [if_pos ⟨h2, hl⟩]
   refine ⟨by show decide (a.count + 1 ≤ 5) = _; rw [decide_eq_true (show 0 < a.listed.length by omega)]; rfl, fun _ => ?_⟩
   exact { h with
    eq := rfl
    i1 := fun e => nb e }
  ·
   have hl0 : a.listed.length = 0 := by have := h.i8 (.inl h2); omega
   rw [if_neg (fun e => hl e.2), if_neg (fun e => by have e : a.op = 5 := e.1; omega)]
   refine ⟨?_, fun e => ?_⟩
   ·
    show decide (a.op = 6 ∧ _) = _
    rw [decide_eq_false (fun e => by have := e.1; omega), decide_eq_false (show ¬ 0 < a.listed.length by omega)]
    rfl
   ·
    have e : (decide (0 < a.listed.length) && decide (a.count + 1 ≤ 5)) = true := e
    rw [decide_eq_false (show ¬ 0 < a.listed.length by omega)] at e
    simp at e
 ·
  rw [if_neg h2, if_neg (fun e => h2 e.1)]
  by_cases h5 : a.op = 5
  ·
   rw [if_pos h5]
   by_cases hq : 0 < a.listed.length ∨ a.data = false
   ·
    rw [if_pos hq, if_neg (fun e => by
     have e2 : a.listed.length = 0 := e.2.1
     have e3 : a.data = true := e.2.2
     rcases hq with hq | hq
     ·
      omega
     ·
      rw [e3] at hq; exact absurd hq (by decide))]
    refine ⟨?_, fun e => absurd e (by simp)⟩
    exact decide_eq_false fun e => by have e : a.op = 6 := e.1; omega
   ·
    have hd : a.data = true := by
     cases hd : a.data with
     | true => rfl
     | false => exact absurd (.inr hd) hq
    have hl : a.listed.length = 0 := by
     rcases Nat.eq_zero_or_pos a.listed.length with e | e
     ·
      exact e
     ·
      exact absurd (.inl e) hq
    have hx : x = a.col := h.col (.inl hd)
    have hnil : a.listed = [] := List.eq_nil_of_length_eq_zero hl
    rw [if_neg hq, if_pos ⟨h5, hl, hd⟩]
    unfold Jd.readOut
    refine ⟨by show decide (x + 1 ≤ _) = decide (a.col + 1 ≤ _); rw [hx], fun _ => ?_⟩
    exact { h with
     eq := rfl
     col := fun _ => by show x + 1 = a.col + 1; rw [hx]
     i1 := fun e => nb e
     i2 := fun _ => hd
     i3 := fun e => absurd (show (6 : Nat) = 2 ∨ (6 : Nat) = 3 ∨ (6 : Nat) = 4 ∨ (6 : Nat) = 8 ∨ (6 : Nat) = 9 from e) (by decide)
     i4 := fun e => absurd (show (6 : Nat) = 5 from e) (by decide)
     i5 := fun e => absurd (show (6 : Nat) = 5 ∨ (6 : Nat) = 8 from e) (by decide)
     i7 := fun _ => hnil
     i8 := fun _ => by show a.listed.length ≤ 1; omega
     i9 := fun _ => by show a.listed.length ≤ 2; omega
     ic := fun e => absurd (show (6 : Nat) = 9 from e) (by decide)
     id := by show (6 : Nat) ≤ 9; decide }
  ·
   rw [if_neg h5, if_neg (fun e => h5 e.1)]
   by_cases h6 : a.op = 6
   ·
    rw [if_pos h6]
    have hd := h.i2 (.inl h6)
    have hx : x = a.col := h.col (.inl hd)
    unfold Jd.readOut
    refine ⟨?_, fun _ => ?_⟩
    ·
     show decide (a.op = 6 ∧ x + 1 ≤ _) = decide (a.col + 1 ≤ _)
     rw [hx]
     simp [h6]
    ·
     exact { h with
      eq := rfl
      col := fun _ => by show x + 1 = a.col + 1; rw [hx]
      i1 := fun e => nb e
      i5 := fun e => by have e : a.op = 5 ∨ a.op = 8 := e; omega }
   ·
    rw [if_neg h6]
    exact ⟨decide_eq_false fun e => h6 e.1, fun e => absurd e (by simp)⟩
/-- Whatever else: an address was listed, with what is asked of it behind it. -/
theorem sm_push {x y x' : Nat} {d : Bool} {n : Nat} (h : Sm g a { a with col := x, bgb := y }) (hbu : a.busy = false) (c : Nat) (hop : a.op = 2 ∨ a.op = 4 ∨ a.op = 5 ∨ a.op = 7 ∨ a.op = 8 ∨ a.op = 9) (hd : d = if a.op = 5 then false else a.data)
  (hl : (a.op = 2 ∨ a.op = 4 → a.listed.length = 0) ∧ (a.op = 7 ∨ a.op = 9 → a.listed.length ≤ 1) ∧ a.listed.length ≤ 3) (hcol : d = true ∨ a.listed.length + 1 = 4 → x' = n) (h5 : a.op = 5 ∨ a.op = 8 → a.listed.length + 1 = 4 → n = (a.push c).addr2 0 ∧ (a.push c).addr2 2 < g.rows_)
  (h9 : a.op = 9 → a.listed.length + 1 = 2 → (a.push c).addr2 0 < g.rows_) :
  Sm g { a.push c with data := d, col := n } { a.push c with data := d, col := x', bgb := y } :=
 {
  eq := rfl
  bgb := h.bgb
  col := fun e => hcol (by
   rcases e with e | e
   ·
    exact .inl e
   ·
    exact .inr (by have e : (a.listed ++ [c]).length = 4 := e; simpa using e))
  i1 := fun e => absurd (hbu.symm.trans e) (by decide)
  i2 := fun e => by
   have e : a.op = 6 ∨ a.op = 7 := e
   have h1 := h.i2 e
   show d = true
   rw [hd, if_neg (by omega)]
   exact h1
  i3 := fun e => by
   have e : a.op = 2 ∨ a.op = 3 ∨ a.op = 4 ∨ a.op = 8 ∨ a.op = 9 := e
   show d = false
   rw [hd, if_neg (by omega)]
   exact h.i3 e
  i4 := fun e _ => by
   have e : a.op = 5 := e
   show d = false
   rw [hd, if_pos e]
  i5 := fun e1 e2 => h5 e1 (by have e : (a.listed ++ [c]).length = 4 := e2; simpa using e)
  i6 := h.i6
  i7 := fun e => by
   have e : a.op = 0 ∨ a.op = 1 ∨ a.op = 6 := e
   exact absurd hop (by omega)
  i8 := fun e => by
   have e : a.op = 2 ∨ a.op = 3 ∨ a.op = 4 := e
   have := hl.1 (by omega)
   show (a.listed ++ [c]).length ≤ 1
   rw [List.length_append]
   have : [c].length = 1 := rfl
   omega
  i9 := fun e => by
   have := hl.2.1 e
   show (a.listed ++ [c]).length ≤ 2
   simp
   omega
  ia := by
   have := hl.2.2
   show (a.listed ++ [c]).length ≤ 4
   simp
   omega
  ib := h.ib
  ic := fun e1 e2 => h9 e1 (by have e : (a.listed ++ [c]).length = 2 := e2; simpa using e)
  id := h.id }
theorem lists_24 (v : Nat) (hv : (a.op = 2 ∨ a.op = 3) ∧ v = 0 ∨ a.op = 4 ∧ v = 137) (c : Nat) : a.lists c = (decide (c = v) && decide (a.listed.length = 0)) := by
 unfold Jd.lists
 rcases hv with ⟨h, rfl⟩ | ⟨h, rfl⟩
 ·
  rw [if_pos h]
 ·
  rw [if_neg (by omega), if_pos h]
theorem lists_58 (h : a.op = 5 ∨ a.op = 8) (c : Nat) : a.lists c = decide (a.listed.length < 4) := by
 unfold Jd.lists
 rw [if_neg (by omega), if_neg (by omega), if_pos h]
theorem lists_79 (h : a.op = 7 ∨ a.op = 9) (c : Nat) : a.lists c = decide (a.listed.length < 2) := by
 unfold Jd.lists
 rw [if_neg (by omega), if_neg (by omega), if_neg (by omega), if_pos h]
theorem both_no {c v n : Nat} (h : ¬ (n = 0 ∧ c = v)) : (decide (c = v) && decide (n = 0)) = false := by
 rw [Bool.and_eq_false_iff, decide_eq_false_iff_not, decide_eq_false_iff_not]
 omega
theorem both_yes {c v n : Nat} (h : n = 0 ∧ c = v) : ¬ (decide (c = v) && decide (n = 0)) = false := by
 rw [decide_eq_true h.2, decide_eq_true h.1]
 decide
theorem push_len (c : Nat) : (a.push c).listed.length = a.listed.length + 1 := by show (a.listed ++ [c]).length = _; simp
theorem sim_addr (h : Sm g a b) (hbu : a.busy = false) (c : Nat) : (b.raddr g c).1 = (a.addr g c).1 ∧ ((a.addr g c).1 = true → Sm g (a.addr g c).2 (b.raddr g c).2) := by
 obtain ⟨x, y, rfl⟩ := h.out
 have hpl := push_len (a := a) c
 have hcs : a.op = 2 ∨ a.op = 4 ∨ a.op = 3 ∨ (a.op = 5 ∨ a.op = 8) ∨ a.op = 7 ∨ a.op = 9 ∨ (a.op = 0 ∨ a.op = 1 ∨ a.op = 6) := by have := h.id; omega
 have hcol := h.col
 rcases hcs with ho | ho | ho | ho | ho | ho | ho
 ·
  have hL := lists_24 (a := a) 0 (.inl ⟨.inl ho, rfl⟩) c
  unfold Jd.addr Jd.raddr
  rw [if_pos (show ({ a with col := x, bgb := y } : Jd).op = 2 from ho), hL]
  by_cases hq : a.listed.length = 0 ∧ c = 0
  ·
   rw [if_neg (both_yes hq), if_neg (by omega), if_neg (by omega), if_neg (by omega), if_neg (by omega), if_neg (by omega)]
   refine ⟨decide_eq_true hq, fun _ => ?_⟩
   exact sm_push (d := a.data) (x' := x) (n := a.col) h hbu c (.inl ho) (by rw [if_neg (by omega)]) ⟨fun _ => hq.1, fun e => by omega, by omega⟩ (fun e => hcol (.inl (e.elim (fun e => e) fun e => by omega))) (fun e => by omega) (fun e => by omega)
  ·
   rw [if_pos (both_no hq)]
   exact ⟨decide_eq_false hq, fun e => absurd e (by simp)⟩
 ·
  have hL := lists_24 (a := a) 137 (.inr ⟨ho, rfl⟩) c
  unfold Jd.addr Jd.raddr
  rw [if_neg (show ¬ ({ a with col := x, bgb := y } : Jd).op = 2 by show ¬ a.op = 2; omega), if_pos (show ({ a with col := x, bgb := y } : Jd).op = 4 from ho), hL]
  by_cases hq : a.listed.length = 0 ∧ c = 137
  ·
   rw [if_neg (both_yes hq), if_neg (by omega), if_neg (by omega), if_neg (by omega), if_neg (by omega), if_neg (by omega)]
   refine ⟨decide_eq_true hq, fun _ => ?_⟩
   exact sm_push (d := a.data) (x' := x) (n := a.col) h hbu c (.inr (.inl ho)) (by rw [if_neg (by omega)]) ⟨fun _ => hq.1, fun e => by omega, by omega⟩ (fun e => hcol (.inl (e.elim (fun e => e) fun e => by omega))) (fun e => by omega) (fun e => by omega)
  ·
   rw [if_pos (both_no hq)]
   exact ⟨decide_eq_false hq, fun e => absurd e (by simp)⟩
 ·
  have hL := lists_24 (a := a) 0 (.inl ⟨.inr ho, rfl⟩) c
  unfold Jd.addr Jd.raddr
  rw [if_neg (show ¬ ({ a with col := x, bgb := y } : Jd).op = 2 by show ¬ a.op = 2; omega), if_neg (show ¬ ({ a with col := x, bgb := y } : Jd).op = 4 by show ¬ a.op = 4; omega), if_pos (show ({ a with col := x, bgb := y } : Jd).op = 3 from ho), hL]
  by_cases hq : a.listed.length = 0 ∧ c = 0
  ·
   rw [if_pos (show ({ a with col := x, bgb := y } : Jd).listed.length = 0 ∧ c = 0 from hq), if_neg (both_yes hq), if_pos ho]
   exact ⟨rfl, fun _ => sm_start (x := 0) (y := y) rfl h.bgb (fun _ => rfl) h.ib⟩
  ·
   rw [if_neg (show ¬ (({ a with col := x, bgb := y } : Jd).listed.length = 0 ∧ c = 0) from hq), if_pos (both_no hq)]
   exact ⟨rfl, fun e => absurd e (by simp)⟩
 ·
  have hL := lists_58 (a := a) ho c
  obtain ⟨d, hd⟩ : ∃ d, d = if a.op = 5 then false else a.data := ⟨_, rfl⟩
  have hd8 : a.op = 8 → d = false := fun e => by rw [hd, if_neg (by omega)]; exact h.i3 (.inr (.inr (.inr (.inl e))))
  have hdf : d = false := by
   rcases ho with ho | ho
   ·
    rw [hd, if_pos ho]
   ·
    exact hd8 ho
  have ea : a.addr g c = if a.listed.length < 4 then ({ a.push c with data := d } : Jd).addr4 g else (false, a) := by
   unfold Jd.addr
   rw [hL]
   by_cases hq : a.listed.length < 4
   ·
    rw [if_neg (by simp [hq]), if_pos hq, if_neg (by omega)]
    by_cases h5 : a.op = 5
    ·
     rw [if_pos h5, hd, if_pos h5]
    ·
     rw [if_neg h5, if_pos (by omega), hd, if_neg h5]
     rfl
   ·
    rw [if_pos (by simp; omega), if_neg hq]
  have eb : ({ a with col := x, bgb := y } : Jd).raddr g c = if a.listed.length = 3 then (decide ((a.push c).addr2 2 < g.rows_) && decide ((a.push c).addr2 0 < g.raw.toNat), { a.push c with data := d, col := (a.push c).addr2 0, bgb := y })
    else (decide (a.listed.length < 3), { a.push c with data := d, col := x, bgb := y }) := by
   unfold Jd.raddr
   rw [if_neg (show ¬ a.op = 2 by omega), if_neg (show ¬ a.op = 4 by omega), if_neg (show ¬ a.op = 3 by omega), if_pos (show a.op = 5 ∨ a.op = 8 from ho), hd]
   rfl
  rw [ea, eb]
  unfold Jd.addr4
  by_cases h3 : a.listed.length = 3
  ·
   have hl4 : ({ a.push c with data := d } : Jd).listed.length = 4 := by show (a.push c).listed.length = 4; omega
   rw [if_pos h3, if_pos (by omega), if_pos hl4]
   refine ⟨by rw [Bool.and_comm]; rfl, fun e => ?_⟩
   have e : (decide ((a.push c).addr2 0 < g.raw.toNat) && decide ((a.push c).addr2 2 < g.rows_)) = true := e
   rw [Bool.and_eq_true, decide_eq_true_iff, decide_eq_true_iff] at e
   exact sm_push (d := d) (x' := (a.push c).addr2 0) (n := (a.push c).addr2 0) h hbu c (by omega) hd ⟨fun e => by omega, fun e => by omega, by omega⟩ (fun _ => rfl) (fun _ _ => ⟨rfl, e.2⟩) (fun e => by omega)
  ·
   rw [if_neg h3]
   by_cases hq : a.listed.length < 4
   ·
    rw [if_pos hq, if_neg (show ¬ ({ a.push c with data := d } : Jd).listed.length = 4 by show ¬ (a.push c).listed.length = 4; omega)]
    refine ⟨decide_eq_true (by omega), fun _ => ?_⟩
    exact sm_push (d := d) (x' := x) (n := a.col) h hbu c (by omega) hd ⟨fun e => by omega, fun e => by omega, by omega⟩ (fun e => by
     rcases e with e | e
     ·
      rw [hdf] at e; exact absurd e (by decide)
     ·
      omega) (fun _ e => by omega) (fun e => by omega)
   ·
    rw [if_neg hq]
    exact ⟨decide_eq_false (by omega), fun e => absurd e (by simp)⟩
 ·
  have hL := lists_79 (a := a) (.inl ho) c
  unfold Jd.addr Jd.raddr
  rw [if_neg (show ¬ ({ a with col := x, bgb := y } : Jd).op = 2 by show ¬ a.op = 2; omega), if_neg (show ¬ ({ a with col := x, bgb := y } : Jd).op = 4 by show ¬ a.op = 4; omega), if_neg (show ¬ ({ a with col := x, bgb := y } : Jd).op = 3 by show ¬ a.op = 3; omega),
   if_neg (show ¬ (({ a with col := x, bgb := y } : Jd).op = 5 ∨ ({ a with col := x, bgb := y } : Jd).op = 8) by show ¬ (a.op = 5 ∨ a.op = 8); omega), if_pos (show ({ a with col := x, bgb := y } : Jd).op = 7 from ho), hL]
  by_cases hq : a.listed.length < 2
  ·
   rw [if_neg (by simp [hq]), if_neg (by omega), if_neg (by omega), if_neg (by omega), if_pos ho]
   have e2 : ({ a with col := x, bgb := y } : Jd).rpush c = { a.push c with col := x, bgb := y } := rfl
   refine ⟨?_, fun _ => ?_⟩
   ·
    show decide (a.listed.length = 0 ∨ (a.listed.length = 1 ∧ (a.push c).addr2 0 < g.raw.toNat)) = (decide ((a.push c).listed.length < 2) || decide ((a.push c).addr2 0 < g.raw.toNat))
    rw [hpl, ← Bool.decide_or]
    exact decide_eq_decide.2 (by omega)
   ·
    exact sm_push (d := a.data) (x' := x) (n := a.col) h hbu c (.inr (.inr (.inr (.inl ho)))) (by rw [if_neg (by omega)]) ⟨fun e => by omega, fun _ => by omega, by omega⟩ (fun e => hcol (.inl (e.elim (fun e => e) fun e => by omega))) (fun e => by omega) (fun e => by omega)
  ·
   rw [if_pos (by simp; omega)]
   exact ⟨decide_eq_false (fun e => by have e : a.listed.length = 0 ∨ (a.listed.length = 1 ∧ _) := e; omega), fun e => absurd e (by simp)⟩
 ·
  have hL := lists_79 (a := a) (.inr ho) c
  unfold Jd.addr Jd.raddr
  rw [if_neg (show ¬ ({ a with col := x, bgb := y } : Jd).op = 2 by show ¬ a.op = 2; omega), if_neg (show ¬ ({ a with col := x, bgb := y } : Jd).op = 4 by show ¬ a.op = 4; omega), if_neg (show ¬ ({ a with col := x, bgb := y } : Jd).op = 3 by show ¬ a.op = 3; omega),
   if_neg (show ¬ (({ a with col := x, bgb := y } : Jd).op = 5 ∨ ({ a with col := x, bgb := y } : Jd).op = 8) by show ¬ (a.op = 5 ∨ a.op = 8); omega), if_neg (show ¬ ({ a with col := x, bgb := y } : Jd).op = 7 by show ¬ a.op = 7; omega), if_pos (show ({ a with col := x, bgb := y } : Jd).op = 9 from ho), hL]
  by_cases hq : a.listed.length < 2
  ·
   rw [if_neg (by simp [hq]), if_neg (by omega), if_neg (by omega), if_neg (by omega), if_neg (by omega), if_pos ho]
   have e0 : decide (a.listed.length = 0 ∨ (a.listed.length = 1 ∧ (a.push c).addr2 0 < g.rows_)) = (decide ((a.push c).listed.length < 2) || decide ((a.push c).addr2 0 < g.rows_)) := by
    rw [hpl, ← Bool.decide_or]
    exact decide_eq_decide.2 (by omega)
   refine ⟨e0, fun e => ?_⟩
   have e := (decide_eq_true_iff).1 (e0.trans e)
   exact sm_push (d := a.data) (x' := x) (n := a.col) h hbu c (.inr (.inr (.inr (.inr (.inr ho))))) (by rw [if_neg (by omega)]) ⟨fun e => by omega, fun _ => by omega, by omega⟩ (fun e => hcol (.inl (e.elim (fun e => e) fun e => by omega))) (fun e => by omega) (fun _ e4 => by
    rcases e with e | e
    ·
     omega
    ·
     exact e.2)
  ·
   rw [if_pos (by simp; omega)]
   exact ⟨decide_eq_false (fun e => by have e : a.listed.length = 0 ∨ (a.listed.length = 1 ∧ _) := e; omega), fun e => absurd e (by simp)⟩
 ·
  have hL : a.lists c = false := by
   unfold Jd.lists
   rw [if_neg (by omega), if_neg (by omega), if_neg (by omega), if_neg (by omega)]
  unfold Jd.addr Jd.raddr
  rw [if_pos hL, if_neg (show ¬ a.op = 2 by omega), if_neg (show ¬ a.op = 4 by omega), if_neg (show ¬ a.op = 3 by omega), if_neg (show ¬ (a.op = 5 ∨ a.op = 8) by omega), if_neg (show ¬ a.op = 7 by omega), if_neg (show ¬ a.op = 9 by omega)]
  exact ⟨rfl, fun e => absurd e (by simp)⟩
theorem sim_endFetch (h : Sm g a b) (h5 : a.op = 5) (h4 : a.listed.length = 4) (c : Nat) : ((if c = 48 then (true, ({ b with col := b.addr2 0, data := true } : Jd).start) else (false, b)) : Bool × Jd).1 = (a.endFetch c).1 ∧
  ((a.endFetch c).1 = true → Sm g (a.endFetch c).2 ((if c = 48 then (true, ({ b with col := b.addr2 0, data := true } : Jd).start) else (false, b)) : Bool × Jd).2) := by
 obtain ⟨x, y, rfl⟩ := h.out
 unfold Jd.endFetch
 by_cases hc : c = 48
 ·
  rw [if_pos hc, if_pos ⟨hc, by omega⟩]
  have hx := (h.i5 (.inl h5) h4).1
  exact ⟨rfl, fun _ => sm_start (x := a.addr2 0) (y := y) rfl h.bgb (fun _ => hx.symm) h.ib⟩
 ·
  rw [if_neg hc, if_neg (fun e => hc e.1)]
  exact ⟨rfl, fun e => absurd e (by simp)⟩
theorem sm_polled {x y : Nat} (h : Sm g a { a with col := x, bgb := y }) (e : Nat → Bool) (B : Bool) (hB : B = true → a.bg = true) : Sm g { a with er := e, erases := [], busy := false, bg := B } { a with er := e, erases := [], busy := false, bg := B, col := x, bgb := y } :=
 {
  eq := rfl
  bgb := fun hb => h.bgb (hB hb)
  col := h.col
  i1 := fun e => absurd (show false = true from e) (by decide)
  i2 := h.i2
  i3 := h.i3
  i4 := h.i4
  i5 := h.i5
  i6 := fun e => absurd rfl e
  i7 := h.i7
  i8 := h.i8
  i9 := h.i9
  ia := h.ia
  ib := h.ib
  ic := h.ic
  id := h.id }
theorem sim_poll (h : Sm g a b) (c : Nat) : Sm g (a.poll c) (b.rpoll c) := by
 obtain ⟨x, y, rfl⟩ := h.out
 unfold Jd.poll Jd.rpoll
 by_cases hr : c / 64 % 2 = 0
 ·
  rw [if_pos hr, if_pos hr]
  exact h
 ·
  rw [if_neg hr, if_neg hr]
  have hB : (if c / 32 % 2 = 1 then false else a.bg) = true → a.bg = true := fun e => by
   split at e
   ·
    exact absurd e (by decide)
   ·
    exact e
  by_cases h1 : c % 2 = 1
  ·
   by_cases hb : a.busy = true
   ·
    rw [if_pos h1, if_pos (show ({ a with col := x, bgb := y } : Jd).busy = true ∧ c % 2 = 1 from ⟨hb, h1⟩)]
    exact sm_polled h (fun z => if z ∈ a.erases then false else a.er z) _ hB
   ·
    rw [if_pos h1, if_neg (show ¬ (({ a with col := x, bgb := y } : Jd).busy = true ∧ c % 2 = 1) from fun e => hb e.1)]
    have hn : a.erases = [] := by
     cases hq : a.erases with
     | nil => rfl
     | cons z l => exact absurd (h.i6 (by rw [hq]; simp)) hb
    have hs : a.spoil.er = a.er := by
     funext z
     show (if z ∈ a.erases then false else a.er z) = a.er z
     rw [hn]
     simp
    have h0 := sm_polled h a.spoil.er (if c / 32 % 2 = 1 then false else a.bg) hB
    rw [show ({ a with er := a.spoil.er, erases := [], busy := false, bg := (if c / 32 % 2 = 1 then false else a.bg), col := x, bgb := y } : Jd) = { a with erases := [], busy := false, bg := (if c / 32 % 2 = 1 then false else a.bg), col := x, bgb := y } by rw [hs]] at h0
    exact h0
  ·
   rw [if_neg h1, if_neg (show ¬ (({ a with col := x, bgb := y } : Jd).busy = true ∧ c % 2 = 1) from fun e => h1 e.2)]
   exact sm_polled h a.er _ hB
theorem sim_endMove (h : Sm g a b) (hbu : a.busy = false) (h7 : a.op = 7) (c : Nat) : ((if b.listed.length = 2 ∧ c = 224 then (true, ({ b with col := b.addr2 0 } : Jd).enter 6) else (false, b)) : Bool × Jd).1 = (a.endMove c).1 ∧
  ((a.endMove c).1 = true → Sm g (a.endMove c).2 ((if b.listed.length = 2 ∧ c = 224 then (true, ({ b with col := b.addr2 0 } : Jd).enter 6) else (false, b)) : Bool × Jd).2) := by
 obtain ⟨x, y, rfl⟩ := h.out
 have hl := h.i9 (.inl h7)
 unfold Jd.endMove
 by_cases hc : c = 224 ∧ 2 ≤ a.listed.length
 ·
  rw [if_pos hc, if_pos (show a.listed.length = 2 ∧ c = 224 from ⟨by omega, hc.1⟩)]
  refine ⟨rfl, fun _ => ?_⟩
  exact {
      eq := rfl
      bgb := h.bgb
      col := fun _ => rfl
      i1 := fun e => absurd (hbu.symm.trans e) (by decide)
      i2 := fun _ => h.i2 (.inr h7)
      i3 := fun e => absurd (show (6 : Nat) = 2 ∨ (6 : Nat) = 3 ∨ (6 : Nat) = 4 ∨ (6 : Nat) = 8 ∨ (6 : Nat) = 9 from e) (by decide)
      i4 := fun _ e => absurd rfl e
      i5 := fun _ e => absurd (show (0 : Nat) = 4 from e) (by decide)
      i6 := fun e => absurd (hbu.symm.trans (h.i6 e)) (by decide)
      i7 := fun _ => rfl
      i8 := fun _ => Nat.zero_le _
      i9 := fun _ => Nat.zero_le _
      ia := Nat.zero_le _
      ib := h.ib
      ic := fun _ e => absurd (show (0 : Nat) = 2 from e) (by decide)
      id := by show (6 : Nat) ≤ 9; decide }
 ·
  rw [if_neg hc, if_neg (show ¬ (a.listed.length = 2 ∧ c = 224) from fun e => hc ⟨e.2, by omega⟩)]
  exact ⟨rfl, fun e => absurd e (by simp)⟩
end
end Go.Proofs.Ytaidgjidpghgnaa

/-
  What a step keeps.
-/
namespace Go.Proofs.Ytaidgjidpghgnaa
open Go.RowKit
set_option maxRecDepth 100000

section
variable {I K : Nat → Prop} {w w' : World} {p : Nat} {g : Gm} {j : Jd} {m : Jm}
theorem Jf.more {q q' : Nat} (h : Jf g q j) (hq : q ≤ q') : Jf g q' j :=
 { h with ct := Nat.le_trans h.ct hq, cl := Nat.le_trans h.cl (by omega), pr := fun r => Nat.le_trans (h.pr r) hq, rn := Nat.le_trans h.rn hq, bn := Nat.le_trans h.bn hq, en := Nat.le_trans h.en hq }
theorem Jf.enter {q : Nat} (h : Jf g q j) (n : Nat) (hn : n ≤ 9) : Jf g q (j.enter n) := { h with op := hn, ls := Nat.zero_le _, ct := Nat.zero_le _ }
theorem Jf.start {q : Nat} (h : Jf g q j) : Jf g q j.start := { h with op := (by show 1 ≤ 9; omega), ls := Nat.zero_le _, ct := Nat.zero_le _ }
theorem Jf.spoil {q : Nat} (h : Jf g q j) : Jf g q j.spoil := { h with }
theorem Jf.stop {q : Nat} (h : Jf g q j) : Jf g q j.stop :=
 ⟨Nat.zero_le _, Nat.zero_le _, Nat.zero_le _, Nat.zero_le _, h.pr, Nat.zero_le _, Nat.zero_le _, Nat.zero_le _, fun x hx => absurd (show x ∈ ([] : List Nat) from hx) (by simp), fun x hx => absurd (show x ∈ ([] : List Nat) from hx) (by simp)⟩
theorem Jf.poll {q : Nat} (h : Jf g q j) (b : Nat) : Jf g q (j.poll b) := by
 unfold Jd.poll
 split
 ·
  exact h
 ·
  by_cases h1 : b % 2 = 1
  ·
   rw [if_pos h1]
   exact { h with en := Nat.zero_le _, eb := fun x hx => absurd (show x ∈ ([] : List Nat) from hx) (by simp) }
  ·
   rw [if_neg h1]
   exact { h with en := Nat.zero_le _, eb := fun x hx => absurd (show x ∈ ([] : List Nat) from hx) (by simp) }
theorem Jf.begin {q : Nat} (h : Jf g q j) (b : Nat) : Jf g q (j.begin b).2 := by
 unfold Jd.begin
 split
 ·
  exact h
 ·
  show Jf g q (Jd.enter (if _ then _ else _) _)
  split
  ·
   exact Jf.enter (j := { j with data := false }) { h with } _ (jopen_le b)
  ·
   exact h.enter _ (jopen_le b)
theorem jaddr2_le (h8 : ∀ x ∈ j.listed, x < 256) (k : Nat) : j.addr2 k ≤ 65535 := by
 have K : ∀ i, j.listed.getD i 0 ≤ 255 := fun i => by
  rw [List.getD_eq_getElem?_getD]
  cases e : j.listed[i]? with
  | none => simp
  | some x =>
   have := h8 x (List.mem_of_getElem? e)
   simp only [Option.getD_some]
   omega
 unfold Jd.addr2
 have := K k
 have := K (k + 1)
 omega
theorem Jf.endFetch {q : Nat} (h : Jf g q j) (b : Nat) : Jf g q (j.endFetch b).2 := by
 unfold Jd.endFetch
 split
 ·
  exact Jf.start (j := { j with data := true }) { h with }
 ·
  exact h
theorem Jf.endMove {q : Nat} (h : Jf g q j) (h8 : ∀ x ∈ j.listed, x < 256) (b : Nat) : Jf g q (j.endMove b).2 := by
 unfold Jd.endMove
 split
 ·
  have := jaddr2_le h8 0
  exact Jf.enter (j := { j with col := j.addr2 0 }) { h with cl := (by show j.addr2 0 ≤ 65536 + q; omega) } 6 (by omega)
 ·
  exact h
theorem Jf.prog {q : Nat} (h : Jf g (q + 1) j) (hp : ∀ r, j.pr r ≤ q) (b r : Nat) : Jf g (q + 1) (j.prog g b r) :=
 have h1 : ∀ x, (j.prog g b r).pr x ≤ q + 1 := fun x => by
  show (if x = b * g.s.toNat + r then j.pr x + 1 else j.pr x) ≤ q + 1
  have := hp x
  split <;> omega
 { h with pr := h1 }
theorem Jf.endLoad {q : Nat} (h : Jf g q j) (b : Nat) : Jf g (q + 1) (j.endLoad g b).2 := by
 have h1 := h.more (Nat.le_succ q)
 have hrn : (j.rows ++ [j.addr2 2]).length ≤ q + 1 := by rw [List.length_append]; have := h.rn; show _ + 1 ≤ q + 1; omega
 unfold Jd.endLoad
 split
 ·
  exact h1
 ·
  split
  ·
   exact h1
  ·
   split
   ·
    exact (Jf.prog (j := { j with rows := [] }) { h1 with rn := Nat.zero_le _ } h.pr _ _).start
   ·
    split
    ·
     split
     ·
      exact h1
     ·
      exact (Jf.prog (j := { j with bg := true, bgb := spB g (j.addr2 2) }) { h1 with } h.pr _ _).start
    ·
     split
     ·
      split
      ·
       exact h1
      ·
       exact (Jf.prog (j := { j with rows := j.rows ++ [j.addr2 2] }) { h1 with rn := hrn } h.pr _ _).start
     ·
      exact h1
theorem Jf.endErase {q : Nat} (hg : g.ok = true) (h : Jf g q j) (b : Nat) : Jf g (q + 1) (j.endErase g b).2 := by
 have h1 := h.more (Nat.le_succ q)
 have hbb : ∀ x ∈ j.blocks ++ [spB g (j.addr2 (j.listed.length - 2))], x < g.b.toNat := fun x hx => by
  rcases List.mem_append.1 hx with h2 | h2
  ·
   exact h.bb x h2
  ·
   rw [List.mem_singleton.1 h2]; exact spB_lt hg _
 have hbn : (j.blocks ++ [spB g (j.addr2 (j.listed.length - 2))]).length ≤ q + 1 := by rw [List.length_append]; have := h.bn; show _ + 1 ≤ q + 1; omega
 unfold Jd.endErase
 split
 ·
  exact h1
 ·
  split
  ·
   exact h1
  ·
   split
   ·
    refine Jf.start ⟨h1.op, h1.ls, h1.ct, h1.cl, fun r => ?_, h1.rn, Nat.zero_le _, hbn, fun x hx => absurd (show x ∈ ([] : List Nat) from hx) (by simp), hbb⟩
    show (if _ then 0 else j.pr r) ≤ q + 1
    have := h1.pr r
    split <;> omega
   ·
    exact Jf.start (j := { j with blocks := j.blocks ++ [spB g (j.addr2 (j.listed.length - 2))] }) { h1 with bn := hbn, bb := hbb }
theorem Jf.command {q : Nat} (hg : g.ok = true) (h : Jf g q j) (h8 : ∀ x ∈ j.listed, x < 256) (b : Nat) : Jf g (q + 1) (j.command g b).2 := by
 have h1 := h.more (Nat.le_succ q)
 unfold Jd.command
 split
 ·
  exact h.endLoad b
 ·
  split
  ·
   exact h.endErase hg b
  ·
   split
   ·
    exact h1.endMove h8 b
   ·
    split
    ·
     split
     ·
      exact h1.begin b
     ·
      exact h1
    ·
     split
     ·
      split
      ·
       exact h1.endFetch b
      ·
       split
       ·
        exact h1
       ·
        exact h1.begin b
     ·
      split
      ·
       exact h1.begin b
      ·
       exact h1
theorem Jf.addr4 {q : Nat} (h : Jf g q j) (h8 : ∀ x ∈ j.listed, x < 256) : Jf g q (j.addr4 g).2 := by
 unfold Jd.addr4
 split
 ·
  have := jaddr2_le h8 0
  exact { h with cl := (by show j.addr2 0 ≤ 65536 + q; omega) }
 ·
  exact h
theorem Jf.addr {q : Nat} (h : Jf g q j) (h8 : ∀ x ∈ j.listed, x < 256) (b : Nat) (hb : b < 256) : Jf g q (j.addr g b).2 := by
 have hp : ∀ x ∈ (j.push b).listed, x < 256 := fun x hx => by
  rcases List.mem_append.1 hx with h1 | h1
  ·
   exact h8 x h1
  ·
   rw [List.mem_singleton.1 h1]; exact hb
 unfold Jd.addr
 split
 ·
  exact h
 ·
  rename_i hli
  have hl := lists_what (b := b) (by simpa using hli)
  have hpl : (j.push b).listed.length ≤ 4 := by show (j.listed ++ [b]).length ≤ 4; rw [List.length_append]; show _ + 1 ≤ 4; omega
  have h1 : Jf g q (j.push b) := { h with ls := hpl }
  split
  ·
   exact Jf.start (j := { j.push b with data := true, col := 0 }) { h1 with cl := Nat.zero_le _ }
  ·
   split
   ·
    exact Jf.addr4 (j := { j.push b with data := false }) { h1 with } hp
   ·
    split
    ·
     exact h1.addr4 hp
    ·
     split
     ·
      exact h1
     ·
      split
      ·
       exact h1
      ·
       exact h1
theorem Jf.write {q : Nat} (h : Jf g q j) : Jf g (q + 1) (j.write g).2 := by
 have h1 := h.more (Nat.le_succ q)
 have hc : j.count + 1 ≤ q + 1 := by have := h.ct; omega
 unfold Jd.write
 split
 ·
  show Jf g (q + 1) (if _ then _ else _)
  split
  ·
   exact Jf.start (j := { j with count := j.count + 1 }) { h1 with ct := hc }
  ·
   exact { h1 with ct := hc }
 ·
  split
  ·
   exact { h1 with ct := hc }
  ·
   exact h1
theorem Jf.read {q : Nat} (h : Jf g q j) : Jf g (q + 1) (j.read g).2 := by
 have h1 := h.more (Nat.le_succ q)
 have hc : j.count + 1 ≤ q + 1 := by have := h.ct; omega
 have hl : j.col + 1 ≤ 65536 + (q + 1) := by have := h.cl; omega
 unfold Jd.read
 split
 ·
  exact { h1 with ct := hc }
 ·
  split
  ·
   split
   ·
    exact h1
   ·
    exact { h1 with op := (by show 6 ≤ 9; omega), cl := hl }
  ·
   split
   ·
    exact { h1 with cl := hl }
   ·
    exact h1
theorem Jf.acc {q : Nat} (hg : g.ok = true) (h : Jf g q j) (h8 : ∀ x ∈ j.listed, x < 256) (k : Int) (b : Nat) (hb : b < 256) : Jf g (q + 1) (j.acc g k b).2 := by
 have h1 := h.more (Nat.le_succ q)
 unfold Jd.acc
 split
 ·
  exact h1.stop.start
 ·
  split
  ·
   exact h1
  ·
   split
   ·
    exact h1.enter 1 (by omega)
   ·
    split
    ·
     exact h1.poll b
    ·
     split
     ·
      exact h1
     ·
      unfold Jd.cont
      split
      ·
       exact h.command hg h8 b
      ·
       split
       ·
        exact h1.addr h8 b hb
       ·
        split
        ·
         exact h.write
        ·
         split
         ·
          exact h.read
         ·
          exact h1
theorem Jf.step {q : Nat} (hg : g.ok = true) (h : Jf g q j) (h8 : ∀ x ∈ j.listed, x < 256) (k : Int) (b : Nat) (hb : b < 256) : Jf g (q + 1) (j.step g k b).2 := by
 have h1 := h.acc hg h8 k b hb
 unfold Jd.step
 split
 ·
  exact h.more (Nat.le_succ q)
 ·
  split
  ·
   exact { h1 with }
  ·
   show Jf g (q + 1) (if _ then _ else _)
   split
   ·
    exact h1
   ·
    exact { h1 with }
theorem JH.l8 (h : JH I w p g j) : ∀ x ∈ j.listed, x < 256 := by
 obtain ⟨_, _, hr⟩ := h
 exact hr.l8
/-- A new judge; of k blocks the last page is set. -/
def Jd.newK (k : Nat) : Jd := { op := 0, listed := [], count := 0, busy := false, pol := false, bg := false, bgb := 0, data := false, col := 0, rows := [], blocks := [], erases := [], er := fun _ => false, la := fun b => if b < k then -1 else 0, pr := fun _ => 0, rej := false }
def Jd.new : Jd := { Jd.newK 0 with la := fun _ => -1 }
theorem Jf.new (g : Gm) : Jf g 0 Jd.new :=
 ⟨Nat.zero_le _, Nat.zero_le _, Nat.zero_le _, Nat.zero_le _, fun _ => Nat.zero_le _, Nat.zero_le _, Nat.zero_le _, Nat.zero_le _, fun x hx => absurd (show x ∈ ([] : List Nat) from hx) (by simp), fun x hx => absurd (show x ∈ ([] : List Nat) from hx) (by simp)⟩
end
end Go.Proofs.Ytaidgjidpghgnaa

/-
  The judge's New.
-/
namespace Go.Proofs.Ytaidgjidpghgnaa
open Go.RowKit
set_option maxRecDepth 100000

section
variable {I K : Nat → Prop} {w w' : World} {p : Nat} {g : Gm} {j : Jd} {m : Jm}
theorem jmade_get (z : Array Value) (n j : Nat) (h : j < n) : (madeCells z n)[j]? = some z[j % z.size]! := by
 unfold madeCells
 rw [Array.getElem?_map, Array.getElem?_range, if_pos h]
 rfl
def Z66 : Array Value := (Value.bool false :: Value.int .i64 0 :: List.replicate 64 (Value.int .i64 0)).toArray
theorem Z66_at (o : Nat) (ho : o < 66) : Z66[o]! = if o = 0 then .bool false else .int .i64 0 := by
 have h : ∀ x : Fin 66, (Z66[x.val]? = some (if x.val = 0 then .bool false else .int .i64 0)) := by
  intro x
  unfold Z66
  rw [List.getElem?_toArray]
  obtain ⟨x, hx⟩ := x
  match x with
  | 0 => rfl
  | 1 => rfl
  | x + 2 =>
   simp only [List.getElem?_cons_succ, List.getElem?_replicate]
   rw [if_pos (by omega), if_neg (by omega)]
 have h1 := h ⟨o, ho⟩
 rw [getElem!_def, h1]
theorem info_rec : ∃ i, Try.prog.info? 55 = some i ∧ i.zero = some (.agg Z66) ∧ i.size = 66 ∧ i.bytes ≤ 1000 := by
 have h : ((Try.prog.info? 55).map fun i => (i.zero, i.size, decide (i.bytes ≤ 1000))) = some (some (.agg Z66), 66, true) := by kernel_rfl
 rcases e : Try.prog.info? 55 with _ | i
 ·
  rw [e] at h; cases h
 ·
  rw [e] at h
  injection h with h
  injection h with h1 h
  injection h with h2 h3
  exact ⟨i, rfl, h1, h2, of_decide_eq_true h3⟩
/-- A new judge at p. -/
def NewIs (g : Gm) (w : World) (e : Ending) (w' : World) : Prop := ∃ p, e = .returned (.tuple #[.pointer (some ⟨p, 0, none⟩), .int .i64 0]) ∧ Below w.heap.size w w' ∧ JH (fun k => w.heap.size ≤ k) w' p g Jd.new
theorem jNew_no (g : Gm) (h : g.ok = false) (w : World) : Calls Try.prog 6 #[g.val] w (Gives (.tuple #[.pointer none, .int .i64 2]) w) := by
 have B0 := Lib.hid (below_new w (.cells #[.int .i64 g.p, .int .i64 g.b, .int .i64 g.s, .int .i64 g.c, .int .i64 g.k, .int .i64 g.r, .int .i64 g.q] 23))
 have Y0 := Lib.hid (GBox.new w g 23)
 have HC := Lib.hid (fun W => Check_no g h W)
 simp only [Gm.val] at HC ⊢
 clear h
 go_enter Try.func6, Try.ntmps6
 obtain ⟨_, g0, g1, g2, g3, g4, g5, g6⟩ := Y0.out
 go_wp2_with fail
 clear g0 g1 g2 g3 g4 g5 g6
 refine (HC.out _).mono ?_
 rintro _ w1 ⟨rfl, h1⟩
 have B1 := Lib.hid (below_step B0.out h1)
 clear h1
 go_wp2
 go_ret2
 exact ⟨rfl, B1.out⟩
set_option maxHeartbeats 2000000 in
theorem jNew (g : Gm) (h : g.ok = true) (w : World) : Calls Try.prog 6 #[g.val] w (NewIs g w) := by
 have B0 := Lib.hid (below_new w (.cells #[.int .i64 g.p, .int .i64 g.b, .int .i64 g.s, .int .i64 g.c, .int .i64 g.k, .int .i64 g.r, .int .i64 g.q] 23))
 have Y0 := Lib.hid (GBox.new w g 23)
 have HC := Lib.hid (fun W => Check_yes g h W)
 have hbd := Gm.bounds_of h
 obtain ⟨B, hB⟩ : ∃ B, B = g.b.toNat := ⟨_, rfl⟩
 have HB := Lib.hid (show g.b = (B : Int) by omega)
 have HBN := Lib.hid hB
 have hb5 : 2 ≤ B ∧ B ≤ 256 := by omega
 obtain ⟨iR, hiR, hzR, hsR, hbR⟩ := info_rec
 have hmkR := Lib.hid (fun w' : World => by
  have h := run_make (P := Try.prog) w' 46 55 iR _ Try.underlying46 hiR hzR .i64 .i64 (B : Int) (B : Int) (by omega) (Int.le_refl _) (by
   have h1 : (iR.bytes : Int) * (B : Int) ≤ 1000 * 256 := (mul_le (by omega) (by omega) (by omega) (by omega)).2
   omega) (by omega)
  rw [hsR, Int.toNat_natCast, show (Value.agg Z66).cells = Z66 from rfl] at h
  exact h)
 have HOK := Lib.hid h
 simp only [Gm.val] at HC ⊢
 clear h hbd hB hiR hzR hsR hbR
 go_enter Try.func6, Try.ntmps6
 obtain ⟨_, g0, g1, g2, g3, g4, g5, g6⟩ := Y0.out
 go_wp2_with fail
 clear g0 g1 g2 g3 g4 g5 g6
 refine (HC.out _).mono ?_
 rintro _ w1 ⟨rfl, h1⟩
 have B1 := Lib.hid (below_step B0.out h1)
 have Y1 := Lib.hid (Y0.out.below h1)
 have L1 := Lib.hid B1.out.size
 clear h1 HC B0 Y0
 go_wp2
 refine wp_region_noPanic ?_
 refine wp_region_held_drew (S := fun w' => Below w1.heap.size w1 w') (by kernel_rfl) ((Below.refl _ _).drew) (fun C9 => ?_)
 refine tkH 0 zD0 _ C9 rfl (by kernel_rfl) rfl (fun W' hSw => by obtain ⟨_, y0, y1, y2, y3, y4, y5, y6⟩ := Y1.out.below hSw; clear hSw; dsimp only [zD0]; go_simp <;> with_reducible rfl) ?_
 try simp only [zD0, Act.put, zzI, zzO, zzS]
 refine tkH 1 zD1 _ C9 rfl (by kernel_rfl) rfl (fun W h => by clear h; dsimp only [zD1]; go_simp <;> with_reducible rfl) ?_
 try simp only [zD1, Act.put, zzI, zzO, zzS]
 refine tkH 2 zD2 _ C9 rfl (by kernel_rfl) rfl (fun W' hSw => by obtain ⟨_, y0, y1, y2, y3, y4, y5, y6⟩ := Y1.out.below hSw; rw [HB.out] at y1; clear hSw; dsimp only [zD2]; go_simp <;> with_reducible rfl) ?_
 try simp only [zD2, Act.put, zzI, zzO, zzS]
 refine wpAnyH_ready (rs := [3]) (by kernel_rfl) (by simp) ?_
 refine AllReadyH.cons (o := { dst := some 12, op := Op.makeSlice 46 (Operand.tmp 11) (Operand.tmp 11), type := 46, pos := "judge.go:58", after := #[{ on := 2, ground := Ground.data }, { on := 2, ground := Ground.data }], guard := none }) rfl (fun K hK => ?_) AllReadyH.nil
 have hmk := hmkR.out w1.drew
 go_simp
 refine hK.out _ _ (show Below w1.heap.size w1 _ from ((Below.refl _ _).drew).alloc (Nat.le_refl _) _) (fun C10 => ?_)
 clear hK K
 try simp only [Act.put, zzI, zzO, zzS]
 refine tkH 4 zD3 _ C10 rfl (by kernel_rfl) rfl (fun W h => by clear h; dsimp only [zD3]; go_simp <;> with_reducible rfl) ?_
 try simp only [zD3, Act.put, zzI, zzO, zzS]
 refine wpAnyH_ready (rs := [5]) (by kernel_rfl) (by simp) ?_
 refine AllReadyH.cons (o := { dst := some 14, op := Op.box 52 (Operand.tmp 13), type := 27, pos := "judge.go:58", after := #[{ on := 4, ground := Ground.data }], guard := none }) rfl (fun K hK => ?_) AllReadyH.nil
 go_simp
 refine hK.out _ _ (show Below w1.heap.size w1 _ from (((Below.refl _ _).drew).alloc (Nat.le_refl _) _).alloc (by simp) _) (fun C11 => ?_)
 clear hK K
 try simp only [Act.put, zzI, zzO, zzS]
 refine tkH 6 zD4 _ C11 rfl (by kernel_rfl) rfl (fun W h => by clear h; dsimp only [zD4]; go_simp <;> with_reducible rfl) ?_
 try simp only [zD4, Act.put, zzI, zzO, zzS]
 refine wpAnyH_done (by kernel_rfl) ?_ _
 refine NoPanic.normal ?_
 obtain ⟨w3, hw3⟩ : ∃ w3, w3 = ((w1.alloc (.cells (madeCells Z66 (B * 66)) 55)).alloc (.cells #[.int .i64 0, .slice none 0 0, .int .i64 0, .bool false, .bool false, .bool false, .int .i64 0, .bool false, .int .i64 0, .slice none 0 0, .slice none 0 0, .slice none 0 0, .int .i64 g.p, .int .i64 g.b, .int .i64 g.s, .int .i64 g.c, .int .i64 g.k, .int .i64 g.r, .int .i64 g.q, .slice (some ⟨w1.heap.size, 0, none⟩) B B, .bool false] 52)).drew := ⟨_, rfl⟩
 have K3 := Lib.hid (show CRow w3 (w1.heap.size + 1) 52 #[.int .i64 0, .slice none 0 0, .int .i64 0, .bool false, .bool false, .bool false, .int .i64 0, .bool false, .int .i64 0, .slice none 0 0, .slice none 0 0, .slice none 0 0, .int .i64 g.p, .int .i64 g.b, .int .i64 g.s, .int .i64 g.c, .int .i64 g.k, .int .i64 g.r, .int .i64 g.q, .slice (some ⟨w1.heap.size, 0, none⟩) B B, .bool false] by
  rw [hw3]
  have h0 := (CRow.new (w1.alloc (.cells (madeCells Z66 (B * 66)) 55)) #[.int .i64 0, .slice none 0 0, .int .i64 0, .bool false, .bool false, .bool false, .int .i64 0, .bool false, .int .i64 0, .slice none 0 0, .slice none 0 0, .slice none 0 0, .int .i64 g.p, .int .i64 g.b, .int .i64 g.s, .int .i64 g.c, .int .i64 g.k, .int .i64 g.r, .int .i64 g.q, .slice (some ⟨w1.heap.size, 0, none⟩) B B, .bool false] 52).drew
  simpa using h0)
 have X3 := Lib.hid (show Cells w3 w1.heap.size 55 (recF g (Jd.newK 0)) by
  rw [hw3]
  refine ⟨madeCells Z66 (B * 66), ((CRow.new w1 _ _).alloc _).drew, fun i v hv => ?_⟩
  unfold recF at hv
  rw [← HBN.out] at hv
  by_cases hi : i / 66 < B
  ·
   rw [if_pos hi] at hv
   injection hv with hv
   rw [jmade_get _ _ _ (by omega), show Z66.size = 66 by simp [Z66], Z66_at _ (by omega), ← hv]
   unfold recV Jd.newK
   by_cases e0 : i % 66 = 0
   ·
    rw [if_pos e0, if_pos e0]
   ·
    rw [if_neg e0, if_neg e0]
    by_cases e1 : i % 66 = 1
    ·
     rw [if_pos e1]; rfl
    ·
     rw [if_neg e1]
     split <;> rfl
  ·
   rw [if_neg hi] at hv; cases hv)
 have B3 := Lib.hid (show Below w.heap.size w w3 by
  rw [hw3]
  exact ((B1.out.alloc L1.out _).alloc (by have := L1.out; simp; omega) _).drew)
 have S3 := Lib.hid (show w3.heap.size = w1.heap.size + 2 by rw [hw3]; simp)
 have N9 := Lib.hid (show ∀ W, CRow W (w1.heap.size + 1) 52 #[.int .i64 0, .slice none 0 0, .int .i64 0, .bool false, .bool false, .bool false, .int .i64 0, .bool false, .int .i64 0, .slice none 0 0, .slice none 0 0, .slice none 0 0, .int .i64 g.p, .int .i64 g.b, .int .i64 g.s, .int .i64 g.c, .int .i64 g.k, .int .i64 g.r, .int .i64 g.q, .slice (some ⟨w1.heap.size, 0, none⟩) B B, .bool false] → W.cell? ⟨w1.heap.size + 1, 19, none⟩ = some (.slice (some ⟨w1.heap.size, 0, none⟩) B B) from fun W hW => hW.cell_at 19 _ rfl)
 rw [← hw3]
 clear hw3 hmkR
 have x19 := N9.out _ K3.out
 go_wp2
 clear x19
 go_loopw [20] (fun i wr => ∃ k : Nat, k ≤ B ∧ i = .int .i64 (k : Int) ∧ Hid (CRow wr (w1.heap.size + 1) 52 #[.int .i64 0, .slice none 0 0, .int .i64 0, .bool false, .bool false, .bool false, .int .i64 0, .bool false, .int .i64 0, .slice none 0 0, .slice none 0 0, .slice none 0 0, .int .i64 g.p, .int .i64 g.b, .int .i64 g.s, .int .i64 g.c, .int .i64 g.k, .int .i64 g.r, .int .i64 g.q, .slice (some ⟨w1.heap.size, 0, none⟩) B B, .bool false]) ∧ Hid (Cells wr w1.heap.size 55 (recF g (Jd.newK k))) ∧ Hid (Below w.heap.size w wr) ∧ Hid (w1.heap.size + 2 ≤ wr.heap.size)) (fun i _ => B - (intOf i).toNat)
 case atStart => exact ⟨0, Nat.zero_le _, rfl, K3, X3, B3, Lib.hid (by rw [S3.out]; exact Nat.le_refl _)⟩
 case round =>
  obtain ⟨k, hk, rfl, K4, X4, B4, S4⟩ := hrel
  rename World => wr
  clear K3 X3 B3 S3
  by_cases hlt : k < B
  ·
   have x19 := N9.out _ K4.out
   have E1 := Lib.hid (rec_la (g := g) (j := Jd.newK k) (b := k) (by rw [← HBN.out]; exact hlt))
   have e1 := X4.out.cell E1.out
   have f1 := X4.out.frozen (k * 66 + 1)
   have d1 : decide ((k : Int) < (B : Int)) = true := decide_eq_true (by omega)
   have i0 : (0 : Int) ≤ (k : Int) := by omega
   have i1 : (k : Int) < (B : Int) := by omega
   have HLT := Lib.hid hlt
   go_wp2
   go_roundw
   case rel =>
    have hset := (X4.out.set E1.out (.int .i64 (-1))).sub (f' := recF g (Jd.newK (k + 1))) (fun i v h => by
     have h1 := rec_set_la (g := g) (j := Jd.newK k) (la' := (Jd.newK (k + 1)).la) (x := k) (by rw [← HBN.out]; exact HLT.out) (fun b hne => by
      show (if b < k + 1 then (-1 : Int) else 0) = (if b < k then -1 else 0)
      by_cases h2 : b < k
      ·
       rw [if_pos h2, if_pos (by omega)]
      ·
       rw [if_neg h2, if_neg (by omega)]) i v h
     rw [show (Jd.newK (k + 1)).la k = -1 from if_pos (Nat.lt_succ_self k)] at h1
     exact h1)
    have KB := (Btw.refl (I := fun q => q = w1.heap.size) wr).setCell (p := ⟨w1.heap.size, k * 66 + 1, none⟩) (v := .int .i64 (-1)) rfl
    exact ⟨k + 1, by omega, by go_num, Lib.hid (K4.out.btw KB (by omega)), Lib.hid hset, Lib.hid (B4.out.trans (KB.below (S := w.heap.size) (fun q hq => by rw [hq]; exact L1.out) B4.out.size)), Lib.hid (Nat.le_trans S4.out KB.size)⟩
   case measure => simp [intOf]; omega
  ·
   obtain rfl : k = B := by omega
   have d1 : decide ((k : Int) < (k : Int)) = false := decide_eq_false (by omega)
   go_wp2
   go_ret2
   have hrec := X4.out.sub (f' := recF g Jd.new) (fun i v h => by
    rw [← h]
    unfold recF
    rw [← HBN.out]
    by_cases hi : i / 66 < k
    ·
     rw [if_pos hi, if_pos hi]
     unfold recV
     rw [show (Jd.newK k).la (i / 66) = -1 from if_pos hi]
     rfl
    ·
     rw [if_neg hi, if_neg hi])
   have hs := S4.out
   have hl := L1.out
   exact ⟨w1.heap.size + 1, rfl, B4.out, { aL := none, cL := 0, aR := none, cR := 0, aB := none, cB := 0, aE := none, cE := 0, r := w1.heap.size }, (by
    have h0 := K4.out
    rw [HBN.out] at h0
    exact h0), {
     ok := HOK.out
     rcs := hrec
     lis := ⟨rfl, .inl ⟨rfl, rfl⟩⟩
     l8 := fun x hx => absurd (show x ∈ ([] : List Nat) from hx) (by simp)
     row := ⟨rfl, .inl ⟨rfl, rfl⟩⟩
     blk := ⟨rfl, .inl ⟨rfl, rfl⟩⟩
     ers := ⟨rfl, .inl ⟨rfl, rfl⟩⟩
     ab := fun k hk => (by cases hk)
     ae := fun k hk => (by cases hk)
     be := fun k hk => (by cases hk)
     ip := by show w.heap.size ≤ w1.heap.size + 1; omega
     ir := by show w.heap.size ≤ w1.heap.size; omega
     iL := fun k hk => (by cases hk)
     iR := fun k hk => (by cases hk)
     iB := fun k hk => (by cases hk)
     iE := fun k hk => (by cases hk)
     new := fun k hk => by show w.heap.size ≤ k; have := B4.out.size; omega }⟩
end
end Go.Proofs.Ytaidgjidpghgnaa

/-
  Run, plain, awake.
-/
namespace Go.Proofs.Ytaidgjidpghgnaa
open Go.RowKit
set_option maxRecDepth 100000

section
variable {I K : Nat → Prop} {w w' : World} {p : Nat} {g : Gm} {j : Jd} {m : Jm}
/-- The judge behind k cycles of l; whether it accepts the k-th. -/
def stJ (g : Gm) (l : List Cy) : Nat → Jd
 | 0 => Jd.new
 | k + 1 => match l[k]? with
  | some t => ((stJ g l k).step g t.k t.b).2
  | none => stJ g l k
def okJ (g : Gm) (l : List Cy) (k : Nat) : Bool := match l[k]? with
 | some t => ((stJ g l k).step g t.k t.b).1
 | none => false
theorem stJ_succ {l : List Cy} {k : Nat} {t : Cy} (h : l[k]? = some t) : stJ g l (k + 1) = ((stJ g l k).step g t.k t.b).2 := by
 show (match l[k]? with | some t => ((stJ g l k).step g t.k t.b).2 | none => stJ g l k) = _
 rw [h]
theorem okJ_is {l : List Cy} {k : Nat} {t : Cy} (h : l[k]? = some t) : okJ g l k = ((stJ g l k).step g t.k t.b).1 := by
 unfold okJ
 rw [h]
/-- What Run tells: c cycles of n ahead of the first one that is rejected. -/
def RunIs (g : Gm) (l : List Cy) (n c : Nat) : Prop := c ≤ n ∧ (∀ k, k < c → okJ g l k = true) ∧ (c < n → okJ g l c = false)
theorem jRun_no (h : g.ok = false) (A : Option Addr) (n d : Nat) (w : World) : Calls Try.prog 7 #[g.val, .slice A n d] w (Gives (.tuple #[.int .i64 0, .bool false]) w) := by
 have B0 := Lib.hid (below_new w (.cells #[.int .i64 g.p, .int .i64 g.b, .int .i64 g.s, .int .i64 g.c, .int .i64 g.k, .int .i64 g.r, .int .i64 g.q] 23))
 have Y0 := Lib.hid (GBox.new w g 23)
 have HC := Lib.hid (fun W => jNew_no g h W)
 simp only [Gm.val] at HC ⊢
 clear h
 go_enter Try.func7, Try.ntmps7
 obtain ⟨_, g0, g1, g2, g3, g4, g5, g6⟩ := Y0.out
 go_wp2_with fail
 clear g0 g1 g2 g3 g4 g5 g6
 refine (HC.out _).mono ?_
 rintro _ w1 ⟨rfl, h1⟩
 have B1 := Lib.hid (below_step B0.out h1)
 clear h1
 go_wp2
 go_ret2
 exact ⟨rfl, B1.out⟩
set_option maxHeartbeats 2000000 in
theorem jRun (h : g.ok = true) (A : Option Addr) (n d : Nat) (l : List Cy) (hn : n ≤ 50000) (w : World) (hl : RC w A n l) : Calls Try.prog 7 #[g.val, .slice A n d] w fun e w' => ∃ c, RunIs g l n c ∧ e = .returned (.tuple #[.int .i64 (c : Int), .bool (decide (c = n))]) ∧ Below w.heap.size w w' := by
 have B0 := Lib.hid (below_new w (.cells #[.int .i64 g.p, .int .i64 g.b, .int .i64 g.s, .int .i64 g.c, .int .i64 g.k, .int .i64 g.r, .int .i64 g.q] 23))
 have Y0 := Lib.hid (GBox.new w g 23)
 have HC := Lib.hid (fun W => jNew g h W)
 have HR := Lib.hid hl
 have HOK := Lib.hid h
 simp only [Gm.val] at HC ⊢
 clear h hl
 go_enter Try.func7, Try.ntmps7
 obtain ⟨_, g0, g1, g2, g3, g4, g5, g6⟩ := Y0.out
 go_wp2_with fail
 clear g0 g1 g2 g3 g4 g5 g6
 refine (HC.out _).mono ?_
 rintro _ w1 ⟨p, rfl, h1, hj⟩
 have B1 := Lib.hid (below_step B0.out h1)
 have J1 := Lib.hid (show JH _ w1 p g (stJ g l 0) from hj)
 have F1 := Lib.hid (show Jf g 0 (stJ g l 0) from Jf.new g)
 obtain ⟨I, hI⟩ : ∃ I, I = fun k => (w.alloc (.cells #[.int .i64 g.p, .int .i64 g.b, .int .i64 g.s, .int .i64 g.c, .int .i64 g.k, .int .i64 g.r, .int .i64 g.q] 23)).heap.size ≤ k := ⟨_, rfl⟩
 have HI := Lib.hid (show ∀ k, I k → w.heap.size ≤ k from fun k hk => by
  rw [hI] at hk
  have e : (w.alloc (.cells #[.int .i64 g.p, .int .i64 g.b, .int .i64 g.s, .int .i64 g.c, .int .i64 g.k, .int .i64 g.r, .int .i64 g.q] 23)).heap.size = w.heap.size + 1 := by simp
  have hk : (w.alloc (.cells #[.int .i64 g.p, .int .i64 g.b, .int .i64 g.s, .int .i64 g.c, .int .i64 g.k, .int .i64 g.r, .int .i64 g.q] 23)).heap.size ≤ k := hk
  omega)
 rw [← hI] at J1
 clear h1 hj HC B0 Y0 hI
 go_wp2
 go_loopw [19] (fun i wr => ∃ k : Nat, k ≤ n ∧ i = .int .i64 (k : Int) ∧ Hid (∀ q, q < k → okJ g l q = true) ∧ Hid (Jf g k (stJ g l k)) ∧ Hid (JH I wr p g (stJ g l k)) ∧ Hid (Below w.heap.size w wr)) (fun i _ => n - (intOf i).toNat)
 case atStart => exact ⟨0, Nat.zero_le _, rfl, Lib.hid (fun q hq => absurd hq (by omega)), F1, J1, B1⟩
 case round =>
  obtain ⟨k, hk, rfl, HO, HF, HJ, HB⟩ := hrel
  rename World => wr
  clear J1 F1 B1
  by_cases hlt : k < n
  ·
   obtain ⟨b9, o9, t, rfl, hb9, HX, hin, x0, x1⟩ := (HR.out.below HB.out).at_ hlt
   have d1 : decide ((k : Int) < (n : Int)) = true := decide_eq_true (by omega)
   have i0 : (0 : Int) ≤ (k : Int) := by omega
   have N1 := Lib.hid (below_new wr (.cells #[.int .i64 t.k, .int .u8 (t.b : Int)] 36))
   have HA1 := Lib.hid (HJ.out.below N1.out)
   have B1 := Lib.hid (below_step HB.out N1.out)
   have HS := Lib.hid (jStep (q := k) t.k t.b hin.2.2 (by omega) HF.out HA1.out)
   have HL := Lib.hid (HF.out.step HOK.out HJ.out.l8 t.k t.b hin.2.2)
   rw [← stJ_succ HX.out] at HL
   rw [← stJ_succ HX.out, ← okJ_is HX.out] at HS
   clear HJ HB HF hb9 hin
   go_wp2_with fail
   clear x0 x1
   refine HS.out.mono ?_
   rintro e w2 ⟨he, hj2, hb2⟩
   have J2 := Lib.hid hj2
   have B2 := Lib.hid (B1.out.trans (hb2.below (S := w.heap.size) HI.out B1.out.size))
   cases hv : okJ g l k with
   | false =>
    rw [hv] at he
    subst he
    have HV := Lib.hid hv
    have HKN := Lib.hid hlt
    clear hv hj2 hb2 HS N1
    go_wp2
    go_ret2
    exact ⟨k, ⟨hk, HO.out, fun _ => HV.out⟩, by rw [decide_eq_false (by have := HKN.out; omega)]; rfl, B2.out⟩
   | true =>
    rw [hv] at he
    subst he
    have HV := Lib.hid hv
    clear hv hj2 hb2 HS N1
    go_wp2
    go_roundw
    case rel => exact ⟨k + 1, by omega, by go_num, Lib.hid (fun q hq => by
     by_cases e : q = k
     ·
      rw [e]; exact HV.out
     ·
      exact HO.out q (by omega)), HL, J2, B2⟩
    case measure => simp [intOf]; omega
  ·
   obtain rfl : k = n := by omega
   have d1 : decide ((k : Int) < (k : Int)) = false := decide_eq_false (by omega)
   go_wp2
   go_ret2
   exact ⟨k, ⟨Nat.le_refl _, HO.out, fun h => absurd h (by omega)⟩, by rw [decide_eq_true rfl]; rfl, HB.out⟩
def geo15 : Gm := ⟨1, 2, 4, 1, 4, 1, 1⟩
theorem geo15_ok : geo15.ok = true := by decide +kernel
theorem size_geom15 : (Try.prog.info? 23).map (·.size) = some 7 := by kernel_rfl
set_option maxHeartbeats 400000 in
theorem plain15_any (w : World) : Calls Try.prog 17 #[] w (Gives geo15.val w) := by
 go_enter Try.func17, Try.ntmps17
 have T0 := Lib.hid (CRow.new w #[.int .i64 0, .int .i64 0, .int .i64 0, .int .i64 0, .int .i64 0, .int .i64 0, .int .i64 0] 23)
 have B0 := Lib.hid (below_new w (.cells #[.int .i64 0, .int .i64 0, .int .i64 0, .int .i64 0, .int .i64 0, .int .i64 0, .int .i64 0] 23))
 go_wp2_with (with_reducible refine (?_ : wpList _ _ _ ({ dst := _, op := Op.store 23 _ _, type := _, pos := _, after := _, guard := _ } :: _) _ _); refine wpList_store_at rfl 23 _ _ rfl 7 size_geom15 _ w.heap.size ?hx rfl _ T0.out.row ?hn ?ho ?h1 ?_; (case hx => simp [Act.eval]); (case hn => simp); (case ho => simp); (case h1 => simp [Value.oneCell']))
 have B9 := Lib.hid (below_setRow B0.out (Nat.le_refl _) #[.int .i64 1, .int .i64 2, .int .i64 4, .int .i64 1, .int .i64 4, .int .i64 1, .int .i64 1])
 have T9 := Lib.hid (T0.out.set #[.int .i64 1, .int .i64 2, .int .i64 4, .int .i64 1, .int .i64 4, .int .i64 1, .int .i64 1])
 go_wp2
 refine bodyPost_ret (results_cell_row rfl _ _ w.heap.size 23 _ (0, 0) _ rfl T9.out.row Try.underlying23 rfl size_geom15) rfl ?_
 exact ⟨rfl, B9.out⟩
theorem RC_new (w : World) (l : List Cy) (hi : ∀ t ∈ l, inC t) (t : TypeId) : RC (w.alloc (.cells (CyC l).toArray t)) (some ⟨w.heap.size, 0, none⟩) l.length l := by
 refine ⟨rfl, hi, fun _ => ⟨w.heap.size, 0, rfl, by simp, fun j hj => ?_⟩⟩
 rw [Nat.zero_add, (CRow.new w (CyC l).toArray t).cell j]
 simp
theorem run_2 (c : Nat) (h : RunIs geo15 [⟨1, 255⟩, ⟨1, 112⟩] 2 c) : c = 2 := by
 obtain ⟨h1, h2, h3⟩ := h
 have k0 : okJ geo15 [⟨1, 255⟩, ⟨1, 112⟩] 0 = true := by rfl
 have k1 : okJ geo15 [⟨1, 255⟩, ⟨1, 112⟩] 1 = true := by rfl
 have hd : c = 0 ∨ c = 1 ∨ c = 2 := by omega
 rcases hd with rfl | rfl | rfl
 ·
  have := h3 (by omega); rw [k0] at this; cases this
 ·
  have := h3 (by omega); rw [k1] at this; cases this
 ·
  rfl
theorem run_1 (c : Nat) (h : RunIs geo15 [⟨1, 112⟩] 1 c) : c = 0 := by
 obtain ⟨h1, h2, h3⟩ := h
 have k0 : okJ geo15 [⟨1, 112⟩] 0 = false := by rfl
 have hd : c = 0 ∨ c = 1 := by omega
 rcases hd with rfl | rfl
 ·
  rfl
 ·
  have := h2 0 (by omega); rw [k0] at this; cases this
set_option maxHeartbeats 2000000 in
theorem awake15_any (w : World) : Calls Try.prog 4 #[] w (Gives (.bool true) w) := by
 have HR2 := Lib.hid (fun W (A : Option Addr) (hl : RC W A 2 [⟨1, 255⟩, ⟨1, 112⟩]) => jRun geo15_ok A 2 2 _ (by omega) W hl)
 have HR1 := Lib.hid (fun W (A : Option Addr) (hl : RC W A 1 [⟨1, 112⟩]) => jRun geo15_ok A 1 1 _ (by omega) W hl)
 simp only [Gm.val, geo15] at HR2 HR1
 have HP := Lib.hid (fun W => plain15_any W)
 simp only [Gm.val, geo15] at HP
 go_enter Try.func4, Try.ntmps4
 go_wp2_with fail
 refine (HP.out _).mono ?_
 rintro _ w1 ⟨rfl, h1⟩
 have B1 := Lib.hid h1
 clear h1
 have L2 := Lib.hid (RC_new w1 [⟨1, 255⟩, ⟨1, 112⟩] (by intro t ht; simp at ht; rcases ht with rfl | rfl <;> simp [inC]) 36)
 have N2 := Lib.hid (below_new w1 (.cells (CyC [⟨1, 255⟩, ⟨1, 112⟩]).toArray 36))
 simp only [CyC, List.flatMap_cons, List.flatMap_nil, List.append_nil, List.cons_append, List.nil_append, List.length_cons, List.length_nil] at L2 N2
 go_wp2_with fail
 refine (HR2.out _ _ L2.out).mono ?_
 rintro _ w2 ⟨c, hc, rfl, h2⟩
 obtain rfl := run_2 c hc
 have B2 := Lib.hid (below_step (below_step B1.out N2.out) h2)
 clear h2 hc L2 N2
 go_wp2_with fail
 refine (HP.out _).mono ?_
 rintro _ w3 ⟨rfl, h3⟩
 have B3 := Lib.hid (below_step B2.out h3)
 clear h3
 have L4 := Lib.hid (RC_new w3 [⟨1, 112⟩] (by intro t ht; simp at ht; rcases ht with rfl; simp [inC]) 36)
 have N4 := Lib.hid (below_new w3 (.cells (CyC [⟨1, 112⟩]).toArray 36))
 simp only [CyC, List.flatMap_cons, List.flatMap_nil, List.append_nil, List.length_cons, List.length_nil] at L4 N4
 go_wp2_with fail
 refine (HR1.out _ _ L4.out).mono ?_
 rintro _ w4 ⟨c, hc, rfl, h4⟩
 obtain rfl := run_1 c hc
 have B4 := Lib.hid (below_step (below_step B3.out N4.out) h4)
 clear h4 hc L4 N4
 go_wp2
 go_ret
 exact ⟨rfl, B4.out⟩
end
end Go.Proofs.Ytaidgjidpghgnaa

/-
  Words for the judge's laws.
-/
namespace Go.Proofs.Ytaidgjidpghgnaa
open Go.RowKit
set_option maxRecDepth 100000

/-- Small enough for a play. -/
def jsmall (g : Gm) : Prop := smallG g ∧ g.b ≤ 16 ∧ g.s ≤ 12
set_option maxHeartbeats 1000000 in
theorem jSmall_any (g : Gm) (w : World) : ∃ v, (v = true ↔ jsmall g) ∧ Calls Try.prog 5 #[g.val] w (Gives (.bool v) w) := by
 have Y0 := Lib.hid (GBox.new w g 23)
 have B0 := Lib.hid (below_new w (.cells #[.int .i64 g.p, .int .i64 g.b, .int .i64 g.s, .int .i64 g.c, .int .i64 g.k, .int .i64 g.r, .int .i64 g.q] 23))
 by_cases hs : smallG g
 ·
  have HS := Lib.hid (fun w' => Small_yes g hs w')
  unfold Gm.val at HS ⊢
  by_cases h1 : g.b ≤ 16
  ·
   have d1 : decide (g.b ≤ 16) = true := decide_eq_true h1
   by_cases h2 : g.s ≤ 12
   ·
    have d2 : decide (g.s ≤ 12) = true := decide_eq_true h2
    refine ⟨true, ⟨fun _ => ⟨hs, h1, h2⟩, fun _ => rfl⟩, ?_⟩
    clear hs
    go_enter Try.func5, Try.ntmps5
    obtain ⟨_, g0, g1, g2, g3, g4, g5, g6⟩ := Y0.out
    go_wp2_with fail
    refine (HS.out _).mono ?_
    rintro _ w1 ⟨rfl, h3⟩
    have B1 := Lib.hid (below_step B0.out h3)
    clear g0 g1 g2 g3 g4 g5 g6
    obtain ⟨_, g0, g1, g2, g3, g4, g5, g6⟩ := Y0.out.below h3
    clear h3
    go_wp2
    go_ret
    exact ⟨rfl, B1.out⟩
   ·
    have d2 : decide (g.s ≤ 12) = false := decide_eq_false h2
    refine ⟨false, ⟨(by intro h; cases h), fun h => absurd h.2.2 h2⟩, ?_⟩
    clear hs
    go_enter Try.func5, Try.ntmps5
    obtain ⟨_, g0, g1, g2, g3, g4, g5, g6⟩ := Y0.out
    go_wp2_with fail
    refine (HS.out _).mono ?_
    rintro _ w1 ⟨rfl, h3⟩
    have B1 := Lib.hid (below_step B0.out h3)
    clear g0 g1 g2 g3 g4 g5 g6
    obtain ⟨_, g0, g1, g2, g3, g4, g5, g6⟩ := Y0.out.below h3
    clear h3
    go_wp2
    go_ret
    exact ⟨rfl, B1.out⟩
  ·
   have d1 : decide (g.b ≤ 16) = false := decide_eq_false h1
   refine ⟨false, ⟨(by intro h; cases h), fun h => absurd h.2.1 h1⟩, ?_⟩
   clear hs
   go_enter Try.func5, Try.ntmps5
   obtain ⟨_, g0, g1, g2, g3, g4, g5, g6⟩ := Y0.out
   go_wp2_with fail
   refine (HS.out _).mono ?_
   rintro _ w1 ⟨rfl, h3⟩
   have B1 := Lib.hid (below_step B0.out h3)
   clear g0 g1 g2 g3 g4 g5 g6
   obtain ⟨_, g0, g1, g2, g3, g4, g5, g6⟩ := Y0.out.below h3
   clear h3
   go_wp2
   go_ret
   exact ⟨rfl, B1.out⟩
 ·
  have HS := Lib.hid (fun w' => Small_no g hs w')
  unfold Gm.val at HS ⊢
  refine ⟨false, ⟨(by intro h; cases h), fun h => absurd h.1 hs⟩, ?_⟩
  clear hs
  go_enter Try.func5, Try.ntmps5
  obtain ⟨_, g0, g1, g2, g3, g4, g5, g6⟩ := Y0.out
  go_wp2_with fail
  refine (HS.out _).mono ?_
  rintro _ w1 ⟨rfl, h3⟩
  have B1 := Lib.hid (below_step B0.out h3)
  clear g0 g1 g2 g3 g4 g5 g6 h3
  go_wp2
  go_ret
  exact ⟨rfl, B1.out⟩
section
variable {I K : Nat → Prop} {w w' : World} {p : Nat} {g : Gm} {j : Jd} {m : Jm}
theorem rej_begin (b : Nat) : (j.begin b).2.rej = j.rej := by
 unfold Jd.begin
 split
 ·
  rfl
 ·
  show (Jd.enter (if _ then _ else _) _).rej = _
  split <;> rfl
theorem rej_endFetch (b : Nat) : (j.endFetch b).2.rej = j.rej := by unfold Jd.endFetch; split <;> rfl
theorem rej_endMove (b : Nat) : (j.endMove b).2.rej = j.rej := by unfold Jd.endMove; split <;> rfl
theorem rej_endLoad (b : Nat) : (j.endLoad g b).2.rej = j.rej := by
 unfold Jd.endLoad
 split
 ·
  rfl
 ·
  split
  ·
   rfl
  ·
   split
   ·
    rfl
   ·
    split
    ·
     split <;> rfl
    ·
     split
     ·
      split <;> rfl
     ·
      rfl
theorem rej_endErase (b : Nat) : (j.endErase g b).2.rej = j.rej := by
 unfold Jd.endErase
 split
 ·
  rfl
 ·
  split
  ·
   rfl
  ·
   split <;> rfl
theorem rej_command (b : Nat) : (j.command g b).2.rej = j.rej := by
 unfold Jd.command
 split
 ·
  exact rej_endLoad b
 ·
  split
  ·
   exact rej_endErase b
  ·
   split
   ·
    exact rej_endMove b
   ·
    split
    ·
     split
     ·
      exact rej_begin b
     ·
      rfl
    ·
     split
     ·
      split
      ·
       exact rej_endFetch b
      ·
       split
       ·
        rfl
       ·
        exact rej_begin b
     ·
      split
      ·
       exact rej_begin b
      ·
       rfl
theorem rej_addr (b : Nat) : (j.addr g b).2.rej = j.rej := by
 unfold Jd.addr Jd.addr4
 split
 ·
  rfl
 ·
  split
  ·
   rfl
  ·
   split
   ·
    split <;> rfl
   ·
    split
    ·
     split <;> rfl
    ·
     split
     ·
      rfl
     ·
      split <;> rfl
theorem rej_write : (j.write g).2.rej = j.rej := by
 unfold Jd.write
 split
 ·
  show (if _ then _ else _ : Jd).rej = _
  split <;> rfl
 ·
  split <;> rfl
theorem rej_read : (j.read g).2.rej = j.rej := by
 unfold Jd.read
 split
 ·
  rfl
 ·
  split
  ·
   split <;> rfl
  ·
   split <;> rfl
theorem rej_acc (k : Int) (b : Nat) : (j.acc g k b).2.rej = j.rej := by
 unfold Jd.acc
 split
 ·
  rfl
 ·
  split
  ·
   rfl
  ·
   split
   ·
    rfl
   ·
    split
    ·
     show (j.poll b).rej = _
     unfold Jd.poll
     split
     ·
      rfl
     ·
      by_cases h1 : b % 2 = 1
      ·
       rw [if_pos h1]; rfl
      ·
       rw [if_neg h1]
    ·
     split
     ·
      rfl
     ·
      unfold Jd.cont
      split
      ·
       exact rej_command b
      ·
       split
       ·
        exact rej_addr b
       ·
        split
        ·
         exact rej_write
        ·
         split
         ·
          exact rej_read
         ·
          rfl
theorem RC.take_ {A : Option Addr} {n q : Nat} {l : List Cy} (h : RC w A n l) (hq : q ≤ n) : RC w A q (l.take q) := by
 obtain ⟨hl, hi, hc⟩ := h
 refine ⟨by rw [List.length_take]; omega, fun t ht => hi t (List.mem_of_mem_take ht), fun h0 => ?_⟩
 obtain ⟨b, off, e, hb, hcell⟩ := hc (by omega)
 refine ⟨b, off, e, hb, fun x hx => ?_⟩
 rw [hcell x (by omega)]
 have hk : x / 2 < l.length := by omega
 have ht : l[x / 2]? = some l[x / 2] := List.getElem?_eq_getElem hk
 have ht2 : (l.take q)[x / 2]? = some l[x / 2] := by rw [List.getElem?_take, if_pos (by omega)]; exact ht
 have e1 := CyC_at ht (x % 2) (by omega)
 have e2 := CyC_at ht2 (x % 2) (by omega)
 rw [show x / 2 * 2 + x % 2 = x by omega] at e1 e2
 rw [e1, e2]
end
end Go.Proofs.Ytaidgjidpghgnaa
