/-
  A wire in memory: its chip, its recorder; and what sending comes to.
-/
import Derived.Test.YtmbgoopkpfhamaaGreatTk
import Derived.Test.YtmbgoopkpfhamaaGreatTkB
import Derived.WalkMore
import Derived.Test.YtmbgoopkpfhamaaGreatIdentChecksJ22
import Derived.Test.YtmbgoopkpfhamaaGreatIdentChecksJTrB
import Derived.Test.YtmbgoopkpfhamaaGreatIdentChecksJ7
import Derived.Test.YtmbgoopkpfhamaaGreatIdentChecksJ1
import Derived.Test.YtmbgoopkpfhamaaGreatIdentChecksJ8
import Derived.Test.YtmbgoopkpfhamaaGreatIdentChecksJ3
import Derived.Test.YtmbgoopkpfhamaaGreatIdentChecksJ15
import Derived.Test.YtmbgoopkpfhamaaGreatIdentChecksJ19
import Derived.Test.YtmbgoopkpfhamaaGreatIdentChecksJChMem
namespace Go.Proofs.YtmbgoopkpfhamaaGreat
open Go.RowKit
set_option maxRecDepth 100000
def zQc0 : Oper := { dst := some 50, op := Op.buildSlice 49 1 #[(0, Operand.tmp 49)], type := 49, pos := "wire.go:121", after := #[{ on := 4, ground := Ground.data }], guard := none }
def zQc1 : Oper := { dst := some 51, op := Op.call { callee := Callee.value (Operand.func 72), args := #[Operand.tmp 48, Operand.tmp 50], argTypes := #[74, 49] }, type := 0, pos := "wire.go:121", after := #[{ on := 3, ground := Ground.data }, { on := 5, ground := Ground.data }], guard := none }
def keptC (t : Cy) (v : Int) : Cy := ⟨t.k, if t.k = 4 then v.toNat else t.b⟩
def sendC (g : Gm) (s : Sc) (c : Ch) (L : List Cy) (t : Cy) : Int × Int × Ch × List Cy :=
 if (c.doC g s t).2.1 = 0 then ((c.doC g s t).1, 0, (c.doC g s t).2.2, L ++ [keptC t (c.doC g s t).1]) else (0, (c.doC g s t).2.1, (c.doC g s t).2.2, L)
structure Ws where
 e : Int
 c : Ch
 l : List Cy
def stepW (g : Gm) (s : Sc) (a : Ws) (t : Cy) : Ws := if a.e = 0 then ⟨(sendC g s a.c a.l t).2.1, (sendC g s a.c a.l t).2.2.1, (sendC g s a.c a.l t).2.2.2⟩ else a
def runW (g : Gm) (s : Sc) (c : Ch) (L : List Cy) (ts : List Cy) : Ws := ts.foldl (stepW g s) ⟨0, c, L⟩
section
variable {g : Gm} {s : Sc} {c : Ch} {L ts : List Cy} {k : Nat} {t : Cy}
theorem runW_zero : runW g s c L (ts.take 0) = ⟨0, c, L⟩ := by simp [runW]
theorem runW_succ (h : ts[k]? = some t) : runW g s c L (ts.take (k + 1)) = stepW g s (runW g s c L (ts.take k)) t := by
 unfold runW
 rw [List.take_add_one, h, List.foldl_append]
 rfl
theorem fold_stuck (ts : List Cy) (a : Ws) (h : a.e ≠ 0) : ts.foldl (stepW g s) a = a := by
 induction ts with
 | nil => rfl
 | cons t ts ih => rw [List.foldl_cons, show stepW g s a t = a from if_neg h, ih]
theorem runW_stuck (h : (runW g s c L (ts.take k)).e ≠ 0) : runW g s c L ts = runW g s c L (ts.take k) := by
 have e : ts.foldl (stepW g s) ⟨0, c, L⟩ = (ts.drop k).foldl (stepW g s) ((ts.take k).foldl (stepW g s) ⟨0, c, L⟩) := by rw [← List.foldl_append, List.take_append_drop]
 exact e.trans (fold_stuck _ _ h)
theorem stepW_len (a : Ws) (t : Cy) : (stepW g s a t).l.length ≤ a.l.length + 1 ∧ a.l.length ≤ (stepW g s a t).l.length ∧ ((stepW g s a t).e = 0 → a.e = 0 ∧ (stepW g s a t).l.length = a.l.length + 1) := by
 unfold stepW
 split
 ·
  rename_i h
  unfold sendC
  split
  ·
   simp [h]
  ·
   rename_i h2
   exact ⟨by simp, by simp, fun e => absurd e h2⟩
 ·
  rename_i h
  exact ⟨by omega, by omega, fun e => absurd e h⟩
theorem fold_len (ts : List Cy) (a : Ws) : (ts.foldl (stepW g s) a).l.length ≤ a.l.length + ts.length ∧ a.l.length ≤ (ts.foldl (stepW g s) a).l.length ∧ ((ts.foldl (stepW g s) a).e = 0 → a.e = 0 ∧ (ts.foldl (stepW g s) a).l.length = a.l.length + ts.length) := by
 induction ts generalizing a with
 | nil => exact ⟨Nat.le_refl _, Nat.le_refl _, fun h => ⟨h, rfl⟩⟩
 | cons t ts ih =>
  rw [List.foldl_cons, List.length_cons]
  obtain ⟨h1, h2, h3⟩ := ih (stepW g s a t)
  obtain ⟨k1, k2, k3⟩ := stepW_len (g := g) (s := s) a t
  refine ⟨by omega, by omega, fun e => ?_⟩
  obtain ⟨m1, m2⟩ := h3 e
  obtain ⟨n1, n2⟩ := k3 m1
  exact ⟨n1, by omega⟩
theorem runW_len : (runW g s c L ts).l.length ≤ L.length + ts.length ∧ ((runW g s c L ts).e = 0 → (runW g s c L ts).l.length = L.length + ts.length) := by
 obtain ⟨h1, _, h3⟩ := fold_len (g := g) (s := s) ts ⟨0, c, L⟩
 exact ⟨h1, fun e => (h3 e).2⟩
end
theorem Btw.old {I : Nat → Prop} {w w' : World} (h : Btw I w w') : Btw (fun j => I j ∧ j < w.heap.size) w w' := ⟨h.os, h.tape, h.output, h.size, fun k hk hn => h.block k hk fun h1 => hn ⟨h1, hk⟩⟩
theorem Btw.more {I J : Nat → Prop} {w w' : World} (h : Btw I w w') (hJ : ∀ j, I j → J j) : Btw J w w' := ⟨h.os, h.tape, h.output, h.size, fun k hk hn => h.block k hk fun h1 => hn (hJ k h1)⟩
theorem own_at1 {w : World} {base : Nat} {e : TypeId} {v : Value} {n : Nat} {xs : List Value} (h : w.ownsRow base e 1 v n xs) : ∀ k, v.ownBlock = some k → base ≤ k ∧ ∃ cur : Array Value, w.heap[k]? = some (.cells cur e (0, 0)) := by
 intro k hk
 rcases h.2 with ⟨rfl, _⟩ | ⟨g, cap, cur, rfl, hbase, hg, _⟩
 ·
  cases hk
 ·
  simp only [Value.ownBlock, Option.some.injEq] at hk
  subst hk
  exact ⟨hbase, cur, hg⟩
structure Wp (IC IR I : Nat → Prop) (w : World) (q p r : Nat) (g : Gm) (s : Sc) (c : Ch) (L : List Cy) (M : ByteArray → Option Nat) (k : Nat) : Prop where
 row : CRow w q 77 #[.pointer (some ⟨r, 0, none⟩), .pointer (some ⟨p, 0, none⟩)]
 ch : CH IC w p g s c
 rc : Rec w r IR L ((L.length : Nat) : Int) M k
 ap : ∀ j, IR j → ¬ IC j
 nc : ¬ IC q
 nr : ¬ IR q
 ci : ∀ j, IC j → I j
 ri : ∀ j, IR j → I j
 qi : I q
def Wi (I : Nat → Prop) (w : World) (q p r : Nat) (g : Gm) (s : Sc) (c : Ch) (L : List Cy) (k : Nat) : Prop := ∃ IC IR M, Wp IC IR I w q p r g s c L M k
section
variable {I IC IR J : Nat → Prop} {w w' : World} {q p r : Nat} {g : Gm} {s : Sc} {c c' : Ch} {L L' : List Cy} {M M' : ByteArray → Option Nat} {k k' : Nat}
theorem Wp.below (h : Wp IC IR I w q p r g s c L M k) (hb : Below w.heap.size w w') : Wp IC IR I w' q p r g s c L M k :=
 { h with row := h.row.below hb, ch := h.ch.below hb, rc := h.rc.below hb }
theorem Wp.did (h : Wp IC IR I w q p r g s c L M k) (hc : CH IC w' p g s c') (hb : Btw IC w w') : Wp IC IR I w' q p r g s c' L M k :=
 { h with row := h.row.btw hb h.nc, ch := hc, rc := h.rc.btw hb h.ap }
theorem Wp.new_ (h : Wp IC IR I w q p r g s c L M k) : ∀ j, w.heap.size ≤ j → I j := fun j hj => h.ci j (h.ch.new_ j hj)
theorem Wp.other (h : Wp IC IR I w q p r g s c L M k) (hb : Btw J w w') (hJ : ∀ j, j < w.heap.size → J j → ¬ IC j ∧ ¬ IR j ∧ j ≠ q) : Wp (fun j => IC j ∧ (j < w.heap.size ∨ w'.heap.size ≤ j)) IR I w' q p r g s c L M k :=
 {
  row := h.row.btw hb.old fun hj => (hJ q hj.2 hj.1).2.2 rfl
  ch := h.ch.away hb.old fun j hj => (hJ j hj.2 hj.1).1
  rc := h.rc.btw hb.old fun j hi hj => (hJ j hj.2 hj.1).2.1 hi
  ap := fun j hj hi => h.ap j hj hi.1
  nc := fun hi => h.nc hi.1
  nr := h.nr
  ci := fun j hj => h.ci j hj.1
  ri := h.ri
  qi := h.qi }
theorem Wp.turn (h : Wp IC IR I w q p r g s c L M k) (hb : Btw IR w w') (hr : Rec w' r J L' ((L'.length : Nat) : Int) M' k') (hj : ∀ j, j < w.heap.size → J j → IR j) : Wi I w' q p r g s c L' k' :=
 ⟨fun j => IC j ∧ (j < w.heap.size ∨ w'.heap.size ≤ j), J, M', h.row.btw hb h.nr, h.ch.away hb.old (fun j hj => h.ap j hj.1), hr, fun j h1 h2 => by
   rcases h2.2 with h3 | h3
   ·
    exact h.ap j (hj j h3 h1) h2.1
   ·
    have := hr.lt j h1; omega, fun h1 => h.nc h1.1, fun h1 => h.nr (hj q h.row.lt h1), fun j hj => h.ci j hj.1, fun j h1 => by
   rcases Nat.lt_or_ge j w.heap.size with h2 | h2
   ·
    exact h.ri j (hj j h2 h1)
   ·
    exact h.new_ j h2, h.qi⟩
theorem Wi.below (h : Wi I w q p r g s c L k) (hb : Below w.heap.size w w') : Wi I w' q p r g s c L k := by
 obtain ⟨IC, IR, M, h⟩ := h
 exact ⟨IC, IR, M, h.below hb⟩
theorem Wi.new_ (h : Wi I w q p r g s c L k) : ∀ j, w.heap.size ≤ j → I j := by
 obtain ⟨IC, IR, M, h⟩ := h
 exact h.new_
theorem Wi.away (h : Wi I w q p r g s c L k) (hb : Btw J w w') (hJ : ∀ j, j < w.heap.size → J j → ¬ I j) : Wi (fun j => I j ∧ (j < w.heap.size ∨ w'.heap.size ≤ j)) w' q p r g s c L k := by
 obtain ⟨IC, IR, M, h⟩ := h
 have h1 := h.other hb fun j h1 h2 => ⟨fun h3 => hJ j h1 h2 (h.ci j h3), fun h3 => hJ j h1 h2 (h.ri j h3), fun h3 => hJ j h1 h2 (h3 ▸ h.qi)⟩
 exact ⟨_, IR, M, { h1 with
  ci := fun j hj => ⟨h.ci j hj.1, hj.2⟩
  ri := fun j hj => ⟨h.ri j hj, .inl (h.rc.lt j hj)⟩
  qi := ⟨h.qi, .inl h.row.lt⟩ }⟩
end
section
variable {I IC IR : Nat → Prop} {w : World} {q p r : Nat} {g : Gm} {s : Sc} {c : Ch} {L : List Cy} {M : ByteArray → Option Nat} {k : Nat}
theorem wmade_yes (h : CRow w q 77 #[.pointer (some ⟨r, 0, none⟩), .pointer (some ⟨p, 0, none⟩)]) : Calls Tryz.prog 36 #[.pointer (some ⟨q, 0, none⟩)] w (Gives (.bool true) w) := by
 have x1 := h.cell_at 1 _ rfl
 go_enter Tryz.func36, Tryz.ntmps36
 go_wp2
 go_ret
 exact ⟨rfl, Below.refl _ _⟩
def Sends (I : Nat → Prop) (q p r : Nat) (g : Gm) (s : Sc) (c : Ch) (L : List Cy) (k Q : Nat) (t : Cy) (w : World) (e : Ending) (w' : World) : Prop :=
 ∃ k', k' ≤ k + 1 ∧ ((sendC g s c L t).2.1 = 0 → k' = k) ∧ e = .returned (.tuple #[.int .u8 (sendC g s c L t).1, .int .i64 (sendC g s c L t).2.1]) ∧ Wi I w' q p r g s (sendC g s c L t).2.2.1 (sendC g s c L t).2.2.2 k' ∧ Btw I w w' ∧
  ((sendC g s c L t).2.2.1.on = true → Okc g (Q + 1) (sendC g s c L t).2.2.1)
set_option maxHeartbeats 8000000 in
theorem send_any {Q : Nat} (t : Cy) (ht : inC t) (hQ : Q ≤ 100000) (hs : SG g s) (ho : c.on = true → Okc g Q c) (hL : L.length < 16777216) (hk : k < 1000) (h : Wi I w q p r g s c L k) :
  Calls Tryz.prog 52 #[.pointer (some ⟨q, 0, none⟩), .agg #[.int .i64 t.k, .int .u8 (t.b : Int)]] w (Sends I q p r g s c L k Q t w) := by
 obtain ⟨IC, IR, M, h⟩ := h
 have NEW := Lib.hid h.new_
 have B0 := Lib.hid (below_new w (.cells #[.int .i64 t.k, .int .u8 (t.b : Int)] 93))
 have Z0 := Lib.hid (CRow.new w #[.int .i64 t.k, .int .u8 (t.b : Int)] 93)
 have hw0 := h.other (J := fun _ => False) (Btw.of_below B0.out) fun _ _ h => h.elim
 obtain ⟨IX, hIX⟩ : ∃ IX, IX = fun j => IC j ∧ (j < w.heap.size ∨ (w.alloc (.cells #[.int .i64 t.k, .int .u8 (t.b : Int)] 93)).heap.size ≤ j) := ⟨_, rfl⟩
 have NH := Lib.hid (show ¬ IX w.heap.size by
  rw [hIX]
  intro h1
  have h3 : (w.alloc (.cells #[.int .i64 t.k, .int .u8 (t.b : Int)] 93)).heap.size = w.heap.size + 1 := by simp
  have h2 : w.heap.size < w.heap.size ∨ (w.alloc (.cells #[.int .i64 t.k, .int .u8 (t.b : Int)] 93)).heap.size ≤ w.heap.size := h1.2
  omega)
 rw [← hIX] at hw0
 have W0 := Lib.hid hw0
 have SX := Lib.hid hw0.ci
 have NQ := Lib.hid h.row.lt
 have NR := Lib.hid (show ¬ IR w.heap.size from fun h1 => Nat.lt_irrefl _ (h.rc.lt _ h1))
 obtain ⟨v0, e, c1, hd⟩ : ∃ v0 e c1, c.doC g s t = (v0, e, c1) := ⟨_, _, _, rfl⟩
 have hby := doC_byte (g := g) (s := s) t (regs h.ch).2.2.2.2
 rw [hd] at hby
 have hby : 0 ≤ v0 ∧ v0 < 256 := hby
 obtain ⟨v, rfl⟩ : ∃ v : Nat, v0 = (v : Int) := ⟨v0.toNat, by omega⟩
 have HV := Lib.hid (show v < 256 by omega)
 have HDO := Lib.hid (fun W (hh : CH IX W p g s c) => Do_w t ht.2.2 hQ hs ho hh)
 simp only [hd] at HDO
 have HON := Lib.hid (fun W (hh : CH IX W p g s c) => On_any hh)
 have HON1 := Lib.hid (fun W (hh : CH IX W p g s c1) => On_any hh)
 have HT := Lib.hid ht
 have HD := Lib.hid hd
 obtain ⟨on, hon⟩ : ∃ on, on = c.on := ⟨_, rfl⟩
 obtain ⟨on1, hon1⟩ : ∃ on1, on1 = c1.on := ⟨_, rfl⟩
 rw [← hon] at HON
 rw [← hon1] at HON1
 have x1 := W0.out.row.cell_at 1 _ rfl
 have LL := Lib.hid hL
 have KK := Lib.hid hk
 clear h hw0 hIX hby hd hs ho hon hon1 ht hL hk
 go_enter Tryz.func52, Tryz.ntmps52
 go_wp2_with fail
 clear x1
 refine (HON.out _ W0.out.ch).mono ?_
 rintro _ w1 ⟨rfl, h1⟩
 have W1 := Lib.hid (W0.out.below h1)
 have Z1 := Lib.hid (Z0.out.below h1)
 have B1 := Lib.hid (Btw.of_below (I := I) (below_step B0.out h1))
 clear h1 W0 Z0 B0 HON
 go_wp2_with fail
 refine wp_region_noPanic ?_
 refine wp_region_held_drew (S := fun w' => CRow w' q 77 #[.pointer (some ⟨r, 0, none⟩), .pointer (some ⟨p, 0, none⟩)] ∧ CRow w' w.heap.size 93 #[.int .i64 t.k, .int .u8 (t.b : Int)]) (by kernel_rfl) ⟨W1.out.row.drew, Z1.out.drew⟩ (fun C0 => ?_)
 refine tkH4 0 C0 ?_
 refine tkH4 1 C0 ?_
 refine tkH4 2 C0 ?_
 refine tkH4 3 C0 ?_ (hy := fun W' hSw => by obtain ⟨hs1, hs2⟩ := hSw; have z1 := hs1.cell_at 1 _ rfl; have y0 := hs2.cell_at 0 _ rfl; have y1 := hs2.cell_at 1 _ rfl; clear hs1 hs2; go_simp <;> with_reducible rfl)
 refine tkH4 4 C0 ?_ (hy := fun W' hSw => by obtain ⟨hs1, hs2⟩ := hSw; have z1 := hs1.cell_at 1 _ rfl; have y0 := hs2.cell_at 0 _ rfl; have y1 := hs2.cell_at 1 _ rfl; clear hs1 hs2; go_simp <;> with_reducible rfl)
 refine wpAnyH_ready (rs := [5]) (by kernel_rfl) (by simp) ?_
 refine AllReadyH.cons (o := { dst := some 20, op := Op.call { callee := Callee.value (Operand.func 70), args := #[Operand.tmp 18, Operand.tmp 19], argTypes := #[34, 93] }, type := 80, pos := "wire.go:111", after := #[{ on := 3, ground := Ground.data }, { on := 4, ground := Ground.data }], guard := none }) rfl (fun K hK => ?_) AllReadyH.nil
 go_simp
 refine (HDO.out _ (W1.out.ch.below ((Below.refl _ _).drew))).mono ?_
 rintro _ w2 ⟨rfl, h2, b2, o2, -⟩
 have D1 := Lib.hid (W1.out.below ((Below.refl _ _).drew))
 have W2 := Lib.hid (D1.out.did h2 b2)
 have Z2 := Lib.hid (Z1.out.drew.btw b2 NH.out)
 have B2 := Lib.hid ((B1.out.drew).trans (b2.more SX.out) fun _ _ h => h)
 have O2 := Lib.hid o2
 clear h2 b2 o2
 go_wp2_with fail
 refine hK.out _ _ ⟨W2.out.row, Z2.out⟩ (fun C1 => ?_)
 clear hK K
 try simp only [Act.put, zzI, zzO, zzS]
 refine tkH4 6 C1 ?_
 refine tkH4 7 C1 ?_
 refine tkH4 8 C1 ?_
 refine tkH4 9 C1 ?_
 refine tkH4 10 C1 ?_
 refine wpAnyH_done (by kernel_rfl) ?_ _
 refine NoPanic.normal ?_
 by_cases he : e = 0
 ·
  subst he
  have hL := LL.out
  have hse : sendC g s c L t = ((v : Int), 0, c1, L ++ [keptC t (v : Int)]) := by unfold sendC; rw [HD.out]; rfl
  have x0 := Z2.out.cell_at 0 _ rfl
  by_cases h4 : t.k = 4
  ·
   have HSE := Lib.hid (show sendC g s c L t = ((v : Int), 0, c1, L ++ [⟨t.k, v⟩]) by rw [hse]; unfold keptC; rw [if_pos h4]; rfl)
   clear hse
   have b4 : (t.k == 4) = true := by rw [h4]; rfl
   have j4 : (t.k = 4) = True := eq_true h4
   have d4 : decide (t.k = 4) = true := decide_eq_true h4
   clear h4
   have y1 := Z2.out.cell_at 1 _ rfl
   have f1 := Z2.out.frozen 1
   have S3 := Lib.hid (show CRow (w2.setCell ⟨w.heap.size, 1, none⟩ (.int .u8 (v : Int))) w.heap.size 93 #[.int .i64 t.k, .int .u8 (v : Int)] from Z2.out.setCell 1 (.int .u8 (v : Int)))
   have K3 := Lib.hid ((Btw.refl (I := fun j => j = w.heap.size) w2).setCell (p := ⟨w.heap.size, 1, none⟩) (v := .int .u8 (v : Int)) rfl)
   have W3 := Lib.hid (W2.out.other K3.out fun j _ hj => by
    have hj : j = w.heap.size := hj
    subst hj
    exact ⟨NH.out, NR.out, fun e => by have := NQ.out; omega⟩)
   have B3 := Lib.hid (B2.out.trans K3.out fun j _ hj => by
    have hj : j = w.heap.size := hj
    subst hj
    exact NEW.out _ (Nat.le_refl _))
   go_wp2_with fail
   obtain ⟨wx, hwx⟩ : ∃ wx, wx = w2.setCell ⟨w.heap.size, 1, none⟩ (.int .u8 (v : Int)) := ⟨_, rfl⟩
   rw [← hwx] at S3 K3 W3 B3
   try rw [← hwx]
   clear hwx x0 y1 f1 b4 j4 d4
   refine wp_region_noPanic ?_
   refine wp_region_held_drew (S := fun w' => CRow w' q 77 #[.pointer (some ⟨r, 0, none⟩), .pointer (some ⟨p, 0, none⟩)] ∧ CRow w' w.heap.size 93 #[.int .i64 t.k, .int .u8 (v : Int)]) (by kernel_rfl) ⟨W3.out.row.drew, S3.out.drew⟩ (fun C0 => ?_)
   refine tkH4 0 C0 ?_
   refine tkH4 1 C0 ?_
   refine tkH4 2 C0 ?_
   refine tkH4 3 C0 ?_ (hy := fun W' hSw => by obtain ⟨hs1, hs2⟩ := hSw; have z1 := hs1.cell_at 0 _ rfl; have y0 := hs2.cell_at 0 _ rfl; have y1 := hs2.cell_at 1 _ rfl; clear hs1 hs2; go_simp <;> with_reducible rfl)
   refine tkH4 4 C0 ?_ (hy := fun W' hSw => by obtain ⟨hs1, hs2⟩ := hSw; have z1 := hs1.cell_at 0 _ rfl; have y0 := hs2.cell_at 0 _ rfl; have y1 := hs2.cell_at 1 _ rfl; clear hs1 hs2; go_simp <;> with_reducible rfl)
   refine wpAnyH_ready (rs := [5]) (by kernel_rfl) (by simp) ?_
   refine AllReadyH.cons (o := zQc0) rfl (fun K hK => ?_) AllReadyH.nil
   dsimp only [zQc0]
   go_simp
   refine hK.out _ _ ⟨W3.out.row.drew.alloc (.cells #[.int .i64 t.k, .int .u8 (v : Int)] 93), S3.out.drew.alloc (.cells #[.int .i64 t.k, .int .u8 (v : Int)] 93)⟩ (fun C1 => ?_)
   clear hK K
   try simp only [Act.put, zzI, zzO, zzS]
   refine wpAnyH_ready (rs := [6]) (by kernel_rfl) (by simp) ?_
   refine AllReadyH.cons (o := zQc1) rfl (fun K hK => ?_) AllReadyH.nil
   dsimp only [zQc1]
   go_simp
   have hx : RC (wx.drew.alloc (.cells #[.int .i64 t.k, .int .u8 (v : Int)] 93)) (some ⟨wx.heap.size, 0, none⟩) 1 [⟨t.k, v⟩] := RC.one wx.drew ⟨t.k, v⟩ ⟨HT.out.1, HT.out.2.1, HV.out⟩ 93
   have D4 := Lib.hid ((W3.out.below ((Below.refl _ _).drew)).below (below_new _ (.cells #[.int .i64 t.k, .int .u8 (v : Int)] 93)))
   refine (Add_any r IR L L.length M k (some ⟨wx.heap.size, 0, none⟩) 1 1 [⟨t.k, v⟩] _ D4.out.rc hx (by simp) (by omega) (by omega) (by omega)).mono ?_
   rintro _ w5 ⟨rfl, b5, J5, r5, j5⟩
   have W5 := Lib.hid (D4.out.turn (L' := L ++ [⟨t.k, v⟩]) b5 (by rw [List.length_append, List.length_singleton]; exact r5) j5)
   have B5 := Lib.hid ((((B3.out.drew).trans (Btw.of_below (I := I) (below_new _ (.cells #[.int .i64 t.k, .int .u8 (v : Int)] 93))) fun _ _ h => h)).trans (b5.more D4.out.ri) fun _ _ h => h)
   have R5 := Lib.hid (((W3.out.row.drew).alloc (.cells #[.int .i64 t.k, .int .u8 (v : Int)] 93)).btw b5 D4.out.nr)
   have Y5 := Lib.hid (((S3.out.drew).alloc (.cells #[.int .i64 t.k, .int .u8 (v : Int)] 93)).btw b5 (fun h => NR.out h))
   clear hx b5 r5 j5
   go_wp2_with fail
   refine hK.out _ _ ⟨R5.out, Y5.out⟩ (fun C2 => ?_)
   clear hK K
   try simp only [Act.put, zzI, zzO, zzS]
   refine wpAnyH_done (by kernel_rfl) ?_ _
   refine NoPanic.normal ?_
   go_wp2
   go_ret2
   refine ⟨k, Nat.le_succ k, fun _ => rfl, ?_⟩
   rw [show sendC g s c L t = ((v : Int), 0, c1, L ++ [⟨t.k, v⟩]) from HSE.out]
   exact ⟨rfl, W5.out, B5.out, O2.out⟩
  ·
   have HSE := Lib.hid (show sendC g s c L t = ((v : Int), 0, c1, L ++ [⟨t.k, t.b⟩]) by rw [hse]; unfold keptC; rw [if_neg h4])
   clear hse
   have b4 : (t.k == 4) = false := by rw [beq_eq_false_iff_ne]; exact h4
   have j4 : (t.k = 4) = False := eq_false h4
   have d4 : decide (t.k = 4) = false := decide_eq_false h4
   clear h4
   have B3 := B2
   go_wp2_with fail
   clear x0 b4 j4 d4
   refine wp_region_noPanic ?_
   refine wp_region_held_drew (S := fun w' => CRow w' q 77 #[.pointer (some ⟨r, 0, none⟩), .pointer (some ⟨p, 0, none⟩)] ∧ CRow w' w.heap.size 93 #[.int .i64 t.k, .int .u8 (t.b : Int)]) (by kernel_rfl) ⟨W2.out.row.drew, Z2.out.drew⟩ (fun C0 => ?_)
   refine tkH4 0 C0 ?_
   refine tkH4 1 C0 ?_
   refine tkH4 2 C0 ?_
   refine tkH4 3 C0 ?_ (hy := fun W' hSw => by obtain ⟨hs1, hs2⟩ := hSw; have z1 := hs1.cell_at 0 _ rfl; have y0 := hs2.cell_at 0 _ rfl; have y1 := hs2.cell_at 1 _ rfl; clear hs1 hs2; go_simp <;> with_reducible rfl)
   refine tkH4 4 C0 ?_ (hy := fun W' hSw => by obtain ⟨hs1, hs2⟩ := hSw; have z1 := hs1.cell_at 0 _ rfl; have y0 := hs2.cell_at 0 _ rfl; have y1 := hs2.cell_at 1 _ rfl; clear hs1 hs2; go_simp <;> with_reducible rfl)
   refine wpAnyH_ready (rs := [5]) (by kernel_rfl) (by simp) ?_
   refine AllReadyH.cons (o := zQc0) rfl (fun K hK => ?_) AllReadyH.nil
   dsimp only [zQc0]
   go_simp
   refine hK.out _ _ ⟨W2.out.row.drew.alloc (.cells #[.int .i64 t.k, .int .u8 (t.b : Int)] 93), Z2.out.drew.alloc (.cells #[.int .i64 t.k, .int .u8 (t.b : Int)] 93)⟩ (fun C1 => ?_)
   clear hK K
   try simp only [Act.put, zzI, zzO, zzS]
   refine wpAnyH_ready (rs := [6]) (by kernel_rfl) (by simp) ?_
   refine AllReadyH.cons (o := zQc1) rfl (fun K hK => ?_) AllReadyH.nil
   dsimp only [zQc1]
   go_simp
   have hx : RC (w2.drew.alloc (.cells #[.int .i64 t.k, .int .u8 (t.b : Int)] 93)) (some ⟨w2.heap.size, 0, none⟩) 1 [⟨t.k, t.b⟩] := RC.one w2.drew ⟨t.k, t.b⟩ ⟨HT.out.1, HT.out.2.1, HT.out.2.2⟩ 93
   have D4 := Lib.hid ((W2.out.below ((Below.refl _ _).drew)).below (below_new _ (.cells #[.int .i64 t.k, .int .u8 (t.b : Int)] 93)))
   refine (Add_any r IR L L.length M k (some ⟨w2.heap.size, 0, none⟩) 1 1 [⟨t.k, t.b⟩] _ D4.out.rc hx (by simp) (by omega) (by omega) (by omega)).mono ?_
   rintro _ w5 ⟨rfl, b5, J5, r5, j5⟩
   have W5 := Lib.hid (D4.out.turn (L' := L ++ [⟨t.k, t.b⟩]) b5 (by rw [List.length_append, List.length_singleton]; exact r5) j5)
   have B5 := Lib.hid ((((B3.out.drew).trans (Btw.of_below (I := I) (below_new _ (.cells #[.int .i64 t.k, .int .u8 (t.b : Int)] 93))) fun _ _ h => h)).trans (b5.more D4.out.ri) fun _ _ h => h)
   have R5 := Lib.hid (((W2.out.row.drew).alloc (.cells #[.int .i64 t.k, .int .u8 (t.b : Int)] 93)).btw b5 D4.out.nr)
   have Y5 := Lib.hid (((Z2.out.drew).alloc (.cells #[.int .i64 t.k, .int .u8 (t.b : Int)] 93)).btw b5 (fun h => NR.out h))
   clear hx b5 r5 j5
   go_wp2_with fail
   refine hK.out _ _ ⟨R5.out, Y5.out⟩ (fun C2 => ?_)
   clear hK K
   try simp only [Act.put, zzI, zzO, zzS]
   refine wpAnyH_done (by kernel_rfl) ?_ _
   refine NoPanic.normal ?_
   go_wp2
   go_ret2
   refine ⟨k, Nat.le_succ k, fun _ => rfl, ?_⟩
   rw [show sendC g s c L t = ((v : Int), 0, c1, L ++ [⟨t.k, t.b⟩]) from HSE.out]
   exact ⟨rfl, W5.out, B5.out, O2.out⟩
 ·
  have hse : sendC g s c L t = (0, e, c1, L) := by unfold sendC; rw [HD.out]; exact if_neg he
  have HSE := Lib.hid hse
  have HE := Lib.hid he
  have b0 : (e == 0) = false := by rw [beq_eq_false_iff_ne]; exact he
  have n0 : (e != 0) = true := by simp [he]
  have j0 : (e = 0) = False := eq_false he
  have d0 : decide (e = 0) = false := decide_eq_false he
  clear hse he
  have x1 := W2.out.row.cell_at 1 _ rfl
  cases on with
  | false =>
   go_wp2
   go_ret2
   refine ⟨k, Nat.le_succ k, fun _ => rfl, ?_⟩
   rw [HSE.out]
   exact ⟨rfl, ⟨IX, IR, M, W2.out⟩, B2.out, O2.out⟩
  | true =>
   go_wp2_with fail
   clear x1
   refine (HON1.out _ W2.out.ch).mono ?_
   rintro _ w3 ⟨rfl, h3⟩
   have W3 := Lib.hid (W2.out.below h3)
   have B3 := Lib.hid (B2.out.trans (Btw.of_below h3) fun _ _ h => h)
   clear h3
   cases on1 with
   | true =>
    go_wp2
    go_ret2
    refine ⟨k, Nat.le_succ k, fun _ => rfl, ?_⟩
    rw [HSE.out]
    exact ⟨rfl, ⟨IX, IR, M, W3.out⟩, B3.out, O2.out⟩
   | false =>
    have x0 := W3.out.row.cell_at 0 _ rfl
    go_wp2_with fail
    clear x0
    refine (Mark_any r IR L _ M k _ _ W3.out.rc KK.out (by have := LL.out; omega) (by decide)).mono ?_
    rintro _ w4 ⟨rfl, b4, J4, r4, j4⟩
    have W4 := Lib.hid (W3.out.turn b4 r4 j4)
    have B4 := Lib.hid (B3.out.trans (b4.more W3.out.ri) fun _ _ h => h)
    clear b4 r4 j4
    go_wp2
    go_ret2
    refine ⟨k + 1, Nat.le_refl _, fun h => absurd (by rw [HSE.out] at h; exact h) HE.out, ?_⟩
    rw [HSE.out]
    exact ⟨rfl, W4.out, B4.out, O2.out⟩
end
theorem RC.btw0 {I : Nat → Prop} {w w' : World} {A : Option Addr} {n : Nat} {l : List Cy} (h : RC w A n l) (hb : Btw I w w') (hA : ∀ b off, A = some ⟨b, off, none⟩ → 0 < n → ¬ I b) : RC w' A n l :=
 ⟨h.1, h.2.1, fun hn => by
  obtain ⟨b, off, e, hlt, hc⟩ := h.2.2 hn
  refine ⟨b, off, e, Nat.lt_of_lt_of_le hlt hb.size, fun j hj => ?_⟩
  rw [World.cell?_of_block (hb.block b hlt (hA b off e hn))]
  exact hc j hj⟩
theorem Wi.widen {I I' : Nat → Prop} {w : World} {q p r : Nat} {g : Gm} {s : Sc} {c : Ch} {L : List Cy} {k : Nat} (h : Wi I' w q p r g s c L k) (hi : ∀ j, I' j → I j) (hq : I q) : Wi I w q p r g s c L k := by
 obtain ⟨IC, IR, M, h⟩ := h
 exact ⟨IC, IR, M, { h with ci := fun j hj => hi j (h.ci j hj), ri := fun j hj => hi j (h.ri j hj), qi := hq }⟩
theorem Wi.qi {I : Nat → Prop} {w : World} {q p r : Nat} {g : Gm} {s : Sc} {c : Ch} {L : List Cy} {k : Nat} (h : Wi I w q p r g s c L k) : I q := by
 obtain ⟨IC, IR, M, h⟩ := h
 exact h.qi
section
variable {I IC IR : Nat → Prop} {w : World} {q p r : Nat} {g : Gm} {s : Sc} {c : Ch} {L : List Cy} {M : ByteArray → Option Nat} {k : Nat}
def SentIs (I : Nat → Prop) (q p r : Nat) (g : Gm) (s : Sc) (c : Ch) (L : List Cy) (k Q : Nat) (ts : List Cy) (w : World) (e : Ending) (w' : World) : Prop :=
 ∃ k', k' ≤ k + 1 ∧ e = .returned (.int .i64 (runW g s c L ts).e) ∧ Wi I w' q p r g s (runW g s c L ts).c (runW g s c L ts).l k' ∧ Btw I w w' ∧ ((runW g s c L ts).c.on = true → Okc g (Q + ts.length) (runW g s c L ts).c) ∧ ((runW g s c L ts).e = 0 → k' = k)
set_option maxHeartbeats 4000000 in
theorem Send_any {Q : Nat} (A : Option Addr) (n d : Nat) (ts : List Cy) (hts : RC w A n ts) (hA : ∀ b off, A = some ⟨b, off, none⟩ → 0 < n → ¬ I b) (hn : n ≤ 1000) (hQ : Q + n ≤ 100000) (hs : SG g s) (ho : c.on = true → Okc g Q c) (hL : L.length ≤ 100000) (hk : k < 1000) (h : Wi I w q p r g s c L k) :
  Calls Tryz.prog 47 #[.pointer (some ⟨q, 0, none⟩), .slice A n d] w (SentIs I q p r g s c L k Q ts w) := by
 have HR := Lib.hid hts
 have HA := Lib.hid hA
 have HLN := Lib.hid hts.len
 have H0 := Lib.hid h
 have HS := Lib.hid hs
 have HO := Lib.hid ho
 obtain ⟨IC, IR, M, hh⟩ := h
 have R0 := Lib.hid hh.row
 clear hts hA hs ho hh
 go_enter Tryz.func47, Tryz.ntmps47
 go_wp2_with fail
 refine (wmade_yes R0.out).mono ?_
 rintro _ w1 ⟨rfl, h1⟩
 have B1 := Lib.hid h1
 have H1 := Lib.hid (H0.out.below h1)
 clear h1 R0 H0
 go_wp2
 go_loopw [14] (fun i wr => ∃ j : Nat, j ≤ n ∧ i = .int .i64 (j : Int) ∧ Hid ((runW g s c L (ts.take j)).e = 0) ∧ Hid ((runW g s c L (ts.take j)).c.on = true → Okc g (Q + j) (runW g s c L (ts.take j)).c) ∧ Hid (Wi I wr q p r g s (runW g s c L (ts.take j)).c (runW g s c L (ts.take j)).l k) ∧ Hid (Btw I w wr)) (fun i _ => n - (intOf i).toNat)
 case atStart => exact ⟨0, Nat.zero_le _, rfl, by rw [runW_zero]; exact Lib.hid rfl, by rw [runW_zero]; exact HO, by rw [runW_zero]; exact H1, Lib.hid (Btw.of_below B1.out)⟩
 case round =>
  obtain ⟨j, hj, rfl, HE, HK, HW, HB⟩ := hrel
  rename World => wr
  clear H1 B1
  by_cases hlt : j < n
  ·
   obtain ⟨b9, o9, t, hA9, hb9, HX, hin, x0, x1⟩ := (HR.out.btw0 HB.out HA.out).at_ hlt
   have d1 : decide ((j : Int) < (n : Int)) = true := decide_eq_true (by omega)
   have i0 : (0 : Int) ≤ (j : Int) := by omega
   have N1 := Lib.hid (below_new wr (.cells #[.int .i64 t.k, .int .u8 (t.b : Int)] 93))
   have hlen : (runW g s c L (ts.take j)).l.length ≤ L.length + j := by
    have h9 := (runW_len (g := g) (s := s) (c := c) (L := L) (ts := ts.take j)).1
    have := List.length_take_le j ts
    omega
   have W1 := Lib.hid (HW.out.below N1.out)
   have B1 := Lib.hid (HB.out.trans (Btw.of_below (I := I) N1.out) fun _ _ h => h)
   have HN := Lib.hid (runW_succ (g := g) (s := s) (c := c) (L := L) HX.out)
   obtain ⟨a, ha⟩ : ∃ a, a = runW g s c L (ts.take j) := ⟨_, rfl⟩
   rw [← ha] at HE HK W1 HN hlen
   have HAA := Lib.hid ha
   have HS1 := Lib.hid (send_any (Q := Q + j) t hin (by omega) HS.out HK.out (by omega) hk W1.out)
   have HNN := Lib.hid (show runW g s c L (ts.take (j + 1)) = ⟨(sendC g s a.c a.l t).2.1, (sendC g s a.c a.l t).2.2.1, (sendC g s a.c a.l t).2.2.2⟩ from HN.out.trans (if_pos HE.out))
   unfold Sends at HS1
   obtain ⟨z, hz⟩ : ∃ z, z = sendC g s a.c a.l t := ⟨_, rfl⟩
   rw [← hz] at HNN HS1
   obtain ⟨v, e, c1, l1⟩ := z
   simp only at HS1 HNN
   clear ha HN hz HB HW hb9 hin W1 hlen HE
   subst hA9
   go_wp2_with fail
   clear x0 x1
   refine HS1.out.mono ?_
   rintro _ w2 ⟨k', hk', hkk, rfl, h2, b2, o2⟩
   have H2 := Lib.hid h2
   have B2 := Lib.hid (B1.out.trans b2 fun _ _ h => h)
   have O2 := Lib.hid o2
   have KK := Lib.hid hk'
   clear h2 b2 o2 HS1 hk' N1 B1
   by_cases he : e = 0
   ·
    have HKK := Lib.hid (hkk he)
    subst he
    clear hkk
    go_wp2
    go_roundw
    case rel => exact ⟨j + 1, by omega, by go_num, by rw [HNN.out]; exact Lib.hid rfl, by rw [HNN.out]; exact O2, by rw [HNN.out]; exact HKK.out ▸ H2, B2⟩
    case measure => simp [intOf]; omega
   ·
    have HE2 := Lib.hid he
    have b0 : (e == 0) = false := by rw [beq_eq_false_iff_ne]; exact he
    have n0 : (e != 0) = true := by simp [he]
    have j0 : (e = 0) = False := eq_false he
    have dd0 : decide (e = 0) = false := decide_eq_false he
    clear hkk he
    go_wp2
    go_ret
    have hst : runW g s c L ts = ⟨e, c1, l1⟩ := (runW_stuck (k := j + 1) (by rw [HNN.out]; exact HE2.out)).trans HNN.out
    refine ⟨k', KK.out, ?_⟩
    rw [hst]
    exact ⟨rfl, H2.out, B2.out, fun h => (O2.out h).more (by have := HLN.out; omega), fun h => absurd h HE2.out⟩
  ·
   obtain rfl : j = n := by omega
   have d1 : decide ((j : Int) < (j : Int)) = false := decide_eq_false (by omega)
   have ht : ts.take j = ts := List.take_of_length_le (by have := HLN.out; omega)
   rw [ht] at HE HK HW
   have HT := Lib.hid ht
   clear ht
   go_wp2
   go_ret
   refine ⟨k, Nat.le_succ k, ?_⟩
   rw [HE.out, HLN.out]
   exact ⟨rfl, HW.out, HB.out, HK.out, fun _ => rfl⟩
theorem Trace_any (hL : L.length ≤ 1099511627775) (h : Wi I w q p r g s c L k) : Calls Tryz.prog 15 #[.pointer (some ⟨q, 0, none⟩)] w (OwnsC L w) := by
 obtain ⟨IC, IR, M, h⟩ := h
 have H0 := Lib.hid h
 clear h
 go_enter Tryz.func15, Tryz.ntmps15
 go_wp2_with fail
 refine (wmade_yes H0.out.row).mono ?_
 rintro _ w1 ⟨rfl, h1⟩
 have B1 := Lib.hid h1
 have H1 := Lib.hid (H0.out.below h1)
 clear h1 H0
 have x0 := H1.out.row.cell_at 0 _ rfl
 have HLI := Lib.hid (List_any r IR L _ M k _ H1.out.rc hL)
 go_wp2_with fail
 clear x0
 refine HLI.out.mono ?_
 rintro _ w2 ⟨h2, A, cc, rfl, r2⟩
 have B2 := Lib.hid (below_step B1.out h2)
 have R2 := Lib.hid r2
 clear h2 r2
 go_wp2
 go_ret
 exact ⟨B2.out, A, cc, rfl, R2.out⟩
set_option maxHeartbeats 1000000 in
theorem WNew_any (h : CH I w p g s c) : Calls Tryz.prog 8 #[.pointer (some ⟨p, 0, none⟩)] w fun e w' => ∃ q r, e = .returned (.tuple #[.pointer (some ⟨q, 0, none⟩), .int .i64 0]) ∧ Below w.heap.size w w' ∧ Wi I w' q p r g s c [] 0 := by
 have H0 := Lib.hid h
 clear h
 go_enter Tryz.func8, Tryz.ntmps8
 go_wp2_with fail
 refine (Array_any H0.out).mono ?_
 rintro _ w1 ⟨a, aq, ar, J, rfl, -, h1⟩
 have B1 := Lib.hid h1
 have H1 := Lib.hid (H0.out.below h1)
 clear h1 H0
 go_wp2_with fail
 refine (TrNew_any _).mono ?_
 rintro _ w2 ⟨r, IR, rfl, h2, r2, i2⟩
 have B2 := Lib.hid (below_step B1.out h2)
 have H2 := Lib.hid (H1.out.shrink h2)
 have R2 := Lib.hid r2
 have I2 := Lib.hid i2
 have LT := Lib.hid (H1.out.new_)
 have SZ := Lib.hid h2.size
 clear h2 r2 i2 H1
 have N3 := Lib.hid (below_new w2 (.cells #[.pointer (some ⟨r, 0, none⟩), .pointer (some ⟨p, 0, none⟩)] 77))
 have Z3 := Lib.hid (CRow.new w2 #[.pointer (some ⟨r, 0, none⟩), .pointer (some ⟨p, 0, none⟩)] 77)
 have H3 := Lib.hid (H2.out.shrink N3.out)
 have R3 := Lib.hid (R2.out.below N3.out)
 have B3 := Lib.hid (below_step B2.out N3.out)
 have RL := Lib.hid R2.out.lt
 go_wp2
 go_ret2
 refine ⟨w2.heap.size, r, rfl, B3.out, _, IR, _, Z3.out, H3.out, R3.out, ?_, ?_, ?_, ?_, ?_, ?_⟩
 ·
  intro j h1 h2
  have h3 := I2.out j h1
  have h4 := RL.out j h1
  have h5 := h2.1.2
  omega
 ·
  intro h1
  have h3 : (w2.alloc (.cells #[.pointer (some ⟨r, 0, none⟩), .pointer (some ⟨p, 0, none⟩)] 77)).heap.size = w2.heap.size + 1 := by simp
  have h2 : w2.heap.size < w2.heap.size ∨ (w2.alloc (.cells #[.pointer (some ⟨r, 0, none⟩), .pointer (some ⟨p, 0, none⟩)] 77)).heap.size ≤ w2.heap.size := h1.2
  omega
 ·
  intro h1
  exact absurd (RL.out _ h1) (Nat.lt_irrefl _)
 ·
  intro j hj
  exact hj.1.1
 ·
  intro j hj
  exact LT.out j (I2.out j hj)
 ·
  exact LT.out _ SZ.out
set_option maxHeartbeats 2000000 in
theorem WCommand_any {Q : Nat} (B : Option Addr) (n d : Nat) (b : List Nat) (hb : R8 w B n b) (hn : n ≤ 1000) (hQ : Q + n ≤ 100000) (hs : SG g s) (ho : c.on = true → Okc g Q c) (hL : L.length ≤ 100000) (hk : k < 1000) (h : Wi I w q p r g s c L k) :
  Calls Tryz.prog 25 #[.pointer (some ⟨q, 0, none⟩), .slice B n d] w (SentIs I q p r g s c L k Q (ofL 1 b) w) := by
 have hOf := Of_any 1 B n d b w hb (by omega)
 have HH := Lib.hid h
 have HS := Lib.hid hs
 have HO := Lib.hid ho
 have HLN := Lib.hid hb.len
 have H8 := Lib.hid hb.2
 clear h hs ho hb
 go_enter Tryz.func25, Tryz.ntmps25
 go_wp2_with fail
 refine hOf.mono ?_
 rintro e w1 ⟨A, c1, rfl, hown, B1⟩
 have hfar : ∀ b off, A = some ⟨b, off, none⟩ → w.heap.size ≤ b := fun b off e => by
  rcases hown.2 with ⟨hv, _⟩ | ⟨gg, cap, cur, hv, hbase, _⟩
  ·
   rw [e] at hv
   injection hv with hv
   cases hv
  ·
   rw [e] at hv
   injection hv with hv
   injection hv with hv
   injection hv with hv _
   omega
 have hl : RC w1 A (ofL 1 b).length (ofL 1 b) := RC.own hown fun t ht => by
  unfold ofL at ht
  obtain ⟨x, hx, rfl⟩ := List.mem_map.1 ht
  exact ⟨by show (-9223372036854775808 : Int) ≤ 1; decide, by show (1 : Int) ≤ _; decide, H8.out x hx⟩
 have W1 := Lib.hid (HH.out.away (J := fun _ => False) (Btw.of_below B1) fun _ _ h => h.elim)
 have hle : (ofL 1 b).length = n := by rw [ofL_length]; exact HLN.out
 rw [hle] at hl ⊢
 have hsd := Send_any (Q := Q) A n c1 (ofL 1 b) hl (fun bb off e hpos hi => by
  rcases hi.2 with h1 | h1
  ·
   exact absurd (hfar bb off e) (by omega)
  ·
   obtain ⟨b2, o2, e2, h2, _⟩ := hl.2.2 hpos
   rw [e] at e2
   injection e2 with e2
   injection e2 with e2 _
   omega) (by omega) hQ HS.out HO.out hL hk W1.out
 have BB := Lib.hid B1
 have SUB := Lib.hid (fun (j : Nat) (hj : I j ∧ (j < w.heap.size ∨ w1.heap.size ≤ j)) => hj.1)
 clear hl hOf B1 hle hfar hown
 go_wp2_with fail
 refine hsd.mono ?_
 rintro _ w2 ⟨k', hk', rfl, h2, b2, o2, kk2⟩
 have KK2 := Lib.hid kk2
 have H2 := Lib.hid (h2.widen SUB.out HH.out.qi)
 have B2 := Lib.hid ((Btw.of_below (I := I) BB.out).trans (b2.more SUB.out) fun _ _ h => h)
 have O2 := Lib.hid o2
 clear h2 b2 o2 hsd kk2
 go_wp2
 go_ret
 refine ⟨k', hk', rfl, H2.out, B2.out, ?_, KK2.out⟩
 rw [ofL_length, HLN.out]
 have h9 := O2.out
 rw [ofL_length, HLN.out] at h9
 exact h9
set_option maxHeartbeats 2000000 in
theorem WAddress_any {Q : Nat} (B : Option Addr) (n d : Nat) (b : List Nat) (hb : R8 w B n b) (hn : n ≤ 1000) (hQ : Q + n ≤ 100000) (hs : SG g s) (ho : c.on = true → Okc g Q c) (hL : L.length ≤ 100000) (hk : k < 1000) (h : Wi I w q p r g s c L k) :
  Calls Tryz.prog 51 #[.pointer (some ⟨q, 0, none⟩), .slice B n d] w (SentIs I q p r g s c L k Q (ofL 2 b) w) := by
 have hOf := Of_any 2 B n d b w hb (by omega)
 have HH := Lib.hid h
 have HS := Lib.hid hs
 have HO := Lib.hid ho
 have HLN := Lib.hid hb.len
 have H8 := Lib.hid hb.2
 clear h hs ho hb
 go_enter Tryz.func51, Tryz.ntmps51
 go_wp2_with fail
 refine hOf.mono ?_
 rintro e w1 ⟨A, c1, rfl, hown, B1⟩
 have hfar : ∀ b off, A = some ⟨b, off, none⟩ → w.heap.size ≤ b := fun b off e => by
  rcases hown.2 with ⟨hv, _⟩ | ⟨gg, cap, cur, hv, hbase, _⟩
  ·
   rw [e] at hv
   injection hv with hv
   cases hv
  ·
   rw [e] at hv
   injection hv with hv
   injection hv with hv
   injection hv with hv _
   omega
 have hl : RC w1 A (ofL 2 b).length (ofL 2 b) := RC.own hown fun t ht => by
  unfold ofL at ht
  obtain ⟨x, hx, rfl⟩ := List.mem_map.1 ht
  exact ⟨by show (-9223372036854775808 : Int) ≤ 2; decide, by show (2 : Int) ≤ _; decide, H8.out x hx⟩
 have W1 := Lib.hid (HH.out.away (J := fun _ => False) (Btw.of_below B1) fun _ _ h => h.elim)
 have hle : (ofL 2 b).length = n := by rw [ofL_length]; exact HLN.out
 rw [hle] at hl ⊢
 have hsd := Send_any (Q := Q) A n c1 (ofL 2 b) hl (fun bb off e hpos hi => by
  rcases hi.2 with h1 | h1
  ·
   exact absurd (hfar bb off e) (by omega)
  ·
   obtain ⟨b2, o2, e2, h2, _⟩ := hl.2.2 hpos
   rw [e] at e2
   injection e2 with e2
   injection e2 with e2 _
   omega) (by omega) hQ HS.out HO.out hL hk W1.out
 have BB := Lib.hid B1
 have SUB := Lib.hid (fun (j : Nat) (hj : I j ∧ (j < w.heap.size ∨ w1.heap.size ≤ j)) => hj.1)
 clear hl hOf B1 hle hfar hown
 go_wp2_with fail
 refine hsd.mono ?_
 rintro _ w2 ⟨k', hk', rfl, h2, b2, o2, kk2⟩
 have KK2 := Lib.hid kk2
 have H2 := Lib.hid (h2.widen SUB.out HH.out.qi)
 have B2 := Lib.hid ((Btw.of_below (I := I) BB.out).trans (b2.more SUB.out) fun _ _ h => h)
 have O2 := Lib.hid o2
 clear h2 b2 o2 hsd kk2
 go_wp2
 go_ret
 refine ⟨k', hk', rfl, H2.out, B2.out, ?_, KK2.out⟩
 rw [ofL_length, HLN.out]
 have h9 := O2.out
 rw [ofL_length, HLN.out] at h9
 exact h9
end
theorem sendC_ok {g : Gm} {s : Sc} {c : Ch} {L : List Cy} {t : Cy} (h : (sendC g s c L t).2.1 = 0) : (sendC g s c L t).2.2.2 = L ++ [keptC t (sendC g s c L t).1] := by
 unfold sendC at h ⊢
 split
 ·
  rfl
 ·
  rename_i h1
  rw [if_neg h1] at h
  exact absurd h h1
theorem sendC_byte {g : Gm} {s : Sc} {c : Ch} {L : List Cy} {t : Cy} (h : ∀ x ∈ c.reg, x < 256) : 0 ≤ (sendC g s c L t).1 ∧ (sendC g s c L t).1 < 256 := by
 unfold sendC
 split
 ·
  exact doC_byte t h
 ·
  simp
theorem Wi.regs {I : Nat → Prop} {w : World} {q p r : Nat} {g : Gm} {s : Sc} {c : Ch} {L : List Cy} {k : Nat} (h : Wi I w q p r g s c L k) : ∀ x ∈ c.reg, x < 256 := by
 obtain ⟨IC, IR, M, h⟩ := h
 exact (Go.Proofs.YtmbgoopkpfhamaaGreat.regs h.ch).2.2.2.2
def rds (n : Nat) : List Cy := List.replicate n ⟨4, 0⟩
theorem rds_at {n j : Nat} (h : j < n) : (rds n)[j]? = some ⟨4, 0⟩ := by unfold rds; rw [List.getElem?_replicate, if_pos h]
def readB (L l : List Cy) : List Nat := (l.drop L.length).map (·.b)
section
variable {I : Nat → Prop} {w : World} {q p r : Nat} {g : Gm} {s : Sc} {c : Ch} {L : List Cy} {k : Nat}
def ReadIs (I : Nat → Prop) (q p r : Nat) (g : Gm) (s : Sc) (c : Ch) (L : List Cy) (k Q n : Nat) (w : World) (e : Ending) (w' : World) : Prop :=
 ∃ k' A d, k' ≤ k + 1 ∧ ((runW g s c L (rds n)).e = 0 → e = .returned (.tuple #[.slice A n d, .int .i64 0]) ∧ w'.ownsRow w.heap.size 5 1 (.slice A n d) n (U8 (readB L (runW g s c L (rds n)).l)) ∧ R8 w' A n (readB L (runW g s c L (rds n)).l)) ∧
  ((runW g s c L (rds n)).e ≠ 0 → e = .returned (.tuple #[.slice none 0 0, .int .i64 (runW g s c L (rds n)).e])) ∧
  (∃ I', Wi I' w' q p r g s (runW g s c L (rds n)).c (runW g s c L (rds n)).l k' ∧ (∀ j, I' j → I j) ∧ ((runW g s c L (rds n)).e = 0 → ∀ j, (Value.slice A n d).ownBlock = some j → ¬ I' j)) ∧ Btw I w w' ∧ ((runW g s c L (rds n)).c.on = true → Okc g (Q + n) (runW g s c L (rds n)).c) ∧ ((runW g s c L (rds n)).e = 0 → k' = k)
theorem readB_len {n : Nat} (ts : List Cy) (h : (runW g s c L ts).e = 0) (hn : ts.length = n) : (readB L (runW g s c L ts).l).length = n := by
 unfold readB
 rw [List.length_map, List.length_drop, (runW_len).2 h]
 omega
set_option maxHeartbeats 8000000 in
theorem Read_any {Q : Nat} (n : Nat) (hn : n ≤ 1000) (hQ : Q + n ≤ 100000) (hs : SG g s) (ho : c.on = true → Okc g Q c) (hL : L.length ≤ 100000) (hk : k < 1000) (h : Wi I w q p r g s c L k) :
  Calls Tryz.prog 32 #[.pointer (some ⟨q, 0, none⟩), .int .i64 (n : Int)] w (ReadIs I q p r g s c L k Q n w) := by
 have H0 := Lib.hid h
 have HS := Lib.hid hs
 have HO := Lib.hid ho
 have HN := Lib.hid hn
 obtain ⟨IC, IR, M, hh⟩ := h
 have R0 := Lib.hid hh.row
 have n0 : decide ((n : Int) < 0) = false := decide_eq_false (by omega)
 have n1 : decide (16777216 < (n : Int)) = false := decide_eq_false (by omega)
 clear hs ho hh
 go_enter Tryz.func32, Tryz.ntmps32
 go_wp2_with fail
 refine (wmade_yes R0.out).mono ?_
 rintro _ w1 ⟨rfl, h1⟩
 have B1 := Lib.hid h1
 have H1 := Lib.hid (H0.out.below h1)
 clear h1 R0 H0
 go_wp2
 clear n0 n1
 go_loopw [19, 6] (fun i v wr => ∃ (j : Nat) (A : Option Addr) (d : Nat) (I' : Nat → Prop), j ≤ n ∧ i = .int .i64 (j : Int) ∧ v = .slice A j d ∧ Hid ((runW g s c L ((rds n).take j)).e = 0) ∧ Hid ((runW g s c L ((rds n).take j)).c.on = true → Okc g (Q + j) (runW g s c L ((rds n).take j)).c) ∧ Hid (Wi I' wr q p r g s (runW g s c L ((rds n).take j)).c (runW g s c L ((rds n).take j)).l k) ∧ Hid (Btw I w wr) ∧ Hid (∀ j, I' j → I j) ∧ Hid (w.heap.size ≤ wr.heap.size) ∧
  Hid (wr.ownsRow w.heap.size 5 1 (.slice A j d) j (U8 (readB L (runW g s c L ((rds n).take j)).l))) ∧ Hid (∀ x, (Value.slice A j d).ownBlock = some x → ¬ I' x) ∧ Hid (∀ x ∈ readB L (runW g s c L ((rds n).take j)).l, x < 256)) (fun i _ _ => n - (intOf i).toNat)
 case atStart => exact ⟨0, none, 0, I, Nat.zero_le _, rfl, rfl, by rw [runW_zero]; exact Lib.hid rfl, by rw [runW_zero]; exact HO, by rw [runW_zero]; exact H1, Lib.hid (Btw.of_below B1.out), Lib.hid (fun _ h => h), Lib.hid B1.out.size, Lib.hid (by rw [runW_zero]; simp only [readB, List.drop_length, List.map_nil]; exact World.ownsRow_nil _ _ _ _), Lib.hid (fun x hx => by cases hx), Lib.hid (by rw [runW_zero]; simp [readB])⟩
 case round =>
  obtain ⟨j, A, d, I', hj, rfl, rfl, HE, HK, HW, HB, HI, HZ, HOW, HNI, H256⟩ := hrel
  rename World => wr
  clear H1 B1
  by_cases hlt : j < n
  ·
   have d1 : decide ((j : Int) < (n : Int)) = true := decide_eq_true (by omega)
   have i0 : (0 : Int) ≤ (j : Int) := by omega
   have hlt' : ((rds n).take j).length = j := by rw [List.length_take]; unfold rds; rw [List.length_replicate]; omega
   have hll := readB_len (g := g) (s := s) (c := c) (L := L) ((rds n).take j) HE.out hlt'
   have hlen : (runW g s c L ((rds n).take j)).l.length = L.length + j := by
    have h9 := (runW_len (g := g) (s := s) (c := c) (L := L) (ts := (rds n).take j)).2 HE.out
    omega
   have HNX := Lib.hid (runW_succ (g := g) (s := s) (c := c) (L := L) (rds_at hlt))
   obtain ⟨a, ha⟩ : ∃ a, a = runW g s c L ((rds n).take j) := ⟨_, rfl⟩
   rw [← ha] at HE HK HW HNX HOW H256 hlen hll
   have HS1 := Lib.hid (send_any (Q := Q + j) ⟨4, 0⟩ ⟨by decide, by decide, by decide⟩ (by omega) HS.out HK.out (by omega) hk HW.out)
   have HNN := Lib.hid (show runW g s c L ((rds n).take (j + 1)) = ⟨(sendC g s a.c a.l ⟨4, 0⟩).2.1, (sendC g s a.c a.l ⟨4, 0⟩).2.2.1, (sendC g s a.c a.l ⟨4, 0⟩).2.2.2⟩ from HNX.out.trans (if_pos HE.out))
   have hby := sendC_byte (g := g) (s := s) (L := a.l) (t := ⟨4, 0⟩) HW.out.regs
   have hokl := sendC_ok (g := g) (s := s) (c := a.c) (L := a.l) (t := ⟨4, 0⟩)
   unfold Sends at HS1
   obtain ⟨z, hz⟩ : ∃ z, z = sendC g s a.c a.l ⟨4, 0⟩ := ⟨_, rfl⟩
   rw [← hz] at HNN HS1 hby hokl
   obtain ⟨v0, e, c1, l1⟩ := z
   simp only at HS1 HNN hby hokl
   obtain ⟨v, rfl⟩ : ∃ v : Nat, v0 = (v : Int) := ⟨v0.toNat, by omega⟩
   have HV := Lib.hid (show v < 256 by omega)
   have HKL := Lib.hid hokl
   have HLL := Lib.hid hll
   have HLN := Lib.hid hlen
   clear ha HNX hz HW HE hby hokl hlt' hll hlen
   go_wp2_with fail
   refine HS1.out.mono ?_
   rintro _ w2 ⟨k', hk', hkk, rfl, h2, b2, o2⟩
   have H2 := Lib.hid h2
   have B2 := Lib.hid (HB.out.trans (b2.more HI.out) fun _ _ h => h)
   have O2 := Lib.hid o2
   have KK := Lib.hid hk'
   have OW2 := Lib.hid (own_btw1 HOW.out b2 HNI.out)
   have Z2 := Lib.hid (Nat.le_trans HZ.out b2.size)
   clear h2 b2 o2 HS1 hk' HOW HB HZ
   by_cases he : e = 0
   ·
    have HKK := Lib.hid (hkk he)
    subst he
    have hl1 : l1 = a.l ++ [⟨4, v⟩] := HKL.out rfl
    have hrb : readB L l1 = readB L a.l ++ [v] := by
     unfold readB
     rw [hl1, List.drop_append_of_le_length (by have := HLN.out; omega), List.map_append]
     rfl
    have HRB := Lib.hid hrb
    clear hkk hl1 hrb
    have S2 := Lib.hid (show (readB L a.l).length + 1 ≤ 1099511627776 by rw [HLL.out]; omega)
    have OW3 := Lib.hid (OW2.out.alloc (.cells #[.int .u8 (v : Int)] 5))
    obtain ⟨bs, hbs⟩ : ∃ bs, bs = readB L a.l := ⟨_, rfl⟩
    rw [← hbs] at OW3 S2 HLL HRB H256
    have hbl : bs.length = j := HLL.out
    subst hbl
    clear hbs OW2
    go_wp2_with (at_builtin; refine wpList_append8A (w2.alloc (.cells #[.int .u8 (v : Int)] 5)) rfl (.tmp 30) (.tmp 32) rfl w.heap.size _ bs rfl OW3.out ⟨w2.heap.size, 0, none⟩ 1 1 [v] rfl (r8_one w2 v HV.out _) S2.out (by have h9 := Z2.out; simp; omega) ?_)
    intro v3 w3 hown hg hwh
    obtain ⟨A3, c3, rfl⟩ := own_form1 hown
    have hgb := Btw.of_grown (I := fun x => (Value.slice A bs.length d).ownBlock = some x) hg (fun _ h => h)
    have W3 := H2.out.below (below_new w2 (.cells #[.int .u8 (v : Int)] 5))
    have H3 := Lib.hid (W3.away hgb fun x _ hx => HNI.out x hx)
    have hlow : ∀ x, (Value.slice A3 (bs.length + 1) c3).ownBlock = some x → w.heap.size ≤ x ∧ x < w3.heap.size := fun x hx => by
     obtain ⟨h8, cur, h9⟩ := own_at1 hown x hx
     exact ⟨h8, (Array.getElem?_eq_some_iff.1 h9).1⟩
    have hlow0 : ∀ x, (Value.slice A bs.length d).ownBlock = some x → w.heap.size ≤ x := fun x hx => (own_at1 OW3.out x hx).1
    have NI3 := Lib.hid (show ∀ x, (Value.slice A3 (bs.length + 1) c3).ownBlock = some x → ¬ (I' x ∧ (x < (w2.alloc (.cells #[.int .u8 (v : Int)] 5)).heap.size ∨ w3.heap.size ≤ x)) from fun x hx hi => by
     rcases hwh with h8 | h8
     ·
      exact HNI.out x (h8 ▸ hx) hi.1
     ·
      have h5 : w2.heap.size + 1 = x := Option.some.inj (h8.symm.trans hx)
      have h4 : (w2.alloc (.cells #[.int .u8 (v : Int)] 5)).heap.size = w2.heap.size + 1 := by simp
      have h6 := (hlow x hx).2
      have h7 : x < (w2.alloc (.cells #[.int .u8 (v : Int)] 5)).heap.size ∨ w3.heap.size ≤ x := hi.2
      omega)
    have B3 := Lib.hid ((B2.out.trans (Btw.of_below (I := I) (below_new w2 (.cells #[.int .u8 (v : Int)] 5))) fun _ _ h => h).trans hgb fun x hx h => absurd (hlow0 x h) (by omega))
    have OW4 := Lib.hid hown
    have Z3 := Lib.hid (show w.heap.size ≤ w3.heap.size from B3.out.size)
    have SUB := Lib.hid (fun (x : Nat) (hx : I' x ∧ (x < (w2.alloc (.cells #[.int .u8 (v : Int)] 5)).heap.size ∨ w3.heap.size ≤ x)) => HI.out x hx.1)
    have X256 := Lib.hid (show ∀ x ∈ bs ++ [v], x < 256 from fun x hx => by
     rcases List.mem_append.1 hx with h8 | h8
     ·
      exact H256.out x h8
     ·
      rw [List.mem_singleton.1 h8]; exact HV.out)
    clear hown hg hwh hgb W3 hlow hlow0 OW3 H2
    go_wp2
    go_roundw
    case rel => exact ⟨bs.length + 1, A3, c3, _, by omega, by go_num, by first | rfl | go_num, by rw [HNN.out]; exact Lib.hid rfl, by rw [HNN.out]; exact O2, by rw [HNN.out]; exact HKK.out ▸ H3, B3, SUB, Z3, by rw [HNN.out]; show Hid (w3.ownsRow _ _ _ _ _ (U8 (readB L l1))); rw [HRB.out]; exact OW4, NI3, by rw [HNN.out]; show Hid (∀ x ∈ readB L l1, x < 256); rw [HRB.out]; exact X256⟩
    case measure => simp [intOf]; omega
   ·
    have HE2 := Lib.hid he
    have b0 : (e == 0) = false := by rw [beq_eq_false_iff_ne]; exact he
    have n0 : (e != 0) = true := by simp [he]
    have j0 : (e = 0) = False := eq_false he
    have dd0 : decide (e = 0) = false := decide_eq_false he
    clear hkk he
    go_wp2
    go_ret2
    have hst : runW g s c L (rds n) = ⟨e, c1, l1⟩ := (runW_stuck (k := j + 1) (by rw [HNN.out]; exact HE2.out)).trans HNN.out
    refine ⟨k', none, 0, KK.out, ?_⟩
    rw [hst]
    exact ⟨fun h => absurd h HE2.out, fun _ => rfl, ⟨I', H2.out, HI.out, fun h => absurd h HE2.out⟩, B2.out, fun h => (O2.out h).more (by omega), fun h => absurd h HE2.out⟩
  ·
   obtain rfl : j = n := by omega
   have d1 : decide ((j : Int) < (j : Int)) = false := decide_eq_false (by omega)
   have ht : (rds j).take j = rds j := List.take_of_length_le (by unfold rds; rw [List.length_replicate]; omega)
   rw [ht] at HE HK HW HOW H256
   clear ht
   go_wp2
   go_ret2
   refine ⟨k, A, d, Nat.le_succ k, fun _ => ⟨rfl, HOW.out, R8.own HOW.out H256.out⟩, fun h => absurd HE.out h, ⟨I', HW.out, HI.out, fun _ => HNI.out⟩, HB.out, HK.out, fun _ => rfl⟩
end
def stP (x : Nat × Bool) (t : Cy) : Nat × Bool := if t.k = 4 then (if x.2 = true then (x.1 + 1, x.2) else x) else (x.1, decide (t.k = 1 ∧ t.b = 112))
def plF (x : Nat × Bool) (l : List Cy) : Nat × Bool := l.foldl stP x
def plS (l : List Cy) : Nat × Bool := plF (0, false) l
def pls (l : List Cy) : Nat := (plS l).1
theorem plF_append (x : Nat × Bool) (l m : List Cy) : plF x (l ++ m) = plF (plF x l) m := by unfold plF; rw [List.foldl_append]
theorem plF_reads (l : List Cy) (hl : ∀ t ∈ l, t.k = 4) : ∀ n, plF (n, true) l = (n + l.length, true) := by
 induction l with
 | nil => exact fun n => rfl
 | cons t l ih =>
  intro n
  have e : plF (n, true) (t :: l) = plF (stP (n, true) t) l := rfl
  have h4 : stP (n, true) t = (n + 1, true) := by
   unfold stP
   rw [if_pos (hl t (List.mem_cons_self ..)), if_pos rfl]
  rw [e, h4, ih (fun t ht => hl t (List.mem_cons_of_mem _ ht)), List.length_cons]
  congr 1
  omega
def hasM (v m : Int) : Bool := bits .and .u8 v m == m
def pollN (g : Gm) (s : Sc) (m : Int) : Nat → Ch → List Cy → Int × Int × Ch × List Cy
 | 0, c, L => (0, 21, c, L)
 | n + 1, c, L =>
  if (sendC g s c L ⟨4, 0⟩).2.1 = 0 then
   (if hasM (sendC g s c L ⟨4, 0⟩).1 m = true then ((sendC g s c L ⟨4, 0⟩).1, 0, (sendC g s c L ⟨4, 0⟩).2.2.1, (sendC g s c L ⟨4, 0⟩).2.2.2)
   else pollN g s m n (sendC g s c L ⟨4, 0⟩).2.2.1 (sendC g s c L ⟨4, 0⟩).2.2.2)
  else (0, (sendC g s c L ⟨4, 0⟩).2.1, (sendC g s c L ⟨4, 0⟩).2.2.1, (sendC g s c L ⟨4, 0⟩).2.2.2)
def waitW (g : Gm) (s : Sc) (c : Ch) (L : List Cy) (m : Int) (n : Nat) : Int × Int × Ch × List Cy :=
 if (sendC g s c L ⟨1, 112⟩).2.1 = 0 then pollN g s m n (sendC g s c L ⟨1, 112⟩).2.2.1 (sendC g s c L ⟨1, 112⟩).2.2.2
 else (0, (sendC g s c L ⟨1, 112⟩).2.1, (sendC g s c L ⟨1, 112⟩).2.2.1, (sendC g s c L ⟨1, 112⟩).2.2.2)
def resetW (g : Gm) (s : Sc) (c : Ch) (L : List Cy) (n : Nat) : Int × Ch × List Cy :=
 if (sendC g s c L ⟨1, 255⟩).2.1 = 0 then (waitW g s (sendC g s c L ⟨1, 255⟩).2.2.1 (sendC g s c L ⟨1, 255⟩).2.2.2 96 n).2
 else ((sendC g s c L ⟨1, 255⟩).2.1, (sendC g s c L ⟨1, 255⟩).2.2.1, (sendC g s c L ⟨1, 255⟩).2.2.2)
section
variable {g : Gm} {s : Sc} {c : Ch} {L : List Cy} {m : Int} {n : Nat}
theorem sendC_err (t : Cy) (hk : okK t.k = true) : (sendC g s c L t).2.1 = 0 ∨ (sendC g s c L t).2.1 = 20 := by
 have h : (c.doC g s t).2.1 = 0 ∨ (c.doC g s t).2.1 = 20 := by
  unfold Ch.doC
  split
  ·
   exact .inr rfl
  ·
   split
   ·
    rename_i h
    rw [hk] at h
    cases h
   ·
    split
    ·
     exact .inr rfl
    ·
     exact .inl rfl
 unfold sendC
 split
 ·
  exact .inl rfl
 ·
  exact h
theorem sendC_no (t : Cy) (h : (sendC g s c L t).2.1 ≠ 0) : (sendC g s c L t).2.2.2 = L ∧ (sendC g s c L t).1 = 0 := by
 unfold sendC at h ⊢
 split
 ·
  rename_i h2
  rw [if_pos h2] at h
  exact absurd rfl h
 ·
  exact ⟨rfl, rfl⟩
theorem pollN_is (n : Nat) : ∀ c L, (∃ rs : List Cy, (∀ t ∈ rs, t.k = 4) ∧ rs.length ≤ n ∧ (pollN g s m n c L).2.2.2 = L ++ rs) ∧
  ((pollN g s m n c L).2.1 = 0 ∧ hasM (pollN g s m n c L).1 m = true ∨ ((pollN g s m n c L).2.1 = 20 ∨ (pollN g s m n c L).2.1 = 21) ∧ (pollN g s m n c L).1 = 0) := by
 induction n with
 | zero => exact fun c L => ⟨⟨[], fun t ht => (by cases ht), Nat.le_refl _, (List.append_nil L).symm⟩, .inr ⟨.inr rfl, rfl⟩⟩
 | succ n ih =>
  intro c L
  unfold pollN
  have he := sendC_err (g := g) (s := s) (c := c) (L := L) ⟨4, 0⟩ rfl
  by_cases h0 : (sendC g s c L ⟨4, 0⟩).2.1 = 0
  ·
   rw [if_pos h0]
   have hl := sendC_ok h0
   by_cases hb : hasM (sendC g s c L ⟨4, 0⟩).1 m = true
   ·
    rw [if_pos hb]
    exact ⟨⟨[keptC ⟨4, 0⟩ (sendC g s c L ⟨4, 0⟩).1], fun t ht => by rw [List.mem_singleton.1 ht]; rfl, by simp, hl⟩, .inl ⟨rfl, hb⟩⟩
   ·
    rw [if_neg hb]
    obtain ⟨⟨rs, h1, h2, h3⟩, h4⟩ := ih (sendC g s c L ⟨4, 0⟩).2.2.1 (sendC g s c L ⟨4, 0⟩).2.2.2
    refine ⟨⟨keptC ⟨4, 0⟩ (sendC g s c L ⟨4, 0⟩).1 :: rs, fun t ht => ?_, by rw [List.length_cons]; omega, ?_⟩, h4⟩
    ·
     rcases List.mem_cons.1 ht with ht | ht
     ·
      rw [ht]; rfl
     ·
      exact h1 t ht
    ·
     rw [h3, hl, List.append_assoc]
     rfl
  ·
   rw [if_neg h0]
   have hn := sendC_no _ h0
   refine ⟨⟨[], fun t ht => (by cases ht), Nat.zero_le _, ?_⟩, .inr ⟨.inl ?_, rfl⟩⟩
   ·
    rw [List.append_nil]; exact hn.1
   ·
    rcases he with he | he
    ·
     exact absurd he h0
    ·
     exact he
theorem waitW_is (c : Ch) (L : List Cy) (m : Int) (n : Nat) : ((waitW g s c L m n).2.2.2 = L ∨ ∃ rs : List Cy, (∀ t ∈ rs, t.k = 4) ∧ rs.length ≤ n ∧ (waitW g s c L m n).2.2.2 = L ++ [⟨1, 112⟩] ++ rs) ∧
  ((waitW g s c L m n).2.1 = 0 ∧ hasM (waitW g s c L m n).1 m = true ∨ ((waitW g s c L m n).2.1 = 20 ∨ (waitW g s c L m n).2.1 = 21) ∧ (waitW g s c L m n).1 = 0) := by
 unfold waitW
 have he := sendC_err (g := g) (s := s) (c := c) (L := L) ⟨1, 112⟩ rfl
 by_cases h0 : (sendC g s c L ⟨1, 112⟩).2.1 = 0
 ·
  rw [if_pos h0]
  have hl := sendC_ok h0
  have hk : keptC ⟨1, 112⟩ (sendC g s c L ⟨1, 112⟩).1 = ⟨1, 112⟩ := rfl
  rw [hk] at hl
  obtain ⟨⟨rs, h1, h2, h3⟩, h4⟩ := pollN_is (g := g) (s := s) (m := m) n (sendC g s c L ⟨1, 112⟩).2.2.1 (sendC g s c L ⟨1, 112⟩).2.2.2
  exact ⟨.inr ⟨rs, h1, h2, by rw [h3, hl]⟩, h4⟩
 ·
  rw [if_neg h0]
  refine ⟨.inl (sendC_no _ h0).1, .inr ⟨.inl ?_, rfl⟩⟩
  rcases he with he | he
  ·
   exact absurd he h0
  ·
   exact he
theorem waitW_polls (c : Ch) (L : List Cy) (m : Int) (n : Nat) : pls L ≤ pls (waitW g s c L m n).2.2.2 ∧ pls (waitW g s c L m n).2.2.2 ≤ pls L + n ∧ (waitW g s c L m n).2.2.2.length ≤ L.length + 1 + n := by
 rcases (waitW_is (g := g) (s := s) c L m n).1 with h | ⟨rs, h1, h2, h3⟩
 ·
  rw [h]
  omega
 ·
  have e : pls (L ++ [⟨1, 112⟩] ++ rs) = pls L + rs.length := by
   show (plF (0, false) (L ++ [⟨1, 112⟩] ++ rs)).1 = _
   rw [plF_append, plF_append]
   have e2 : plF (plF (0, false) L) [⟨1, 112⟩] = (pls L, true) := rfl
   rw [e2, plF_reads rs h1]
  rw [h3, e]
  simp
  omega
theorem resetW_is (c : Ch) (L : List Cy) (n : Nat) : pls (resetW g s c L n).2.2 ≤ pls L + n ∧ (resetW g s c L n).2.2.length ≤ L.length + 2 + n ∧ ((resetW g s c L n).1 = 0 ∨ (resetW g s c L n).1 = 20 ∨ (resetW g s c L n).1 = 21) := by
 unfold resetW
 have he := sendC_err (g := g) (s := s) (c := c) (L := L) ⟨1, 255⟩ rfl
 by_cases h0 : (sendC g s c L ⟨1, 255⟩).2.1 = 0
 ·
  rw [if_pos h0]
  have hl := sendC_ok h0
  have hk : keptC ⟨1, 255⟩ (sendC g s c L ⟨1, 255⟩).1 = ⟨1, 255⟩ := rfl
  rw [hk] at hl
  have hw := waitW_polls (g := g) (s := s) (sendC g s c L ⟨1, 255⟩).2.2.1 (sendC g s c L ⟨1, 255⟩).2.2.2 96 n
  have hv := (waitW_is (g := g) (s := s) (sendC g s c L ⟨1, 255⟩).2.2.1 (sendC g s c L ⟨1, 255⟩).2.2.2 96 n).2
  have e : pls (L ++ [⟨1, 255⟩]) = pls L := by
   show (plF (0, false) (L ++ [⟨1, 255⟩])).1 = _
   rw [plF_append]
   rfl
  generalize waitW g s (sendC g s c L ⟨1, 255⟩).2.2.1 (sendC g s c L ⟨1, 255⟩).2.2.2 96 n = z at *
  rw [hl, e] at hw
  simp at hw
  refine ⟨hw.2.1, by omega, ?_⟩
  rcases hv with hv | hv
  ·
   exact .inl hv.1
  ·
   exact .inr hv.1
 ·
  rw [if_neg h0]
  have hn := sendC_no _ h0
  refine ⟨?_, ?_, ?_⟩
  ·
   show pls (sendC g s c L ⟨1, 255⟩).2.2.2 ≤ _
   rw [hn.1]; omega
  ·
   show (sendC g s c L ⟨1, 255⟩).2.2.2.length ≤ _
   rw [hn.1]; omega
  ·
   rcases he with he | he
   ·
    exact absurd he h0
   ·
    exact .inr (.inl he)
theorem doC_on (t : Cy) (ho : c.on = true) (hc : c.cut = -1) (hk : okK t.k = true) : c.doC g s t = ((c.tick.exec g s t.k.toNat t.b (parL g)).1, 0, (c.tick.exec g s t.k.toNat t.b (parL g)).2) := by
 unfold Ch.doC
 rw [if_neg (by rw [ho]; decide), if_neg (by rw [hk]; decide), if_neg (by omega)]
theorem sendC_on (t : Cy) (ho : c.on = true) (hc : c.cut = -1) (hk : okK t.k = true) : sendC g s c L t = ((c.tick.exec g s t.k.toNat t.b (parL g)).1, 0, (c.tick.exec g s t.k.toNat t.b (parL g)).2, L ++ [keptC t (c.tick.exec g s t.k.toNat t.b (parL g)).1]) := by
 unfold sendC
 rw [doC_on t ho hc hk, if_pos rfl]
theorem tick_cut (hc : c.cut = -1) : c.tick.cut = -1 := by
 show (if c.cut = -1 then -1 else c.cut - 1) = -1
 rw [if_pos hc]
end
theorem may_any (n : Int) (w : World) : Calls Tryz.prog 24 #[.int .i64 n] w (Gives (.bool (decide (1 ≤ n ∧ n ≤ 65536))) w) := by
 go_enter Tryz.func24, Tryz.ntmps24
 by_cases h1 : 1 ≤ n
 ·
  have d1 : decide (1 ≤ n) = true := decide_eq_true h1
  have e : decide (1 ≤ n ∧ n ≤ 65536) = decide (n ≤ 65536) := decide_eq_decide.2 (by omega)
  rw [e]
  clear e
  go_wp2
  go_ret
  exact ⟨rfl, Below.refl _ _⟩
 ·
  have d1 : decide (1 ≤ n) = false := decide_eq_false h1
  rw [decide_eq_false (show ¬ (1 ≤ n ∧ n ≤ 65536) by omega)]
  go_wp2
  go_ret
  exact ⟨rfl, Below.refl _ _⟩
section
variable {I : Nat → Prop} {w : World} {q p r : Nat} {g : Gm} {s : Sc} {c : Ch} {L : List Cy} {k : Nat}
theorem runW_1 (t : Cy) : runW g s c L [t] = ⟨(sendC g s c L t).2.1, (sendC g s c L t).2.2.1, (sendC g s c L t).2.2.2⟩ := by
 show stepW g s ⟨0, c, L⟩ t = _
 exact if_pos rfl
theorem Cmd_one {Q : Nat} (B : Option Addr) (d b : Nat) (hb : R8 w B 1 [b]) (hQ : Q + 1 ≤ 100000) (hs : SG g s) (ho : c.on = true → Okc g Q c) (hL : L.length ≤ 100000) (hk : k < 1000) (h : Wi I w q p r g s c L k) :
  Calls Tryz.prog 25 #[.pointer (some ⟨q, 0, none⟩), .slice B 1 d] w fun e w' => ∃ k', k' ≤ k + 1 ∧ e = .returned (.int .i64 (sendC g s c L ⟨1, b⟩).2.1) ∧ Wi I w' q p r g s (sendC g s c L ⟨1, b⟩).2.2.1 (sendC g s c L ⟨1, b⟩).2.2.2 k' ∧ Btw I w w' ∧
   ((sendC g s c L ⟨1, b⟩).2.2.1.on = true → Okc g (Q + 1) (sendC g s c L ⟨1, b⟩).2.2.1) ∧ ((sendC g s c L ⟨1, b⟩).2.1 = 0 → k' = k) := by
 refine (WCommand_any (Q := Q) B 1 d [b] hb (by omega) hQ hs ho hL hk h).mono ?_
 rintro e w' ⟨k', h1, h2, h3, h4, h5, h6⟩
 have e1 : runW g s c L (ofL 1 [b]) = ⟨(sendC g s c L ⟨1, b⟩).2.1, (sendC g s c L ⟨1, b⟩).2.2.1, (sendC g s c L ⟨1, b⟩).2.2.2⟩ := runW_1 ⟨1, b⟩
 rw [e1] at h2 h3 h5 h6
 exact ⟨k', h1, h2, h3, h4, h5, h6⟩
theorem Read_one {Q : Nat} (hQ : Q + 1 ≤ 100000) (hs : SG g s) (ho : c.on = true → Okc g Q c) (hL : L.length ≤ 100000) (hk : k < 1000) (h : Wi I w q p r g s c L k) :
  Calls Tryz.prog 32 #[.pointer (some ⟨q, 0, none⟩), .int .i64 1] w fun e w' => ∃ k' A d, k' ≤ k + 1 ∧
   ((sendC g s c L ⟨4, 0⟩).2.1 = 0 → e = .returned (.tuple #[.slice A 1 d, .int .i64 0]) ∧ R8 w' A 1 [(sendC g s c L ⟨4, 0⟩).1.toNat]) ∧ ((sendC g s c L ⟨4, 0⟩).2.1 ≠ 0 → e = .returned (.tuple #[.slice none 0 0, .int .i64 (sendC g s c L ⟨4, 0⟩).2.1])) ∧
   Wi I w' q p r g s (sendC g s c L ⟨4, 0⟩).2.2.1 (sendC g s c L ⟨4, 0⟩).2.2.2 k' ∧ Btw I w w' ∧ ((sendC g s c L ⟨4, 0⟩).2.2.1.on = true → Okc g (Q + 1) (sendC g s c L ⟨4, 0⟩).2.2.1) ∧ ((sendC g s c L ⟨4, 0⟩).2.1 = 0 → k' = k) := by
 refine (Read_any (Q := Q) 1 (by omega) hQ hs ho hL hk h).mono ?_
 rintro e w' ⟨k', A, d, h1, h2, h3, ⟨I', h4, h5, _⟩, h6, h7, h8⟩
 have e1 : runW g s c L (rds 1) = ⟨(sendC g s c L ⟨4, 0⟩).2.1, (sendC g s c L ⟨4, 0⟩).2.2.1, (sendC g s c L ⟨4, 0⟩).2.2.2⟩ := runW_1 ⟨4, 0⟩
 rw [e1] at h2 h3 h4 h7 h8
 refine ⟨k', A, d, h1, fun h0 => ⟨(h2 h0).1, ?_⟩, h3, h4.widen h5 h.qi, h6, h7, h8⟩
 have h9 := (h2 h0).2.2
 have e2 : readB L (sendC g s c L ⟨4, 0⟩).2.2.2 = [(sendC g s c L ⟨4, 0⟩).1.toNat] := by
  unfold readB
  rw [sendC_ok h0, List.drop_left]
  rfl
 rw [← e2]
 exact h9
def WaitIs (I : Nat → Prop) (q p r : Nat) (g : Gm) (s : Sc) (c : Ch) (L : List Cy) (k Q : Nat) (m : Int) (n : Nat) (w : World) (e : Ending) (w' : World) : Prop :=
 ∃ k', k' ≤ k + 1 ∧ e = .returned (.tuple #[.int .u8 (waitW g s c L m n).1, .int .i64 (waitW g s c L m n).2.1]) ∧ Wi I w' q p r g s (waitW g s c L m n).2.2.1 (waitW g s c L m n).2.2.2 k' ∧ Btw I w w' ∧
  ((waitW g s c L m n).2.2.1.on = true → Okc g (Q + 1 + n) (waitW g s c L m n).2.2.1)
set_option maxHeartbeats 8000000 in
theorem Wait_any {Q : Nat} (m : Int) (n : Nat) (hm : 0 ≤ m ∧ m < 256) (hn1 : 1 ≤ n) (hn2 : n ≤ 65536) (hQ : Q + 1 + n ≤ 100000) (hs : SG g s) (ho : c.on = true → Okc g Q c) (hL : L.length + 1 + n ≤ 100000) (hk : k < 1000) (h : Wi I w q p r g s c L k) :
  Calls Tryz.prog 49 #[.pointer (some ⟨q, 0, none⟩), .int .u8 m, .int .i64 (n : Int)] w (WaitIs I q p r g s c L k Q m n w) := by
 have H0 := Lib.hid h
 have HS := Lib.hid hs
 have HO := Lib.hid ho
 have HM := Lib.hid hm
 have HQ := Lib.hid hQ
 have HLL := Lib.hid hL
 have HMAY := Lib.hid (may_any (n : Int))
 rw [decide_eq_true (show 1 ≤ (n : Int) ∧ (n : Int) ≤ 65536 by omega)] at HMAY
 clear h hs ho hm hQ hL
 go_enter Tryz.func49, Tryz.ntmps49
 go_wp2
 go_step3
 go_wp2_with fail
 refine (HMAY.out _).mono ?_
 rintro _ w1 ⟨rfl, h1⟩
 have B1 := Lib.hid h1
 have H1 := Lib.hid (H0.out.below h1)
 clear h1 H0 HMAY
 have R2 := Lib.hid (r8_one w1 112 (by omega) 5)
 have N2 := Lib.hid (below_new w1 (.cells #[.int .u8 112] 5))
 have HC := Lib.hid (Cmd_one (Q := Q) (some ⟨w1.heap.size, 0, none⟩) 1 112 R2.out (by have := HQ.out; omega) HS.out HO.out (by have := HLL.out; omega) hk (H1.out.below N2.out))
 have HW0 := Lib.hid (show waitW g s c L m n = if (sendC g s c L ⟨1, 112⟩).2.1 = 0 then pollN g s m n (sendC g s c L ⟨1, 112⟩).2.2.1 (sendC g s c L ⟨1, 112⟩).2.2.2 else (0, (sendC g s c L ⟨1, 112⟩).2.1, (sendC g s c L ⟨1, 112⟩).2.2.1, (sendC g s c L ⟨1, 112⟩).2.2.2) from rfl)
 have HLN := Lib.hid (fun h => sendC_ok (g := g) (s := s) (c := c) (L := L) (t := ⟨1, 112⟩) h)
 obtain ⟨z, hz⟩ : ∃ z, z = sendC g s c L ⟨1, 112⟩ := ⟨_, rfl⟩
 rw [← hz] at HC HW0 HLN
 obtain ⟨v0, e, c1, L1⟩ := z
 simp only at HC HW0 HLN
 clear hz
 go_wp2_with fail
 refine HC.out.mono ?_
 rintro _ w3 ⟨k1, hk1, rfl, h3, b3, o3, kk3⟩
 have H3 := Lib.hid h3
 have B3 := Lib.hid (((Btw.of_below (I := I) B1.out).trans (Btw.of_below (I := I) N2.out) fun _ _ h => h).trans b3 fun _ _ h => h)
 have O3 := Lib.hid o3
 have K3 := Lib.hid hk1
 have KK3 := Lib.hid kk3
 clear h3 b3 o3 hk1 kk3 HC R2 N2 H1 B1 HO
 by_cases he : e = 0
 rotate_left
 ·
  have b0 : (e == 0) = false := by rw [beq_eq_false_iff_ne]; exact he
  have n0 : (e != 0) = true := by simp [he]
  have j0 : (e = 0) = False := eq_false he
  have dd0 : decide (e = 0) = false := decide_eq_false he
  have HE := Lib.hid (HW0.out.trans (if_neg he))
  clear he
  go_wp2
  go_ret2
  refine ⟨k1, K3.out, ?_⟩
  rw [HE.out]
  exact ⟨rfl, H3.out, B3.out, fun h => (O3.out h).more (by omega)⟩
 subst he
 have HE := Lib.hid (HW0.out.trans (if_pos rfl))
 have HL1 := Lib.hid (show L1.length = L.length + 1 by rw [HLN.out rfl]; simp)
 obtain rfl : k1 = k := KK3.out rfl
 clear HW0 HLN KK3 K3
 go_wp2
 go_step3
 go_wp2
 go_loopw [9, 10, 23] (fun sv ov iv wr => ∃ (j : Nat) (cj : Ch) (Lj : List Cy), j ≤ n ∧ sv = .int .u8 0 ∧ ov = .int .i64 21 ∧ iv = .int .i64 (j : Int) ∧ Hid (pollN g s m (n - j) cj Lj = pollN g s m n c1 L1) ∧ Hid (Wi I wr q p r g s cj Lj k1) ∧ Hid (Btw I w wr) ∧ Hid (cj.on = true → Okc g (Q + 1 + j) cj) ∧ Hid (Lj.length = L.length + 1 + j)) (fun _ _ iv _ => n - (intOf iv).toNat)
 case atStart => exact ⟨0, c1, L1, Nat.zero_le _, rfl, rfl, rfl, Lib.hid rfl, H3, B3, O3, HL1⟩
 case round =>
  obtain ⟨j, cj, Lj, hj, rfl, rfl, rfl, HP, HW, HB, HOJ, HLJ⟩ := hrel
  clear H3 B3 O3 HL1
  rename World => wr
  by_cases hlt : j < n
  ·
   have d1 : decide ((j : Int) < (n : Int)) = true := decide_eq_true (by omega)
   have HC := Lib.hid (Read_one (Q := Q + 1 + j) (by have := HQ.out; omega) HS.out HOJ.out (by have := HLJ.out; have := HLL.out; omega) hk HW.out)
   have HPP := Lib.hid (show pollN g s m n c1 L1 = if (sendC g s cj Lj ⟨4, 0⟩).2.1 = 0 then (if hasM (sendC g s cj Lj ⟨4, 0⟩).1 m = true then ((sendC g s cj Lj ⟨4, 0⟩).1, 0, (sendC g s cj Lj ⟨4, 0⟩).2.2.1, (sendC g s cj Lj ⟨4, 0⟩).2.2.2) else pollN g s m (n - (j + 1)) (sendC g s cj Lj ⟨4, 0⟩).2.2.1 (sendC g s cj Lj ⟨4, 0⟩).2.2.2)
     else (0, (sendC g s cj Lj ⟨4, 0⟩).2.1, (sendC g s cj Lj ⟨4, 0⟩).2.2.1, (sendC g s cj Lj ⟨4, 0⟩).2.2.2) by
    rw [← HP.out, show n - j = (n - (j + 1)) + 1 by omega]
    rfl)
   have HLN := Lib.hid (fun h => sendC_ok (g := g) (s := s) (c := cj) (L := Lj) (t := ⟨4, 0⟩) h)
   have hby := sendC_byte (g := g) (s := s) (L := Lj) (t := ⟨4, 0⟩) HW.out.regs
   obtain ⟨z, hz⟩ : ∃ z, z = sendC g s cj Lj ⟨4, 0⟩ := ⟨_, rfl⟩
   rw [← hz] at HC HPP HLN hby
   obtain ⟨v0, e, c2, L2⟩ := z
   simp only at HC HPP HLN hby
   obtain ⟨v, rfl⟩ : ∃ v : Nat, v0 = (v : Int) := ⟨v0.toNat, by omega⟩
   simp only [Int.toNat_natCast] at HC
   have HV := Lib.hid hby
   clear hz hby HP HW
   go_wp2_with fail
   refine HC.out.mono ?_
   rintro ee w4 ⟨k2, A, d, hk2, he0, hen, h4, b4, o4, kk4⟩
   have H4 := Lib.hid h4
   have B4 := Lib.hid (HB.out.trans b4 fun _ _ h => h)
   have O4 := Lib.hid o4
   have K4 := Lib.hid hk2
   have KK4 := Lib.hid kk4
   clear h4 b4 o4 hk2 kk4 HC HB HOJ
   by_cases he : e = 0
   rotate_left
   ·
    obtain rfl := hen he
    have b0 : (e == 0) = false := by rw [beq_eq_false_iff_ne]; exact he
    have n0 : (e != 0) = true := by simp [he]
    have j0 : (e = 0) = False := eq_false he
    have dd0 : decide (e = 0) = false := decide_eq_false he
    have HR := Lib.hid (HPP.out.trans (if_neg he))
    clear he he0 hen
    go_wp2
    go_ret2
    refine ⟨k2, K4.out, ?_⟩
    rw [HE.out, HR.out]
    exact ⟨rfl, H4.out, B4.out, fun h => (O4.out h).more (by omega)⟩
   subst he
   obtain ⟨rfl, r8⟩ := he0 rfl
   have HPQ := Lib.hid (HPP.out.trans (if_pos rfl))
   have HL2 := Lib.hid (show L2.length = L.length + 1 + (j + 1) by rw [HLN.out rfl]; have := HLJ.out; simp; omega)
   obtain rfl : k2 = k1 := KK4.out rfl
   obtain ⟨hA, rfl, x0⟩ : ∃ hA, A = some hA ∧ w4.cell? hA = some (.int .u8 (v : Int)) := by
    obtain ⟨b9, o9, hA, hb, hx⟩ := r8.1.2 (by omega)
    exact ⟨⟨b9, o9, none⟩, hA, hx 0 (by omega)⟩
   obtain ⟨b9, o9, hA2⟩ : ∃ b9 o9, hA = ⟨b9, o9, none⟩ := by
    obtain ⟨b9, o9, hA2, _⟩ := r8.1.2 (by omega)
    exact ⟨b9, o9, Option.some.inj hA2⟩
   subst hA2
   clear he0 hen r8 HPP HLN KK4 K4
   cases hq : hasM (v : Int) m with
   | true =>
    have b1 : (bits .and .u8 (v : Int) m == m) = true := hq
    have p1 : bits .and .u8 (v : Int) m = m := by simpa using b1
    have j1 : (bits .and .u8 (v : Int) m = m) = True := eq_true p1
    have dd1 : decide (bits .and .u8 (v : Int) m = m) = true := decide_eq_true p1
    have HR := Lib.hid (HPQ.out.trans (if_pos hq))
    clear p1 hq
    go_wp2
    go_ret2
    refine ⟨k2, Nat.le_succ _, ?_⟩
    rw [HE.out, HR.out]
    exact ⟨rfl, H4.out, B4.out, fun h => (O4.out h).more (by omega)⟩
   | false =>
    have b1 : (bits .and .u8 (v : Int) m == m) = false := hq
    have p1 : ¬ bits .and .u8 (v : Int) m = m := by simpa using b1
    have j1 : (bits .and .u8 (v : Int) m = m) = False := eq_false p1
    have dd1 : decide (bits .and .u8 (v : Int) m = m) = false := decide_eq_false p1
    have HR := Lib.hid (HPQ.out.trans (if_neg (by rw [hq]; decide)))
    clear p1 hq
    go_wp2
    go_roundw
    case rel => exact ⟨j + 1, c2, L2, by omega, rfl, rfl, by go_num, Lib.hid HR.out.symm, H4, B4, O4, HL2⟩
    case measure => simp [intOf]; omega
  ·
   obtain rfl : j = n := by omega
   have d1 : decide ((j : Int) < (j : Int)) = false := decide_eq_false (by omega)
   have HR := Lib.hid (show pollN g s m j c1 L1 = (0, 21, cj, Lj) by rw [← HP.out, Nat.sub_self]; rfl)
   go_wp2
   go_ret2
   refine ⟨k1, Nat.le_succ _, ?_⟩
   rw [HE.out, HR.out]
   exact ⟨rfl, HW.out, HB.out, HOJ.out⟩
theorem Ready_any {Q : Nat} (n : Nat) (hn1 : 1 ≤ n) (hn2 : n ≤ 65536) (hQ : Q + 1 + n ≤ 100000) (hs : SG g s) (ho : c.on = true → Okc g Q c) (hL : L.length + 1 + n ≤ 100000) (hk : k < 1000) (h : Wi I w q p r g s c L k) :
  Calls Tryz.prog 26 #[.pointer (some ⟨q, 0, none⟩), .int .i64 (n : Int)] w (WaitIs I q p r g s c L k Q 96 n w) := by
 have HC := Lib.hid (Wait_any (Q := Q) 96 n (by omega) hn1 hn2 hQ hs ho hL hk h)
 clear h hs ho
 unfold WaitIs at *
 obtain ⟨z, hz⟩ : ∃ z, z = waitW g s c L 96 n := ⟨_, rfl⟩
 rw [← hz] at HC ⊢
 obtain ⟨v0, e, c1, L1⟩ := z
 simp only at HC ⊢
 clear hz
 go_enter Tryz.func26, Tryz.ntmps26
 go_wp2_with fail
 refine HC.out.mono ?_
 rintro _ w1 ⟨k', h1, rfl, h3, h4, h5⟩
 have H1 := Lib.hid h1
 have H3 := Lib.hid h3
 have H4 := Lib.hid h4
 have H5 := Lib.hid h5
 clear h1 h3 h4 h5 HC
 go_wp2
 go_ret2
 exact ⟨k', H1.out, rfl, H3.out, H4.out, H5.out⟩
def ResetIs (I : Nat → Prop) (q p r : Nat) (g : Gm) (s : Sc) (c : Ch) (L : List Cy) (k Q : Nat) (n : Nat) (w : World) (e : Ending) (w' : World) : Prop :=
 ∃ k', k' ≤ k + 2 ∧ e = .returned (.int .i64 (resetW g s c L n).1) ∧ Wi I w' q p r g s (resetW g s c L n).2.1 (resetW g s c L n).2.2 k' ∧ Btw I w w' ∧ ((resetW g s c L n).2.1.on = true → Okc g (Q + 2 + n) (resetW g s c L n).2.1)
set_option maxHeartbeats 4000000 in
theorem Reset_any {Q : Nat} (n : Nat) (hn1 : 1 ≤ n) (hn2 : n ≤ 65536) (hQ : Q + 2 + n ≤ 100000) (hs : SG g s) (ho : c.on = true → Okc g Q c) (hL : L.length + 2 + n ≤ 100000) (hk : k < 999) (h : Wi I w q p r g s c L k) :
  Calls Tryz.prog 9 #[.pointer (some ⟨q, 0, none⟩), .int .i64 (n : Int)] w (ResetIs I q p r g s c L k Q n w) := by
 have H0 := Lib.hid h
 have HS := Lib.hid hs
 have HO := Lib.hid ho
 have HQ := Lib.hid hQ
 have HLL := Lib.hid hL
 have HN := Lib.hid (And.intro hn1 hn2)
 have HK := Lib.hid hk
 have HMAY := Lib.hid (may_any (n : Int))
 rw [decide_eq_true (show 1 ≤ (n : Int) ∧ (n : Int) ≤ 65536 by omega)] at HMAY
 clear h hs ho hQ hL hn1 hn2 hk
 go_enter Tryz.func9, Tryz.ntmps9
 go_wp2_with fail
 refine (HMAY.out _).mono ?_
 rintro _ w1 ⟨rfl, h1⟩
 have B1 := Lib.hid h1
 have H1 := Lib.hid (H0.out.below h1)
 clear h1 H0 HMAY
 have R2 := Lib.hid (r8_one w1 255 (by omega) 5)
 have N2 := Lib.hid (below_new w1 (.cells #[.int .u8 255] 5))
 have HC := Lib.hid (Cmd_one (Q := Q) (some ⟨w1.heap.size, 0, none⟩) 1 255 R2.out (by have := HQ.out; omega) HS.out HO.out (by have := HLL.out; omega) (by have := HK.out; omega) (H1.out.below N2.out))
 have HW0 := Lib.hid (show resetW g s c L n = if (sendC g s c L ⟨1, 255⟩).2.1 = 0 then (waitW g s (sendC g s c L ⟨1, 255⟩).2.2.1 (sendC g s c L ⟨1, 255⟩).2.2.2 96 n).2 else ((sendC g s c L ⟨1, 255⟩).2.1, (sendC g s c L ⟨1, 255⟩).2.2.1, (sendC g s c L ⟨1, 255⟩).2.2.2) from rfl)
 have HLN := Lib.hid (fun h => sendC_ok (g := g) (s := s) (c := c) (L := L) (t := ⟨1, 255⟩) h)
 obtain ⟨z, hz⟩ : ∃ z, z = sendC g s c L ⟨1, 255⟩ := ⟨_, rfl⟩
 rw [← hz] at HC HW0 HLN
 obtain ⟨v0, e, c1, L1⟩ := z
 simp only at HC HW0 HLN
 clear hz
 go_wp2_with fail
 refine HC.out.mono ?_
 rintro _ w3 ⟨k1, hk1, rfl, h3, b3, o3, kk3⟩
 have H3 := Lib.hid h3
 have B3 := Lib.hid (((Btw.of_below (I := I) B1.out).trans (Btw.of_below (I := I) N2.out) fun _ _ h => h).trans b3 fun _ _ h => h)
 have O3 := Lib.hid o3
 have K3 := Lib.hid hk1
 clear h3 b3 o3 hk1 kk3 HC R2 N2 H1 B1 HO
 by_cases he : e = 0
 rotate_left
 ·
  have b0 : (e == 0) = false := by rw [beq_eq_false_iff_ne]; exact he
  have n0 : (e != 0) = true := by simp [he]
  have j0 : (e = 0) = False := eq_false he
  have dd0 : decide (e = 0) = false := decide_eq_false he
  have HE := Lib.hid (HW0.out.trans (if_neg he))
  clear he
  go_wp2
  go_ret
  refine ⟨k1, Nat.le_succ_of_le K3.out, ?_⟩
  rw [HE.out]
  exact ⟨rfl, H3.out, B3.out, fun h => (O3.out h).more (by omega)⟩
 subst he
 have HE := Lib.hid (HW0.out.trans (if_pos rfl))
 have HL1 := Lib.hid (show L1.length = L.length + 1 by rw [HLN.out rfl]; simp)
 have HC := Lib.hid (Ready_any (Q := Q + 1) n HN.out.1 HN.out.2 (by have := HQ.out; omega) HS.out O3.out (by have := HL1.out; have := HLL.out; omega) (by have := K3.out; have := HK.out; omega) H3.out)
 unfold WaitIs at HC
 obtain ⟨y, hy⟩ : ∃ y, y = waitW g s c1 L1 96 n := ⟨_, rfl⟩
 rw [← hy] at HC HE
 obtain ⟨v1, e1, c2, L2⟩ := y
 simp only at HC HE
 clear hy HW0 HLN
 go_wp2_with fail
 refine HC.out.mono ?_
 rintro _ w4 ⟨k2, hk2, rfl, h4, b4, o4⟩
 have H4 := Lib.hid h4
 have B4 := Lib.hid (B3.out.trans b4 fun _ _ h => h)
 have O4 := Lib.hid o4
 have K4 := Lib.hid hk2
 clear h4 b4 o4 hk2 HC
 go_wp2
 go_ret
 refine ⟨k2, by have := K3.out; have := K4.out; omega, ?_⟩
 rw [HE.out]
 exact ⟨rfl, H4.out, B4.out, fun h => (O4.out h).more (by omega)⟩
theorem Reset_no (W : Option Addr) (n : Int) (hn : ¬ (1 ≤ n ∧ n ≤ 65536)) (w : World) : Calls Tryz.prog 9 #[.pointer W, .int .i64 n] w (Gives (.int .i64 2) w) := by
 have HMAY := Lib.hid (may_any n)
 rw [decide_eq_false hn] at HMAY
 go_enter Tryz.func9, Tryz.ntmps9
 go_wp2_with fail
 refine (HMAY.out _).mono ?_
 rintro _ w1 ⟨rfl, h1⟩
 have B1 := Lib.hid h1
 clear h1
 go_wp2
 go_ret
 exact ⟨rfl, B1.out⟩
end
def exS (g : Gm) (s : Sc) (c : Ch) : List Cy → Ch
 | [] => c
 | t :: ts => exS g s (c.tick.exec g s t.k.toNat t.b (parL g)).2 ts
def exL (g : Gm) (s : Sc) (c : Ch) : List Cy → List Cy
 | [] => []
 | t :: ts => keptC t (c.tick.exec g s t.k.toNat t.b (parL g)).1 :: exL g s (c.tick.exec g s t.k.toNat t.b (parL g)).2 ts
section
variable {g : Gm} {s : Sc} {c : Ch} {L : List Cy}
theorem doC_ok {t : Cy} (h : (c.doC g s t).2.1 = 0) : c.on = true ∧ c.doC g s t = ((c.tick.exec g s t.k.toNat t.b (parL g)).1, 0, (c.tick.exec g s t.k.toNat t.b (parL g)).2) := by
 unfold Ch.doC at h ⊢
 split at h
 ·
  exact absurd h (by simp)
 ·
  rename_i h1
  split at h
  ·
   exact absurd h (by simp)
  ·
   rename_i h2
   split at h
   ·
    exact absurd h (by simp)
   ·
    rename_i h3
    rw [if_neg h1, if_neg h2, if_neg h3]
    exact ⟨by simpa using h1, rfl⟩
theorem sendC_exec {t : Cy} (h : (sendC g s c L t).2.1 = 0) : sendC g s c L t = ((c.tick.exec g s t.k.toNat t.b (parL g)).1, 0, (c.tick.exec g s t.k.toNat t.b (parL g)).2, L ++ [keptC t (c.tick.exec g s t.k.toNat t.b (parL g)).1]) := by
 have h1 : (c.doC g s t).2.1 = 0 := by
  unfold sendC at h
  split at h
  ·
   rename_i h2; exact h2
  ·
   exact h
 unfold sendC
 rw [if_pos h1, (doC_ok h1).2]
theorem fold_exec (ts : List Cy) : ∀ a : Ws, a.e = 0 → (ts.foldl (stepW g s) a).e = 0 → (ts.foldl (stepW g s) a).c = exS g s a.c ts ∧ (ts.foldl (stepW g s) a).l = a.l ++ exL g s a.c ts := by
 induction ts with
 | nil => exact fun a _ _ => ⟨rfl, (List.append_nil _).symm⟩
 | cons t ts ih =>
  intro a ha h
  rw [List.foldl_cons] at h ⊢
  have hs : stepW g s a t = ⟨(sendC g s a.c a.l t).2.1, (sendC g s a.c a.l t).2.2.1, (sendC g s a.c a.l t).2.2.2⟩ := if_pos ha
  have h0 : (stepW g s a t).e = 0 := ((fold_len ts (stepW g s a t)).2.2 h).1
  rw [hs] at h0
  have he := sendC_exec h0
  rw [he] at hs
  obtain ⟨h1, h2⟩ := ih (stepW g s a t) (by rw [hs]) h
  rw [hs] at h1 h2
  rw [hs]
  refine ⟨h1, h2.trans ?_⟩
  rw [List.append_assoc]
  rfl
theorem runW_exec {ts : List Cy} (h : (runW g s c L ts).e = 0) : (runW g s c L ts).c = exS g s c ts ∧ (runW g s c L ts).l = L ++ exL g s c ts := fold_exec ts ⟨0, c, L⟩ rfl h
theorem runW_append (ts us : List Cy) (h : (runW g s c L ts).e = 0) : runW g s c L (ts ++ us) = runW g s (runW g s c L ts).c (runW g s c L ts).l us := by
 unfold runW at h ⊢
 rw [List.foldl_append]
 generalize ts.foldl (stepW g s) ⟨0, c, L⟩ = z at h ⊢
 obtain ⟨e, c', l'⟩ := z
 have h : e = 0 := h
 subst h
 rfl
structure Fr (c : Ch) : Prop where
 bz : c.busy = 0
 rd : c.reads = false
 pr : c.progs = []
 bl : c.blocks = []
 th : c.there = false
 pl : c.polls = 0
theorem Rz.free (h : Rz c) (hb : c.busy = 0) : Fr c := ⟨hb, h.rd, h.pr, h.bl, h.th, h.pl⟩
theorem Fr.eng (h : Fr c) : c.engaged = false := eng0 h.bz h.rd h.pr h.bl
theorem Fr.tick (h : Fr c) : Fr c.tick := ⟨h.bz, h.rd, h.pr, h.bl, h.th, h.pl⟩
theorem Fr.open_ (h : Fr c) (b : Nat) (hb : b = 144 ∨ b = 236 ∨ b = 0) (l : List Nat) : c.exec g s 1 b l = (0, c.discard.enter (openedS b)) := by
 have ho : c.opens g b = (true, c.discard.enter (openedS b)) := by
  rcases hb with rfl | rfl | rfl <;> rfl
 unfold Ch.exec
 rw [if_neg (by omega), if_neg (by omega), if_neg (by omega), if_neg (by rw [h.eng]; decide)]
 have e : c.acc g s 1 b l = (true, c.discard.enter (openedS b)) := by
  unfold Ch.acc
  rw [if_pos rfl, ho, if_pos rfl]
 rw [e]
 rfl
theorem Fr.opened (h : Fr c) (n : Nat) : Fr (c.discard.enter n) := ⟨h.bz, h.rd, h.pr, h.bl, h.th, h.pl⟩
theorem Fr.named (h : Fr c) (h2 : c.state = 2) (l : List Nat) : c.exec g s 2 0 l = (0, (c.push 0).enter 3) := Nm.c00 ⟨h2, h.bz, h.rd, h.pr, h.bl⟩ l
theorem Fr.told (h : Fr c) (h3 : c.state = 3) (hs : c.said < 5) (l : List Nat) : c.exec g s 4 0 l = (ansG g c.said, { c with said := c.said + 1 }) := Nm.told ⟨h3, h.bz, h.rd, h.pr, h.bl⟩ hs l
def Ch.parsd (g : Gm) (s : Sc) (c : Ch) : Ch := (({ (c.push 0).newReg (parL g) with col := 0 } : Ch).discard.pend false 0 [] []).begun s
theorem Fr.pars (h : Fr c) (h4 : c.state = 4) : c.exec g s 2 0 (parL g) = (0, c.parsd g s) := by
 unfold Ch.exec
 rw [if_neg (by omega), if_neg (by omega), if_neg (by omega), if_neg (by rw [h.eng]; decide)]
 have e : c.acc g s 2 0 (parL g) = (true, c.parsd g s) := by
  unfold Ch.acc
  rw [if_neg (by omega), if_pos rfl]
  unfold Ch.addr
  rw [if_neg (by unfold Ch.lists; rw [if_pos (.inr h4)]; decide), if_neg (by omega), if_pos h4]
  rfl
 rw [e]
 rfl
theorem Fr.parsd (h : Fr c) : Rz (c.parsd g s) ∧ (c.parsd g s).busy = nb s c ∧ (c.parsd g s).reg = parL g ∧ (c.parsd g s).col = 0 ∧ (c.parsd g s).bz = c.bz + 1 :=
 ⟨⟨rfl, h.th, rfl, rfl, rfl, rfl, by show (c.prev && c.there) = false; rw [h.th, Bool.and_false], h.pl⟩, rfl, rfl, rfl, rfl⟩
theorem ex_told (n : Nat) : ∀ (c : Ch) (k : Nat), Fr c → c.state = 3 → c.said = k → k + n ≤ 5 → exL g s c (rds n) = ((List.range n).map fun i => (⟨4, (ansG g (k + i)).toNat⟩ : Cy)) ∧ Fr (exS g s c (rds n)) := by
 induction n with
 | zero => exact fun c k h _ _ _ => ⟨rfl, h⟩
 | succ n ih =>
  intro c k h h3 hs hk
  have e : c.tick.exec g s 4 0 (parL g) = (ansG g k, { c.tick with said := k + 1 }) := by
   have := h.tick.told (g := g) (s := s) (show c.tick.state = 3 from h3) (show c.tick.said < 5 by show c.said < 5; omega) (parL g)
   rw [this, show c.tick.said = k from hs]
  have e1 : exL g s c (rds (n + 1)) = ⟨4, (ansG g k).toNat⟩ :: exL g s { c.tick with said := k + 1 } (rds n) := by
   show keptC ⟨4, 0⟩ (c.tick.exec g s 4 0 (parL g)).1 :: exL g s (c.tick.exec g s 4 0 (parL g)).2 (rds n) = _
   rw [e]
   rfl
  have e2 : exS g s c (rds (n + 1)) = exS g s { c.tick with said := k + 1 } (rds n) := by
   show exS g s (c.tick.exec g s 4 0 (parL g)).2 (rds n) = _
   rw [e]
  obtain ⟨i1, i2⟩ := ih { c.tick with said := k + 1 } (k + 1) ⟨h.bz, h.rd, h.pr, h.bl, h.th, h.pl⟩ h3 rfl (by omega)
  rw [e1, e2]
  refine ⟨?_, i2⟩
  rw [i1, List.range_succ_eq_map, List.map_cons, List.map_map]
  congr 1
  refine List.map_congr_left fun i _ => ?_
  show (⟨4, (ansG g (k + 1 + i)).toNat⟩ : Cy) = ⟨4, (ansG g (k + (i + 1))).toNat⟩
  rw [show k + 1 + i = k + (i + 1) by omega]
theorem ex_out (n : Nat) : ∀ c : Ch, Fr c → c.state = 7 → c.col + n ≤ c.reg.length → exL g s c (rds n) = ((c.reg.drop c.col).take n).map (fun x => (⟨4, x⟩ : Cy)) ∧ Fr (exS g s c (rds n)) := by
 induction n with
 | zero => exact fun c h _ _ => ⟨by simp [rds, exL], h⟩
 | succ n ih =>
  intro c h h7 hk
  have hlt : c.col < c.reg.length := by omega
  have e : c.tick.exec g s 4 0 (parL g) = (((c.reg.getD c.col 0 : Nat) : Int), { c.tick with col := c.col + 1 }) := by
   rw [exec_rd]
   unfold Ch.read
   rw [if_neg (show ¬ c.tick.state = 1 by show ¬ c.state = 1; omega), if_neg (by rw [h.tick.eng]; decide), if_neg (show ¬ c.tick.state = 3 by show ¬ c.state = 3; omega), if_neg (show ¬ (c.tick.state = 6 ∧ c.tick.listed.length = 0) from fun e => by have e : c.state = 6 := e.1; omega), if_pos (show c.tick.state = 7 from h7)]
   unfold Ch.next
   rw [if_neg (show ¬ c.tick.reg.length ≤ c.tick.col by show ¬ c.reg.length ≤ c.col; omega)]
   rfl
  have e1 : exL g s c (rds (n + 1)) = ⟨4, c.reg.getD c.col 0⟩ :: exL g s { c.tick with col := c.col + 1 } (rds n) := by
   show keptC ⟨4, 0⟩ (c.tick.exec g s 4 0 (parL g)).1 :: exL g s (c.tick.exec g s 4 0 (parL g)).2 (rds n) = _
   rw [e]
   rfl
  have e2 : exS g s c (rds (n + 1)) = exS g s { c.tick with col := c.col + 1 } (rds n) := by
   show exS g s (c.tick.exec g s 4 0 (parL g)).2 (rds n) = _
   rw [e]
  obtain ⟨i1, i2⟩ := ih { c.tick with col := c.col + 1 } ⟨h.bz, h.rd, h.pr, h.bl, h.th, h.pl⟩ h7 (by show c.col + 1 + n ≤ c.reg.length; omega)
  rw [e1, e2]
  refine ⟨?_, i2⟩
  rw [i1]
  show _ :: ((c.reg.drop (c.col + 1)).take n).map _ = ((c.reg.drop c.col).take (n + 1)).map _
  rw [List.drop_eq_getElem_cons hlt, List.take_succ_cons, List.map_cons, List.getD_eq_getElem?_getD, List.getElem?_eq_getElem hlt]
  rfl
theorem pollN_ok (n : Nat) : ∀ (c : Ch) (L : List Cy), Rz c → (pollN g s 96 n c L).2.1 = 0 → (pollN g s 96 n c L).1 = 224 ∧ Rz (pollN g s 96 n c L).2.2.1 ∧ (pollN g s 96 n c L).2.2.1.busy = 0 ∧ (pollN g s 96 n c L).2.2.1.reg = c.reg ∧ (pollN g s 96 n c L).2.2.1.col = c.col ∧
  (pollN g s 96 n c L).2.2.2 = L ++ List.replicate c.busy ⟨4, 128⟩ ++ [⟨4, 224⟩] := by
 induction n with
 | zero => exact fun c L _ h => absurd (show (21 : Int) = 0 from h) (by decide)
 | succ n ih =>
  intro c L hz h
  unfold pollN at h ⊢
  by_cases h0 : (sendC g s c L ⟨4, 0⟩).2.1 = 0
  rotate_left
  ·
   rw [if_neg h0] at h
   exact absurd h h0
  rw [if_pos h0] at h ⊢
  have he := sendC_exec h0
  by_cases hb : c.busy = 0
  ·
   have e : c.tick.exec g s 4 0 (parL g) = (224, c.tick) := hz.tick.poll0 (show c.tick.busy = 0 from hb) _
   have he2 : sendC g s c L ⟨4, 0⟩ = (224, 0, c.tick, L ++ [⟨4, 224⟩]) := by
    rw [he]
    show ((c.tick.exec g s 4 0 (parL g)).1, 0, (c.tick.exec g s 4 0 (parL g)).2, L ++ [keptC ⟨4, 0⟩ (c.tick.exec g s 4 0 (parL g)).1]) = _
    rw [e]
    rfl
   rw [he2, if_pos (show hasM 224 96 = true by decide)]
   refine ⟨rfl, hz.tick, hb, rfl, rfl, ?_⟩
   show L ++ [⟨4, 224⟩] = _
   rw [hb]
   simp
  ·
   have e : c.tick.exec g s 4 0 (parL g) = (128, { c.tick with busy := c.tick.busy - 1 }) := hz.tick.poll1 (show 0 < c.tick.busy from Nat.pos_of_ne_zero hb) _
   have he2 : sendC g s c L ⟨4, 0⟩ = (128, 0, { c.tick with busy := c.tick.busy - 1 }, L ++ [⟨4, 128⟩]) := by
    rw [he]
    show ((c.tick.exec g s 4 0 (parL g)).1, 0, (c.tick.exec g s 4 0 (parL g)).2, L ++ [keptC ⟨4, 0⟩ (c.tick.exec g s 4 0 (parL g)).1]) = _
    rw [e]
    rfl
   rw [he2, if_neg (show ¬ hasM 128 96 = true by decide)] at h ⊢
   obtain ⟨i1, i2, i3, i4, i5, i6⟩ := ih { c.tick with busy := c.tick.busy - 1 } (L ++ [⟨4, 128⟩]) ⟨hz.tick.st, hz.tick.th, hz.tick.rd, hz.tick.pr, hz.tick.bl, hz.tick.fa, hz.tick.pv, hz.tick.pl⟩ h
   refine ⟨i1, i2, i3, i4, i5, i6.trans ?_⟩
   show L ++ [⟨4, 128⟩] ++ List.replicate (c.busy - 1) ⟨4, 128⟩ ++ [⟨4, 224⟩] = _
   obtain ⟨m, hm⟩ : ∃ m, c.busy = m + 1 := ⟨c.busy - 1, by omega⟩
   rw [hm, Nat.add_sub_cancel, List.replicate_succ]
   simp
end
instance : DecidableEq Gm := fun a b =>
 if h : a.p = b.p ∧ a.b = b.b ∧ a.s = b.s ∧ a.c = b.c ∧ a.k = b.k ∧ a.r = b.r ∧ a.q = b.q then isTrue (by
  obtain ⟨h1, h2, h3, h4, h5, h6, h7⟩ := h
  obtain ⟨p, b', s, c, k, r, q⟩ := a
  obtain ⟨p2, b2, s2, c2, k2, r2, q2⟩ := b
  simp only at h1 h2 h3 h4 h5 h6 h7
  subst h1 h2 h3 h4 h5 h6 h7
  rfl) else isFalse fun e => h (by subst e; exact ⟨rfl, rfl, rfl, rfl, rfl, rfl, rfl⟩)
def askL (b : Nat) : List Cy := [⟨1, b⟩, ⟨2, 0⟩]
def nameL : List Cy := askL 144 ++ rds 5
def fetchL : List Cy := ⟨1, 0⟩ :: rds 14
def nameB (g : Gm) : List Nat := (List.range 5).map fun i => (ansG g i).toNat
def rdC (x : Nat) : Cy := ⟨4, x⟩
structure Al (c : Ch) : Prop where
 on : c.on = true
 cut : c.cut = -1
theorem Al.tick {c : Ch} (h : Al c) : Al c.tick := ⟨h.on, tick_cut h.cut⟩
def AlS (g : Gm) (s : Sc) (c : Ch) : List Cy → Prop
 | [] => Al c
 | t :: ts => Al c ∧ AlS g s (c.tick.exec g s t.k.toNat t.b (parL g)).2 ts
section
variable {g o : Gm} {s : Sc} {c : Ch} {L : List Cy} {n : Nat}
theorem runW_cons (t : Cy) (ts : List Cy) : runW g s c L (t :: ts) = if (sendC g s c L t).2.1 = 0 then runW g s (sendC g s c L t).2.2.1 (sendC g s c L t).2.2.2 ts else ⟨(sendC g s c L t).2.1, (sendC g s c L t).2.2.1, (sendC g s c L t).2.2.2⟩ := by
 have e0 : stepW g s ⟨0, c, L⟩ t = ⟨(sendC g s c L t).2.1, (sendC g s c L t).2.2.1, (sendC g s c L t).2.2.2⟩ := if_pos rfl
 have e : runW g s c L (t :: ts) = ts.foldl (stepW g s) ⟨(sendC g s c L t).2.1, (sendC g s c L t).2.2.1, (sendC g s c L t).2.2.2⟩ := by
  unfold runW
  rw [List.foldl_cons, e0]
 rw [e]
 by_cases h : (sendC g s c L t).2.1 = 0
 ·
  rw [if_pos h, h]
  rfl
 ·
  rw [if_neg h]
  exact fold_stuck _ _ h
theorem exL_step {v : Int} {c' : Ch} (t : Cy) (ts : List Cy) (e : c.tick.exec g s t.k.toNat t.b (parL g) = (v, c')) : exL g s c (t :: ts) = keptC t v :: exL g s c' ts := by
 show keptC t (c.tick.exec g s t.k.toNat t.b (parL g)).1 :: exL g s (c.tick.exec g s t.k.toNat t.b (parL g)).2 ts = _
 rw [e]
theorem exS_step {v : Int} {c' : Ch} (t : Cy) (ts : List Cy) (e : c.tick.exec g s t.k.toNat t.b (parL g) = (v, c')) : exS g s c (t :: ts) = exS g s c' ts := by
 show exS g s (c.tick.exec g s t.k.toNat t.b (parL g)).2 ts = _
 rw [e]
theorem AlS.step {v : Int} {c' : Ch} (t : Cy) (ts : List Cy) (e : c.tick.exec g s t.k.toNat t.b (parL g) = (v, c')) (ha : Al c) (h : AlS g s c' ts) : AlS g s c (t :: ts) := by
 refine ⟨ha, ?_⟩
 rw [e]
 exact h
theorem nameL_is : nameL = ⟨1, 144⟩ :: ⟨2, 0⟩ :: rds 5 := rfl
theorem fetchL_is : fetchL = ⟨1, 0⟩ :: ⟨4, 0⟩ :: rds 13 := rfl
theorem askL_is (b : Nat) : askL b = [⟨1, b⟩, ⟨2, 0⟩] := rfl
theorem AlS.last (ts : List Cy) : ∀ c, AlS g s c ts → Al (exS g s c ts) := by
 induction ts with
 | nil => exact fun c h => h
 | cons t ts ih => exact fun c h => ih _ h.2
theorem runW_al (ts : List Cy) (hk : ∀ t ∈ ts, okK t.k = true) : ∀ c L, AlS g s c ts → (runW g s c L ts).e = 0 := by
 induction ts with
 | nil => exact fun c L _ => rfl
 | cons t ts ih =>
  intro c L h
  have hs := sendC_on (g := g) (s := s) (L := L) t (by cases ts <;> exact h.1.on) (by cases ts <;> exact h.1.cut) (hk t (List.mem_cons_self ..))
  rw [runW_cons, hs, if_pos rfl]
  exact ih (fun t ht => hk t (List.mem_cons_of_mem _ ht)) _ _ h.2
theorem runW_pre (ts : List Cy) (hk : ∀ t ∈ ts, okK t.k = true) : ∀ c L, ((runW g s c L ts).e = 0 ∨ (runW g s c L ts).e = 20) ∧ ∃ j, j ≤ ts.length ∧ (runW g s c L ts).l = L ++ (exL g s c ts).take j := by
 induction ts with
 | nil => exact fun c L => ⟨.inl rfl, 0, Nat.le_refl _, (List.append_nil L).symm⟩
 | cons t ts ih =>
  intro c L
  rw [runW_cons]
  by_cases h0 : (sendC g s c L t).2.1 = 0
  ·
   have he := sendC_exec h0
   rw [if_pos h0, he]
   obtain ⟨h1, j, hj, h2⟩ := ih (fun t ht => hk t (List.mem_cons_of_mem _ ht)) (c.tick.exec g s t.k.toNat t.b (parL g)).2 (L ++ [keptC t (c.tick.exec g s t.k.toNat t.b (parL g)).1])
   refine ⟨h1, j + 1, by rw [List.length_cons]; omega, h2.trans ?_⟩
   show L ++ [_] ++ _ = L ++ (keptC t _ :: exL g s _ ts).take (j + 1)
   rw [List.take_succ_cons, List.append_assoc]
   rfl
  ·
   rw [if_neg h0]
   refine ⟨?_, 0, Nat.zero_le _, ?_⟩
   ·
    rcases sendC_err (g := g) (s := s) (c := c) (L := L) t (hk t (List.mem_cons_self ..)) with h | h
    ·
     exact absurd h h0
    ·
     exact .inr h
   ·
    show (sendC g s c L t).2.2.2 = _
    rw [(sendC_no t h0).1, List.take_zero, List.append_nil]
theorem ok_rds (n : Nat) : ∀ t ∈ rds n, okK t.k = true := by
 intro t ht
 rw [List.eq_of_mem_replicate ht]
 rfl
theorem ok_askL (b : Nat) : ∀ t ∈ askL b, okK t.k = true := by
 intro t ht
 rcases List.mem_cons.1 ht with rfl | ht
 ·
  rfl
 ·
  rw [List.mem_singleton.1 ht]
  rfl
theorem ok_nameL : ∀ t ∈ nameL, okK t.k = true := by
 intro t ht
 rcases List.mem_append.1 ht with ht | ht
 ·
  exact ok_askL _ t ht
 ·
  exact ok_rds _ t ht
theorem ok_fetchL : ∀ t ∈ fetchL, okK t.k = true := by
 intro t ht
 rcases List.mem_cons.1 ht with rfl | ht
 ·
  rfl
 ·
  exact ok_rds _ t ht
theorem run_sum (ts full : List Cy) (hk : ∀ t ∈ ts, okK t.k = true) (he : exL g s c ts = full) :
  ∃ l, (runW g s c L ts).l = L ++ l ∧ (∃ k, l = full.take k) ∧ ((runW g s c L ts).e = 0 ∨ (runW g s c L ts).e = 20) ∧ ((runW g s c L ts).e = 0 → l = full ∧ (runW g s c L ts).c = exS g s c ts) := by
 obtain ⟨h1, k, _, h2⟩ := runW_pre (g := g) (s := s) ts hk c L
 rcases h1 with h0 | h0
 ·
  obtain ⟨h3, h4⟩ := runW_exec h0
  rw [he] at h4
  exact ⟨full, h4, ⟨full.length, (List.take_length).symm⟩, .inl h0, fun _ => ⟨rfl, h3⟩⟩
 ·
  rw [he] at h2
  exact ⟨full.take k, h2, ⟨k, rfl⟩, .inr h0, fun h => absurd (h0.symm.trans h) (by decide)⟩
theorem al_told (n : Nat) : ∀ (c : Ch) (k : Nat), Fr c → c.state = 3 → c.said = k → k + n ≤ 5 → Al c → AlS g s c (rds n) := by
 induction n with
 | zero => exact fun c k _ _ _ _ h => h
 | succ n ih =>
  intro c k h h3 hs hk ha
  have e : c.tick.exec g s 4 0 (parL g) = (ansG g k, { c.tick with said := k + 1 }) := by
   have := h.tick.told (g := g) (s := s) (show c.tick.state = 3 from h3) (show c.tick.said < 5 by show c.said < 5; omega) (parL g)
   rw [this, show c.tick.said = k from hs]
  refine ⟨ha, ?_⟩
  show AlS g s (c.tick.exec g s 4 0 (parL g)).2 (rds n)
  rw [e]
  exact ih { c.tick with said := k + 1 } (k + 1) ⟨h.bz, h.rd, h.pr, h.bl, h.th, h.pl⟩ h3 rfl (by omega) ⟨ha.on, ha.tick.cut⟩
theorem al_out (n : Nat) : ∀ c : Ch, Fr c → c.state = 7 → c.col + n ≤ c.reg.length → Al c → AlS g s c (rds n) := by
 induction n with
 | zero => exact fun c _ _ _ h => h
 | succ n ih =>
  intro c h h7 hk ha
  have e : c.tick.exec g s 4 0 (parL g) = (((c.reg.getD c.col 0 : Nat) : Int), { c.tick with col := c.col + 1 }) := by
   rw [exec_rd]
   unfold Ch.read
   rw [if_neg (show ¬ c.tick.state = 1 by show ¬ c.state = 1; omega), if_neg (by rw [h.tick.eng]; decide), if_neg (show ¬ c.tick.state = 3 by show ¬ c.state = 3; omega), if_neg (show ¬ (c.tick.state = 6 ∧ c.tick.listed.length = 0) from fun e => by have e : c.state = 6 := e.1; omega), if_pos (show c.tick.state = 7 from h7)]
   unfold Ch.next
   rw [if_neg (show ¬ c.tick.reg.length ≤ c.tick.col by show ¬ c.reg.length ≤ c.col; omega)]
   rfl
  refine ⟨ha, ?_⟩
  show AlS g s (c.tick.exec g s 4 0 (parL g)).2 (rds n)
  rw [e]
  exact ih { c.tick with col := c.col + 1 } ⟨h.bz, h.rd, h.pr, h.bl, h.th, h.pl⟩ h7 (by show c.col + 1 + n ≤ c.reg.length; omega) ⟨ha.on, ha.tick.cut⟩
theorem Fr.name (h : Fr c) : exL g s c nameL = askL 144 ++ (nameB g).map rdC ∧ Fr (exS g s c nameL) ∧ (Al c → AlS g s c nameL) := by
 have e1 : c.tick.exec g s 1 144 (parL g) = (0, c.tick.discard.enter 2) := h.tick.open_ 144 (.inl rfl) _
 have h1 : Fr (c.tick.discard.enter 2) := h.tick.opened 2
 obtain ⟨c1, hc1⟩ : ∃ c1, c1 = c.tick.discard.enter 2 := ⟨_, rfl⟩
 have s1 : c1.state = 2 := by rw [hc1]; rfl
 have a1 : Al c → Al c1 := fun ha => by rw [hc1]; exact ⟨ha.on, ha.tick.cut⟩
 rw [← hc1] at e1 h1
 clear hc1
 have e2 : c1.tick.exec g s 2 0 (parL g) = (0, (c1.tick.push 0).enter 3) := h1.tick.named s1 _
 obtain ⟨c2, hc2⟩ : ∃ c2, c2 = (c1.tick.push 0).enter 3 := ⟨_, rfl⟩
 have h2 : Fr c2 := by rw [hc2]; exact ⟨h1.bz, h1.rd, h1.pr, h1.bl, h1.th, h1.pl⟩
 have s2 : c2.state = 3 := by rw [hc2]; rfl
 have d2 : c2.said = 0 := by rw [hc2]; rfl
 have a2 : Al c → Al c2 := fun ha => by rw [hc2]; exact ⟨(a1 ha).on, (a1 ha).tick.cut⟩
 rw [← hc2] at e2
 obtain ⟨t1, t2⟩ := ex_told (g := g) (s := s) 5 c2 0 h2 s2 d2 (by omega)
 have E1 : c.tick.exec g s (⟨1, 144⟩ : Cy).k.toNat (⟨1, 144⟩ : Cy).b (parL g) = (0, c1) := e1
 have E2 : c1.tick.exec g s (⟨2, 0⟩ : Cy).k.toNat (⟨2, 0⟩ : Cy).b (parL g) = (0, c2) := e2
 rw [nameL_is]
 refine ⟨?_, ?_, fun ha => AlS.step _ _ E1 ha (AlS.step _ _ E2 (a1 ha) (al_told 5 c2 0 h2 s2 d2 (by omega) (a2 ha)))⟩
 ·
  rw [exL_step _ _ E1, exL_step _ _ E2, t1, askL_is]
  unfold nameB rdC
  rw [List.map_map]
  have e3 : ((List.range 5).map fun i => (⟨4, (ansG g (0 + i)).toNat⟩ : Cy)) = (List.range 5).map ((fun x => (⟨4, x⟩ : Cy)) ∘ fun i => (ansG g i).toNat) := by
   refine List.map_congr_left fun i _ => ?_
   show (⟨4, (ansG g (0 + i)).toNat⟩ : Cy) = ⟨4, (ansG g i).toNat⟩
   rw [Nat.zero_add]
  rw [e3]
  rfl
 ·
  rw [exS_step _ _ E1, exS_step _ _ E2]
  exact t2
theorem Fr.asked (h : Fr c) : ∃ c2, exL g s c (askL 236) = askL 236 ∧ exS g s c (askL 236) = c2 ∧ Rz c2 ∧ c2.busy = nb s c ∧ c2.reg = parL g ∧ c2.col = 0 ∧ (Al c → AlS g s c (askL 236)) := by
 have e1 : c.tick.exec g s 1 236 (parL g) = (0, c.tick.discard.enter 4) := h.tick.open_ 236 (.inr (.inl rfl)) _
 have h1 : Fr (c.tick.discard.enter 4) := h.tick.opened 4
 obtain ⟨c1, hc1⟩ : ∃ c1, c1 = c.tick.discard.enter 4 := ⟨_, rfl⟩
 have s1 : c1.state = 4 := by rw [hc1]; rfl
 have b1 : nb s c1.tick = nb s c := by rw [hc1]; rfl
 have a1 : Al c → Al c1 := fun ha => by rw [hc1]; exact ⟨ha.on, ha.tick.cut⟩
 rw [← hc1] at e1 h1
 clear hc1
 have e2 : c1.tick.exec g s 2 0 (parL g) = (0, c1.tick.parsd g s) := h1.tick.pars s1
 obtain ⟨p1, p2, p3, p4, _⟩ := h1.tick.parsd (g := g) (s := s)
 have E1 : c.tick.exec g s (⟨1, 236⟩ : Cy).k.toNat (⟨1, 236⟩ : Cy).b (parL g) = (0, c1) := e1
 have E2 : c1.tick.exec g s (⟨2, 0⟩ : Cy).k.toNat (⟨2, 0⟩ : Cy).b (parL g) = (0, c1.tick.parsd g s) := e2
 rw [askL_is]
 refine ⟨c1.tick.parsd g s, ?_, ?_, p1, p2.trans b1, p3, p4, fun ha => AlS.step _ _ E1 ha (AlS.step _ _ E2 (a1 ha) (show Al _ from ⟨(a1 ha).on, (a1 ha).tick.cut⟩))⟩
 ·
  rw [exL_step _ _ E1, exL_step _ _ E2]
  rfl
 ·
  rw [exS_step _ _ E1, exS_step _ _ E2]
  rfl
theorem Rz.again (h : Rz c) : Rz (c.tick.enter 1) := ⟨rfl, h.th, h.rd, h.pr, h.bl, h.fa, h.pv, h.pl⟩
theorem pollN_pre (n : Nat) : ∀ (c : Ch) (L : List Cy), Rz c → (∃ j, (pollN g s 96 n c L).2.2.2 = L ++ (List.replicate j ⟨4, 128⟩ ++ if (pollN g s 96 n c L).2.1 = 0 then [⟨4, 224⟩] else [])) ∧ ((pollN g s 96 n c L).2.1 = 0 ∨ (pollN g s 96 n c L).2.1 = 20 ∨ (pollN g s 96 n c L).2.1 = 21) := by
 induction n with
 | zero => exact fun c L _ => ⟨⟨0, (List.append_nil L).symm⟩, .inr (.inr rfl)⟩
 | succ n ih =>
  intro c L hz
  unfold pollN
  by_cases h0 : (sendC g s c L ⟨4, 0⟩).2.1 = 0
  rotate_left
  ·
   rw [if_neg h0]
   refine ⟨⟨0, ?_⟩, ?_⟩
   ·
    show (sendC g s c L ⟨4, 0⟩).2.2.2 = _
    rw [(sendC_no _ h0).1]
    show L = L ++ ([] ++ if (sendC g s c L ⟨4, 0⟩).2.1 = 0 then _ else _)
    rw [if_neg h0]
    simp
   ·
    rcases sendC_err (g := g) (s := s) (c := c) (L := L) ⟨4, 0⟩ rfl with h | h
    ·
     exact absurd h h0
    ·
     exact .inr (.inl h)
  rw [if_pos h0]
  have he := sendC_exec h0
  by_cases hb : c.busy = 0
  ·
   have e : c.tick.exec g s 4 0 (parL g) = (224, c.tick) := hz.tick.poll0 (show c.tick.busy = 0 from hb) _
   have he2 : sendC g s c L ⟨4, 0⟩ = (224, 0, c.tick, L ++ [⟨4, 224⟩]) := by
    rw [he]
    show ((c.tick.exec g s 4 0 (parL g)).1, 0, (c.tick.exec g s 4 0 (parL g)).2, L ++ [keptC ⟨4, 0⟩ (c.tick.exec g s 4 0 (parL g)).1]) = _
    rw [e]
    rfl
   rw [he2, if_pos (show hasM 224 96 = true by decide)]
   exact ⟨⟨0, rfl⟩, .inl rfl⟩
  ·
   have e : c.tick.exec g s 4 0 (parL g) = (128, { c.tick with busy := c.tick.busy - 1 }) := hz.tick.poll1 (show 0 < c.tick.busy from Nat.pos_of_ne_zero hb) _
   have he2 : sendC g s c L ⟨4, 0⟩ = (128, 0, { c.tick with busy := c.tick.busy - 1 }, L ++ [⟨4, 128⟩]) := by
    rw [he]
    show ((c.tick.exec g s 4 0 (parL g)).1, 0, (c.tick.exec g s 4 0 (parL g)).2, L ++ [keptC ⟨4, 0⟩ (c.tick.exec g s 4 0 (parL g)).1]) = _
    rw [e]
    rfl
   rw [he2, if_neg (show ¬ hasM 128 96 = true by decide)]
   obtain ⟨⟨j, h1⟩, h2⟩ := ih { c.tick with busy := c.tick.busy - 1 } (L ++ [⟨4, 128⟩]) ⟨hz.tick.st, hz.tick.th, hz.tick.rd, hz.tick.pr, hz.tick.bl, hz.tick.fa, hz.tick.pv, hz.tick.pl⟩
   refine ⟨⟨j + 1, h1.trans ?_⟩, h2⟩
   rw [List.replicate_succ, List.append_assoc]
   rfl
theorem pollN_al (n : Nat) : ∀ (c : Ch) (L : List Cy), Rz c → Al c → c.busy < n → (pollN g s 96 n c L).2.1 = 0 ∧ Al (pollN g s 96 n c L).2.2.1 := by
 induction n with
 | zero => exact fun c L _ _ h => absurd h (by omega)
 | succ n ih =>
  intro c L hz ha hb
  unfold pollN
  have hs := sendC_on (g := g) (s := s) (L := L) ⟨4, 0⟩ ha.on ha.cut rfl
  by_cases h0 : c.busy = 0
  ·
   have hp := hz.tick.poll0 (g := g) (s := s) (show c.tick.busy = 0 from h0) (parL g)
   have hs2 : sendC g s c L ⟨4, 0⟩ = (224, 0, c.tick, L ++ [keptC ⟨4, 0⟩ 224]) := by
    rw [hs]
    show ((c.tick.exec g s 4 0 (parL g)).1, 0, (c.tick.exec g s 4 0 (parL g)).2, L ++ [keptC ⟨4, 0⟩ (c.tick.exec g s 4 0 (parL g)).1]) = _
    rw [hp]
   rw [hs2, if_pos rfl, if_pos (show hasM 224 96 = true by decide)]
   exact ⟨rfl, ha.tick⟩
  ·
   have hp := hz.tick.poll1 (g := g) (s := s) (show 0 < c.tick.busy from Nat.pos_of_ne_zero h0) (parL g)
   have hs2 : sendC g s c L ⟨4, 0⟩ = (128, 0, { c.tick with busy := c.tick.busy - 1 }, L ++ [keptC ⟨4, 0⟩ 128]) := by
    rw [hs]
    show ((c.tick.exec g s 4 0 (parL g)).1, 0, (c.tick.exec g s 4 0 (parL g)).2, L ++ [keptC ⟨4, 0⟩ (c.tick.exec g s 4 0 (parL g)).1]) = _
    rw [hp]
   rw [hs2, if_pos rfl, if_neg (show ¬ hasM 128 96 = true by decide)]
   refine ih { c.tick with busy := c.tick.busy - 1 } _ ⟨hz.tick.st, hz.tick.th, hz.tick.rd, hz.tick.pr, hz.tick.bl, hz.tick.fa, hz.tick.pv, hz.tick.pl⟩ ⟨ha.on, ha.tick.cut⟩ ?_
   show c.busy - 1 < n
   omega
def WtL (e : Int) (l : List Cy) : Prop := (l = [] ∧ e ≠ 0) ∨ ∃ j, l = [⟨1, 112⟩] ++ (List.replicate j ⟨4, 128⟩ ++ if e = 0 then [⟨4, 224⟩] else [])
theorem wait_sum (hz : Rz (c.tick.enter 1)) :
  ∃ l, (waitW g s c L 96 n).2.2.2 = L ++ l ∧ WtL (waitW g s c L 96 n).2.1 l ∧ ((waitW g s c L 96 n).2.1 = 0 ∨ (waitW g s c L 96 n).2.1 = 20 ∨ (waitW g s c L 96 n).2.1 = 21) ∧
   ((waitW g s c L 96 n).2.1 = 0 → Fr (waitW g s c L 96 n).2.2.1 ∧ (waitW g s c L 96 n).2.2.1.reg = c.reg ∧ (waitW g s c L 96 n).2.2.1.col = c.col) ∧
   (Al c → c.busy < n → (waitW g s c L 96 n).2.1 = 0 ∧ Al (waitW g s c L 96 n).2.2.1) := by
 unfold waitW
 by_cases h0 : (sendC g s c L ⟨1, 112⟩).2.1 = 0
 rotate_left
 ·
  rw [if_neg h0]
  refine ⟨[], ?_, .inl ⟨rfl, h0⟩, ?_, fun h => absurd h h0, fun ha _ => absurd ?_ h0⟩
  ·
   show (sendC g s c L ⟨1, 112⟩).2.2.2 = _
   rw [(sendC_no _ h0).1, List.append_nil]
  ·
   rcases sendC_err (g := g) (s := s) (c := c) (L := L) ⟨1, 112⟩ rfl with h | h
   ·
    exact absurd h h0
   ·
    exact .inr (.inl h)
  ·
   rw [sendC_on ⟨1, 112⟩ ha.on ha.cut rfl]
 rw [if_pos h0]
 have he : sendC g s c L ⟨1, 112⟩ = (0, 0, c.tick.enter 1, L ++ [⟨1, 112⟩]) := sendC_exec h0
 rw [he]
 show ∃ l, (pollN g s 96 n (c.tick.enter 1) (L ++ [⟨1, 112⟩])).2.2.2 = _ ∧ _
 obtain ⟨⟨j, h1⟩, h2⟩ := pollN_pre (g := g) (s := s) n (c.tick.enter 1) (L ++ [⟨1, 112⟩]) hz
 refine ⟨_, ?_, .inr ⟨j, rfl⟩, h2, ?_, ?_⟩
 ·
  rw [← List.append_assoc]
  exact h1
 ·
  intro h3
  obtain ⟨_, k2, k3, k4, k5, _⟩ := pollN_ok (g := g) (s := s) n (c.tick.enter 1) (L ++ [⟨1, 112⟩]) hz h3
  exact ⟨k2.free k3, k4, k5⟩
 ·
  intro ha hb
  exact pollN_al n _ _ hz ⟨ha.on, ha.tick.cut⟩ hb
def RsL (e : Int) (l : List Cy) : Prop := (l = [] ∧ e ≠ 0) ∨ ∃ m, l = [⟨1, 255⟩] ++ m ∧ WtL e m
theorem reset_sum (c : Ch) (L : List Cy) (n : Nat) : ∃ l, (resetW g s c L n).2.2 = L ++ l ∧ RsL (resetW g s c L n).1 l ∧ ((resetW g s c L n).1 = 0 → Fr (resetW g s c L n).2.1) ∧
  (Al c → nb s c < n → (resetW g s c L n).1 = 0 ∧ Al (resetW g s c L n).2.1) := by
 unfold resetW
 by_cases h0 : (sendC g s c L ⟨1, 255⟩).2.1 = 0
 rotate_left
 ·
  rw [if_neg h0]
  refine ⟨[], ?_, .inl ⟨rfl, h0⟩, fun h => absurd h h0, fun ha _ => absurd ?_ h0⟩
  ·
   show (sendC g s c L ⟨1, 255⟩).2.2.2 = _
   rw [(sendC_no _ h0).1, List.append_nil]
  ·
   rw [sendC_on ⟨1, 255⟩ ha.on ha.cut rfl]
 rw [if_pos h0]
 have he : sendC g s c L ⟨1, 255⟩ = (0, 0, c.tick.reset g s, L ++ [⟨1, 255⟩]) := sendC_exec h0
 rw [he]
 obtain ⟨l, h1, h2, h3, h4, h5⟩ := wait_sum (g := g) (s := s) (c := c.tick.reset g s) (L := L ++ [⟨1, 255⟩]) (n := n) (Rz.of g s c.tick)
 refine ⟨[⟨1, 255⟩] ++ l, ?_, .inr ⟨l, rfl, h2⟩, fun h => (h4 h).1, fun ha hb => h5 ⟨ha.on, ha.tick.cut⟩ hb⟩
 rw [← List.append_assoc]
 exact h1
theorem parL_take (h : g.ok = true) : (parL g).take 14 = gb g ∧ 31 ≤ (parL g).length := by
 have e1 : (parP g 7).length = 14 := rfl
 have h2 : 31 ≤ g.raw.toNat := by
  obtain ⟨h1, h2, h3, h4, h5, h6, h7⟩ := Gm.bounds_of h
  have h8 := mul_le (a := g.c) (b := g.k + 2) (m := 16) (n := 514) (by omega) (by omega) (by omega) (by omega)
  unfold Gm.raw
  rw [if_pos h]
  omega
 constructor
 ·
  show (parP g 7 ++ _).take 14 = _
  rw [List.take_append_of_le_length (by omega), List.take_of_length_le (by omega)]
  rfl
 ·
  show 31 ≤ (parP g 7 ++ List.replicate (g.raw.toNat - 2 * 7) 255).length
  rw [List.length_append, List.length_replicate, e1]
  omega
theorem Fr.fetch (h : Fr c) (hg : g.ok = true) (hr : c.reg = parL g) (hc : c.col = 0) : exL g s c fetchL = ⟨1, 0⟩ :: (gb g).map rdC ∧ Fr (exS g s c fetchL) ∧ (Al c → AlS g s c fetchL) := by
 obtain ⟨t1, t2⟩ := parL_take hg
 have e1 : c.tick.exec g s 1 0 (parL g) = (0, c.tick.discard.enter 6) := h.tick.open_ 0 (.inr (.inr rfl)) _
 have h1 : Fr (c.tick.discard.enter 6) := h.tick.opened 6
 obtain ⟨c1, hc1⟩ : ∃ c1, c1 = c.tick.discard.enter 6 := ⟨_, rfl⟩
 have s1 : c1.state = 6 := by rw [hc1]; rfl
 have l1 : c1.listed = [] := by rw [hc1]; rfl
 have r1 : c1.reg = parL g := by rw [hc1]; exact hr
 have o1 : c1.col = 0 := by rw [hc1]; exact hc
 have a1 : Al c → Al c1 := fun ha => by rw [hc1]; exact ⟨ha.on, ha.tick.cut⟩
 rw [← hc1] at e1 h1
 clear hc1
 have e2 : c1.tick.exec g s 4 0 (parL g) = ((((parL g).getD 0 0 : Nat) : Int), { c1.tick.enter 7 with col := 1 }) := by
  rw [exec_rd]
  unfold Ch.read
  rw [if_neg (show ¬ c1.tick.state = 1 by show ¬ c1.state = 1; omega), if_neg (by rw [h1.tick.eng]; decide), if_neg (show ¬ c1.tick.state = 3 by show ¬ c1.state = 3; omega), if_pos (show c1.tick.state = 6 ∧ c1.tick.listed.length = 0 from ⟨s1, by show c1.listed.length = 0; rw [l1]; rfl⟩)]
  unfold Ch.next
  rw [if_neg (show ¬ (c1.tick.enter 7).reg.length ≤ (c1.tick.enter 7).col by show ¬ c1.reg.length ≤ c1.col; rw [r1, o1]; omega)]
  show (((c1.reg.getD c1.col 0 : Nat) : Int), { c1.tick.enter 7 with col := c1.col + 1 }) = _
  rw [r1, o1]
 obtain ⟨c2, hc2⟩ : ∃ c2, c2 = ({ c1.tick.enter 7 with col := 1 } : Ch) := ⟨_, rfl⟩
 have h2 : Fr c2 := by rw [hc2]; exact ⟨h1.bz, h1.rd, h1.pr, h1.bl, h1.th, h1.pl⟩
 have s2 : c2.state = 7 := by rw [hc2]; rfl
 have r2 : c2.reg = parL g := by rw [hc2]; exact r1
 have o2 : c2.col = 1 := by rw [hc2]
 have a2 : Al c → Al c2 := fun ha => by rw [hc2]; exact ⟨(a1 ha).on, (a1 ha).tick.cut⟩
 rw [← hc2] at e2
 have hlen : c2.col + 13 ≤ c2.reg.length := by rw [r2, o2]; omega
 obtain ⟨u1, u2⟩ := ex_out (g := g) (s := s) 13 c2 h2 s2 hlen
 have E : ((parL g).drop 1).take 13 = (gb g).drop 1 := by rw [← t1, List.drop_take]
 have G0 : (gb g) = (parL g).getD 0 0 :: (gb g).drop 1 := by
  have e3 : (parL g).getD 0 0 = (gb g).getD 0 0 := by
   rw [← t1, List.getD_eq_getElem?_getD, List.getD_eq_getElem?_getD, List.getElem?_take, if_pos (by omega)]
  rw [e3]
  rfl
 have E1 : c.tick.exec g s (⟨1, 0⟩ : Cy).k.toNat (⟨1, 0⟩ : Cy).b (parL g) = (0, c1) := e1
 have E2 : c1.tick.exec g s (⟨4, 0⟩ : Cy).k.toNat (⟨4, 0⟩ : Cy).b (parL g) = ((((parL g).getD 0 0 : Nat) : Int), c2) := e2
 rw [fetchL_is]
 refine ⟨?_, ?_, fun ha => AlS.step _ _ E1 ha (AlS.step _ _ E2 (a1 ha) (al_out 13 c2 h2 s2 hlen (a2 ha)))⟩
 ·
  rw [exL_step _ _ E1, exL_step _ _ E2, u1, r2, o2, E, G0]
  generalize (gb g).drop 1 = D
  generalize (parL g).getD 0 0 = X
  show (⟨1, 0⟩ : Cy) :: ⟨4, (X : Int).toNat⟩ :: _ = ⟨1, 0⟩ :: ⟨4, X⟩ :: D.map rdC
  rw [Int.toNat_natCast]
  rfl
 ·
  rw [exS_step _ _ E1, exS_step _ _ E2]
  exact u2
def since (k : Nat) (L l : List Cy) : List Nat := (l.drop (L.length + k)).map (·.b)
def fetchW (g : Gm) (s : Sc) (c : Ch) (L : List Cy) : Gm × Int × Ch × List Cy :=
 if (runW g s c L fetchL).e = 0 then (tkgG (since 1 L (runW g s c L fetchL).l), tkgE (since 1 L (runW g s c L fetchL).l), (runW g s c L fetchL).c, (runW g s c L fetchL).l)
 else (gZ, (runW g s c L fetchL).e, (runW g s c L fetchL).c, (runW g s c L fetchL).l)
def parW (g : Gm) (s : Sc) (c : Ch) (L : List Cy) (n : Nat) : Gm × Int × Ch × List Cy :=
 if (runW g s c L (askL 236)).e = 0 then
  (if (waitW g s (runW g s c L (askL 236)).c (runW g s c L (askL 236)).l 96 n).2.1 = 0 then
   fetchW g s (waitW g s (runW g s c L (askL 236)).c (runW g s c L (askL 236)).l 96 n).2.2.1 (waitW g s (runW g s c L (askL 236)).c (runW g s c L (askL 236)).l 96 n).2.2.2
  else (gZ, (waitW g s (runW g s c L (askL 236)).c (runW g s c L (askL 236)).l 96 n).2))
 else (gZ, (runW g s c L (askL 236)).e, (runW g s c L (askL 236)).c, (runW g s c L (askL 236)).l)
def chkW (g : Gm) (s : Sc) (c : Ch) (L : List Cy) (o : Gm) (n : Nat) : Int × Ch × List Cy :=
 if o.ok = true then
  (if (runW g s c L nameL).e = 0 then
   (if since 2 L (runW g s c L nameL).l = nameB o then
    ((if (parW g s (runW g s c L nameL).c (runW g s c L nameL).l n).2.1 = 0 then (if (parW g s (runW g s c L nameL).c (runW g s c L nameL).l n).1 = o then 0 else 23) else (parW g s (runW g s c L nameL).c (runW g s c L nameL).l n).2.1),
     (parW g s (runW g s c L nameL).c (runW g s c L nameL).l n).2.2)
   else (23, (runW g s c L nameL).c, (runW g s c L nameL).l))
  else ((runW g s c L nameL).e, (runW g s c L nameL).c, (runW g s c L nameL).l))
 else (2, c, L)
theorem since_map (b : List Cy) (l : List Nat) (k : Nat) (h : b.length = k) : since k L (L ++ (b ++ l.map rdC)) = l := by
 unfold since
 rw [← h, List.drop_append, List.drop_of_length_le (by omega), List.nil_append, show L.length + b.length - L.length = b.length by omega, List.drop_left, List.map_map, show ((fun x : Cy => x.b) ∘ rdC) = id from rfl, List.map_id]
theorem name_sum (h : Fr c) : ∃ l, (runW g s c L nameL).l = L ++ l ∧ (∃ k, l = (askL 144 ++ (nameB g).map rdC).take k) ∧ ((runW g s c L nameL).e = 0 ∨ (runW g s c L nameL).e = 20) ∧
  ((runW g s c L nameL).e = 0 → l = askL 144 ++ (nameB g).map rdC ∧ since 2 L (runW g s c L nameL).l = nameB g ∧ Fr (runW g s c L nameL).c) ∧ (Al c → (runW g s c L nameL).e = 0 ∧ Al (runW g s c L nameL).c) := by
 obtain ⟨h1, h2, h3⟩ := h.name (g := g) (s := s)
 obtain ⟨l, k1, k2, k3, k4⟩ := run_sum (g := g) (s := s) (c := c) (L := L) nameL _ ok_nameL h1
 refine ⟨l, k1, k2, k3, fun h0 => ?_, fun ha => ?_⟩
 ·
  obtain ⟨m1, m2⟩ := k4 h0
  refine ⟨m1, ?_, by rw [m2]; exact h2⟩
  rw [k1, m1]
  exact since_map _ _ 2 rfl
 ·
  have h0 := runW_al nameL ok_nameL c L (h3 ha)
  exact ⟨h0, by rw [(k4 h0).2]; exact AlS.last _ _ (h3 ha)⟩
theorem fetch_sum (h : Fr c) (hg : g.ok = true) (hr : c.reg = parL g) (hc : c.col = 0) : ∃ l, (fetchW g s c L).2.2.2 = L ++ l ∧ (∃ k, l = (⟨1, 0⟩ :: (gb g).map rdC : List Cy).take k) ∧
  ((fetchW g s c L).2.1 = 0 → l = ⟨1, 0⟩ :: (gb g).map rdC ∧ (fetchW g s c L).1 = g ∧ Fr (fetchW g s c L).2.2.1) ∧ (Al c → (fetchW g s c L).2.1 = 0 ∧ Al (fetchW g s c L).2.2.1) := by
 obtain ⟨h1, h2, h3⟩ := h.fetch (g := g) (s := s) hg hr hc
 obtain ⟨l, k1, k2, k3, k4⟩ := run_sum (g := g) (s := s) (c := c) (L := L) fetchL _ ok_fetchL h1
 unfold fetchW
 by_cases h0 : (runW g s c L fetchL).e = 0
 ·
  obtain ⟨m1, m2⟩ := k4 h0
  have e : since 1 L (runW g s c L fetchL).l = gb g := by
   rw [k1, m1]
   exact since_map [⟨1, 0⟩] (gb g) 1 rfl
  rw [if_pos h0, e, (tkg_gb hg).1, (tkg_gb hg).2]
  exact ⟨l, k1, k2, fun _ => ⟨m1, rfl, by show Fr (runW g s c L fetchL).c; rw [m2]; exact h2⟩, fun ha => ⟨rfl, by show Al (runW g s c L fetchL).c; rw [m2]; exact AlS.last _ _ (h3 ha)⟩⟩
 ·
  rw [if_neg h0]
  exact ⟨l, k1, k2, fun h => absurd h h0, fun ha => absurd (runW_al fetchL ok_fetchL c L (h3 ha)) h0⟩
def PaL (g : Gm) (e : Int) (l : List Cy) : Prop := (∃ k, l = (askL 236).take k ∧ e ≠ 0) ∨ (∃ m, l = askL 236 ++ m ∧ WtL e m ∧ e ≠ 0) ∨ ∃ m f, l = askL 236 ++ (m ++ f) ∧ WtL 0 m ∧ (∃ k, f = (⟨1, 0⟩ :: (gb g).map rdC : List Cy).take k) ∧ (e = 0 → f = ⟨1, 0⟩ :: (gb g).map rdC)
theorem par_sum (h : Fr c) (hg : g.ok = true) : ∃ l, (parW g s c L n).2.2.2 = L ++ l ∧ PaL g (parW g s c L n).2.1 l ∧ ((parW g s c L n).2.1 = 0 → (parW g s c L n).1 = g ∧ Fr (parW g s c L n).2.2.1) ∧
  (Al c → nb s c < n → (parW g s c L n).2.1 = 0 ∧ Al (parW g s c L n).2.2.1) := by
 obtain ⟨c2, h1, h2, h3, h4, h5, h6, h7⟩ := h.asked (g := g) (s := s)
 obtain ⟨l, k1, ⟨kk, k2⟩, k3, k4⟩ := run_sum (g := g) (s := s) (c := c) (L := L) (askL 236) _ (ok_askL _) h1
 unfold parW
 by_cases h0 : (runW g s c L (askL 236)).e = 0
 rotate_left
 ·
  rw [if_neg h0]
  exact ⟨l, k1, .inl ⟨kk, k2, h0⟩, fun h => absurd h h0, fun ha _ => absurd (runW_al _ (ok_askL _) c L (h7 ha)) h0⟩
 obtain ⟨m1, m2⟩ := k4 h0
 rw [if_pos h0]
 rw [h2] at m2
 rw [m2, k1, m1]
 obtain ⟨m, w1, w2, w3, w4, w5⟩ := wait_sum (g := g) (s := s) (c := c2) (L := L ++ askL 236) (n := n) h3.again
 have a2 : Al c → Al c2 := fun ha => by rw [← h2]; exact AlS.last _ _ (h7 ha)
 by_cases hw : (waitW g s c2 (L ++ askL 236) 96 n).2.1 = 0
 rotate_left
 ·
  rw [if_neg hw]
  refine ⟨askL 236 ++ m, ?_, .inr (.inl ⟨m, rfl, w2, hw⟩), fun h => absurd h hw, fun ha hb => absurd (w5 (a2 ha) (by rw [h4]; exact hb)).1 hw⟩
  rw [← List.append_assoc]
  exact w1
 rw [if_pos hw]
 obtain ⟨v1, v2, v3⟩ := w4 hw
 obtain ⟨f, f1, f2, f3, f4⟩ := fetch_sum (g := g) (s := s) (L := (waitW g s c2 (L ++ askL 236) 96 n).2.2.2) v1 hg (v2.trans h5) (v3.trans h6)
 rw [hw] at w2
 refine ⟨askL 236 ++ (m ++ f), ?_, .inr (.inr ⟨m, f, rfl, w2, f2, fun h => (f3 h).1⟩), fun h => (f3 h).2, fun ha hb => f4 (w5 (a2 ha) (by rw [h4]; exact hb)).2⟩
 rw [f1, w1]
 simp only [List.append_assoc]
end
section
variable {I : Nat → Prop} {w : World} {q p r : Nat} {g : Gm} {s : Sc} {c : Ch} {L : List Cy} {k : Nat}
theorem runW_app_no (ts us : List Cy) (h : (runW g s c L ts).e ≠ 0) : runW g s c L (ts ++ us) = runW g s c L ts := by
 unfold runW at h ⊢
 rw [List.foldl_append]
 exact fold_stuck _ _ h
theorem Wi.apart (h : Wi I w q p r g s c L k) (o : Obj) : ∃ I1 : Nat → Prop, Wi I1 (w.alloc o) q p r g s c L k ∧ (∀ j, I1 j → I j) ∧ ¬ I1 w.heap.size :=
 ⟨_, h.away (J := fun _ => False) (Btw.of_below (below_new w o)) (fun _ _ h => h.elim), fun j h => h.1, fun h => by
  rcases h.2 with h | h
  ·
   omega
  ·
   simp at h
   omega⟩
def AskIs (I : Nat → Prop) (q p r : Nat) (g : Gm) (s : Sc) (c : Ch) (L : List Cy) (k Q b : Nat) (w : World) (e : Ending) (w' : World) : Prop :=
 ∃ k', k' ≤ k + 2 ∧ e = .returned (.int .i64 (runW g s c L (askL b)).e) ∧ Wi I w' q p r g s (runW g s c L (askL b)).c (runW g s c L (askL b)).l k' ∧ Btw I w w' ∧ ((runW g s c L (askL b)).c.on = true → Okc g (Q + 2) (runW g s c L (askL b)).c) ∧ ((runW g s c L (askL b)).e = 0 → k' = k)
set_option maxHeartbeats 4000000 in
theorem ask_any {Q : Nat} (b : Nat) (hb : b < 256) (hQ : Q + 2 ≤ 100000) (hs : SG g s) (ho : c.on = true → Okc g Q c) (hL : L.length + 2 ≤ 100000) (hk : k < 998) (h : Wi I w q p r g s c L k) :
  Calls Tryz.prog 31 #[.pointer (some ⟨q, 0, none⟩), .int .u8 (b : Int)] w (AskIs I q p r g s c L k Q b w) := by
 have HS := Lib.hid hs
 have R1 := Lib.hid (r8_one w b hb 5)
 have N1 := Lib.hid (below_new w (.cells #[.int .u8 (b : Int)] 5))
 have HC := Lib.hid (Cmd_one (Q := Q) (some ⟨w.heap.size, 0, none⟩) 1 b R1.out (by omega) hs ho (by omega) (by omega) (h.below N1.out))
 have HW0 := Lib.hid (runW_cons (g := g) (s := s) (c := c) (L := L) ⟨1, b⟩ [⟨2, 0⟩])
 have HLN := Lib.hid (fun h => sendC_ok (g := g) (s := s) (c := c) (L := L) (t := ⟨1, b⟩) h)
 unfold AskIs
 obtain ⟨Y, hY⟩ : ∃ Y, Y = runW g s c L (askL b) := ⟨_, rfl⟩
 rw [show runW g s c L [⟨1, b⟩, ⟨2, 0⟩] = Y from hY.symm] at HW0
 rw [← hY]
 obtain ⟨z, hz⟩ : ∃ z, z = sendC g s c L ⟨1, b⟩ := ⟨_, rfl⟩
 rw [← hz] at HC HW0 HLN
 obtain ⟨v0, e, c1, L1⟩ := z
 simp only at HC HW0 HLN
 have HK := Lib.hid hk
 have HQQ := Lib.hid hQ
 have HLL := Lib.hid hL
 clear hz hY h hs ho hb hk hQ hL
 go_enter Tryz.func31, Tryz.ntmps31
 go_wp2_with fail
 refine HC.out.mono ?_
 rintro _ w3 ⟨k1, hk1, rfl, h3, b3, o3, kk3⟩
 have H3 := Lib.hid h3
 have B3 := Lib.hid ((Btw.of_below (I := I) N1.out).trans b3 fun _ _ h => h)
 have O3 := Lib.hid o3
 have K3 := Lib.hid hk1
 have KK3 := Lib.hid kk3
 clear h3 b3 o3 hk1 kk3 HC R1 N1
 by_cases he : e = 0
 rotate_left
 ·
  have b0 : (e == 0) = false := by rw [beq_eq_false_iff_ne]; exact he
  have n0 : (e != 0) = true := by simp [he]
  have j0 : (e = 0) = False := eq_false he
  have dd0 : decide (e = 0) = false := decide_eq_false he
  have HE := Lib.hid (HW0.out.trans (if_neg he))
  have HN := Lib.hid he
  clear he
  go_wp2
  go_ret
  rw [HE.out]
  exact ⟨k1, by have := K3.out; omega, rfl, H3.out, B3.out, fun h => (O3.out h).more (by omega), fun h => absurd h HN.out⟩
 subst he
 have HE := Lib.hid (HW0.out.trans (if_pos rfl))
 have HL1 := Lib.hid (show L1.length = L.length + 1 by rw [HLN.out rfl]; simp)
 obtain rfl : k1 = k := KK3.out rfl
 have R4 := Lib.hid (r8_one w3 0 (by omega) 5)
 have N4 := Lib.hid (below_new w3 (.cells #[.int .u8 0] 5))
 have HC := Lib.hid (WAddress_any (Q := Q + 1) (some ⟨w3.heap.size, 0, none⟩) 1 1 [0] R4.out (by omega) (by have := HQQ.out; omega) HS.out O3.out (by have := HL1.out; have := HLL.out; omega) (by have := HK.out; omega) (H3.out.below N4.out))
 unfold SentIs at HC
 rw [show ofL 2 [0] = [⟨2, 0⟩] from rfl, ← HE.out] at HC
 clear HW0 HLN KK3 K3 HE O3 H3 R4
 go_wp2_with fail
 refine HC.out.mono ?_
 rintro _ w5 ⟨k2, hk2, rfl, h5, b5, o5, kk5⟩
 have H5 := Lib.hid h5
 have B5 := Lib.hid ((B3.out.trans (Btw.of_below (I := I) N4.out) fun _ _ h => h).trans b5 fun _ _ h => h)
 have O5 := Lib.hid o5
 have K5 := Lib.hid hk2
 have KK5 := Lib.hid kk5
 clear h5 b5 o5 hk2 kk5 HC B3 N4
 go_wp2
 go_ret
 exact ⟨k2, by have := K5.out; omega, rfl, H5.out, B5.out, O5.out, KK5.out⟩
def IDIs (I : Nat → Prop) (q p r : Nat) (g : Gm) (s : Sc) (c : Ch) (L : List Cy) (k Q : Nat) (w : World) (e : Ending) (w' : World) : Prop :=
 ∃ k' A d, ∃ I' : Nat → Prop, k' ≤ k + 3 ∧ ((runW g s c L nameL).e = 0 → e = .returned (.tuple #[.slice A 5 d, .int .i64 0]) ∧ R8 w' A 5 (since 2 L (runW g s c L nameL).l) ∧ ∀ b off, A = some ⟨b, off, none⟩ → ¬ I' b) ∧
  ((runW g s c L nameL).e ≠ 0 → e = .returned (.tuple #[.slice none 0 0, .int .i64 (runW g s c L nameL).e])) ∧ Wi I' w' q p r g s (runW g s c L nameL).c (runW g s c L nameL).l k' ∧ (∀ j, I' j → I j) ∧ Btw I w w' ∧
  ((runW g s c L nameL).c.on = true → Okc g (Q + 7) (runW g s c L nameL).c) ∧ ((runW g s c L nameL).e = 0 → k' = k)
set_option maxHeartbeats 4000000 in
theorem ID_any {Q : Nat} (hQ : Q + 7 ≤ 100000) (hs : SG g s) (ho : c.on = true → Okc g Q c) (hL : L.length + 7 ≤ 100000) (hk : k < 997) (h : Wi I w q p r g s c L k) :
  Calls Tryz.prog 12 #[.pointer (some ⟨q, 0, none⟩)] w (IDIs I q p r g s c L k Q w) := by
 have HS := Lib.hid hs
 have HC := Lib.hid (ask_any (Q := Q) 144 (by omega) (by omega) hs ho (by omega) (by omega) h)
 have HYN := Lib.hid (fun h => runW_app_no (g := g) (s := s) (c := c) (L := L) (askL 144) (rds 5) h)
 have HYY := Lib.hid (fun h => runW_append (g := g) (s := s) (c := c) (L := L) (askL 144) (rds 5) h)
 have HLN := Lib.hid (fun h => (runW_len (g := g) (s := s) (c := c) (L := L) (ts := askL 144)).2 h)
 unfold IDIs
 obtain ⟨Y, hY⟩ : ∃ Y, Y = runW g s c L nameL := ⟨_, rfl⟩
 rw [show runW g s c L (askL 144 ++ rds 5) = Y from hY.symm] at HYN HYY
 rw [← hY]
 unfold AskIs at HC
 obtain ⟨z, hz⟩ : ∃ z, z = runW g s c L (askL 144) := ⟨_, rfl⟩
 rw [← hz] at HC HYN HYY HLN
 obtain ⟨e, c1, L1⟩ := z
 simp only at HC HYN HYY HLN
 have HK := Lib.hid hk
 have HQQ := Lib.hid hQ
 have HLL := Lib.hid hL
 clear hz hY h hs ho hk hQ hL
 go_enter Tryz.func12, Tryz.ntmps12
 go_wp2_with fail
 refine HC.out.mono ?_
 rintro _ w3 ⟨k1, hk1, rfl, h3, b3, o3, kk3⟩
 have H3 := Lib.hid h3
 have B3 := Lib.hid b3
 have O3 := Lib.hid o3
 have K3 := Lib.hid hk1
 have KK3 := Lib.hid kk3
 clear h3 b3 o3 hk1 kk3 HC
 by_cases he : e = 0
 rotate_left
 ·
  have b0 : (e == 0) = false := by rw [beq_eq_false_iff_ne]; exact he
  have n0 : (e != 0) = true := by simp [he]
  have j0 : (e = 0) = False := eq_false he
  have dd0 : decide (e = 0) = false := decide_eq_false he
  have HE := Lib.hid (HYN.out he)
  have HN := Lib.hid he
  clear he
  go_wp2
  go_ret2
  rw [HE.out]
  exact ⟨k1, none, 0, I, by have := K3.out; omega, fun h => absurd h HN.out, fun _ => rfl, H3.out, fun _ h => h, B3.out, fun h => (O3.out h).more (by omega), fun h => absurd h HN.out⟩
 subst he
 have HE := Lib.hid (HYY.out rfl)
 have HL1 := Lib.hid (show L1.length = L.length + 2 from HLN.out rfl)
 obtain rfl : k1 = k := KK3.out rfl
 have HC := Lib.hid (Read_any (Q := Q + 2) 5 (by omega) (by have := HQQ.out; omega) HS.out O3.out (by have := HL1.out; have := HLL.out; omega) (by have := HK.out; omega) H3.out)
 unfold ReadIs at HC
 rw [← HE.out, show readB L1 Y.l = since 2 L Y.l by unfold readB since; rw [HL1.out]] at HC
 clear HYN HYY HLN KK3 K3 HE O3 H3
 go_wp2_with fail
 refine HC.out.mono ?_
 rintro ee w5 ⟨k2, A, d, hk2, hyes, hno, ⟨I', h5, hi5, hn5⟩, b5, o5, kk5⟩
 have H5 := Lib.hid h5
 have HI5 := Lib.hid hi5
 have HN5 := Lib.hid hn5
 have B5 := Lib.hid (B3.out.trans b5 fun _ _ h => h)
 have O5 := Lib.hid o5
 have K5 := Lib.hid hk2
 have KK5 := Lib.hid kk5
 clear h5 b5 o5 hk2 kk5 hi5 hn5 HC B3
 by_cases hy : Y.e = 0
 ·
  obtain ⟨rfl, _, r8⟩ := hyes hy
  have R8' := Lib.hid r8
  have HY := Lib.hid hy
  clear r8 hy hyes hno
  go_wp2
  go_ret2
  exact ⟨k2, A, d, I', by have := K5.out; omega, fun _ => ⟨rfl, R8'.out, fun b off e => HN5.out HY.out b (by rw [e]; rfl)⟩, fun h => absurd HY.out h, H5.out, HI5.out, B5.out, O5.out, KK5.out⟩
 ·
  obtain rfl := hno hy
  have HY := Lib.hid hy
  clear hy hyes hno
  go_wp2
  go_ret2
  exact ⟨k2, A, d, I', by have := K5.out; omega, fun h => absurd h HY.out, fun _ => rfl, H5.out, HI5.out, B5.out, O5.out, KK5.out⟩
end
section
variable {I I1 : Nat → Prop} {w w2 : World} {q p r b : Nat} {g : Gm} {s : Sc} {c : Ch} {L : List Cy} {k : Nat}
theorem Wi.done (h : Wi I1 w2 q p r g s c L k) (hn : ¬ I1 b) (hi : ∀ j, I1 j → I j) (cs : Array Value) : Wi I (w2.setRow b cs) q p r g s c L k :=
 (h.away (J := fun j => j = b) ((Btw.refl _).setRow rfl) (fun _ _ e hj => hn (e ▸ hj))).widen (fun j hj => hi j hj.1) (hi q h.qi)
def ParIs (I : Nat → Prop) (q p r : Nat) (g : Gm) (s : Sc) (c : Ch) (L : List Cy) (k Q n : Nat) (w : World) (e : Ending) (w' : World) : Prop :=
 ∃ k', k' ≤ k + 5 ∧ e = .returned (.tuple #[(parW g s c L n).1.val, .int .i64 (parW g s c L n).2.1]) ∧ Wi I w' q p r g s (parW g s c L n).2.2.1 (parW g s c L n).2.2.2 k' ∧ Btw I w w' ∧ ((parW g s c L n).2.2.1.on = true → Okc g (Q + n + 18) (parW g s c L n).2.2.1)
set_option maxHeartbeats 16000000 in
theorem Par_any {Q : Nat} (n : Nat) (hn1 : 1 ≤ n) (hn2 : n ≤ 65536) (hQ : Q + n + 18 ≤ 100000) (hs : SG g s) (ho : c.on = true → Okc g Q c) (hL : L.length + n + 18 ≤ 100000) (hk : k < 990) (h : Wi I w q p r g s c L k) :
  Calls Tryz.prog 13 #[.pointer (some ⟨q, 0, none⟩), .int .i64 (n : Int)] w (ParIs I q p r g s c L k Q n w) := by
 obtain ⟨I1, h1, hi1, hni⟩ := h.apart (.cells #[.int .i64 0, .int .i64 0, .int .i64 0, .int .i64 0, .int .i64 0, .int .i64 0, .int .i64 0] 23)
 have HIB := Lib.hid (h.new_ w.heap.size (Nat.le_refl _))
 have HI1 := Lib.hid (And.intro hi1 hni)
 have T1 := Lib.hid (CRow.new w #[.int .i64 0, .int .i64 0, .int .i64 0, .int .i64 0, .int .i64 0, .int .i64 0, .int .i64 0] 23)
 have B1 := Lib.hid (Btw.of_below (I := I) (below_new w (.cells #[.int .i64 0, .int .i64 0, .int .i64 0, .int .i64 0, .int .i64 0, .int .i64 0, .int .i64 0] 23)))
 have HS := Lib.hid hs
 have HC := Lib.hid (ask_any (Q := Q) 236 (by omega) (by omega) hs ho (by omega) (by omega) h1)
 have HP0 := Lib.hid (show parW g s c L n = if (runW g s c L (askL 236)).e = 0 then (if (waitW g s (runW g s c L (askL 236)).c (runW g s c L (askL 236)).l 96 n).2.1 = 0 then fetchW g s (waitW g s (runW g s c L (askL 236)).c (runW g s c L (askL 236)).l 96 n).2.2.1 (waitW g s (runW g s c L (askL 236)).c (runW g s c L (askL 236)).l 96 n).2.2.2 else (gZ, (waitW g s (runW g s c L (askL 236)).c (runW g s c L (askL 236)).l 96 n).2)) else (gZ, (runW g s c L (askL 236)).e, (runW g s c L (askL 236)).c, (runW g s c L (askL 236)).l) from rfl)
 have HLN := Lib.hid ((runW_len (g := g) (s := s) (c := c) (L := L) (ts := askL 236)).1)
 unfold ParIs
 obtain ⟨P, hP⟩ : ∃ P, P = parW g s c L n := ⟨_, rfl⟩
 rw [← hP] at HP0 ⊢
 unfold AskIs at HC
 obtain ⟨z, hz⟩ : ∃ z, z = runW g s c L (askL 236) := ⟨_, rfl⟩
 rw [← hz] at HC HP0 HLN
 obtain ⟨e, c1, L1⟩ := z
 simp only at HC HP0 HLN
 have HK := Lib.hid hk
 have HQQ := Lib.hid hQ
 have HL1 := Lib.hid (show L1.length + n + 16 ≤ 100000 by have h9 : L1.length ≤ L.length + 2 := HLN.out; omega)
 have HN1 := Lib.hid (And.intro hn1 hn2)
 clear hz hP h h1 hs ho hk hQ hL hi1 hni HLN hn1 hn2
 go_enter Tryz.func13, Tryz.ntmps13
 go_wp2_with fail
 refine HC.out.mono ?_
 rintro _ w3 ⟨k1, hk1, rfl, h3, b3, o3, _⟩
 have H3 := Lib.hid h3
 have B3 := Lib.hid (B1.out.trans b3 fun j _ hj => HI1.out.1 j hj)
 have O3 := Lib.hid o3
 have K3 := Lib.hid hk1
 have T3 := Lib.hid (T1.out.btw b3 HI1.out.2)
 clear h3 b3 o3 hk1 HC B1 T1
 by_cases he : e = 0
 rotate_left
 ·
  skip
  have b0 : (e == 0) = false := by rw [beq_eq_false_iff_ne]; exact he
  have n0 : (e != 0) = true := by simp [he]
  have j0 : (e = 0) = False := eq_false he
  have dd0 : decide (e = 0) = false := decide_eq_false he
  have HE := Lib.hid (HP0.out.trans (if_neg he))
  have HN := Lib.hid he
  clear he
  go_wp2_with (with_reducible refine (?_ : wpList _ _ _ ({ dst := _, op := Op.store 23 _ _, type := _, pos := _, after := _, guard := _ } :: _) _ _); refine wpList_store_at rfl 23 _ _ rfl 7 size_geomA _ w.heap.size ?hx rfl _ T3.out.row rfl rfl (by simp [Value.oneCell']) ?_; (case hx => simp [Act.eval]))
  have T9 := Lib.hid (T3.out.set #[.int .i64 0, .int .i64 0, .int .i64 0, .int .i64 0, .int .i64 0, .int .i64 0, .int .i64 0])
  go_wp2
  refine bodyPost_ret (res_cell_tmp rfl _ _ w.heap.size 23 _ (0, 0) _ rfl T9.out.row Tryz.underlying23 rfl size_geomA) rfl ?_
  rw [HE.out]
  exact ⟨_, by have := K3.out; omega, rfl, H3.out.done HI1.out.2 HI1.out.1 #[.int .i64 0, .int .i64 0, .int .i64 0, .int .i64 0, .int .i64 0, .int .i64 0, .int .i64 0], B3.out.setRow HIB.out, fun h => (O3.out h).more (by omega)⟩
 subst he
 have HP1 := Lib.hid (HP0.out.trans (if_pos rfl))
 have HC := Lib.hid (Ready_any (Q := Q + 2) n HN1.out.1 HN1.out.2 (by have := HQQ.out; omega) HS.out O3.out (by have := HL1.out; omega) (by have := K3.out; have := HK.out; omega) H3.out)
 have HWP := Lib.hid ((waitW_polls (g := g) (s := s) c1 L1 96 n).2.2)
 unfold WaitIs at HC
 obtain ⟨z, hz⟩ : ∃ z, z = waitW g s c1 L1 96 n := ⟨_, rfl⟩
 rw [← hz] at HC HP1 HWP
 obtain ⟨v2, e2, c2, L2⟩ := z
 simp only at HC HP1 HWP
 have HL2 := Lib.hid (show L2.length + 15 ≤ 100000 by have := HL1.out; have := HWP.out; omega)
 clear hz HP0 HWP HL1 O3 H3
 go_wp2_with fail
 refine HC.out.mono ?_
 rintro _ w5 ⟨k2, hk2, rfl, h5, b5, o5⟩
 have H5 := Lib.hid h5
 have B5 := Lib.hid (B3.out.trans b5 fun j _ hj => HI1.out.1 j hj)
 have O5 := Lib.hid o5
 have K5 := Lib.hid (show k2 ≤ k + 3 by have := K3.out; omega)
 have T5 := Lib.hid (T3.out.btw b5 HI1.out.2)
 clear h5 b5 o5 hk2 HC B3 T3 K3
 by_cases he : e2 = 0
 rotate_left
 ·
  skip
  have b0 : (e2 == 0) = false := by rw [beq_eq_false_iff_ne]; exact he
  have n0 : (e2 != 0) = true := by simp [he]
  have j0 : (e2 = 0) = False := eq_false he
  have dd0 : decide (e2 = 0) = false := decide_eq_false he
  have HE := Lib.hid (HP1.out.trans (if_neg he))
  have HN := Lib.hid he
  clear he
  go_wp2_with (with_reducible refine (?_ : wpList _ _ _ ({ dst := _, op := Op.store 23 _ _, type := _, pos := _, after := _, guard := _ } :: _) _ _); refine wpList_store_at rfl 23 _ _ rfl 7 size_geomA _ w.heap.size ?hx rfl _ T5.out.row rfl rfl (by simp [Value.oneCell']) ?_; (case hx => simp [Act.eval]))
  have T9 := Lib.hid (T5.out.set #[.int .i64 0, .int .i64 0, .int .i64 0, .int .i64 0, .int .i64 0, .int .i64 0, .int .i64 0])
  go_wp2
  refine bodyPost_ret (res_cell_tmp rfl _ _ w.heap.size 23 _ (0, 0) _ rfl T9.out.row Tryz.underlying23 rfl size_geomA) rfl ?_
  rw [HE.out]
  exact ⟨_, by have := K5.out; omega, rfl, H5.out.done HI1.out.2 HI1.out.1 #[.int .i64 0, .int .i64 0, .int .i64 0, .int .i64 0, .int .i64 0, .int .i64 0, .int .i64 0], B5.out.setRow HIB.out, fun h => (O5.out h).more (by omega)⟩
 subst he
 have HP2 := Lib.hid (HP1.out.trans (if_pos rfl))
 have HF := Lib.hid (show fetchW g s c2 L2 = if (runW g s c2 L2 fetchL).e = 0 then (tkgG (since 1 L2 (runW g s c2 L2 fetchL).l), tkgE (since 1 L2 (runW g s c2 L2 fetchL).l), (runW g s c2 L2 fetchL).c, (runW g s c2 L2 fetchL).l) else (gZ, (runW g s c2 L2 fetchL).e, (runW g s c2 L2 fetchL).c, (runW g s c2 L2 fetchL).l) from rfl)
 have HY0 := Lib.hid (show runW g s c2 L2 fetchL = _ from runW_cons (g := g) (s := s) (c := c2) (L := L2) ⟨1, 0⟩ (rds 14))
 have HSL := Lib.hid (fun h => sendC_ok (g := g) (s := s) (c := c2) (L := L2) (t := ⟨1, 0⟩) h)
 obtain ⟨Y, hY⟩ : ∃ Y, Y = runW g s c2 L2 fetchL := ⟨_, rfl⟩
 rw [← hY] at HF HY0
 rw [HF.out] at HP2
 clear hY HF HP1
 have R6 := Lib.hid (r8_one w5 0 (by omega) 5)
 have N6 := Lib.hid (below_new w5 (.cells #[.int .u8 0] 5))
 have HC := Lib.hid (Cmd_one (Q := Q + 3 + n) (some ⟨w5.heap.size, 0, none⟩) 1 0 R6.out (by have := HQQ.out; omega) HS.out (fun h => (O5.out h).more (by omega)) (by have := HL2.out; omega) (by have := K5.out; have := HK.out; omega) (H5.out.below N6.out))
 obtain ⟨z, hz⟩ : ∃ z, z = sendC g s c2 L2 ⟨1, 0⟩ := ⟨_, rfl⟩
 rw [← hz] at HC HY0 HSL
 obtain ⟨v3, e3, c3, L3⟩ := z
 simp only at HC HY0 HSL
 clear hz
 have T6 := Lib.hid (T5.out.below N6.out)
 go_wp2_with fail
 refine HC.out.mono ?_
 rintro _ w7 ⟨k3, hk3, rfl, h7, b7, o7, _⟩
 have H7 := Lib.hid h7
 have B7 := Lib.hid ((B5.out.trans (Btw.of_below (I := I) N6.out) fun _ _ h => h).trans b7 fun j _ hj => HI1.out.1 j hj)
 have O7 := Lib.hid o7
 have K7 := Lib.hid (show k3 ≤ k + 4 by have := K5.out; omega)
 have T7 := Lib.hid (T6.out.btw b7 HI1.out.2)
 clear h7 b7 o7 hk3 HC B5 T5 T6 K5 R6 N6 H5 O5
 by_cases he : e3 = 0
 rotate_left
 ·
  have HYE := Lib.hid (HY0.out.trans (if_neg he))
  rw [HYE.out] at HP2
  have b0 : (e3 == 0) = false := by rw [beq_eq_false_iff_ne]; exact he
  have n0 : (e3 != 0) = true := by simp [he]
  have j0 : (e3 = 0) = False := eq_false he
  have dd0 : decide (e3 = 0) = false := decide_eq_false he
  have HE := Lib.hid (HP2.out.trans (if_neg he))
  have HN := Lib.hid he
  clear he
  go_wp2_with (with_reducible refine (?_ : wpList _ _ _ ({ dst := _, op := Op.store 23 _ _, type := _, pos := _, after := _, guard := _ } :: _) _ _); refine wpList_store_at rfl 23 _ _ rfl 7 size_geomA _ w.heap.size ?hx rfl _ T7.out.row rfl rfl (by simp [Value.oneCell']) ?_; (case hx => simp [Act.eval]))
  have T9 := Lib.hid (T7.out.set #[.int .i64 0, .int .i64 0, .int .i64 0, .int .i64 0, .int .i64 0, .int .i64 0, .int .i64 0])
  go_wp2
  refine bodyPost_ret (res_cell_tmp rfl _ _ w.heap.size 23 _ (0, 0) _ rfl T9.out.row Tryz.underlying23 rfl size_geomA) rfl ?_
  rw [HE.out]
  exact ⟨_, by have := K7.out; omega, rfl, H7.out.done HI1.out.2 HI1.out.1 #[.int .i64 0, .int .i64 0, .int .i64 0, .int .i64 0, .int .i64 0, .int .i64 0, .int .i64 0], B7.out.setRow HIB.out, fun h => (O7.out h).more (by omega)⟩
 subst he
 have HYE := Lib.hid (HY0.out.trans (if_pos rfl))
 have HL3 := Lib.hid (show L3.length = L2.length + 1 by rw [HSL.out rfl]; simp)
 have HC := Lib.hid (Read_any (Q := Q + 3 + n + 1) 14 (by omega) (by have := HQQ.out; omega) HS.out O7.out (by have := HL3.out; have := HL2.out; omega) (by have := K7.out; have := HK.out; omega) H7.out)
 unfold ReadIs at HC
 rw [← HYE.out, show readB L3 Y.l = since 1 L2 Y.l by unfold readB since; rw [HL3.out]] at HC
 clear HY0 HYE HSL O7 H7
 go_wp2_with fail
 refine HC.out.mono ?_
 rintro ee w8 ⟨k4, A, d, hk4, hyes, hno, ⟨I', h8, hi8, _⟩, b8, o8, _⟩
 have H8 := Lib.hid (h8.widen hi8 (hi8 q h8.qi))
 have B8 := Lib.hid (B7.out.trans b8 fun j _ hj => HI1.out.1 j hj)
 have O8 := Lib.hid o8
 have K8 := Lib.hid (show k4 ≤ k + 5 by have := K7.out; omega)
 have T8 := Lib.hid (T7.out.btw b8 HI1.out.2)
 clear h8 hi8 b8 o8 hk4 HC B7 T7 K7
 by_cases he : Y.e = 0
 rotate_left
 ·
  obtain rfl := hno he
  clear hyes hno
  obtain ⟨y, hy⟩ : ∃ y, y = Y.e := ⟨_, rfl⟩
  rw [← hy] at he HP2 ⊢
  clear hy
  have b0 : (y == 0) = false := by rw [beq_eq_false_iff_ne]; exact he
  have n0 : (y != 0) = true := by simp [he]
  have j0 : (y = 0) = False := eq_false he
  have dd0 : decide (y = 0) = false := decide_eq_false he
  have HE := Lib.hid (HP2.out.trans (if_neg he))
  have HN := Lib.hid he
  clear he
  go_wp2_with (with_reducible refine (?_ : wpList _ _ _ ({ dst := _, op := Op.store 23 _ _, type := _, pos := _, after := _, guard := _ } :: _) _ _); refine wpList_store_at rfl 23 _ _ rfl 7 size_geomA _ w.heap.size ?hx rfl _ T8.out.row rfl rfl (by simp [Value.oneCell']) ?_; (case hx => simp [Act.eval]))
  have T9 := Lib.hid (T8.out.set #[.int .i64 0, .int .i64 0, .int .i64 0, .int .i64 0, .int .i64 0, .int .i64 0, .int .i64 0])
  go_wp2
  refine bodyPost_ret (res_cell_tmp rfl _ _ w.heap.size 23 _ (0, 0) _ rfl T9.out.row Tryz.underlying23 rfl size_geomA) rfl ?_
  rw [HE.out]
  exact ⟨_, K8.out, rfl, H8.out.done HI1.out.2 HI1.out.1 #[.int .i64 0, .int .i64 0, .int .i64 0, .int .i64 0, .int .i64 0, .int .i64 0, .int .i64 0], B8.out.setRow HIB.out, fun h => (O8.out h).more (by omega)⟩
 obtain ⟨rfl, hown, r8⟩ := hyes he
 have HP3 := Lib.hid (HP2.out.trans (if_pos he))
 have hcap := own_cap hown
 have HTK := Lib.hid (idTake_any A 14 d _ w8 r8 (by omega) hcap)
 obtain ⟨o, hoo⟩ : ∃ o, o = tkgG (since 1 L2 Y.l) := ⟨_, rfl⟩
 obtain ⟨E, hE⟩ : ∃ E, E = tkgE (since 1 L2 Y.l) := ⟨_, rfl⟩
 rw [← hoo, ← hE] at HTK HP3
 clear hoo hE he hyes hno hown r8 hcap HP2
 simp only [Gm.val] at HTK
 go_wp2_with fail
 refine HTK.out.mono ?_
 rintro _ w9 ⟨rfl, h9⟩
 have H9 := Lib.hid (H8.out.below h9)
 have B9 := Lib.hid (B8.out.trans (Btw.of_below (I := I) h9) fun _ _ h => h)
 have T9' := Lib.hid (T8.out.below h9)
 clear h9 H8 B8 T8 HTK
 go_wp2_with (with_reducible refine (?_ : wpList _ _ _ ({ dst := _, op := Op.store 23 _ _, type := _, pos := _, after := _, guard := _ } :: _) _ _); refine wpList_store_at rfl 23 _ _ rfl 7 size_geomA _ w.heap.size ?hx rfl _ T9'.out.row rfl rfl (by simp [Value.oneCell']) ?_; (case hx => simp [Act.eval]))
 have T9 := Lib.hid (T9'.out.set #[.int .i64 o.p, .int .i64 o.b, .int .i64 o.s, .int .i64 o.c, .int .i64 o.k, .int .i64 o.r, .int .i64 o.q])
 go_wp2
 refine bodyPost_ret (res_cell_tmp rfl _ _ w.heap.size 23 _ (0, 0) _ rfl T9.out.row Tryz.underlying23 rfl size_geomA) rfl ?_
 rw [HP3.out]
 exact ⟨_, K8.out, rfl, H9.out.done HI1.out.2 HI1.out.1 #[.int .i64 o.p, .int .i64 o.b, .int .i64 o.s, .int .i64 o.c, .int .i64 o.k, .int .i64 o.r, .int .i64 o.q], B9.out.setRow HIB.out, fun h => (O8.out h).more (by omega)⟩
end
theorem nameB_is (o : Gm) : nameB o = [73, 78, (o.p % 256).toNat, (o.r % 256).toNat, (o.q % 256).toNat] := rfl
theorem name_cells (o : Gm) : (#[Value.int .u8 73, .int .u8 78, .int .u8 (o.p % 256), .int .u8 (o.r % 256), .int .u8 (o.q % 256)] : Array Value) = (U8 (nameB o)).toArray := by
 have e1 : (((o.p % 256).toNat : Nat) : Int) = o.p % 256 := by omega
 have e2 : (((o.r % 256).toNat : Nat) : Int) = o.r % 256 := by omega
 have e3 : (((o.q % 256).toNat : Nat) : Int) = o.q % 256 := by omega
 rw [nameB_is]
 show _ = #[Value.int .u8 73, .int .u8 78, .int .u8 (((o.p % 256).toNat : Nat) : Int), .int .u8 (((o.r % 256).toNat : Nat) : Int), .int .u8 (((o.q % 256).toNat : Nat) : Int)]
 rw [e1, e2, e3]
theorem r8_new (w : World) (l : List Nat) (h : ∀ x ∈ l, x < 256) (t : TypeId) : R8 (w.alloc (.cells (U8 l).toArray t)) (some ⟨w.heap.size, 0, none⟩) l.length l := by
 refine ⟨⟨by rw [U8_length], fun _ => ⟨w.heap.size, 0, rfl, by simp, fun j hj => ?_⟩⟩, h⟩
 rw [Nat.zero_add, (CRow.new w (U8 l).toArray t).cell j, List.getElem?_toArray]
theorem nameB_lt (o : Gm) : ∀ x ∈ nameB o, x < 256 := by
 intro x hx
 rw [nameB_is] at hx
 simp only [List.mem_cons, List.not_mem_nil, or_false] at hx
 omega
set_option maxHeartbeats 1000000 in
theorem identification_any (o : Gm) (w : World) : Calls Tryz.prog 29 #[o.val] w (MakesB (nameB o) w) := by
 have HN := Lib.hid (name_cells o)
 have HR := Lib.hid (r8_new (w.alloc (.cells #[.int .i64 o.p, .int .i64 o.b, .int .i64 o.s, .int .i64 o.c, .int .i64 o.k, .int .i64 o.r, .int .i64 o.q] 23)) (nameB o) (nameB_lt o) 5)
 have HB := Lib.hid (below_step (below_new w (.cells #[.int .i64 o.p, .int .i64 o.b, .int .i64 o.s, .int .i64 o.c, .int .i64 o.k, .int .i64 o.r, .int .i64 o.q] 23)) (below_new _ (.cells #[Value.int .u8 73, .int .u8 78, .int .u8 (o.p % 256), .int .u8 (o.r % 256), .int .u8 (o.q % 256)] 5)))
 rw [← HN.out] at HR
 clear HN
 simp only [Gm.val]
 go_enter Tryz.func29, Tryz.ntmps29
 go_wp2
 go_ret
 exact ⟨some ⟨w.heap.size + 1, 0, none⟩, 5, rfl, by simpa using HR.out, HB.out⟩
theorem first_diff {a b : Gm} (h : a ≠ b) : a.p ≠ b.p ∨ (a.p = b.p ∧ a.b ≠ b.b) ∨ (a.p = b.p ∧ a.b = b.b ∧ a.s ≠ b.s) ∨ (a.p = b.p ∧ a.b = b.b ∧ a.s = b.s ∧ a.c ≠ b.c) ∨ (a.p = b.p ∧ a.b = b.b ∧ a.s = b.s ∧ a.c = b.c ∧ a.k ≠ b.k) ∨ (a.p = b.p ∧ a.b = b.b ∧ a.s = b.s ∧ a.c = b.c ∧ a.k = b.k ∧ a.r ≠ b.r) ∨ (a.p = b.p ∧ a.b = b.b ∧ a.s = b.s ∧ a.c = b.c ∧ a.k = b.k ∧ a.r = b.r ∧ a.q ≠ b.q) := by
 obtain ⟨p, b', s, c, k, r, q⟩ := a
 obtain ⟨p2, b2, s2, c2, k2, r2, q2⟩ := b
 have h2 : ¬ (p = p2 ∧ b' = b2 ∧ s = s2 ∧ c = c2 ∧ k = k2 ∧ r = r2 ∧ q = q2) := fun e => h (by obtain ⟨rfl, rfl, rfl, rfl, rfl, rfl, rfl⟩ := e; rfl)
 simp only
 omega
section
variable {I I1 : Nat → Prop} {w : World} {q p r : Nat} {g o : Gm} {s : Sc} {c : Ch} {L : List Cy} {k : Nat}
def ChkIs (I : Nat → Prop) (q p r : Nat) (g : Gm) (s : Sc) (c : Ch) (L : List Cy) (k Q : Nat) (o : Gm) (n : Nat) (w : World) (e : Ending) (w' : World) : Prop :=
 ∃ k', k' ≤ k + 8 ∧ e = .returned (.int .i64 (chkW g s c L o n).1) ∧ Wi I w' q p r g s (chkW g s c L o n).2.1 (chkW g s c L o n).2.2 k' ∧ Btw I w w' ∧ ((chkW g s c L o n).2.1.on = true → Okc g (Q + n + 25) (chkW g s c L o n).2.1)
set_option maxHeartbeats 16000000 in
theorem Chk_any {Q : Nat} (n : Nat) (hn1 : 1 ≤ n) (hn2 : n ≤ 65536) (hQ : Q + n + 25 ≤ 100000) (hs : SG g s) (ho : c.on = true → Okc g Q c) (hL : L.length + n + 25 ≤ 100000) (hk : k < 980) (h : Wi I w q p r g s c L k) :
  Calls Tryz.prog 10 #[.pointer (some ⟨q, 0, none⟩), o.val, .int .i64 (n : Int)] w (ChkIs I q p r g s c L k Q o n w) := by
 obtain ⟨I1, h1, hi1, hni⟩ := h.apart (.cells #[.int .i64 o.p, .int .i64 o.b, .int .i64 o.s, .int .i64 o.c, .int .i64 o.k, .int .i64 o.r, .int .i64 o.q] 23)
 have HI1 := Lib.hid (And.intro hi1 hni)
 have S0 := Lib.hid (CRow.new w #[.int .i64 o.p, .int .i64 o.b, .int .i64 o.s, .int .i64 o.c, .int .i64 o.k, .int .i64 o.r, .int .i64 o.q] 23)
 have B0 := Lib.hid (Btw.of_below (I := I) (below_new w (.cells #[.int .i64 o.p, .int .i64 o.b, .int .i64 o.s, .int .i64 o.c, .int .i64 o.k, .int .i64 o.r, .int .i64 o.q] 23)))
 have H0 := Lib.hid h1
 have HS := Lib.hid hs
 have HO := Lib.hid ho
 have HK := Lib.hid hk
 have HQQ := Lib.hid hQ
 have HLL := Lib.hid hL
 have HN1 := Lib.hid (And.intro hn1 hn2)
 have HCN := Lib.hid (fun (h : o.ok = false) W => Check_no o h W)
 have HCY := Lib.hid (fun (h : o.ok = true) W => Check_yes o h W)
 have HID := Lib.hid (fun W => identification_any o W)
 have HV0 := Lib.hid (show chkW g s c L o n = if o.ok = true then (if (runW g s c L nameL).e = 0 then (if since 2 L (runW g s c L nameL).l = nameB o then ((if (parW g s (runW g s c L nameL).c (runW g s c L nameL).l n).2.1 = 0 then (if (parW g s (runW g s c L nameL).c (runW g s c L nameL).l n).1 = o then 0 else 23) else (parW g s (runW g s c L nameL).c (runW g s c L nameL).l n).2.1), (parW g s (runW g s c L nameL).c (runW g s c L nameL).l n).2.2) else (23, (runW g s c L nameL).c, (runW g s c L nameL).l)) else ((runW g s c L nameL).e, (runW g s c L nameL).c, (runW g s c L nameL).l)) else (2, c, L) from rfl)
 unfold ChkIs
 obtain ⟨V, hV⟩ : ∃ V, V = chkW g s c L o n := ⟨_, rfl⟩
 rw [← hV] at HV0 ⊢
 clear hV h h1 hi1 hni hs ho hk hQ hL hn1 hn2
 simp only [Gm.val] at HCN HCY HID ⊢
 by_cases hok : o.ok = true
 rotate_left
 ·
  have HC := Lib.hid (HCN.out (by simpa using hok))
  have HE := Lib.hid (HV0.out.trans (if_neg hok))
  clear HCN HCY HV0 hok HID
  go_enter Tryz.func10, Tryz.ntmps10
  go_wp2_with fail
  refine (HC.out _).mono ?_
  rintro _ w1 ⟨rfl, h1⟩
  have H1 := Lib.hid (H0.out.below h1)
  have B1 := Lib.hid (B0.out.trans (Btw.of_below (I := I) h1) fun _ _ h => h)
  clear h1 H0 B0 S0 HC
  go_wp2
  go_ret
  rw [HE.out]
  exact ⟨_, Nat.le_add_right _ _, rfl, H1.out.widen HI1.out.1 (HI1.out.1 q H1.out.qi), B1.out, fun h => (HO.out h).more (by omega)⟩
 have HC0 := Lib.hid (HCY.out hok)
 have HV1 := Lib.hid (HV0.out.trans (if_pos hok))
 clear HCN HCY HV0 hok
 go_enter Tryz.func10, Tryz.ntmps10
 go_wp2_with fail
 refine (HC0.out _).mono ?_
 rintro _ w1 ⟨rfl, h1⟩
 have H1 := Lib.hid (H0.out.below h1)
 have B1 := Lib.hid (B0.out.trans (Btw.of_below (I := I) h1) fun _ _ h => h)
 have S1 := Lib.hid (S0.out.below h1)
 clear h1 H0 B0 S0 HC0
 have HC := Lib.hid (ID_any (Q := Q) (by have := HQQ.out; omega) HS.out HO.out (by have := HLL.out; omega) (by have := HK.out; omega) H1.out)
 have HLN := Lib.hid ((runW_len (g := g) (s := s) (c := c) (L := L) (ts := nameL)).1)
 unfold IDIs at HC
 obtain ⟨z, hz⟩ : ∃ z, z = runW g s c L nameL := ⟨_, rfl⟩
 rw [← hz] at HC HV1 HLN
 obtain ⟨e, c1, L1⟩ := z
 simp only at HC HV1 HLN
 have HL1 := Lib.hid (show L1.length + n + 18 ≤ 100000 by have h9 : L1.length ≤ L.length + 7 := HLN.out; have := HLL.out; omega)
 clear hz HLN H1 HO
 go_wp2_with fail
 refine HC.out.mono ?_
 rintro ee w2 ⟨k2, A, d, I2, hk2, hyes, hno, h2, hi2, b2, o2, _⟩
 have H2 := Lib.hid h2
 have HI2 := Lib.hid (fun j hj => HI1.out.1 j (hi2 j hj))
 have HNI2 := Lib.hid (fun hj => HI1.out.2 (hi2 _ hj))
 have B2 := Lib.hid (B1.out.trans b2 fun j _ hj => HI1.out.1 j hj)
 have O2 := Lib.hid o2
 have K2 := Lib.hid hk2
 have S2 := Lib.hid (S1.out.btw b2 HI1.out.2)
 clear h2 hi2 b2 o2 hk2 HC B1 S1
 by_cases he : e = 0
 rotate_left
 ·
  obtain rfl := hno he
  have HE := Lib.hid (HV1.out.trans (if_neg he))
  clear hyes hno
  have b0 : (e == 0) = false := by rw [beq_eq_false_iff_ne]; exact he
  have n0 : (e != 0) = true := by simp [he]
  have j0 : (e = 0) = False := eq_false he
  have dd0 : decide (e = 0) = false := decide_eq_false he
  clear he HV1 HID
  go_wp2
  go_ret
  rw [HE.out]
  exact ⟨_, by have := K2.out; omega, rfl, H2.out.widen HI2.out (HI2.out q H2.out.qi), B2.out, fun h => (O2.out h).more (by omega)⟩
 subst he
 obtain ⟨rfl, r8, _⟩ := hyes rfl
 have R2 := Lib.hid r8
 have HV2 := Lib.hid (HV1.out.trans (if_pos rfl))
 clear hyes hno r8 HV1
 obtain ⟨a, ha⟩ : ∃ a, a = since 2 L L1 := ⟨_, rfl⟩
 rw [← ha] at R2 HV2
 clear ha
 have x0 := S2.out.cell_at 0 (.int .i64 o.p) rfl
 have x1 := S2.out.cell_at 1 (.int .i64 o.b) rfl
 have x2 := S2.out.cell_at 2 (.int .i64 o.s) rfl
 have x3 := S2.out.cell_at 3 (.int .i64 o.c) rfl
 have x4 := S2.out.cell_at 4 (.int .i64 o.k) rfl
 have x5 := S2.out.cell_at 5 (.int .i64 o.r) rfl
 have x6 := S2.out.cell_at 6 (.int .i64 o.q) rfl
 go_wp2_with fail
 refine (HID.out _).mono ?_
 rintro _ w3 hM
 obtain ⟨A3, d3, rfl, r3, h3⟩ := hM.at_ (n := 5) rfl
 have H3 := Lib.hid (H2.out.below h3.out)
 have B3 := Lib.hid (B2.out.trans (Btw.of_below (I := I) h3.out) fun _ _ h => h)
 have S3 := Lib.hid (S2.out.below h3.out)
 have HEQ := Lib.hid (Equal_any A A3 5 d 5 d3 a (nameB o) w3 (R2.out.below h3.out) r3.out)
 clear hM h3 r3 H2 B2 S2 R2 HID
 clear x0 x1 x2 x3 x4 x5 x6
 by_cases hab : a = nameB o
 rotate_left
 ·
  have HE := Lib.hid (HV2.out.trans (if_neg hab))
  rw [decide_eq_false hab] at HEQ
  clear hab HV2
  go_wp2_with fail
  refine HEQ.out.mono ?_
  rintro _ _ ⟨rfl, rfl⟩
  clear HEQ
  go_wp2
  go_ret
  rw [HE.out]
  exact ⟨_, by have := K2.out; omega, rfl, H3.out.widen HI2.out (HI2.out q H3.out.qi), B3.out, fun h => (O2.out h).more (by omega)⟩
 have HV3 := Lib.hid (HV2.out.trans (if_pos hab))
 rw [decide_eq_true hab] at HEQ
 clear hab HV2
 have HC := Lib.hid (Par_any (Q := Q + 7) n HN1.out.1 HN1.out.2 (by have := HQQ.out; omega) HS.out O2.out (by have := HL1.out; omega) (by have := K2.out; have := HK.out; omega) H3.out)
 unfold ParIs at HC
 obtain ⟨z, hz⟩ : ∃ z, z = parW g s c1 L1 n := ⟨_, rfl⟩
 rw [← hz] at HC HV3
 obtain ⟨t, e2, c2, L2⟩ := z
 simp only [Gm.val] at HC HV3
 clear hz O2 H3
 go_wp2_with fail
 refine HEQ.out.mono ?_
 rintro _ _ ⟨rfl, rfl⟩
 clear HEQ
 go_wp2_with fail
 refine HC.out.mono ?_
 rintro _ w5 ⟨k5, hk5, rfl, h5, b5, o5⟩
 have B5 := Lib.hid (B3.out.trans b5 fun j _ hj => HI2.out j hj)
 have O5 := Lib.hid o5
 have K5 := Lib.hid (show k5 ≤ k + 8 by have := K2.out; omega)
 have S5 := Lib.hid (S3.out.btw b5 HNI2.out)
 obtain ⟨I6, h6, hi6, hn6⟩ := h5.apart (.cells #[.int .i64 0, .int .i64 0, .int .i64 0, .int .i64 0, .int .i64 0, .int .i64 0, .int .i64 0] 23)
 have W6 := Lib.hid (below_new w5 (.cells #[.int .i64 0, .int .i64 0, .int .i64 0, .int .i64 0, .int .i64 0, .int .i64 0, .int .i64 0] 23))
 have T6 := Lib.hid (CRow.new w5 #[.int .i64 0, .int .i64 0, .int .i64 0, .int .i64 0, .int .i64 0, .int .i64 0, .int .i64 0] 23)
 have S6 := Lib.hid (S5.out.below W6.out)
 have hne : w.heap.size ≠ w5.heap.size := Nat.ne_of_lt S5.out.lt
 have T7 := Lib.hid (T6.out.set #[.int .i64 t.p, .int .i64 t.b, .int .i64 t.s, .int .i64 t.c, .int .i64 t.k, .int .i64 t.r, .int .i64 t.q])
 have S7 := Lib.hid (S6.out.other (g' := w5.heap.size) (cs' := #[.int .i64 t.p, .int .i64 t.b, .int .i64 t.s, .int .i64 t.c, .int .i64 t.k, .int .i64 t.r, .int .i64 t.q]) hne)
 have H7 := Lib.hid (h6.done (I := I2) hn6 hi6 #[.int .i64 t.p, .int .i64 t.b, .int .i64 t.s, .int .i64 t.c, .int .i64 t.k, .int .i64 t.r, .int .i64 t.q])
 have B7 := Lib.hid ((B5.out.trans (Btw.of_below (I := I) W6.out) fun _ _ h => h).setRow (g := w5.heap.size) (cs := #[.int .i64 t.p, .int .i64 t.b, .int .i64 t.s, .int .i64 t.c, .int .i64 t.k, .int .i64 t.r, .int .i64 t.q]) (HI2.out _ (h5.new_ _ (Nat.le_refl _))))
 clear h5 b5 o5 hk5 HC B3 S3 h6 hi6 hn6 W6 S5 S6 B5
 obtain ⟨w7, hw7⟩ : ∃ w7, w7 = ((w5.alloc (.cells #[.int .i64 0, .int .i64 0, .int .i64 0, .int .i64 0, .int .i64 0, .int .i64 0, .int .i64 0] 23)).setRow w5.heap.size #[.int .i64 t.p, .int .i64 t.b, .int .i64 t.s, .int .i64 t.c, .int .i64 t.k, .int .i64 t.r, .int .i64 t.q]) := ⟨_, rfl⟩
 have HW7 := Lib.hid hw7.symm
 rw [← hw7] at T7 S7 H7 B7
 clear hw7
 by_cases he : e2 = 0
 rotate_left
 ·
  have HE := Lib.hid (HV3.out.trans (by rw [if_neg he]))
  skip
  have b0 : (e2 == 0) = false := by rw [beq_eq_false_iff_ne]; exact he
  have n0 : (e2 != 0) = true := by simp [he]
  have j0 : (e2 = 0) = False := eq_false he
  have dd0 : decide (e2 = 0) = false := decide_eq_false he
  clear he HV3
  go_wp2_with (with_reducible refine (?_ : wpList _ _ _ ({ dst := _, op := Op.store 23 _ _, type := _, pos := _, after := _, guard := _ } :: _) _ _); refine wpList_store_at rfl 23 _ _ rfl 7 size_geomA _ w5.heap.size ?hx rfl _ T6.out.row rfl rfl (by simp [Value.oneCell']) ?_; (case hx => simp [Act.eval]))
  rw [HW7.out]
  clear HW7 T6
  try go_wp2
  go_ret
  rw [HE.out]
  exact ⟨_, K5.out, rfl, H7.out.widen HI2.out (HI2.out q H7.out.qi), B7.out, fun h => (O5.out h).more (by omega)⟩
 subst he
 rw [if_pos rfl] at HV3
 have x0 := T7.out.cell_at 0 (.int .i64 t.p) rfl
 have x1 := T7.out.cell_at 1 (.int .i64 t.b) rfl
 have x2 := T7.out.cell_at 2 (.int .i64 t.s) rfl
 have x3 := T7.out.cell_at 3 (.int .i64 t.c) rfl
 have x4 := T7.out.cell_at 4 (.int .i64 t.k) rfl
 have x5 := T7.out.cell_at 5 (.int .i64 t.r) rfl
 have x6 := T7.out.cell_at 6 (.int .i64 t.q) rfl
 have y0 := S7.out.cell_at 0 (.int .i64 o.p) rfl
 have y1 := S7.out.cell_at 1 (.int .i64 o.b) rfl
 have y2 := S7.out.cell_at 2 (.int .i64 o.s) rfl
 have y3 := S7.out.cell_at 3 (.int .i64 o.c) rfl
 have y4 := S7.out.cell_at 4 (.int .i64 o.k) rfl
 have y5 := S7.out.cell_at 5 (.int .i64 o.r) rfl
 have y6 := S7.out.cell_at 6 (.int .i64 o.q) rfl
 rw [← HW7.out] at x0 y0 x1 y1 x2 y2 x3 y3 x4 y4 x5 y5 x6 y6
 by_cases hto : t = o
 rotate_left
 ·
  have HE := Lib.hid (HV3.out.trans (by rw [if_neg hto]))
  rcases first_diff hto with hd | ⟨e1, hd⟩ | ⟨e1, e2, hd⟩ | ⟨e1, e2, e3, hd⟩ | ⟨e1, e2, e3, e4, hd⟩ | ⟨e1, e2, e3, e4, e5, hd⟩ | ⟨e1, e2, e3, e4, e5, e6, hd⟩
  ·
   clear hto HV3
   have q1 : (t.p == o.p) = false := by rw [beq_eq_false_iff_ne]; exact hd
   have q2 : decide (t.p = o.p) = false := decide_eq_false hd
   have q3 : (t.p = o.p) = False := eq_false hd
   go_wp2_with (with_reducible refine (?_ : wpList _ _ _ ({ dst := _, op := Op.store 23 _ _, type := _, pos := _, after := _, guard := _ } :: _) _ _); refine wpList_store_at rfl 23 _ _ rfl 7 size_geomA _ w5.heap.size ?hx rfl _ T6.out.row rfl rfl (by simp [Value.oneCell']) ?_; (case hx => simp [Act.eval]))
   try rw [HW7.out]
   clear HW7 T6 x0 y0 x1 y1 x2 y2 x3 y3 x4 y4 x5 y5 x6 y6
   try go_wp2
   go_ret
   rw [HE.out]
   exact ⟨_, K5.out, rfl, H7.out.widen HI2.out (HI2.out q H7.out.qi), B7.out, fun h => (O5.out h).more (by omega)⟩
  ·
   clear hto HV3
   have u0 : (t.p == o.p) = true := by rw [e1]; simp
   have v0 : decide (t.p = o.p) = true := decide_eq_true e1
   have z0 : (t.p = o.p) = True := eq_true e1
   clear e1
   have q1 : (t.b == o.b) = false := by rw [beq_eq_false_iff_ne]; exact hd
   have q2 : decide (t.b = o.b) = false := decide_eq_false hd
   have q3 : (t.b = o.b) = False := eq_false hd
   go_wp2_with (with_reducible refine (?_ : wpList _ _ _ ({ dst := _, op := Op.store 23 _ _, type := _, pos := _, after := _, guard := _ } :: _) _ _); refine wpList_store_at rfl 23 _ _ rfl 7 size_geomA _ w5.heap.size ?hx rfl _ T6.out.row rfl rfl (by simp [Value.oneCell']) ?_; (case hx => simp [Act.eval]))
   try rw [HW7.out]
   clear HW7 T6 x0 y0 x1 y1 x2 y2 x3 y3 x4 y4 x5 y5 x6 y6
   try go_wp2
   go_ret
   rw [HE.out]
   exact ⟨_, K5.out, rfl, H7.out.widen HI2.out (HI2.out q H7.out.qi), B7.out, fun h => (O5.out h).more (by omega)⟩
  ·
   clear hto HV3
   have u0 : (t.p == o.p) = true := by rw [e1]; simp
   have v0 : decide (t.p = o.p) = true := decide_eq_true e1
   have z0 : (t.p = o.p) = True := eq_true e1
   clear e1
   have u1 : (t.b == o.b) = true := by rw [e2]; simp
   have v1 : decide (t.b = o.b) = true := decide_eq_true e2
   have z1 : (t.b = o.b) = True := eq_true e2
   clear e2
   have q1 : (t.s == o.s) = false := by rw [beq_eq_false_iff_ne]; exact hd
   have q2 : decide (t.s = o.s) = false := decide_eq_false hd
   have q3 : (t.s = o.s) = False := eq_false hd
   go_wp2_with (with_reducible refine (?_ : wpList _ _ _ ({ dst := _, op := Op.store 23 _ _, type := _, pos := _, after := _, guard := _ } :: _) _ _); refine wpList_store_at rfl 23 _ _ rfl 7 size_geomA _ w5.heap.size ?hx rfl _ T6.out.row rfl rfl (by simp [Value.oneCell']) ?_; (case hx => simp [Act.eval]))
   try rw [HW7.out]
   clear HW7 T6 x0 y0 x1 y1 x2 y2 x3 y3 x4 y4 x5 y5 x6 y6
   try go_wp2
   go_ret
   rw [HE.out]
   exact ⟨_, K5.out, rfl, H7.out.widen HI2.out (HI2.out q H7.out.qi), B7.out, fun h => (O5.out h).more (by omega)⟩
  ·
   clear hto HV3
   have u0 : (t.p == o.p) = true := by rw [e1]; simp
   have v0 : decide (t.p = o.p) = true := decide_eq_true e1
   have z0 : (t.p = o.p) = True := eq_true e1
   clear e1
   have u1 : (t.b == o.b) = true := by rw [e2]; simp
   have v1 : decide (t.b = o.b) = true := decide_eq_true e2
   have z1 : (t.b = o.b) = True := eq_true e2
   clear e2
   have u2 : (t.s == o.s) = true := by rw [e3]; simp
   have v2 : decide (t.s = o.s) = true := decide_eq_true e3
   have z2 : (t.s = o.s) = True := eq_true e3
   clear e3
   have q1 : (t.c == o.c) = false := by rw [beq_eq_false_iff_ne]; exact hd
   have q2 : decide (t.c = o.c) = false := decide_eq_false hd
   have q3 : (t.c = o.c) = False := eq_false hd
   go_wp2_with (with_reducible refine (?_ : wpList _ _ _ ({ dst := _, op := Op.store 23 _ _, type := _, pos := _, after := _, guard := _ } :: _) _ _); refine wpList_store_at rfl 23 _ _ rfl 7 size_geomA _ w5.heap.size ?hx rfl _ T6.out.row rfl rfl (by simp [Value.oneCell']) ?_; (case hx => simp [Act.eval]))
   try rw [HW7.out]
   clear HW7 T6 x0 y0 x1 y1 x2 y2 x3 y3 x4 y4 x5 y5 x6 y6
   try go_wp2
   go_ret
   rw [HE.out]
   exact ⟨_, K5.out, rfl, H7.out.widen HI2.out (HI2.out q H7.out.qi), B7.out, fun h => (O5.out h).more (by omega)⟩
  ·
   clear hto HV3
   have u0 : (t.p == o.p) = true := by rw [e1]; simp
   have v0 : decide (t.p = o.p) = true := decide_eq_true e1
   have z0 : (t.p = o.p) = True := eq_true e1
   clear e1
   have u1 : (t.b == o.b) = true := by rw [e2]; simp
   have v1 : decide (t.b = o.b) = true := decide_eq_true e2
   have z1 : (t.b = o.b) = True := eq_true e2
   clear e2
   have u2 : (t.s == o.s) = true := by rw [e3]; simp
   have v2 : decide (t.s = o.s) = true := decide_eq_true e3
   have z2 : (t.s = o.s) = True := eq_true e3
   clear e3
   have u3 : (t.c == o.c) = true := by rw [e4]; simp
   have v3 : decide (t.c = o.c) = true := decide_eq_true e4
   have z3 : (t.c = o.c) = True := eq_true e4
   clear e4
   have q1 : (t.k == o.k) = false := by rw [beq_eq_false_iff_ne]; exact hd
   have q2 : decide (t.k = o.k) = false := decide_eq_false hd
   have q3 : (t.k = o.k) = False := eq_false hd
   go_wp2_with (with_reducible refine (?_ : wpList _ _ _ ({ dst := _, op := Op.store 23 _ _, type := _, pos := _, after := _, guard := _ } :: _) _ _); refine wpList_store_at rfl 23 _ _ rfl 7 size_geomA _ w5.heap.size ?hx rfl _ T6.out.row rfl rfl (by simp [Value.oneCell']) ?_; (case hx => simp [Act.eval]))
   try rw [HW7.out]
   clear HW7 T6 x0 y0 x1 y1 x2 y2 x3 y3 x4 y4 x5 y5 x6 y6
   try go_wp2
   go_ret
   rw [HE.out]
   exact ⟨_, K5.out, rfl, H7.out.widen HI2.out (HI2.out q H7.out.qi), B7.out, fun h => (O5.out h).more (by omega)⟩
  ·
   clear hto HV3
   have u0 : (t.p == o.p) = true := by rw [e1]; simp
   have v0 : decide (t.p = o.p) = true := decide_eq_true e1
   have z0 : (t.p = o.p) = True := eq_true e1
   clear e1
   have u1 : (t.b == o.b) = true := by rw [e2]; simp
   have v1 : decide (t.b = o.b) = true := decide_eq_true e2
   have z1 : (t.b = o.b) = True := eq_true e2
   clear e2
   have u2 : (t.s == o.s) = true := by rw [e3]; simp
   have v2 : decide (t.s = o.s) = true := decide_eq_true e3
   have z2 : (t.s = o.s) = True := eq_true e3
   clear e3
   have u3 : (t.c == o.c) = true := by rw [e4]; simp
   have v3 : decide (t.c = o.c) = true := decide_eq_true e4
   have z3 : (t.c = o.c) = True := eq_true e4
   clear e4
   have u4 : (t.k == o.k) = true := by rw [e5]; simp
   have v4 : decide (t.k = o.k) = true := decide_eq_true e5
   have z4 : (t.k = o.k) = True := eq_true e5
   clear e5
   have q1 : (t.r == o.r) = false := by rw [beq_eq_false_iff_ne]; exact hd
   have q2 : decide (t.r = o.r) = false := decide_eq_false hd
   have q3 : (t.r = o.r) = False := eq_false hd
   go_wp2_with (with_reducible refine (?_ : wpList _ _ _ ({ dst := _, op := Op.store 23 _ _, type := _, pos := _, after := _, guard := _ } :: _) _ _); refine wpList_store_at rfl 23 _ _ rfl 7 size_geomA _ w5.heap.size ?hx rfl _ T6.out.row rfl rfl (by simp [Value.oneCell']) ?_; (case hx => simp [Act.eval]))
   try rw [HW7.out]
   clear HW7 T6 x0 y0 x1 y1 x2 y2 x3 y3 x4 y4 x5 y5 x6 y6
   try go_wp2
   go_ret
   rw [HE.out]
   exact ⟨_, K5.out, rfl, H7.out.widen HI2.out (HI2.out q H7.out.qi), B7.out, fun h => (O5.out h).more (by omega)⟩
  ·
   clear hto HV3
   have u0 : (t.p == o.p) = true := by rw [e1]; simp
   have v0 : decide (t.p = o.p) = true := decide_eq_true e1
   have z0 : (t.p = o.p) = True := eq_true e1
   clear e1
   have u1 : (t.b == o.b) = true := by rw [e2]; simp
   have v1 : decide (t.b = o.b) = true := decide_eq_true e2
   have z1 : (t.b = o.b) = True := eq_true e2
   clear e2
   have u2 : (t.s == o.s) = true := by rw [e3]; simp
   have v2 : decide (t.s = o.s) = true := decide_eq_true e3
   have z2 : (t.s = o.s) = True := eq_true e3
   clear e3
   have u3 : (t.c == o.c) = true := by rw [e4]; simp
   have v3 : decide (t.c = o.c) = true := decide_eq_true e4
   have z3 : (t.c = o.c) = True := eq_true e4
   clear e4
   have u4 : (t.k == o.k) = true := by rw [e5]; simp
   have v4 : decide (t.k = o.k) = true := decide_eq_true e5
   have z4 : (t.k = o.k) = True := eq_true e5
   clear e5
   have u5 : (t.r == o.r) = true := by rw [e6]; simp
   have v5 : decide (t.r = o.r) = true := decide_eq_true e6
   have z5 : (t.r = o.r) = True := eq_true e6
   clear e6
   have q1 : (t.q == o.q) = false := by rw [beq_eq_false_iff_ne]; exact hd
   have q2 : decide (t.q = o.q) = false := decide_eq_false hd
   have q3 : (t.q = o.q) = False := eq_false hd
   go_wp2_with (with_reducible refine (?_ : wpList _ _ _ ({ dst := _, op := Op.store 23 _ _, type := _, pos := _, after := _, guard := _ } :: _) _ _); refine wpList_store_at rfl 23 _ _ rfl 7 size_geomA _ w5.heap.size ?hx rfl _ T6.out.row rfl rfl (by simp [Value.oneCell']) ?_; (case hx => simp [Act.eval]))
   try rw [HW7.out]
   clear HW7 T6 x0 y0 x1 y1 x2 y2 x3 y3 x4 y4 x5 y5 x6 y6
   try go_wp2
   go_ret
   rw [HE.out]
   exact ⟨_, K5.out, rfl, H7.out.widen HI2.out (HI2.out q H7.out.qi), B7.out, fun h => (O5.out h).more (by omega)⟩
 ·
  have HE := Lib.hid (HV3.out.trans (by rw [if_pos hto]))
  subst hto
  clear HV3
  go_wp2_with (with_reducible refine (?_ : wpList _ _ _ ({ dst := _, op := Op.store 23 _ _, type := _, pos := _, after := _, guard := _ } :: _) _ _); refine wpList_store_at rfl 23 _ _ rfl 7 size_geomA _ w5.heap.size ?hx rfl _ T6.out.row rfl rfl (by simp [Value.oneCell']) ?_; (case hx => simp [Act.eval]))
  try rw [HW7.out]
  clear HW7 T6 x0 y0 x1 y1 x2 y2 x3 y3 x4 y4 x5 y5 x6 y6
  try go_wp2
  go_ret
  rw [HE.out]
  exact ⟨_, K5.out, rfl, H7.out.widen HI2.out (HI2.out q H7.out.qi), B7.out, fun h => (O5.out h).more (by omega)⟩
end
section
variable {g o : Gm} {s : Sc} {c : Ch} {L : List Cy} {n : Nat}
theorem Lg.take_ {j : Jd} {l : List Cy} (h : Lg g j l) (k : Nat) : Lg g j (l.take k) := by
 have h2 : Lg g j (l.take k ++ l.drop k) := by rw [List.take_append_drop]; exact h
 exact Lg.pre h2
def Jn (g : Gm) (j : Jd) : Prop := ∃ co, Lg g j (askL 144) ∧ jx g j (askL 144) = jW 2 [0] 0 false false false co
theorem Jn.one {co : Nat} : Jn g (jW 1 [] 0 false true false co) := ⟨co, l_name⟩
theorem Jn.two {k co : Nat} : Jn g (jW 2 [0] k false false false co) := ⟨co, l_name2⟩
theorem Jn.six {co : Nat} : Jn g (jW 6 [] 0 false false true co) := ⟨co, l_name6⟩
theorem rdC_k (l : List Nat) : ∀ t ∈ l.map rdC, t.k = 4 := by
 intro t ht
 obtain ⟨x, _, rfl⟩ := List.mem_map.1 ht
 rfl
theorem nameB_len : (nameB g).length = 5 := by simp [nameB]
theorem Jn.full {j : Jd} (h : Jn g j) : ∃ co, Lg g j (askL 144 ++ (nameB g).map rdC) ∧ jx g j (askL 144 ++ (nameB g).map rdC) = jW 2 [0] 5 false false false co := by
 obtain ⟨co, h⟩ := h
 have h2 := l_told (g := g) ((nameB g).map rdC) 0 (co := co) (rdC_k _) (by rw [List.length_map, nameB_len]; omega)
 rw [List.length_map, nameB_len] at h2
 exact ⟨co, Lg.then_ h h2⟩
theorem Jn.part {j : Jd} (h : Jn g j) {l : List Cy} (hl : ∃ k, l = (askL 144 ++ (nameB g).map rdC).take k) : Lg g j l := by
 obtain ⟨k, rfl⟩ := hl
 obtain ⟨co, h1⟩ := h.full
 exact h1.1.take_ k
theorem WtL.takes {e : Int} {l : List Cy} (h : WtL e l) (d : Bool) (co : Nat) : Lg g (jW 1 [] 0 true false d co) l ∧ (e = 0 → jx g (jW 1 [] 0 true false d co) l = jW 1 [] 0 false true d co) := by
 rcases h with ⟨rfl, he⟩ | ⟨j, rfl⟩
 ·
  exact ⟨trivial, fun h => absurd h he⟩
 ·
  constructor
  ·
   refine Lg.and l_70 (Lg.and (l_busy j) ?_)
   split
   ·
    exact l_done.1
   ·
    trivial
  ·
   intro he
   rw [if_pos he]
   exact (Lg.then_ l_70 (Lg.then_ (l_busy j) l_done)).2
theorem l_ff1 : Lg g Jd.new [⟨1, 255⟩] ∧ jx g Jd.new [⟨1, 255⟩] = jW 1 [] 0 true false false 0 := ⟨⟨rfl, trivial⟩, rfl⟩
theorem RsL.takes {e : Int} {l : List Cy} (h : RsL e l) : Lg g Jd.new l ∧ (e = 0 → jx g Jd.new l = jW 1 [] 0 false true false 0) := by
 rcases h with ⟨rfl, he⟩ | ⟨m, rfl, hm⟩
 ·
  exact ⟨trivial, fun h => absurd h he⟩
 ·
  obtain ⟨h1, h2⟩ := hm.takes (g := g) false 0
  exact ⟨Lg.and l_ff1 h1, fun he => by rw [jx_append, l_ff1.2, h2 he]⟩
theorem gb_fetch (hg : g.ok = true) : Lg g (jW 1 [] 0 false true true 0) (⟨1, 0⟩ :: (gb g).map rdC) ∧ jx g (jW 1 [] 0 false true true 0) (⟨1, 0⟩ :: (gb g).map rdC) = jW 6 [] 0 false false true 14 := by
 have h14 : 31 ≤ g.raw.toNat := by
  obtain ⟨h1, h2, h3, h4, h5, h6, h7⟩ := Gm.bounds_of hg
  have h8 := mul_le (a := g.c) (b := g.k + 2) (m := 16) (n := 514) (by omega) (by omega) (by omega) (by omega)
  unfold Gm.raw
  rw [if_pos hg]
  omega
 have hl : (gb g).length = 14 := gb_len
 obtain ⟨x, r, hx⟩ : ∃ x r, gb g = x :: r := by
  cases hq : gb g with
  | nil => rw [hq] at hl; cases hl
  | cons x r => exact ⟨x, r, rfl⟩
 have hr : r.length = 13 := by rw [hx, List.length_cons] at hl; omega
 rw [hx]
 have h1 := l_fetch (g := g) (co := 0)
 have h2 := l_first (g := g) (co := 0) (b := x) (by omega)
 have h3 := l_out (g := g) (r.map rdC) 1 (rdC_k r) (by rw [List.length_map, hr]; omega)
 rw [List.length_map, hr] at h3
 have h4 := Lg.then_ h1 (Lg.then_ h2 h3)
 exact h4
theorem PaL.takes (hg : g.ok = true) {e : Int} {l : List Cy} (h : PaL g e l) (k co : Nat) : Lg g (jW 2 [0] k false false false co) l ∧ (e = 0 → jx g (jW 2 [0] k false false false co) l = jW 6 [] 0 false false true 14) := by
 have h1 : Lg g (jW 2 [0] k false false false co) (askL 236) ∧ jx g (jW 2 [0] k false false false co) (askL 236) = jW 1 [] 0 true false true 0 := l_pars
 rcases h with ⟨q, rfl, he⟩ | ⟨m, rfl, hm, he⟩ | ⟨m, f, rfl, hm, ⟨q, hf⟩, hff⟩
 ·
  exact ⟨h1.1.take_ q, fun h => absurd h he⟩
 ·
  exact ⟨Lg.and h1 (hm.takes true 0).1, fun h => absurd h he⟩
 ·
  obtain ⟨h2, h3⟩ := hm.takes (g := g) true 0
  have h4 := gb_fetch hg
  constructor
  ·
   refine Lg.and h1 (Lg.and ⟨h2, h3 rfl⟩ ?_)
   rw [hf]
   exact h4.1.take_ q
  ·
   intro he
   rw [hff he]
   exact (Lg.then_ h1 (Lg.then_ ⟨h2, h3 rfl⟩ h4)).2
theorem both_sum {j : Jd} (h : Fr c) (hg : g.ok = true) (hj : Jn g j) (ha : Al c) (hb : ∀ c, nb s c < n) :
  ∃ l, (parW g s (runW g s c L nameL).c (runW g s c L nameL).l n).2.2.2 = L ++ l ∧ Lg g j l ∧ (runW g s c L nameL).e = 0 ∧ since 2 L (runW g s c L nameL).l = nameB g ∧
   (parW g s (runW g s c L nameL).c (runW g s c L nameL).l n).2.1 = 0 ∧ (parW g s (runW g s c L nameL).c (runW g s c L nameL).l n).1 = g := by
 obtain ⟨l, k1, k2, k3, k4, k5⟩ := name_sum (g := g) (s := s) (L := L) h
 obtain ⟨h0, a1⟩ := k5 ha
 obtain ⟨m1, m2, m3⟩ := k4 h0
 obtain ⟨m, p1, p2, p3, p4⟩ := par_sum (g := g) (s := s) (L := (runW g s c L nameL).l) (n := n) m3 hg
 obtain ⟨q0, _⟩ := p4 a1 (hb _)
 obtain ⟨co, h1⟩ := hj.full
 refine ⟨l ++ m, by rw [p1, k1, List.append_assoc], ?_, h0, m2, q0, (p3 q0).1⟩
 rw [m1]
 exact Lg.and h1 (p2.takes hg 5 co).1
theorem chk_sum (h : Fr c) (hg : g.ok = true) : ∃ l, (chkW g s c L o n).2.2 = L ++ l ∧ Lg g (jW 1 [] 0 false true false 0) l ∧
  (o.ok = false → (chkW g s c L o n).1 = 2) ∧ ((chkW g s c L o n).1 = 0 → o = g) ∧
  (Al c → (∀ c, nb s c < n) → Fr (chkW g s c L o n).2.1 ∧ Al (chkW g s c L o n).2.1 ∧ Jn g (jx g (jW 1 [] 0 false true false 0) l) ∧ (o.ok = true → (chkW g s c L o n).1 = if o = g then 0 else 23)) := by
 unfold chkW
 by_cases ho : o.ok = true
 rotate_left
 ·
  rw [if_neg ho]
  exact ⟨[], (List.append_nil L).symm, trivial, fun _ => rfl, fun h => absurd (show (2 : Int) = 0 from h) (by decide), fun ha _ => ⟨h, ha, Jn.one, fun h => absurd h ho⟩⟩
 rw [if_pos ho]
 have hno : o.ok = false → False := fun h => by rw [ho] at h; cases h
 obtain ⟨l, k1, k2, k3, k4, k5⟩ := name_sum (g := g) (s := s) (L := L) h
 obtain ⟨co, hfull⟩ := (Jn.one (g := g) (co := 0)).full
 by_cases h0 : (runW g s c L nameL).e = 0
 rotate_left
 ·
  rw [if_neg h0]
  exact ⟨l, k1, Jn.one.part k2, fun h => (hno h).elim, fun h => absurd h h0, fun ha _ => absurd (k5 ha).1 h0⟩
 rw [if_pos h0]
 obtain ⟨m1, m2, m3⟩ := k4 h0
 rw [m2]
 by_cases hn : nameB g = nameB o
 rotate_left
 ·
  rw [if_neg hn]
  have hne : o ≠ g := fun e => hn (by rw [e])
  refine ⟨l, k1, Jn.one.part k2, fun h => (hno h).elim, fun h => absurd (show (23 : Int) = 0 from h) (by decide), fun ha _ => ⟨m3, (k5 ha).2, ?_, fun _ => (if_neg hne).symm⟩⟩
  rw [m1, hfull.2]
  exact Jn.two
 rw [if_pos hn]
 obtain ⟨m, p1, p2, p3, p4⟩ := par_sum (g := g) (s := s) (L := (runW g s c L nameL).l) (n := n) m3 hg
 refine ⟨l ++ m, by show (parW g s (runW g s c L nameL).c (runW g s c L nameL).l n).2.2.2 = _; rw [p1, k1, List.append_assoc], ?_, fun h => (hno h).elim, ?_, ?_⟩
 ·
  rw [m1]
  exact Lg.and hfull (p2.takes hg 5 co).1
 ·
  intro he
  by_cases hp : (parW g s (runW g s c L nameL).c (runW g s c L nameL).l n).2.1 = 0
  ·
   rw [if_pos hp, (p3 hp).1] at he
   by_cases e : g = o
   ·
    exact e.symm
   ·
    rw [if_neg e] at he
    exact absurd (show (23 : Int) = 0 from he) (by decide)
  ·
   rw [if_neg hp] at he
   exact absurd he hp
 ·
  intro ha hb
  obtain ⟨q0, q1⟩ := p4 (k5 ha).2 (hb _)
  refine ⟨(p3 q0).2, q1, ?_, fun _ => ?_⟩
  ·
   rw [m1, jx_append, hfull.2, (p2.takes hg 5 co).2 q0]
   exact Jn.six
  ·
   rw [if_pos q0, (p3 q0).1]
   by_cases e : g = o
   ·
    rw [if_pos e, if_pos e.symm]
   ·
    rw [if_neg e, if_neg fun h => e h.symm]
end
def Ie (w : World) (g o : Gm) (m : Sa) (s : Sc) (bud : Int) (I : Nat → Prop) (q p r : Nat) (c : Ch) (L : List Cy) (k Q : Nat) (W : World) : Prop :=
 Wi I W q p r g s c L k ∧ (c.on = true → Okc g Q c) ∧ CRow W w.heap.size 23 #[.int .i64 g.p, .int .i64 g.b, .int .i64 g.s, .int .i64 g.c, .int .i64 g.k, .int .i64 g.r, .int .i64 g.q] ∧ CRow W (w.heap.size + 1) 23 #[.int .i64 o.p, .int .i64 o.b, .int .i64 o.s, .int .i64 o.c, .int .i64 o.k, .int .i64 o.r, .int .i64 o.q] ∧ CRow W (w.heap.size + 2) 30 #[.slice m.a1 s.busy.length m.c1, .slice m.a2 s.fails.length m.c2, .slice m.a3 s.turns.length m.c3, .int .i64 s.cut, .slice m.a4 s.torn.length m.c4, .slice m.a5 s.marked.length m.c5, .int .i64 bud] ∧ Below w.heap.size w W ∧ ∀ j, I j → w.heap.size + 2 < j
section
variable {w W W' : World} {g o t : Gm} {m : Sa} {s : Sc} {bud : Int} {I I' : Nat → Prop} {q p r k Q : Nat} {c : Ch} {L : List Cy}
theorem Ie.below (h : Ie w g o m s bud I q p r c L k Q W) (hb : Below W.heap.size W W') : Ie w g o m s bud I q p r c L k Q W' :=
 ⟨h.1.below hb, h.2.1, h.2.2.1.below hb, h.2.2.2.1.below hb, h.2.2.2.2.1.below hb, below_step h.2.2.2.2.2.1 hb, h.2.2.2.2.2.2⟩
theorem Ie.turn {c' : Ch} {L' : List Cy} {k' Q' : Nat} (h : Ie w g o m s bud I q p r c L k Q W) (hw : Wi I' W' q p r g s c' L' k') (hi : ∀ j, I' j → I j) (ho : c'.on = true → Okc g Q' c') (hb : Btw I W W') : Ie w g o m s bud I' q p r c' L' k' Q' W' :=
 ⟨hw, ho, h.2.2.1.btw hb (fun e => by have := h.2.2.2.2.2.2 _ e; omega), h.2.2.2.1.btw hb (fun e => by have := h.2.2.2.2.2.2 _ e; omega), h.2.2.2.2.1.btw hb (fun e => by have := h.2.2.2.2.2.2 _ e; omega),
  h.2.2.2.2.2.1.trans (hb.below (S := w.heap.size) (fun j hj => by have := h.2.2.2.2.2.2 j hj; omega) h.2.2.2.2.2.1.size), fun j hj => h.2.2.2.2.2.2 j (hi j hj)⟩
theorem Ie.lay (h : Ie w g o m s bud I q p r c L k Q W) : Ie w g o m s bud I q p r c L k Q ((W.alloc (.cells #[.int .i64 0, .int .i64 0, .int .i64 0, .int .i64 0, .int .i64 0, .int .i64 0, .int .i64 0] 23)).setRow W.heap.size #[.int .i64 t.p, .int .i64 t.b, .int .i64 t.s, .int .i64 t.c, .int .i64 t.k, .int .i64 t.r, .int .i64 t.q]) := by
 obtain ⟨I1, h1, hi1, hn1⟩ := h.1.apart (.cells #[.int .i64 0, .int .i64 0, .int .i64 0, .int .i64 0, .int .i64 0, .int .i64 0, .int .i64 0] 23)
 have hb := below_new w (.cells #[.int .i64 0, .int .i64 0, .int .i64 0, .int .i64 0, .int .i64 0, .int .i64 0, .int .i64 0] 23)
 have n1 : w.heap.size ≠ W.heap.size := Nat.ne_of_lt h.2.2.1.lt
 have n2 : w.heap.size + 1 ≠ W.heap.size := Nat.ne_of_lt h.2.2.2.1.lt
 have n3 : w.heap.size + 2 ≠ W.heap.size := Nat.ne_of_lt h.2.2.2.2.1.lt
 have hs : w.heap.size ≤ W.heap.size := h.2.2.2.2.2.1.size
 exact ⟨h1.done hn1 hi1 _, h.2.1, (h.2.2.1.alloc _).other n1, (h.2.2.2.1.alloc _).other n2, (h.2.2.2.2.1.alloc _).other n3, below_setRow (h.2.2.2.2.2.1.alloc hs _) hs _, h.2.2.2.2.2.2⟩
theorem Ie.rg (h : Ie w g o m s bud I q p r c L k Q W) : CRow W w.heap.size 23 #[.int .i64 g.p, .int .i64 g.b, .int .i64 g.s, .int .i64 g.c, .int .i64 g.k, .int .i64 g.r, .int .i64 g.q] := h.2.2.1
theorem Ie.ro (h : Ie w g o m s bud I q p r c L k Q W) : CRow W (w.heap.size + 1) 23 #[.int .i64 o.p, .int .i64 o.b, .int .i64 o.s, .int .i64 o.c, .int .i64 o.k, .int .i64 o.r, .int .i64 o.q] := h.2.2.2.1
theorem Ie.rc (h : Ie w g o m s bud I q p r c L k Q W) : CRow W (w.heap.size + 2) 30 #[.slice m.a1 s.busy.length m.c1, .slice m.a2 s.fails.length m.c2, .slice m.a3 s.turns.length m.c3, .int .i64 s.cut, .slice m.a4 s.torn.length m.c4, .slice m.a5 s.marked.length m.c5, .int .i64 bud] := h.2.2.2.2.1
theorem Ie.bel (h : Ie w g o m s bud I q p r c L k Q W) : Below w.heap.size w W := h.2.2.2.2.2.1
theorem ie_reset (n : Nat) (hn1 : 1 ≤ n) (hn2 : n ≤ 300) (hQ : Q ≤ 1000) (hL : L.length ≤ 1000) (hk : k ≤ 100) (hs : SG g s) (h : Ie w g o m s bud I q p r c L k Q W) :
  Calls Tryz.prog 9 #[.pointer (some ⟨q, 0, none⟩), .int .i64 (n : Int)] W fun e W' => e = .returned (.int .i64 (resetW g s c L n).1) ∧ ∃ k', k' ≤ k + 2 ∧ Ie w g o m s bud I q p r (resetW g s c L n).2.1 (resetW g s c L n).2.2 k' (Q + 2 + n) W' := by
 refine (Reset_any (Q := Q) n hn1 (by omega) (by omega) hs h.2.1 (by omega) (by omega) h.1).mono ?_
 rintro e W' ⟨k', h1, h2, h3, h4, h5⟩
 exact ⟨h2, k', h1, h.turn h3 (fun _ h => h) h5 h4⟩
theorem ie_chk (n : Nat) (hn1 : 1 ≤ n) (hn2 : n ≤ 300) (hQ : Q ≤ 2000) (hL : L.length ≤ 2000) (hk : k ≤ 100) (hs : SG g s) (h : Ie w g o m s bud I q p r c L k Q W) :
  Calls Tryz.prog 10 #[.pointer (some ⟨q, 0, none⟩), .agg #[.int .i64 o.p, .int .i64 o.b, .int .i64 o.s, .int .i64 o.c, .int .i64 o.k, .int .i64 o.r, .int .i64 o.q], .int .i64 (n : Int)] W fun e W' => e = .returned (.int .i64 (chkW g s c L o n).1) ∧ ∃ k', k' ≤ k + 8 ∧ Ie w g o m s bud I q p r (chkW g s c L o n).2.1 (chkW g s c L o n).2.2 k' (Q + n + 25) W' := by
 refine (Chk_any (Q := Q) (o := o) n hn1 (by omega) (by omega) hs h.2.1 (by omega) (by omega) h.1).mono ?_
 rintro e W' ⟨k', h1, h2, h3, h4, h5⟩
 exact ⟨h2, k', h1, h.turn h3 (fun _ h => h) h5 h4⟩
theorem ie_id (h0 : (runW g s c L nameL).e = 0) (hQ : Q ≤ 4000) (hL : L.length ≤ 4000) (hk : k ≤ 200) (hs : SG g s) (h : Ie w g o m s bud I q p r c L k Q W) :
  Calls Tryz.prog 12 #[.pointer (some ⟨q, 0, none⟩)] W fun e W' => ∃ k' A d, ∃ I' : Nat → Prop, k' ≤ k + 3 ∧ e = .returned (.tuple #[.slice A 5 d, .int .i64 0]) ∧ R8 W' A 5 (since 2 L (runW g s c L nameL).l) ∧ (∀ b off, A = some ⟨b, off, none⟩ → ¬ I' b) ∧ Ie w g o m s bud I' q p r (runW g s c L nameL).c (runW g s c L nameL).l k' (Q + 7) W' := by
 refine (ID_any (Q := Q) (by omega) hs h.2.1 (by omega) (by omega) h.1).mono ?_
 rintro e W' ⟨k', A, d, I', h1, h2, _, h4, h5, h6, h7, _⟩
 obtain ⟨a1, a2, a3⟩ := h2 h0
 exact ⟨k', A, d, I', h1, a1, a2, a3, h.turn h4 h5 h7 h6⟩
theorem ie_par (n : Nat) (hn1 : 1 ≤ n) (hn2 : n ≤ 300) (hQ : Q ≤ 5000) (hL : L.length ≤ 5000) (hk : k ≤ 300) (hs : SG g s) (h : Ie w g o m s bud I q p r c L k Q W) :
  Calls Tryz.prog 13 #[.pointer (some ⟨q, 0, none⟩), .int .i64 (n : Int)] W fun e W' => e = .returned (.tuple #[(parW g s c L n).1.val, .int .i64 (parW g s c L n).2.1]) ∧ Btw I W W' ∧ ∃ k', Ie w g o m s bud I q p r (parW g s c L n).2.2.1 (parW g s c L n).2.2.2 k' (Q + n + 18) W' := by
 refine (Par_any (Q := Q) n hn1 (by omega) (by omega) hs h.2.1 (by omega) (by omega) h.1).mono ?_
 rintro e W' ⟨k', _, h2, h3, h4, h5⟩
 exact ⟨h2, h4, k', h.turn h3 (fun _ h => h) h5 h4⟩
theorem ie_trace (hL : L.length ≤ 100000) (h : Wi I W q p r g s c L k) :
  Calls Tryz.prog 15 #[.pointer (some ⟨q, 0, none⟩)] W fun e W' => ∃ A c4, e = .returned (.slice A L.length c4) ∧ RC W' A L.length L ∧ Below W.heap.size W W' := by
 refine (Trace_any (by omega) h).mono ?_
 rintro e W' ⟨h1, A, c4, h2, h3⟩
 exact ⟨A, c4, h2, h3, h1⟩
theorem run_all {A : Option Addr} {c4 : Nat} (hg : g.ok = true) (hl : Lg g Jd.new L) (hL : L.length ≤ 50000) (hr : RC W A L.length L) :
  Calls Tryz.prog 14 #[.agg #[.int .i64 g.p, .int .i64 g.b, .int .i64 g.s, .int .i64 g.c, .int .i64 g.k, .int .i64 g.r, .int .i64 g.q], .slice A L.length c4] W fun e W' => e = .returned (.tuple #[.int .i64 ((L.length : Nat) : Int), .bool true]) ∧ Below W.heap.size W W' := by
 refine (jRun hg A L.length c4 L hL W hr).mono ?_
 rintro e W' ⟨c', h1, rfl, h3⟩
 obtain rfl := Lg.run hl h1
 exact ⟨by rw [decide_eq_true rfl], h3⟩
theorem fetch_len : (fetchW g s c L).2.2.2.length ≤ L.length + 15 := by
 have h := (runW_len (g := g) (s := s) (c := c) (L := L) (ts := fetchL)).1
 have h2 : fetchL.length = 15 := rfl
 rw [h2] at h
 unfold fetchW
 split <;> exact h
theorem par_len (n : Nat) : (parW g s c L n).2.2.2.length ≤ L.length + n + 18 := by
 have h := (runW_len (g := g) (s := s) (c := c) (L := L) (ts := askL 236)).1
 have h2 : (askL 236).length = 2 := rfl
 rw [h2] at h
 have hw := (waitW_polls (g := g) (s := s) (runW g s c L (askL 236)).c (runW g s c L (askL 236)).l 96 n).2.2
 unfold parW
 split
 ·
  split
  ·
   have hf := fetch_len (g := g) (s := s) (c := (waitW g s (runW g s c L (askL 236)).c (runW g s c L (askL 236)).l 96 n).2.2.1) (L := (waitW g s (runW g s c L (askL 236)).c (runW g s c L (askL 236)).l 96 n).2.2.2)
   omega
  ·
   show (waitW g s (runW g s c L (askL 236)).c (runW g s c L (askL 236)).l 96 n).2.2.2.length ≤ _
   omega
 ·
  show (runW g s c L (askL 236)).l.length ≤ _
  omega
theorem chk_len (n : Nat) : (chkW g s c L o n).2.2.length ≤ L.length + n + 25 := by
 have h := (runW_len (g := g) (s := s) (c := c) (L := L) (ts := nameL)).1
 have h2 : nameL.length = 7 := rfl
 rw [h2] at h
 have hp := par_len (g := g) (s := s) (c := (runW g s c L nameL).c) (L := (runW g s c L nameL).l) n
 unfold chkW
 split
 ·
  split
  ·
   split
   ·
    show (parW g s (runW g s c L nameL).c (runW g s c L nameL).l n).2.2.2.length ≤ _
    omega
   ·
    show (runW g s c L nameL).l.length ≤ _
    omega
  ·
   show (runW g s c L nameL).l.length ≤ _
   omega
 ·
  show L.length ≤ _
  omega
end
end Go.Proofs.YtmbgoopkpfhamaaGreat
