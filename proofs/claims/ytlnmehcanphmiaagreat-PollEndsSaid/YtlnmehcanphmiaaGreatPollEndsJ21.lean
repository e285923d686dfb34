/-
  A wire in memory: its chip, its recorder; and what sending comes to.
-/
import Derived.WalkMore
import Derived.Test.YtlnmehcanphmiaaGreatPollEndsJ19
import Derived.Test.YtlnmehcanphmiaaGreatPollEndsJTrB
import Derived.Test.YtlnmehcanphmiaaGreatPollEndsJ7
import Derived.Test.YtlnmehcanphmiaaGreatPollEndsJ16
import Derived.Test.YtlnmehcanphmiaaGreatPollEndsJ3
import Derived.Test.YtlnmehcanphmiaaGreatPollEndsJ10
namespace Go.Proofs.YtlnmehcanphmiaaGreat
open Go.RowKit
set_option maxRecDepth 100000

/-- What is kept of a cycle that was sent: a Read has the byte that came back. -/
def keptC (t : Cy) (v : Int) : Cy := ⟨t.k, if t.k = 4 then v.toNat else t.b⟩
/-- A cycle is sent: the byte, the error, the chip, what is stored. -/
def sendC (g : Gm) (s : Sc) (c : Ch) (L : List Cy) (t : Cy) : Int × Int × Ch × List Cy :=
  if (c.doC g s t).2.1 = 0 then ((c.doC g s t).1, 0, (c.doC g s t).2.2, L ++ [keptC t (c.doC g s t).1]) else (0, (c.doC g s t).2.1, (c.doC g s t).2.2, L)
/-- What sending came to so far. -/
structure Ws where
  e : Int
  c : Ch
  l : List Cy
def stepW (g : Gm) (s : Sc) (a : Ws) (t : Cy) : Ws := if a.e = 0 then ⟨(sendC g s a.c a.l t).2.1, (sendC g s a.c a.l t).2.2.1, (sendC g s a.c a.l t).2.2.2⟩ else a
def runW (g : Gm) (s : Sc) (c : Ch) (L : List Cy) (ts : List Cy) : Ws := ts.foldl (stepW g s) ⟨0, c, L⟩
section
variable {g : Gm} {s : Sc} {c : Ch} {L ts : List Cy} {k : Nat} {t : Cy}
theorem runW_zero : runW g s c L (ts.take 0) = ⟨0, c, L⟩ := by simp [runW]
theorem runW_succ (h : ts[k]? = some t) : runW g s c L (ts.take (k + 1)) = stepW g s (runW g s c L (ts.take k)) t := by
  unfold runW
  rw [List.take_add_one, h, List.foldl_append]
  rfl
theorem fold_stuck (ts : List Cy) (a : Ws) (h : a.e ≠ 0) : ts.foldl (stepW g s) a = a := by
  induction ts with
  | nil => rfl
  | cons t ts ih => rw [List.foldl_cons, show stepW g s a t = a from if_neg h, ih]
theorem runW_stuck (h : (runW g s c L (ts.take k)).e ≠ 0) : runW g s c L ts = runW g s c L (ts.take k) := by
  have e : ts.foldl (stepW g s) ⟨0, c, L⟩ = (ts.drop k).foldl (stepW g s) ((ts.take k).foldl (stepW g s) ⟨0, c, L⟩) := by rw [← List.foldl_append, List.take_append_drop]
  exact e.trans (fold_stuck _ _ h)
theorem stepW_len (a : Ws) (t : Cy) : (stepW g s a t).l.length ≤ a.l.length + 1 ∧ a.l.length ≤ (stepW g s a t).l.length ∧ ((stepW g s a t).e = 0 → a.e = 0 ∧ (stepW g s a t).l.length = a.l.length + 1) := by
  unfold stepW
  split
  · rename_i h
    unfold sendC
    split
    · simp [h]
    · rename_i h2
      exact ⟨by simp, by simp, fun e => absurd e h2⟩
  · rename_i h
    exact ⟨by omega, by omega, fun e => absurd e h⟩
theorem fold_len (ts : List Cy) (a : Ws) : (ts.foldl (stepW g s) a).l.length ≤ a.l.length + ts.length ∧ a.l.length ≤ (ts.foldl (stepW g s) a).l.length ∧ ((ts.foldl (stepW g s) a).e = 0 → a.e = 0 ∧ (ts.foldl (stepW g s) a).l.length = a.l.length + ts.length) := by
  induction ts generalizing a with
  | nil => exact ⟨Nat.le_refl _, Nat.le_refl _, fun h => ⟨h, rfl⟩⟩
  | cons t ts ih =>
    rw [List.foldl_cons, List.length_cons]
    obtain ⟨h1, h2, h3⟩ := ih (stepW g s a t)
    obtain ⟨k1, k2, k3⟩ := stepW_len (g := g) (s := s) a t
    refine ⟨by omega, by omega, fun e => ?_⟩
    obtain ⟨m1, m2⟩ := h3 e
    obtain ⟨n1, n2⟩ := k3 m1
    exact ⟨n1, by omega⟩
theorem runW_len : (runW g s c L ts).l.length ≤ L.length + ts.length ∧ ((runW g s c L ts).e = 0 → (runW g s c L ts).l.length = L.length + ts.length) := by
  obtain ⟨h1, _, h3⟩ := fold_len (g := g) (s := s) ts ⟨0, c, L⟩
  exact ⟨h1, fun e => (h3 e).2⟩
end
theorem Btw.old {I : Nat → Prop} {w w' : World} (h : Btw I w w') : Btw (fun j => I j ∧ j < w.heap.size) w w' := ⟨h.os, h.tape, h.output, h.size, fun k hk hn => h.block k hk fun h1 => hn ⟨h1, hk⟩⟩
theorem Btw.more {I J : Nat → Prop} {w w' : World} (h : Btw I w w') (hJ : ∀ j, I j → J j) : Btw J w w' := ⟨h.os, h.tape, h.output, h.size, fun k hk hn => h.block k hk fun h1 => hn (hJ k h1)⟩
theorem own_at1 {w : World} {base : Nat} {e : TypeId} {v : Value} {n : Nat} {xs : List Value} (h : w.ownsRow base e 1 v n xs) : ∀ k, v.ownBlock = some k → base ≤ k ∧ ∃ cur : Array Value, w.heap[k]? = some (.cells cur e (0, 0)) := by
  intro k hk
  rcases h.2 with ⟨rfl, _⟩ | ⟨g, cap, cur, rfl, hbase, hg, _⟩
  · cases hk
  · simp only [Value.ownBlock, Option.some.injEq] at hk
    subst hk
    exact ⟨hbase, cur, hg⟩
/-- A wire at q: its chip at p, whose blocks are in IC, its recorder at r, whose blocks are in IR. -/
structure Wp (IC IR I : Nat → Prop) (w : World) (q p r : Nat) (g : Gm) (s : Sc) (c : Ch) (L : List Cy) (M : ByteArray → Option Nat) (k : Nat) : Prop where
  row : CRow w q 56 #[.pointer (some ⟨r, 0, none⟩), .pointer (some ⟨p, 0, none⟩)]
  ch : CH IC w p g s c
  rc : Rec w r IR L ((L.length : Nat) : Int) M k
  ap : ∀ j, IR j → ¬ IC j
  nc : ¬ IC q
  nr : ¬ IR q
  ci : ∀ j, IC j → I j
  ri : ∀ j, IR j → I j
  qi : I q
def Wi (I : Nat → Prop) (w : World) (q p r : Nat) (g : Gm) (s : Sc) (c : Ch) (L : List Cy) (k : Nat) : Prop := ∃ IC IR M, Wp IC IR I w q p r g s c L M k
section
variable {I IC IR J : Nat → Prop} {w w' : World} {q p r : Nat} {g : Gm} {s : Sc} {c c' : Ch} {L L' : List Cy} {M M' : ByteArray → Option Nat} {k k' : Nat}
theorem Wp.below (h : Wp IC IR I w q p r g s c L M k) (hb : Below w.heap.size w w') : Wp IC IR I w' q p r g s c L M k :=
  { h with row := h.row.below hb, ch := h.ch.below hb, rc := h.rc.below hb }
theorem Wp.did (h : Wp IC IR I w q p r g s c L M k) (hc : CH IC w' p g s c') (hb : Btw IC w w') : Wp IC IR I w' q p r g s c' L M k :=
  { h with row := h.row.btw hb h.nc, ch := hc, rc := h.rc.btw hb h.ap }
theorem Wp.new_ (h : Wp IC IR I w q p r g s c L M k) : ∀ j, w.heap.size ≤ j → I j := fun j hj => h.ci j (h.ch.new_ j hj)
/-- What turns none of its blocks; the new blocks are another's. -/
theorem Wp.other (h : Wp IC IR I w q p r g s c L M k) (hb : Btw J w w') (hJ : ∀ j, j < w.heap.size → J j → ¬ IC j ∧ ¬ IR j ∧ j ≠ q) : Wp (fun j => IC j ∧ (j < w.heap.size ∨ w'.heap.size ≤ j)) IR I w' q p r g s c L M k :=
  { row := h.row.btw hb.old fun hj => (hJ q hj.2 hj.1).2.2 rfl
    ch := h.ch.away hb.old fun j hj => (hJ j hj.2 hj.1).1
    rc := h.rc.btw hb.old fun j hi hj => (hJ j hj.2 hj.1).2.1 hi
    ap := fun j hj hi => h.ap j hj hi.1
    nc := fun hi => h.nc hi.1
    nr := h.nr
    ci := fun j hj => h.ci j hj.1
    ri := h.ri
    qi := h.qi }
/-- Its recorder was given something. -/
theorem Wp.turn (h : Wp IC IR I w q p r g s c L M k) (hb : Btw IR w w') (hr : Rec w' r J L' ((L'.length : Nat) : Int) M' k') (hj : ∀ j, j < w.heap.size → J j → IR j) : Wi I w' q p r g s c L' k' :=
  ⟨fun j => IC j ∧ (j < w.heap.size ∨ w'.heap.size ≤ j), J, M', h.row.btw hb h.nr, h.ch.away hb.old (fun j hj => h.ap j hj.1), hr, fun j h1 h2 => by
      rcases h2.2 with h3 | h3
      · exact h.ap j (hj j h3 h1) h2.1
      · have := hr.lt j h1; omega, fun h1 => h.nc h1.1, fun h1 => h.nr (hj q h.row.lt h1), fun j hj => h.ci j hj.1, fun j h1 => by
      rcases Nat.lt_or_ge j w.heap.size with h2 | h2
      · exact h.ri j (hj j h2 h1)
      · exact h.new_ j h2, h.qi⟩
theorem Wi.below (h : Wi I w q p r g s c L k) (hb : Below w.heap.size w w') : Wi I w' q p r g s c L k := by
  obtain ⟨IC, IR, M, h⟩ := h
  exact ⟨IC, IR, M, h.below hb⟩
theorem Wi.new_ (h : Wi I w q p r g s c L k) : ∀ j, w.heap.size ≤ j → I j := by
  obtain ⟨IC, IR, M, h⟩ := h
  exact h.new_
/-- Another turned its own blocks; the blocks that came meanwhile are another's. -/
theorem Wi.away (h : Wi I w q p r g s c L k) (hb : Btw J w w') (hJ : ∀ j, j < w.heap.size → J j → ¬ I j) : Wi (fun j => I j ∧ (j < w.heap.size ∨ w'.heap.size ≤ j)) w' q p r g s c L k := by
  obtain ⟨IC, IR, M, h⟩ := h
  have h1 := h.other hb fun j h1 h2 => ⟨fun h3 => hJ j h1 h2 (h.ci j h3), fun h3 => hJ j h1 h2 (h.ri j h3), fun h3 => hJ j h1 h2 (h3 ▸ h.qi)⟩
  exact ⟨_, IR, M, { h1 with
    ci := fun j hj => ⟨h.ci j hj.1, hj.2⟩
    ri := fun j hj => ⟨h.ri j hj, .inl (h.rc.lt j hj)⟩
    qi := ⟨h.qi, .inl h.row.lt⟩ }⟩
end
end Go.Proofs.YtlnmehcanphmiaaGreat

/-
  A wire's made, send.
-/
namespace Go.Proofs.YtlnmehcanphmiaaGreat
open Go.RowKit
set_option maxRecDepth 100000

section
variable {I IC IR : Nat → Prop} {w : World} {q p r : Nat} {g : Gm} {s : Sc} {c : Ch} {L : List Cy} {M : ByteArray → Option Nat} {k : Nat}
theorem wmade_yes (h : CRow w q 56 #[.pointer (some ⟨r, 0, none⟩), .pointer (some ⟨p, 0, none⟩)]) : Calls Tryz.prog 19 #[.pointer (some ⟨q, 0, none⟩)] w (Gives (.bool true) w) := by
  have x1 := h.cell_at 1 _ rfl
  go_enter Tryz.func19, Tryz.ntmps19
  go_wp2
  go_ret
  exact ⟨rfl, Below.refl _ _⟩
/-- A cycle was sent. -/
def Sends (I : Nat → Prop) (q p r : Nat) (g : Gm) (s : Sc) (c : Ch) (L : List Cy) (k Q : Nat) (t : Cy) (w : World) (e : Ending) (w' : World) : Prop :=
  ∃ k', k' ≤ k + 1 ∧ ((sendC g s c L t).2.1 = 0 → k' = k) ∧ e = .returned (.tuple #[.int .u8 (sendC g s c L t).1, .int .i64 (sendC g s c L t).2.1]) ∧ Wi I w' q p r g s (sendC g s c L t).2.2.1 (sendC g s c L t).2.2.2 k' ∧ Btw I w w' ∧
    ((sendC g s c L t).2.2.1.on = true → Okc g (Q + 1) (sendC g s c L t).2.2.1)
set_option maxHeartbeats 8000000 in
theorem send_any {Q : Nat} (t : Cy) (ht : inC t) (hQ : Q ≤ 100000) (hs : SG g s) (ho : c.on = true → Okc g Q c) (hL : L.length < 16777216) (hk : k < 1000) (h : Wi I w q p r g s c L k) :
    Calls Tryz.prog 32 #[.pointer (some ⟨q, 0, none⟩), .agg #[.int .i64 t.k, .int .u8 (t.b : Int)]] w (Sends I q p r g s c L k Q t w) := by
  obtain ⟨IC, IR, M, h⟩ := h
  have NEW := Lib.hid h.new_
  have B0 := Lib.hid (below_new w (.cells #[.int .i64 t.k, .int .u8 (t.b : Int)] 40))
  have Z0 := Lib.hid (CRow.new w #[.int .i64 t.k, .int .u8 (t.b : Int)] 40)
  have hw0 := h.other (J := fun _ => False) (Btw.of_below B0.out) fun _ _ h => h.elim
  obtain ⟨IX, hIX⟩ : ∃ IX, IX = fun j => IC j ∧ (j < w.heap.size ∨ (w.alloc (.cells #[.int .i64 t.k, .int .u8 (t.b : Int)] 40)).heap.size ≤ j) := ⟨_, rfl⟩
  have NH := Lib.hid (show ¬ IX w.heap.size by
    rw [hIX]
    intro h1
    have h3 : (w.alloc (.cells #[.int .i64 t.k, .int .u8 (t.b : Int)] 40)).heap.size = w.heap.size + 1 := by simp
    have h2 : w.heap.size < w.heap.size ∨ (w.alloc (.cells #[.int .i64 t.k, .int .u8 (t.b : Int)] 40)).heap.size ≤ w.heap.size := h1.2
    omega)
  rw [← hIX] at hw0
  have W0 := Lib.hid hw0
  have SX := Lib.hid hw0.ci
  have NQ := Lib.hid h.row.lt
  have NR := Lib.hid (show ¬ IR w.heap.size from fun h1 => Nat.lt_irrefl _ (h.rc.lt _ h1))
  obtain ⟨v0, e, c1, hd⟩ : ∃ v0 e c1, c.doC g s t = (v0, e, c1) := ⟨_, _, _, rfl⟩
  have hby := doC_byte (g := g) (s := s) t (regs h.ch).2.2.2.2
  rw [hd] at hby
  have hby : 0 ≤ v0 ∧ v0 < 256 := hby
  obtain ⟨v, rfl⟩ : ∃ v : Nat, v0 = (v : Int) := ⟨v0.toNat, by omega⟩
  have HV := Lib.hid (show v < 256 by omega)
  have HDO := Lib.hid (fun W (hh : CH IX W p g s c) => Do_w t ht.2.2 hQ hs ho hh)
  simp only [hd] at HDO
  have HON := Lib.hid (fun W (hh : CH IX W p g s c) => On_any hh)
  have HON1 := Lib.hid (fun W (hh : CH IX W p g s c1) => On_any hh)
  have HT := Lib.hid ht
  have HD := Lib.hid hd
  obtain ⟨on, hon⟩ : ∃ on, on = c.on := ⟨_, rfl⟩
  obtain ⟨on1, hon1⟩ : ∃ on1, on1 = c1.on := ⟨_, rfl⟩
  rw [← hon] at HON
  rw [← hon1] at HON1
  have x1 := W0.out.row.cell_at 1 _ rfl
  have LL := Lib.hid hL
  have KK := Lib.hid hk
  clear h hw0 hIX hby hd hs ho hon hon1 ht hL hk
  go_enter Tryz.func32, Tryz.ntmps32
  go_wp2_with fail
  clear x1
  refine (HON.out _ W0.out.ch).mono ?_
  rintro _ w1 ⟨rfl, h1⟩
  have W1 := Lib.hid (W0.out.below h1)
  have Z1 := Lib.hid (Z0.out.below h1)
  have B1 := Lib.hid (Btw.of_below (I := I) (below_step B0.out h1))
  clear h1 W0 Z0 B0 HON
  go_wp2_with fail
  refine wp_region_noPanic ?_
  refine wp_region_held_drew (S := fun w' => CRow w' q 56 #[.pointer (some ⟨r, 0, none⟩), .pointer (some ⟨p, 0, none⟩)] ∧ CRow w' w.heap.size 40 #[.int .i64 t.k, .int .u8 (t.b : Int)]) (by kernel_rfl) ⟨W1.out.row.drew, Z1.out.drew⟩ (fun C0 => ?_)
  refine wpAnyH_take (i := 0) (oi := { dst := some 15, op := Op.move (Operand.tmp 0), type := 29, pos := "wire.go:111", after := #[], guard := none }) (v := ?_) rfl (by kernel_rfl) (by kernel_rfl) (by kernel_rfl) (fun _ _ _ h => h) (Or.inl ⟨by rfl, ?_⟩) C0 ?_
  rotate_left
  · intro W' hSw
    clear hSw
    go_simp <;> with_reducible rfl
  try simp only [Act.put, List.setIfInBounds_toArray, List.set_cons_zero, List.set_cons_succ]
  refine wpAnyH_take (i := 1) (oi := { dst := some 16, op := Op.nilCheck (Operand.tmp 15), type := 0, pos := "wire.go:111", after := #[{ on := 0, ground := Ground.data }], guard := none }) (v := ?_) rfl (by kernel_rfl) (by kernel_rfl) (by kernel_rfl) (fun _ _ _ h => h) (Or.inl ⟨by rfl, ?_⟩) C0 ?_
  rotate_left
  · intro W' hSw
    clear hSw
    go_simp <;> with_reducible rfl
  try simp only [Act.put, List.setIfInBounds_toArray, List.set_cons_zero, List.set_cons_succ]
  refine wpAnyH_take (i := 2) (oi := { dst := some 17, op := Op.fieldAddr 56 (Operand.tmp 16) 1, type := 0, pos := "wire.go:111", after := #[{ on := 1, ground := Ground.data }], guard := none }) (v := ?_) rfl (by kernel_rfl) (by kernel_rfl) (by kernel_rfl) (fun _ _ _ h => h) (Or.inl ⟨by rfl, ?_⟩) C0 ?_
  rotate_left
  · intro W' hSw
    clear hSw
    go_simp <;> with_reducible rfl
  try simp only [Act.put, List.setIfInBounds_toArray, List.set_cons_zero, List.set_cons_succ]
  refine wpAnyH_take (i := 3) (oi := { dst := some 18, op := Op.load 44 (Operand.tmp 17), type := 44, pos := "wire.go:111", after := #[{ on := 2, ground := Ground.data }], guard := none }) (v := ?_) rfl (by kernel_rfl) (by kernel_rfl) (by kernel_rfl) (fun _ _ _ h => h) (Or.inl ⟨by rfl, ?_⟩) C0 ?_
  rotate_left
  · intro W' hSw
    obtain ⟨hs1, hs2⟩ := hSw
    have z1 := hs1.cell_at 1 _ rfl
    have y0 := hs2.cell_at 0 _ rfl
    have y1 := hs2.cell_at 1 _ rfl
    clear hs1 hs2
    go_simp <;> with_reducible rfl
  try simp only [Act.put, List.setIfInBounds_toArray, List.set_cons_zero, List.set_cons_succ]
  refine wpAnyH_take (i := 4) (oi := { dst := some 19, op := Op.load 40 (Operand.tmp 3), type := 40, pos := "wire.go:111", after := #[], guard := none }) (v := ?_) rfl (by kernel_rfl) (by kernel_rfl) (by kernel_rfl) (fun _ _ _ h => h) (Or.inl ⟨by rfl, ?_⟩) C0 ?_
  rotate_left
  · intro W' hSw
    obtain ⟨hs1, hs2⟩ := hSw
    have z1 := hs1.cell_at 1 _ rfl
    have y0 := hs2.cell_at 0 _ rfl
    have y1 := hs2.cell_at 1 _ rfl
    clear hs1 hs2
    go_simp <;> with_reducible rfl
  try simp only [Act.put, List.setIfInBounds_toArray, List.set_cons_zero, List.set_cons_succ]
  refine wpAnyH_ready (rs := [5]) (by kernel_rfl) (by simp) ?_
  refine AllReadyH.cons (o := { dst := some 20, op := Op.call { callee := Callee.value (Operand.func 42), args := #[Operand.tmp 18, Operand.tmp 19], argTypes := #[44, 40] }, type := 36, pos := "wire.go:111", after := #[{ on := 3, ground := Ground.data }, { on := 4, ground := Ground.data }], guard := none }) rfl (fun K hK => ?_) AllReadyH.nil
  go_simp
  refine (HDO.out _ (W1.out.ch.below ((Below.refl _ _).drew))).mono ?_
  rintro _ w2 ⟨rfl, h2, b2, o2, -⟩
  have D1 := Lib.hid (W1.out.below ((Below.refl _ _).drew))
  have W2 := Lib.hid (D1.out.did h2 b2)
  have Z2 := Lib.hid (Z1.out.drew.btw b2 NH.out)
  have B2 := Lib.hid ((B1.out.drew).trans (b2.more SX.out) fun _ _ h => h)
  have O2 := Lib.hid o2
  clear h2 b2 o2
  go_wp2_with fail
  refine hK.out _ _ ⟨W2.out.row, Z2.out⟩ (fun C1 => ?_)
  clear hK K
  try simp only [Act.put, List.setIfInBounds_toArray, List.set_cons_zero, List.set_cons_succ]
  refine wpAnyH_take (i := 6) (oi := { dst := some 14, op := Op.move (Operand.tmp 20), type := 36, pos := "wire.go:111", after := #[{ on := 5, ground := Ground.data }], guard := none }) (v := ?_) rfl (by kernel_rfl) (by kernel_rfl) (by kernel_rfl) (fun _ _ _ h => h) (Or.inl ⟨by rfl, ?_⟩) C1 ?_
  rotate_left
  · intro W' hSw
    clear hSw
    go_simp <;> with_reducible rfl
  try simp only [Act.put, List.setIfInBounds_toArray, List.set_cons_zero, List.set_cons_succ]
  refine wpAnyH_take (i := 7) (oi := { dst := some 21, op := Op.extract (Operand.tmp 14) 0, type := 5, pos := "wire.go:111", after := #[{ on := 6, ground := Ground.data }], guard := none }) (v := ?_) rfl (by kernel_rfl) (by kernel_rfl) (by kernel_rfl) (fun _ _ _ h => h) (Or.inl ⟨by rfl, ?_⟩) C1 ?_
  rotate_left
  · intro W' hSw
    clear hSw
    go_simp <;> with_reducible rfl
  try simp only [Act.put, List.setIfInBounds_toArray, List.set_cons_zero, List.set_cons_succ]
  refine wpAnyH_take (i := 8) (oi := { dst := some 22, op := Op.extract (Operand.tmp 14) 1, type := 31, pos := "wire.go:111", after := #[{ on := 6, ground := Ground.data }, { on := 9, ground := Ground.gcOnly Departure.lateStores }], guard := none }) (v := ?_) rfl (by kernel_rfl) (by kernel_rfl) (by kernel_rfl) (fun _ _ _ h => h) (Or.inl ⟨by rfl, ?_⟩) C1 ?_
  rotate_left
  · intro W' hSw
    clear hSw
    go_simp <;> with_reducible rfl
  try simp only [Act.put, List.setIfInBounds_toArray, List.set_cons_zero, List.set_cons_succ]
  refine wpAnyH_take (i := 9) (oi := { dst := some 7, op := Op.assign (Operand.tmp 21), type := 5, pos := "wire.go:111", after := #[{ on := 7, ground := Ground.data }, { on := 5, ground := Ground.chain }, { on := 0, ground := Ground.phase }, { on := 1, ground := Ground.phase }, { on := 2, ground := Ground.phase }, { on := 3, ground := Ground.phase }, { on := 4, ground := Ground.phase }, { on := 5, ground := Ground.phase }, { on := 6, ground := Ground.phase }, { on := 7, ground := Ground.phase }, { on := 8, ground := Ground.textOnly Departure.lateStores }], guard := none }) (v := ?_) rfl (by kernel_rfl) (by kernel_rfl) (by kernel_rfl) (fun _ _ _ h => h) (Or.inl ⟨by rfl, ?_⟩) C1 ?_
  rotate_left
  · intro W' hSw
    clear hSw
    go_simp <;> with_reducible rfl
  try simp only [Act.put, List.setIfInBounds_toArray, List.set_cons_zero, List.set_cons_succ]
  refine wpAnyH_take (i := 10) (oi := { dst := some 8, op := Op.assign (Operand.tmp 22), type := 31, pos := "wire.go:111", after := #[{ on := 8, ground := Ground.data }, { on := 9, ground := Ground.chain }, { on := 0, ground := Ground.phase }, { on := 1, ground := Ground.phase }, { on := 2, ground := Ground.phase }, { on := 3, ground := Ground.phase }, { on := 4, ground := Ground.phase }, { on := 5, ground := Ground.phase }, { on := 6, ground := Ground.phase }, { on := 7, ground := Ground.phase }, { on := 8, ground := Ground.phase }, { on := 9, ground := Ground.phase }], guard := none }) (v := ?_) rfl (by kernel_rfl) (by kernel_rfl) (by kernel_rfl) (fun _ _ _ h => h) (Or.inl ⟨by rfl, ?_⟩) C1 ?_
  rotate_left
  · intro W' hSw
    clear hSw
    go_simp <;> with_reducible rfl
  try simp only [Act.put, List.setIfInBounds_toArray, List.set_cons_zero, List.set_cons_succ]
  refine wpAnyH_done (by kernel_rfl) ?_ _
  refine NoPanic.normal ?_
  by_cases he : e = 0
  · subst he
    have hL := LL.out
    have hse : sendC g s c L t = ((v : Int), 0, c1, L ++ [keptC t (v : Int)]) := by unfold sendC; rw [HD.out]; rfl
    have x0 := Z2.out.cell_at 0 _ rfl
    by_cases h4 : t.k = 4
    · have HSE := Lib.hid (show sendC g s c L t = ((v : Int), 0, c1, L ++ [⟨t.k, v⟩]) by rw [hse]; unfold keptC; rw [if_pos h4]; rfl)
      clear hse
      have b4 : (t.k == 4) = true := by rw [h4]; rfl
      have j4 : (t.k = 4) = True := eq_true h4
      have d4 : decide (t.k = 4) = true := decide_eq_true h4
      clear h4
      have y1 := Z2.out.cell_at 1 _ rfl
      have f1 := Z2.out.frozen 1
      have S3 := Lib.hid (show CRow (w2.setCell ⟨w.heap.size, 1, none⟩ (.int .u8 (v : Int))) w.heap.size 40 #[.int .i64 t.k, .int .u8 (v : Int)] from Z2.out.setCell 1 (.int .u8 (v : Int)))
      have K3 := Lib.hid ((Btw.refl (I := fun j => j = w.heap.size) w2).setCell (p := ⟨w.heap.size, 1, none⟩) (v := .int .u8 (v : Int)) rfl)
      have W3 := Lib.hid (W2.out.other K3.out fun j _ hj => by
        have hj : j = w.heap.size := hj
        subst hj
        exact ⟨NH.out, NR.out, fun e => by have := NQ.out; omega⟩)
      have B3 := Lib.hid (B2.out.trans K3.out fun j _ hj => by
        have hj : j = w.heap.size := hj
        subst hj
        exact NEW.out _ (Nat.le_refl _))
      go_wp2_with fail
      obtain ⟨wx, hwx⟩ : ∃ wx, wx = w2.setCell ⟨w.heap.size, 1, none⟩ (.int .u8 (v : Int)) := ⟨_, rfl⟩
      rw [← hwx] at S3 K3 W3 B3
      try rw [← hwx]
      clear hwx x0 y1 f1 b4 j4 d4
      refine wp_region_noPanic ?_
      refine wp_region_held_drew (S := fun w' => CRow w' q 56 #[.pointer (some ⟨r, 0, none⟩), .pointer (some ⟨p, 0, none⟩)] ∧ CRow w' w.heap.size 40 #[.int .i64 t.k, .int .u8 (v : Int)]) (by kernel_rfl) ⟨W3.out.row.drew, S3.out.drew⟩ (fun C0 => ?_)
      refine wpAnyH_take (i := 0) (oi := { dst := some 45, op := Op.move (Operand.tmp 0), type := 29, pos := "wire.go:121", after := #[], guard := none }) (v := ?_) rfl (by kernel_rfl) (by kernel_rfl) (by kernel_rfl) (fun _ _ _ h => h) (Or.inl ⟨by rfl, ?_⟩) C0 ?_
      rotate_left
      · intro W' hSw
        clear hSw
        go_simp <;> with_reducible rfl
      try simp only [Act.put, List.setIfInBounds_toArray, List.set_cons_zero, List.set_cons_succ]
      refine wpAnyH_take (i := 1) (oi := { dst := some 46, op := Op.nilCheck (Operand.tmp 45), type := 0, pos := "wire.go:121", after := #[{ on := 0, ground := Ground.data }], guard := none }) (v := ?_) rfl (by kernel_rfl) (by kernel_rfl) (by kernel_rfl) (fun _ _ _ h => h) (Or.inl ⟨by rfl, ?_⟩) C0 ?_
      rotate_left
      · intro W' hSw
        clear hSw
        go_simp <;> with_reducible rfl
      try simp only [Act.put, List.setIfInBounds_toArray, List.set_cons_zero, List.set_cons_succ]
      refine wpAnyH_take (i := 2) (oi := { dst := some 47, op := Op.fieldAddr 56 (Operand.tmp 46) 0, type := 0, pos := "wire.go:121", after := #[{ on := 1, ground := Ground.data }], guard := none }) (v := ?_) rfl (by kernel_rfl) (by kernel_rfl) (by kernel_rfl) (fun _ _ _ h => h) (Or.inl ⟨by rfl, ?_⟩) C0 ?_
      rotate_left
      · intro W' hSw
        clear hSw
        go_simp <;> with_reducible rfl
      try simp only [Act.put, List.setIfInBounds_toArray, List.set_cons_zero, List.set_cons_succ]
      refine wpAnyH_take (i := 3) (oi := { dst := some 48, op := Op.load 54 (Operand.tmp 47), type := 54, pos := "wire.go:121", after := #[{ on := 2, ground := Ground.data }], guard := none }) (v := ?_) rfl (by kernel_rfl) (by kernel_rfl) (by kernel_rfl) (fun _ _ _ h => h) (Or.inl ⟨by rfl, ?_⟩) C0 ?_
      rotate_left
      · intro W' hSw
        obtain ⟨hs1, hs2⟩ := hSw
        have z1 := hs1.cell_at 0 _ rfl
        have y0 := hs2.cell_at 0 _ rfl
        have y1 := hs2.cell_at 1 _ rfl
        clear hs1 hs2
        go_simp <;> with_reducible rfl
      try simp only [Act.put, List.setIfInBounds_toArray, List.set_cons_zero, List.set_cons_succ]
      refine wpAnyH_take (i := 4) (oi := { dst := some 49, op := Op.load 40 (Operand.tmp 3), type := 40, pos := "wire.go:121", after := #[], guard := none }) (v := ?_) rfl (by kernel_rfl) (by kernel_rfl) (by kernel_rfl) (fun _ _ _ h => h) (Or.inl ⟨by rfl, ?_⟩) C0 ?_
      rotate_left
      · intro W' hSw
        obtain ⟨hs1, hs2⟩ := hSw
        have z1 := hs1.cell_at 0 _ rfl
        have y0 := hs2.cell_at 0 _ rfl
        have y1 := hs2.cell_at 1 _ rfl
        clear hs1 hs2
        go_simp <;> with_reducible rfl
      try simp only [Act.put, List.setIfInBounds_toArray, List.set_cons_zero, List.set_cons_succ]
      refine wpAnyH_ready (rs := [5]) (by kernel_rfl) (by simp) ?_
      refine AllReadyH.cons (o := { dst := some 50, op := Op.buildSlice 34 1 #[(0, Operand.tmp 49)], type := 34, pos := "wire.go:121", after := #[{ on := 4, ground := Ground.data }], guard := none }) rfl (fun K hK => ?_) AllReadyH.nil
      go_simp
      refine hK.out _ _ ⟨W3.out.row.drew.alloc (.cells #[.int .i64 t.k, .int .u8 (v : Int)] 40), S3.out.drew.alloc (.cells #[.int .i64 t.k, .int .u8 (v : Int)] 40)⟩ (fun C1 => ?_)
      clear hK K
      try simp only [Act.put, List.setIfInBounds_toArray, List.set_cons_zero, List.set_cons_succ]
      refine wpAnyH_ready (rs := [6]) (by kernel_rfl) (by simp) ?_
      refine AllReadyH.cons (o := { dst := some 51, op := Op.call { callee := Callee.value (Operand.func 44), args := #[Operand.tmp 48, Operand.tmp 50], argTypes := #[54, 34] }, type := 0, pos := "wire.go:121", after := #[{ on := 3, ground := Ground.data }, { on := 5, ground := Ground.data }], guard := none }) rfl (fun K hK => ?_) AllReadyH.nil
      go_simp
      have hx : RC (wx.drew.alloc (.cells #[.int .i64 t.k, .int .u8 (v : Int)] 40)) (some ⟨wx.heap.size, 0, none⟩) 1 [⟨t.k, v⟩] := RC.one wx.drew ⟨t.k, v⟩ ⟨HT.out.1, HT.out.2.1, HV.out⟩ 40
      have D4 := Lib.hid ((W3.out.below ((Below.refl _ _).drew)).below (below_new _ (.cells #[.int .i64 t.k, .int .u8 (v : Int)] 40)))
      refine (Add_any r IR L L.length M k (some ⟨wx.heap.size, 0, none⟩) 1 1 [⟨t.k, v⟩] _ D4.out.rc hx (by simp) (by omega) (by omega) (by omega)).mono ?_
      rintro _ w5 ⟨rfl, b5, J5, r5, j5⟩
      have W5 := Lib.hid (D4.out.turn (L' := L ++ [⟨t.k, v⟩]) b5 (by rw [List.length_append, List.length_singleton]; exact r5) j5)
      have B5 := Lib.hid ((((B3.out.drew).trans (Btw.of_below (I := I) (below_new _ (.cells #[.int .i64 t.k, .int .u8 (v : Int)] 40))) fun _ _ h => h)).trans (b5.more D4.out.ri) fun _ _ h => h)
      have R5 := Lib.hid (((W3.out.row.drew).alloc (.cells #[.int .i64 t.k, .int .u8 (v : Int)] 40)).btw b5 D4.out.nr)
      have Y5 := Lib.hid (((S3.out.drew).alloc (.cells #[.int .i64 t.k, .int .u8 (v : Int)] 40)).btw b5 (fun h => NR.out h))
      clear hx b5 r5 j5
      go_wp2_with fail
      refine hK.out _ _ ⟨R5.out, Y5.out⟩ (fun C2 => ?_)
      clear hK K
      try simp only [Act.put, List.setIfInBounds_toArray, List.set_cons_zero, List.set_cons_succ]
      refine wpAnyH_done (by kernel_rfl) ?_ _
      refine NoPanic.normal ?_
      go_wp2
      go_ret2
      refine ⟨k, Nat.le_succ k, fun _ => rfl, ?_⟩
      rw [show sendC g s c L t = ((v : Int), 0, c1, L ++ [⟨t.k, v⟩]) from HSE.out]
      exact ⟨rfl, W5.out, B5.out, O2.out⟩
    · have HSE := Lib.hid (show sendC g s c L t = ((v : Int), 0, c1, L ++ [⟨t.k, t.b⟩]) by rw [hse]; unfold keptC; rw [if_neg h4])
      clear hse
      have b4 : (t.k == 4) = false := by rw [beq_eq_false_iff_ne]; exact h4
      have j4 : (t.k = 4) = False := eq_false h4
      have d4 : decide (t.k = 4) = false := decide_eq_false h4
      clear h4
      have B3 := B2
      go_wp2_with fail
      clear x0 b4 j4 d4
      refine wp_region_noPanic ?_
      refine wp_region_held_drew (S := fun w' => CRow w' q 56 #[.pointer (some ⟨r, 0, none⟩), .pointer (some ⟨p, 0, none⟩)] ∧ CRow w' w.heap.size 40 #[.int .i64 t.k, .int .u8 (t.b : Int)]) (by kernel_rfl) ⟨W2.out.row.drew, Z2.out.drew⟩ (fun C0 => ?_)
      refine wpAnyH_take (i := 0) (oi := { dst := some 45, op := Op.move (Operand.tmp 0), type := 29, pos := "wire.go:121", after := #[], guard := none }) (v := ?_) rfl (by kernel_rfl) (by kernel_rfl) (by kernel_rfl) (fun _ _ _ h => h) (Or.inl ⟨by rfl, ?_⟩) C0 ?_
      rotate_left
      · intro W' hSw
        clear hSw
        go_simp <;> with_reducible rfl
      try simp only [Act.put, List.setIfInBounds_toArray, List.set_cons_zero, List.set_cons_succ]
      refine wpAnyH_take (i := 1) (oi := { dst := some 46, op := Op.nilCheck (Operand.tmp 45), type := 0, pos := "wire.go:121", after := #[{ on := 0, ground := Ground.data }], guard := none }) (v := ?_) rfl (by kernel_rfl) (by kernel_rfl) (by kernel_rfl) (fun _ _ _ h => h) (Or.inl ⟨by rfl, ?_⟩) C0 ?_
      rotate_left
      · intro W' hSw
        clear hSw
        go_simp <;> with_reducible rfl
      try simp only [Act.put, List.setIfInBounds_toArray, List.set_cons_zero, List.set_cons_succ]
      refine wpAnyH_take (i := 2) (oi := { dst := some 47, op := Op.fieldAddr 56 (Operand.tmp 46) 0, type := 0, pos := "wire.go:121", after := #[{ on := 1, ground := Ground.data }], guard := none }) (v := ?_) rfl (by kernel_rfl) (by kernel_rfl) (by kernel_rfl) (fun _ _ _ h => h) (Or.inl ⟨by rfl, ?_⟩) C0 ?_
      rotate_left
      · intro W' hSw
        clear hSw
        go_simp <;> with_reducible rfl
      try simp only [Act.put, List.setIfInBounds_toArray, List.set_cons_zero, List.set_cons_succ]
      refine wpAnyH_take (i := 3) (oi := { dst := some 48, op := Op.load 54 (Operand.tmp 47), type := 54, pos := "wire.go:121", after := #[{ on := 2, ground := Ground.data }], guard := none }) (v := ?_) rfl (by kernel_rfl) (by kernel_rfl) (by kernel_rfl) (fun _ _ _ h => h) (Or.inl ⟨by rfl, ?_⟩) C0 ?_
      rotate_left
      · intro W' hSw
        obtain ⟨hs1, hs2⟩ := hSw
        have z1 := hs1.cell_at 0 _ rfl
        have y0 := hs2.cell_at 0 _ rfl
        have y1 := hs2.cell_at 1 _ rfl
        clear hs1 hs2
        go_simp <;> with_reducible rfl
      try simp only [Act.put, List.setIfInBounds_toArray, List.set_cons_zero, List.set_cons_succ]
      refine wpAnyH_take (i := 4) (oi := { dst := some 49, op := Op.load 40 (Operand.tmp 3), type := 40, pos := "wire.go:121", after := #[], guard := none }) (v := ?_) rfl (by kernel_rfl) (by kernel_rfl) (by kernel_rfl) (fun _ _ _ h => h) (Or.inl ⟨by rfl, ?_⟩) C0 ?_
      rotate_left
      · intro W' hSw
        obtain ⟨hs1, hs2⟩ := hSw
        have z1 := hs1.cell_at 0 _ rfl
        have y0 := hs2.cell_at 0 _ rfl
        have y1 := hs2.cell_at 1 _ rfl
        clear hs1 hs2
        go_simp <;> with_reducible rfl
      try simp only [Act.put, List.setIfInBounds_toArray, List.set_cons_zero, List.set_cons_succ]
      refine wpAnyH_ready (rs := [5]) (by kernel_rfl) (by simp) ?_
      refine AllReadyH.cons (o := { dst := some 50, op := Op.buildSlice 34 1 #[(0, Operand.tmp 49)], type := 34, pos := "wire.go:121", after := #[{ on := 4, ground := Ground.data }], guard := none }) rfl (fun K hK => ?_) AllReadyH.nil
      go_simp
      refine hK.out _ _ ⟨W2.out.row.drew.alloc (.cells #[.int .i64 t.k, .int .u8 (t.b : Int)] 40), Z2.out.drew.alloc (.cells #[.int .i64 t.k, .int .u8 (t.b : Int)] 40)⟩ (fun C1 => ?_)
      clear hK K
      try simp only [Act.put, List.setIfInBounds_toArray, List.set_cons_zero, List.set_cons_succ]
      refine wpAnyH_ready (rs := [6]) (by kernel_rfl) (by simp) ?_
      refine AllReadyH.cons (o := { dst := some 51, op := Op.call { callee := Callee.value (Operand.func 44), args := #[Operand.tmp 48, Operand.tmp 50], argTypes := #[54, 34] }, type := 0, pos := "wire.go:121", after := #[{ on := 3, ground := Ground.data }, { on := 5, ground := Ground.data }], guard := none }) rfl (fun K hK => ?_) AllReadyH.nil
      go_simp
      have hx : RC (w2.drew.alloc (.cells #[.int .i64 t.k, .int .u8 (t.b : Int)] 40)) (some ⟨w2.heap.size, 0, none⟩) 1 [⟨t.k, t.b⟩] := RC.one w2.drew ⟨t.k, t.b⟩ ⟨HT.out.1, HT.out.2.1, HT.out.2.2⟩ 40
      have D4 := Lib.hid ((W2.out.below ((Below.refl _ _).drew)).below (below_new _ (.cells #[.int .i64 t.k, .int .u8 (t.b : Int)] 40)))
      refine (Add_any r IR L L.length M k (some ⟨w2.heap.size, 0, none⟩) 1 1 [⟨t.k, t.b⟩] _ D4.out.rc hx (by simp) (by omega) (by omega) (by omega)).mono ?_
      rintro _ w5 ⟨rfl, b5, J5, r5, j5⟩
      have W5 := Lib.hid (D4.out.turn (L' := L ++ [⟨t.k, t.b⟩]) b5 (by rw [List.length_append, List.length_singleton]; exact r5) j5)
      have B5 := Lib.hid ((((B3.out.drew).trans (Btw.of_below (I := I) (below_new _ (.cells #[.int .i64 t.k, .int .u8 (t.b : Int)] 40))) fun _ _ h => h)).trans (b5.more D4.out.ri) fun _ _ h => h)
      have R5 := Lib.hid (((W2.out.row.drew).alloc (.cells #[.int .i64 t.k, .int .u8 (t.b : Int)] 40)).btw b5 D4.out.nr)
      have Y5 := Lib.hid (((Z2.out.drew).alloc (.cells #[.int .i64 t.k, .int .u8 (t.b : Int)] 40)).btw b5 (fun h => NR.out h))
      clear hx b5 r5 j5
      go_wp2_with fail
      refine hK.out _ _ ⟨R5.out, Y5.out⟩ (fun C2 => ?_)
      clear hK K
      try simp only [Act.put, List.setIfInBounds_toArray, List.set_cons_zero, List.set_cons_succ]
      refine wpAnyH_done (by kernel_rfl) ?_ _
      refine NoPanic.normal ?_
      go_wp2
      go_ret2
      refine ⟨k, Nat.le_succ k, fun _ => rfl, ?_⟩
      rw [show sendC g s c L t = ((v : Int), 0, c1, L ++ [⟨t.k, t.b⟩]) from HSE.out]
      exact ⟨rfl, W5.out, B5.out, O2.out⟩
  · have hse : sendC g s c L t = (0, e, c1, L) := by unfold sendC; rw [HD.out]; exact if_neg he
    have HSE := Lib.hid hse
    have HE := Lib.hid he
    have b0 : (e == 0) = false := by rw [beq_eq_false_iff_ne]; exact he
    have n0 : (e != 0) = true := by simp [he]
    have j0 : (e = 0) = False := eq_false he
    have d0 : decide (e = 0) = false := decide_eq_false he
    clear hse he
    have x1 := W2.out.row.cell_at 1 _ rfl
    cases on with
    | false =>
      go_wp2
      go_ret2
      refine ⟨k, Nat.le_succ k, fun _ => rfl, ?_⟩
      rw [HSE.out]
      exact ⟨rfl, ⟨IX, IR, M, W2.out⟩, B2.out, O2.out⟩
    | true =>
      go_wp2_with fail
      clear x1
      refine (HON1.out _ W2.out.ch).mono ?_
      rintro _ w3 ⟨rfl, h3⟩
      have W3 := Lib.hid (W2.out.below h3)
      have B3 := Lib.hid (B2.out.trans (Btw.of_below h3) fun _ _ h => h)
      clear h3
      cases on1 with
      | true =>
        go_wp2
        go_ret2
        refine ⟨k, Nat.le_succ k, fun _ => rfl, ?_⟩
        rw [HSE.out]
        exact ⟨rfl, ⟨IX, IR, M, W3.out⟩, B3.out, O2.out⟩
      | false =>
        have x0 := W3.out.row.cell_at 0 _ rfl
        go_wp2_with fail
        clear x0
        refine (Mark_any r IR L _ M k _ _ W3.out.rc KK.out (by have := LL.out; omega) (by decide)).mono ?_
        rintro _ w4 ⟨rfl, b4, J4, r4, j4⟩
        have W4 := Lib.hid (W3.out.turn b4 r4 j4)
        have B4 := Lib.hid (B3.out.trans (b4.more W3.out.ri) fun _ _ h => h)
        clear b4 r4 j4
        go_wp2
        go_ret2
        refine ⟨k + 1, Nat.le_refl _, fun h => absurd (by rw [HSE.out] at h; exact h) HE.out, ?_⟩
        rw [HSE.out]
        exact ⟨rfl, W4.out, B4.out, O2.out⟩
end
end Go.Proofs.YtlnmehcanphmiaaGreat

/-
  A wire's New, Send, Trace, Sent, Chip, Command, Address, Write, Read.
-/
namespace Go.Proofs.YtlnmehcanphmiaaGreat
open Go.RowKit
set_option maxRecDepth 100000

theorem RC.btw0 {I : Nat → Prop} {w w' : World} {A : Option Addr} {n : Nat} {l : List Cy} (h : RC w A n l) (hb : Btw I w w') (hA : ∀ b off, A = some ⟨b, off, none⟩ → 0 < n → ¬ I b) : RC w' A n l :=
  ⟨h.1, h.2.1, fun hn => by
    obtain ⟨b, off, e, hlt, hc⟩ := h.2.2 hn
    refine ⟨b, off, e, Nat.lt_of_lt_of_le hlt hb.size, fun j hj => ?_⟩
    rw [World.cell?_of_block (hb.block b hlt (hA b off e hn))]
    exact hc j hj⟩
theorem Wi.widen {I I' : Nat → Prop} {w : World} {q p r : Nat} {g : Gm} {s : Sc} {c : Ch} {L : List Cy} {k : Nat} (h : Wi I' w q p r g s c L k) (hi : ∀ j, I' j → I j) (hq : I q) : Wi I w q p r g s c L k := by
  obtain ⟨IC, IR, M, h⟩ := h
  exact ⟨IC, IR, M, { h with ci := fun j hj => hi j (h.ci j hj), ri := fun j hj => hi j (h.ri j hj), qi := hq }⟩
theorem Wi.qi {I : Nat → Prop} {w : World} {q p r : Nat} {g : Gm} {s : Sc} {c : Ch} {L : List Cy} {k : Nat} (h : Wi I w q p r g s c L k) : I q := by
  obtain ⟨IC, IR, M, h⟩ := h
  exact h.qi
section
variable {I IC IR : Nat → Prop} {w : World} {q p r : Nat} {g : Gm} {s : Sc} {c : Ch} {L : List Cy} {M : ByteArray → Option Nat} {k : Nat}
/-- Cycles were sent. -/
def SentIs (I : Nat → Prop) (q p r : Nat) (g : Gm) (s : Sc) (c : Ch) (L : List Cy) (k Q : Nat) (ts : List Cy) (w : World) (e : Ending) (w' : World) : Prop :=
  ∃ k', k' ≤ k + 1 ∧ e = .returned (.int .i64 (runW g s c L ts).e) ∧ Wi I w' q p r g s (runW g s c L ts).c (runW g s c L ts).l k' ∧ Btw I w w' ∧ ((runW g s c L ts).c.on = true → Okc g (Q + ts.length) (runW g s c L ts).c) ∧ ((runW g s c L ts).e = 0 → k' = k)
set_option maxHeartbeats 4000000 in
theorem Send_any {Q : Nat} (A : Option Addr) (n d : Nat) (ts : List Cy) (hts : RC w A n ts) (hA : ∀ b off, A = some ⟨b, off, none⟩ → 0 < n → ¬ I b) (hn : n ≤ 1000) (hQ : Q + n ≤ 100000) (hs : SG g s) (ho : c.on = true → Okc g Q c) (hL : L.length ≤ 100000) (hk : k < 1000) (h : Wi I w q p r g s c L k) :
    Calls Tryz.prog 28 #[.pointer (some ⟨q, 0, none⟩), .slice A n d] w (SentIs I q p r g s c L k Q ts w) := by
  have HR := Lib.hid hts
  have HA := Lib.hid hA
  have HLN := Lib.hid hts.len
  have H0 := Lib.hid h
  have HS := Lib.hid hs
  have HO := Lib.hid ho
  obtain ⟨IC, IR, M, hh⟩ := h
  have R0 := Lib.hid hh.row
  clear hts hA hs ho hh
  go_enter Tryz.func28, Tryz.ntmps28
  go_wp2_with fail
  refine (wmade_yes R0.out).mono ?_
  rintro _ w1 ⟨rfl, h1⟩
  have B1 := Lib.hid h1
  have H1 := Lib.hid (H0.out.below h1)
  clear h1 R0 H0
  go_wp2
  go_loopw [14] (fun i wr => ∃ j : Nat, j ≤ n ∧ i = .int .i64 (j : Int) ∧ Hid ((runW g s c L (ts.take j)).e = 0) ∧ Hid ((runW g s c L (ts.take j)).c.on = true → Okc g (Q + j) (runW g s c L (ts.take j)).c) ∧ Hid (Wi I wr q p r g s (runW g s c L (ts.take j)).c (runW g s c L (ts.take j)).l k) ∧ Hid (Btw I w wr)) (fun i _ => n - (intOf i).toNat)
  case atStart => exact ⟨0, Nat.zero_le _, rfl, by rw [runW_zero]; exact Lib.hid rfl, by rw [runW_zero]; exact HO, by rw [runW_zero]; exact H1, Lib.hid (Btw.of_below B1.out)⟩
  case round =>
    obtain ⟨j, hj, rfl, HE, HK, HW, HB⟩ := hrel
    rename World => wr
    clear H1 B1
    by_cases hlt : j < n
    · obtain ⟨b9, o9, t, hA9, hb9, HX, hin, x0, x1⟩ := (HR.out.btw0 HB.out HA.out).at_ hlt
      have d1 : decide ((j : Int) < (n : Int)) = true := decide_eq_true (by omega)
      have i0 : (0 : Int) ≤ (j : Int) := by omega
      have N1 := Lib.hid (below_new wr (.cells #[.int .i64 t.k, .int .u8 (t.b : Int)] 40))
      have hlen : (runW g s c L (ts.take j)).l.length ≤ L.length + j := by
        have h9 := (runW_len (g := g) (s := s) (c := c) (L := L) (ts := ts.take j)).1
        have := List.length_take_le j ts
        omega
      have W1 := Lib.hid (HW.out.below N1.out)
      have B1 := Lib.hid (HB.out.trans (Btw.of_below (I := I) N1.out) fun _ _ h => h)
      have HN := Lib.hid (runW_succ (g := g) (s := s) (c := c) (L := L) HX.out)
      obtain ⟨a, ha⟩ : ∃ a, a = runW g s c L (ts.take j) := ⟨_, rfl⟩
      rw [← ha] at HE HK W1 HN hlen
      have HAA := Lib.hid ha
      have HS1 := Lib.hid (send_any (Q := Q + j) t hin (by omega) HS.out HK.out (by omega) hk W1.out)
      have HNN := Lib.hid (show runW g s c L (ts.take (j + 1)) = ⟨(sendC g s a.c a.l t).2.1, (sendC g s a.c a.l t).2.2.1, (sendC g s a.c a.l t).2.2.2⟩ from HN.out.trans (if_pos HE.out))
      unfold Sends at HS1
      obtain ⟨z, hz⟩ : ∃ z, z = sendC g s a.c a.l t := ⟨_, rfl⟩
      rw [← hz] at HNN HS1
      obtain ⟨v, e, c1, l1⟩ := z
      simp only at HS1 HNN
      clear ha HN hz HB HW hb9 hin W1 hlen HE
      subst hA9
      go_wp2_with fail
      clear x0 x1
      refine HS1.out.mono ?_
      rintro _ w2 ⟨k', hk', hkk, rfl, h2, b2, o2⟩
      have H2 := Lib.hid h2
      have B2 := Lib.hid (B1.out.trans b2 fun _ _ h => h)
      have O2 := Lib.hid o2
      have KK := Lib.hid hk'
      clear h2 b2 o2 HS1 hk' N1 B1
      by_cases he : e = 0
      · have HKK := Lib.hid (hkk he)
        subst he
        clear hkk
        go_wp2
        go_roundw
        case rel => exact ⟨j + 1, by omega, by go_num, by rw [HNN.out]; exact Lib.hid rfl, by rw [HNN.out]; exact O2, by rw [HNN.out]; exact HKK.out ▸ H2, B2⟩
        case measure => simp [intOf]; omega
      · have HE2 := Lib.hid he
        have b0 : (e == 0) = false := by rw [beq_eq_false_iff_ne]; exact he
        have n0 : (e != 0) = true := by simp [he]
        have j0 : (e = 0) = False := eq_false he
        have dd0 : decide (e = 0) = false := decide_eq_false he
        clear hkk he
        go_wp2
        go_ret
        have hst : runW g s c L ts = ⟨e, c1, l1⟩ := (runW_stuck (k := j + 1) (by rw [HNN.out]; exact HE2.out)).trans HNN.out
        refine ⟨k', KK.out, ?_⟩
        rw [hst]
        exact ⟨rfl, H2.out, B2.out, fun h => (O2.out h).more (by have := HLN.out; omega), fun h => absurd h HE2.out⟩
    · obtain rfl : j = n := by omega
      have d1 : decide ((j : Int) < (j : Int)) = false := decide_eq_false (by omega)
      have ht : ts.take j = ts := List.take_of_length_le (by have := HLN.out; omega)
      rw [ht] at HE HK HW
      have HT := Lib.hid ht
      clear ht
      go_wp2
      go_ret
      refine ⟨k, Nat.le_succ k, ?_⟩
      rw [HE.out, HLN.out]
      exact ⟨rfl, HW.out, HB.out, HK.out, fun _ => rfl⟩
theorem Sent_any (h : Wi I w q p r g s c L k) : Calls Tryz.prog 13 #[.pointer (some ⟨q, 0, none⟩)] w (Gives (.int .i64 ((L.length : Nat) : Int)) w) := by
  obtain ⟨IC, IR, M, h⟩ := h
  have H0 := Lib.hid h
  clear h
  go_enter Tryz.func13, Tryz.ntmps13
  go_wp2_with fail
  refine (wmade_yes H0.out.row).mono ?_
  rintro _ w1 ⟨rfl, h1⟩
  have B1 := Lib.hid h1
  have H1 := Lib.hid (H0.out.below h1)
  clear h1 H0
  have x0 := H1.out.row.cell_at 0 _ rfl
  go_wp2_with fail
  clear x0
  refine (AllR_any r IR L _ M k _ H1.out.rc).mono ?_
  rintro _ w2 ⟨rfl, h2⟩
  have B2 := Lib.hid (below_step B1.out h2)
  clear h2
  go_wp2
  go_ret
  exact ⟨rfl, B2.out⟩
theorem Trace_any (hL : L.length ≤ 1099511627775) (h : Wi I w q p r g s c L k) : Calls Tryz.prog 10 #[.pointer (some ⟨q, 0, none⟩)] w (OwnsC L w) := by
  obtain ⟨IC, IR, M, h⟩ := h
  have H0 := Lib.hid h
  clear h
  go_enter Tryz.func10, Tryz.ntmps10
  go_wp2_with fail
  refine (wmade_yes H0.out.row).mono ?_
  rintro _ w1 ⟨rfl, h1⟩
  have B1 := Lib.hid h1
  have H1 := Lib.hid (H0.out.below h1)
  clear h1 H0
  have x0 := H1.out.row.cell_at 0 _ rfl
  have HLI := Lib.hid (List_any r IR L _ M k _ H1.out.rc hL)
  go_wp2_with fail
  clear x0
  refine HLI.out.mono ?_
  rintro _ w2 ⟨h2, A, cc, rfl, r2⟩
  have B2 := Lib.hid (below_step B1.out h2)
  have R2 := Lib.hid r2
  clear h2 r2
  go_wp2
  go_ret
  exact ⟨B2.out, A, cc, rfl, R2.out⟩
set_option maxHeartbeats 1000000 in
theorem WNew_any (h : CH I w p g s c) : Calls Tryz.prog 16 #[.pointer (some ⟨p, 0, none⟩)] w fun e w' => ∃ q r, e = .returned (.tuple #[.pointer (some ⟨q, 0, none⟩), .int .i64 0]) ∧ Below w.heap.size w w' ∧ Wi I w' q p r g s c [] 0 := by
  have H0 := Lib.hid h
  clear h
  go_enter Tryz.func16, Tryz.ntmps16
  go_wp2_with fail
  refine (Array_any H0.out).mono ?_
  rintro _ w1 ⟨a, aq, ar, J, rfl, -, h1⟩
  have B1 := Lib.hid h1
  have H1 := Lib.hid (H0.out.below h1)
  clear h1 H0
  go_wp2_with fail
  refine (TrNew_any _).mono ?_
  rintro _ w2 ⟨r, IR, rfl, h2, r2, i2⟩
  have B2 := Lib.hid (below_step B1.out h2)
  have H2 := Lib.hid (H1.out.shrink h2)
  have R2 := Lib.hid r2
  have I2 := Lib.hid i2
  have LT := Lib.hid (H1.out.new_)
  have SZ := Lib.hid h2.size
  clear h2 r2 i2 H1
  have N3 := Lib.hid (below_new w2 (.cells #[.pointer (some ⟨r, 0, none⟩), .pointer (some ⟨p, 0, none⟩)] 56))
  have Z3 := Lib.hid (CRow.new w2 #[.pointer (some ⟨r, 0, none⟩), .pointer (some ⟨p, 0, none⟩)] 56)
  have H3 := Lib.hid (H2.out.shrink N3.out)
  have R3 := Lib.hid (R2.out.below N3.out)
  have B3 := Lib.hid (below_step B2.out N3.out)
  have RL := Lib.hid R2.out.lt
  go_wp2
  go_ret2
  refine ⟨w2.heap.size, r, rfl, B3.out, _, IR, _, Z3.out, H3.out, R3.out, ?_, ?_, ?_, ?_, ?_, ?_⟩
  · intro j h1 h2
    have h3 := I2.out j h1
    have h4 := RL.out j h1
    have h5 := h2.1.2
    omega
  · intro h1
    have h3 : (w2.alloc (.cells #[.pointer (some ⟨r, 0, none⟩), .pointer (some ⟨p, 0, none⟩)] 56)).heap.size = w2.heap.size + 1 := by simp
    have h2 : w2.heap.size < w2.heap.size ∨ (w2.alloc (.cells #[.pointer (some ⟨r, 0, none⟩), .pointer (some ⟨p, 0, none⟩)] 56)).heap.size ≤ w2.heap.size := h1.2
    omega
  · intro h1
    exact absurd (RL.out _ h1) (Nat.lt_irrefl _)
  · intro j hj
    exact hj.1.1
  · intro j hj
    exact LT.out j (I2.out j hj)
  · exact LT.out _ SZ.out
set_option maxHeartbeats 2000000 in
theorem WCommand_any {Q : Nat} (B : Option Addr) (n d : Nat) (b : List Nat) (hb : R8 w B n b) (hn : n ≤ 1000) (hQ : Q + n ≤ 100000) (hs : SG g s) (ho : c.on = true → Okc g Q c) (hL : L.length ≤ 100000) (hk : k < 1000) (h : Wi I w q p r g s c L k) :
    Calls Tryz.prog 18 #[.pointer (some ⟨q, 0, none⟩), .slice B n d] w (SentIs I q p r g s c L k Q (ofL 1 b) w) := by
  have hOf := Of_any 1 B n d b w hb (by omega)
  have HH := Lib.hid h
  have HS := Lib.hid hs
  have HO := Lib.hid ho
  have HLN := Lib.hid hb.len
  have H8 := Lib.hid hb.2
  clear h hs ho hb
  go_enter Tryz.func18, Tryz.ntmps18
  go_wp2_with fail
  refine hOf.mono ?_
  rintro e w1 ⟨A, c1, rfl, hown, B1⟩
  have hfar : ∀ b off, A = some ⟨b, off, none⟩ → w.heap.size ≤ b := fun b off e => by
    rcases hown.2 with ⟨hv, _⟩ | ⟨gg, cap, cur, hv, hbase, _⟩
    · rw [e] at hv
      injection hv with hv
      cases hv
    · rw [e] at hv
      injection hv with hv
      injection hv with hv
      injection hv with hv _
      omega
  have hl : RC w1 A (ofL 1 b).length (ofL 1 b) := RC.own hown fun t ht => by
    unfold ofL at ht
    obtain ⟨x, hx, rfl⟩ := List.mem_map.1 ht
    exact ⟨by show (-9223372036854775808 : Int) ≤ 1; decide, by show (1 : Int) ≤ _; decide, H8.out x hx⟩
  have W1 := Lib.hid (HH.out.away (J := fun _ => False) (Btw.of_below B1) fun _ _ h => h.elim)
  have hle : (ofL 1 b).length = n := by rw [ofL_length]; exact HLN.out
  rw [hle] at hl ⊢
  have hsd := Send_any (Q := Q) A n c1 (ofL 1 b) hl (fun bb off e hpos hi => by
    rcases hi.2 with h1 | h1
    · exact absurd (hfar bb off e) (by omega)
    · obtain ⟨b2, o2, e2, h2, _⟩ := hl.2.2 hpos
      rw [e] at e2
      injection e2 with e2
      injection e2 with e2 _
      omega) (by omega) hQ HS.out HO.out hL hk W1.out
  have BB := Lib.hid B1
  have SUB := Lib.hid (fun (j : Nat) (hj : I j ∧ (j < w.heap.size ∨ w1.heap.size ≤ j)) => hj.1)
  clear hl hOf B1 hle hfar hown
  go_wp2_with fail
  refine hsd.mono ?_
  rintro _ w2 ⟨k', hk', rfl, h2, b2, o2, kk2⟩
  have KK2 := Lib.hid kk2
  have H2 := Lib.hid (h2.widen SUB.out HH.out.qi)
  have B2 := Lib.hid ((Btw.of_below (I := I) BB.out).trans (b2.more SUB.out) fun _ _ h => h)
  have O2 := Lib.hid o2
  clear h2 b2 o2 hsd kk2
  go_wp2
  go_ret
  refine ⟨k', hk', rfl, H2.out, B2.out, ?_, KK2.out⟩
  rw [ofL_length, HLN.out]
  have h9 := O2.out
  rw [ofL_length, HLN.out] at h9
  exact h9
end
end Go.Proofs.YtlnmehcanphmiaaGreat

/-
  A wire's Read.
-/
namespace Go.Proofs.YtlnmehcanphmiaaGreat
open Go.RowKit
set_option maxRecDepth 100000

theorem sendC_ok {g : Gm} {s : Sc} {c : Ch} {L : List Cy} {t : Cy} (h : (sendC g s c L t).2.1 = 0) : (sendC g s c L t).2.2.2 = L ++ [keptC t (sendC g s c L t).1] := by
  unfold sendC at h ⊢
  split
  · rfl
  · rename_i h1
    rw [if_neg h1] at h
    exact absurd h h1
theorem sendC_byte {g : Gm} {s : Sc} {c : Ch} {L : List Cy} {t : Cy} (h : ∀ x ∈ c.reg, x < 256) : 0 ≤ (sendC g s c L t).1 ∧ (sendC g s c L t).1 < 256 := by
  unfold sendC
  split
  · exact doC_byte t h
  · simp
theorem Wi.regs {I : Nat → Prop} {w : World} {q p r : Nat} {g : Gm} {s : Sc} {c : Ch} {L : List Cy} {k : Nat} (h : Wi I w q p r g s c L k) : ∀ x ∈ c.reg, x < 256 := by
  obtain ⟨IC, IR, M, h⟩ := h
  exact (Go.Proofs.YtlnmehcanphmiaaGreat.regs h.ch).2.2.2.2
/-- The Reads of n. -/
def rds (n : Nat) : List Cy := List.replicate n ⟨4, 0⟩
theorem rds_at {n j : Nat} (h : j < n) : (rds n)[j]? = some ⟨4, 0⟩ := by unfold rds; rw [List.getElem?_replicate, if_pos h]
/-- What was read. -/
def readB (L l : List Cy) : List Nat := (l.drop L.length).map (·.b)
section
variable {I : Nat → Prop} {w : World} {q p r : Nat} {g : Gm} {s : Sc} {c : Ch} {L : List Cy} {k : Nat}
def ReadIs (I : Nat → Prop) (q p r : Nat) (g : Gm) (s : Sc) (c : Ch) (L : List Cy) (k Q n : Nat) (w : World) (e : Ending) (w' : World) : Prop :=
  ∃ k' A d, k' ≤ k + 1 ∧ ((runW g s c L (rds n)).e = 0 → e = .returned (.tuple #[.slice A n d, .int .i64 0]) ∧ w'.ownsRow w.heap.size 5 1 (.slice A n d) n (U8 (readB L (runW g s c L (rds n)).l)) ∧ R8 w' A n (readB L (runW g s c L (rds n)).l)) ∧
    ((runW g s c L (rds n)).e ≠ 0 → e = .returned (.tuple #[.slice none 0 0, .int .i64 (runW g s c L (rds n)).e])) ∧
    (∃ I', Wi I' w' q p r g s (runW g s c L (rds n)).c (runW g s c L (rds n)).l k' ∧ (∀ j, I' j → I j) ∧ ((runW g s c L (rds n)).e = 0 → ∀ j, (Value.slice A n d).ownBlock = some j → ¬ I' j)) ∧ Btw I w w' ∧ ((runW g s c L (rds n)).c.on = true → Okc g (Q + n) (runW g s c L (rds n)).c) ∧ ((runW g s c L (rds n)).e = 0 → k' = k)
theorem readB_len {n : Nat} (ts : List Cy) (h : (runW g s c L ts).e = 0) (hn : ts.length = n) : (readB L (runW g s c L ts).l).length = n := by
  unfold readB
  rw [List.length_map, List.length_drop, (runW_len).2 h]
  omega
set_option maxHeartbeats 8000000 in
theorem Read_any {Q : Nat} (n : Nat) (hn : n ≤ 1000) (hQ : Q + n ≤ 100000) (hs : SG g s) (ho : c.on = true → Okc g Q c) (hL : L.length ≤ 100000) (hk : k < 1000) (h : Wi I w q p r g s c L k) :
    Calls Tryz.prog 21 #[.pointer (some ⟨q, 0, none⟩), .int .i64 (n : Int)] w (ReadIs I q p r g s c L k Q n w) := by
  have H0 := Lib.hid h
  have HS := Lib.hid hs
  have HO := Lib.hid ho
  have HN := Lib.hid hn
  obtain ⟨IC, IR, M, hh⟩ := h
  have R0 := Lib.hid hh.row
  have n0 : decide ((n : Int) < 0) = false := decide_eq_false (by omega)
  have n1 : decide (16777216 < (n : Int)) = false := decide_eq_false (by omega)
  clear hs ho hh
  go_enter Tryz.func21, Tryz.ntmps21
  go_wp2_with fail
  refine (wmade_yes R0.out).mono ?_
  rintro _ w1 ⟨rfl, h1⟩
  have B1 := Lib.hid h1
  have H1 := Lib.hid (H0.out.below h1)
  clear h1 R0 H0
  go_wp2
  clear n0 n1
  go_loopw [19, 6] (fun i v wr => ∃ (j : Nat) (A : Option Addr) (d : Nat) (I' : Nat → Prop), j ≤ n ∧ i = .int .i64 (j : Int) ∧ v = .slice A j d ∧ Hid ((runW g s c L ((rds n).take j)).e = 0) ∧ Hid ((runW g s c L ((rds n).take j)).c.on = true → Okc g (Q + j) (runW g s c L ((rds n).take j)).c) ∧ Hid (Wi I' wr q p r g s (runW g s c L ((rds n).take j)).c (runW g s c L ((rds n).take j)).l k) ∧ Hid (Btw I w wr) ∧ Hid (∀ j, I' j → I j) ∧ Hid (w.heap.size ≤ wr.heap.size) ∧
    Hid (wr.ownsRow w.heap.size 5 1 (.slice A j d) j (U8 (readB L (runW g s c L ((rds n).take j)).l))) ∧ Hid (∀ x, (Value.slice A j d).ownBlock = some x → ¬ I' x) ∧ Hid (∀ x ∈ readB L (runW g s c L ((rds n).take j)).l, x < 256)) (fun i _ _ => n - (intOf i).toNat)
  case atStart => exact ⟨0, none, 0, I, Nat.zero_le _, rfl, rfl, by rw [runW_zero]; exact Lib.hid rfl, by rw [runW_zero]; exact HO, by rw [runW_zero]; exact H1, Lib.hid (Btw.of_below B1.out), Lib.hid (fun _ h => h), Lib.hid B1.out.size, Lib.hid (by rw [runW_zero]; simp only [readB, List.drop_length, List.map_nil]; exact World.ownsRow_nil _ _ _ _), Lib.hid (fun x hx => by cases hx), Lib.hid (by rw [runW_zero]; simp [readB])⟩
  case round =>
    obtain ⟨j, A, d, I', hj, rfl, rfl, HE, HK, HW, HB, HI, HZ, HOW, HNI, H256⟩ := hrel
    rename World => wr
    clear H1 B1
    by_cases hlt : j < n
    · have d1 : decide ((j : Int) < (n : Int)) = true := decide_eq_true (by omega)
      have i0 : (0 : Int) ≤ (j : Int) := by omega
      have hlt' : ((rds n).take j).length = j := by rw [List.length_take]; unfold rds; rw [List.length_replicate]; omega
      have hll := readB_len (g := g) (s := s) (c := c) (L := L) ((rds n).take j) HE.out hlt'
      have hlen : (runW g s c L ((rds n).take j)).l.length = L.length + j := by
        have h9 := (runW_len (g := g) (s := s) (c := c) (L := L) (ts := (rds n).take j)).2 HE.out
        omega
      have HNX := Lib.hid (runW_succ (g := g) (s := s) (c := c) (L := L) (rds_at hlt))
      obtain ⟨a, ha⟩ : ∃ a, a = runW g s c L ((rds n).take j) := ⟨_, rfl⟩
      rw [← ha] at HE HK HW HNX HOW H256 hlen hll
      have HS1 := Lib.hid (send_any (Q := Q + j) ⟨4, 0⟩ ⟨by decide, by decide, by decide⟩ (by omega) HS.out HK.out (by omega) hk HW.out)
      have HNN := Lib.hid (show runW g s c L ((rds n).take (j + 1)) = ⟨(sendC g s a.c a.l ⟨4, 0⟩).2.1, (sendC g s a.c a.l ⟨4, 0⟩).2.2.1, (sendC g s a.c a.l ⟨4, 0⟩).2.2.2⟩ from HNX.out.trans (if_pos HE.out))
      have hby := sendC_byte (g := g) (s := s) (L := a.l) (t := ⟨4, 0⟩) HW.out.regs
      have hokl := sendC_ok (g := g) (s := s) (c := a.c) (L := a.l) (t := ⟨4, 0⟩)
      unfold Sends at HS1
      obtain ⟨z, hz⟩ : ∃ z, z = sendC g s a.c a.l ⟨4, 0⟩ := ⟨_, rfl⟩
      rw [← hz] at HNN HS1 hby hokl
      obtain ⟨v0, e, c1, l1⟩ := z
      simp only at HS1 HNN hby hokl
      obtain ⟨v, rfl⟩ : ∃ v : Nat, v0 = (v : Int) := ⟨v0.toNat, by omega⟩
      have HV := Lib.hid (show v < 256 by omega)
      have HKL := Lib.hid hokl
      have HLL := Lib.hid hll
      have HLN := Lib.hid hlen
      clear ha HNX hz HW HE hby hokl hlt' hll hlen
      go_wp2_with fail
      refine HS1.out.mono ?_
      rintro _ w2 ⟨k', hk', hkk, rfl, h2, b2, o2⟩
      have H2 := Lib.hid h2
      have B2 := Lib.hid (HB.out.trans (b2.more HI.out) fun _ _ h => h)
      have O2 := Lib.hid o2
      have KK := Lib.hid hk'
      have OW2 := Lib.hid (own_btw1 HOW.out b2 HNI.out)
      have Z2 := Lib.hid (Nat.le_trans HZ.out b2.size)
      clear h2 b2 o2 HS1 hk' HOW HB HZ
      by_cases he : e = 0
      · have HKK := Lib.hid (hkk he)
        subst he
        have hl1 : l1 = a.l ++ [⟨4, v⟩] := HKL.out rfl
        have hrb : readB L l1 = readB L a.l ++ [v] := by
          unfold readB
          rw [hl1, List.drop_append_of_le_length (by have := HLN.out; omega), List.map_append]
          rfl
        have HRB := Lib.hid hrb
        clear hkk hl1 hrb
        have S2 := Lib.hid (show (readB L a.l).length + 1 ≤ 1099511627776 by rw [HLL.out]; omega)
        have OW3 := Lib.hid (OW2.out.alloc (.cells #[.int .u8 (v : Int)] 5))
        obtain ⟨bs, hbs⟩ : ∃ bs, bs = readB L a.l := ⟨_, rfl⟩
        rw [← hbs] at OW3 S2 HLL HRB H256
        have hbl : bs.length = j := HLL.out
        subst hbl
        clear hbs OW2
        go_wp2_with (at_builtin; refine wpList_append8A (w2.alloc (.cells #[.int .u8 (v : Int)] 5)) rfl (.tmp 30) (.tmp 32) rfl w.heap.size _ bs rfl OW3.out ⟨w2.heap.size, 0, none⟩ 1 1 [v] rfl (r8_one w2 v HV.out _) S2.out (by have h9 := Z2.out; simp; omega) ?_)
        intro v3 w3 hown hg hwh
        obtain ⟨A3, c3, rfl⟩ := own_form1 hown
        have hgb := Btw.of_grown (I := fun x => (Value.slice A bs.length d).ownBlock = some x) hg (fun _ h => h)
        have W3 := H2.out.below (below_new w2 (.cells #[.int .u8 (v : Int)] 5))
        have H3 := Lib.hid (W3.away hgb fun x _ hx => HNI.out x hx)
        have hlow : ∀ x, (Value.slice A3 (bs.length + 1) c3).ownBlock = some x → w.heap.size ≤ x ∧ x < w3.heap.size := fun x hx => by
          obtain ⟨h8, cur, h9⟩ := own_at1 hown x hx
          exact ⟨h8, (Array.getElem?_eq_some_iff.1 h9).1⟩
        have hlow0 : ∀ x, (Value.slice A bs.length d).ownBlock = some x → w.heap.size ≤ x := fun x hx => (own_at1 OW3.out x hx).1
        have NI3 := Lib.hid (show ∀ x, (Value.slice A3 (bs.length + 1) c3).ownBlock = some x → ¬ (I' x ∧ (x < (w2.alloc (.cells #[.int .u8 (v : Int)] 5)).heap.size ∨ w3.heap.size ≤ x)) from fun x hx hi => by
          rcases hwh with h8 | h8
          · exact HNI.out x (h8 ▸ hx) hi.1
          · have h5 : w2.heap.size + 1 = x := Option.some.inj (h8.symm.trans hx)
            have h4 : (w2.alloc (.cells #[.int .u8 (v : Int)] 5)).heap.size = w2.heap.size + 1 := by simp
            have h6 := (hlow x hx).2
            have h7 : x < (w2.alloc (.cells #[.int .u8 (v : Int)] 5)).heap.size ∨ w3.heap.size ≤ x := hi.2
            omega)
        have B3 := Lib.hid ((B2.out.trans (Btw.of_below (I := I) (below_new w2 (.cells #[.int .u8 (v : Int)] 5))) fun _ _ h => h).trans hgb fun x hx h => absurd (hlow0 x h) (by omega))
        have OW4 := Lib.hid hown
        have Z3 := Lib.hid (show w.heap.size ≤ w3.heap.size from B3.out.size)
        have SUB := Lib.hid (fun (x : Nat) (hx : I' x ∧ (x < (w2.alloc (.cells #[.int .u8 (v : Int)] 5)).heap.size ∨ w3.heap.size ≤ x)) => HI.out x hx.1)
        have X256 := Lib.hid (show ∀ x ∈ bs ++ [v], x < 256 from fun x hx => by
          rcases List.mem_append.1 hx with h8 | h8
          · exact H256.out x h8
          · rw [List.mem_singleton.1 h8]; exact HV.out)
        clear hown hg hwh hgb W3 hlow hlow0 OW3 H2
        go_wp2
        go_roundw
        case rel => exact ⟨bs.length + 1, A3, c3, _, by omega, by go_num, by first | rfl | go_num, by rw [HNN.out]; exact Lib.hid rfl, by rw [HNN.out]; exact O2, by rw [HNN.out]; exact HKK.out ▸ H3, B3, SUB, Z3, by rw [HNN.out]; show Hid (w3.ownsRow _ _ _ _ _ (U8 (readB L l1))); rw [HRB.out]; exact OW4, NI3, by rw [HNN.out]; show Hid (∀ x ∈ readB L l1, x < 256); rw [HRB.out]; exact X256⟩
        case measure => simp [intOf]; omega
      · have HE2 := Lib.hid he
        have b0 : (e == 0) = false := by rw [beq_eq_false_iff_ne]; exact he
        have n0 : (e != 0) = true := by simp [he]
        have j0 : (e = 0) = False := eq_false he
        have dd0 : decide (e = 0) = false := decide_eq_false he
        clear hkk he
        go_wp2
        go_ret2
        have hst : runW g s c L (rds n) = ⟨e, c1, l1⟩ := (runW_stuck (k := j + 1) (by rw [HNN.out]; exact HE2.out)).trans HNN.out
        refine ⟨k', none, 0, KK.out, ?_⟩
        rw [hst]
        exact ⟨fun h => absurd h HE2.out, fun _ => rfl, ⟨I', H2.out, HI.out, fun h => absurd h HE2.out⟩, B2.out, fun h => (O2.out h).more (by omega), fun h => absurd h HE2.out⟩
    · obtain rfl : j = n := by omega
      have d1 : decide ((j : Int) < (j : Int)) = false := decide_eq_false (by omega)
      have ht : (rds j).take j = rds j := List.take_of_length_le (by unfold rds; rw [List.length_replicate]; omega)
      rw [ht] at HE HK HW HOW H256
      clear ht
      go_wp2
      go_ret2
      refine ⟨k, A, d, Nat.le_succ k, fun _ => ⟨rfl, HOW.out, R8.own HOW.out H256.out⟩, fun h => absurd HE.out h, ⟨I', HW.out, HI.out, fun _ => HNI.out⟩, HB.out, HK.out, fun _ => rfl⟩
end
end Go.Proofs.YtlnmehcanphmiaaGreat

/-
  Waiting, as functions of a chip and of what is stored: polls of a list of cycles, a wait, a reset.
-/
namespace Go.Proofs.YtlnmehcanphmiaaGreat
open Go.RowKit
set_option maxRecDepth 100000

/-- Polls so far, and whether the last cycle that was no Read asked for the status. -/
def stP (x : Nat × Bool) (t : Cy) : Nat × Bool := if t.k = 4 then (if x.2 = true then (x.1 + 1, x.2) else x) else (x.1, decide (t.k = 1 ∧ t.b = 112))
def plF (x : Nat × Bool) (l : List Cy) : Nat × Bool := l.foldl stP x
def plS (l : List Cy) : Nat × Bool := plF (0, false) l
def pls (l : List Cy) : Nat := (plS l).1
theorem plF_append (x : Nat × Bool) (l m : List Cy) : plF x (l ++ m) = plF (plF x l) m := by unfold plF; rw [List.foldl_append]
theorem stP_le (x : Nat × Bool) (t : Cy) : x.1 ≤ (stP x t).1 ∧ (stP x t).1 ≤ x.1 + 1 := by
  unfold stP
  split
  · split
    · exact ⟨Nat.le_succ _, Nat.le_refl _⟩
    · exact ⟨Nat.le_refl _, Nat.le_succ _⟩
  · exact ⟨Nat.le_refl _, Nat.le_succ _⟩
theorem plF_le (l : List Cy) : ∀ x, x.1 ≤ (plF x l).1 ∧ (plF x l).1 ≤ x.1 + l.length := by
  induction l with
  | nil => exact fun x => ⟨Nat.le_refl _, Nat.le_refl _⟩
  | cons t l ih =>
    intro x
    have h1 := stP_le x t
    have h2 := ih (stP x t)
    have e : plF x (t :: l) = plF (stP x t) l := rfl
    rw [e, List.length_cons]
    omega
theorem plS_succ {l : List Cy} {k : Nat} {t : Cy} (h : l[k]? = some t) : plS (l.take (k + 1)) = stP (plS (l.take k)) t := by
  unfold plS plF
  rw [List.take_add_one, h, List.foldl_append]
  rfl
theorem plS_take_le (l : List Cy) (k : Nat) : (plS (l.take k)).1 ≤ k := by
  have h := (plF_le (l.take k) (0, false)).2
  have h2 := List.length_take_le k l
  have h3 : (plS (l.take k)).1 ≤ 0 + (l.take k).length := h
  omega
theorem plF_reads (l : List Cy) (hl : ∀ t ∈ l, t.k = 4) : ∀ n, plF (n, true) l = (n + l.length, true) := by
  induction l with
  | nil => exact fun n => rfl
  | cons t l ih =>
    intro n
    have e : plF (n, true) (t :: l) = plF (stP (n, true) t) l := rfl
    have h4 : stP (n, true) t = (n + 1, true) := by
      unfold stP
      rw [if_pos (hl t (List.mem_cons_self ..)), if_pos rfl]
    rw [e, h4, ih (fun t ht => hl t (List.mem_cons_of_mem _ ht)), List.length_cons]
    congr 1
    omega
/-- All of the bits m are in v. -/
def hasM (v m : Int) : Bool := bits .and .u8 v m == m
/-- Up to n polls, till one has the bits. -/
def pollN (g : Gm) (s : Sc) (m : Int) : Nat → Ch → List Cy → Int × Int × Ch × List Cy
  | 0, c, L => (0, 21, c, L)
  | n + 1, c, L =>
    if (sendC g s c L ⟨4, 0⟩).2.1 = 0 then
      (if hasM (sendC g s c L ⟨4, 0⟩).1 m = true then ((sendC g s c L ⟨4, 0⟩).1, 0, (sendC g s c L ⟨4, 0⟩).2.2.1, (sendC g s c L ⟨4, 0⟩).2.2.2)
      else pollN g s m n (sendC g s c L ⟨4, 0⟩).2.2.1 (sendC g s c L ⟨4, 0⟩).2.2.2)
    else (0, (sendC g s c L ⟨4, 0⟩).2.1, (sendC g s c L ⟨4, 0⟩).2.2.1, (sendC g s c L ⟨4, 0⟩).2.2.2)
/-- A wait: what is returned, the error, the chip, what is stored. -/
def waitW (g : Gm) (s : Sc) (c : Ch) (L : List Cy) (m : Int) (n : Nat) : Int × Int × Ch × List Cy :=
  if (sendC g s c L ⟨1, 112⟩).2.1 = 0 then pollN g s m n (sendC g s c L ⟨1, 112⟩).2.2.1 (sendC g s c L ⟨1, 112⟩).2.2.2
  else (0, (sendC g s c L ⟨1, 112⟩).2.1, (sendC g s c L ⟨1, 112⟩).2.2.1, (sendC g s c L ⟨1, 112⟩).2.2.2)
/-- A reset: the error, the chip, what is stored. -/
def resetW (g : Gm) (s : Sc) (c : Ch) (L : List Cy) (n : Nat) : Int × Ch × List Cy :=
  if (sendC g s c L ⟨1, 255⟩).2.1 = 0 then (waitW g s (sendC g s c L ⟨1, 255⟩).2.2.1 (sendC g s c L ⟨1, 255⟩).2.2.2 96 n).2
  else ((sendC g s c L ⟨1, 255⟩).2.1, (sendC g s c L ⟨1, 255⟩).2.2.1, (sendC g s c L ⟨1, 255⟩).2.2.2)
section
variable {g : Gm} {s : Sc} {c : Ch} {L : List Cy} {m : Int} {n : Nat}
theorem sendC_err (t : Cy) (hk : okK t.k = true) : (sendC g s c L t).2.1 = 0 ∨ (sendC g s c L t).2.1 = 20 := by
  have h : (c.doC g s t).2.1 = 0 ∨ (c.doC g s t).2.1 = 20 := by
    unfold Ch.doC
    split
    · exact .inr rfl
    · split
      · rename_i h
        rw [hk] at h
        cases h
      · split
        · exact .inr rfl
        · exact .inl rfl
  unfold sendC
  split
  · exact .inl rfl
  · exact h
theorem sendC_no (t : Cy) (h : (sendC g s c L t).2.1 ≠ 0) : (sendC g s c L t).2.2.2 = L ∧ (sendC g s c L t).1 = 0 := by
  unfold sendC at h ⊢
  split
  · rename_i h2
    rw [if_pos h2] at h
    exact absurd rfl h
  · exact ⟨rfl, rfl⟩
theorem pollN_is (n : Nat) : ∀ c L, (∃ rs : List Cy, (∀ t ∈ rs, t.k = 4) ∧ rs.length ≤ n ∧ (pollN g s m n c L).2.2.2 = L ++ rs) ∧
    ((pollN g s m n c L).2.1 = 0 ∧ hasM (pollN g s m n c L).1 m = true ∨ ((pollN g s m n c L).2.1 = 20 ∨ (pollN g s m n c L).2.1 = 21) ∧ (pollN g s m n c L).1 = 0) := by
  induction n with
  | zero => exact fun c L => ⟨⟨[], fun t ht => (by cases ht), Nat.le_refl _, (List.append_nil L).symm⟩, .inr ⟨.inr rfl, rfl⟩⟩
  | succ n ih =>
    intro c L
    unfold pollN
    have he := sendC_err (g := g) (s := s) (c := c) (L := L) ⟨4, 0⟩ rfl
    by_cases h0 : (sendC g s c L ⟨4, 0⟩).2.1 = 0
    · rw [if_pos h0]
      have hl := sendC_ok h0
      by_cases hb : hasM (sendC g s c L ⟨4, 0⟩).1 m = true
      · rw [if_pos hb]
        exact ⟨⟨[keptC ⟨4, 0⟩ (sendC g s c L ⟨4, 0⟩).1], fun t ht => by rw [List.mem_singleton.1 ht]; rfl, by simp, hl⟩, .inl ⟨rfl, hb⟩⟩
      · rw [if_neg hb]
        obtain ⟨⟨rs, h1, h2, h3⟩, h4⟩ := ih (sendC g s c L ⟨4, 0⟩).2.2.1 (sendC g s c L ⟨4, 0⟩).2.2.2
        refine ⟨⟨keptC ⟨4, 0⟩ (sendC g s c L ⟨4, 0⟩).1 :: rs, fun t ht => ?_, by rw [List.length_cons]; omega, ?_⟩, h4⟩
        · rcases List.mem_cons.1 ht with ht | ht
          · rw [ht]; rfl
          · exact h1 t ht
        · rw [h3, hl, List.append_assoc]
          rfl
    · rw [if_neg h0]
      have hn := sendC_no _ h0
      refine ⟨⟨[], fun t ht => (by cases ht), Nat.zero_le _, ?_⟩, .inr ⟨.inl ?_, rfl⟩⟩
      · rw [List.append_nil]; exact hn.1
      · rcases he with he | he
        · exact absurd he h0
        · exact he
theorem waitW_is (c : Ch) (L : List Cy) (m : Int) (n : Nat) : ((waitW g s c L m n).2.2.2 = L ∨ ∃ rs : List Cy, (∀ t ∈ rs, t.k = 4) ∧ rs.length ≤ n ∧ (waitW g s c L m n).2.2.2 = L ++ [⟨1, 112⟩] ++ rs) ∧
    ((waitW g s c L m n).2.1 = 0 ∧ hasM (waitW g s c L m n).1 m = true ∨ ((waitW g s c L m n).2.1 = 20 ∨ (waitW g s c L m n).2.1 = 21) ∧ (waitW g s c L m n).1 = 0) := by
  unfold waitW
  have he := sendC_err (g := g) (s := s) (c := c) (L := L) ⟨1, 112⟩ rfl
  by_cases h0 : (sendC g s c L ⟨1, 112⟩).2.1 = 0
  · rw [if_pos h0]
    have hl := sendC_ok h0
    have hk : keptC ⟨1, 112⟩ (sendC g s c L ⟨1, 112⟩).1 = ⟨1, 112⟩ := rfl
    rw [hk] at hl
    obtain ⟨⟨rs, h1, h2, h3⟩, h4⟩ := pollN_is (g := g) (s := s) (m := m) n (sendC g s c L ⟨1, 112⟩).2.2.1 (sendC g s c L ⟨1, 112⟩).2.2.2
    exact ⟨.inr ⟨rs, h1, h2, by rw [h3, hl]⟩, h4⟩
  · rw [if_neg h0]
    refine ⟨.inl (sendC_no _ h0).1, .inr ⟨.inl ?_, rfl⟩⟩
    rcases he with he | he
    · exact absurd he h0
    · exact he
theorem waitW_polls (c : Ch) (L : List Cy) (m : Int) (n : Nat) : pls L ≤ pls (waitW g s c L m n).2.2.2 ∧ pls (waitW g s c L m n).2.2.2 ≤ pls L + n ∧ (waitW g s c L m n).2.2.2.length ≤ L.length + 1 + n := by
  rcases (waitW_is (g := g) (s := s) c L m n).1 with h | ⟨rs, h1, h2, h3⟩
  · rw [h]
    omega
  · have e : pls (L ++ [⟨1, 112⟩] ++ rs) = pls L + rs.length := by
      show (plF (0, false) (L ++ [⟨1, 112⟩] ++ rs)).1 = _
      rw [plF_append, plF_append]
      have e2 : plF (plF (0, false) L) [⟨1, 112⟩] = (pls L, true) := rfl
      rw [e2, plF_reads rs h1]
    rw [h3, e]
    simp
    omega
theorem resetW_is (c : Ch) (L : List Cy) (n : Nat) : pls (resetW g s c L n).2.2 ≤ pls L + n ∧ (resetW g s c L n).2.2.length ≤ L.length + 2 + n ∧ ((resetW g s c L n).1 = 0 ∨ (resetW g s c L n).1 = 20 ∨ (resetW g s c L n).1 = 21) := by
  unfold resetW
  have he := sendC_err (g := g) (s := s) (c := c) (L := L) ⟨1, 255⟩ rfl
  by_cases h0 : (sendC g s c L ⟨1, 255⟩).2.1 = 0
  · rw [if_pos h0]
    have hl := sendC_ok h0
    have hk : keptC ⟨1, 255⟩ (sendC g s c L ⟨1, 255⟩).1 = ⟨1, 255⟩ := rfl
    rw [hk] at hl
    have hw := waitW_polls (g := g) (s := s) (sendC g s c L ⟨1, 255⟩).2.2.1 (sendC g s c L ⟨1, 255⟩).2.2.2 96 n
    have hv := (waitW_is (g := g) (s := s) (sendC g s c L ⟨1, 255⟩).2.2.1 (sendC g s c L ⟨1, 255⟩).2.2.2 96 n).2
    have e : pls (L ++ [⟨1, 255⟩]) = pls L := by
      show (plF (0, false) (L ++ [⟨1, 255⟩])).1 = _
      rw [plF_append]
      rfl
    generalize waitW g s (sendC g s c L ⟨1, 255⟩).2.2.1 (sendC g s c L ⟨1, 255⟩).2.2.2 96 n = z at *
    rw [hl, e] at hw
    simp at hw
    refine ⟨hw.2.1, by omega, ?_⟩
    rcases hv with hv | hv
    · exact .inl hv.1
    · exact .inr hv.1
  · rw [if_neg h0]
    have hn := sendC_no _ h0
    refine ⟨?_, ?_, ?_⟩
    · show pls (sendC g s c L ⟨1, 255⟩).2.2.2 ≤ _
      rw [hn.1]; omega
    · show (sendC g s c L ⟨1, 255⟩).2.2.2.length ≤ _
      rw [hn.1]; omega
    · rcases he with he | he
      · exact absurd he h0
      · exact .inr (.inl he)
/-- A chip behind a reset, whose power is not cut. -/
theorem doC_on (t : Cy) (ho : c.on = true) (hc : c.cut = -1) (hk : okK t.k = true) : c.doC g s t = ((c.tick.exec g s t.k.toNat t.b (parL g)).1, 0, (c.tick.exec g s t.k.toNat t.b (parL g)).2) := by
  unfold Ch.doC
  rw [if_neg (by rw [ho]; decide), if_neg (by rw [hk]; decide), if_neg (by omega)]
theorem sendC_on (t : Cy) (ho : c.on = true) (hc : c.cut = -1) (hk : okK t.k = true) : sendC g s c L t = ((c.tick.exec g s t.k.toNat t.b (parL g)).1, 0, (c.tick.exec g s t.k.toNat t.b (parL g)).2, L ++ [keptC t (c.tick.exec g s t.k.toNat t.b (parL g)).1]) := by
  unfold sendC
  rw [doC_on t ho hc hk, if_pos rfl]
theorem tick_cut (hc : c.cut = -1) : c.tick.cut = -1 := by
  show (if c.cut = -1 then -1 else c.cut - 1) = -1
  rw [if_pos hc]
theorem pollN_ready (n : Nat) : ∀ (c : Ch) (L : List Cy), Rz c → c.on = true → c.cut = -1 → c.busy < n → (pollN g s 96 n c L).2.1 = 0 ∧ (pollN g s 96 n c L).1 = 224 := by
  induction n with
  | zero => exact fun c L _ _ _ h => absurd h (by omega)
  | succ n ih =>
    intro c L hz ho hc hb
    unfold pollN
    have hs := sendC_on (g := g) (s := s) (L := L) ⟨4, 0⟩ ho hc rfl
    by_cases h0 : c.busy = 0
    · have hp := hz.tick.poll0 (g := g) (s := s) (show c.tick.busy = 0 from h0) (parL g)
      have hs2 : sendC g s c L ⟨4, 0⟩ = (224, 0, c.tick, L ++ [keptC ⟨4, 0⟩ 224]) := by
        rw [hs]
        show ((c.tick.exec g s 4 0 (parL g)).1, 0, (c.tick.exec g s 4 0 (parL g)).2, L ++ [keptC ⟨4, 0⟩ (c.tick.exec g s 4 0 (parL g)).1]) = _
        rw [hp]
      rw [hs2, if_pos rfl, if_pos (show hasM 224 96 = true by decide)]
      exact ⟨rfl, rfl⟩
    · have hp := hz.tick.poll1 (g := g) (s := s) (show 0 < c.tick.busy from Nat.pos_of_ne_zero h0) (parL g)
      have hs2 : sendC g s c L ⟨4, 0⟩ = (128, 0, { c.tick with busy := c.tick.busy - 1 }, L ++ [keptC ⟨4, 0⟩ 128]) := by
        rw [hs]
        show ((c.tick.exec g s 4 0 (parL g)).1, 0, (c.tick.exec g s 4 0 (parL g)).2, L ++ [keptC ⟨4, 0⟩ (c.tick.exec g s 4 0 (parL g)).1]) = _
        rw [hp]
      rw [hs2, if_pos rfl, if_neg (show ¬ hasM 128 96 = true by decide)]
      refine ih { c.tick with busy := c.tick.busy - 1 } _ ⟨hz.tick.st, hz.tick.th, hz.tick.rd, hz.tick.pr, hz.tick.bl, hz.tick.fa, hz.tick.pv, hz.tick.pl⟩ ho (tick_cut hc) ?_
      show c.busy - 1 < n
      omega
theorem resetW_ready (ho : c.on = true) (hc : c.cut = -1) (hn : nb s c < n) : (resetW g s c L n).1 = 0 := by
  unfold resetW
  have h1 := sendC_on (g := g) (s := s) (L := L) ⟨1, 255⟩ ho hc rfl
  have h2 : sendC g s c L ⟨1, 255⟩ = (0, 0, c.tick.reset g s, L ++ [⟨1, 255⟩]) := h1
  rw [h2, if_pos rfl]
  unfold waitW
  have h3 := sendC_on (g := g) (s := s) (c := c.tick.reset g s) (L := L ++ [⟨1, 255⟩]) ⟨1, 112⟩ ho (tick_cut hc) rfl
  have h4 : sendC g s (c.tick.reset g s) (L ++ [⟨1, 255⟩]) ⟨1, 112⟩ = (0, 0, (c.tick.reset g s).tick.enter 1, L ++ [⟨1, 255⟩] ++ [⟨1, 112⟩]) := h3
  rw [h4, if_pos rfl]
  exact (pollN_ready n _ _ (Rz.of g s c.tick) ho (tick_cut (c := c.tick.reset g s) (tick_cut hc)) hn).1
end
end Go.Proofs.YtlnmehcanphmiaaGreat

/-
  Package poll: may, Polls.
-/
namespace Go.Proofs.YtlnmehcanphmiaaGreat
open Go.RowKit
set_option maxRecDepth 100000

theorem may_any (n : Int) (w : World) : Calls Tryz.prog 17 #[.int .i64 n] w (Gives (.bool (decide (1 ≤ n ∧ n ≤ 65536))) w) := by
  go_enter Tryz.func17, Tryz.ntmps17
  by_cases h1 : 1 ≤ n
  · have d1 : decide (1 ≤ n) = true := decide_eq_true h1
    have e : decide (1 ≤ n ∧ n ≤ 65536) = decide (n ≤ 65536) := decide_eq_decide.2 (by omega)
    rw [e]
    clear e
    go_wp2
    go_ret
    exact ⟨rfl, Below.refl _ _⟩
  · have d1 : decide (1 ≤ n) = false := decide_eq_false h1
    rw [decide_eq_false (show ¬ (1 ≤ n ∧ n ≤ 65536) by omega)]
    go_wp2
    go_ret
    exact ⟨rfl, Below.refl _ _⟩
set_option maxHeartbeats 4000000 in
theorem Polls_any (A : Option Addr) (n d : Nat) (l : List Cy) (w : World) (hl : RC w A n l) (hn : n ≤ 1099511627776) : Calls Tryz.prog 9 #[.slice A n d] w (Gives (.int .i64 ((pls l : Nat) : Int)) w) := by
  have HR := Lib.hid hl
  have HLN := Lib.hid hl.1
  have B0 := Lib.hid (Below.refl w.heap.size w)
  clear hl
  go_enter Tryz.func9, Tryz.ntmps9
  go_wp2
  go_loopw [3, 4, 9] (fun nv av iv wr => ∃ k : Nat, k ≤ n ∧ nv = .int .i64 (((plS (l.take k)).1 : Nat) : Int) ∧ av = .bool (plS (l.take k)).2 ∧ iv = .int .i64 (k : Int) ∧ Hid (Below w.heap.size w wr)) (fun _ _ iv _ => n - (intOf iv).toNat)
  case atStart => exact ⟨0, Nat.zero_le _, rfl, rfl, rfl, B0⟩
  case round =>
    obtain ⟨k, hk, rfl, rfl, rfl, HB⟩ := hrel
    clear B0
    rename World => wr
    by_cases hlt : k < n
    · obtain ⟨b9, o9, u, rfl, hb9, HU, hin, x0, x1⟩ := (HR.out.below HB.out).at_ hlt
      have d1 : decide ((k : Int) < (n : Int)) = true := decide_eq_true (by omega)
      have i0 : (0 : Int) ≤ (k : Int) := by omega
      have HS := Lib.hid (plS_succ HU.out)
      have hle := plS_take_le l k
      obtain ⟨a, ha⟩ : ∃ a, a = (plS (l.take k)).1 := ⟨_, rfl⟩
      obtain ⟨q, hq⟩ : ∃ q, q = (plS (l.take k)).2 := ⟨_, rfl⟩
      have HP := Lib.hid (show plS (l.take (k + 1)) = stP (a, q) u by rw [HS.out, ha, hq])
      rw [← ha, ← hq]
      rw [← ha] at hle
      have HN := Lib.hid (below_new wr (.cells #[.int .i64 u.k, .int .u8 (u.b : Int)] 40))
      have HB2 := Lib.hid (below_step HB.out HN.out)
      obtain ⟨uk, huk⟩ : ∃ uk, uk = u.k := ⟨_, rfl⟩
      obtain ⟨ub, hub⟩ : ∃ ub, ub = u.b := ⟨_, rfl⟩
      rw [← huk] at x0 HB2
      rw [← hub] at x1 HB2
      have HUK := Lib.hid huk
      have HUB := Lib.hid hub
      clear ha hq HS hin hb9 HU HB HN huk hub
      have m1 : IntKind.i64.wrap ((a : Int) + 1) = ((a + 1 : Nat) : Int) := by
        rw [IntWalk.i64_in _ (by omega)]
        simp
      by_cases h4 : uk = 4
      · subst h4
        cases q with
        | true =>
          go_wp2
          go_roundw
          case rel => exact ⟨k + 1, by omega, by rw [HP.out]; unfold stP; rw [if_pos HUK.out.symm, if_pos rfl]; go_num, by rw [HP.out]; unfold stP; rw [if_pos HUK.out.symm, if_pos rfl], by go_num, HB2⟩
          case measure => simp [intOf]; omega
        | false =>
          go_wp2
          go_roundw
          case rel => exact ⟨k + 1, by omega, by rw [HP.out]; unfold stP; rw [if_pos HUK.out.symm, if_neg (show ¬ false = true by decide)], by rw [HP.out]; unfold stP; rw [if_pos HUK.out.symm, if_neg (show ¬ false = true by decide)], by go_num, HB2⟩
          case measure => simp [intOf]; omega
      · have b4 : ((uk : Int) == 4) = false := by simp; omega
        have j4 : ((uk : Int) = 4) = False := eq_false (by omega)
        have d4 : decide ((uk : Int) = 4) = false := decide_eq_false (by omega)
        have n4 : ((uk : Int) != 4) = true := by simp; omega
        have e4 : ¬ u.k = 4 := by rw [← HUK.out]; exact h4
        have E4 := Lib.hid e4
        clear e4
        by_cases h1 : uk = 1 ∧ ub = 112
        · obtain ⟨h1, h2⟩ := h1
          have HQ := Lib.hid (show decide (u.k = 1 ∧ u.b = 112) = true from decide_eq_true ⟨by rw [← HUK.out]; exact h1, by rw [← HUB.out]; exact h2⟩)
          subst h1 h2
          go_wp2
          go_roundw
          case rel => exact ⟨k + 1, by omega, by rw [HP.out]; unfold stP; rw [if_neg E4.out], by rw [HP.out]; unfold stP; rw [if_neg E4.out]; show _ = Value.bool (decide (u.k = 1 ∧ u.b = 112)); rw [HQ.out], by go_num, HB2⟩
          case measure => simp [intOf]; omega
        · have HQ := Lib.hid (show decide (u.k = 1 ∧ u.b = 112) = false from decide_eq_false (by rw [← HUK.out, ← HUB.out]; exact h1))
          go_wp2
          · go_roundw
            case rel => exact ⟨k + 1, by omega, by rw [HP.out]; unfold stP; rw [if_neg E4.out], by rw [HP.out]; unfold stP; rw [if_neg E4.out]; show _ = Value.bool (decide (u.k = 1 ∧ u.b = 112)); rw [HQ.out], by go_num, by first | exact HB2 | (have e : uk = 1 := (by assumption); rw [e] at HB2; exact HB2)⟩
            case measure => simp [intOf]; omega
          · go_roundw
            case rel => exact ⟨k + 1, by omega, by rw [HP.out]; unfold stP; rw [if_neg E4.out], by rw [HP.out]; unfold stP; rw [if_neg E4.out]; show _ = Value.bool (decide (u.k = 1 ∧ u.b = 112)); rw [HQ.out], by go_num, by first | exact HB2 | (have e : uk = 1 := (by assumption); rw [e] at HB2; exact HB2)⟩
            case measure => simp [intOf]; omega
    · obtain rfl : k = n := by omega
      have d1 : decide ((k : Int) < (k : Int)) = false := decide_eq_false (by omega)
      have HT := Lib.hid (show (plS (l.take k)).1 = pls l by rw [List.take_of_length_le (by have := HLN.out; omega)]; rfl)
      rw [HT.out]
      go_wp2
      go_ret
      exact ⟨rfl, HB.out⟩
end Go.Proofs.YtlnmehcanphmiaaGreat

/-
  Package poll: Wait, Ready, Reset.
-/
namespace Go.Proofs.YtlnmehcanphmiaaGreat
open Go.RowKit
set_option maxRecDepth 100000

section
variable {I : Nat → Prop} {w : World} {q p r : Nat} {g : Gm} {s : Sc} {c : Ch} {L : List Cy} {k : Nat}
theorem runW_1 (t : Cy) : runW g s c L [t] = ⟨(sendC g s c L t).2.1, (sendC g s c L t).2.2.1, (sendC g s c L t).2.2.2⟩ := by
  show stepW g s ⟨0, c, L⟩ t = _
  exact if_pos rfl
/-- One command. -/
theorem Cmd_one {Q : Nat} (B : Option Addr) (d b : Nat) (hb : R8 w B 1 [b]) (hQ : Q + 1 ≤ 100000) (hs : SG g s) (ho : c.on = true → Okc g Q c) (hL : L.length ≤ 100000) (hk : k < 1000) (h : Wi I w q p r g s c L k) :
    Calls Tryz.prog 18 #[.pointer (some ⟨q, 0, none⟩), .slice B 1 d] w fun e w' => ∃ k', k' ≤ k + 1 ∧ e = .returned (.int .i64 (sendC g s c L ⟨1, b⟩).2.1) ∧ Wi I w' q p r g s (sendC g s c L ⟨1, b⟩).2.2.1 (sendC g s c L ⟨1, b⟩).2.2.2 k' ∧ Btw I w w' ∧
      ((sendC g s c L ⟨1, b⟩).2.2.1.on = true → Okc g (Q + 1) (sendC g s c L ⟨1, b⟩).2.2.1) ∧ ((sendC g s c L ⟨1, b⟩).2.1 = 0 → k' = k) := by
  refine (WCommand_any (Q := Q) B 1 d [b] hb (by omega) hQ hs ho hL hk h).mono ?_
  rintro e w' ⟨k', h1, h2, h3, h4, h5, h6⟩
  have e1 : runW g s c L (ofL 1 [b]) = ⟨(sendC g s c L ⟨1, b⟩).2.1, (sendC g s c L ⟨1, b⟩).2.2.1, (sendC g s c L ⟨1, b⟩).2.2.2⟩ := runW_1 ⟨1, b⟩
  rw [e1] at h2 h3 h5 h6
  exact ⟨k', h1, h2, h3, h4, h5, h6⟩
/-- One Read. -/
theorem Read_one {Q : Nat} (hQ : Q + 1 ≤ 100000) (hs : SG g s) (ho : c.on = true → Okc g Q c) (hL : L.length ≤ 100000) (hk : k < 1000) (h : Wi I w q p r g s c L k) :
    Calls Tryz.prog 21 #[.pointer (some ⟨q, 0, none⟩), .int .i64 1] w fun e w' => ∃ k' A d, k' ≤ k + 1 ∧
      ((sendC g s c L ⟨4, 0⟩).2.1 = 0 → e = .returned (.tuple #[.slice A 1 d, .int .i64 0]) ∧ R8 w' A 1 [(sendC g s c L ⟨4, 0⟩).1.toNat]) ∧ ((sendC g s c L ⟨4, 0⟩).2.1 ≠ 0 → e = .returned (.tuple #[.slice none 0 0, .int .i64 (sendC g s c L ⟨4, 0⟩).2.1])) ∧
      Wi I w' q p r g s (sendC g s c L ⟨4, 0⟩).2.2.1 (sendC g s c L ⟨4, 0⟩).2.2.2 k' ∧ Btw I w w' ∧ ((sendC g s c L ⟨4, 0⟩).2.2.1.on = true → Okc g (Q + 1) (sendC g s c L ⟨4, 0⟩).2.2.1) ∧ ((sendC g s c L ⟨4, 0⟩).2.1 = 0 → k' = k) := by
  refine (Read_any (Q := Q) 1 (by omega) hQ hs ho hL hk h).mono ?_
  rintro e w' ⟨k', A, d, h1, h2, h3, ⟨I', h4, h5, _⟩, h6, h7, h8⟩
  have e1 : runW g s c L (rds 1) = ⟨(sendC g s c L ⟨4, 0⟩).2.1, (sendC g s c L ⟨4, 0⟩).2.2.1, (sendC g s c L ⟨4, 0⟩).2.2.2⟩ := runW_1 ⟨4, 0⟩
  rw [e1] at h2 h3 h4 h7 h8
  refine ⟨k', A, d, h1, fun h0 => ⟨(h2 h0).1, ?_⟩, h3, h4.widen h5 h.qi, h6, h7, h8⟩
  have h9 := (h2 h0).2.2
  have e2 : readB L (sendC g s c L ⟨4, 0⟩).2.2.2 = [(sendC g s c L ⟨4, 0⟩).1.toNat] := by
    unfold readB
    rw [sendC_ok h0, List.drop_left]
    rfl
  rw [← e2]
  exact h9
/-- What a wait comes to in memory. -/
def WaitIs (I : Nat → Prop) (q p r : Nat) (g : Gm) (s : Sc) (c : Ch) (L : List Cy) (k Q : Nat) (m : Int) (n : Nat) (w : World) (e : Ending) (w' : World) : Prop :=
  ∃ k', k' ≤ k + 1 ∧ e = .returned (.tuple #[.int .u8 (waitW g s c L m n).1, .int .i64 (waitW g s c L m n).2.1]) ∧ Wi I w' q p r g s (waitW g s c L m n).2.2.1 (waitW g s c L m n).2.2.2 k' ∧ Btw I w w' ∧
    ((waitW g s c L m n).2.2.1.on = true → Okc g (Q + 1 + n) (waitW g s c L m n).2.2.1)
set_option maxHeartbeats 8000000 in
theorem Wait_any {Q : Nat} (m : Int) (n : Nat) (hm : 0 ≤ m ∧ m < 256) (hn1 : 1 ≤ n) (hn2 : n ≤ 65536) (hQ : Q + 1 + n ≤ 100000) (hs : SG g s) (ho : c.on = true → Okc g Q c) (hL : L.length + 1 + n ≤ 100000) (hk : k < 1000) (h : Wi I w q p r g s c L k) :
    Calls Tryz.prog 11 #[.pointer (some ⟨q, 0, none⟩), .int .u8 m, .int .i64 (n : Int)] w (WaitIs I q p r g s c L k Q m n w) := by
  have H0 := Lib.hid h
  have HS := Lib.hid hs
  have HO := Lib.hid ho
  have HM := Lib.hid hm
  have HQ := Lib.hid hQ
  have HLL := Lib.hid hL
  have HMAY := Lib.hid (may_any (n : Int))
  rw [decide_eq_true (show 1 ≤ (n : Int) ∧ (n : Int) ≤ 65536 by omega)] at HMAY
  clear h hs ho hm hQ hL
  go_enter Tryz.func11, Tryz.ntmps11
  go_wp2
  go_step3
  go_wp2_with fail
  refine (HMAY.out _).mono ?_
  rintro _ w1 ⟨rfl, h1⟩
  have B1 := Lib.hid h1
  have H1 := Lib.hid (H0.out.below h1)
  clear h1 H0 HMAY
  have R2 := Lib.hid (r8_one w1 112 (by omega) 5)
  have N2 := Lib.hid (below_new w1 (.cells #[.int .u8 112] 5))
  have HC := Lib.hid (Cmd_one (Q := Q) (some ⟨w1.heap.size, 0, none⟩) 1 112 R2.out (by have := HQ.out; omega) HS.out HO.out (by have := HLL.out; omega) hk (H1.out.below N2.out))
  have HW0 := Lib.hid (show waitW g s c L m n = if (sendC g s c L ⟨1, 112⟩).2.1 = 0 then pollN g s m n (sendC g s c L ⟨1, 112⟩).2.2.1 (sendC g s c L ⟨1, 112⟩).2.2.2 else (0, (sendC g s c L ⟨1, 112⟩).2.1, (sendC g s c L ⟨1, 112⟩).2.2.1, (sendC g s c L ⟨1, 112⟩).2.2.2) from rfl)
  have HLN := Lib.hid (fun h => sendC_ok (g := g) (s := s) (c := c) (L := L) (t := ⟨1, 112⟩) h)
  obtain ⟨z, hz⟩ : ∃ z, z = sendC g s c L ⟨1, 112⟩ := ⟨_, rfl⟩
  rw [← hz] at HC HW0 HLN
  obtain ⟨v0, e, c1, L1⟩ := z
  simp only at HC HW0 HLN
  clear hz
  go_wp2_with fail
  refine HC.out.mono ?_
  rintro _ w3 ⟨k1, hk1, rfl, h3, b3, o3, kk3⟩
  have H3 := Lib.hid h3
  have B3 := Lib.hid (((Btw.of_below (I := I) B1.out).trans (Btw.of_below (I := I) N2.out) fun _ _ h => h).trans b3 fun _ _ h => h)
  have O3 := Lib.hid o3
  have K3 := Lib.hid hk1
  have KK3 := Lib.hid kk3
  clear h3 b3 o3 hk1 kk3 HC R2 N2 H1 B1 HO
  by_cases he : e = 0
  rotate_left
  · have b0 : (e == 0) = false := by rw [beq_eq_false_iff_ne]; exact he
    have n0 : (e != 0) = true := by simp [he]
    have j0 : (e = 0) = False := eq_false he
    have dd0 : decide (e = 0) = false := decide_eq_false he
    have HE := Lib.hid (HW0.out.trans (if_neg he))
    clear he
    go_wp2
    go_ret2
    refine ⟨k1, K3.out, ?_⟩
    rw [HE.out]
    exact ⟨rfl, H3.out, B3.out, fun h => (O3.out h).more (by omega)⟩
  subst he
  have HE := Lib.hid (HW0.out.trans (if_pos rfl))
  have HL1 := Lib.hid (show L1.length = L.length + 1 by rw [HLN.out rfl]; simp)
  obtain rfl : k1 = k := KK3.out rfl
  clear HW0 HLN KK3 K3
  go_wp2
  go_step3
  go_wp2
  go_loopw [9, 10, 23] (fun sv ov iv wr => ∃ (j : Nat) (cj : Ch) (Lj : List Cy), j ≤ n ∧ sv = .int .u8 0 ∧ ov = .int .i64 21 ∧ iv = .int .i64 (j : Int) ∧ Hid (pollN g s m (n - j) cj Lj = pollN g s m n c1 L1) ∧ Hid (Wi I wr q p r g s cj Lj k1) ∧ Hid (Btw I w wr) ∧ Hid (cj.on = true → Okc g (Q + 1 + j) cj) ∧ Hid (Lj.length = L.length + 1 + j)) (fun _ _ iv _ => n - (intOf iv).toNat)
  case atStart => exact ⟨0, c1, L1, Nat.zero_le _, rfl, rfl, rfl, Lib.hid rfl, H3, B3, O3, HL1⟩
  case round =>
    obtain ⟨j, cj, Lj, hj, rfl, rfl, rfl, HP, HW, HB, HOJ, HLJ⟩ := hrel
    clear H3 B3 O3 HL1
    rename World => wr
    by_cases hlt : j < n
    · have d1 : decide ((j : Int) < (n : Int)) = true := decide_eq_true (by omega)
      have HC := Lib.hid (Read_one (Q := Q + 1 + j) (by have := HQ.out; omega) HS.out HOJ.out (by have := HLJ.out; have := HLL.out; omega) hk HW.out)
      have HPP := Lib.hid (show pollN g s m n c1 L1 = if (sendC g s cj Lj ⟨4, 0⟩).2.1 = 0 then (if hasM (sendC g s cj Lj ⟨4, 0⟩).1 m = true then ((sendC g s cj Lj ⟨4, 0⟩).1, 0, (sendC g s cj Lj ⟨4, 0⟩).2.2.1, (sendC g s cj Lj ⟨4, 0⟩).2.2.2) else pollN g s m (n - (j + 1)) (sendC g s cj Lj ⟨4, 0⟩).2.2.1 (sendC g s cj Lj ⟨4, 0⟩).2.2.2)
          else (0, (sendC g s cj Lj ⟨4, 0⟩).2.1, (sendC g s cj Lj ⟨4, 0⟩).2.2.1, (sendC g s cj Lj ⟨4, 0⟩).2.2.2) by
        rw [← HP.out, show n - j = (n - (j + 1)) + 1 by omega]
        rfl)
      have HLN := Lib.hid (fun h => sendC_ok (g := g) (s := s) (c := cj) (L := Lj) (t := ⟨4, 0⟩) h)
      have hby := sendC_byte (g := g) (s := s) (L := Lj) (t := ⟨4, 0⟩) HW.out.regs
      obtain ⟨z, hz⟩ : ∃ z, z = sendC g s cj Lj ⟨4, 0⟩ := ⟨_, rfl⟩
      rw [← hz] at HC HPP HLN hby
      obtain ⟨v0, e, c2, L2⟩ := z
      simp only at HC HPP HLN hby
      obtain ⟨v, rfl⟩ : ∃ v : Nat, v0 = (v : Int) := ⟨v0.toNat, by omega⟩
      simp only [Int.toNat_natCast] at HC
      have HV := Lib.hid hby
      clear hz hby HP HW
      go_wp2_with fail
      refine HC.out.mono ?_
      rintro ee w4 ⟨k2, A, d, hk2, he0, hen, h4, b4, o4, kk4⟩
      have H4 := Lib.hid h4
      have B4 := Lib.hid (HB.out.trans b4 fun _ _ h => h)
      have O4 := Lib.hid o4
      have K4 := Lib.hid hk2
      have KK4 := Lib.hid kk4
      clear h4 b4 o4 hk2 kk4 HC HB HOJ
      by_cases he : e = 0
      rotate_left
      · obtain rfl := hen he
        have b0 : (e == 0) = false := by rw [beq_eq_false_iff_ne]; exact he
        have n0 : (e != 0) = true := by simp [he]
        have j0 : (e = 0) = False := eq_false he
        have dd0 : decide (e = 0) = false := decide_eq_false he
        have HR := Lib.hid (HPP.out.trans (if_neg he))
        clear he he0 hen
        go_wp2
        go_ret2
        refine ⟨k2, K4.out, ?_⟩
        rw [HE.out, HR.out]
        exact ⟨rfl, H4.out, B4.out, fun h => (O4.out h).more (by omega)⟩
      subst he
      obtain ⟨rfl, r8⟩ := he0 rfl
      have HPQ := Lib.hid (HPP.out.trans (if_pos rfl))
      have HL2 := Lib.hid (show L2.length = L.length + 1 + (j + 1) by rw [HLN.out rfl]; have := HLJ.out; simp; omega)
      obtain rfl : k2 = k1 := KK4.out rfl
      obtain ⟨hA, rfl, x0⟩ : ∃ hA, A = some hA ∧ w4.cell? hA = some (.int .u8 (v : Int)) := by
        obtain ⟨b9, o9, hA, hb, hx⟩ := r8.1.2 (by omega)
        exact ⟨⟨b9, o9, none⟩, hA, hx 0 (by omega)⟩
      obtain ⟨b9, o9, hA2⟩ : ∃ b9 o9, hA = ⟨b9, o9, none⟩ := by
        obtain ⟨b9, o9, hA2, _⟩ := r8.1.2 (by omega)
        exact ⟨b9, o9, Option.some.inj hA2⟩
      subst hA2
      clear he0 hen r8 HPP HLN KK4 K4
      cases hq : hasM (v : Int) m with
      | true =>
        have b1 : (bits .and .u8 (v : Int) m == m) = true := hq
        have p1 : bits .and .u8 (v : Int) m = m := by simpa using b1
        have j1 : (bits .and .u8 (v : Int) m = m) = True := eq_true p1
        have dd1 : decide (bits .and .u8 (v : Int) m = m) = true := decide_eq_true p1
        have HR := Lib.hid (HPQ.out.trans (if_pos hq))
        clear p1 hq
        go_wp2
        go_ret2
        refine ⟨k2, Nat.le_succ _, ?_⟩
        rw [HE.out, HR.out]
        exact ⟨rfl, H4.out, B4.out, fun h => (O4.out h).more (by omega)⟩
      | false =>
        have b1 : (bits .and .u8 (v : Int) m == m) = false := hq
        have p1 : ¬ bits .and .u8 (v : Int) m = m := by simpa using b1
        have j1 : (bits .and .u8 (v : Int) m = m) = False := eq_false p1
        have dd1 : decide (bits .and .u8 (v : Int) m = m) = false := decide_eq_false p1
        have HR := Lib.hid (HPQ.out.trans (if_neg (by rw [hq]; decide)))
        clear p1 hq
        go_wp2
        go_roundw
        case rel => exact ⟨j + 1, c2, L2, by omega, rfl, rfl, by go_num, Lib.hid HR.out.symm, H4, B4, O4, HL2⟩
        case measure => simp [intOf]; omega
    · obtain rfl : j = n := by omega
      have d1 : decide ((j : Int) < (j : Int)) = false := decide_eq_false (by omega)
      have HR := Lib.hid (show pollN g s m j c1 L1 = (0, 21, cj, Lj) by rw [← HP.out, Nat.sub_self]; rfl)
      go_wp2
      go_ret2
      refine ⟨k1, Nat.le_succ _, ?_⟩
      rw [HE.out, HR.out]
      exact ⟨rfl, HW.out, HB.out, HOJ.out⟩
theorem Wait_no (W : Option Addr) (m n : Int) (hn : ¬ (1 ≤ n ∧ n ≤ 65536)) (w : World) : Calls Tryz.prog 11 #[.pointer W, .int .u8 m, .int .i64 n] w (Gives (.tuple #[.int .u8 0, .int .i64 2]) w) := by
  have HMAY := Lib.hid (may_any n)
  rw [decide_eq_false hn] at HMAY
  go_enter Tryz.func11, Tryz.ntmps11
  go_wp2
  go_step3
  go_wp2_with fail
  refine (HMAY.out _).mono ?_
  rintro _ w1 ⟨rfl, h1⟩
  have B1 := Lib.hid h1
  clear h1
  go_wp2
  go_ret2
  exact ⟨rfl, B1.out⟩
theorem Ready_any {Q : Nat} (n : Nat) (hn1 : 1 ≤ n) (hn2 : n ≤ 65536) (hQ : Q + 1 + n ≤ 100000) (hs : SG g s) (ho : c.on = true → Okc g Q c) (hL : L.length + 1 + n ≤ 100000) (hk : k < 1000) (h : Wi I w q p r g s c L k) :
    Calls Tryz.prog 12 #[.pointer (some ⟨q, 0, none⟩), .int .i64 (n : Int)] w (WaitIs I q p r g s c L k Q 96 n w) := by
  have HC := Lib.hid (Wait_any (Q := Q) 96 n (by omega) hn1 hn2 hQ hs ho hL hk h)
  clear h hs ho
  unfold WaitIs at *
  obtain ⟨z, hz⟩ : ∃ z, z = waitW g s c L 96 n := ⟨_, rfl⟩
  rw [← hz] at HC ⊢
  obtain ⟨v0, e, c1, L1⟩ := z
  simp only at HC ⊢
  clear hz
  go_enter Tryz.func12, Tryz.ntmps12
  go_wp2_with fail
  refine HC.out.mono ?_
  rintro _ w1 ⟨k', h1, rfl, h3, h4, h5⟩
  have H1 := Lib.hid h1
  have H3 := Lib.hid h3
  have H4 := Lib.hid h4
  have H5 := Lib.hid h5
  clear h1 h3 h4 h5 HC
  go_wp2
  go_ret2
  exact ⟨k', H1.out, rfl, H3.out, H4.out, H5.out⟩
/-- What a reset comes to in memory. -/
def ResetIs (I : Nat → Prop) (q p r : Nat) (g : Gm) (s : Sc) (c : Ch) (L : List Cy) (k Q : Nat) (n : Nat) (w : World) (e : Ending) (w' : World) : Prop :=
  ∃ k', k' ≤ k + 2 ∧ e = .returned (.int .i64 (resetW g s c L n).1) ∧ Wi I w' q p r g s (resetW g s c L n).2.1 (resetW g s c L n).2.2 k' ∧ Btw I w w' ∧ ((resetW g s c L n).2.1.on = true → Okc g (Q + 2 + n) (resetW g s c L n).2.1)
set_option maxHeartbeats 4000000 in
theorem Reset_any {Q : Nat} (n : Nat) (hn1 : 1 ≤ n) (hn2 : n ≤ 65536) (hQ : Q + 2 + n ≤ 100000) (hs : SG g s) (ho : c.on = true → Okc g Q c) (hL : L.length + 2 + n ≤ 100000) (hk : k < 999) (h : Wi I w q p r g s c L k) :
    Calls Tryz.prog 8 #[.pointer (some ⟨q, 0, none⟩), .int .i64 (n : Int)] w (ResetIs I q p r g s c L k Q n w) := by
  have H0 := Lib.hid h
  have HS := Lib.hid hs
  have HO := Lib.hid ho
  have HQ := Lib.hid hQ
  have HLL := Lib.hid hL
  have HN := Lib.hid (And.intro hn1 hn2)
  have HK := Lib.hid hk
  have HMAY := Lib.hid (may_any (n : Int))
  rw [decide_eq_true (show 1 ≤ (n : Int) ∧ (n : Int) ≤ 65536 by omega)] at HMAY
  clear h hs ho hQ hL hn1 hn2 hk
  go_enter Tryz.func8, Tryz.ntmps8
  go_wp2_with fail
  refine (HMAY.out _).mono ?_
  rintro _ w1 ⟨rfl, h1⟩
  have B1 := Lib.hid h1
  have H1 := Lib.hid (H0.out.below h1)
  clear h1 H0 HMAY
  have R2 := Lib.hid (r8_one w1 255 (by omega) 5)
  have N2 := Lib.hid (below_new w1 (.cells #[.int .u8 255] 5))
  have HC := Lib.hid (Cmd_one (Q := Q) (some ⟨w1.heap.size, 0, none⟩) 1 255 R2.out (by have := HQ.out; omega) HS.out HO.out (by have := HLL.out; omega) (by have := HK.out; omega) (H1.out.below N2.out))
  have HW0 := Lib.hid (show resetW g s c L n = if (sendC g s c L ⟨1, 255⟩).2.1 = 0 then (waitW g s (sendC g s c L ⟨1, 255⟩).2.2.1 (sendC g s c L ⟨1, 255⟩).2.2.2 96 n).2 else ((sendC g s c L ⟨1, 255⟩).2.1, (sendC g s c L ⟨1, 255⟩).2.2.1, (sendC g s c L ⟨1, 255⟩).2.2.2) from rfl)
  have HLN := Lib.hid (fun h => sendC_ok (g := g) (s := s) (c := c) (L := L) (t := ⟨1, 255⟩) h)
  obtain ⟨z, hz⟩ : ∃ z, z = sendC g s c L ⟨1, 255⟩ := ⟨_, rfl⟩
  rw [← hz] at HC HW0 HLN
  obtain ⟨v0, e, c1, L1⟩ := z
  simp only at HC HW0 HLN
  clear hz
  go_wp2_with fail
  refine HC.out.mono ?_
  rintro _ w3 ⟨k1, hk1, rfl, h3, b3, o3, kk3⟩
  have H3 := Lib.hid h3
  have B3 := Lib.hid (((Btw.of_below (I := I) B1.out).trans (Btw.of_below (I := I) N2.out) fun _ _ h => h).trans b3 fun _ _ h => h)
  have O3 := Lib.hid o3
  have K3 := Lib.hid hk1
  clear h3 b3 o3 hk1 kk3 HC R2 N2 H1 B1 HO
  by_cases he : e = 0
  rotate_left
  · have b0 : (e == 0) = false := by rw [beq_eq_false_iff_ne]; exact he
    have n0 : (e != 0) = true := by simp [he]
    have j0 : (e = 0) = False := eq_false he
    have dd0 : decide (e = 0) = false := decide_eq_false he
    have HE := Lib.hid (HW0.out.trans (if_neg he))
    clear he
    go_wp2
    go_ret
    refine ⟨k1, Nat.le_succ_of_le K3.out, ?_⟩
    rw [HE.out]
    exact ⟨rfl, H3.out, B3.out, fun h => (O3.out h).more (by omega)⟩
  subst he
  have HE := Lib.hid (HW0.out.trans (if_pos rfl))
  have HL1 := Lib.hid (show L1.length = L.length + 1 by rw [HLN.out rfl]; simp)
  have HC := Lib.hid (Ready_any (Q := Q + 1) n HN.out.1 HN.out.2 (by have := HQ.out; omega) HS.out O3.out (by have := HL1.out; have := HLL.out; omega) (by have := K3.out; have := HK.out; omega) H3.out)
  unfold WaitIs at HC
  obtain ⟨y, hy⟩ : ∃ y, y = waitW g s c1 L1 96 n := ⟨_, rfl⟩
  rw [← hy] at HC HE
  obtain ⟨v1, e1, c2, L2⟩ := y
  simp only at HC HE
  clear hy HW0 HLN
  go_wp2_with fail
  refine HC.out.mono ?_
  rintro _ w4 ⟨k2, hk2, rfl, h4, b4, o4⟩
  have H4 := Lib.hid h4
  have B4 := Lib.hid (B3.out.trans b4 fun _ _ h => h)
  have O4 := Lib.hid o4
  have K4 := Lib.hid hk2
  clear h4 b4 o4 hk2 HC
  go_wp2
  go_ret
  refine ⟨k2, by have := K3.out; have := K4.out; omega, ?_⟩
  rw [HE.out]
  exact ⟨rfl, H4.out, B4.out, fun h => (O4.out h).more (by omega)⟩
theorem Reset_no (W : Option Addr) (n : Int) (hn : ¬ (1 ≤ n ∧ n ≤ 65536)) (w : World) : Calls Tryz.prog 8 #[.pointer W, .int .i64 n] w (Gives (.int .i64 2) w) := by
  have HMAY := Lib.hid (may_any n)
  rw [decide_eq_false hn] at HMAY
  go_enter Tryz.func8, Tryz.ntmps8
  go_wp2_with fail
  refine (HMAY.out _).mono ?_
  rintro _ w1 ⟨rfl, h1⟩
  have B1 := Lib.hid h1
  clear h1
  go_wp2
  go_ret
  exact ⟨rfl, B1.out⟩
end
end Go.Proofs.YtlnmehcanphmiaaGreat

/-
  plain, awake of the wire's laws.
-/
namespace Go.Proofs.YtlnmehcanphmiaaGreat
open Go.RowKit
set_option maxRecDepth 100000

def geo16 : Gm := ⟨1, 2, 4, 1, 4, 1, 1⟩
def sc16 : Sc := ⟨[], [], [], -1, [], []⟩
theorem geo16_ok : geo16.ok = true := by decide +kernel
theorem geo16_raw : geo16.raw = 37 := by decide +kernel
theorem sc16_ok : sc16.short ∧ sc16.ok geo16 :=
  ⟨⟨by simp [sc16], by simp [sc16], by simp [sc16], by simp [sc16], by simp [sc16]⟩, ⟨fun i hi => absurd hi (by simp [sc16]), fun i hi => absurd hi (by simp [sc16]), fun i t hi => absurd hi (by simp [sc16]), by simp [sc16], fun i hi => absurd hi (by simp [sc16])⟩⟩
theorem sg16 : SG geo16 sc16 := ⟨sc16_ok.1, sc16_ok.2, by simp [sc16]⟩
def w16a : Ws := runW geo16 sc16 (Ch.new geo16 sc16) [] (ofL 1 [144])
def w16b : Ws := runW geo16 sc16 w16a.c w16a.l (ofL 2 [0])
def w16c : Ws := runW geo16 sc16 w16b.c w16b.l (rds 2)
end Go.Proofs.YtlnmehcanphmiaaGreat

/-
  plain, made, awake of the laws of poll.
-/
namespace Go.Proofs.YtlnmehcanphmiaaGreat
open Go.RowKit
set_option maxRecDepth 100000

set_option maxHeartbeats 400000 in
theorem plain17_any (w : World) : Calls Tryz.prog 15 #[] w (Gives (.agg #[.int .i64 1, .int .i64 2, .int .i64 4, .int .i64 1, .int .i64 4, .int .i64 1, .int .i64 1]) w) := by
  go_enter Tryz.func15, Tryz.ntmps15
  have T0 := Lib.hid (CRow.new w #[.int .i64 0, .int .i64 0, .int .i64 0, .int .i64 0, .int .i64 0, .int .i64 0, .int .i64 0] 48)
  have B0 := Lib.hid (below_new w (.cells #[.int .i64 0, .int .i64 0, .int .i64 0, .int .i64 0, .int .i64 0, .int .i64 0, .int .i64 0] 48))
  go_wp2_with (with_reducible refine (?_ : wpList _ _ _ ({ dst := _, op := Op.store 48 _ _, type := _, pos := _, after := _, guard := _ } :: _) _ _); refine wpList_store_at rfl 48 _ _ rfl 7 size_geom _ w.heap.size ?hx rfl _ T0.out.row rfl rfl (by simp [Value.oneCell']) ?_; (case hx => simp [Act.eval]))
  have B9 := Lib.hid (below_setRow B0.out (Nat.le_refl _) #[.int .i64 1, .int .i64 2, .int .i64 4, .int .i64 1, .int .i64 4, .int .i64 1, .int .i64 1])
  have T9 := Lib.hid (T0.out.set #[.int .i64 1, .int .i64 2, .int .i64 4, .int .i64 1, .int .i64 4, .int .i64 1, .int .i64 1])
  go_wp2
  refine bodyPost_ret (results_cell_row rfl _ _ w.heap.size 48 _ (0, 0) _ rfl T9.out.row Tryz.underlying48 rfl size_geom) rfl ?_
  exact ⟨rfl, B9.out⟩
section
variable {w : World} {m : Sa} {s : Sc}
set_option maxHeartbeats 4000000 in
theorem made17_any (m : Sa) (s : Sc) (w : World) (h : SIn w m s) (hf : s.short) : Calls Tryz.prog 7 #[m.val s] w fun e w' =>
    (s.ok geo16 ∧ ∃ q p r, e = .returned (.pointer (some ⟨q, 0, none⟩)) ∧ Below w.heap.size w w' ∧ Wi (fun j => w.heap.size ≤ j) w' q p r geo16 s (Ch.new geo16 s) [] 0) ∨ (¬ s.ok geo16 ∧ e = .returned (.pointer none) ∧ Below w.heap.size w w') := by
  have HI := Lib.hid h
  have HF := Lib.hid hf
  have S0 := Lib.hid (CRow.new w (m.cells s) 26)
  have B0 := Lib.hid (below_new w (.cells (m.cells s) 26))
  obtain ⟨W0, hW0⟩ : ∃ W0, W0 = w.alloc (.cells (m.cells s) 26) := ⟨_, rfl⟩
  rw [← hW0] at S0 B0
  have HW0 := Lib.hid hW0
  clear h hf hW0
  simp only [Sa.val, Sa.cells] at *
  by_cases hok : s.ok geo16
  rotate_left
  · have HNN := Lib.hid (fun W (hh : SIn W m s) => show Calls Tryz.prog 14 #[.agg #[.int .i64 1, .int .i64 2, .int .i64 4, .int .i64 1, .int .i64 4, .int .i64 1, .int .i64 1], m.val s] W (Gives (.tuple #[.pointer none, .int .i64 2]) W) from (ChipNew_any geo16 geo16_ok (by rw [geo16_raw]; omega) m s W hh HF.out).mono fun e w' h => by
      rcases h with ⟨h, _⟩ | ⟨_, h⟩
      · exact absurd h hok
      · exact h)
    simp only [Sa.val, Sa.cells] at HNN
    go_enter Tryz.func7, Tryz.ntmps7
    go_wp2_with fail
    rw [← HW0.out]
    refine wp_region_noPanic ?_
    refine wp_region_held_drew (S := fun w' => Below W0.heap.size W0 w') (by kernel_rfl) ((Below.refl _ _).drew) (fun C0 => ?_)
    refine wpAnyH_take (i := 1) (oi := { dst := some 9, op := Op.load 26 (Operand.tmp 1), type := 26, pos := "law.go:20", after := #[], guard := none }) (v := ?_) rfl (by kernel_rfl) (by kernel_rfl) (by kernel_rfl) (fun _ _ _ h => h) (Or.inl ⟨by rfl, ?_⟩) C0 ?_
    rotate_left
    · intro W' hSw
      have y0 := (S0.out.below hSw).cell_at 0 (.slice m.a1 s.busy.length m.c1) rfl
      have y1 := (S0.out.below hSw).cell_at 1 (.slice m.a2 s.fails.length m.c2) rfl
      have y2 := (S0.out.below hSw).cell_at 2 (.slice m.a3 s.turns.length m.c3) rfl
      have y3 := (S0.out.below hSw).cell_at 3 (.int .i64 s.cut) rfl
      have y4 := (S0.out.below hSw).cell_at 4 (.slice m.a4 s.torn.length m.c4) rfl
      have y5 := (S0.out.below hSw).cell_at 5 (.slice m.a5 s.marked.length m.c5) rfl
      clear hSw
      go_simp <;> with_reducible rfl
    try simp only [Act.put, List.setIfInBounds_toArray, List.set_cons_zero, List.set_cons_succ]
    refine wpAnyH_ready (rs := [0]) (by kernel_rfl) (by simp) ?_
    refine AllReadyH.cons (o := { dst := some 8, op := Op.call { callee := Callee.value (Operand.func 15), args := #[], argTypes := #[] }, type := 48, pos := "law.go:20", after := #[], guard := none }) rfl (fun K hK => ?_) AllReadyH.nil
    go_simp
    refine (plain17_any _).mono ?_
    rintro _ v51 ⟨rfl, hB⟩
    go_wp2_with fail
    refine hK.out _ _ (C0.trans (hB.mono C0.size)) (fun C1 => ?_)
    clear hK K hB
    try simp only [Act.put, List.setIfInBounds_toArray, List.set_cons_zero, List.set_cons_succ]
    refine wpAnyH_ready (rs := [2]) (by kernel_rfl) (by simp) ?_
    refine AllReadyH.cons (o := { dst := some 10, op := Op.call { callee := Callee.value (Operand.func 14), args := #[Operand.tmp 8, Operand.tmp 9], argTypes := #[48, 26] }, type := 45, pos := "law.go:20", after := #[{ on := 0, ground := Ground.data }, { on := 1, ground := Ground.data }, { on := 0, ground := Ground.chain }], guard := none }) rfl (fun K hK => ?_) AllReadyH.nil
    go_simp
    refine (HNN.out _ (HI.out.below (B0.out.trans ((C1).mono B0.out.size)))).mono ?_
    rintro _ v52 ⟨rfl, hB⟩
    go_wp2_with fail
    refine hK.out _ _ (C1.trans (hB.mono C1.size)) (fun C2 => ?_)
    clear hK K hB
    try simp only [Act.put, List.setIfInBounds_toArray, List.set_cons_zero, List.set_cons_succ]
    refine wpAnyH_take (i := 3) (oi := { dst := some 7, op := Op.move (Operand.tmp 10), type := 45, pos := "law.go:20", after := #[{ on := 2, ground := Ground.data }], guard := none }) (v := ?_) rfl (by kernel_rfl) (by kernel_rfl) (by kernel_rfl) (fun _ _ _ h => h) (Or.inl ⟨by rfl, ?_⟩) C2 ?_
    rotate_left
    · intro W' hSw
      clear hSw
      go_simp <;> with_reducible rfl
    try simp only [Act.put, List.setIfInBounds_toArray, List.set_cons_zero, List.set_cons_succ]
    refine wpAnyH_take (i := 4) (oi := { dst := some 11, op := Op.extract (Operand.tmp 7) 0, type := 44, pos := "law.go:20", after := #[{ on := 3, ground := Ground.data }], guard := none }) (v := ?_) rfl (by kernel_rfl) (by kernel_rfl) (by kernel_rfl) (fun _ _ _ h => h) (Or.inl ⟨by rfl, ?_⟩) C2 ?_
    rotate_left
    · intro W' hSw
      clear hSw
      go_simp <;> with_reducible rfl
    try simp only [Act.put, List.setIfInBounds_toArray, List.set_cons_zero, List.set_cons_succ]
    refine wpAnyH_take (i := 5) (oi := { dst := some 12, op := Op.extract (Operand.tmp 7) 1, type := 31, pos := "law.go:20", after := #[{ on := 3, ground := Ground.data }, { on := 6, ground := Ground.gcOnly Departure.lateStores }], guard := none }) (v := ?_) rfl (by kernel_rfl) (by kernel_rfl) (by kernel_rfl) (fun _ _ _ h => h) (Or.inl ⟨by rfl, ?_⟩) C2 ?_
    rotate_left
    · intro W' hSw
      clear hSw
      go_simp <;> with_reducible rfl
    try simp only [Act.put, List.setIfInBounds_toArray, List.set_cons_zero, List.set_cons_succ]
    refine wpAnyH_take (i := 6) (oi := { dst := some 3, op := Op.assign (Operand.tmp 11), type := 44, pos := "law.go:20", after := #[{ on := 4, ground := Ground.data }, { on := 2, ground := Ground.chain }, { on := 0, ground := Ground.phase }, { on := 1, ground := Ground.phase }, { on := 2, ground := Ground.phase }, { on := 3, ground := Ground.phase }, { on := 4, ground := Ground.phase }, { on := 5, ground := Ground.textOnly Departure.lateStores }], guard := none }) (v := ?_) rfl (by kernel_rfl) (by kernel_rfl) (by kernel_rfl) (fun _ _ _ h => h) (Or.inl ⟨by rfl, ?_⟩) C2 ?_
    rotate_left
    · intro W' hSw
      clear hSw
      go_simp <;> with_reducible rfl
    try simp only [Act.put, List.setIfInBounds_toArray, List.set_cons_zero, List.set_cons_succ]
    refine wpAnyH_take (i := 7) (oi := { dst := some 4, op := Op.assign (Operand.tmp 12), type := 31, pos := "law.go:20", after := #[{ on := 5, ground := Ground.data }, { on := 6, ground := Ground.chain }, { on := 0, ground := Ground.phase }, { on := 1, ground := Ground.phase }, { on := 2, ground := Ground.phase }, { on := 3, ground := Ground.phase }, { on := 4, ground := Ground.phase }, { on := 5, ground := Ground.phase }, { on := 6, ground := Ground.phase }], guard := none }) (v := ?_) rfl (by kernel_rfl) (by kernel_rfl) (by kernel_rfl) (fun _ _ _ h => h) (Or.inl ⟨by rfl, ?_⟩) C2 ?_
    rotate_left
    · intro W' hSw
      clear hSw
      go_simp <;> with_reducible rfl
    try simp only [Act.put, List.setIfInBounds_toArray, List.set_cons_zero, List.set_cons_succ]
    have P5 := Lib.hid C2
    refine wpAnyH_done (by kernel_rfl) ?_ _
    refine NoPanic.normal ?_
    have B1 := Lib.hid (B0.out.trans (P5.out.mono B0.out.size))
    have NOK := Lib.hid hok
    clear hok
    go_wp2
    go_ret
    exact .inr ⟨NOK.out, rfl, B1.out⟩
  · have HNW := Lib.hid (fun W (hh : SIn W m s) => show Calls Tryz.prog 14 #[.agg #[.int .i64 1, .int .i64 2, .int .i64 4, .int .i64 1, .int .i64 4, .int .i64 1, .int .i64 1], m.val s] W (fun e w' => ∃ p, e = .returned (.tuple #[.pointer (some ⟨p, 0, none⟩), .int .i64 0]) ∧ Below W.heap.size W w' ∧ CH (fun j => W.heap.size ≤ j) w' p geo16 s (Ch.new geo16 s)) from (ChipNew_any geo16 geo16_ok (by rw [geo16_raw]; omega) m s W hh HF.out).mono fun e w' h => by
      rcases h with ⟨_, h⟩ | ⟨h, _⟩
      · exact h
      · exact absurd hok h)
    simp only [Sa.val, Sa.cells] at HNW
    go_enter Tryz.func7, Tryz.ntmps7
    go_wp2_with fail
    rw [← HW0.out]
    refine wp_region_noPanic ?_
    refine wp_region_held_drew (S := fun w' => Below W0.heap.size W0 w') (by kernel_rfl) ((Below.refl _ _).drew) (fun C0 => ?_)
    refine wpAnyH_take (i := 1) (oi := { dst := some 9, op := Op.load 26 (Operand.tmp 1), type := 26, pos := "law.go:20", after := #[], guard := none }) (v := ?_) rfl (by kernel_rfl) (by kernel_rfl) (by kernel_rfl) (fun _ _ _ h => h) (Or.inl ⟨by rfl, ?_⟩) C0 ?_
    rotate_left
    · intro W' hSw
      have y0 := (S0.out.below hSw).cell_at 0 (.slice m.a1 s.busy.length m.c1) rfl
      have y1 := (S0.out.below hSw).cell_at 1 (.slice m.a2 s.fails.length m.c2) rfl
      have y2 := (S0.out.below hSw).cell_at 2 (.slice m.a3 s.turns.length m.c3) rfl
      have y3 := (S0.out.below hSw).cell_at 3 (.int .i64 s.cut) rfl
      have y4 := (S0.out.below hSw).cell_at 4 (.slice m.a4 s.torn.length m.c4) rfl
      have y5 := (S0.out.below hSw).cell_at 5 (.slice m.a5 s.marked.length m.c5) rfl
      clear hSw
      go_simp <;> with_reducible rfl
    try simp only [Act.put, List.setIfInBounds_toArray, List.set_cons_zero, List.set_cons_succ]
    refine wpAnyH_ready (rs := [0]) (by kernel_rfl) (by simp) ?_
    refine AllReadyH.cons (o := { dst := some 8, op := Op.call { callee := Callee.value (Operand.func 15), args := #[], argTypes := #[] }, type := 48, pos := "law.go:20", after := #[], guard := none }) rfl (fun K hK => ?_) AllReadyH.nil
    go_simp
    refine (plain17_any _).mono ?_
    rintro _ v51 ⟨rfl, hB⟩
    go_wp2_with fail
    refine hK.out _ _ (C0.trans (hB.mono C0.size)) (fun C1 => ?_)
    clear hK K hB
    try simp only [Act.put, List.setIfInBounds_toArray, List.set_cons_zero, List.set_cons_succ]
    refine wpAnyH_ready (rs := [2]) (by kernel_rfl) (by simp) ?_
    refine AllReadyH.cons (o := { dst := some 10, op := Op.call { callee := Callee.value (Operand.func 14), args := #[Operand.tmp 8, Operand.tmp 9], argTypes := #[48, 26] }, type := 45, pos := "law.go:20", after := #[{ on := 0, ground := Ground.data }, { on := 1, ground := Ground.data }, { on := 0, ground := Ground.chain }], guard := none }) rfl (fun K hK => ?_) AllReadyH.nil
    go_simp
    refine (HNW.out _ (HI.out.below (B0.out.trans ((C1).mono B0.out.size)))).mono ?_
    rintro _ v52 ⟨p5, rfl, hB, hc⟩
    have C5 := Lib.hid hc
    have Q5 := Lib.hid C1
    have D5 := Lib.hid hB
    clear hc
    go_wp2_with fail
    refine hK.out _ _ (C1.trans (hB.mono C1.size)) (fun C2 => ?_)
    clear hK K hB
    try simp only [Act.put, List.setIfInBounds_toArray, List.set_cons_zero, List.set_cons_succ]
    refine wpAnyH_take (i := 3) (oi := { dst := some 7, op := Op.move (Operand.tmp 10), type := 45, pos := "law.go:20", after := #[{ on := 2, ground := Ground.data }], guard := none }) (v := ?_) rfl (by kernel_rfl) (by kernel_rfl) (by kernel_rfl) (fun _ _ _ h => h) (Or.inl ⟨by rfl, ?_⟩) C2 ?_
    rotate_left
    · intro W' hSw
      clear hSw
      go_simp <;> with_reducible rfl
    try simp only [Act.put, List.setIfInBounds_toArray, List.set_cons_zero, List.set_cons_succ]
    refine wpAnyH_take (i := 4) (oi := { dst := some 11, op := Op.extract (Operand.tmp 7) 0, type := 44, pos := "law.go:20", after := #[{ on := 3, ground := Ground.data }], guard := none }) (v := ?_) rfl (by kernel_rfl) (by kernel_rfl) (by kernel_rfl) (fun _ _ _ h => h) (Or.inl ⟨by rfl, ?_⟩) C2 ?_
    rotate_left
    · intro W' hSw
      clear hSw
      go_simp <;> with_reducible rfl
    try simp only [Act.put, List.setIfInBounds_toArray, List.set_cons_zero, List.set_cons_succ]
    refine wpAnyH_take (i := 5) (oi := { dst := some 12, op := Op.extract (Operand.tmp 7) 1, type := 31, pos := "law.go:20", after := #[{ on := 3, ground := Ground.data }, { on := 6, ground := Ground.gcOnly Departure.lateStores }], guard := none }) (v := ?_) rfl (by kernel_rfl) (by kernel_rfl) (by kernel_rfl) (fun _ _ _ h => h) (Or.inl ⟨by rfl, ?_⟩) C2 ?_
    rotate_left
    · intro W' hSw
      clear hSw
      go_simp <;> with_reducible rfl
    try simp only [Act.put, List.setIfInBounds_toArray, List.set_cons_zero, List.set_cons_succ]
    refine wpAnyH_take (i := 6) (oi := { dst := some 3, op := Op.assign (Operand.tmp 11), type := 44, pos := "law.go:20", after := #[{ on := 4, ground := Ground.data }, { on := 2, ground := Ground.chain }, { on := 0, ground := Ground.phase }, { on := 1, ground := Ground.phase }, { on := 2, ground := Ground.phase }, { on := 3, ground := Ground.phase }, { on := 4, ground := Ground.phase }, { on := 5, ground := Ground.textOnly Departure.lateStores }], guard := none }) (v := ?_) rfl (by kernel_rfl) (by kernel_rfl) (by kernel_rfl) (fun _ _ _ h => h) (Or.inl ⟨by rfl, ?_⟩) C2 ?_
    rotate_left
    · intro W' hSw
      clear hSw
      go_simp <;> with_reducible rfl
    try simp only [Act.put, List.setIfInBounds_toArray, List.set_cons_zero, List.set_cons_succ]
    refine wpAnyH_take (i := 7) (oi := { dst := some 4, op := Op.assign (Operand.tmp 12), type := 31, pos := "law.go:20", after := #[{ on := 5, ground := Ground.data }, { on := 6, ground := Ground.chain }, { on := 0, ground := Ground.phase }, { on := 1, ground := Ground.phase }, { on := 2, ground := Ground.phase }, { on := 3, ground := Ground.phase }, { on := 4, ground := Ground.phase }, { on := 5, ground := Ground.phase }, { on := 6, ground := Ground.phase }], guard := none }) (v := ?_) rfl (by kernel_rfl) (by kernel_rfl) (by kernel_rfl) (fun _ _ _ h => h) (Or.inl ⟨by rfl, ?_⟩) C2 ?_
    rotate_left
    · intro W' hSw
      clear hSw
      go_simp <;> with_reducible rfl
    try simp only [Act.put, List.setIfInBounds_toArray, List.set_cons_zero, List.set_cons_succ]
    have P5 := Lib.hid C2
    refine wpAnyH_done (by kernel_rfl) ?_ _
    refine NoPanic.normal ?_
    have B1 := Lib.hid (B0.out.trans (P5.out.mono B0.out.size))
    have B2 := Lib.hid (B0.out.trans (Q5.out.mono B0.out.size))
    have NOK := Lib.hid hok
    clear hok
    go_wp2_with fail
    refine (WNew_any C5.out).mono ?_
    rintro _ w3 ⟨q, r, rfl, h3, i3⟩
    have B3 := Lib.hid (below_step B1.out h3)
    have I3 := Lib.hid i3
    clear h3 i3
    go_wp2
    go_ret
    exact .inl ⟨NOK.out, q, p5, r, rfl, B3.out, I3.out.widen (fun j hj => Nat.le_trans B2.out.size hj) (Nat.le_trans B2.out.size I3.out.qi)⟩
end
def w17 : Int × Int × Ch × List Cy := waitW geo16 sc16 (Ch.new geo16 sc16) [] 96 5
theorem w17_is : w17.1 = 224 ∧ w17.2.1 = 0 ∧ w17.2.2.2.length = 2 ∧ pls w17.2.2.2 = 1 := by decide +kernel
set_option maxHeartbeats 4000000 in
theorem awake17_any (w : World) : Calls Tryz.prog 5 #[] w (Gives (.bool true) w) := by
  have HM := Lib.hid (show Calls Tryz.prog 7 #[.agg #[.slice none 0 0, .slice none 0 0, .slice none 0 0, .int .i64 (-1), .slice none 0 0, .slice none 0 0]] w (fun e w' => ∃ q p r, e = .returned (.pointer (some ⟨q, 0, none⟩)) ∧ Below w.heap.size w w' ∧ Wi (fun j => w.heap.size ≤ j) w' q p r geo16 sc16 (Ch.new geo16 sc16) [] 0) from
    (made17_any ⟨none, 0, none, 0, none, 0, none, 0, none, 0⟩ sc16 w ⟨⟨Rd.nil_, by simp [sc16]⟩, ⟨Rd.nil_, by simp [sc16]⟩, RN.nil_ _ _, ⟨Rd.nil_, by simp [sc16]⟩, ⟨Rd.nil_, by simp [sc16]⟩⟩ sc16_ok.1).mono fun e w' h => by
      rcases h with ⟨_, h⟩ | ⟨h, _⟩
      · exact h
      · exact absurd sc16_ok.2 h)
  go_enter Tryz.func5, Tryz.ntmps5
  go_wp2_with fail
  refine HM.out.mono ?_
  rintro _ w1 ⟨q, p, r, rfl, h1, i1⟩
  have B1 := Lib.hid h1
  obtain ⟨I, hI⟩ : ∃ I, I = fun j => w.heap.size ≤ j := ⟨_, rfl⟩
  rw [← hI] at i1
  have HII := Lib.hid (show ∀ j, I j → w.heap.size ≤ j from fun j hj => by rw [hI] at hj; exact hj)
  have HC := Lib.hid (Ready_any (Q := 0) 5 (by omega) (by omega) (by omega) sg16 (fun _ => Okc.new geo16_ok (by decide)) (by simp) (by omega) i1)
  clear h1 i1 hI HM
  unfold WaitIs at HC
  have HW := Lib.hid w17_is
  obtain ⟨z, hz⟩ : ∃ z, z = w17 := ⟨_, rfl⟩
  rw [show waitW geo16 sc16 (Ch.new geo16 sc16) [] 96 5 = z from hz.symm] at HC
  rw [← hz] at HW
  obtain ⟨v0, e, c1, L1⟩ := z
  simp only at HC HW
  obtain ⟨rfl, rfl, hl, hp⟩ := HW.out
  have HL := Lib.hid hl
  have HP := Lib.hid hp
  clear hz hl hp HW
  go_wp2_with fail
  refine HC.out.mono ?_
  rintro _ w2 ⟨k2, hk2, rfl, h2, b2, o2⟩
  have H2 := Lib.hid h2
  have B2 := Lib.hid (B1.out.trans (b2.below HII.out B1.out.size))
  have HSN := Lib.hid (Sent_any h2)
  rw [HL.out] at HSN
  clear h2 b2 o2 HC hk2
  go_wp2_with fail
  refine HSN.out.mono ?_
  rintro _ w3 ⟨rfl, h3⟩
  have H3 := Lib.hid (H2.out.below h3)
  have B3 := Lib.hid (below_step B2.out h3)
  have HT := Lib.hid (Trace_any (by rw [HL.out]; omega) H3.out)
  unfold OwnsC at HT
  clear h3 HSN
  go_wp2_with fail
  refine HT.out.mono ?_
  rintro _ w4 ⟨h4, A, c4, rfl, r4⟩
  have B4 := Lib.hid (below_step B3.out h4)
  have HPO := Lib.hid (Polls_any A L1.length c4 L1 w4 r4 (by rw [HL.out]; omega))
  rw [HP.out] at HPO
  clear h4 r4 HT
  go_wp2_with fail
  refine HPO.out.mono ?_
  rintro _ w5 ⟨rfl, h5⟩
  have B5 := Lib.hid (below_step B4.out h5)
  clear h5 HPO
  go_wp2
  go_ret
  exact ⟨rfl, B5.out⟩
end Go.Proofs.YtlnmehcanphmiaaGreat

/-
  The walk of PollEnds.
-/
namespace Go.Proofs.YtlnmehcanphmiaaGreat
open Go.RowKit
set_option maxRecDepth 100000

def lowB (l : List Int) (b : Int) : Bool := l.all fun d => decide (d < b)
theorem lowB_succ {l : List Int} {k : Nat} {x b : Int} (h : l[k]? = some x) : lowB (l.take (k + 1)) b = (lowB (l.take k) b && decide (x < b)) := by
  unfold lowB
  rw [List.take_add_one, h, List.all_append]
  simp
theorem lowB_nb {s : Sc} {c : Ch} {n : Nat} (hn : 1 ≤ n) (h : lowB s.busy (n : Int) = true) : nb s c < n := by
  unfold nb
  rw [List.getD_eq_getElem?_getD]
  cases hx : s.busy[c.bz]? with
  | none => show (0 : Int).toNat < n; simp; omega
  | some x =>
    have h1 := List.all_eq_true.1 h x (List.mem_of_getElem? hx)
    have h2 := of_decide_eq_true h1
    show x.toNat < n
    omega
/-- What the walk keeps between calls: the wire, its chip, the box of the script. -/
def Pe (w : World) (m : Sa) (s : Sc) (I : Nat → Prop) (q p r : Nat) (c : Ch) (L : List Cy) (k Q : Nat) (W : World) : Prop :=
  Wi I W q p r geo16 s c L k ∧ (c.on = true → Okc geo16 Q c) ∧ CRow W w.heap.size 26 (m.cells s) ∧ Below w.heap.size w W ∧ ∀ j, I j → w.heap.size < j
section
variable {w W W' : World} {m : Sa} {s : Sc} {I : Nat → Prop} {q p r k Q : Nat} {c : Ch} {L : List Cy}
theorem Pe.below (h : Pe w m s I q p r c L k Q W) (hb : Below W.heap.size W W') : Pe w m s I q p r c L k Q W' := ⟨h.1.below hb, h.2.1, h.2.2.1.below hb, below_step h.2.2.2.1 hb, h.2.2.2.2⟩
theorem Pe.turn {c' : Ch} {L' : List Cy} {k' Q' : Nat} (h : Pe w m s I q p r c L k Q W) (hw : Wi I W' q p r geo16 s c' L' k') (ho : c'.on = true → Okc geo16 Q' c') (hb : Btw I W W') : Pe w m s I q p r c' L' k' Q' W' :=
  ⟨hw, ho, h.2.2.1.btw hb (fun e => Nat.lt_irrefl _ (h.2.2.2.2 _ e)), h.2.2.2.1.trans (hb.below (S := w.heap.size) (fun j hj => Nat.le_of_lt (h.2.2.2.2 j hj)) h.2.2.2.1.size), h.2.2.2.2⟩
theorem Pe.row (h : Pe w m s I q p r c L k Q W) : CRow W w.heap.size 26 (m.cells s) := h.2.2.1
theorem pe_reset (n : Nat) (hn1 : 1 ≤ n) (hn2 : n ≤ 300) (hQ : Q ≤ 1000) (hL : L.length ≤ 1000) (hk : k ≤ 100) (hs : SG geo16 s) (h : Pe w m s I q p r c L k Q W) :
    Calls Tryz.prog 8 #[.pointer (some ⟨q, 0, none⟩), .int .i64 (n : Int)] W fun e W' => e = .returned (.int .i64 (resetW geo16 s c L n).1) ∧ ∃ k', k' ≤ k + 2 ∧ Pe w m s I q p r (resetW geo16 s c L n).2.1 (resetW geo16 s c L n).2.2 k' (Q + 2 + n) W' := by
  refine (Reset_any (Q := Q) n hn1 (by omega) (by omega) hs h.2.1 (by omega) (by omega) h.1).mono ?_
  rintro e W' ⟨k', h1, h2, h3, h4, h5⟩
  exact ⟨h2, k', h1, h.turn h3 h5 h4⟩
theorem pe_wait (mb : Int) (hm : 0 ≤ mb ∧ mb < 256) (n : Nat) (hn1 : 1 ≤ n) (hn2 : n ≤ 300) (hQ : Q ≤ 1000) (hL : L.length ≤ 1000) (hk : k ≤ 100) (hs : SG geo16 s) (h : Pe w m s I q p r c L k Q W) :
    Calls Tryz.prog 11 #[.pointer (some ⟨q, 0, none⟩), .int .u8 mb, .int .i64 (n : Int)] W fun e W' => e = .returned (.tuple #[.int .u8 (waitW geo16 s c L mb n).1, .int .i64 (waitW geo16 s c L mb n).2.1]) ∧ ∃ k', k' ≤ k + 1 ∧ Pe w m s I q p r (waitW geo16 s c L mb n).2.2.1 (waitW geo16 s c L mb n).2.2.2 k' (Q + 1 + n) W' := by
  refine (Wait_any (Q := Q) mb n hm hn1 (by omega) (by omega) hs h.2.1 (by omega) (by omega) h.1).mono ?_
  rintro e W' ⟨k', h1, h2, h3, h4, h5⟩
  exact ⟨h2, k', h1, h.turn h3 h5 h4⟩
theorem pe_trace (hL : L.length ≤ 100000) (h : Pe w m s I q p r c L k Q W) :
    Calls Tryz.prog 10 #[.pointer (some ⟨q, 0, none⟩)] W fun e W' => ∃ A c4, e = .returned (.slice A L.length c4) ∧ RC W' A L.length L ∧ Pe w m s I q p r c L k Q W' := by
  refine (Trace_any (by omega) h.1).mono ?_
  rintro e W' ⟨h1, A, c4, h2, h3⟩
  exact ⟨A, c4, h2, h3, h.below h1⟩
theorem pe_polls {A : Option Addr} {c4 : Nat} (hL : L.length ≤ 100000) (hr : RC W A L.length L) (h : Pe w m s I q p r c L k Q W) :
    Calls Tryz.prog 9 #[.slice A L.length c4] W fun e W' => e = .returned (.int .i64 ((pls L : Nat) : Int)) ∧ Pe w m s I q p r c L k Q W' := by
  refine (Polls_any A L.length c4 L W hr (by omega)).mono ?_
  rintro e W' ⟨h1, h2⟩
  exact ⟨h1, h.below h2⟩
end
set_option maxHeartbeats 16000000 in
theorem PollEnds_walk (m : Sa) (s : Sc) (mb bud : Int) (w : World) (h : SIn w m s) (hm : 0 ≤ mb ∧ mb < 256) (hb : -9223372036854775808 ≤ bud ∧ bud ≤ 9223372036854775807) :
    Calls Tryz.prog 3 #[m.val s, .int .u8 mb, .int .i64 bud] w (Gives (.bool true) w) := by
  have HI := Lib.hid h
  have HM := Lib.hid hm
  have S0 := Lib.hid (CRow.new w (m.cells s) 26)
  have B0 := Lib.hid (below_new w (.cells (m.cells s) 26))
  clear h hm
  simp only [Sa.val, Sa.cells] at *
  go_enter Tryz.func3, Tryz.ntmps3
  go_wp2_with fail
  refine (awake17_any _).mono ?_
  rintro _ w1 ⟨rfl, h1⟩
  have B1 := Lib.hid (below_step B0.out h1)
  have S1 := Lib.hid (S0.out.below h1)
  clear h1 B0 S0
  have y0 := S1.out.cell_at 0 (.slice m.a1 s.busy.length m.c1) rfl
  have y1 := S1.out.cell_at 1 (.slice m.a2 s.fails.length m.c2) rfl
  have y2 := S1.out.cell_at 2 (.slice m.a3 s.turns.length m.c3) rfl
  have y3 := S1.out.cell_at 3 (.int .i64 s.cut) rfl
  have y4 := S1.out.cell_at 4 (.slice m.a4 s.torn.length m.c4) rfl
  have y5 := S1.out.cell_at 5 (.slice m.a5 s.marked.length m.c5) rfl
  go_wp2_with fail
  refine (Few_any m s _).mono ?_
  rintro _ w2 ⟨v, rfl, hv, h2⟩
  have B2 := Lib.hid (below_step B1.out h2)
  have S2 := Lib.hid (S1.out.below h2)
  clear h2 B1 S1 y0 y1 y2 y3 y4 y5
  cases v
  · clear hv
    go_wp2
    go_ret
    exact ⟨rfl, B2.out⟩
  have HF := Lib.hid (hv.1 rfl)
  clear hv
  by_cases h300 : 300 < bud
  · have d1 : decide (300 < bud) = true := decide_eq_true h300
    go_wp2
    go_ret
    exact ⟨rfl, B2.out⟩
  have d1 : decide (300 < bud) = false := decide_eq_false h300
  have HMD := Lib.hid (made17_any m s w2 (HI.out.below B2.out) HF.out.short)
  simp only [Sa.val, Sa.cells] at HMD
  have y0 := S2.out.cell_at 0 (.slice m.a1 s.busy.length m.c1) rfl
  have y1 := S2.out.cell_at 1 (.slice m.a2 s.fails.length m.c2) rfl
  have y2 := S2.out.cell_at 2 (.slice m.a3 s.turns.length m.c3) rfl
  have y3 := S2.out.cell_at 3 (.int .i64 s.cut) rfl
  have y4 := S2.out.cell_at 4 (.slice m.a4 s.torn.length m.c4) rfl
  have y5 := S2.out.cell_at 5 (.slice m.a5 s.marked.length m.c5) rfl
  go_wp2_with fail
  refine HMD.out.mono ?_
  clear y0 y1 y2 y3 y4 y5 HMD
  rintro _ w3 (⟨hok, q, p, r, rfl, h3, i3⟩ | ⟨_, rfl, h3⟩)
  rotate_left
  · have B3 := Lib.hid (below_step B2.out h3)
    clear h3
    go_wp2
    go_ret
    exact ⟨rfl, B3.out⟩
  · have HSG := Lib.hid (show SG geo16 s from ⟨HF.out.short, hok, HI.out.torn.2⟩)
    have HCUT := Lib.hid hok.cut
    obtain ⟨I, hI⟩ : ∃ I, I = fun j => w2.heap.size ≤ j := ⟨_, rfl⟩
    rw [← hI] at i3
    have P5 := Lib.hid (show Pe w m s I q p r (Ch.new geo16 s) [] 0 0 w3 from ⟨i3, fun _ => Okc.new geo16_ok HCUT.out, S2.out.below h3, below_step B2.out h3, fun j hj => by rw [hI] at hj; exact Nat.lt_of_lt_of_le S2.out.lt hj⟩)
    clear hok i3 hI h3 B2 S2
    by_cases hb1 : bud < 1
    · skip
      have HRN := Lib.hid (fun W => Reset_no (some ⟨q, 0, none⟩) bud (by omega) W)
      have HWN := Lib.hid (fun W => Wait_no (some ⟨q, 0, none⟩) mb bud (by omega) W)
      have g1 : decide (bud < 1) = true := decide_eq_true (by omega)
      have g2 : decide (1 ≤ bud) = false := decide_eq_false (by omega)
      have g3 : (if bud < 0 then (0 : Int) else bud) = 0 := by split <;> omega
      have BD := Lib.hid hb1
      have hp0 : pls [] = 0 := rfl
      go_wp2_with fail
      refine (HRN.out _).mono ?_
      rintro _ _ ⟨rfl, h⟩
      have P6 := Lib.hid (P5.out.below h)
      clear h HRN P5
      go_wp2_with fail
      refine (pe_trace (by simp) P6.out).mono ?_
      rintro _ _ ⟨A, c4, rfl, r4, h⟩
      have P7a := Lib.hid h
      have HPO := Lib.hid (pe_polls (c4 := c4) (by simp) r4 P7a.out)
      clear h r4
      rw [hp0] at HPO
      go_wp2_with fail
      refine HPO.out.mono ?_
      rintro _ wz ⟨rfl, h⟩
      have P7 := Lib.hid h
      clear h HPO P7a
      have y0 := P7.out.row.cell_at 0 (.slice m.a1 s.busy.length m.c1) rfl
      go_wp2_with fail
      clear y0
      go_loopw [10, 49] (fun lv iv wr => ∃ k : Nat, k ≤ s.busy.length ∧ lv = .bool (lowB (s.busy.take k) bud) ∧ iv = .int .i64 (k : Int) ∧ Hid (Below wz.heap.size wz wr)) (fun _ iv _ => s.busy.length - (intOf iv).toNat)
      case atStart => exact ⟨0, Nat.zero_le _, rfl, rfl, Lib.hid (Below.refl _ _)⟩
      case round =>
        obtain ⟨kk, hk, rfl, rfl, HBL⟩ := hrel
        rename World => wl
        by_cases hlt : kk < s.busy.length
        · have HX0 := (HI.out.busy.below (below_step P7.out.2.2.2.1 HBL.out)).at_ hlt
          obtain ⟨b9, o9, x, hA, hb9, HX, hx1, hx2, x0⟩ := HX0
          have HG := Lib.hid (lowB_succ (b := bud) HX.out)
          have hlb := HF.out.busy
          have dl : decide ((kk : Int) < (s.busy.length : Int)) = true := decide_eq_true (by omega)
          have i0 : (0 : Int) ≤ (kk : Int) := by omega
          obtain ⟨y, hy⟩ : ∃ y, y = lowB (s.busy.take kk) bud := ⟨_, rfl⟩
          rw [← hy] at HG ⊢
          obtain ⟨Z, hZ⟩ : ∃ Z, Z = s.busy.length := ⟨_, rfl⟩
          rw [← hZ] at dl hlt hlb hk ⊢
          rw [hA]
          have HZ := Lib.hid hZ
          clear hb9 hx1 hx2 hy hA hZ
          cases y with
          | true =>
            have HG2 := Lib.hid (show lowB (s.busy.take (kk + 1)) bud = decide (x < bud) from HG.out)
            cases hdx : decide (x < bud) with
            | true =>
              rw [hdx] at HG2
              go_wp2
              go_roundw
              case rel => exact ⟨kk + 1, by omega, by rw [HG2.out], by go_num, HBL⟩
              case measure => simp [intOf]; omega
            | false =>
              rw [hdx] at HG2
              go_wp2
              go_roundw
              case rel => exact ⟨kk + 1, by omega, by rw [HG2.out], by go_num, HBL⟩
              case measure => simp [intOf]; omega
          | false =>
            have HG2 := Lib.hid (show lowB (s.busy.take (kk + 1)) bud = false from HG.out)
            go_wp2
            go_roundw
            case rel => exact ⟨kk + 1, by omega, by rw [HG2.out], by go_num, HBL⟩
            case measure => simp [intOf]; omega
        · obtain rfl : kk = s.busy.length := by omega
          have dl : decide ((s.busy.length : Int) < (s.busy.length : Int)) = false := decide_eq_false (by omega)
          rw [List.take_length]
          have PZ := Lib.hid (P7.out.below HBL.out)
          clear P7
          cases hlow : lowB s.busy bud with
          | false =>
            clear hlow
            go_wp2_with fail
            refine (HWN.out _).mono ?_
            rintro _ _ ⟨rfl, h⟩
            have P8 := Lib.hid (PZ.out.below h)
            clear h
            go_wp2_with fail
            refine (pe_trace (by simp) P8.out).mono ?_
            rintro _ _ ⟨A, c4, rfl, r4, h⟩
            have P9a := Lib.hid h
            have HPO := Lib.hid (pe_polls (c4 := c4) (by simp) r4 P9a.out)
            clear h r4
            rw [hp0] at HPO
            go_wp2_with fail
            refine HPO.out.mono ?_
            rintro _ wz ⟨rfl, h⟩
            have P9 := Lib.hid h
            clear h HPO P9a
            go_wp2
            go_ret
            exact ⟨rfl, P9.out.2.2.2.1⟩
          | true =>
            clear hlow
            go_wp2_with fail
            refine (HWN.out _).mono ?_
            rintro _ _ ⟨rfl, h⟩
            have P8 := Lib.hid (PZ.out.below h)
            clear h
            go_wp2_with fail
            refine (pe_trace (by simp) P8.out).mono ?_
            rintro _ _ ⟨A, c4, rfl, r4, h⟩
            have P9a := Lib.hid h
            have HPO := Lib.hid (pe_polls (c4 := c4) (by simp) r4 P9a.out)
            clear h r4
            rw [hp0] at HPO
            go_wp2_with fail
            refine HPO.out.mono ?_
            rintro _ wz ⟨rfl, h⟩
            have P9 := Lib.hid h
            clear h HPO P9a
            go_wp2
            go_ret
            exact ⟨rfl, P9.out.2.2.2.1⟩
    · skip
      obtain ⟨n, rfl⟩ : ∃ n : Nat, bud = (n : Int) := ⟨bud.toNat, by omega⟩
      have HN := Lib.hid (show 1 ≤ n ∧ n ≤ 300 by omega)
      have HC := Lib.hid (pe_reset n HN.out.1 HN.out.2 (by omega) (by simp) (by omega) HSG.out P5.out)
      have HRI := Lib.hid (resetW_is (g := geo16) (s := s) (Ch.new geo16 s) [] n)
      have HRD := Lib.hid (fun (h1 : lowB s.busy (n : Int) = true) (h2 : s.cut = -1) => resetW_ready (g := geo16) (s := s) (c := Ch.new geo16 s) (L := []) (n := n) rfl h2 (lowB_nb HN.out.1 h1))
      obtain ⟨y, hy⟩ : ∃ y, y = resetW geo16 s (Ch.new geo16 s) [] n := ⟨_, rfl⟩
      rw [← hy] at HC HRI HRD
      obtain ⟨e1, c1, L1⟩ := y
      simp only at HC HRI HRD
      clear hy hb1
      have g1 : decide ((n : Int) < 1) = false := decide_eq_false (by have := HN.out; omega)
      have g2 : decide (1 ≤ (n : Int)) = true := decide_eq_true (by have := HN.out; omega)
      have g3 : (if (n : Int) < 0 then (0 : Int) else (n : Int)) = n := if_neg (by omega)
      go_wp2_with fail
      refine HC.out.mono ?_
      rintro _ _ ⟨rfl, k1, hk1, h⟩
      have P6 := Lib.hid h
      have HK1 := Lib.hid hk1
      have HLL := Lib.hid (show L1.length ≤ 302 by have h9 : L1.length ≤ 0 + 2 + n := HRI.out.2.1; have := HN.out; omega)
      clear h hk1 HC P5
      go_wp2_with fail
      refine (pe_trace (by have := HLL.out; omega) P6.out).mono ?_
      rintro _ _ ⟨A, c4, rfl, r4, h⟩
      have P7a := Lib.hid h
      have HPO := Lib.hid (pe_polls (c4 := c4) (by have := HLL.out; omega) r4 P7a.out)
      clear h r4
      skip
      go_wp2_with fail
      refine HPO.out.mono ?_
      rintro _ wz ⟨rfl, h⟩
      have P7 := Lib.hid h
      clear h HPO P7a
      obtain ⟨z1, hz1⟩ : ∃ z1, z1 = pls L1 := ⟨_, rfl⟩
      rw [← hz1]
      have HZ1 := Lib.hid hz1.symm
      have HZ2 := Lib.hid (show z1 ≤ n by rw [hz1]; have := HRI.out.1; simpa [pls, plS, plF] using this)
      have hz2 := HZ2.out
      have d10 : decide ((n : Int) < (z1 : Int)) = false := decide_eq_false (by omega)
      have HE := Lib.hid HRI.out.2.2
      have he2 : e1 ≠ 2 := by rcases HE.out with h | h | h <;> omega
      have b2 : (e1 == 2) = false := by rw [beq_eq_false_iff_ne]; exact he2
      have j2 : (e1 = 2) = False := eq_false he2
      have dd2 : decide (e1 = 2) = false := decide_eq_false he2
      clear hz1 hz2 HRI he2
      have y0 := P7.out.row.cell_at 0 (.slice m.a1 s.busy.length m.c1) rfl
      go_wp2_with fail
      clear y0
      go_loopw [10, 49] (fun lv iv wr => ∃ k : Nat, k ≤ s.busy.length ∧ lv = .bool (lowB (s.busy.take k) (n : Int)) ∧ iv = .int .i64 (k : Int) ∧ Hid (Below wz.heap.size wz wr)) (fun _ iv _ => s.busy.length - (intOf iv).toNat)
      case atStart => exact ⟨0, Nat.zero_le _, rfl, rfl, Lib.hid (Below.refl _ _)⟩
      case round =>
        obtain ⟨kk, hk, rfl, rfl, HBL⟩ := hrel
        rename World => wl
        by_cases hlt : kk < s.busy.length
        · have HX0 := (HI.out.busy.below (below_step P7.out.2.2.2.1 HBL.out)).at_ hlt
          obtain ⟨b9, o9, x, hA, hb9, HX, hx1, hx2, x0⟩ := HX0
          have HG := Lib.hid (lowB_succ (b := (n : Int)) HX.out)
          have hlb := HF.out.busy
          have dl : decide ((kk : Int) < (s.busy.length : Int)) = true := decide_eq_true (by omega)
          have i0 : (0 : Int) ≤ (kk : Int) := by omega
          obtain ⟨y, hy⟩ : ∃ y, y = lowB (s.busy.take kk) (n : Int) := ⟨_, rfl⟩
          rw [← hy] at HG ⊢
          obtain ⟨Z, hZ⟩ : ∃ Z, Z = s.busy.length := ⟨_, rfl⟩
          rw [← hZ] at dl hlt hlb hk ⊢
          rw [hA]
          have HZ := Lib.hid hZ
          clear hb9 hx1 hx2 hy hA hZ
          cases y with
          | true =>
            have HG2 := Lib.hid (show lowB (s.busy.take (kk + 1)) (n : Int) = decide (x < (n : Int)) from HG.out)
            cases hdx : decide (x < (n : Int)) with
            | true =>
              rw [hdx] at HG2
              go_wp2
              go_roundw
              case rel => exact ⟨kk + 1, by omega, by rw [HG2.out], by go_num, HBL⟩
              case measure => simp [intOf]; omega
            | false =>
              rw [hdx] at HG2
              go_wp2
              go_roundw
              case rel => exact ⟨kk + 1, by omega, by rw [HG2.out], by go_num, HBL⟩
              case measure => simp [intOf]; omega
          | false =>
            have HG2 := Lib.hid (show lowB (s.busy.take (kk + 1)) (n : Int) = false from HG.out)
            go_wp2
            go_roundw
            case rel => exact ⟨kk + 1, by omega, by rw [HG2.out], by go_num, HBL⟩
            case measure => simp [intOf]; omega
        · obtain rfl : kk = s.busy.length := by omega
          have dl : decide ((s.busy.length : Int) < (s.busy.length : Int)) = false := decide_eq_false (by omega)
          rw [List.take_length]
          have PZ := Lib.hid (P7.out.below HBL.out)
          have y3 := PZ.out.row.cell_at 3 (.int .i64 s.cut) rfl
          cases hlow : lowB s.busy (n : Int) with
          | false =>
            clear HRD hlow
            have HC := Lib.hid (pe_wait mb HM.out n HN.out.1 HN.out.2 (by have := HN.out; omega) (by have := HLL.out; have := HN.out; omega) (by have := HK1.out; omega) HSG.out PZ.out)
            have HWI := Lib.hid (waitW_is (g := geo16) (s := s) c1 L1 mb n).2
            have HWP := Lib.hid (waitW_polls (g := geo16) (s := s) c1 L1 mb n)
            obtain ⟨y, hy⟩ : ∃ y, y = waitW geo16 s c1 L1 mb n := ⟨_, rfl⟩
            rw [← hy] at HC HWI HWP
            obtain ⟨v2, e2, c2, L2⟩ := y
            simp only at HC HWI HWP
            clear hy
            go_wp2_with fail
            refine HC.out.mono ?_
            rintro _ _ ⟨rfl, k2, hk2, h⟩
            have P8 := Lib.hid h
            have HL2 := Lib.hid (show L2.length ≤ 1000 by have := HWP.out.2.2; have := HLL.out; have := HN.out; omega)
            clear h HC hk2
            go_wp2_with fail
            refine (pe_trace (by have := HL2.out; omega) P8.out).mono ?_
            rintro _ _ ⟨A, c4, rfl, r4, h⟩
            have P9a := Lib.hid h
            have HPO := Lib.hid (pe_polls (c4 := c4) (by have := HL2.out; omega) r4 P9a.out)
            clear h r4
            skip
            go_wp2_with fail
            refine HPO.out.mono ?_
            rintro _ wz ⟨rfl, h⟩
            have P9 := Lib.hid h
            clear h HPO P9a
            have hwp := HWP.out
            rw [HZ1.out] at hwp
            have hnn := HN.out.2
            have hzz := HZ2.out
            have hv := HWI.out
            obtain ⟨z2, hz2⟩ : ∃ z2, z2 = pls L2 := ⟨_, rfl⟩
            rw [← hz2] at hwp ⊢
            clear hz2 HWP HWI
            have hd0 : IntKind.i64.wrap ((z2 : Int) - (z1 : Int)) = (z2 : Int) - (z1 : Int) := IntWalk.i64_in _ (by omega)
            have hd1 : decide ((z2 : Int) - (z1 : Int) ≤ (n : Int)) = true := decide_eq_true (by omega)
            rcases hv with ⟨he2, hq⟩ | ⟨he2, rfl⟩
            · subst he2
              have b1 : (bits .and .u8 v2 mb == mb) = true := hq
              have p1 : bits .and .u8 v2 mb = mb := by simpa using b1
              have j1 : (bits .and .u8 v2 mb = mb) = True := eq_true p1
              have dd1 : decide (bits .and .u8 v2 mb = mb) = true := decide_eq_true p1
              clear p1 hq
              go_wp2
              go_ret
              exact ⟨rfl, P9.out.2.2.2.1⟩
            · rcases he2 with rfl | rfl
              · go_wp2
                go_ret
                exact ⟨rfl, P9.out.2.2.2.1⟩
              · go_wp2
                go_ret
                exact ⟨rfl, P9.out.2.2.2.1⟩
          | true =>
            by_cases hcut : s.cut < 0
            · have dc : decide (s.cut < 0) = true := decide_eq_true hcut
              have hc1 := HCUT.out
              have h0 := HRD.out hlow (by omega)
              have HEN := Lib.hid h0
              clear HRD hlow hcut hc1 h0
              obtain rfl : e1 = 0 := HEN.out
              have HC := Lib.hid (pe_wait mb HM.out n HN.out.1 HN.out.2 (by have := HN.out; omega) (by have := HLL.out; have := HN.out; omega) (by have := HK1.out; omega) HSG.out PZ.out)
              have HWI := Lib.hid (waitW_is (g := geo16) (s := s) c1 L1 mb n).2
              have HWP := Lib.hid (waitW_polls (g := geo16) (s := s) c1 L1 mb n)
              obtain ⟨y, hy⟩ : ∃ y, y = waitW geo16 s c1 L1 mb n := ⟨_, rfl⟩
              rw [← hy] at HC HWI HWP
              obtain ⟨v2, e2, c2, L2⟩ := y
              simp only at HC HWI HWP
              clear hy
              go_wp2_with fail
              refine HC.out.mono ?_
              rintro _ _ ⟨rfl, k2, hk2, h⟩
              have P8 := Lib.hid h
              have HL2 := Lib.hid (show L2.length ≤ 1000 by have := HWP.out.2.2; have := HLL.out; have := HN.out; omega)
              clear h HC hk2
              go_wp2_with fail
              refine (pe_trace (by have := HL2.out; omega) P8.out).mono ?_
              rintro _ _ ⟨A, c4, rfl, r4, h⟩
              have P9a := Lib.hid h
              have HPO := Lib.hid (pe_polls (c4 := c4) (by have := HL2.out; omega) r4 P9a.out)
              clear h r4
              skip
              go_wp2_with fail
              refine HPO.out.mono ?_
              rintro _ wz ⟨rfl, h⟩
              have P9 := Lib.hid h
              clear h HPO P9a
              have hwp := HWP.out
              rw [HZ1.out] at hwp
              have hnn := HN.out.2
              have hzz := HZ2.out
              have hv := HWI.out
              obtain ⟨z2, hz2⟩ : ∃ z2, z2 = pls L2 := ⟨_, rfl⟩
              rw [← hz2] at hwp ⊢
              clear hz2 HWP HWI
              have hd0 : IntKind.i64.wrap ((z2 : Int) - (z1 : Int)) = (z2 : Int) - (z1 : Int) := IntWalk.i64_in _ (by omega)
              have hd1 : decide ((z2 : Int) - (z1 : Int) ≤ (n : Int)) = true := decide_eq_true (by omega)
              rcases hv with ⟨he2, hq⟩ | ⟨he2, rfl⟩
              · subst he2
                have b1 : (bits .and .u8 v2 mb == mb) = true := hq
                have p1 : bits .and .u8 v2 mb = mb := by simpa using b1
                have j1 : (bits .and .u8 v2 mb = mb) = True := eq_true p1
                have dd1 : decide (bits .and .u8 v2 mb = mb) = true := decide_eq_true p1
                clear p1 hq
                go_wp2
                go_ret
                exact ⟨rfl, P9.out.2.2.2.1⟩
              · rcases he2 with rfl | rfl
                · go_wp2
                  go_ret
                  exact ⟨rfl, P9.out.2.2.2.1⟩
                · go_wp2
                  go_ret
                  exact ⟨rfl, P9.out.2.2.2.1⟩
            · have dc : decide (s.cut < 0) = false := decide_eq_false hcut
              clear HRD hlow hcut
              have HC := Lib.hid (pe_wait mb HM.out n HN.out.1 HN.out.2 (by have := HN.out; omega) (by have := HLL.out; have := HN.out; omega) (by have := HK1.out; omega) HSG.out PZ.out)
              have HWI := Lib.hid (waitW_is (g := geo16) (s := s) c1 L1 mb n).2
              have HWP := Lib.hid (waitW_polls (g := geo16) (s := s) c1 L1 mb n)
              obtain ⟨y, hy⟩ : ∃ y, y = waitW geo16 s c1 L1 mb n := ⟨_, rfl⟩
              rw [← hy] at HC HWI HWP
              obtain ⟨v2, e2, c2, L2⟩ := y
              simp only at HC HWI HWP
              clear hy
              go_wp2_with fail
              refine HC.out.mono ?_
              rintro _ _ ⟨rfl, k2, hk2, h⟩
              have P8 := Lib.hid h
              have HL2 := Lib.hid (show L2.length ≤ 1000 by have := HWP.out.2.2; have := HLL.out; have := HN.out; omega)
              clear h HC hk2
              go_wp2_with fail
              refine (pe_trace (by have := HL2.out; omega) P8.out).mono ?_
              rintro _ _ ⟨A, c4, rfl, r4, h⟩
              have P9a := Lib.hid h
              have HPO := Lib.hid (pe_polls (c4 := c4) (by have := HL2.out; omega) r4 P9a.out)
              clear h r4
              skip
              go_wp2_with fail
              refine HPO.out.mono ?_
              rintro _ wz ⟨rfl, h⟩
              have P9 := Lib.hid h
              clear h HPO P9a
              have hwp := HWP.out
              rw [HZ1.out] at hwp
              have hnn := HN.out.2
              have hzz := HZ2.out
              have hv := HWI.out
              obtain ⟨z2, hz2⟩ : ∃ z2, z2 = pls L2 := ⟨_, rfl⟩
              rw [← hz2] at hwp ⊢
              clear hz2 HWP HWI
              have hd0 : IntKind.i64.wrap ((z2 : Int) - (z1 : Int)) = (z2 : Int) - (z1 : Int) := IntWalk.i64_in _ (by omega)
              have hd1 : decide ((z2 : Int) - (z1 : Int) ≤ (n : Int)) = true := decide_eq_true (by omega)
              rcases hv with ⟨he2, hq⟩ | ⟨he2, rfl⟩
              · subst he2
                have b1 : (bits .and .u8 v2 mb == mb) = true := hq
                have p1 : bits .and .u8 v2 mb = mb := by simpa using b1
                have j1 : (bits .and .u8 v2 mb = mb) = True := eq_true p1
                have dd1 : decide (bits .and .u8 v2 mb = mb) = true := decide_eq_true p1
                clear p1 hq
                go_wp2
                go_ret
                exact ⟨rfl, P9.out.2.2.2.1⟩
              · rcases he2 with rfl | rfl
                · go_wp2
                  go_ret
                  exact ⟨rfl, P9.out.2.2.2.1⟩
                · go_wp2
                  go_ret
                  exact ⟨rfl, P9.out.2.2.2.1⟩
end Go.Proofs.YtlnmehcanphmiaaGreat
