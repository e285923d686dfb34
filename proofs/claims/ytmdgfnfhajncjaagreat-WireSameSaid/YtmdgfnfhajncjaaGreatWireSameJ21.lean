/-
  A wire in memory: its chip, its recorder; and what sending comes to.
-/
import Derived.Test.YtmdgfnfhajncjaaGreatWireSameJ19
import Derived.Test.YtmdgfnfhajncjaaGreatWireSameJTrB
import Derived.Test.YtmdgfnfhajncjaaGreatWireSameJ7
import Derived.Test.YtmdgfnfhajncjaaGreatWireSameJ16
import Derived.Test.YtmdgfnfhajncjaaGreatWireSameJ3
import Derived.Test.YtmdgfnfhajncjaaGreatWireSameJ10
import Derived.Test.YtmdgfnfhajncjaaGreatWireSameJCycC
namespace Go.Proofs.YtmdgfnfhajncjaaGreat
open Go.RowKit
set_option maxRecDepth 100000

/-- What is kept of a cycle that was sent: a Read has the byte that came back. -/
def keptC (t : Cy) (v : Int) : Cy := ⟨t.k, if t.k = 4 then v.toNat else t.b⟩
/-- A cycle is sent: the byte, the error, the chip, what is stored. -/
def sendC (g : Gm) (s : Sc) (c : Ch) (L : List Cy) (t : Cy) : Int × Int × Ch × List Cy :=
  if (c.doC g s t).2.1 = 0 then ((c.doC g s t).1, 0, (c.doC g s t).2.2, L ++ [keptC t (c.doC g s t).1]) else (0, (c.doC g s t).2.1, (c.doC g s t).2.2, L)
/-- What sending came to so far. -/
structure Ws where
  e : Int
  c : Ch
  l : List Cy
def stepW (g : Gm) (s : Sc) (a : Ws) (t : Cy) : Ws := if a.e = 0 then ⟨(sendC g s a.c a.l t).2.1, (sendC g s a.c a.l t).2.2.1, (sendC g s a.c a.l t).2.2.2⟩ else a
def runW (g : Gm) (s : Sc) (c : Ch) (L : List Cy) (ts : List Cy) : Ws := ts.foldl (stepW g s) ⟨0, c, L⟩
section
variable {g : Gm} {s : Sc} {c : Ch} {L ts : List Cy} {k : Nat} {t : Cy}
theorem runW_zero : runW g s c L (ts.take 0) = ⟨0, c, L⟩ := by simp [runW]
theorem runW_succ (h : ts[k]? = some t) : runW g s c L (ts.take (k + 1)) = stepW g s (runW g s c L (ts.take k)) t := by
  unfold runW
  rw [List.take_add_one, h, List.foldl_append]
  rfl
theorem fold_stuck (ts : List Cy) (a : Ws) (h : a.e ≠ 0) : ts.foldl (stepW g s) a = a := by
  induction ts with
  | nil => rfl
  | cons t ts ih => rw [List.foldl_cons, show stepW g s a t = a from if_neg h, ih]
theorem runW_stuck (h : (runW g s c L (ts.take k)).e ≠ 0) : runW g s c L ts = runW g s c L (ts.take k) := by
  have e : ts.foldl (stepW g s) ⟨0, c, L⟩ = (ts.drop k).foldl (stepW g s) ((ts.take k).foldl (stepW g s) ⟨0, c, L⟩) := by rw [← List.foldl_append, List.take_append_drop]
  exact e.trans (fold_stuck _ _ h)
theorem stepW_len (a : Ws) (t : Cy) : (stepW g s a t).l.length ≤ a.l.length + 1 ∧ a.l.length ≤ (stepW g s a t).l.length ∧ ((stepW g s a t).e = 0 → a.e = 0 ∧ (stepW g s a t).l.length = a.l.length + 1) := by
  unfold stepW
  split
  · rename_i h
    unfold sendC
    split
    · simp [h]
    · rename_i h2
      exact ⟨by simp, by simp, fun e => absurd e h2⟩
  · rename_i h
    exact ⟨by omega, by omega, fun e => absurd e h⟩
theorem fold_len (ts : List Cy) (a : Ws) : (ts.foldl (stepW g s) a).l.length ≤ a.l.length + ts.length ∧ a.l.length ≤ (ts.foldl (stepW g s) a).l.length ∧ ((ts.foldl (stepW g s) a).e = 0 → a.e = 0 ∧ (ts.foldl (stepW g s) a).l.length = a.l.length + ts.length) := by
  induction ts generalizing a with
  | nil => exact ⟨Nat.le_refl _, Nat.le_refl _, fun h => ⟨h, rfl⟩⟩
  | cons t ts ih =>
    rw [List.foldl_cons, List.length_cons]
    obtain ⟨h1, h2, h3⟩ := ih (stepW g s a t)
    obtain ⟨k1, k2, k3⟩ := stepW_len (g := g) (s := s) a t
    refine ⟨by omega, by omega, fun e => ?_⟩
    obtain ⟨m1, m2⟩ := h3 e
    obtain ⟨n1, n2⟩ := k3 m1
    exact ⟨n1, by omega⟩
theorem runW_len : (runW g s c L ts).l.length ≤ L.length + ts.length ∧ ((runW g s c L ts).e = 0 → (runW g s c L ts).l.length = L.length + ts.length) := by
  obtain ⟨h1, _, h3⟩ := fold_len (g := g) (s := s) ts ⟨0, c, L⟩
  exact ⟨h1, fun e => (h3 e).2⟩
end
theorem Btw.old {I : Nat → Prop} {w w' : World} (h : Btw I w w') : Btw (fun j => I j ∧ j < w.heap.size) w w' := ⟨h.os, h.tape, h.output, h.size, fun k hk hn => h.block k hk fun h1 => hn ⟨h1, hk⟩⟩
theorem Btw.more {I J : Nat → Prop} {w w' : World} (h : Btw I w w') (hJ : ∀ j, I j → J j) : Btw J w w' := ⟨h.os, h.tape, h.output, h.size, fun k hk hn => h.block k hk fun h1 => hn (hJ k h1)⟩
theorem own_at1 {w : World} {base : Nat} {e : TypeId} {v : Value} {n : Nat} {xs : List Value} (h : w.ownsRow base e 1 v n xs) : ∀ k, v.ownBlock = some k → base ≤ k ∧ ∃ cur : Array Value, w.heap[k]? = some (.cells cur e (0, 0)) := by
  intro k hk
  rcases h.2 with ⟨rfl, _⟩ | ⟨g, cap, cur, rfl, hbase, hg, _⟩
  · cases hk
  · simp only [Value.ownBlock, Option.some.injEq] at hk
    subst hk
    exact ⟨hbase, cur, hg⟩
/-- A wire at q: its chip at p, whose blocks are in IC, its recorder at r, whose blocks are in IR. -/
structure Wp (IC IR I : Nat → Prop) (w : World) (q p r : Nat) (g : Gm) (s : Sc) (c : Ch) (L : List Cy) (M : ByteArray → Option Nat) (k : Nat) : Prop where
  row : CRow w q 92 #[.pointer (some ⟨r, 0, none⟩), .pointer (some ⟨p, 0, none⟩)]
  ch : CH IC w p g s c
  rc : Rec w r IR L ((L.length : Nat) : Int) M k
  ap : ∀ j, IR j → ¬ IC j
  nc : ¬ IC q
  nr : ¬ IR q
  ci : ∀ j, IC j → I j
  ri : ∀ j, IR j → I j
  qi : I q
def Wi (I : Nat → Prop) (w : World) (q p r : Nat) (g : Gm) (s : Sc) (c : Ch) (L : List Cy) (k : Nat) : Prop := ∃ IC IR M, Wp IC IR I w q p r g s c L M k
section
variable {I IC IR J : Nat → Prop} {w w' : World} {q p r : Nat} {g : Gm} {s : Sc} {c c' : Ch} {L L' : List Cy} {M M' : ByteArray → Option Nat} {k k' : Nat}
theorem Wp.below (h : Wp IC IR I w q p r g s c L M k) (hb : Below w.heap.size w w') : Wp IC IR I w' q p r g s c L M k :=
  { h with row := h.row.below hb, ch := h.ch.below hb, rc := h.rc.below hb }
theorem Wp.did (h : Wp IC IR I w q p r g s c L M k) (hc : CH IC w' p g s c') (hb : Btw IC w w') : Wp IC IR I w' q p r g s c' L M k :=
  { h with row := h.row.btw hb h.nc, ch := hc, rc := h.rc.btw hb h.ap }
theorem Wp.new_ (h : Wp IC IR I w q p r g s c L M k) : ∀ j, w.heap.size ≤ j → I j := fun j hj => h.ci j (h.ch.new_ j hj)
/-- What turns none of its blocks; the new blocks are another's. -/
theorem Wp.other (h : Wp IC IR I w q p r g s c L M k) (hb : Btw J w w') (hJ : ∀ j, j < w.heap.size → J j → ¬ IC j ∧ ¬ IR j ∧ j ≠ q) : Wp (fun j => IC j ∧ (j < w.heap.size ∨ w'.heap.size ≤ j)) IR I w' q p r g s c L M k :=
  { row := h.row.btw hb.old fun hj => (hJ q hj.2 hj.1).2.2 rfl
    ch := h.ch.away hb.old fun j hj => (hJ j hj.2 hj.1).1
    rc := h.rc.btw hb.old fun j hi hj => (hJ j hj.2 hj.1).2.1 hi
    ap := fun j hj hi => h.ap j hj hi.1
    nc := fun hi => h.nc hi.1
    nr := h.nr
    ci := fun j hj => h.ci j hj.1
    ri := h.ri
    qi := h.qi }
/-- Its recorder was given something. -/
theorem Wp.turn (h : Wp IC IR I w q p r g s c L M k) (hb : Btw IR w w') (hr : Rec w' r J L' ((L'.length : Nat) : Int) M' k') (hj : ∀ j, j < w.heap.size → J j → IR j) : Wi I w' q p r g s c L' k' :=
  ⟨fun j => IC j ∧ (j < w.heap.size ∨ w'.heap.size ≤ j), J, M', h.row.btw hb h.nr, h.ch.away hb.old (fun j hj => h.ap j hj.1), hr, fun j h1 h2 => by
      rcases h2.2 with h3 | h3
      · exact h.ap j (hj j h3 h1) h2.1
      · have := hr.lt j h1; omega, fun h1 => h.nc h1.1, fun h1 => h.nr (hj q h.row.lt h1), fun j hj => h.ci j hj.1, fun j h1 => by
      rcases Nat.lt_or_ge j w.heap.size with h2 | h2
      · exact h.ri j (hj j h2 h1)
      · exact h.new_ j h2, h.qi⟩
theorem Wi.below (h : Wi I w q p r g s c L k) (hb : Below w.heap.size w w') : Wi I w' q p r g s c L k := by
  obtain ⟨IC, IR, M, h⟩ := h
  exact ⟨IC, IR, M, h.below hb⟩
theorem Wi.new_ (h : Wi I w q p r g s c L k) : ∀ j, w.heap.size ≤ j → I j := by
  obtain ⟨IC, IR, M, h⟩ := h
  exact h.new_
/-- Another turned its own blocks; the blocks that came meanwhile are another's. -/
theorem Wi.away (h : Wi I w q p r g s c L k) (hb : Btw J w w') (hJ : ∀ j, j < w.heap.size → J j → ¬ I j) : Wi (fun j => I j ∧ (j < w.heap.size ∨ w'.heap.size ≤ j)) w' q p r g s c L k := by
  obtain ⟨IC, IR, M, h⟩ := h
  have h1 := h.other hb fun j h1 h2 => ⟨fun h3 => hJ j h1 h2 (h.ci j h3), fun h3 => hJ j h1 h2 (h.ri j h3), fun h3 => hJ j h1 h2 (h3 ▸ h.qi)⟩
  exact ⟨_, IR, M, { h1 with
    ci := fun j hj => ⟨h.ci j hj.1, hj.2⟩
    ri := fun j hj => ⟨h.ri j hj, .inl (h.rc.lt j hj)⟩
    qi := ⟨h.qi, .inl h.row.lt⟩ }⟩
end
end Go.Proofs.YtmdgfnfhajncjaaGreat

/-
  A wire's made, send.
-/
namespace Go.Proofs.YtmdgfnfhajncjaaGreat
open Go.RowKit
set_option maxRecDepth 100000

section
variable {I IC IR : Nat → Prop} {w : World} {q p r : Nat} {g : Gm} {s : Sc} {c : Ch} {L : List Cy} {M : ByteArray → Option Nat} {k : Nat}
theorem wmade_nil (w : World) : Calls Tryz.prog 33 #[.pointer none] w (Gives (.bool false) w) := by
  go_enter Tryz.func33, Tryz.ntmps33
  go_wp2
  go_ret
  exact ⟨rfl, Below.refl _ _⟩
theorem wmade_yes (h : CRow w q 92 #[.pointer (some ⟨r, 0, none⟩), .pointer (some ⟨p, 0, none⟩)]) : Calls Tryz.prog 33 #[.pointer (some ⟨q, 0, none⟩)] w (Gives (.bool true) w) := by
  have x1 := h.cell_at 1 _ rfl
  go_enter Tryz.func33, Tryz.ntmps33
  go_wp2
  go_ret
  exact ⟨rfl, Below.refl _ _⟩
/-- A cycle was sent. -/
def Sends (I : Nat → Prop) (q p r : Nat) (g : Gm) (s : Sc) (c : Ch) (L : List Cy) (k Q : Nat) (t : Cy) (w : World) (e : Ending) (w' : World) : Prop :=
  ∃ k', k' ≤ k + 1 ∧ ((sendC g s c L t).2.1 = 0 → k' = k) ∧ e = .returned (.tuple #[.int .u8 (sendC g s c L t).1, .int .i64 (sendC g s c L t).2.1]) ∧ Wi I w' q p r g s (sendC g s c L t).2.2.1 (sendC g s c L t).2.2.2 k' ∧ Btw I w w' ∧
    ((sendC g s c L t).2.2.1.on = true → Okc g (Q + 1) (sendC g s c L t).2.2.1)
set_option maxHeartbeats 8000000 in
theorem send_any {Q : Nat} (t : Cy) (ht : inC t) (hQ : Q ≤ 100000) (hs : SG g s) (ho : c.on = true → Okc g Q c) (hL : L.length < 16777216) (hk : k < 1000) (h : Wi I w q p r g s c L k) :
    Calls Tryz.prog 44 #[.pointer (some ⟨q, 0, none⟩), .agg #[.int .i64 t.k, .int .u8 (t.b : Int)]] w (Sends I q p r g s c L k Q t w) := by
  obtain ⟨IC, IR, M, h⟩ := h
  have NEW := Lib.hid h.new_
  have B0 := Lib.hid (below_new w (.cells #[.int .i64 t.k, .int .u8 (t.b : Int)] 47))
  have Z0 := Lib.hid (CRow.new w #[.int .i64 t.k, .int .u8 (t.b : Int)] 47)
  have hw0 := h.other (J := fun _ => False) (Btw.of_below B0.out) fun _ _ h => h.elim
  obtain ⟨IX, hIX⟩ : ∃ IX, IX = fun j => IC j ∧ (j < w.heap.size ∨ (w.alloc (.cells #[.int .i64 t.k, .int .u8 (t.b : Int)] 47)).heap.size ≤ j) := ⟨_, rfl⟩
  have NH := Lib.hid (show ¬ IX w.heap.size by
    rw [hIX]
    intro h1
    have h3 : (w.alloc (.cells #[.int .i64 t.k, .int .u8 (t.b : Int)] 47)).heap.size = w.heap.size + 1 := by simp
    have h2 : w.heap.size < w.heap.size ∨ (w.alloc (.cells #[.int .i64 t.k, .int .u8 (t.b : Int)] 47)).heap.size ≤ w.heap.size := h1.2
    omega)
  rw [← hIX] at hw0
  have W0 := Lib.hid hw0
  have SX := Lib.hid hw0.ci
  have NQ := Lib.hid h.row.lt
  have NR := Lib.hid (show ¬ IR w.heap.size from fun h1 => Nat.lt_irrefl _ (h.rc.lt _ h1))
  obtain ⟨v0, e, c1, hd⟩ : ∃ v0 e c1, c.doC g s t = (v0, e, c1) := ⟨_, _, _, rfl⟩
  have hby := doC_byte (g := g) (s := s) t (regs h.ch).2.2.2.2
  rw [hd] at hby
  have hby : 0 ≤ v0 ∧ v0 < 256 := hby
  obtain ⟨v, rfl⟩ : ∃ v : Nat, v0 = (v : Int) := ⟨v0.toNat, by omega⟩
  have HV := Lib.hid (show v < 256 by omega)
  have HDO := Lib.hid (fun W (hh : CH IX W p g s c) => Do_w t ht.2.2 hQ hs ho hh)
  simp only [hd] at HDO
  have HON := Lib.hid (fun W (hh : CH IX W p g s c) => On_any hh)
  have HON1 := Lib.hid (fun W (hh : CH IX W p g s c1) => On_any hh)
  have HT := Lib.hid ht
  have HD := Lib.hid hd
  obtain ⟨on, hon⟩ : ∃ on, on = c.on := ⟨_, rfl⟩
  obtain ⟨on1, hon1⟩ : ∃ on1, on1 = c1.on := ⟨_, rfl⟩
  rw [← hon] at HON
  rw [← hon1] at HON1
  have x1 := W0.out.row.cell_at 1 _ rfl
  have LL := Lib.hid hL
  have KK := Lib.hid hk
  clear h hw0 hIX hby hd hs ho hon hon1 ht hL hk
  go_enter Tryz.func44, Tryz.ntmps44
  go_wp2_with fail
  clear x1
  refine (HON.out _ W0.out.ch).mono ?_
  rintro _ w1 ⟨rfl, h1⟩
  have W1 := Lib.hid (W0.out.below h1)
  have Z1 := Lib.hid (Z0.out.below h1)
  have B1 := Lib.hid (Btw.of_below (I := I) (below_step B0.out h1))
  clear h1 W0 Z0 B0 HON
  go_wp2_with fail
  refine wp_region_noPanic ?_
  refine wp_region_held_drew (S := fun w' => CRow w' q 92 #[.pointer (some ⟨r, 0, none⟩), .pointer (some ⟨p, 0, none⟩)] ∧ CRow w' w.heap.size 47 #[.int .i64 t.k, .int .u8 (t.b : Int)]) (by kernel_rfl) ⟨W1.out.row.drew, Z1.out.drew⟩ (fun C0 => ?_)
  refine wpAnyH_take (i := 0) (oi := { dst := some 15, op := Op.move (Operand.tmp 0), type := 39, pos := "wire.go:111", after := #[], guard := none }) (v := ?_) rfl (by kernel_rfl) (by kernel_rfl) (by kernel_rfl) (fun _ _ _ h => h) (Or.inl ⟨by rfl, ?_⟩) C0 ?_
  rotate_left
  · intro W' hSw
    clear hSw
    go_simp <;> with_reducible rfl
  try simp only [Act.put, List.setIfInBounds_toArray, List.set_cons_zero, List.set_cons_succ]
  refine wpAnyH_take (i := 1) (oi := { dst := some 16, op := Op.nilCheck (Operand.tmp 15), type := 0, pos := "wire.go:111", after := #[{ on := 0, ground := Ground.data }], guard := none }) (v := ?_) rfl (by kernel_rfl) (by kernel_rfl) (by kernel_rfl) (fun _ _ _ h => h) (Or.inl ⟨by rfl, ?_⟩) C0 ?_
  rotate_left
  · intro W' hSw
    clear hSw
    go_simp <;> with_reducible rfl
  try simp only [Act.put, List.setIfInBounds_toArray, List.set_cons_zero, List.set_cons_succ]
  refine wpAnyH_take (i := 2) (oi := { dst := some 17, op := Op.fieldAddr 92 (Operand.tmp 16) 1, type := 0, pos := "wire.go:111", after := #[{ on := 1, ground := Ground.data }], guard := none }) (v := ?_) rfl (by kernel_rfl) (by kernel_rfl) (by kernel_rfl) (fun _ _ _ h => h) (Or.inl ⟨by rfl, ?_⟩) C0 ?_
  rotate_left
  · intro W' hSw
    clear hSw
    go_simp <;> with_reducible rfl
  try simp only [Act.put, List.setIfInBounds_toArray, List.set_cons_zero, List.set_cons_succ]
  refine wpAnyH_take (i := 3) (oi := { dst := some 18, op := Op.load 33 (Operand.tmp 17), type := 33, pos := "wire.go:111", after := #[{ on := 2, ground := Ground.data }], guard := none }) (v := ?_) rfl (by kernel_rfl) (by kernel_rfl) (by kernel_rfl) (fun _ _ _ h => h) (Or.inl ⟨by rfl, ?_⟩) C0 ?_
  rotate_left
  · intro W' hSw
    obtain ⟨hs1, hs2⟩ := hSw
    have z1 := hs1.cell_at 1 _ rfl
    have y0 := hs2.cell_at 0 _ rfl
    have y1 := hs2.cell_at 1 _ rfl
    clear hs1 hs2
    go_simp <;> with_reducible rfl
  try simp only [Act.put, List.setIfInBounds_toArray, List.set_cons_zero, List.set_cons_succ]
  refine wpAnyH_take (i := 4) (oi := { dst := some 19, op := Op.load 47 (Operand.tmp 3), type := 47, pos := "wire.go:111", after := #[], guard := none }) (v := ?_) rfl (by kernel_rfl) (by kernel_rfl) (by kernel_rfl) (fun _ _ _ h => h) (Or.inl ⟨by rfl, ?_⟩) C0 ?_
  rotate_left
  · intro W' hSw
    obtain ⟨hs1, hs2⟩ := hSw
    have z1 := hs1.cell_at 1 _ rfl
    have y0 := hs2.cell_at 0 _ rfl
    have y1 := hs2.cell_at 1 _ rfl
    clear hs1 hs2
    go_simp <;> with_reducible rfl
  try simp only [Act.put, List.setIfInBounds_toArray, List.set_cons_zero, List.set_cons_succ]
  refine wpAnyH_ready (rs := [5]) (by kernel_rfl) (by simp) ?_
  refine AllReadyH.cons (o := { dst := some 20, op := Op.call { callee := Callee.value (Operand.func 73), args := #[Operand.tmp 18, Operand.tmp 19], argTypes := #[33, 47] }, type := 96, pos := "wire.go:111", after := #[{ on := 3, ground := Ground.data }, { on := 4, ground := Ground.data }], guard := none }) rfl (fun K hK => ?_) AllReadyH.nil
  go_simp
  refine (HDO.out _ (W1.out.ch.below ((Below.refl _ _).drew))).mono ?_
  rintro _ w2 ⟨rfl, h2, b2, o2, -⟩
  have D1 := Lib.hid (W1.out.below ((Below.refl _ _).drew))
  have W2 := Lib.hid (D1.out.did h2 b2)
  have Z2 := Lib.hid (Z1.out.drew.btw b2 NH.out)
  have B2 := Lib.hid ((B1.out.drew).trans (b2.more SX.out) fun _ _ h => h)
  have O2 := Lib.hid o2
  clear h2 b2 o2
  go_wp2_with fail
  refine hK.out _ _ ⟨W2.out.row, Z2.out⟩ (fun C1 => ?_)
  clear hK K
  try simp only [Act.put, List.setIfInBounds_toArray, List.set_cons_zero, List.set_cons_succ]
  refine wpAnyH_take (i := 6) (oi := { dst := some 14, op := Op.move (Operand.tmp 20), type := 96, pos := "wire.go:111", after := #[{ on := 5, ground := Ground.data }], guard := none }) (v := ?_) rfl (by kernel_rfl) (by kernel_rfl) (by kernel_rfl) (fun _ _ _ h => h) (Or.inl ⟨by rfl, ?_⟩) C1 ?_
  rotate_left
  · intro W' hSw
    clear hSw
    go_simp <;> with_reducible rfl
  try simp only [Act.put, List.setIfInBounds_toArray, List.set_cons_zero, List.set_cons_succ]
  refine wpAnyH_take (i := 7) (oi := { dst := some 21, op := Op.extract (Operand.tmp 14) 0, type := 5, pos := "wire.go:111", after := #[{ on := 6, ground := Ground.data }], guard := none }) (v := ?_) rfl (by kernel_rfl) (by kernel_rfl) (by kernel_rfl) (fun _ _ _ h => h) (Or.inl ⟨by rfl, ?_⟩) C1 ?_
  rotate_left
  · intro W' hSw
    clear hSw
    go_simp <;> with_reducible rfl
  try simp only [Act.put, List.setIfInBounds_toArray, List.set_cons_zero, List.set_cons_succ]
  refine wpAnyH_take (i := 8) (oi := { dst := some 22, op := Op.extract (Operand.tmp 14) 1, type := 34, pos := "wire.go:111", after := #[{ on := 6, ground := Ground.data }, { on := 9, ground := Ground.gcOnly Departure.lateStores }], guard := none }) (v := ?_) rfl (by kernel_rfl) (by kernel_rfl) (by kernel_rfl) (fun _ _ _ h => h) (Or.inl ⟨by rfl, ?_⟩) C1 ?_
  rotate_left
  · intro W' hSw
    clear hSw
    go_simp <;> with_reducible rfl
  try simp only [Act.put, List.setIfInBounds_toArray, List.set_cons_zero, List.set_cons_succ]
  refine wpAnyH_take (i := 9) (oi := { dst := some 7, op := Op.assign (Operand.tmp 21), type := 5, pos := "wire.go:111", after := #[{ on := 7, ground := Ground.data }, { on := 5, ground := Ground.chain }, { on := 0, ground := Ground.phase }, { on := 1, ground := Ground.phase }, { on := 2, ground := Ground.phase }, { on := 3, ground := Ground.phase }, { on := 4, ground := Ground.phase }, { on := 5, ground := Ground.phase }, { on := 6, ground := Ground.phase }, { on := 7, ground := Ground.phase }, { on := 8, ground := Ground.textOnly Departure.lateStores }], guard := none }) (v := ?_) rfl (by kernel_rfl) (by kernel_rfl) (by kernel_rfl) (fun _ _ _ h => h) (Or.inl ⟨by rfl, ?_⟩) C1 ?_
  rotate_left
  · intro W' hSw
    clear hSw
    go_simp <;> with_reducible rfl
  try simp only [Act.put, List.setIfInBounds_toArray, List.set_cons_zero, List.set_cons_succ]
  refine wpAnyH_take (i := 10) (oi := { dst := some 8, op := Op.assign (Operand.tmp 22), type := 34, pos := "wire.go:111", after := #[{ on := 8, ground := Ground.data }, { on := 9, ground := Ground.chain }, { on := 0, ground := Ground.phase }, { on := 1, ground := Ground.phase }, { on := 2, ground := Ground.phase }, { on := 3, ground := Ground.phase }, { on := 4, ground := Ground.phase }, { on := 5, ground := Ground.phase }, { on := 6, ground := Ground.phase }, { on := 7, ground := Ground.phase }, { on := 8, ground := Ground.phase }, { on := 9, ground := Ground.phase }], guard := none }) (v := ?_) rfl (by kernel_rfl) (by kernel_rfl) (by kernel_rfl) (fun _ _ _ h => h) (Or.inl ⟨by rfl, ?_⟩) C1 ?_
  rotate_left
  · intro W' hSw
    clear hSw
    go_simp <;> with_reducible rfl
  try simp only [Act.put, List.setIfInBounds_toArray, List.set_cons_zero, List.set_cons_succ]
  refine wpAnyH_done (by kernel_rfl) ?_ _
  refine NoPanic.normal ?_
  by_cases he : e = 0
  · subst he
    have hL := LL.out
    have hse : sendC g s c L t = ((v : Int), 0, c1, L ++ [keptC t (v : Int)]) := by unfold sendC; rw [HD.out]; rfl
    have x0 := Z2.out.cell_at 0 _ rfl
    by_cases h4 : t.k = 4
    · have HSE := Lib.hid (show sendC g s c L t = ((v : Int), 0, c1, L ++ [⟨t.k, v⟩]) by rw [hse]; unfold keptC; rw [if_pos h4]; rfl)
      clear hse
      have b4 : (t.k == 4) = true := by rw [h4]; rfl
      have j4 : (t.k = 4) = True := eq_true h4
      have d4 : decide (t.k = 4) = true := decide_eq_true h4
      clear h4
      have y1 := Z2.out.cell_at 1 _ rfl
      have f1 := Z2.out.frozen 1
      have S3 := Lib.hid (show CRow (w2.setCell ⟨w.heap.size, 1, none⟩ (.int .u8 (v : Int))) w.heap.size 47 #[.int .i64 t.k, .int .u8 (v : Int)] from Z2.out.setCell 1 (.int .u8 (v : Int)))
      have K3 := Lib.hid ((Btw.refl (I := fun j => j = w.heap.size) w2).setCell (p := ⟨w.heap.size, 1, none⟩) (v := .int .u8 (v : Int)) rfl)
      have W3 := Lib.hid (W2.out.other K3.out fun j _ hj => by
        have hj : j = w.heap.size := hj
        subst hj
        exact ⟨NH.out, NR.out, fun e => by have := NQ.out; omega⟩)
      have B3 := Lib.hid (B2.out.trans K3.out fun j _ hj => by
        have hj : j = w.heap.size := hj
        subst hj
        exact NEW.out _ (Nat.le_refl _))
      go_wp2_with fail
      obtain ⟨wx, hwx⟩ : ∃ wx, wx = w2.setCell ⟨w.heap.size, 1, none⟩ (.int .u8 (v : Int)) := ⟨_, rfl⟩
      rw [← hwx] at S3 K3 W3 B3
      try rw [← hwx]
      clear hwx x0 y1 f1 b4 j4 d4
      refine wp_region_noPanic ?_
      refine wp_region_held_drew (S := fun w' => CRow w' q 92 #[.pointer (some ⟨r, 0, none⟩), .pointer (some ⟨p, 0, none⟩)] ∧ CRow w' w.heap.size 47 #[.int .i64 t.k, .int .u8 (v : Int)]) (by kernel_rfl) ⟨W3.out.row.drew, S3.out.drew⟩ (fun C0 => ?_)
      refine wpAnyH_take (i := 0) (oi := { dst := some 45, op := Op.move (Operand.tmp 0), type := 39, pos := "wire.go:121", after := #[], guard := none }) (v := ?_) rfl (by kernel_rfl) (by kernel_rfl) (by kernel_rfl) (fun _ _ _ h => h) (Or.inl ⟨by rfl, ?_⟩) C0 ?_
      rotate_left
      · intro W' hSw
        clear hSw
        go_simp <;> with_reducible rfl
      try simp only [Act.put, List.setIfInBounds_toArray, List.set_cons_zero, List.set_cons_succ]
      refine wpAnyH_take (i := 1) (oi := { dst := some 46, op := Op.nilCheck (Operand.tmp 45), type := 0, pos := "wire.go:121", after := #[{ on := 0, ground := Ground.data }], guard := none }) (v := ?_) rfl (by kernel_rfl) (by kernel_rfl) (by kernel_rfl) (fun _ _ _ h => h) (Or.inl ⟨by rfl, ?_⟩) C0 ?_
      rotate_left
      · intro W' hSw
        clear hSw
        go_simp <;> with_reducible rfl
      try simp only [Act.put, List.setIfInBounds_toArray, List.set_cons_zero, List.set_cons_succ]
      refine wpAnyH_take (i := 2) (oi := { dst := some 47, op := Op.fieldAddr 92 (Operand.tmp 46) 0, type := 0, pos := "wire.go:121", after := #[{ on := 1, ground := Ground.data }], guard := none }) (v := ?_) rfl (by kernel_rfl) (by kernel_rfl) (by kernel_rfl) (fun _ _ _ h => h) (Or.inl ⟨by rfl, ?_⟩) C0 ?_
      rotate_left
      · intro W' hSw
        clear hSw
        go_simp <;> with_reducible rfl
      try simp only [Act.put, List.setIfInBounds_toArray, List.set_cons_zero, List.set_cons_succ]
      refine wpAnyH_take (i := 3) (oi := { dst := some 48, op := Op.load 89 (Operand.tmp 47), type := 89, pos := "wire.go:121", after := #[{ on := 2, ground := Ground.data }], guard := none }) (v := ?_) rfl (by kernel_rfl) (by kernel_rfl) (by kernel_rfl) (fun _ _ _ h => h) (Or.inl ⟨by rfl, ?_⟩) C0 ?_
      rotate_left
      · intro W' hSw
        obtain ⟨hs1, hs2⟩ := hSw
        have z1 := hs1.cell_at 0 _ rfl
        have y0 := hs2.cell_at 0 _ rfl
        have y1 := hs2.cell_at 1 _ rfl
        clear hs1 hs2
        go_simp <;> with_reducible rfl
      try simp only [Act.put, List.setIfInBounds_toArray, List.set_cons_zero, List.set_cons_succ]
      refine wpAnyH_take (i := 4) (oi := { dst := some 49, op := Op.load 47 (Operand.tmp 3), type := 47, pos := "wire.go:121", after := #[], guard := none }) (v := ?_) rfl (by kernel_rfl) (by kernel_rfl) (by kernel_rfl) (fun _ _ _ h => h) (Or.inl ⟨by rfl, ?_⟩) C0 ?_
      rotate_left
      · intro W' hSw
        obtain ⟨hs1, hs2⟩ := hSw
        have z1 := hs1.cell_at 0 _ rfl
        have y0 := hs2.cell_at 0 _ rfl
        have y1 := hs2.cell_at 1 _ rfl
        clear hs1 hs2
        go_simp <;> with_reducible rfl
      try simp only [Act.put, List.setIfInBounds_toArray, List.set_cons_zero, List.set_cons_succ]
      refine wpAnyH_ready (rs := [5]) (by kernel_rfl) (by simp) ?_
      refine AllReadyH.cons (o := { dst := some 50, op := Op.buildSlice 43 1 #[(0, Operand.tmp 49)], type := 43, pos := "wire.go:121", after := #[{ on := 4, ground := Ground.data }], guard := none }) rfl (fun K hK => ?_) AllReadyH.nil
      go_simp
      refine hK.out _ _ ⟨W3.out.row.drew.alloc (.cells #[.int .i64 t.k, .int .u8 (v : Int)] 47), S3.out.drew.alloc (.cells #[.int .i64 t.k, .int .u8 (v : Int)] 47)⟩ (fun C1 => ?_)
      clear hK K
      try simp only [Act.put, List.setIfInBounds_toArray, List.set_cons_zero, List.set_cons_succ]
      refine wpAnyH_ready (rs := [6]) (by kernel_rfl) (by simp) ?_
      refine AllReadyH.cons (o := { dst := some 51, op := Op.call { callee := Callee.value (Operand.func 75), args := #[Operand.tmp 48, Operand.tmp 50], argTypes := #[89, 43] }, type := 0, pos := "wire.go:121", after := #[{ on := 3, ground := Ground.data }, { on := 5, ground := Ground.data }], guard := none }) rfl (fun K hK => ?_) AllReadyH.nil
      go_simp
      have hx : RC (wx.drew.alloc (.cells #[.int .i64 t.k, .int .u8 (v : Int)] 47)) (some ⟨wx.heap.size, 0, none⟩) 1 [⟨t.k, v⟩] := RC.one wx.drew ⟨t.k, v⟩ ⟨HT.out.1, HT.out.2.1, HV.out⟩ 47
      have D4 := Lib.hid ((W3.out.below ((Below.refl _ _).drew)).below (below_new _ (.cells #[.int .i64 t.k, .int .u8 (v : Int)] 47)))
      refine (Add_any r IR L L.length M k (some ⟨wx.heap.size, 0, none⟩) 1 1 [⟨t.k, v⟩] _ D4.out.rc hx (by simp) (by omega) (by omega) (by omega)).mono ?_
      rintro _ w5 ⟨rfl, b5, J5, r5, j5⟩
      have W5 := Lib.hid (D4.out.turn (L' := L ++ [⟨t.k, v⟩]) b5 (by rw [List.length_append, List.length_singleton]; exact r5) j5)
      have B5 := Lib.hid ((((B3.out.drew).trans (Btw.of_below (I := I) (below_new _ (.cells #[.int .i64 t.k, .int .u8 (v : Int)] 47))) fun _ _ h => h)).trans (b5.more D4.out.ri) fun _ _ h => h)
      have R5 := Lib.hid (((W3.out.row.drew).alloc (.cells #[.int .i64 t.k, .int .u8 (v : Int)] 47)).btw b5 D4.out.nr)
      have Y5 := Lib.hid (((S3.out.drew).alloc (.cells #[.int .i64 t.k, .int .u8 (v : Int)] 47)).btw b5 (fun h => NR.out h))
      clear hx b5 r5 j5
      go_wp2_with fail
      refine hK.out _ _ ⟨R5.out, Y5.out⟩ (fun C2 => ?_)
      clear hK K
      try simp only [Act.put, List.setIfInBounds_toArray, List.set_cons_zero, List.set_cons_succ]
      refine wpAnyH_done (by kernel_rfl) ?_ _
      refine NoPanic.normal ?_
      go_wp2
      go_ret2
      refine ⟨k, Nat.le_succ k, fun _ => rfl, ?_⟩
      rw [show sendC g s c L t = ((v : Int), 0, c1, L ++ [⟨t.k, v⟩]) from HSE.out]
      exact ⟨rfl, W5.out, B5.out, O2.out⟩
    · have HSE := Lib.hid (show sendC g s c L t = ((v : Int), 0, c1, L ++ [⟨t.k, t.b⟩]) by rw [hse]; unfold keptC; rw [if_neg h4])
      clear hse
      have b4 : (t.k == 4) = false := by rw [beq_eq_false_iff_ne]; exact h4
      have j4 : (t.k = 4) = False := eq_false h4
      have d4 : decide (t.k = 4) = false := decide_eq_false h4
      clear h4
      have B3 := B2
      go_wp2_with fail
      clear x0 b4 j4 d4
      refine wp_region_noPanic ?_
      refine wp_region_held_drew (S := fun w' => CRow w' q 92 #[.pointer (some ⟨r, 0, none⟩), .pointer (some ⟨p, 0, none⟩)] ∧ CRow w' w.heap.size 47 #[.int .i64 t.k, .int .u8 (t.b : Int)]) (by kernel_rfl) ⟨W2.out.row.drew, Z2.out.drew⟩ (fun C0 => ?_)
      refine wpAnyH_take (i := 0) (oi := { dst := some 45, op := Op.move (Operand.tmp 0), type := 39, pos := "wire.go:121", after := #[], guard := none }) (v := ?_) rfl (by kernel_rfl) (by kernel_rfl) (by kernel_rfl) (fun _ _ _ h => h) (Or.inl ⟨by rfl, ?_⟩) C0 ?_
      rotate_left
      · intro W' hSw
        clear hSw
        go_simp <;> with_reducible rfl
      try simp only [Act.put, List.setIfInBounds_toArray, List.set_cons_zero, List.set_cons_succ]
      refine wpAnyH_take (i := 1) (oi := { dst := some 46, op := Op.nilCheck (Operand.tmp 45), type := 0, pos := "wire.go:121", after := #[{ on := 0, ground := Ground.data }], guard := none }) (v := ?_) rfl (by kernel_rfl) (by kernel_rfl) (by kernel_rfl) (fun _ _ _ h => h) (Or.inl ⟨by rfl, ?_⟩) C0 ?_
      rotate_left
      · intro W' hSw
        clear hSw
        go_simp <;> with_reducible rfl
      try simp only [Act.put, List.setIfInBounds_toArray, List.set_cons_zero, List.set_cons_succ]
      refine wpAnyH_take (i := 2) (oi := { dst := some 47, op := Op.fieldAddr 92 (Operand.tmp 46) 0, type := 0, pos := "wire.go:121", after := #[{ on := 1, ground := Ground.data }], guard := none }) (v := ?_) rfl (by kernel_rfl) (by kernel_rfl) (by kernel_rfl) (fun _ _ _ h => h) (Or.inl ⟨by rfl, ?_⟩) C0 ?_
      rotate_left
      · intro W' hSw
        clear hSw
        go_simp <;> with_reducible rfl
      try simp only [Act.put, List.setIfInBounds_toArray, List.set_cons_zero, List.set_cons_succ]
      refine wpAnyH_take (i := 3) (oi := { dst := some 48, op := Op.load 89 (Operand.tmp 47), type := 89, pos := "wire.go:121", after := #[{ on := 2, ground := Ground.data }], guard := none }) (v := ?_) rfl (by kernel_rfl) (by kernel_rfl) (by kernel_rfl) (fun _ _ _ h => h) (Or.inl ⟨by rfl, ?_⟩) C0 ?_
      rotate_left
      · intro W' hSw
        obtain ⟨hs1, hs2⟩ := hSw
        have z1 := hs1.cell_at 0 _ rfl
        have y0 := hs2.cell_at 0 _ rfl
        have y1 := hs2.cell_at 1 _ rfl
        clear hs1 hs2
        go_simp <;> with_reducible rfl
      try simp only [Act.put, List.setIfInBounds_toArray, List.set_cons_zero, List.set_cons_succ]
      refine wpAnyH_take (i := 4) (oi := { dst := some 49, op := Op.load 47 (Operand.tmp 3), type := 47, pos := "wire.go:121", after := #[], guard := none }) (v := ?_) rfl (by kernel_rfl) (by kernel_rfl) (by kernel_rfl) (fun _ _ _ h => h) (Or.inl ⟨by rfl, ?_⟩) C0 ?_
      rotate_left
      · intro W' hSw
        obtain ⟨hs1, hs2⟩ := hSw
        have z1 := hs1.cell_at 0 _ rfl
        have y0 := hs2.cell_at 0 _ rfl
        have y1 := hs2.cell_at 1 _ rfl
        clear hs1 hs2
        go_simp <;> with_reducible rfl
      try simp only [Act.put, List.setIfInBounds_toArray, List.set_cons_zero, List.set_cons_succ]
      refine wpAnyH_ready (rs := [5]) (by kernel_rfl) (by simp) ?_
      refine AllReadyH.cons (o := { dst := some 50, op := Op.buildSlice 43 1 #[(0, Operand.tmp 49)], type := 43, pos := "wire.go:121", after := #[{ on := 4, ground := Ground.data }], guard := none }) rfl (fun K hK => ?_) AllReadyH.nil
      go_simp
      refine hK.out _ _ ⟨W2.out.row.drew.alloc (.cells #[.int .i64 t.k, .int .u8 (t.b : Int)] 47), Z2.out.drew.alloc (.cells #[.int .i64 t.k, .int .u8 (t.b : Int)] 47)⟩ (fun C1 => ?_)
      clear hK K
      try simp only [Act.put, List.setIfInBounds_toArray, List.set_cons_zero, List.set_cons_succ]
      refine wpAnyH_ready (rs := [6]) (by kernel_rfl) (by simp) ?_
      refine AllReadyH.cons (o := { dst := some 51, op := Op.call { callee := Callee.value (Operand.func 75), args := #[Operand.tmp 48, Operand.tmp 50], argTypes := #[89, 43] }, type := 0, pos := "wire.go:121", after := #[{ on := 3, ground := Ground.data }, { on := 5, ground := Ground.data }], guard := none }) rfl (fun K hK => ?_) AllReadyH.nil
      go_simp
      have hx : RC (w2.drew.alloc (.cells #[.int .i64 t.k, .int .u8 (t.b : Int)] 47)) (some ⟨w2.heap.size, 0, none⟩) 1 [⟨t.k, t.b⟩] := RC.one w2.drew ⟨t.k, t.b⟩ ⟨HT.out.1, HT.out.2.1, HT.out.2.2⟩ 47
      have D4 := Lib.hid ((W2.out.below ((Below.refl _ _).drew)).below (below_new _ (.cells #[.int .i64 t.k, .int .u8 (t.b : Int)] 47)))
      refine (Add_any r IR L L.length M k (some ⟨w2.heap.size, 0, none⟩) 1 1 [⟨t.k, t.b⟩] _ D4.out.rc hx (by simp) (by omega) (by omega) (by omega)).mono ?_
      rintro _ w5 ⟨rfl, b5, J5, r5, j5⟩
      have W5 := Lib.hid (D4.out.turn (L' := L ++ [⟨t.k, t.b⟩]) b5 (by rw [List.length_append, List.length_singleton]; exact r5) j5)
      have B5 := Lib.hid ((((B3.out.drew).trans (Btw.of_below (I := I) (below_new _ (.cells #[.int .i64 t.k, .int .u8 (t.b : Int)] 47))) fun _ _ h => h)).trans (b5.more D4.out.ri) fun _ _ h => h)
      have R5 := Lib.hid (((W2.out.row.drew).alloc (.cells #[.int .i64 t.k, .int .u8 (t.b : Int)] 47)).btw b5 D4.out.nr)
      have Y5 := Lib.hid (((Z2.out.drew).alloc (.cells #[.int .i64 t.k, .int .u8 (t.b : Int)] 47)).btw b5 (fun h => NR.out h))
      clear hx b5 r5 j5
      go_wp2_with fail
      refine hK.out _ _ ⟨R5.out, Y5.out⟩ (fun C2 => ?_)
      clear hK K
      try simp only [Act.put, List.setIfInBounds_toArray, List.set_cons_zero, List.set_cons_succ]
      refine wpAnyH_done (by kernel_rfl) ?_ _
      refine NoPanic.normal ?_
      go_wp2
      go_ret2
      refine ⟨k, Nat.le_succ k, fun _ => rfl, ?_⟩
      rw [show sendC g s c L t = ((v : Int), 0, c1, L ++ [⟨t.k, t.b⟩]) from HSE.out]
      exact ⟨rfl, W5.out, B5.out, O2.out⟩
  · have hse : sendC g s c L t = (0, e, c1, L) := by unfold sendC; rw [HD.out]; exact if_neg he
    have HSE := Lib.hid hse
    have HE := Lib.hid he
    have b0 : (e == 0) = false := by rw [beq_eq_false_iff_ne]; exact he
    have n0 : (e != 0) = true := by simp [he]
    have j0 : (e = 0) = False := eq_false he
    have d0 : decide (e = 0) = false := decide_eq_false he
    clear hse he
    have x1 := W2.out.row.cell_at 1 _ rfl
    cases on with
    | false =>
      go_wp2
      go_ret2
      refine ⟨k, Nat.le_succ k, fun _ => rfl, ?_⟩
      rw [HSE.out]
      exact ⟨rfl, ⟨IX, IR, M, W2.out⟩, B2.out, O2.out⟩
    | true =>
      go_wp2_with fail
      clear x1
      refine (HON1.out _ W2.out.ch).mono ?_
      rintro _ w3 ⟨rfl, h3⟩
      have W3 := Lib.hid (W2.out.below h3)
      have B3 := Lib.hid (B2.out.trans (Btw.of_below h3) fun _ _ h => h)
      clear h3
      cases on1 with
      | true =>
        go_wp2
        go_ret2
        refine ⟨k, Nat.le_succ k, fun _ => rfl, ?_⟩
        rw [HSE.out]
        exact ⟨rfl, ⟨IX, IR, M, W3.out⟩, B3.out, O2.out⟩
      | false =>
        have x0 := W3.out.row.cell_at 0 _ rfl
        go_wp2_with fail
        clear x0
        refine (Mark_any r IR L _ M k _ _ W3.out.rc KK.out (by have := LL.out; omega) (by decide)).mono ?_
        rintro _ w4 ⟨rfl, b4, J4, r4, j4⟩
        have W4 := Lib.hid (W3.out.turn b4 r4 j4)
        have B4 := Lib.hid (B3.out.trans (b4.more W3.out.ri) fun _ _ h => h)
        clear b4 r4 j4
        go_wp2
        go_ret2
        refine ⟨k + 1, Nat.le_refl _, fun h => absurd (by rw [HSE.out] at h; exact h) HE.out, ?_⟩
        rw [HSE.out]
        exact ⟨rfl, W4.out, B4.out, O2.out⟩
end
end Go.Proofs.YtmdgfnfhajncjaaGreat

/-
  A wire's New, Send, Trace, Sent, Chip, Command, Address, Write, Read.
-/
namespace Go.Proofs.YtmdgfnfhajncjaaGreat
open Go.RowKit
set_option maxRecDepth 100000

theorem RC.btw0 {I : Nat → Prop} {w w' : World} {A : Option Addr} {n : Nat} {l : List Cy} (h : RC w A n l) (hb : Btw I w w') (hA : ∀ b off, A = some ⟨b, off, none⟩ → 0 < n → ¬ I b) : RC w' A n l :=
  ⟨h.1, h.2.1, fun hn => by
    obtain ⟨b, off, e, hlt, hc⟩ := h.2.2 hn
    refine ⟨b, off, e, Nat.lt_of_lt_of_le hlt hb.size, fun j hj => ?_⟩
    rw [World.cell?_of_block (hb.block b hlt (hA b off e hn))]
    exact hc j hj⟩
theorem Wi.widen {I I' : Nat → Prop} {w : World} {q p r : Nat} {g : Gm} {s : Sc} {c : Ch} {L : List Cy} {k : Nat} (h : Wi I' w q p r g s c L k) (hi : ∀ j, I' j → I j) (hq : I q) : Wi I w q p r g s c L k := by
  obtain ⟨IC, IR, M, h⟩ := h
  exact ⟨IC, IR, M, { h with ci := fun j hj => hi j (h.ci j hj), ri := fun j hj => hi j (h.ri j hj), qi := hq }⟩
theorem Wi.qi {I : Nat → Prop} {w : World} {q p r : Nat} {g : Gm} {s : Sc} {c : Ch} {L : List Cy} {k : Nat} (h : Wi I w q p r g s c L k) : I q := by
  obtain ⟨IC, IR, M, h⟩ := h
  exact h.qi
section
variable {I IC IR : Nat → Prop} {w : World} {q p r : Nat} {g : Gm} {s : Sc} {c : Ch} {L : List Cy} {M : ByteArray → Option Nat} {k : Nat}
/-- Cycles were sent. -/
def SentIs (I : Nat → Prop) (q p r : Nat) (g : Gm) (s : Sc) (c : Ch) (L : List Cy) (k Q : Nat) (ts : List Cy) (w : World) (e : Ending) (w' : World) : Prop :=
  ∃ k', k' ≤ k + 1 ∧ e = .returned (.int .i64 (runW g s c L ts).e) ∧ Wi I w' q p r g s (runW g s c L ts).c (runW g s c L ts).l k' ∧ Btw I w w' ∧ ((runW g s c L ts).c.on = true → Okc g (Q + ts.length) (runW g s c L ts).c)
theorem Send_nil (A : Option Addr) (n d : Nat) (w : World) : Calls Tryz.prog 17 #[.pointer none, .slice A n d] w (Gives (.int .i64 1) w) := by
  go_enter Tryz.func17, Tryz.ntmps17
  go_wp2_with fail
  refine (wmade_nil _).mono ?_
  rintro _ w1 ⟨rfl, h1⟩
  have B1 := Lib.hid h1
  clear h1
  go_wp2
  go_ret
  exact ⟨rfl, B1.out⟩
theorem Sent_nil (w : World) : Calls Tryz.prog 21 #[.pointer none] w (Gives (.int .i64 0) w) := by
  go_enter Tryz.func21, Tryz.ntmps21
  go_wp2_with fail
  refine (wmade_nil _).mono ?_
  rintro _ w1 ⟨rfl, h1⟩
  have B1 := Lib.hid h1
  clear h1
  go_wp2
  go_ret
  exact ⟨rfl, B1.out⟩
theorem Trace_nil (w : World) : Calls Tryz.prog 20 #[.pointer none] w (Gives (.slice none 0 0) w) := by
  go_enter Tryz.func20, Tryz.ntmps20
  go_wp2_with fail
  refine (wmade_nil _).mono ?_
  rintro _ w1 ⟨rfl, h1⟩
  have B1 := Lib.hid h1
  clear h1
  go_wp2
  go_ret
  exact ⟨rfl, B1.out⟩
theorem Chip_nil (w : World) : Calls Tryz.prog 11 #[.pointer none] w (Gives (.pointer none) w) := by
  go_enter Tryz.func11, Tryz.ntmps11
  go_wp2_with fail
  refine (wmade_nil _).mono ?_
  rintro _ w1 ⟨rfl, h1⟩
  have B1 := Lib.hid h1
  clear h1
  go_wp2
  go_ret
  exact ⟨rfl, B1.out⟩
theorem Read_nil (n : Int) (w : World) : Calls Tryz.prog 16 #[.pointer none, .int .i64 n] w (Gives (.tuple #[.slice none 0 0, .int .i64 1]) w) := by
  go_enter Tryz.func16, Tryz.ntmps16
  go_wp2_with fail
  refine (wmade_nil _).mono ?_
  rintro _ w1 ⟨rfl, h1⟩
  have B1 := Lib.hid h1
  clear h1
  go_wp2
  go_ret2
  exact ⟨rfl, B1.out⟩
set_option maxHeartbeats 4000000 in
theorem Send_any {Q : Nat} (A : Option Addr) (n d : Nat) (ts : List Cy) (hts : RC w A n ts) (hA : ∀ b off, A = some ⟨b, off, none⟩ → 0 < n → ¬ I b) (hn : n ≤ 1000) (hQ : Q + n ≤ 100000) (hs : SG g s) (ho : c.on = true → Okc g Q c) (hL : L.length ≤ 100000) (hk : k < 1000) (h : Wi I w q p r g s c L k) :
    Calls Tryz.prog 17 #[.pointer (some ⟨q, 0, none⟩), .slice A n d] w (SentIs I q p r g s c L k Q ts w) := by
  have HR := Lib.hid hts
  have HA := Lib.hid hA
  have HLN := Lib.hid hts.len
  have H0 := Lib.hid h
  have HS := Lib.hid hs
  have HO := Lib.hid ho
  obtain ⟨IC, IR, M, hh⟩ := h
  have R0 := Lib.hid hh.row
  clear hts hA hs ho hh
  go_enter Tryz.func17, Tryz.ntmps17
  go_wp2_with fail
  refine (wmade_yes R0.out).mono ?_
  rintro _ w1 ⟨rfl, h1⟩
  have B1 := Lib.hid h1
  have H1 := Lib.hid (H0.out.below h1)
  clear h1 R0 H0
  go_wp2
  go_loopw [14] (fun i wr => ∃ j : Nat, j ≤ n ∧ i = .int .i64 (j : Int) ∧ Hid ((runW g s c L (ts.take j)).e = 0) ∧ Hid ((runW g s c L (ts.take j)).c.on = true → Okc g (Q + j) (runW g s c L (ts.take j)).c) ∧ Hid (Wi I wr q p r g s (runW g s c L (ts.take j)).c (runW g s c L (ts.take j)).l k) ∧ Hid (Btw I w wr)) (fun i _ => n - (intOf i).toNat)
  case atStart => exact ⟨0, Nat.zero_le _, rfl, by rw [runW_zero]; exact Lib.hid rfl, by rw [runW_zero]; exact HO, by rw [runW_zero]; exact H1, Lib.hid (Btw.of_below B1.out)⟩
  case round =>
    obtain ⟨j, hj, rfl, HE, HK, HW, HB⟩ := hrel
    rename World => wr
    clear H1 B1
    by_cases hlt : j < n
    · obtain ⟨b9, o9, t, hA9, hb9, HX, hin, x0, x1⟩ := (HR.out.btw0 HB.out HA.out).at_ hlt
      have d1 : decide ((j : Int) < (n : Int)) = true := decide_eq_true (by omega)
      have i0 : (0 : Int) ≤ (j : Int) := by omega
      have N1 := Lib.hid (below_new wr (.cells #[.int .i64 t.k, .int .u8 (t.b : Int)] 47))
      have hlen : (runW g s c L (ts.take j)).l.length ≤ L.length + j := by
        have h9 := (runW_len (g := g) (s := s) (c := c) (L := L) (ts := ts.take j)).1
        have := List.length_take_le j ts
        omega
      have W1 := Lib.hid (HW.out.below N1.out)
      have B1 := Lib.hid (HB.out.trans (Btw.of_below (I := I) N1.out) fun _ _ h => h)
      have HN := Lib.hid (runW_succ (g := g) (s := s) (c := c) (L := L) HX.out)
      obtain ⟨a, ha⟩ : ∃ a, a = runW g s c L (ts.take j) := ⟨_, rfl⟩
      rw [← ha] at HE HK W1 HN hlen
      have HAA := Lib.hid ha
      have HS1 := Lib.hid (send_any (Q := Q + j) t hin (by omega) HS.out HK.out (by omega) hk W1.out)
      have HNN := Lib.hid (show runW g s c L (ts.take (j + 1)) = ⟨(sendC g s a.c a.l t).2.1, (sendC g s a.c a.l t).2.2.1, (sendC g s a.c a.l t).2.2.2⟩ from HN.out.trans (if_pos HE.out))
      unfold Sends at HS1
      obtain ⟨z, hz⟩ : ∃ z, z = sendC g s a.c a.l t := ⟨_, rfl⟩
      rw [← hz] at HNN HS1
      obtain ⟨v, e, c1, l1⟩ := z
      simp only at HS1 HNN
      clear ha HN hz HB HW hb9 hin W1 hlen HE
      subst hA9
      go_wp2_with fail
      clear x0 x1
      refine HS1.out.mono ?_
      rintro _ w2 ⟨k', hk', hkk, rfl, h2, b2, o2⟩
      have H2 := Lib.hid h2
      have B2 := Lib.hid (B1.out.trans b2 fun _ _ h => h)
      have O2 := Lib.hid o2
      have KK := Lib.hid hk'
      clear h2 b2 o2 HS1 hk' N1 B1
      by_cases he : e = 0
      · have HKK := Lib.hid (hkk he)
        subst he
        clear hkk
        go_wp2
        go_roundw
        case rel => exact ⟨j + 1, by omega, by go_num, by rw [HNN.out]; exact Lib.hid rfl, by rw [HNN.out]; exact O2, by rw [HNN.out]; exact HKK.out ▸ H2, B2⟩
        case measure => simp [intOf]; omega
      · have HE2 := Lib.hid he
        have b0 : (e == 0) = false := by rw [beq_eq_false_iff_ne]; exact he
        have n0 : (e != 0) = true := by simp [he]
        have j0 : (e = 0) = False := eq_false he
        have dd0 : decide (e = 0) = false := decide_eq_false he
        clear hkk he
        go_wp2
        go_ret
        have hst : runW g s c L ts = ⟨e, c1, l1⟩ := (runW_stuck (k := j + 1) (by rw [HNN.out]; exact HE2.out)).trans HNN.out
        refine ⟨k', KK.out, ?_⟩
        rw [hst]
        exact ⟨rfl, H2.out, B2.out, fun h => (O2.out h).more (by have := HLN.out; omega)⟩
    · obtain rfl : j = n := by omega
      have d1 : decide ((j : Int) < (j : Int)) = false := decide_eq_false (by omega)
      have ht : ts.take j = ts := List.take_of_length_le (by have := HLN.out; omega)
      rw [ht] at HE HK HW
      have HT := Lib.hid ht
      clear ht
      go_wp2
      go_ret
      refine ⟨k, Nat.le_succ k, ?_⟩
      rw [HE.out, HLN.out]
      exact ⟨rfl, HW.out, HB.out, HK.out⟩
theorem Sent_any (h : Wi I w q p r g s c L k) : Calls Tryz.prog 21 #[.pointer (some ⟨q, 0, none⟩)] w (Gives (.int .i64 ((L.length : Nat) : Int)) w) := by
  obtain ⟨IC, IR, M, h⟩ := h
  have H0 := Lib.hid h
  clear h
  go_enter Tryz.func21, Tryz.ntmps21
  go_wp2_with fail
  refine (wmade_yes H0.out.row).mono ?_
  rintro _ w1 ⟨rfl, h1⟩
  have B1 := Lib.hid h1
  have H1 := Lib.hid (H0.out.below h1)
  clear h1 H0
  have x0 := H1.out.row.cell_at 0 _ rfl
  go_wp2_with fail
  clear x0
  refine (AllR_any r IR L _ M k _ H1.out.rc).mono ?_
  rintro _ w2 ⟨rfl, h2⟩
  have B2 := Lib.hid (below_step B1.out h2)
  clear h2
  go_wp2
  go_ret
  exact ⟨rfl, B2.out⟩
theorem Trace_any (hL : L.length ≤ 1099511627775) (h : Wi I w q p r g s c L k) : Calls Tryz.prog 20 #[.pointer (some ⟨q, 0, none⟩)] w (OwnsC L w) := by
  obtain ⟨IC, IR, M, h⟩ := h
  have H0 := Lib.hid h
  clear h
  go_enter Tryz.func20, Tryz.ntmps20
  go_wp2_with fail
  refine (wmade_yes H0.out.row).mono ?_
  rintro _ w1 ⟨rfl, h1⟩
  have B1 := Lib.hid h1
  have H1 := Lib.hid (H0.out.below h1)
  clear h1 H0
  have x0 := H1.out.row.cell_at 0 _ rfl
  have HLI := Lib.hid (List_any r IR L _ M k _ H1.out.rc hL)
  go_wp2_with fail
  clear x0
  refine HLI.out.mono ?_
  rintro _ w2 ⟨h2, A, cc, rfl, r2⟩
  have B2 := Lib.hid (below_step B1.out h2)
  have R2 := Lib.hid r2
  clear h2 r2
  go_wp2
  go_ret
  exact ⟨B2.out, A, cc, rfl, R2.out⟩
/-- New, of no chip. -/
theorem WNew_nil (w : World) : Calls Tryz.prog 10 #[.pointer none] w (Gives (.tuple #[.pointer none, .int .i64 1]) w) := by
  go_enter Tryz.func10, Tryz.ntmps10
  go_wp2_with fail
  refine (Array_nil _).mono ?_
  rintro _ w1 ⟨rfl, h1⟩
  have B1 := Lib.hid h1
  clear h1
  go_wp2
  go_ret2
  exact ⟨rfl, B1.out⟩
set_option maxHeartbeats 1000000 in
theorem WNew_any (h : CH I w p g s c) : Calls Tryz.prog 10 #[.pointer (some ⟨p, 0, none⟩)] w fun e w' => ∃ q r, e = .returned (.tuple #[.pointer (some ⟨q, 0, none⟩), .int .i64 0]) ∧ Below w.heap.size w w' ∧ Wi I w' q p r g s c [] 0 := by
  have H0 := Lib.hid h
  clear h
  go_enter Tryz.func10, Tryz.ntmps10
  go_wp2_with fail
  refine (Array_any H0.out).mono ?_
  rintro _ w1 ⟨a, aq, ar, J, rfl, -, h1⟩
  have B1 := Lib.hid h1
  have H1 := Lib.hid (H0.out.below h1)
  clear h1 H0
  go_wp2_with fail
  refine (TrNew_any _).mono ?_
  rintro _ w2 ⟨r, IR, rfl, h2, r2, i2⟩
  have B2 := Lib.hid (below_step B1.out h2)
  have H2 := Lib.hid (H1.out.shrink h2)
  have R2 := Lib.hid r2
  have I2 := Lib.hid i2
  have LT := Lib.hid (H1.out.new_)
  have SZ := Lib.hid h2.size
  clear h2 r2 i2 H1
  have N3 := Lib.hid (below_new w2 (.cells #[.pointer (some ⟨r, 0, none⟩), .pointer (some ⟨p, 0, none⟩)] 92))
  have Z3 := Lib.hid (CRow.new w2 #[.pointer (some ⟨r, 0, none⟩), .pointer (some ⟨p, 0, none⟩)] 92)
  have H3 := Lib.hid (H2.out.shrink N3.out)
  have R3 := Lib.hid (R2.out.below N3.out)
  have B3 := Lib.hid (below_step B2.out N3.out)
  have RL := Lib.hid R2.out.lt
  go_wp2
  go_ret2
  refine ⟨w2.heap.size, r, rfl, B3.out, _, IR, _, Z3.out, H3.out, R3.out, ?_, ?_, ?_, ?_, ?_, ?_⟩
  · intro j h1 h2
    have h3 := I2.out j h1
    have h4 := RL.out j h1
    have h5 := h2.1.2
    omega
  · intro h1
    have h3 : (w2.alloc (.cells #[.pointer (some ⟨r, 0, none⟩), .pointer (some ⟨p, 0, none⟩)] 92)).heap.size = w2.heap.size + 1 := by simp
    have h2 : w2.heap.size < w2.heap.size ∨ (w2.alloc (.cells #[.pointer (some ⟨r, 0, none⟩), .pointer (some ⟨p, 0, none⟩)] 92)).heap.size ≤ w2.heap.size := h1.2
    omega
  · intro h1
    exact absurd (RL.out _ h1) (Nat.lt_irrefl _)
  · intro j hj
    exact hj.1.1
  · intro j hj
    exact LT.out j (I2.out j hj)
  · exact LT.out _ SZ.out
set_option maxHeartbeats 2000000 in
theorem WCommand_any {Q : Nat} (B : Option Addr) (n d : Nat) (b : List Nat) (hb : R8 w B n b) (hn : n ≤ 1000) (hQ : Q + n ≤ 100000) (hs : SG g s) (ho : c.on = true → Okc g Q c) (hL : L.length ≤ 100000) (hk : k < 1000) (h : Wi I w q p r g s c L k) :
    Calls Tryz.prog 13 #[.pointer (some ⟨q, 0, none⟩), .slice B n d] w (SentIs I q p r g s c L k Q (ofL 1 b) w) := by
  have hOf := Of_any 1 B n d b w hb (by omega)
  have HH := Lib.hid h
  have HS := Lib.hid hs
  have HO := Lib.hid ho
  have HLN := Lib.hid hb.len
  have H8 := Lib.hid hb.2
  clear h hs ho hb
  go_enter Tryz.func13, Tryz.ntmps13
  go_wp2_with fail
  refine hOf.mono ?_
  rintro e w1 ⟨A, c1, rfl, hown, B1⟩
  have hfar : ∀ b off, A = some ⟨b, off, none⟩ → w.heap.size ≤ b := fun b off e => by
    rcases hown.2 with ⟨hv, _⟩ | ⟨gg, cap, cur, hv, hbase, _⟩
    · rw [e] at hv
      injection hv with hv
      cases hv
    · rw [e] at hv
      injection hv with hv
      injection hv with hv
      injection hv with hv _
      omega
  have hl : RC w1 A (ofL 1 b).length (ofL 1 b) := RC.own hown fun t ht => by
    unfold ofL at ht
    obtain ⟨x, hx, rfl⟩ := List.mem_map.1 ht
    exact ⟨by show (-9223372036854775808 : Int) ≤ 1; decide, by show (1 : Int) ≤ _; decide, H8.out x hx⟩
  have W1 := Lib.hid (HH.out.away (J := fun _ => False) (Btw.of_below B1) fun _ _ h => h.elim)
  have hle : (ofL 1 b).length = n := by rw [ofL_length]; exact HLN.out
  rw [hle] at hl ⊢
  have hsd := Send_any (Q := Q) A n c1 (ofL 1 b) hl (fun bb off e hpos hi => by
    rcases hi.2 with h1 | h1
    · exact absurd (hfar bb off e) (by omega)
    · obtain ⟨b2, o2, e2, h2, _⟩ := hl.2.2 hpos
      rw [e] at e2
      injection e2 with e2
      injection e2 with e2 _
      omega) (by omega) hQ HS.out HO.out hL hk W1.out
  have BB := Lib.hid B1
  have SUB := Lib.hid (fun (j : Nat) (hj : I j ∧ (j < w.heap.size ∨ w1.heap.size ≤ j)) => hj.1)
  clear hl hOf B1 hle hfar hown
  go_wp2_with fail
  refine hsd.mono ?_
  rintro _ w2 ⟨k', hk', rfl, h2, b2, o2⟩
  have H2 := Lib.hid (h2.widen SUB.out HH.out.qi)
  have B2 := Lib.hid ((Btw.of_below (I := I) BB.out).trans (b2.more SUB.out) fun _ _ h => h)
  have O2 := Lib.hid o2
  clear h2 b2 o2 hsd
  go_wp2
  go_ret
  refine ⟨k', hk', rfl, H2.out, B2.out, ?_⟩
  rw [ofL_length, HLN.out]
  have h9 := O2.out
  rw [ofL_length, HLN.out] at h9
  exact h9
set_option maxHeartbeats 2000000 in
theorem WAddress_any {Q : Nat} (B : Option Addr) (n d : Nat) (b : List Nat) (hb : R8 w B n b) (hn : n ≤ 1000) (hQ : Q + n ≤ 100000) (hs : SG g s) (ho : c.on = true → Okc g Q c) (hL : L.length ≤ 100000) (hk : k < 1000) (h : Wi I w q p r g s c L k) :
    Calls Tryz.prog 14 #[.pointer (some ⟨q, 0, none⟩), .slice B n d] w (SentIs I q p r g s c L k Q (ofL 2 b) w) := by
  have hOf := Of_any 2 B n d b w hb (by omega)
  have HH := Lib.hid h
  have HS := Lib.hid hs
  have HO := Lib.hid ho
  have HLN := Lib.hid hb.len
  have H8 := Lib.hid hb.2
  clear h hs ho hb
  go_enter Tryz.func14, Tryz.ntmps14
  go_wp2_with fail
  refine hOf.mono ?_
  rintro e w1 ⟨A, c1, rfl, hown, B1⟩
  have hfar : ∀ b off, A = some ⟨b, off, none⟩ → w.heap.size ≤ b := fun b off e => by
    rcases hown.2 with ⟨hv, _⟩ | ⟨gg, cap, cur, hv, hbase, _⟩
    · rw [e] at hv
      injection hv with hv
      cases hv
    · rw [e] at hv
      injection hv with hv
      injection hv with hv
      injection hv with hv _
      omega
  have hl : RC w1 A (ofL 2 b).length (ofL 2 b) := RC.own hown fun t ht => by
    unfold ofL at ht
    obtain ⟨x, hx, rfl⟩ := List.mem_map.1 ht
    exact ⟨by show (-9223372036854775808 : Int) ≤ 2; decide, by show (2 : Int) ≤ _; decide, H8.out x hx⟩
  have W1 := Lib.hid (HH.out.away (J := fun _ => False) (Btw.of_below B1) fun _ _ h => h.elim)
  have hle : (ofL 2 b).length = n := by rw [ofL_length]; exact HLN.out
  rw [hle] at hl ⊢
  have hsd := Send_any (Q := Q) A n c1 (ofL 2 b) hl (fun bb off e hpos hi => by
    rcases hi.2 with h1 | h1
    · exact absurd (hfar bb off e) (by omega)
    · obtain ⟨b2, o2, e2, h2, _⟩ := hl.2.2 hpos
      rw [e] at e2
      injection e2 with e2
      injection e2 with e2 _
      omega) (by omega) hQ HS.out HO.out hL hk W1.out
  have BB := Lib.hid B1
  have SUB := Lib.hid (fun (j : Nat) (hj : I j ∧ (j < w.heap.size ∨ w1.heap.size ≤ j)) => hj.1)
  clear hl hOf B1 hle hfar hown
  go_wp2_with fail
  refine hsd.mono ?_
  rintro _ w2 ⟨k', hk', rfl, h2, b2, o2⟩
  have H2 := Lib.hid (h2.widen SUB.out HH.out.qi)
  have B2 := Lib.hid ((Btw.of_below (I := I) BB.out).trans (b2.more SUB.out) fun _ _ h => h)
  have O2 := Lib.hid o2
  clear h2 b2 o2 hsd
  go_wp2
  go_ret
  refine ⟨k', hk', rfl, H2.out, B2.out, ?_⟩
  rw [ofL_length, HLN.out]
  have h9 := O2.out
  rw [ofL_length, HLN.out] at h9
  exact h9
end
end Go.Proofs.YtmdgfnfhajncjaaGreat

/-
  A wire's Read.
-/
namespace Go.Proofs.YtmdgfnfhajncjaaGreat
open Go.RowKit
set_option maxRecDepth 100000

theorem sendC_ok {g : Gm} {s : Sc} {c : Ch} {L : List Cy} {t : Cy} (h : (sendC g s c L t).2.1 = 0) : (sendC g s c L t).2.2.2 = L ++ [keptC t (sendC g s c L t).1] := by
  unfold sendC at h ⊢
  split
  · rfl
  · rename_i h1
    rw [if_neg h1] at h
    exact absurd h h1
theorem sendC_byte {g : Gm} {s : Sc} {c : Ch} {L : List Cy} {t : Cy} (h : ∀ x ∈ c.reg, x < 256) : 0 ≤ (sendC g s c L t).1 ∧ (sendC g s c L t).1 < 256 := by
  unfold sendC
  split
  · exact doC_byte t h
  · simp
theorem Wi.regs {I : Nat → Prop} {w : World} {q p r : Nat} {g : Gm} {s : Sc} {c : Ch} {L : List Cy} {k : Nat} (h : Wi I w q p r g s c L k) : ∀ x ∈ c.reg, x < 256 := by
  obtain ⟨IC, IR, M, h⟩ := h
  exact (Go.Proofs.YtmdgfnfhajncjaaGreat.regs h.ch).2.2.2.2
/-- The Reads of n. -/
def rds (n : Nat) : List Cy := List.replicate n ⟨4, 0⟩
theorem rds_at {n j : Nat} (h : j < n) : (rds n)[j]? = some ⟨4, 0⟩ := by unfold rds; rw [List.getElem?_replicate, if_pos h]
/-- What was read. -/
def readB (L l : List Cy) : List Nat := (l.drop L.length).map (·.b)
section
variable {I : Nat → Prop} {w : World} {q p r : Nat} {g : Gm} {s : Sc} {c : Ch} {L : List Cy} {k : Nat}
def ReadIs (I : Nat → Prop) (q p r : Nat) (g : Gm) (s : Sc) (c : Ch) (L : List Cy) (k Q n : Nat) (w : World) (e : Ending) (w' : World) : Prop :=
  ∃ k' A d, k' ≤ k + 1 ∧ ((runW g s c L (rds n)).e = 0 → e = .returned (.tuple #[.slice A n d, .int .i64 0]) ∧ w'.ownsRow w.heap.size 5 1 (.slice A n d) n (U8 (readB L (runW g s c L (rds n)).l)) ∧ R8 w' A n (readB L (runW g s c L (rds n)).l)) ∧
    ((runW g s c L (rds n)).e ≠ 0 → e = .returned (.tuple #[.slice none 0 0, .int .i64 (runW g s c L (rds n)).e])) ∧
    (∃ I', Wi I' w' q p r g s (runW g s c L (rds n)).c (runW g s c L (rds n)).l k' ∧ (∀ j, I' j → I j) ∧ ((runW g s c L (rds n)).e = 0 → ∀ j, (Value.slice A n d).ownBlock = some j → ¬ I' j)) ∧ Btw I w w' ∧ ((runW g s c L (rds n)).c.on = true → Okc g (Q + n) (runW g s c L (rds n)).c)
theorem readB_len {n : Nat} (ts : List Cy) (h : (runW g s c L ts).e = 0) (hn : ts.length = n) : (readB L (runW g s c L ts).l).length = n := by
  unfold readB
  rw [List.length_map, List.length_drop, (runW_len).2 h]
  omega
set_option maxHeartbeats 8000000 in
theorem Read_any {Q : Nat} (n : Nat) (hn : n ≤ 1000) (hQ : Q + n ≤ 100000) (hs : SG g s) (ho : c.on = true → Okc g Q c) (hL : L.length ≤ 100000) (hk : k < 1000) (h : Wi I w q p r g s c L k) :
    Calls Tryz.prog 16 #[.pointer (some ⟨q, 0, none⟩), .int .i64 (n : Int)] w (ReadIs I q p r g s c L k Q n w) := by
  have H0 := Lib.hid h
  have HS := Lib.hid hs
  have HO := Lib.hid ho
  have HN := Lib.hid hn
  obtain ⟨IC, IR, M, hh⟩ := h
  have R0 := Lib.hid hh.row
  have n0 : decide ((n : Int) < 0) = false := decide_eq_false (by omega)
  have n1 : decide (16777216 < (n : Int)) = false := decide_eq_false (by omega)
  clear hs ho hh
  go_enter Tryz.func16, Tryz.ntmps16
  go_wp2_with fail
  refine (wmade_yes R0.out).mono ?_
  rintro _ w1 ⟨rfl, h1⟩
  have B1 := Lib.hid h1
  have H1 := Lib.hid (H0.out.below h1)
  clear h1 R0 H0
  go_wp2
  clear n0 n1
  go_loopw [19, 6] (fun i v wr => ∃ (j : Nat) (A : Option Addr) (d : Nat) (I' : Nat → Prop), j ≤ n ∧ i = .int .i64 (j : Int) ∧ v = .slice A j d ∧ Hid ((runW g s c L ((rds n).take j)).e = 0) ∧ Hid ((runW g s c L ((rds n).take j)).c.on = true → Okc g (Q + j) (runW g s c L ((rds n).take j)).c) ∧ Hid (Wi I' wr q p r g s (runW g s c L ((rds n).take j)).c (runW g s c L ((rds n).take j)).l k) ∧ Hid (Btw I w wr) ∧ Hid (∀ j, I' j → I j) ∧ Hid (w.heap.size ≤ wr.heap.size) ∧
    Hid (wr.ownsRow w.heap.size 5 1 (.slice A j d) j (U8 (readB L (runW g s c L ((rds n).take j)).l))) ∧ Hid (∀ x, (Value.slice A j d).ownBlock = some x → ¬ I' x) ∧ Hid (∀ x ∈ readB L (runW g s c L ((rds n).take j)).l, x < 256)) (fun i _ _ => n - (intOf i).toNat)
  case atStart => exact ⟨0, none, 0, I, Nat.zero_le _, rfl, rfl, by rw [runW_zero]; exact Lib.hid rfl, by rw [runW_zero]; exact HO, by rw [runW_zero]; exact H1, Lib.hid (Btw.of_below B1.out), Lib.hid (fun _ h => h), Lib.hid B1.out.size, Lib.hid (by rw [runW_zero]; simp only [readB, List.drop_length, List.map_nil]; exact World.ownsRow_nil _ _ _ _), Lib.hid (fun x hx => by cases hx), Lib.hid (by rw [runW_zero]; simp [readB])⟩
  case round =>
    obtain ⟨j, A, d, I', hj, rfl, rfl, HE, HK, HW, HB, HI, HZ, HOW, HNI, H256⟩ := hrel
    rename World => wr
    clear H1 B1
    by_cases hlt : j < n
    · have d1 : decide ((j : Int) < (n : Int)) = true := decide_eq_true (by omega)
      have i0 : (0 : Int) ≤ (j : Int) := by omega
      have hlt' : ((rds n).take j).length = j := by rw [List.length_take]; unfold rds; rw [List.length_replicate]; omega
      have hll := readB_len (g := g) (s := s) (c := c) (L := L) ((rds n).take j) HE.out hlt'
      have hlen : (runW g s c L ((rds n).take j)).l.length = L.length + j := by
        have h9 := (runW_len (g := g) (s := s) (c := c) (L := L) (ts := (rds n).take j)).2 HE.out
        omega
      have HNX := Lib.hid (runW_succ (g := g) (s := s) (c := c) (L := L) (rds_at hlt))
      obtain ⟨a, ha⟩ : ∃ a, a = runW g s c L ((rds n).take j) := ⟨_, rfl⟩
      rw [← ha] at HE HK HW HNX HOW H256 hlen hll
      have HS1 := Lib.hid (send_any (Q := Q + j) ⟨4, 0⟩ ⟨by decide, by decide, by decide⟩ (by omega) HS.out HK.out (by omega) hk HW.out)
      have HNN := Lib.hid (show runW g s c L ((rds n).take (j + 1)) = ⟨(sendC g s a.c a.l ⟨4, 0⟩).2.1, (sendC g s a.c a.l ⟨4, 0⟩).2.2.1, (sendC g s a.c a.l ⟨4, 0⟩).2.2.2⟩ from HNX.out.trans (if_pos HE.out))
      have hby := sendC_byte (g := g) (s := s) (L := a.l) (t := ⟨4, 0⟩) HW.out.regs
      have hokl := sendC_ok (g := g) (s := s) (c := a.c) (L := a.l) (t := ⟨4, 0⟩)
      unfold Sends at HS1
      obtain ⟨z, hz⟩ : ∃ z, z = sendC g s a.c a.l ⟨4, 0⟩ := ⟨_, rfl⟩
      rw [← hz] at HNN HS1 hby hokl
      obtain ⟨v0, e, c1, l1⟩ := z
      simp only at HS1 HNN hby hokl
      obtain ⟨v, rfl⟩ : ∃ v : Nat, v0 = (v : Int) := ⟨v0.toNat, by omega⟩
      have HV := Lib.hid (show v < 256 by omega)
      have HKL := Lib.hid hokl
      have HLL := Lib.hid hll
      have HLN := Lib.hid hlen
      clear ha HNX hz HW HE hby hokl hlt' hll hlen
      go_wp2_with fail
      refine HS1.out.mono ?_
      rintro _ w2 ⟨k', hk', hkk, rfl, h2, b2, o2⟩
      have H2 := Lib.hid h2
      have B2 := Lib.hid (HB.out.trans (b2.more HI.out) fun _ _ h => h)
      have O2 := Lib.hid o2
      have KK := Lib.hid hk'
      have OW2 := Lib.hid (own_btw1 HOW.out b2 HNI.out)
      have Z2 := Lib.hid (Nat.le_trans HZ.out b2.size)
      clear h2 b2 o2 HS1 hk' HOW HB HZ
      by_cases he : e = 0
      · have HKK := Lib.hid (hkk he)
        subst he
        have hl1 : l1 = a.l ++ [⟨4, v⟩] := HKL.out rfl
        have hrb : readB L l1 = readB L a.l ++ [v] := by
          unfold readB
          rw [hl1, List.drop_append_of_le_length (by have := HLN.out; omega), List.map_append]
          rfl
        have HRB := Lib.hid hrb
        clear hkk hl1 hrb
        have S2 := Lib.hid (show (readB L a.l).length + 1 ≤ 1099511627776 by rw [HLL.out]; omega)
        have OW3 := Lib.hid (OW2.out.alloc (.cells #[.int .u8 (v : Int)] 5))
        obtain ⟨bs, hbs⟩ : ∃ bs, bs = readB L a.l := ⟨_, rfl⟩
        rw [← hbs] at OW3 S2 HLL HRB H256
        have hbl : bs.length = j := HLL.out
        subst hbl
        clear hbs OW2
        go_wp2_with (at_builtin; refine wpList_append8A (w2.alloc (.cells #[.int .u8 (v : Int)] 5)) rfl (.tmp 30) (.tmp 32) rfl w.heap.size _ bs rfl OW3.out ⟨w2.heap.size, 0, none⟩ 1 1 [v] rfl (r8_one w2 v HV.out _) S2.out (by have h9 := Z2.out; simp; omega) ?_)
        intro v3 w3 hown hg hwh
        obtain ⟨A3, c3, rfl⟩ := own_form1 hown
        have hgb := Btw.of_grown (I := fun x => (Value.slice A bs.length d).ownBlock = some x) hg (fun _ h => h)
        have W3 := H2.out.below (below_new w2 (.cells #[.int .u8 (v : Int)] 5))
        have H3 := Lib.hid (W3.away hgb fun x _ hx => HNI.out x hx)
        have hlow : ∀ x, (Value.slice A3 (bs.length + 1) c3).ownBlock = some x → w.heap.size ≤ x ∧ x < w3.heap.size := fun x hx => by
          obtain ⟨h8, cur, h9⟩ := own_at1 hown x hx
          exact ⟨h8, (Array.getElem?_eq_some_iff.1 h9).1⟩
        have hlow0 : ∀ x, (Value.slice A bs.length d).ownBlock = some x → w.heap.size ≤ x := fun x hx => (own_at1 OW3.out x hx).1
        have NI3 := Lib.hid (show ∀ x, (Value.slice A3 (bs.length + 1) c3).ownBlock = some x → ¬ (I' x ∧ (x < (w2.alloc (.cells #[.int .u8 (v : Int)] 5)).heap.size ∨ w3.heap.size ≤ x)) from fun x hx hi => by
          rcases hwh with h8 | h8
          · exact HNI.out x (h8 ▸ hx) hi.1
          · have h5 : w2.heap.size + 1 = x := Option.some.inj (h8.symm.trans hx)
            have h4 : (w2.alloc (.cells #[.int .u8 (v : Int)] 5)).heap.size = w2.heap.size + 1 := by simp
            have h6 := (hlow x hx).2
            have h7 : x < (w2.alloc (.cells #[.int .u8 (v : Int)] 5)).heap.size ∨ w3.heap.size ≤ x := hi.2
            omega)
        have B3 := Lib.hid ((B2.out.trans (Btw.of_below (I := I) (below_new w2 (.cells #[.int .u8 (v : Int)] 5))) fun _ _ h => h).trans hgb fun x hx h => absurd (hlow0 x h) (by omega))
        have OW4 := Lib.hid hown
        have Z3 := Lib.hid (show w.heap.size ≤ w3.heap.size from B3.out.size)
        have SUB := Lib.hid (fun (x : Nat) (hx : I' x ∧ (x < (w2.alloc (.cells #[.int .u8 (v : Int)] 5)).heap.size ∨ w3.heap.size ≤ x)) => HI.out x hx.1)
        have X256 := Lib.hid (show ∀ x ∈ bs ++ [v], x < 256 from fun x hx => by
          rcases List.mem_append.1 hx with h8 | h8
          · exact H256.out x h8
          · rw [List.mem_singleton.1 h8]; exact HV.out)
        clear hown hg hwh hgb W3 hlow hlow0 OW3 H2
        go_wp2
        go_roundw
        case rel => exact ⟨bs.length + 1, A3, c3, _, by omega, by go_num, by first | rfl | go_num, by rw [HNN.out]; exact Lib.hid rfl, by rw [HNN.out]; exact O2, by rw [HNN.out]; exact HKK.out ▸ H3, B3, SUB, Z3, by rw [HNN.out]; show Hid (w3.ownsRow _ _ _ _ _ (U8 (readB L l1))); rw [HRB.out]; exact OW4, NI3, by rw [HNN.out]; show Hid (∀ x ∈ readB L l1, x < 256); rw [HRB.out]; exact X256⟩
        case measure => simp [intOf]; omega
      · have HE2 := Lib.hid he
        have b0 : (e == 0) = false := by rw [beq_eq_false_iff_ne]; exact he
        have n0 : (e != 0) = true := by simp [he]
        have j0 : (e = 0) = False := eq_false he
        have dd0 : decide (e = 0) = false := decide_eq_false he
        clear hkk he
        go_wp2
        go_ret2
        have hst : runW g s c L (rds n) = ⟨e, c1, l1⟩ := (runW_stuck (k := j + 1) (by rw [HNN.out]; exact HE2.out)).trans HNN.out
        refine ⟨k', none, 0, KK.out, ?_⟩
        rw [hst]
        exact ⟨fun h => absurd h HE2.out, fun _ => rfl, ⟨I', H2.out, HI.out, fun h => absurd h HE2.out⟩, B2.out, fun h => (O2.out h).more (by omega)⟩
    · obtain rfl : j = n := by omega
      have d1 : decide ((j : Int) < (j : Int)) = false := decide_eq_false (by omega)
      have ht : (rds j).take j = rds j := List.take_of_length_le (by unfold rds; rw [List.length_replicate]; omega)
      rw [ht] at HE HK HW HOW H256
      clear ht
      go_wp2
      go_ret2
      refine ⟨k, A, d, Nat.le_succ k, fun _ => ⟨rfl, HOW.out, R8.own HOW.out H256.out⟩, fun h => absurd HE.out h, ⟨I', HW.out, HI.out, fun _ => HNI.out⟩, HB.out, HK.out⟩
end
end Go.Proofs.YtmdgfnfhajncjaaGreat

/-
  plain, awake of the wire's laws.
-/
namespace Go.Proofs.YtmdgfnfhajncjaaGreat
open Go.RowKit
set_option maxRecDepth 100000

def geo16 : Gm := ⟨1, 2, 4, 1, 4, 1, 1⟩
def sc16 : Sc := ⟨[], [], [], -1, [], []⟩
theorem geo16_ok : geo16.ok = true := by decide +kernel
theorem geo16_raw : geo16.raw = 37 := by decide +kernel
theorem sc16_ok : sc16.short ∧ sc16.ok geo16 :=
  ⟨⟨by simp [sc16], by simp [sc16], by simp [sc16], by simp [sc16], by simp [sc16]⟩, ⟨fun i hi => absurd hi (by simp [sc16]), fun i hi => absurd hi (by simp [sc16]), fun i t hi => absurd hi (by simp [sc16]), by simp [sc16], fun i hi => absurd hi (by simp [sc16])⟩⟩
theorem sg16 : SG geo16 sc16 := ⟨sc16_ok.1, sc16_ok.2, by simp [sc16]⟩
theorem New16 (w : World) : Calls Tryz.prog 8 #[.agg #[.int .i64 1, .int .i64 2, .int .i64 4, .int .i64 1, .int .i64 4, .int .i64 1, .int .i64 1], .agg #[.slice none 0 0, .slice none 0 0, .slice none 0 0, .int .i64 (-1), .slice none 0 0, .slice none 0 0]] w
    fun e w' => ∃ p, e = .returned (.tuple #[.pointer (some ⟨p, 0, none⟩), .int .i64 0]) ∧ Below w.heap.size w w' ∧ CH (fun j => w.heap.size ≤ j) w' p geo16 sc16 (Ch.new geo16 sc16) :=
  (ChipNew_any geo16 geo16_ok (by rw [geo16_raw]; omega) ⟨none, 0, none, 0, none, 0, none, 0, none, 0⟩ sc16 w ⟨⟨Rd.nil_, by simp [sc16]⟩, ⟨Rd.nil_, by simp [sc16]⟩, RN.nil_ _ _, ⟨Rd.nil_, by simp [sc16]⟩, ⟨Rd.nil_, by simp [sc16]⟩⟩ sc16_ok.1).mono fun e w' h => by
    rcases h with ⟨_, h⟩ | ⟨h, _⟩
    · exact h
    · exact absurd sc16_ok.2 h
set_option maxHeartbeats 400000 in
theorem plain16_any (w : World) : Calls Tryz.prog 22 #[] w (Gives (.agg #[.int .i64 1, .int .i64 2, .int .i64 4, .int .i64 1, .int .i64 4, .int .i64 1, .int .i64 1]) w) := by
  go_enter Tryz.func22, Tryz.ntmps22
  have T0 := Lib.hid (CRow.new w #[.int .i64 0, .int .i64 0, .int .i64 0, .int .i64 0, .int .i64 0, .int .i64 0, .int .i64 0] 23)
  have B0 := Lib.hid (below_new w (.cells #[.int .i64 0, .int .i64 0, .int .i64 0, .int .i64 0, .int .i64 0, .int .i64 0, .int .i64 0] 23))
  go_wp2_with (with_reducible refine (?_ : wpList _ _ _ ({ dst := _, op := Op.store 23 _ _, type := _, pos := _, after := _, guard := _ } :: _) _ _); refine wpList_store_at rfl 23 _ _ rfl 7 size_geom _ w.heap.size ?hx rfl _ T0.out.row rfl rfl (by simp [Value.oneCell']) ?_; (case hx => simp [Act.eval]))
  have B9 := Lib.hid (below_setRow B0.out (Nat.le_refl _) #[.int .i64 1, .int .i64 2, .int .i64 4, .int .i64 1, .int .i64 4, .int .i64 1, .int .i64 1])
  have T9 := Lib.hid (T0.out.set #[.int .i64 1, .int .i64 2, .int .i64 4, .int .i64 1, .int .i64 4, .int .i64 1, .int .i64 1])
  go_wp2
  refine bodyPost_ret (results_cell_row rfl _ _ w.heap.size 23 _ (0, 0) _ rfl T9.out.row Tryz.underlying23 rfl size_geom) rfl ?_
  exact ⟨rfl, B9.out⟩
def w16a : Ws := runW geo16 sc16 (Ch.new geo16 sc16) [] (ofL 1 [144])
def w16b : Ws := runW geo16 sc16 w16a.c w16a.l (ofL 2 [0])
def w16c : Ws := runW geo16 sc16 w16b.c w16b.l (rds 2)
theorem w16a_is : w16a.e = 0 ∧ w16a.l.length = 1 := by decide +kernel
theorem w16b_is : w16b.e = 0 ∧ w16b.l.length = 2 := by decide +kernel
theorem w16c_is : w16c.e = 0 ∧ w16c.l.length = 4 ∧ readB w16b.l w16c.l = [73, 78] := by decide +kernel
set_option maxHeartbeats 4000000 in
theorem awake16_any (w : World) : Calls Tryz.prog 5 #[] w (Gives (.bool true) w) := by
  go_enter Tryz.func5, Tryz.ntmps5
  go_wp2_with fail
  refine (plain16_any _).mono ?_
  rintro _ w1 ⟨rfl, h1⟩
  have B1 := Lib.hid h1
  clear h1
  go_wp2_with fail
  refine (New16 _).mono ?_
  rintro _ w2 ⟨p, rfl, h2, c2⟩
  have B2 := Lib.hid (below_step B1.out h2)
  have C2 := Lib.hid c2
  clear h2 c2
  go_wp2_with fail
  refine (WNew_any C2.out).mono ?_
  rintro _ w3 ⟨q, r, rfl, h3, i3⟩
  have B3 := Lib.hid (below_step B2.out h3)
  obtain ⟨I, hI⟩ : ∃ I, I = fun j => w1.heap.size ≤ j := ⟨_, rfl⟩
  rw [← hI] at i3
  have HI := Lib.hid (show ∀ j, I j → w.heap.size ≤ j from fun j hj => by rw [hI] at hj; exact Nat.le_trans B1.out.size hj)
  have I3 := Lib.hid i3
  clear h3 i3 hI C2 B1 B2
  have R4 := Lib.hid (r8_one w3 144 (by omega) 5)
  have N4 := Lib.hid (below_new w3 (.cells #[.int .u8 144] 5))
  have HC := Lib.hid (WCommand_any (Q := 0) (some ⟨w3.heap.size, 0, none⟩) 1 1 [144] R4.out (by omega) (by omega) sg16 (fun _ => Okc.new geo16_ok (by decide)) (by simp) (by omega) (I3.out.below N4.out))
  go_wp2_with fail
  refine HC.out.mono ?_
  rintro e w5 ⟨k5, hk5, he, i5, b5, o5⟩
  obtain rfl : e = .returned (.int .i64 0) := by rw [he, show (runW geo16 sc16 (Ch.new geo16 sc16) [] (ofL 1 [144])).e = 0 from w16a_is.1]
  have I5 := Lib.hid (show Wi I w5 q p r geo16 sc16 w16a.c w16a.l k5 from i5)
  have O5 := Lib.hid (show w16a.c.on = true → Okc geo16 1 w16a.c from o5)
  have B5 := Lib.hid ((below_step B3.out N4.out).trans (b5.below HI.out (below_step B3.out N4.out).size))
  have K5 := Lib.hid hk5
  clear he i5 o5 b5 hk5 HC R4 N4 I3
  have R6 := Lib.hid (r8_one w5 0 (by omega) 5)
  have N6 := Lib.hid (below_new w5 (.cells #[.int .u8 0] 5))
  have HC := Lib.hid (WAddress_any (Q := 1) (some ⟨w5.heap.size, 0, none⟩) 1 1 [0] R6.out (by omega) (by omega) sg16 O5.out (by rw [w16a_is.2]; omega) (by have := K5.out; omega) (I5.out.below N6.out))
  go_wp2_with fail
  refine HC.out.mono ?_
  rintro e w7 ⟨k7, hk7, he, i7, b7, o7⟩
  obtain rfl : e = .returned (.int .i64 0) := by rw [he, show (runW geo16 sc16 w16a.c w16a.l (ofL 2 [0])).e = 0 from w16b_is.1]
  have I7 := Lib.hid (show Wi I w7 q p r geo16 sc16 w16b.c w16b.l k7 from i7)
  have O7 := Lib.hid (show w16b.c.on = true → Okc geo16 2 w16b.c from o7)
  have B7 := Lib.hid ((below_step B5.out N6.out).trans (b7.below HI.out (below_step B5.out N6.out).size))
  have K7 := Lib.hid (show k7 ≤ 2 by have := K5.out; omega)
  clear he i7 o7 b7 hk7 HC R6 N6 I5 O5 B5 K5
  have HC := Lib.hid (Read_any (Q := 2) 2 (by omega) (by omega) sg16 O7.out (by rw [w16b_is.2]; omega) (by have := K7.out; omega) I7.out)
  go_wp2_with fail
  refine HC.out.mono ?_
  rintro e w8 ⟨k8, A8, d8, hk8, he, -, ⟨I', i8, hi8, -⟩, b8, -⟩
  obtain ⟨rfl, -, r8⟩ := he (show (runW geo16 sc16 w16b.c w16b.l (rds 2)).e = 0 from w16c_is.1)
  have R8H := Lib.hid (show R8 w8 A8 2 [73, 78] from w16c_is.2.2 ▸ r8)
  have I8 := Lib.hid (show Wi I' w8 q p r geo16 sc16 w16c.c w16c.l k8 from i8)
  have B8 := Lib.hid (B7.out.trans (b8.below HI.out B7.out.size))
  clear he i8 hi8 b8 r8 HC I7 O7 B7 hk8
  have R9 := Lib.hid (show R8 (w8.alloc (.cells #[.int .u8 73, .int .u8 78] 5)) (some ⟨w8.heap.size, 0, none⟩) 2 [73, 78] from R8.two (x := 73) (y := 78) (by omega) (by omega) rfl)
  have N9 := Lib.hid (below_new w8 (.cells #[.int .u8 73, .int .u8 78] 5))
  have HSM := Lib.hid (Same_any A8 (some ⟨w8.heap.size, 0, none⟩) 2 d8 2 2 [73, 78] [73, 78] _ (R8H.out.below N9.out) R9.out (by omega) (by omega))
  rw [decide_eq_true (rfl : ([73, 78] : List Nat) = [73, 78])] at HSM
  have HSN := Lib.hid (fun W (hh : Wi I' W q p r geo16 sc16 w16c.c w16c.l k8) => Sent_any hh)
  rw [w16c_is.2.1] at HSN
  go_wp2_with fail
  refine HSM.out.mono ?_
  intro _ w10 hq
  obtain ⟨rfl, D10⟩ := hq.at_
  have h10 := D10.out
  clear hq
  have B10 := Lib.hid ((below_step B8.out N9.out).trans (h10.mono (below_step B8.out N9.out).size))
  have I10 := Lib.hid ((I8.out.below N9.out).below h10)
  clear h10 HSM R9 N9 R8H I8 B8
  go_wp2_with fail
  refine (HSN.out _ I10.out).mono ?_
  rintro _ w11 ⟨rfl, h11⟩
  have B11 := Lib.hid (below_step B10.out h11)
  clear h11
  go_wp2
  go_ret
  exact ⟨rfl, B11.out⟩
end Go.Proofs.YtmdgfnfhajncjaaGreat

/-
  The walk of WireSame.
-/
namespace Go.Proofs.YtmdgfnfhajncjaaGreat
open Go.RowKit
set_option maxRecDepth 100000

theorem Command_nil (B : Option Addr) (n d : Nat) (b : List Nat) (w : World) (hb : R8 w B n b) (hn : n ≤ 1000) : Calls Tryz.prog 13 #[.pointer none, .slice B n d] w (Gives (.int .i64 1) w) := by
  have hOf := Of_any 1 B n d b w hb (by omega)
  clear hb
  go_enter Tryz.func13, Tryz.ntmps13
  go_wp2_with fail
  refine hOf.mono ?_
  rintro e w1 ⟨A, c1, rfl, -, B1⟩
  have BB := Lib.hid B1
  clear B1 hOf
  go_wp2_with fail
  refine (Send_nil A _ c1 _).mono ?_
  rintro _ w2 ⟨rfl, h2⟩
  have B2 := Lib.hid (below_step BB.out h2)
  clear h2
  go_wp2
  go_ret
  exact ⟨rfl, B2.out⟩
theorem runW_one {g : Gm} {s : Sc} {a : Ws} {t : Cy} (h : a.e = 0) : runW g s a.c a.l [t] = stepW g s a t := by
  obtain ⟨e, c, l⟩ := a
  have h : e = 0 := h
  subst h
  rfl
set_option maxHeartbeats 16000000 in
theorem WireSame_walk (m : Sa) (s : Sc) (A : Option Addr) (n d : Nat) (l : List Cy) (w : World) (h : SIn w m s) (hl : RC w A n l) (hn : n ≤ 9223372036854775807) :
    Calls Tryz.prog 4 #[m.val s, .slice A n d] w (Gives (.bool true) w) := by
  have HI := Lib.hid h
  have HR := Lib.hid hl
  have HLT := Lib.hid (show ∀ b off, A = some ⟨b, off, none⟩ → 0 < n → b < w.heap.size from fun b off e hp => by
    obtain ⟨b2, o2, e2, h2, _⟩ := hl.2.2 hp
    rw [e] at e2
    injection e2 with e2
    injection e2 with e2 _
    omega)
  have S0 := Lib.hid (CRow.new w (m.cells s) 28)
  have B0 := Lib.hid (below_new w (.cells (m.cells s) 28))
  clear h hl
  simp only [Sa.val, Sa.cells] at *
  go_enter Tryz.func4, Tryz.ntmps4
  go_wp2_with fail
  refine (awake16_any _).mono ?_
  rintro _ w1 ⟨rfl, h1⟩
  have B1 := Lib.hid (below_step B0.out h1)
  have S1 := Lib.hid (S0.out.below h1)
  clear h1 B0 S0
  go_wp2_with fail
  refine (Read_nil 1 _).mono ?_
  rintro _ w2 ⟨rfl, h2⟩
  have B2 := Lib.hid (below_step B1.out h2)
  have S2 := Lib.hid (S1.out.below h2)
  clear h2 B1 S1
  go_wp2_with fail
  refine (Send_nil none 0 0 _).mono ?_
  rintro _ w3 ⟨rfl, h3⟩
  have B3 := Lib.hid (below_step B2.out h3)
  have S3 := Lib.hid (S2.out.below h3)
  clear h3 B2 S2
  have R4 := Lib.hid (r8_one w3 1 (by omega) 5)
  have N4 := Lib.hid (below_new w3 (.cells #[.int .u8 1] 5))
  have HC := Lib.hid (Command_nil (some ⟨w3.heap.size, 0, none⟩) 1 1 [1] _ R4.out (by omega))
  go_wp2_with fail
  refine HC.out.mono ?_
  rintro _ w4 ⟨rfl, h4⟩
  have B4 := Lib.hid (below_step (below_step B3.out N4.out) h4)
  have S4 := Lib.hid ((S3.out.below N4.out).below h4)
  clear h4 B3 S3 R4 N4 HC
  go_wp2_with fail
  refine (Sent_nil _).mono ?_
  rintro _ w5 ⟨rfl, h5⟩
  have B5 := Lib.hid (below_step B4.out h5)
  have S5 := Lib.hid (S4.out.below h5)
  clear h5 B4 S4
  go_wp2_with fail
  refine (Trace_nil _).mono ?_
  rintro _ w6 ⟨rfl, h6⟩
  have B6 := Lib.hid (below_step B5.out h6)
  have S6 := Lib.hid (S5.out.below h6)
  clear h6 B5 S5
  go_wp2_with fail
  refine (Chip_nil _).mono ?_
  rintro _ w7 ⟨rfl, h7⟩
  have B7 := Lib.hid (below_step B6.out h7)
  have S7 := Lib.hid (S6.out.below h7)
  clear h7 B6 S6
  go_wp2_with fail
  refine (WNew_nil _).mono ?_
  rintro _ w8 ⟨rfl, h8⟩
  have B8 := Lib.hid (below_step B7.out h8)
  have S8 := Lib.hid (S7.out.below h8)
  clear h8 B7 S7
  have y0 := S8.out.cell_at 0 (.slice m.a1 s.busy.length m.c1) rfl
  have y1 := S8.out.cell_at 1 (.slice m.a2 s.fails.length m.c2) rfl
  have y2 := S8.out.cell_at 2 (.slice m.a3 s.turns.length m.c3) rfl
  have y3 := S8.out.cell_at 3 (.int .i64 s.cut) rfl
  have y4 := S8.out.cell_at 4 (.slice m.a4 s.torn.length m.c4) rfl
  have y5 := S8.out.cell_at 5 (.slice m.a5 s.marked.length m.c5) rfl
  go_wp2_with fail
  refine (Few_any m s _).mono ?_
  rintro _ w9 ⟨v, rfl, hv, h9⟩
  have B9 := Lib.hid (below_step B8.out h9)
  have S9 := Lib.hid (S8.out.below h9)
  clear h9 B8 S8 y0 y1 y2 y3 y4 y5
  cases v
  · clear hv
    go_wp2
    go_ret
    exact ⟨rfl, B9.out⟩
  have HF := Lib.hid (hv.1 rfl)
  clear hv
  by_cases h300 : n ≤ 300
  rotate_left
  · have d1 : decide (300 < (n : Int)) = true := decide_eq_true (by omega)
    go_wp2
    go_ret
    exact ⟨rfl, B9.out⟩
  have d1 : decide (300 < (n : Int)) = false := decide_eq_false (by omega)
  by_cases hok : s.ok geo16
  rotate_left
  · have HNN := Lib.hid (fun W (hh : SIn W m s) => show Calls Tryz.prog 8 #[.agg #[.int .i64 1, .int .i64 2, .int .i64 4, .int .i64 1, .int .i64 4, .int .i64 1, .int .i64 1], m.val s] W (Gives (.tuple #[.pointer none, .int .i64 2]) W) from (ChipNew_any geo16 geo16_ok (by rw [geo16_raw]; omega) m s W hh HF.out.short).mono fun e w' h => by
      rcases h with ⟨h, _⟩ | ⟨_, h⟩
      · exact absurd h hok
      · exact h)
    simp only [Sa.val, Sa.cells] at HNN
    clear hok
    go_wp2_with fail
    refine wp_region_noPanic ?_
    refine wp_region_held_drew (S := fun w' => Below w9.heap.size w9 w') (by kernel_rfl) ((Below.refl _ _).drew) (fun C0 => ?_)
    refine wpAnyH_take (i := 1) (oi := { dst := some 74, op := Op.load 28 (Operand.tmp 2), type := 28, pos := "law.go:129", after := #[], guard := none }) (v := ?_) rfl (by kernel_rfl) (by kernel_rfl) (by kernel_rfl) (fun _ _ _ h => h) (Or.inl ⟨by rfl, ?_⟩) C0 ?_
    rotate_left
    · intro W' hSw
      have y0 := (S9.out.below hSw).cell_at 0 (.slice m.a1 s.busy.length m.c1) rfl
      have y1 := (S9.out.below hSw).cell_at 1 (.slice m.a2 s.fails.length m.c2) rfl
      have y2 := (S9.out.below hSw).cell_at 2 (.slice m.a3 s.turns.length m.c3) rfl
      have y3 := (S9.out.below hSw).cell_at 3 (.int .i64 s.cut) rfl
      have y4 := (S9.out.below hSw).cell_at 4 (.slice m.a4 s.torn.length m.c4) rfl
      have y5 := (S9.out.below hSw).cell_at 5 (.slice m.a5 s.marked.length m.c5) rfl
      clear hSw
      go_simp <;> with_reducible rfl
    try simp only [Act.put, List.setIfInBounds_toArray, List.set_cons_zero, List.set_cons_succ]
    refine wpAnyH_ready (rs := [0]) (by kernel_rfl) (by simp) ?_
    refine AllReadyH.cons (o := { dst := some 73, op := Op.call { callee := Callee.value (Operand.func 22), args := #[], argTypes := #[] }, type := 23, pos := "law.go:129", after := #[], guard := none }) rfl (fun K hK => ?_) AllReadyH.nil
    go_simp
    refine (plain16_any _).mono ?_
    rintro _ v51 ⟨rfl, hB⟩
    go_wp2_with fail
    refine hK.out _ _ (C0.trans (hB.mono C0.size)) (fun C1 => ?_)
    clear hK K hB
    try simp only [Act.put, List.setIfInBounds_toArray, List.set_cons_zero, List.set_cons_succ]
    refine wpAnyH_ready (rs := [2]) (by kernel_rfl) (by simp) ?_
    refine AllReadyH.cons (o := { dst := some 75, op := Op.call { callee := Callee.value (Operand.func 8), args := #[Operand.tmp 73, Operand.tmp 74], argTypes := #[23, 28] }, type := 35, pos := "law.go:129", after := #[{ on := 0, ground := Ground.data }, { on := 1, ground := Ground.data }, { on := 0, ground := Ground.chain }], guard := none }) rfl (fun K hK => ?_) AllReadyH.nil
    go_simp
    refine (HNN.out _ (HI.out.below (B9.out.trans ((C1).mono B9.out.size)))).mono ?_
    rintro _ v52 ⟨rfl, hB⟩
    go_wp2_with fail
    refine hK.out _ _ (C1.trans (hB.mono C1.size)) (fun C2 => ?_)
    have P5 := Lib.hid C2
    clear hB
    clear hK K
    try simp only [Act.put, List.setIfInBounds_toArray, List.set_cons_zero, List.set_cons_succ]
    refine wpAnyH_take (i := 3) (oi := { dst := some 72, op := Op.move (Operand.tmp 75), type := 35, pos := "law.go:129", after := #[{ on := 2, ground := Ground.data }], guard := none }) (v := ?_) rfl (by kernel_rfl) (by kernel_rfl) (by kernel_rfl) (fun _ _ _ h => h) (Or.inl ⟨by rfl, ?_⟩) C2 ?_
    rotate_left
    · intro W' hSw
      clear hSw
      go_simp <;> with_reducible rfl
    try simp only [Act.put, List.setIfInBounds_toArray, List.set_cons_zero, List.set_cons_succ]
    refine wpAnyH_take (i := 4) (oi := { dst := some 76, op := Op.extract (Operand.tmp 72) 0, type := 33, pos := "law.go:129", after := #[{ on := 3, ground := Ground.data }], guard := none }) (v := ?_) rfl (by kernel_rfl) (by kernel_rfl) (by kernel_rfl) (fun _ _ _ h => h) (Or.inl ⟨by rfl, ?_⟩) C2 ?_
    rotate_left
    · intro W' hSw
      clear hSw
      go_simp <;> with_reducible rfl
    try simp only [Act.put, List.setIfInBounds_toArray, List.set_cons_zero, List.set_cons_succ]
    refine wpAnyH_take (i := 5) (oi := { dst := some 77, op := Op.extract (Operand.tmp 72) 1, type := 34, pos := "law.go:129", after := #[{ on := 3, ground := Ground.data }, { on := 6, ground := Ground.gcOnly Departure.lateStores }], guard := none }) (v := ?_) rfl (by kernel_rfl) (by kernel_rfl) (by kernel_rfl) (fun _ _ _ h => h) (Or.inl ⟨by rfl, ?_⟩) C2 ?_
    rotate_left
    · intro W' hSw
      clear hSw
      go_simp <;> with_reducible rfl
    try simp only [Act.put, List.setIfInBounds_toArray, List.set_cons_zero, List.set_cons_succ]
    refine wpAnyH_take (i := 6) (oi := { dst := some 10, op := Op.assign (Operand.tmp 76), type := 33, pos := "law.go:129", after := #[{ on := 4, ground := Ground.data }, { on := 2, ground := Ground.chain }, { on := 0, ground := Ground.phase }, { on := 1, ground := Ground.phase }, { on := 2, ground := Ground.phase }, { on := 3, ground := Ground.phase }, { on := 4, ground := Ground.phase }, { on := 5, ground := Ground.textOnly Departure.lateStores }], guard := none }) (v := ?_) rfl (by kernel_rfl) (by kernel_rfl) (by kernel_rfl) (fun _ _ _ h => h) (Or.inl ⟨by rfl, ?_⟩) C2 ?_
    rotate_left
    · intro W' hSw
      clear hSw
      go_simp <;> with_reducible rfl
    try simp only [Act.put, List.setIfInBounds_toArray, List.set_cons_zero, List.set_cons_succ]
    refine wpAnyH_take (i := 7) (oi := { dst := some 11, op := Op.assign (Operand.tmp 77), type := 34, pos := "law.go:129", after := #[{ on := 5, ground := Ground.data }, { on := 6, ground := Ground.chain }, { on := 0, ground := Ground.phase }, { on := 1, ground := Ground.phase }, { on := 2, ground := Ground.phase }, { on := 3, ground := Ground.phase }, { on := 4, ground := Ground.phase }, { on := 5, ground := Ground.phase }, { on := 6, ground := Ground.phase }], guard := none }) (v := ?_) rfl (by kernel_rfl) (by kernel_rfl) (by kernel_rfl) (fun _ _ _ h => h) (Or.inl ⟨by rfl, ?_⟩) C2 ?_
    rotate_left
    · intro W' hSw
      clear hSw
      go_simp <;> with_reducible rfl
    try simp only [Act.put, List.setIfInBounds_toArray, List.set_cons_zero, List.set_cons_succ]
    refine wpAnyH_done (by kernel_rfl) ?_ _
    refine NoPanic.normal ?_
    have B10 := Lib.hid (B9.out.trans (P5.out.mono B9.out.size))
    have S10 := Lib.hid (S9.out.below P5.out)
    clear P5
    go_wp2_with fail
    refine wp_region_noPanic ?_
    refine wp_region_held_drew (S := fun w' => Below v52.heap.size v52 w') (by kernel_rfl) ((Below.refl _ _).drew) (fun C0 => ?_)
    refine wpAnyH_take (i := 1) (oi := { dst := some 80, op := Op.load 28 (Operand.tmp 2), type := 28, pos := "law.go:130", after := #[], guard := none }) (v := ?_) rfl (by kernel_rfl) (by kernel_rfl) (by kernel_rfl) (fun _ _ _ h => h) (Or.inl ⟨by rfl, ?_⟩) C0 ?_
    rotate_left
    · intro W' hSw
      have y0 := (S10.out.below hSw).cell_at 0 (.slice m.a1 s.busy.length m.c1) rfl
      have y1 := (S10.out.below hSw).cell_at 1 (.slice m.a2 s.fails.length m.c2) rfl
      have y2 := (S10.out.below hSw).cell_at 2 (.slice m.a3 s.turns.length m.c3) rfl
      have y3 := (S10.out.below hSw).cell_at 3 (.int .i64 s.cut) rfl
      have y4 := (S10.out.below hSw).cell_at 4 (.slice m.a4 s.torn.length m.c4) rfl
      have y5 := (S10.out.below hSw).cell_at 5 (.slice m.a5 s.marked.length m.c5) rfl
      clear hSw
      go_simp <;> with_reducible rfl
    try simp only [Act.put, List.setIfInBounds_toArray, List.set_cons_zero, List.set_cons_succ]
    refine wpAnyH_ready (rs := [0]) (by kernel_rfl) (by simp) ?_
    refine AllReadyH.cons (o := { dst := some 79, op := Op.call { callee := Callee.value (Operand.func 22), args := #[], argTypes := #[] }, type := 23, pos := "law.go:130", after := #[], guard := none }) rfl (fun K hK => ?_) AllReadyH.nil
    go_simp
    refine (plain16_any _).mono ?_
    rintro _ v61 ⟨rfl, hB⟩
    go_wp2_with fail
    refine hK.out _ _ (C0.trans (hB.mono C0.size)) (fun C1 => ?_)
    clear hK K hB
    try simp only [Act.put, List.setIfInBounds_toArray, List.set_cons_zero, List.set_cons_succ]
    refine wpAnyH_ready (rs := [2]) (by kernel_rfl) (by simp) ?_
    refine AllReadyH.cons (o := { dst := some 81, op := Op.call { callee := Callee.value (Operand.func 8), args := #[Operand.tmp 79, Operand.tmp 80], argTypes := #[23, 28] }, type := 35, pos := "law.go:130", after := #[{ on := 0, ground := Ground.data }, { on := 1, ground := Ground.data }, { on := 0, ground := Ground.chain }], guard := none }) rfl (fun K hK => ?_) AllReadyH.nil
    go_simp
    refine (HNN.out _ (HI.out.below (B10.out.trans ((C1).mono B10.out.size)))).mono ?_
    rintro _ v62 ⟨rfl, hB⟩
    go_wp2_with fail
    refine hK.out _ _ (C1.trans (hB.mono C1.size)) (fun C2 => ?_)
    have P6 := Lib.hid C2
    clear hB
    clear hK K
    try simp only [Act.put, List.setIfInBounds_toArray, List.set_cons_zero, List.set_cons_succ]
    refine wpAnyH_take (i := 3) (oi := { dst := some 78, op := Op.move (Operand.tmp 81), type := 35, pos := "law.go:130", after := #[{ on := 2, ground := Ground.data }], guard := none }) (v := ?_) rfl (by kernel_rfl) (by kernel_rfl) (by kernel_rfl) (fun _ _ _ h => h) (Or.inl ⟨by rfl, ?_⟩) C2 ?_
    rotate_left
    · intro W' hSw
      clear hSw
      go_simp <;> with_reducible rfl
    try simp only [Act.put, List.setIfInBounds_toArray, List.set_cons_zero, List.set_cons_succ]
    refine wpAnyH_take (i := 4) (oi := { dst := some 82, op := Op.extract (Operand.tmp 78) 0, type := 33, pos := "law.go:130", after := #[{ on := 3, ground := Ground.data }], guard := none }) (v := ?_) rfl (by kernel_rfl) (by kernel_rfl) (by kernel_rfl) (fun _ _ _ h => h) (Or.inl ⟨by rfl, ?_⟩) C2 ?_
    rotate_left
    · intro W' hSw
      clear hSw
      go_simp <;> with_reducible rfl
    try simp only [Act.put, List.setIfInBounds_toArray, List.set_cons_zero, List.set_cons_succ]
    refine wpAnyH_take (i := 5) (oi := { dst := some 83, op := Op.extract (Operand.tmp 78) 1, type := 34, pos := "law.go:130", after := #[{ on := 3, ground := Ground.data }, { on := 6, ground := Ground.gcOnly Departure.lateStores }], guard := none }) (v := ?_) rfl (by kernel_rfl) (by kernel_rfl) (by kernel_rfl) (fun _ _ _ h => h) (Or.inl ⟨by rfl, ?_⟩) C2 ?_
    rotate_left
    · intro W' hSw
      clear hSw
      go_simp <;> with_reducible rfl
    try simp only [Act.put, List.setIfInBounds_toArray, List.set_cons_zero, List.set_cons_succ]
    refine wpAnyH_take (i := 6) (oi := { dst := some 12, op := Op.assign (Operand.tmp 82), type := 33, pos := "law.go:130", after := #[{ on := 4, ground := Ground.data }, { on := 2, ground := Ground.chain }, { on := 0, ground := Ground.phase }, { on := 1, ground := Ground.phase }, { on := 2, ground := Ground.phase }, { on := 3, ground := Ground.phase }, { on := 4, ground := Ground.phase }, { on := 5, ground := Ground.textOnly Departure.lateStores }], guard := none }) (v := ?_) rfl (by kernel_rfl) (by kernel_rfl) (by kernel_rfl) (fun _ _ _ h => h) (Or.inl ⟨by rfl, ?_⟩) C2 ?_
    rotate_left
    · intro W' hSw
      clear hSw
      go_simp <;> with_reducible rfl
    try simp only [Act.put, List.setIfInBounds_toArray, List.set_cons_zero, List.set_cons_succ]
    refine wpAnyH_take (i := 7) (oi := { dst := some 13, op := Op.assign (Operand.tmp 83), type := 34, pos := "law.go:130", after := #[{ on := 5, ground := Ground.data }, { on := 6, ground := Ground.chain }, { on := 0, ground := Ground.phase }, { on := 1, ground := Ground.phase }, { on := 2, ground := Ground.phase }, { on := 3, ground := Ground.phase }, { on := 4, ground := Ground.phase }, { on := 5, ground := Ground.phase }, { on := 6, ground := Ground.phase }], guard := none }) (v := ?_) rfl (by kernel_rfl) (by kernel_rfl) (by kernel_rfl) (fun _ _ _ h => h) (Or.inl ⟨by rfl, ?_⟩) C2 ?_
    rotate_left
    · intro W' hSw
      clear hSw
      go_simp <;> with_reducible rfl
    try simp only [Act.put, List.setIfInBounds_toArray, List.set_cons_zero, List.set_cons_succ]
    refine wpAnyH_done (by kernel_rfl) ?_ _
    refine NoPanic.normal ?_
    have B11 := Lib.hid (B10.out.trans (P6.out.mono B10.out.size))
    clear P6
    go_wp2
    go_ret
    exact ⟨rfl, B11.out⟩
  · have HNW := Lib.hid (fun W (hh : SIn W m s) => show Calls Tryz.prog 8 #[.agg #[.int .i64 1, .int .i64 2, .int .i64 4, .int .i64 1, .int .i64 4, .int .i64 1, .int .i64 1], m.val s] W (fun e w' => ∃ p, e = .returned (.tuple #[.pointer (some ⟨p, 0, none⟩), .int .i64 0]) ∧ Below W.heap.size W w' ∧ CH (fun j => W.heap.size ≤ j) w' p geo16 s (Ch.new geo16 s)) from (ChipNew_any geo16 geo16_ok (by rw [geo16_raw]; omega) m s W hh HF.out.short).mono fun e w' h => by
      rcases h with ⟨_, h⟩ | ⟨h, _⟩
      · exact h
      · exact absurd hok h)
    simp only [Sa.val, Sa.cells] at HNW
    have HSG := Lib.hid (show SG geo16 s from ⟨HF.out.short, hok, HI.out.torn.2⟩)
    have HCUT := Lib.hid hok.cut
    clear hok
    go_wp2_with fail
    refine wp_region_noPanic ?_
    refine wp_region_held_drew (S := fun w' => Below w9.heap.size w9 w') (by kernel_rfl) ((Below.refl _ _).drew) (fun C0 => ?_)
    refine wpAnyH_take (i := 1) (oi := { dst := some 74, op := Op.load 28 (Operand.tmp 2), type := 28, pos := "law.go:129", after := #[], guard := none }) (v := ?_) rfl (by kernel_rfl) (by kernel_rfl) (by kernel_rfl) (fun _ _ _ h => h) (Or.inl ⟨by rfl, ?_⟩) C0 ?_
    rotate_left
    · intro W' hSw
      have y0 := (S9.out.below hSw).cell_at 0 (.slice m.a1 s.busy.length m.c1) rfl
      have y1 := (S9.out.below hSw).cell_at 1 (.slice m.a2 s.fails.length m.c2) rfl
      have y2 := (S9.out.below hSw).cell_at 2 (.slice m.a3 s.turns.length m.c3) rfl
      have y3 := (S9.out.below hSw).cell_at 3 (.int .i64 s.cut) rfl
      have y4 := (S9.out.below hSw).cell_at 4 (.slice m.a4 s.torn.length m.c4) rfl
      have y5 := (S9.out.below hSw).cell_at 5 (.slice m.a5 s.marked.length m.c5) rfl
      clear hSw
      go_simp <;> with_reducible rfl
    try simp only [Act.put, List.setIfInBounds_toArray, List.set_cons_zero, List.set_cons_succ]
    refine wpAnyH_ready (rs := [0]) (by kernel_rfl) (by simp) ?_
    refine AllReadyH.cons (o := { dst := some 73, op := Op.call { callee := Callee.value (Operand.func 22), args := #[], argTypes := #[] }, type := 23, pos := "law.go:129", after := #[], guard := none }) rfl (fun K hK => ?_) AllReadyH.nil
    go_simp
    refine (plain16_any _).mono ?_
    rintro _ v51 ⟨rfl, hB⟩
    go_wp2_with fail
    refine hK.out _ _ (C0.trans (hB.mono C0.size)) (fun C1 => ?_)
    clear hK K hB
    try simp only [Act.put, List.setIfInBounds_toArray, List.set_cons_zero, List.set_cons_succ]
    refine wpAnyH_ready (rs := [2]) (by kernel_rfl) (by simp) ?_
    refine AllReadyH.cons (o := { dst := some 75, op := Op.call { callee := Callee.value (Operand.func 8), args := #[Operand.tmp 73, Operand.tmp 74], argTypes := #[23, 28] }, type := 35, pos := "law.go:129", after := #[{ on := 0, ground := Ground.data }, { on := 1, ground := Ground.data }, { on := 0, ground := Ground.chain }], guard := none }) rfl (fun K hK => ?_) AllReadyH.nil
    go_simp
    refine (HNW.out _ (HI.out.below (B9.out.trans ((C1).mono B9.out.size)))).mono ?_
    rintro _ v52 ⟨p5, rfl, hB, hc⟩
    have C5 := Lib.hid hc
    have Q5 := Lib.hid C1
    have D5 := Lib.hid hB
    clear hc
    go_wp2_with fail
    refine hK.out _ _ (C1.trans (hB.mono C1.size)) (fun C2 => ?_)
    have P5 := Lib.hid C2
    clear hB
    clear hK K
    try simp only [Act.put, List.setIfInBounds_toArray, List.set_cons_zero, List.set_cons_succ]
    refine wpAnyH_take (i := 3) (oi := { dst := some 72, op := Op.move (Operand.tmp 75), type := 35, pos := "law.go:129", after := #[{ on := 2, ground := Ground.data }], guard := none }) (v := ?_) rfl (by kernel_rfl) (by kernel_rfl) (by kernel_rfl) (fun _ _ _ h => h) (Or.inl ⟨by rfl, ?_⟩) C2 ?_
    rotate_left
    · intro W' hSw
      clear hSw
      go_simp <;> with_reducible rfl
    try simp only [Act.put, List.setIfInBounds_toArray, List.set_cons_zero, List.set_cons_succ]
    refine wpAnyH_take (i := 4) (oi := { dst := some 76, op := Op.extract (Operand.tmp 72) 0, type := 33, pos := "law.go:129", after := #[{ on := 3, ground := Ground.data }], guard := none }) (v := ?_) rfl (by kernel_rfl) (by kernel_rfl) (by kernel_rfl) (fun _ _ _ h => h) (Or.inl ⟨by rfl, ?_⟩) C2 ?_
    rotate_left
    · intro W' hSw
      clear hSw
      go_simp <;> with_reducible rfl
    try simp only [Act.put, List.setIfInBounds_toArray, List.set_cons_zero, List.set_cons_succ]
    refine wpAnyH_take (i := 5) (oi := { dst := some 77, op := Op.extract (Operand.tmp 72) 1, type := 34, pos := "law.go:129", after := #[{ on := 3, ground := Ground.data }, { on := 6, ground := Ground.gcOnly Departure.lateStores }], guard := none }) (v := ?_) rfl (by kernel_rfl) (by kernel_rfl) (by kernel_rfl) (fun _ _ _ h => h) (Or.inl ⟨by rfl, ?_⟩) C2 ?_
    rotate_left
    · intro W' hSw
      clear hSw
      go_simp <;> with_reducible rfl
    try simp only [Act.put, List.setIfInBounds_toArray, List.set_cons_zero, List.set_cons_succ]
    refine wpAnyH_take (i := 6) (oi := { dst := some 10, op := Op.assign (Operand.tmp 76), type := 33, pos := "law.go:129", after := #[{ on := 4, ground := Ground.data }, { on := 2, ground := Ground.chain }, { on := 0, ground := Ground.phase }, { on := 1, ground := Ground.phase }, { on := 2, ground := Ground.phase }, { on := 3, ground := Ground.phase }, { on := 4, ground := Ground.phase }, { on := 5, ground := Ground.textOnly Departure.lateStores }], guard := none }) (v := ?_) rfl (by kernel_rfl) (by kernel_rfl) (by kernel_rfl) (fun _ _ _ h => h) (Or.inl ⟨by rfl, ?_⟩) C2 ?_
    rotate_left
    · intro W' hSw
      clear hSw
      go_simp <;> with_reducible rfl
    try simp only [Act.put, List.setIfInBounds_toArray, List.set_cons_zero, List.set_cons_succ]
    refine wpAnyH_take (i := 7) (oi := { dst := some 11, op := Op.assign (Operand.tmp 77), type := 34, pos := "law.go:129", after := #[{ on := 5, ground := Ground.data }, { on := 6, ground := Ground.chain }, { on := 0, ground := Ground.phase }, { on := 1, ground := Ground.phase }, { on := 2, ground := Ground.phase }, { on := 3, ground := Ground.phase }, { on := 4, ground := Ground.phase }, { on := 5, ground := Ground.phase }, { on := 6, ground := Ground.phase }], guard := none }) (v := ?_) rfl (by kernel_rfl) (by kernel_rfl) (by kernel_rfl) (fun _ _ _ h => h) (Or.inl ⟨by rfl, ?_⟩) C2 ?_
    rotate_left
    · intro W' hSw
      clear hSw
      go_simp <;> with_reducible rfl
    try simp only [Act.put, List.setIfInBounds_toArray, List.set_cons_zero, List.set_cons_succ]
    refine wpAnyH_done (by kernel_rfl) ?_ _
    refine NoPanic.normal ?_
    have B10 := Lib.hid (B9.out.trans (P5.out.mono B9.out.size))
    have S10 := Lib.hid (S9.out.below P5.out)
    have X5 := Lib.hid (Q5.out.size)
    have Y5 := Lib.hid (D5.out.size)
    have E5 := Lib.hid (show w.heap.size ≤ v51.heap.size from Nat.le_trans B9.out.size Q5.out.size)
    clear P5 Q5 B9 S9
    go_wp2_with fail
    refine wp_region_noPanic ?_
    refine wp_region_held_drew (S := fun w' => Below v52.heap.size v52 w') (by kernel_rfl) ((Below.refl _ _).drew) (fun C0 => ?_)
    refine wpAnyH_take (i := 1) (oi := { dst := some 80, op := Op.load 28 (Operand.tmp 2), type := 28, pos := "law.go:130", after := #[], guard := none }) (v := ?_) rfl (by kernel_rfl) (by kernel_rfl) (by kernel_rfl) (fun _ _ _ h => h) (Or.inl ⟨by rfl, ?_⟩) C0 ?_
    rotate_left
    · intro W' hSw
      have y0 := (S10.out.below hSw).cell_at 0 (.slice m.a1 s.busy.length m.c1) rfl
      have y1 := (S10.out.below hSw).cell_at 1 (.slice m.a2 s.fails.length m.c2) rfl
      have y2 := (S10.out.below hSw).cell_at 2 (.slice m.a3 s.turns.length m.c3) rfl
      have y3 := (S10.out.below hSw).cell_at 3 (.int .i64 s.cut) rfl
      have y4 := (S10.out.below hSw).cell_at 4 (.slice m.a4 s.torn.length m.c4) rfl
      have y5 := (S10.out.below hSw).cell_at 5 (.slice m.a5 s.marked.length m.c5) rfl
      clear hSw
      go_simp <;> with_reducible rfl
    try simp only [Act.put, List.setIfInBounds_toArray, List.set_cons_zero, List.set_cons_succ]
    refine wpAnyH_ready (rs := [0]) (by kernel_rfl) (by simp) ?_
    refine AllReadyH.cons (o := { dst := some 79, op := Op.call { callee := Callee.value (Operand.func 22), args := #[], argTypes := #[] }, type := 23, pos := "law.go:130", after := #[], guard := none }) rfl (fun K hK => ?_) AllReadyH.nil
    go_simp
    refine (plain16_any _).mono ?_
    rintro _ v61 ⟨rfl, hB⟩
    go_wp2_with fail
    refine hK.out _ _ (C0.trans (hB.mono C0.size)) (fun C1 => ?_)
    clear hK K hB
    try simp only [Act.put, List.setIfInBounds_toArray, List.set_cons_zero, List.set_cons_succ]
    refine wpAnyH_ready (rs := [2]) (by kernel_rfl) (by simp) ?_
    refine AllReadyH.cons (o := { dst := some 81, op := Op.call { callee := Callee.value (Operand.func 8), args := #[Operand.tmp 79, Operand.tmp 80], argTypes := #[23, 28] }, type := 35, pos := "law.go:130", after := #[{ on := 0, ground := Ground.data }, { on := 1, ground := Ground.data }, { on := 0, ground := Ground.chain }], guard := none }) rfl (fun K hK => ?_) AllReadyH.nil
    go_simp
    refine (HNW.out _ (HI.out.below (B10.out.trans ((C1).mono B10.out.size)))).mono ?_
    rintro _ v62 ⟨p6, rfl, hB, hc⟩
    have C6 := Lib.hid hc
    have Q6 := Lib.hid C1
    have D6 := Lib.hid hB
    clear hc
    go_wp2_with fail
    refine hK.out _ _ (C1.trans (hB.mono C1.size)) (fun C2 => ?_)
    have P6 := Lib.hid C2
    clear hB
    clear hK K
    try simp only [Act.put, List.setIfInBounds_toArray, List.set_cons_zero, List.set_cons_succ]
    refine wpAnyH_take (i := 3) (oi := { dst := some 78, op := Op.move (Operand.tmp 81), type := 35, pos := "law.go:130", after := #[{ on := 2, ground := Ground.data }], guard := none }) (v := ?_) rfl (by kernel_rfl) (by kernel_rfl) (by kernel_rfl) (fun _ _ _ h => h) (Or.inl ⟨by rfl, ?_⟩) C2 ?_
    rotate_left
    · intro W' hSw
      clear hSw
      go_simp <;> with_reducible rfl
    try simp only [Act.put, List.setIfInBounds_toArray, List.set_cons_zero, List.set_cons_succ]
    refine wpAnyH_take (i := 4) (oi := { dst := some 82, op := Op.extract (Operand.tmp 78) 0, type := 33, pos := "law.go:130", after := #[{ on := 3, ground := Ground.data }], guard := none }) (v := ?_) rfl (by kernel_rfl) (by kernel_rfl) (by kernel_rfl) (fun _ _ _ h => h) (Or.inl ⟨by rfl, ?_⟩) C2 ?_
    rotate_left
    · intro W' hSw
      clear hSw
      go_simp <;> with_reducible rfl
    try simp only [Act.put, List.setIfInBounds_toArray, List.set_cons_zero, List.set_cons_succ]
    refine wpAnyH_take (i := 5) (oi := { dst := some 83, op := Op.extract (Operand.tmp 78) 1, type := 34, pos := "law.go:130", after := #[{ on := 3, ground := Ground.data }, { on := 6, ground := Ground.gcOnly Departure.lateStores }], guard := none }) (v := ?_) rfl (by kernel_rfl) (by kernel_rfl) (by kernel_rfl) (fun _ _ _ h => h) (Or.inl ⟨by rfl, ?_⟩) C2 ?_
    rotate_left
    · intro W' hSw
      clear hSw
      go_simp <;> with_reducible rfl
    try simp only [Act.put, List.setIfInBounds_toArray, List.set_cons_zero, List.set_cons_succ]
    refine wpAnyH_take (i := 6) (oi := { dst := some 12, op := Op.assign (Operand.tmp 82), type := 33, pos := "law.go:130", after := #[{ on := 4, ground := Ground.data }, { on := 2, ground := Ground.chain }, { on := 0, ground := Ground.phase }, { on := 1, ground := Ground.phase }, { on := 2, ground := Ground.phase }, { on := 3, ground := Ground.phase }, { on := 4, ground := Ground.phase }, { on := 5, ground := Ground.textOnly Departure.lateStores }], guard := none }) (v := ?_) rfl (by kernel_rfl) (by kernel_rfl) (by kernel_rfl) (fun _ _ _ h => h) (Or.inl ⟨by rfl, ?_⟩) C2 ?_
    rotate_left
    · intro W' hSw
      clear hSw
      go_simp <;> with_reducible rfl
    try simp only [Act.put, List.setIfInBounds_toArray, List.set_cons_zero, List.set_cons_succ]
    refine wpAnyH_take (i := 7) (oi := { dst := some 13, op := Op.assign (Operand.tmp 83), type := 34, pos := "law.go:130", after := #[{ on := 5, ground := Ground.data }, { on := 6, ground := Ground.chain }, { on := 0, ground := Ground.phase }, { on := 1, ground := Ground.phase }, { on := 2, ground := Ground.phase }, { on := 3, ground := Ground.phase }, { on := 4, ground := Ground.phase }, { on := 5, ground := Ground.phase }, { on := 6, ground := Ground.phase }], guard := none }) (v := ?_) rfl (by kernel_rfl) (by kernel_rfl) (by kernel_rfl) (fun _ _ _ h => h) (Or.inl ⟨by rfl, ?_⟩) C2 ?_
    rotate_left
    · intro W' hSw
      clear hSw
      go_simp <;> with_reducible rfl
    try simp only [Act.put, List.setIfInBounds_toArray, List.set_cons_zero, List.set_cons_succ]
    refine wpAnyH_done (by kernel_rfl) ?_ _
    refine NoPanic.normal ?_
    have B11 := Lib.hid (B10.out.trans (P6.out.mono B10.out.size))
    have C5b := Lib.hid (C5.out.shrink P6.out)
    have X6 := Lib.hid (Q6.out.size)
    have Y6 := Lib.hid (D6.out.size)
    clear P6 Q6 B10 S10 C5 D5 D6
    go_wp2_with fail
    refine (WNew_any C5b.out).mono ?_
    rintro _ w12 ⟨qa, ra, rfl, h12, i12⟩
    have B12 := Lib.hid (below_step B11.out h12)
    have IA := Lib.hid i12
    have C6b := Lib.hid (C6.out.shrink h12)
    have Y12 := Lib.hid h12.size
    clear h12 i12 C6 C5b B11
    go_wp2_with fail
    refine (WNew_any C6b.out).mono ?_
    rintro _ w13 ⟨qb, rb, rfl, h13, i13⟩
    have B13 := Lib.hid (below_step B12.out h13)
    have IB := Lib.hid i13
    have IA2 := Lib.hid (IA.out.away (J := fun _ => False) (Btw.of_below h13) fun _ _ h => h.elim)
    have Y13 := Lib.hid h13.size
    clear h13 i13 C6b B12 IA
    obtain ⟨Xa, hXa⟩ : ∃ X, X = (fun j => (v51.heap.size ≤ j ∧ (j < v52.heap.size ∨ v62.heap.size ≤ j)) ∧ (j < w12.heap.size ∨ w13.heap.size ≤ j)) := ⟨_, rfl⟩
    obtain ⟨Xb, hXb⟩ : ∃ X, X = (fun j => v61.heap.size ≤ j ∧ (j < v62.heap.size ∨ w12.heap.size ≤ j)) := ⟨_, rfl⟩
    rw [← hXa] at IA2
    rw [← hXb] at IB
    have DIS := Lib.hid (show ∀ j, j < w13.heap.size → Xa j → ¬ Xb j from fun j h1 h2 h3 => by
      rw [hXa] at h2
      rw [hXb] at h3
      have e5 := Y5.out
      have e6 := X6.out
      have e7 := Y6.out
      have e8 := Y12.out
      obtain ⟨⟨a1, a2⟩, a3⟩ := h2
      obtain ⟨b1, b2⟩ := h3
      omega)
    have XAL := Lib.hid (show ∀ j, Xa j → w.heap.size ≤ j from fun j h => by rw [hXa] at h; exact Nat.le_trans E5.out h.1.1)
    have XBL := Lib.hid (show ∀ j, Xb j → w.heap.size ≤ j from fun j h => by
      rw [hXb] at h
      have e5 := E5.out
      have e6 := Y5.out
      have e7 := X6.out
      have := h.1
      omega)
    clear hXa hXb X5 Y5 E5 X6 Y6 Y12 Y13
    have OKN := Lib.hid (show (Ch.new geo16 s).on = true → Okc geo16 0 (Ch.new geo16 s) from fun _ => Okc.new geo16_ok HCUT.out)
    have HS1 := Lib.hid (Send_any (Q := 0) A n d l (HR.out.below B13.out) (fun b off e hp hi => by have := HLT.out b off e hp; have := XAL.out b hi; omega) (by omega) (by omega) HSG.out OKN.out (by simp) (by omega) IA2.out)
    go_wp2_with fail
    refine HS1.out.mono ?_
    rintro _ w14 ⟨ka, hka, rfl, ia, ba, -⟩
    have IA3 := Lib.hid ia
    have B14 := Lib.hid (B13.out.trans (ba.below XAL.out B13.out.size))
    have IB2 := Lib.hid (IB.out.away ba fun j h1 h2 => DIS.out j h1 h2)
    have DI2 := Lib.hid (show ∀ j, j < w14.heap.size → (Xb j ∧ (j < w13.heap.size ∨ w14.heap.size ≤ j)) → ¬ Xa j from fun j h1 h2 h3 => by
      rcases h2.2 with h4 | h4
      · exact DIS.out j h4 h3 h2.1
      · omega)
    obtain ⟨Xc, hXc⟩ : ∃ X, X = fun j => Xb j ∧ (j < w13.heap.size ∨ w14.heap.size ≤ j) := ⟨_, rfl⟩
    have XCL := Lib.hid (show ∀ j, Xc j → w.heap.size ≤ j from fun j h => by rw [hXc] at h; exact XBL.out j h.1)
    have DI2 := Lib.hid (show ∀ j, j < w14.heap.size → Xc j → ¬ Xa j from fun j h1 h2 => DI2.out j h1 (by rw [hXc] at h2; exact h2))
    rw [← hXc] at IB2
    obtain ⟨fin, hfin⟩ : ∃ f, f = runW geo16 s (Ch.new geo16 s) [] l := ⟨_, rfl⟩
    rw [← hfin] at IA3 ⊢
    obtain ⟨ef, cf, lf⟩ := fin
    have HFIN := Lib.hid hfin
    simp only at IA3 ⊢
    have HLEN := Lib.hid (show lf.length ≤ n ∧ (ef = 0 → lf.length = n) from by
      have h0 := runW_len (g := geo16) (s := s) (c := Ch.new geo16 s) (L := []) (ts := l)
      rw [← hfin] at h0
      have h1 := HR.out.len
      simp only [List.length_nil, Nat.zero_add, h1] at h0
      exact h0)
    clear hXc hfin ia ba hka HS1 IB IA2 B13 DIS XBL
    go_wp2
    go_loopw [111, 19] (fun i v wr => ∃ (j kb : Nat) (Xv : Nat → Prop), j ≤ n ∧ kb ≤ j ∧ i = .int .i64 (j : Int) ∧ v = .int .i64 (runW geo16 s (Ch.new geo16 s) [] (l.take j)).e ∧ Hid ((runW geo16 s (Ch.new geo16 s) [] (l.take j)).c.on = true → Okc geo16 j (runW geo16 s (Ch.new geo16 s) [] (l.take j)).c) ∧ Hid (Wi Xc wr qb p6 rb geo16 s (runW geo16 s (Ch.new geo16 s) [] (l.take j)).c (runW geo16 s (Ch.new geo16 s) [] (l.take j)).l kb) ∧
      Hid (Wi Xv wr qa p5 ra geo16 s cf lf ka) ∧ Hid (∀ x, x < wr.heap.size → Xc x → ¬ Xv x) ∧ Hid (Below w.heap.size w wr)) (fun i _ _ => n - (intOf i).toNat)
    case atStart => exact ⟨0, 0, Xa, Nat.zero_le _, Nat.le_refl _, rfl, by rw [runW_zero], by rw [runW_zero]; exact OKN, by rw [runW_zero]; exact IB2, IA3, DI2, B14⟩
    case round =>
      obtain ⟨j, kb, Xv, hj, hkb, rfl, rfl, HO, HB2, HA2, HD, HBL⟩ := hrel
      rename World => wr
      clear IB2 IA3 DI2 B14 OKN
      by_cases hlt : j < n
      · obtain ⟨b9, o9, t, hA9, hb9, HX, hin, x0, x1⟩ := (HR.out.below HBL.out).at_ hlt
        have d1 : decide ((j : Int) < (n : Int)) = true := decide_eq_true (by omega)
        have i0 : (0 : Int) ≤ (j : Int) := by omega
        have hlen : (runW geo16 s (Ch.new geo16 s) [] (l.take j)).l.length ≤ j := by
          have h9 := (runW_len (g := geo16) (s := s) (c := Ch.new geo16 s) (L := []) (ts := l.take j)).1
          have := List.length_take_le j l
          simp only [List.length_nil, Nat.zero_add] at h9
          omega
        have HN := Lib.hid (runW_succ (g := geo16) (s := s) (c := Ch.new geo16 s) (L := []) HX.out)
        obtain ⟨a, ha⟩ : ∃ a, a = runW geo16 s (Ch.new geo16 s) [] (l.take j) := ⟨_, rfl⟩
        rw [← ha] at HO HB2 HN hlen
        rw [← ha]
        have N1 := Lib.hid (below_new wr (.cells #[.int .i64 t.k, .int .u8 (t.b : Int)] 47))
        subst hA9
        by_cases he : a.e = 0
        · have RX := Lib.hid (RC.one (wr.alloc (.cells #[.int .i64 t.k, .int .u8 (t.b : Int)] 47)) t hin 47)
          have N2 := Lib.hid (below_new (wr.alloc (.cells #[.int .i64 t.k, .int .u8 (t.b : Int)] 47)) (.cells #[.int .i64 t.k, .int .u8 (t.b : Int)] 47))
          have NB := Lib.hid (below_step N1.out N2.out)
          have W2 := Lib.hid (HB2.out.away (J := fun _ => False) (Btw.of_below NB.out) fun _ _ h => h.elim)
          have WA := Lib.hid (HA2.out.away (J := fun _ => False) (Btw.of_below NB.out) fun _ _ h => h.elim)
          have hA1 : ∀ b off, (some ⟨(wr.alloc (.cells #[.int .i64 t.k, .int .u8 (t.b : Int)] 47)).heap.size, 0, none⟩ : Option Addr) = some ⟨b, off, none⟩ → 0 < 1 → ¬ (Xc b ∧ (b < wr.heap.size ∨ ((wr.alloc (.cells #[.int .i64 t.k, .int .u8 (t.b : Int)] 47)).alloc (.cells #[.int .i64 t.k, .int .u8 (t.b : Int)] 47)).heap.size ≤ b)) := fun b off e hp hi => by
            injection e with e
            injection e with e _
            have e1 : (wr.alloc (.cells #[.int .i64 t.k, .int .u8 (t.b : Int)] 47)).heap.size = wr.heap.size + 1 := by simp
            have e2 : ((wr.alloc (.cells #[.int .i64 t.k, .int .u8 (t.b : Int)] 47)).alloc (.cells #[.int .i64 t.k, .int .u8 (t.b : Int)] 47)).heap.size = wr.heap.size + 2 := by simp
            have h8 := hi.2
            rw [e2] at h8
            rw [e1] at e
            omega
          have HS2 := Lib.hid (Send_any (Q := j) (some ⟨(wr.alloc (.cells #[.int .i64 t.k, .int .u8 (t.b : Int)] 47)).heap.size, 0, none⟩) 1 1 [t] RX.out hA1 (by omega) (by omega) HSG.out HO.out (by omega) (by omega) W2.out)
          clear hA1
          unfold SentIs at HS2
          rw [runW_one he, ← HN.out] at HS2
          have he0 : a.e = 0 := he
          rw [he0]
          have HQB := Lib.hid HB2.out.qi
          obtain ⟨W, hW⟩ : ∃ W, W = (wr.alloc (.cells #[.int .i64 t.k, .int .u8 (t.b : Int)] 47)).alloc (.cells #[.int .i64 t.k, .int .u8 (t.b : Int)] 47) := ⟨_, rfl⟩
          have SZ := Lib.hid (show W.heap.size = wr.heap.size + 2 by rw [hW]; simp)
          have hsz : (wr.alloc (.cells #[.int .i64 t.k, .int .u8 (t.b : Int)] 47)).heap.size = wr.heap.size + 1 := by simp
          rw [← hW] at HS2 NB WA W2
          rw [hsz] at HS2
          have HWE := Lib.hid hW
          have HSX := Lib.hid (show Calls Tryz.prog 17 #[.pointer (some ⟨qb, 0, none⟩), .slice (some ⟨wr.heap.size + 1, 0, none⟩) 1 1] ((wr.alloc (.cells #[.int .i64 t.k, .int .u8 (t.b : Int)] 47)).alloc (.cells #[.int .i64 t.k, .int .u8 (t.b : Int)] 47)) _ from hW ▸ HS2.out)
          clear ha he he0 hlen HB2 hb9 HN hW hsz HS2 N2 RX
          go_wp2_with fail
          clear x0 x1
          refine HSX.out.mono ?_
          rintro _ w2 ⟨k2, hk2, rfl, h2, b2, o2⟩
          rw [← HWE.out] at h2 b2
          have H2 := Lib.hid (h2.widen (fun x hx => hx.1) HQB.out)
          have A2 := Lib.hid (WA.out.away b2 fun x h1 h3 h4 => by
            have h5 := SZ.out
            rcases h3.2 with h6 | h6
            · exact HD.out x h6 h3.1 h4.1
            · omega)
          have D2 := Lib.hid (show ∀ x, x < w2.heap.size → Xc x → ¬ ((Xv x ∧ (x < wr.heap.size ∨ W.heap.size ≤ x)) ∧ (x < W.heap.size ∨ w2.heap.size ≤ x)) from fun x h1 h3 h4 => by
            obtain ⟨⟨h5, h6⟩, h7⟩ := h4
            rcases h6 with h6 | h6
            · exact HD.out x h6 h3 h5
            · omega)
          have L2 := Lib.hid ((below_step HBL.out NB.out).trans (b2.below (fun x hx => XCL.out x hx.1) (below_step HBL.out NB.out).size))
          have O2 := Lib.hid o2
          clear h2 b2 o2 HSX NB WA W2 HD HBL HA2
          go_wp2
          go_roundw
          case rel => exact ⟨j + 1, k2, _, by omega, by omega, by go_num, rfl, O2, H2, A2, D2, L2⟩
          case measure => simp [intOf]; omega
        · have HNE := Lib.hid (HN.out.trans (if_neg he))
          have b0 : (a.e == 0) = false := by rw [beq_eq_false_iff_ne]; exact he
          have j0 : (a.e = 0) = False := eq_false he
          have dd0 : decide (a.e = 0) = false := decide_eq_false he
          have H2 := Lib.hid (HB2.out.below N1.out)
          have A2 := Lib.hid (HA2.out.away (J := fun _ => False) (Btw.of_below N1.out) fun _ _ h => h.elim)
          have D2 := Lib.hid (show ∀ x, x < (wr.alloc (.cells #[.int .i64 t.k, .int .u8 (t.b : Int)] 47)).heap.size → Xc x → ¬ (Xv x ∧ (x < wr.heap.size ∨ (wr.alloc (.cells #[.int .i64 t.k, .int .u8 (t.b : Int)] 47)).heap.size ≤ x)) from fun x h1 h3 h4 => by
            rcases h4.2 with h6 | h6
            · exact HD.out x h6 h3 h4.1
            · omega)
          have L2 := Lib.hid (below_step HBL.out N1.out)
          have O2 := Lib.hid (fun h => (HO.out h).more (Nat.le_succ j))
          obtain ⟨ea, ca, la⟩ := a
          simp only at *
          clear ha he hlen hb9 HN HA2 HB2 HD HBL HO
          go_wp2
          go_roundw
          case rel => exact ⟨j + 1, kb, _, by omega, by omega, by go_num, by rw [HNE.out], by rw [HNE.out]; exact O2, by rw [HNE.out]; exact H2, A2, D2, L2⟩
          case measure => simp [intOf]; omega
      · obtain rfl : j = n := by omega
        have d1 : decide ((j : Int) < (j : Int)) = false := decide_eq_false (by omega)
        have ht : l.take j = l := List.take_of_length_le (by have := HR.out.len; omega)
        rw [ht, ← HFIN.out] at HB2
        rw [ht, ← HFIN.out]
        simp only at HB2 ⊢
        clear ht HO HD
        obtain ⟨z, hz⟩ : ∃ z, z = lf.length := ⟨_, rfl⟩
        have hz1 : z ≤ j ∧ (ef = 0 → z = j) := hz ▸ HLEN.out
        have HTA := Lib.hid (fun W (hh : Wi Xv W qa p5 ra geo16 s cf lf ka) => Trace_any (by omega) hh)
        have HTB := Lib.hid (fun W (hh : Wi Xc W qb p6 rb geo16 s cf lf kb) => Trace_any (by omega) hh)
        have HSA := Lib.hid (fun W (hh : Wi Xv W qa p5 ra geo16 s cf lf ka) => Sent_any hh)
        unfold OwnsC at HTA HTB
        rw [← hz] at HTA HTB HSA
        have dz : decide ((z : Int) ≤ (j : Int)) = true := decide_eq_true (by omega)
        by_cases he : ef = 0
        · obtain rfl := hz1.2 he
          subst he
          clear hz hz1
          go_wp2_with fail
          refine (HTA.out _ HA2.out).mono ?_
          rintro _ u1 ⟨h1, T1, c1, rfl, r1⟩
          have A1 := Lib.hid (HA2.out.below h1)
          have B1 := Lib.hid (HB2.out.below h1)
          have L1 := Lib.hid (below_step HBL.out h1)
          have R1 := Lib.hid r1
          clear h1 r1 HA2 HB2 HBL
          go_wp2_with fail
          refine (HTB.out _ B1.out).mono ?_
          rintro _ u2 ⟨h2, T2, c2, rfl, r2⟩
          have A2 := Lib.hid (A1.out.below h2)
          have L2 := Lib.hid (below_step L1.out h2)
          have R1 := Lib.hid (R1.out.below h2)
          have R2 := Lib.hid r2
          clear h2 r2 A1 B1 L1
          have HCS := Lib.hid (RefSameC_any T1 T2 z c1 z c2 lf lf _ R1.out R2.out (by omega) (by omega))
          rw [sameC_self] at HCS
          go_wp2_with fail
          refine HCS.out.mono ?_
          rintro _ u3 ⟨rfl, h3⟩
          have A3 := Lib.hid (A2.out.below h3)
          have L3 := Lib.hid (below_step L2.out h3)
          clear h3 HCS R1 R2 A2 L2
          go_wp2_with fail
          refine (HTA.out _ A3.out).mono ?_
          rintro _ u4 ⟨h4, T4, c4, rfl, -⟩
          have A4 := Lib.hid (A3.out.below h4)
          have L4 := Lib.hid (below_step L3.out h4)
          clear h4 A3 L3
          go_wp2_with fail
          refine (HSA.out _ A4.out).mono ?_
          rintro _ u5 ⟨rfl, h5⟩
          have A5 := Lib.hid (A4.out.below h5)
          have L5 := Lib.hid (below_step L4.out h5)
          clear h5 A4 L4
          go_wp2_with fail
          refine (HSA.out _ A5.out).mono ?_
          rintro _ u6 ⟨rfl, h6⟩
          have A6 := Lib.hid (A5.out.below h6)
          have L6 := Lib.hid (below_step L5.out h6)
          clear h6 A5 L5
          go_wp2_with fail
          refine (HSA.out _ A6.out).mono ?_
          rintro _ u7 ⟨rfl, h7⟩
          have L7 := Lib.hid (below_step L6.out h7)
          clear h7 A6 L6
          go_wp2
          go_ret
          exact ⟨rfl, L7.out⟩
        · have b0 : (ef == 0) = false := by rw [beq_eq_false_iff_ne]; exact he
          have n0 : (ef != 0) = true := by simp [he]
          have j0 : (ef = 0) = False := eq_false he
          have dd0 : decide (ef = 0) = false := decide_eq_false he
          have hz2 := hz1.1
          clear hz hz1 he
          go_wp2_with fail
          refine (HTA.out _ HA2.out).mono ?_
          rintro _ u1 ⟨h1, T1, c1, rfl, r1⟩
          have A1 := Lib.hid (HA2.out.below h1)
          have B1 := Lib.hid (HB2.out.below h1)
          have L1 := Lib.hid (below_step HBL.out h1)
          have R1 := Lib.hid r1
          clear h1 r1 HA2 HB2 HBL
          go_wp2_with fail
          refine (HTB.out _ B1.out).mono ?_
          rintro _ u2 ⟨h2, T2, c2, rfl, r2⟩
          have A2 := Lib.hid (A1.out.below h2)
          have L2 := Lib.hid (below_step L1.out h2)
          have R1 := Lib.hid (R1.out.below h2)
          have R2 := Lib.hid r2
          clear h2 r2 A1 B1 L1
          have HCS := Lib.hid (RefSameC_any T1 T2 z c1 z c2 lf lf _ R1.out R2.out (by omega) (by omega))
          rw [sameC_self] at HCS
          go_wp2_with fail
          refine HCS.out.mono ?_
          rintro _ u3 ⟨rfl, h3⟩
          have A3 := Lib.hid (A2.out.below h3)
          have L3 := Lib.hid (below_step L2.out h3)
          clear h3 HCS R1 R2 A2 L2
          go_wp2_with fail
          refine (HTA.out _ A3.out).mono ?_
          rintro _ u4 ⟨h4, T4, c4, rfl, -⟩
          have A4 := Lib.hid (A3.out.below h4)
          have L4 := Lib.hid (below_step L3.out h4)
          clear h4 A3 L3
          go_wp2_with fail
          refine (HSA.out _ A4.out).mono ?_
          rintro _ u5 ⟨rfl, h5⟩
          have A5 := Lib.hid (A4.out.below h5)
          have L5 := Lib.hid (below_step L4.out h5)
          clear h5 A4 L4
          go_wp2_with fail
          refine (HSA.out _ A5.out).mono ?_
          rintro _ u6 ⟨rfl, h6⟩
          have A6 := Lib.hid (A5.out.below h6)
          have L6 := Lib.hid (below_step L5.out h6)
          clear h6 A5 L5
          go_wp2
          go_ret
          exact ⟨rfl, L6.out⟩
end Go.Proofs.YtmdgfnfhajncjaaGreat
