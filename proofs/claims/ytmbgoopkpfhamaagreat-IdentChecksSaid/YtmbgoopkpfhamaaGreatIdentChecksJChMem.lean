/-
  Words for memory: a slice of turns (three cells each), a script that came in, a teller.
-/
import Derived.Test.YtmbgoopkpfhamaaGreatIdentChecksJGrp
import Derived.Test.YtmbgoopkpfhamaaGreatIdentChecksJ1
import Derived.Test.YtmbgoopkpfhamaaGreatIdentChecksJ5
namespace Go.Proofs.YtmbgoopkpfhamaaGreat
open Go.RowKit
def NC (l : List Tn) : List Value := l.flatMap fun t => [.int .i64 t.r, .int .i64 t.g, .int .i64 t.b]
theorem NC_length (l : List Tn) : (NC l).length = l.length * 3 := by
 induction l with
 | nil => rfl
 | cons t l ih => simp only [NC, List.flatMap_cons, List.length_append, List.length_cons, List.length_nil] at ih ⊢; omega
theorem NC_at {l : List Tn} {k : Nat} {t : Tn} (h : l[k]? = some t) (j : Nat) (hj : j < 3) : (NC l)[k * 3 + j]? = [Value.int .i64 t.r, .int .i64 t.g, .int .i64 t.b][j]? := by
 induction l generalizing k with
 | nil => simp at h
 | cons x l ih =>
  have e : NC (x :: l) = [Value.int .i64 x.r, .int .i64 x.g, .int .i64 x.b] ++ NC l := by simp [NC]
  cases k with
  | zero =>
   simp at h
   subst h
   rw [e, Nat.zero_mul, Nat.zero_add, List.getElem?_append_left (by simpa using hj)]
  | succ k =>
   simp at h
   rw [e, List.getElem?_append_right (by simp; omega), ← ih h]
   congr 1
   simp
   omega
def RN (w : World) (A : Option Addr) (n : Nat) (l : List Tn) : Prop :=
 l.length = n ∧ (∀ t ∈ l, in64 t.r ∧ in64 t.g ∧ in64 t.b) ∧ (0 < n → ∃ b off, A = some ⟨b, off, none⟩ ∧ b < w.heap.size ∧ ∀ j, j < n * 3 → w.cell? ⟨b, off + j, none⟩ = (NC l)[j]?)
section
variable {w w' : World} {A : Option Addr} {n : Nat} {l : List Tn}
theorem RN.len (h : RN w A n l) : l.length = n := h.1
theorem RN.nil_ (w : World) (A : Option Addr) : RN w A 0 [] := ⟨rfl, by simp, fun h => absurd h (by omega)⟩
theorem RN.keep (h : RN w A n l) (hs : w.heap.size ≤ w'.heap.size) (hk : ∀ p : Addr, p.block < w.heap.size → w'.cell? p = w.cell? p) : RN w' A n l :=
 ⟨h.1, h.2.1, fun hn => by
  obtain ⟨b, off, e, hb, hc⟩ := h.2.2 hn
  exact ⟨b, off, e, by omega, fun j hj => (hk _ hb).trans (hc j hj)⟩⟩
theorem RN.below (h : RN w A n l) (hb : Below w.heap.size w w') : RN w' A n l := h.keep hb.size fun _ hp => hb.cell hp
theorem RN.at_ {k : Nat} (h : RN w A n l) (hk : k < n) :
  ∃ b off t, A = some ⟨b, off, none⟩ ∧ b < w.heap.size ∧ Hid (l[k]? = some t) ∧ w.cell? ⟨b, off + k * 3, none⟩ = some (.int .i64 t.r) ∧ w.cell? ⟨b, off + k * 3 + 1, none⟩ = some (.int .i64 t.g) ∧ w.cell? ⟨b, off + k * 3 + 2, none⟩ = some (.int .i64 t.b) ∧ in64 t.r ∧ in64 t.g ∧ in64 t.b := by
 obtain ⟨b, off, e, hb, hc⟩ := h.2.2 (by omega)
 have hl : k < l.length := by have := h.len; omega
 have ht : l[k]? = some l[k] := List.getElem?_eq_getElem hl
 refine ⟨b, off, l[k], e, hb, ht, ?_, ?_, ?_, h.2.1 _ (List.getElem_mem hl)⟩
 ·
  exact (hc (k * 3 + 0) (by omega)).trans (NC_at ht 0 (by omega))
 ·
  exact (hc (k * 3 + 1) (by omega)).trans (NC_at ht 1 (by omega))
 ·
  exact (hc (k * 3 + 2) (by omega)).trans (NC_at ht 2 (by omega))
theorem RN.of_cells {a : Option Addr} {len cap : Nat} {zs : List Int}
  (h : (a = none ∧ len = 0 ∧ cap = 0 ∧ zs = []) ∨
   ∃ x, a = some x ∧ len ≤ cap ∧ cap ≤ maxLen ∧ zs.length = len * 3 ∧ (∀ i, i < zs.length → w.cell? (x.add i) = some (.int .i64 (zs.getD i 0))) ∧ ∀ n ∈ zs, (Lit.int .i64 n).wf = true) :
  len ≤ 9223372036854775807 ∧ (a = none → cap = 0) ∧ ∃ l, RN w a len l := by
 rcases h with ⟨rfl, rfl, rfl, _⟩ | ⟨x, rfl, hl, hm, hz, hc, hw⟩
 ·
  exact ⟨by omega, fun _ => rfl, [], RN.nil_ _ _⟩
 ·
  have hin : ∀ i, in64 (zs.getD i 0) := fun i => by
   by_cases hi : i < zs.length
   ·
    have h0 := hw _ (List.getElem_mem hi)
    have e : zs.getD i 0 = zs[i] := by simp [List.getD, hi]
    rw [e]
    have h1 := h0
    simpa [Lit.wf, IntKind.min, IntKind.max, IntKind.signed, IntKind.bits, in64] using h1
   ·
    rw [show zs.getD i 0 = 0 by simp [List.getD, List.getElem?_eq_none (by omega : zs.length ≤ i)]]
    unfold in64
    omega
  have hlt : NC ((List.range len).map fun i => (⟨zs.getD (i * 3) 0, zs.getD (i * 3 + 1) 0, zs.getD (i * 3 + 2) 0⟩ : Tn)) = zs.map fun z => Value.int .i64 z := by
   apply List.ext_getElem?
   intro j
   by_cases hj : j < len * 3
   ·
    have hk : ((List.range len).map fun i => (⟨zs.getD (i * 3) 0, zs.getD (i * 3 + 1) 0, zs.getD (i * 3 + 2) 0⟩ : Tn))[j / 3]? = some ⟨zs.getD (j / 3 * 3) 0, zs.getD (j / 3 * 3 + 1) 0, zs.getD (j / 3 * 3 + 2) 0⟩ := by
     rw [List.getElem?_map, List.getElem?_range (by omega)]
     rfl
    have h1 := NC_at hk (j % 3) (by omega)
    rw [show j / 3 * 3 + j % 3 = j by omega] at h1
    have hd : (zs.map fun z => Value.int .i64 z)[j]? = some (.int .i64 (zs.getD j 0)) := by
     have hj2 : j < zs.length := by omega
     rw [List.getElem?_map, List.getElem?_eq_getElem hj2]
     simp [hj2]
    rw [h1, hd]
    have h4 : j % 3 = 0 ∨ j % 3 = 1 ∨ j % 3 = 2 := by omega
    rcases h4 with h4 | h4 | h4
    ·
     rw [h4]
     show some (Value.int .i64 (zs.getD (j / 3 * 3) 0)) = _
     rw [show j / 3 * 3 = j by omega]
    ·
     rw [h4]
     show some (Value.int .i64 (zs.getD (j / 3 * 3 + 1) 0)) = _
     rw [show j / 3 * 3 + 1 = j by omega]
    ·
     rw [h4]
     show some (Value.int .i64 (zs.getD (j / 3 * 3 + 2) 0)) = _
     rw [show j / 3 * 3 + 2 = j by omega]
   ·
    rw [List.getElem?_eq_none (by rw [NC_length, List.length_map, List.length_range]; omega), List.getElem?_eq_none (by rw [List.length_map]; omega)]
  refine ⟨by unfold maxLen at hm; omega, (fun h => by cases h), (List.range len).map fun i => (⟨zs.getD (i * 3) 0, zs.getD (i * 3 + 1) 0, zs.getD (i * 3 + 2) 0⟩ : Tn), by rw [List.length_map, List.length_range], fun t ht => ?_, fun hn => ?_⟩
  ·
   obtain ⟨i, _, rfl⟩ := List.mem_map.1 ht
   exact ⟨hin _, hin _, hin _⟩
  ·
   obtain ⟨b, off, spot⟩ := x
   have h0 := hc 0 (by omega)
   have hs : spot = none := by simpa [Addr.add] using World.cell?_spot h0
   subst hs
   have hb : b < w.heap.size := by have := World.block_lt_of_cell? w _ h0; simpa [Addr.add] using this
   refine ⟨b, off, rfl, hb, fun j hj => ?_⟩
   have h1 := hc j (by omega)
   have e : ((⟨b, off, none⟩ : Addr).add j) = ⟨b, off + j, none⟩ := by unfold Addr.add; split <;> simp_all
   rw [e] at h1
   rw [h1, hlt, List.getElem?_map, List.getElem?_eq_getElem (by omega)]
   simp [List.getD, show j < zs.length by omega]
end
structure Sa where
 a1 : Option Addr
 c1 : Nat
 a2 : Option Addr
 c2 : Nat
 a3 : Option Addr
 c3 : Nat
 a4 : Option Addr
 c4 : Nat
 a5 : Option Addr
 c5 : Nat
def Sa.cells (m : Sa) (s : Sc) : Array Value := #[.slice m.a1 s.busy.length m.c1, .slice m.a2 s.fails.length m.c2, .slice m.a3 s.turns.length m.c3, .int .i64 s.cut, .slice m.a4 s.torn.length m.c4, .slice m.a5 s.marked.length m.c5]
def Sa.val (m : Sa) (s : Sc) : Value := .agg (m.cells s)
structure SIn (w : World) (m : Sa) (s : Sc) : Prop where
 busy : R64 w m.a1 s.busy.length s.busy
 fails : R64 w m.a2 s.fails.length s.fails
 turns : RN w m.a3 s.turns.length s.turns
 torn : R8 w m.a4 s.torn.length s.torn
 marked : R64 w m.a5 s.marked.length s.marked
theorem SIn.below {w w' : World} {m : Sa} {s : Sc} (h : SIn w m s) (hb : Below w.heap.size w w') : SIn w' m s := ⟨h.1.below hb, h.2.below hb, h.3.below hb, h.4.below hb, h.5.below hb⟩
structure Sc.short (s : Sc) : Prop where
 busy : s.busy.length ≤ 4096
 fails : s.fails.length ≤ 4096
 turns : s.turns.length ≤ 4096
 torn : s.torn.length ≤ 4096
 marked : s.marked.length ≤ 4096
structure Sc.ok (g : Gm) (s : Sc) : Prop where
 busy : durL s.busy s.busy.length
 fails : ascL s.fails 4611686018427387904 s.fails.length
 turns : trnL s.turns (g.b * g.s) (g.r - 1) (g.raw * 8 - 1) s.turns.length
 cut : -1 ≤ s.cut ∧ s.cut ≤ 16777216
 marked : ascL s.marked (g.b - 1) s.marked.length
def pkey (x : Int × Int) : Value := .agg #[.int .i64 x.1, .int .i64 x.2]
def pin (x : Int × Int) : Prop := in64 x.1 ∧ in64 x.2
theorem place_under : Tryz.prog.underlying 108 = some (.array 2 3) := Tryz.underlying108
theorem place_wide : (match Tryz.prog.underlying 108 with | some (.array _ _) | some (.struct _) => true | _ => false) = true := by rw [place_under]
theorem place_cells : Tryz.prog.cellsOf 108 = 2 := by kernel_rfl
theorem int_cells : Tryz.prog.cellsOf 3 = 1 := by kernel_rfl
theorem laid_out : laidOutB Tryz.prog = true := by kernel_rfl
theorem place_type : (108 : TypeId) < Tryz.prog.types.size := of_decide_eq_true (by kernel_rfl)
theorem place_key : Tryz.prog.keyType 108 = true := by kernel_rfl
theorem place_key2 : Tryz.prog.keyTypeAt 2 108 = true := by kernel_rfl
set_option maxRecDepth 20000 in
theorem pkeys : Keys Tryz.prog 108 pkey pin := by
 refine ⟨deep_law_laid laid_out (m := 2) (by omega) place_type place_key2 place_wide, fun x hx => ?_, fun x y h => ?_⟩
 ·
  obtain ⟨⟨h1, h2⟩, h3, h4⟩ := hx
  have w1 : (Lit.int .i64 x.1).wf = true := by simpa [Lit.wf, IntKind.min, IntKind.max, IntKind.signed, IntKind.bits] using And.intro h1 h2
  have w2 : (Lit.int .i64 x.2).wf = true := by simpa [Lit.wf, IntKind.min, IntKind.max, IntKind.signed, IntKind.bits] using And.intro h3 h4
  have hi := Tryz.underlying3
  have e1 : ∀ d : Nat, Tryz.prog.keyLits (d + 1) 3 [.int .i64 x.1] = some [.int .i64 x.1] := fun d => by
   simp [Program.keyLits, hi, w1]
  have e2 : ∀ d : Nat, Tryz.prog.keyLits (d + 1) 3 [.int .i64 x.2] = some [.int .i64 x.2] := fun d => by
   simp [Program.keyLits, hi, w2]
  have e3 : ∀ d : Nat, Tryz.prog.keyLits (d + 2) 108 [.int .i64 x.1, .int .i64 x.2] = some [.int .i64 x.1, .int .i64 x.2] := fun d => by
   rw [Program.keyLits.eq_def]
   simp [place_cells, int_cells, List.range_succ, e1, e2]
  refine ⟨.string (keyBytes [.int .i64 x.1, .int .i64 x.2]), ?_⟩
  unfold keyOf pkey
  simp only [place_under]
  simp [place_key, Value.formed, place_cells, Value.cells, e3]
 ·
  unfold pkey at h
  simp only [Value.agg.injEq, Array.mk.injEq, List.cons.injEq, Value.int.injEq, true_and, and_true] at h
  exact Prod.ext h.1 h.2
def Tel (w : World) (p lo hi : Nat) (s : Sc) (bz wk : Int) : Prop :=
 lo ≤ p ∧ p < hi ∧ hi ≤ w.heap.size ∧ ∃ w0 : World, w0.heap.size = hi ∧ (∀ j, lo ≤ j → j < hi → j ≠ p → w.heap[j]? = w0.heap[j]?) ∧
  ∃ (A1 : Option Addr) (c1 : Nat) (A2 : Option Addr) (c2 b : Nat) (A3 : Option Addr) (c3 base n : Nat),
   CRow w p 104 #[.slice A1 s.busy.length c1, .slice A2 s.fails.length c2, .map (some b), .slice A3 s.torn.length c3, .int .i64 bz, .int .i64 wk] ∧
   w0.ownsRow lo 3 1 (.slice A1 s.busy.length c1) s.busy.length (I64 s.busy) ∧ w0.ownsRow lo 3 1 (.slice A2 s.fails.length c2) s.fails.length (I64 s.fails) ∧
   w0.ownsRow lo 5 1 (.slice A3 s.torn.length c3) s.torn.length (U8 s.torn) ∧ Grp pkey pin 3 w0 b base n (fun x => I64 (grp s.turns x)) ∧
   (∀ g, (Value.slice A1 s.busy.length c1).ownBlock = some g ∨ (Value.slice A2 s.fails.length c2).ownBlock = some g ∨ (Value.slice A3 s.torn.length c3).ownBlock = some g → g ≠ p) ∧ lo ≤ b ∧ b ≠ p ∧ p < base
theorem Tel.use {w : World} {p lo hi : Nat} {s : Sc} {bz wk : Int} (h : Tel w p lo hi s bz wk) :
  ∃ (A1 : Option Addr) (c1 : Nat) (A2 : Option Addr) (c2 b : Nat) (A3 : Option Addr) (c3 base n : Nat),
   CRow w p 104 #[.slice A1 s.busy.length c1, .slice A2 s.fails.length c2, .map (some b), .slice A3 s.torn.length c3, .int .i64 bz, .int .i64 wk] ∧
   w.ownsRow lo 3 1 (.slice A1 s.busy.length c1) s.busy.length (I64 s.busy) ∧ w.ownsRow lo 3 1 (.slice A2 s.fails.length c2) s.fails.length (I64 s.fails) ∧
   w.ownsRow lo 5 1 (.slice A3 s.torn.length c3) s.torn.length (U8 s.torn) ∧ Grp pkey pin 3 w b base n (fun x => I64 (grp s.turns x)) := by
 obtain ⟨hlo, hhi, hs, w0, h0, hk, A1, c1, A2, c2, b, A3, c3, base, n, hc, o1, o2, o3, hg, hap, hb, hbp, hpb⟩ := h
 have hrow : ∀ {e : TypeId} {v : Value} {m : Nat} {xs : List Value}, w0.ownsRow lo e 1 v m xs → (∀ g, v.ownBlock = some g → g ≠ p) → w.ownsRow lo e 1 v m xs := fun ho hn =>
  own_keep ho fun g hgb hgl => hk g (ho.lt g hgb).1 (by omega) (hn g hgb)
 refine ⟨A1, c1, A2, c2, b, A3, c3, base, n, hc, hrow o1 fun g e => hap g (.inl e), hrow o2 fun g e => hap g (.inr (.inl e)), hrow o3 fun g e => hap g (.inr (.inr e)), hg.keep fun j hj hjb => ?_⟩
 rcases hjb with rfl | hjb
 ·
  exact hk j hb (by omega) hbp
 ·
  exact hk j (by omega) (by omega) (by omega)
theorem Tel.btw {w w' : World} {p lo hi : Nat} {s : Sc} {bz wk : Int} {J : Nat → Prop} (h : Tel w p lo hi s bz wk) (hb : Btw J w w') (hJ : ∀ j, J j → j < lo ∨ hi ≤ j) : Tel w' p lo hi s bz wk := by
 obtain ⟨hlo, hhi, hs, w0, h0, hk, A1, c1, A2, c2, b, A3, c3, base, n, hc, hr⟩ := h
 have hno : ∀ j, lo ≤ j → j < hi → ¬ J j := fun j h1 h2 h3 => by have := hJ j h3; omega
 exact ⟨hlo, hhi, Nat.le_trans hs hb.size, w0, h0, fun j h1 h2 h3 => (hb.block j (by omega) (hno j h1 h2)).trans (hk j h1 h2 h3), A1, c1, A2, c2, b, A3, c3, base, n, hc.btw hb (hno p hlo hhi), hr⟩
theorem Tel.below {w w' : World} {p lo hi : Nat} {s : Sc} {bz wk : Int} (h : Tel w p lo hi s bz wk) (hb : Below w.heap.size w w') : Tel w' p lo hi s bz wk :=
 h.btw (J := fun _ => False) (Btw.of_below hb) (fun _ h => h.elim)
theorem Tel.busy_ {w : World} {p lo hi : Nat} {s : Sc} {bz wk : Int} (h : Tel w p lo hi s bz wk) (z : Int) : Tel (w.setCell ⟨p, 4, none⟩ (.int .i64 z)) p lo hi s z wk := by
 obtain ⟨hlo, hhi, hs, w0, h0, hk, A1, c1, A2, c2, b, A3, c3, base, n, hc, hr⟩ := h
 exact ⟨hlo, hhi, by simpa [World.setCell] using hs, w0, h0, fun j h1 h2 h3 => (Below.heap_setCell w _ _ j h3).trans (hk j h1 h2 h3), A1, c1, A2, c2, b, A3, c3, base, n, hc.setCell 4 (.int .i64 z), hr⟩
theorem Tel.work_ {w : World} {p lo hi : Nat} {s : Sc} {bz wk : Int} (h : Tel w p lo hi s bz wk) (z : Int) : Tel (w.setCell ⟨p, 5, none⟩ (.int .i64 z)) p lo hi s bz z := by
 obtain ⟨hlo, hhi, hs, w0, h0, hk, A1, c1, A2, c2, b, A3, c3, base, n, hc, hr⟩ := h
 exact ⟨hlo, hhi, by simpa [World.setCell] using hs, w0, h0, fun j h1 h2 h3 => (Below.heap_setCell w _ _ j h3).trans (hk j h1 h2 h3), A1, c1, A2, c2, b, A3, c3, base, n, hc.setCell 5 (.int .i64 z), hr⟩
end Go.Proofs.YtmbgoopkpfhamaaGreat
