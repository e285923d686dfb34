/-
  Words for memory: a slice of turns (three cells each), a script that came in, a teller.
-/
import Derived.Test.YtlnmehcanphmiaaGreatPollPartsJGrp
import Derived.Test.YtlnmehcanphmiaaGreatPollPartsJ1
import Derived.Test.YtlnmehcanphmiaaGreatPollPartsJ5
namespace Go.Proofs.YtlnmehcanphmiaaGreat
open Go.RowKit

/-- A list of turns, as cells. -/
def NC (l : List Tn) : List Value := l.flatMap fun t => [.int .i64 t.r, .int .i64 t.g, .int .i64 t.b]
theorem NC_at {l : List Tn} {k : Nat} {t : Tn} (h : l[k]? = some t) (j : Nat) (hj : j < 3) : (NC l)[k * 3 + j]? = [Value.int .i64 t.r, .int .i64 t.g, .int .i64 t.b][j]? := by
  induction l generalizing k with
  | nil => simp at h
  | cons x l ih =>
    have e : NC (x :: l) = [Value.int .i64 x.r, .int .i64 x.g, .int .i64 x.b] ++ NC l := by simp [NC]
    cases k with
    | zero =>
      simp at h
      subst h
      rw [e, Nat.zero_mul, Nat.zero_add, List.getElem?_append_left (by simpa using hj)]
    | succ k =>
      simp at h
      rw [e, List.getElem?_append_right (by simp; omega), ← ih h]
      congr 1
      simp
      omega

/-- The slice at A, of n elements of three cells each, holds the turns l; its block is there. -/
def RN (w : World) (A : Option Addr) (n : Nat) (l : List Tn) : Prop :=
  l.length = n ∧ (∀ t ∈ l, in64 t.r ∧ in64 t.g ∧ in64 t.b) ∧ (0 < n → ∃ b off, A = some ⟨b, off, none⟩ ∧ b < w.heap.size ∧ ∀ j, j < n * 3 → w.cell? ⟨b, off + j, none⟩ = (NC l)[j]?)
section
variable {w w' : World} {A : Option Addr} {n : Nat} {l : List Tn}
theorem RN.len (h : RN w A n l) : l.length = n := h.1
theorem RN.nil_ (w : World) (A : Option Addr) : RN w A 0 [] := ⟨rfl, by simp, fun h => absurd h (by omega)⟩
theorem RN.keep (h : RN w A n l) (hs : w.heap.size ≤ w'.heap.size) (hk : ∀ p : Addr, p.block < w.heap.size → w'.cell? p = w.cell? p) : RN w' A n l :=
  ⟨h.1, h.2.1, fun hn => by
    obtain ⟨b, off, e, hb, hc⟩ := h.2.2 hn
    exact ⟨b, off, e, by omega, fun j hj => (hk _ hb).trans (hc j hj)⟩⟩
theorem RN.below (h : RN w A n l) (hb : Below w.heap.size w w') : RN w' A n l := h.keep hb.size fun _ hp => hb.cell hp
theorem RN.drew (h : RN w A n l) : RN w.drew A n l := h
theorem RN.alloc (h : RN w A n l) (o : Obj) : RN (w.alloc o) A n l := h.keep (by simp) fun p hp => World.cell?_alloc_lt w o p (by omega)
theorem RN.at_ {k : Nat} (h : RN w A n l) (hk : k < n) :
    ∃ b off t, A = some ⟨b, off, none⟩ ∧ b < w.heap.size ∧ Hid (l[k]? = some t) ∧ w.cell? ⟨b, off + k * 3, none⟩ = some (.int .i64 t.r) ∧ w.cell? ⟨b, off + k * 3 + 1, none⟩ = some (.int .i64 t.g) ∧ w.cell? ⟨b, off + k * 3 + 2, none⟩ = some (.int .i64 t.b) ∧ in64 t.r ∧ in64 t.g ∧ in64 t.b := by
  obtain ⟨b, off, e, hb, hc⟩ := h.2.2 (by omega)
  have hl : k < l.length := by have := h.len; omega
  have ht : l[k]? = some l[k] := List.getElem?_eq_getElem hl
  refine ⟨b, off, l[k], e, hb, ht, ?_, ?_, ?_, h.2.1 _ (List.getElem_mem hl)⟩
  · exact (hc (k * 3 + 0) (by omega)).trans (NC_at ht 0 (by omega))
  · exact (hc (k * 3 + 1) (by omega)).trans (NC_at ht 1 (by omega))
  · exact (hc (k * 3 + 2) (by omega)).trans (NC_at ht 2 (by omega))
end

/-- Where a script's lists lie. -/
structure Sa where
  a1 : Option Addr
  c1 : Nat
  a2 : Option Addr
  c2 : Nat
  a3 : Option Addr
  c3 : Nat
  a4 : Option Addr
  c4 : Nat
  a5 : Option Addr
  c5 : Nat
def Sa.cells (m : Sa) (s : Sc) : Array Value := #[.slice m.a1 s.busy.length m.c1, .slice m.a2 s.fails.length m.c2, .slice m.a3 s.turns.length m.c3, .int .i64 s.cut, .slice m.a4 s.torn.length m.c4, .slice m.a5 s.marked.length m.c5]
def Sa.val (m : Sa) (s : Sc) : Value := .agg (m.cells s)
/-- The script s is there. -/
structure SIn (w : World) (m : Sa) (s : Sc) : Prop where
  busy : R64 w m.a1 s.busy.length s.busy
  fails : R64 w m.a2 s.fails.length s.fails
  turns : RN w m.a3 s.turns.length s.turns
  torn : R8 w m.a4 s.torn.length s.torn
  marked : R64 w m.a5 s.marked.length s.marked
theorem SIn.below {w w' : World} {m : Sa} {s : Sc} (h : SIn w m s) (hb : Below w.heap.size w w') : SIn w' m s := ⟨h.1.below hb, h.2.below hb, h.3.below hb, h.4.below hb, h.5.below hb⟩
theorem SIn.drew {w : World} {m : Sa} {s : Sc} (h : SIn w m s) : SIn w.drew m s := h.below (by exact (Below.refl _ _).drew)
/-- The lists are short. -/
structure Sc.short (s : Sc) : Prop where
  busy : s.busy.length ≤ 4096
  fails : s.fails.length ≤ 4096
  turns : s.turns.length ≤ 4096
  torn : s.torn.length ≤ 4096
  marked : s.marked.length ≤ 4096
/-- Right for a geometry. -/
structure Sc.ok (g : Gm) (s : Sc) : Prop where
  busy : durL s.busy s.busy.length
  fails : ascL s.fails 4611686018427387904 s.fails.length
  turns : trnL s.turns (g.b * g.s) (g.r - 1) (g.raw * 8 - 1) s.turns.length
  cut : -1 ≤ s.cut ∧ s.cut ≤ 16777216
  marked : ascL s.marked (g.b - 1) s.marked.length

/-- The place of a turn, as a key. -/
def pkey (x : Int × Int) : Value := .agg #[.int .i64 x.1, .int .i64 x.2]
def pin (x : Int × Int) : Prop := in64 x.1 ∧ in64 x.2
theorem place_under : Tryz.prog.underlying 96 = some (.array 2 3) := Tryz.underlying96
theorem place_wide : (match Tryz.prog.underlying 96 with | some (.array _ _) | some (.struct _) => true | _ => false) = true := by rw [place_under]
theorem place_cells : Tryz.prog.cellsOf 96 = 2 := by kernel_rfl
theorem int_cells : Tryz.prog.cellsOf 3 = 1 := by kernel_rfl
theorem laid_out : laidOutB Tryz.prog = true := by kernel_rfl
theorem place_type : (96 : TypeId) < Tryz.prog.types.size := of_decide_eq_true (by kernel_rfl)
theorem place_key : Tryz.prog.keyType 96 = true := by kernel_rfl
theorem place_key2 : Tryz.prog.keyTypeAt 2 96 = true := by kernel_rfl
set_option maxRecDepth 20000 in
theorem pkeys : Keys Tryz.prog 96 pkey pin := by
  refine ⟨deep_law_laid laid_out (m := 2) (by omega) place_type place_key2 place_wide, fun x hx => ?_, fun x y h => ?_⟩
  · obtain ⟨⟨h1, h2⟩, h3, h4⟩ := hx
    have w1 : (Lit.int .i64 x.1).wf = true := by simpa [Lit.wf, IntKind.min, IntKind.max, IntKind.signed, IntKind.bits] using And.intro h1 h2
    have w2 : (Lit.int .i64 x.2).wf = true := by simpa [Lit.wf, IntKind.min, IntKind.max, IntKind.signed, IntKind.bits] using And.intro h3 h4
    have hi := Tryz.underlying3
    have e1 : ∀ d : Nat, Tryz.prog.keyLits (d + 1) 3 [.int .i64 x.1] = some [.int .i64 x.1] := fun d => by
      simp [Program.keyLits, hi, w1]
    have e2 : ∀ d : Nat, Tryz.prog.keyLits (d + 1) 3 [.int .i64 x.2] = some [.int .i64 x.2] := fun d => by
      simp [Program.keyLits, hi, w2]
    have e3 : ∀ d : Nat, Tryz.prog.keyLits (d + 2) 96 [.int .i64 x.1, .int .i64 x.2] = some [.int .i64 x.1, .int .i64 x.2] := fun d => by
      rw [Program.keyLits.eq_def]
      simp [place_cells, int_cells, List.range_succ, e1, e2]
    refine ⟨.string (keyBytes [.int .i64 x.1, .int .i64 x.2]), ?_⟩
    unfold keyOf pkey
    simp only [place_under]
    simp [place_key, Value.formed, place_cells, Value.cells, e3]
  · unfold pkey at h
    simp only [Value.agg.injEq, Array.mk.injEq, List.cons.injEq, Value.int.injEq, true_and, and_true] at h
    exact Prod.ext h.1 h.2

/-- A teller at p, of a script: how many durations have been asked for, how much work; all that is its own lies from lo to hi. -/
def Tel (w : World) (p lo hi : Nat) (s : Sc) (bz wk : Int) : Prop :=
  lo ≤ p ∧ p < hi ∧ hi ≤ w.heap.size ∧ ∃ w0 : World, w0.heap.size = hi ∧ (∀ j, lo ≤ j → j < hi → j ≠ p → w.heap[j]? = w0.heap[j]?) ∧
    ∃ (A1 : Option Addr) (c1 : Nat) (A2 : Option Addr) (c2 b : Nat) (A3 : Option Addr) (c3 base n : Nat),
      CRow w p 92 #[.slice A1 s.busy.length c1, .slice A2 s.fails.length c2, .map (some b), .slice A3 s.torn.length c3, .int .i64 bz, .int .i64 wk] ∧
      w0.ownsRow lo 3 1 (.slice A1 s.busy.length c1) s.busy.length (I64 s.busy) ∧ w0.ownsRow lo 3 1 (.slice A2 s.fails.length c2) s.fails.length (I64 s.fails) ∧
      w0.ownsRow lo 5 1 (.slice A3 s.torn.length c3) s.torn.length (U8 s.torn) ∧ Grp pkey pin 3 w0 b base n (fun x => I64 (grp s.turns x)) ∧
      (∀ g, (Value.slice A1 s.busy.length c1).ownBlock = some g ∨ (Value.slice A2 s.fails.length c2).ownBlock = some g ∨ (Value.slice A3 s.torn.length c3).ownBlock = some g → g ≠ p) ∧ lo ≤ b ∧ b ≠ p ∧ p < base

/-- What a teller has at hand. -/
theorem Tel.use {w : World} {p lo hi : Nat} {s : Sc} {bz wk : Int} (h : Tel w p lo hi s bz wk) :
    ∃ (A1 : Option Addr) (c1 : Nat) (A2 : Option Addr) (c2 b : Nat) (A3 : Option Addr) (c3 base n : Nat),
      CRow w p 92 #[.slice A1 s.busy.length c1, .slice A2 s.fails.length c2, .map (some b), .slice A3 s.torn.length c3, .int .i64 bz, .int .i64 wk] ∧
      w.ownsRow lo 3 1 (.slice A1 s.busy.length c1) s.busy.length (I64 s.busy) ∧ w.ownsRow lo 3 1 (.slice A2 s.fails.length c2) s.fails.length (I64 s.fails) ∧
      w.ownsRow lo 5 1 (.slice A3 s.torn.length c3) s.torn.length (U8 s.torn) ∧ Grp pkey pin 3 w b base n (fun x => I64 (grp s.turns x)) := by
  obtain ⟨hlo, hhi, hs, w0, h0, hk, A1, c1, A2, c2, b, A3, c3, base, n, hc, o1, o2, o3, hg, hap, hb, hbp, hpb⟩ := h
  have hrow : ∀ {e : TypeId} {v : Value} {m : Nat} {xs : List Value}, w0.ownsRow lo e 1 v m xs → (∀ g, v.ownBlock = some g → g ≠ p) → w.ownsRow lo e 1 v m xs := fun ho hn =>
    own_keep ho fun g hgb hgl => hk g (ho.lt g hgb).1 (by omega) (hn g hgb)
  refine ⟨A1, c1, A2, c2, b, A3, c3, base, n, hc, hrow o1 fun g e => hap g (.inl e), hrow o2 fun g e => hap g (.inr (.inl e)), hrow o3 fun g e => hap g (.inr (.inr e)), hg.keep fun j hj hjb => ?_⟩
  rcases hjb with rfl | hjb
  · exact hk j hb (by omega) hbp
  · exact hk j (by omega) (by omega) (by omega)

/-- Whatever turns no block of the teller's. -/
theorem Tel.btw {w w' : World} {p lo hi : Nat} {s : Sc} {bz wk : Int} {J : Nat → Prop} (h : Tel w p lo hi s bz wk) (hb : Btw J w w') (hJ : ∀ j, J j → j < lo ∨ hi ≤ j) : Tel w' p lo hi s bz wk := by
  obtain ⟨hlo, hhi, hs, w0, h0, hk, A1, c1, A2, c2, b, A3, c3, base, n, hc, hr⟩ := h
  have hno : ∀ j, lo ≤ j → j < hi → ¬ J j := fun j h1 h2 h3 => by have := hJ j h3; omega
  exact ⟨hlo, hhi, Nat.le_trans hs hb.size, w0, h0, fun j h1 h2 h3 => (hb.block j (by omega) (hno j h1 h2)).trans (hk j h1 h2 h3), A1, c1, A2, c2, b, A3, c3, base, n, hc.btw hb (hno p hlo hhi), hr⟩
theorem Tel.below {w w' : World} {p lo hi : Nat} {s : Sc} {bz wk : Int} (h : Tel w p lo hi s bz wk) (hb : Below w.heap.size w w') : Tel w' p lo hi s bz wk :=
  h.btw (J := fun _ => False) (Btw.of_below hb) (fun _ h => h.elim)
/-- The teller's own two counters. -/
theorem Tel.busy_ {w : World} {p lo hi : Nat} {s : Sc} {bz wk : Int} (h : Tel w p lo hi s bz wk) (z : Int) : Tel (w.setCell ⟨p, 4, none⟩ (.int .i64 z)) p lo hi s z wk := by
  obtain ⟨hlo, hhi, hs, w0, h0, hk, A1, c1, A2, c2, b, A3, c3, base, n, hc, hr⟩ := h
  exact ⟨hlo, hhi, by simpa [World.setCell] using hs, w0, h0, fun j h1 h2 h3 => (Below.heap_setCell w _ _ j h3).trans (hk j h1 h2 h3), A1, c1, A2, c2, b, A3, c3, base, n, hc.setCell 4 (.int .i64 z), hr⟩
theorem Tel.work_ {w : World} {p lo hi : Nat} {s : Sc} {bz wk : Int} (h : Tel w p lo hi s bz wk) (z : Int) : Tel (w.setCell ⟨p, 5, none⟩ (.int .i64 z)) p lo hi s bz z := by
  obtain ⟨hlo, hhi, hs, w0, h0, hk, A1, c1, A2, c2, b, A3, c3, base, n, hc, hr⟩ := h
  exact ⟨hlo, hhi, by simpa [World.setCell] using hs, w0, h0, fun j h1 h2 h3 => (Below.heap_setCell w _ _ j h3).trans (hk j h1 h2 h3), A1, c1, A2, c2, b, A3, c3, base, n, hc.setCell 5 (.int .i64 z), hr⟩
end Go.Proofs.YtlnmehcanphmiaaGreat
