/-
  Words for memory, of no program: a block whose whole row is known (structs of whatever cells), through calls and stores.
-/
import Derived.Laws.ResultCell
import Derived.Laws.CopyOwn
import Derived.Laws.IdiomCopy
import Derived.Test.YtmbgoopkpfhamaaGreatIdentChecksJ3
import Derived.Test.YtmbgoopkpfhamaaGreatIdentChecksJ4
namespace Go.Proofs.YtmbgoopkpfhamaaGreat
open Go.RowKit
theorem wpList_store_at {P : Program} {ops : Array Oper} {rest : List Oper} {o : Oper} {a : Act} {w : World} {Q : Exit → Act → World → Prop} (hg : o.guard = none) (t : TypeId) (x y : Operand) (ho : o.op = .store t x y) (n : Nat)
  (hi : (P.info? t).map (·.size) = some n) (cells : Array Value) (g : Nat) (hx : a.eval x = .pointer (some ⟨g, 0, none⟩)) (hy : a.eval y = .agg cells) (old : Array Value) (hh : w.heap[g]? = some (.cells old t (0, 0))) (hn : cells.size = n)
  (hold : old.size = n) (h1 : cells.all (·.oneCell') = true) (h : wpList P ops Q rest (a.put o.dst undef) (w.setRow g cells)) : wpList P ops Q (o :: rest) a w := by
 subst hn
 exact wpList_plain hg fun _ hK => wp_store_row t x y ho g cells hx hy t old hh hi hold h1 (hK _ _ h)
def CRow (w : World) (g : Nat) (u : TypeId) (cs : Array Value) : Prop := w.heap[g]? = some (.cells cs u (0, 0))
section
variable {w w' : World} {g : Nat} {u : TypeId} {cs : Array Value}
theorem CRow.lt (h : CRow w g u cs) : g < w.heap.size := (Array.getElem?_eq_some_iff.1 h).1
theorem CRow.row (h : CRow w g u cs) : w.heap[g]? = some (.cells cs u (0, 0)) := h
theorem CRow.below (h : CRow w g u cs) (hb : Below w.heap.size w w') : CRow w' g u cs := (hb.block g h.lt).trans h
theorem CRow.drew (h : CRow w g u cs) : CRow w.drew g u cs := h
theorem CRow.new (w : World) (cs : Array Value) (u : TypeId) : CRow (w.alloc (.cells cs u)) w.heap.size u cs := heap_alloc_new w _
theorem CRow.alloc (h : CRow w g u cs) (o : Obj) : CRow (w.alloc o) g u cs := h.below (below_new w o)
theorem CRow.set (h : CRow w g u cs) (cs' : Array Value) : CRow (w.setRow g cs') g u cs' := setRow_heap w g _ _ u (0, 0) h
theorem CRow.other {g' : Nat} {cs' : Array Value} (h : CRow w g u cs) (hne : g ≠ g') : CRow (w.setRow g' cs') g u cs := (setRow_other w g' g cs' hne).trans h
theorem CRow.cell (h : CRow w g u cs) (j : Nat) : w.cell? ⟨g, j, none⟩ = cs[j]? := by
 exact cell_of_row w g _ _ u (0, 0) h
theorem CRow.cell_at (h : CRow w g u cs) (j : Nat) (v : Value) (hv : cs[j]? = some v) : w.cell? ⟨g, j, none⟩ = some v := (h.cell j).trans hv
end
theorem CRow.frozen {w : World} {g : Nat} {u : TypeId} {cs : Array Value} (h : CRow w g u cs) (j : Nat) : w.frozen? ⟨g, j, none⟩ = false := by
 unfold World.frozen?
 simp only
 rw [h.row]
 simp
theorem CRow.setCell {w : World} {g : Nat} {u : TypeId} {cs : Array Value} (h : CRow w g u cs) (j : Nat) (v : Value) : CRow (w.setCell ⟨g, j, none⟩ v) g u (cs.setIfInBounds j v) := by
 unfold CRow World.setCell
 simp only [Option.isSome_none, Bool.false_eq_true, if_false]
 rw [Array.getElem?_modify, if_pos rfl, h.row]
 rfl
theorem CRow.setCell_other {w : World} {g : Nat} {u : TypeId} {cs : Array Value} (h : CRow w g u cs) {p : Addr} (hne : g ≠ p.block) (v : Value) : CRow (w.setCell p v) g u cs := (Below.heap_setCell w p v g hne).trans h
structure Btw (I : Nat → Prop) (w w' : World) : Prop where
 os : w'.os = w.os
 tape : w'.tape = w.tape
 output : w'.output = w.output
 size : w.heap.size ≤ w'.heap.size
 block : ∀ k, k < w.heap.size → ¬ I k → w'.heap[k]? = w.heap[k]?
section
variable {I : Nat → Prop} {w w' w'' : World}
theorem Btw.of_below (h : Below w.heap.size w w') : Btw I w w' := ⟨h.os, h.tape, h.output, h.size, fun k hk _ => h.block k hk⟩
theorem Btw.refl (w : World) : Btw I w w := .of_below (.refl _ _)
theorem Btw.trans {J : Nat → Prop} (h : Btw I w w') (k : Btw J w' w'') (hJ : ∀ j, j < w.heap.size → J j → I j) : Btw I w w'' :=
 ⟨k.os.trans h.os, k.tape.trans h.tape, k.output.trans h.output, Nat.le_trans h.size k.size, fun j hj hn => (k.block j (Nat.lt_of_lt_of_le hj h.size) (fun h1 => hn (hJ j hj h1))).trans (h.block j hj hn)⟩
theorem Btw.of_grown {row : Option Nat} (h : w.grownBy w' row) (hI : ∀ k, row = some k → I k) : Btw I w w' := by
 have hb := (Below.refl 0 w).grown h (Nat.zero_le _) (fun _ _ => Nat.zero_le _)
 exact ⟨hb.os, hb.tape, hb.output, hb.size, fun k hk hn => h.block k hk (fun e => hn (hI k e.symm))⟩
theorem Btw.below {S : Nat} (h : Btw I w w') (hI : ∀ k, I k → S ≤ k) (hS : S ≤ w.heap.size) : Below S w w' := ⟨h.os, h.tape, h.output, h.size, fun k hk => h.block k (by omega) (fun h1 => by have := hI k h1; omega)⟩
theorem Btw.drew (h : Btw I w w') : Btw I w w'.drew := ⟨h.os, h.tape, h.output, h.size, h.block⟩
theorem Btw.setRow {g : Nat} {cs : Array Value} (h : Btw I w w') (hg : I g) : Btw I w (w'.setRow g cs) :=
 h.trans (J := fun k => k = g) ⟨rfl, rfl, rfl, by simp [World.setRow], fun k _ hn => setRow_other w' g k cs hn⟩ (fun _ _ e => e ▸ hg)
theorem Btw.setCell {p : Addr} {v : Value} (h : Btw I w w') (hg : I p.block) : Btw I w (w'.setCell p v) :=
 h.trans (J := fun k => k = p.block) ⟨rfl, rfl, rfl, by simp [World.setCell], fun k _ hn => Below.heap_setCell w' p v k hn⟩ (fun _ _ e => e ▸ hg)
theorem own_btw2 {base : Nat} {e : TypeId} {v : Value} {n : Nat} {xs : List Value} (h : w.ownsRow base e 2 v n xs) (hb : Btw I w w') (hv : ∀ k, v.ownBlock = some k → ¬ I k) : w'.ownsRow base e 2 v n xs := by
 refine ⟨h.1, ?_⟩
 rcases h.2 with h0 | ⟨g, cap, cur, rfl, hbase, hg, hr⟩
 ·
  exact .inl h0
 ·
  exact .inr ⟨g, cap, cur, rfl, hbase, (hb.block g (Array.getElem?_eq_some_iff.1 hg).1 (hv g rfl)).trans hg, hr⟩
theorem CRow.btw {g : Nat} {u : TypeId} {cs : Array Value} (h : CRow w g u cs) (hb : Btw I w w') (hg : ¬ I g) : CRow w' g u cs := (hb.block g h.lt hg).trans h
theorem own_at2 {base : Nat} {e : TypeId} {v : Value} {n : Nat} {xs : List Value} (h : w.ownsRow base e 2 v n xs) : ∀ k, v.ownBlock = some k → base ≤ k ∧ ∃ cur : Array Value, w.heap[k]? = some (.cells cur e (0, 0)) := by
 intro k hk
 rcases h.2 with ⟨rfl, _⟩ | ⟨g, cap, cur, rfl, hbase, hg, _⟩
 ·
  cases hk
 ·
  simp only [Value.ownBlock, Option.some.injEq] at hk
  subst hk
  exact ⟨hbase, cur, hg⟩
end
def Cells (w : World) (g : Nat) (u : TypeId) (f : Nat → Option Value) : Prop := ∃ cur : Array Value, CRow w g u cur ∧ ∀ j v, f j = some v → cur[j]? = some v
section
variable {w w' : World} {g : Nat} {u : TypeId} {f f' : Nat → Option Value}
theorem Cells.lt (h : Cells w g u f) : g < w.heap.size := by obtain ⟨_, hc, _⟩ := h; exact hc.lt
theorem Cells.cell (h : Cells w g u f) {j : Nat} {v : Value} (hv : f j = some v) : w.cell? ⟨g, j, none⟩ = some v := by
 obtain ⟨_, hc, hk⟩ := h
 exact hc.cell_at j v (hk j v hv)
theorem Cells.frozen (h : Cells w g u f) (j : Nat) : w.frozen? ⟨g, j, none⟩ = false := by
 obtain ⟨_, hc, _⟩ := h
 exact hc.frozen j
theorem Cells.btw {I : Nat → Prop} (h : Cells w g u f) (hb : Btw I w w') (hg : ¬ I g) : Cells w' g u f := by
 obtain ⟨cur, hc, hk⟩ := h
 exact ⟨cur, hc.btw hb hg, hk⟩
theorem Cells.below (h : Cells w g u f) (hb : Below w.heap.size w w') : Cells w' g u f := h.btw (I := fun _ => False) (Btw.of_below hb) (fun h => h)
theorem Cells.sub (h : Cells w g u f) (hs : ∀ j v, f' j = some v → f j = some v) : Cells w g u f' := by
 obtain ⟨cur, hc, hk⟩ := h
 exact ⟨cur, hc, fun j v hv => hk j v (hs j v hv)⟩
theorem Cells.of_row {cs : Array Value} (h : CRow w g u cs) : Cells w g u (fun j => cs[j]?) := ⟨cs, h, fun _ _ hv => hv⟩
theorem Cells.other (h : Cells w g u f) {p : Addr} (hne : g ≠ p.block) (v : Value) : Cells (w.setCell p v) g u f := by
 obtain ⟨cur, hc, hk⟩ := h
 exact ⟨cur, hc.setCell_other hne v, hk⟩
theorem Cells.set (h : Cells w g u f) {j : Nat} {v0 : Value} (h0 : f j = some v0) (v : Value) : Cells (w.setCell ⟨g, j, none⟩ v) g u (fun i => if i = j then some v else f i) := by
 obtain ⟨cur, hc, hk⟩ := h
 have hlt : j < cur.size := (Array.getElem?_eq_some_iff.1 (hk j v0 h0)).1
 refine ⟨_, hc.setCell j v, fun i x hx => ?_⟩
 have hx : (if i = j then some v else f i) = some x := hx
 rw [Array.getElem?_setIfInBounds]
 by_cases hi : i = j
 ·
  subst hi
  rw [if_pos rfl] at hx
  rw [if_pos rfl, if_pos hlt, hx]
 ·
  rw [if_neg hi] at hx
  rw [if_neg (fun e => hi e.symm)]
  exact hk i x hx
end
theorem Cells.setCells {g : Nat} {u : TypeId} : ∀ (vs : List Value) (o : Nat) {w : World} {f : Nat → Option Value}, Cells w g u f → (∀ j, j < vs.length → (f (o + j)).isSome = true) →
  Cells (w.setCells g o vs) g u (fun i => if o ≤ i ∧ i < o + vs.length then vs[i - o]? else f i)
 | [], o, w, f, h, _ => h.sub fun j v hv => by
   rw [if_neg (by simp only [List.length_nil]; omega)] at hv
   exact hv
 | v :: r, o, w, f, h, hs => by
   obtain ⟨v0, hv0⟩ := Option.isSome_iff_exists.1 (hs 0 (by simp))
   have h1 := h.set (by simpa using hv0) v
   have h2 := Cells.setCells r (o + 1) h1 (fun j hj => by
    by_cases e : o + 1 + j = o
    ·
     omega
    ·
     simp only [if_neg e]
     have := hs (j + 1) (by simpa using hj)
     rwa [show o + (j + 1) = o + 1 + j by omega] at this)
   refine Cells.sub h2 fun i x hx => ?_
   have hx : (if o ≤ i ∧ i < o + (v :: r).length then (v :: r)[i - o]? else f i) = some x := hx
   show (if o + 1 ≤ i ∧ i < o + 1 + r.length then r[i - (o + 1)]? else (if i = o then some v else f i)) = some x
   simp only [List.length_cons] at hx
   by_cases hi : i = o
   ·
    subst hi
    rw [if_pos (by omega)] at hx
    rw [if_neg (by omega), if_pos rfl]
    simpa using hx
   ·
    by_cases h3 : o ≤ i ∧ i < o + (r.length + 1)
    ·
     rw [if_pos h3] at hx
     rw [if_pos (by omega)]
     obtain ⟨k, rfl⟩ : ∃ k, i = o + 1 + k := ⟨i - (o + 1), by omega⟩
     rw [show o + 1 + k - o = k + 1 by omega] at hx
     rw [show o + 1 + k - (o + 1) = k by omega]
     simpa using hx
    ·
     rw [if_neg h3] at hx
     rw [if_neg (by omega), if_neg hi]
     exact hx
theorem Btw.setCells {I : Nat → Prop} {g : Nat} (hg : I g) {w : World} : ∀ (vs : List Value) (o : Nat) {w' : World}, Btw I w w' → Btw I w (w'.setCells g o vs)
 | [], _, _, h => h
 | v :: r, o, _, h => Btw.setCells hg r (o + 1) (h.setCell (p := ⟨g, o, none⟩) (v := v) hg)
theorem Cells.own {w : World} {base k : Nat} {e : TypeId} {A : Option Addr} {n c : Nat} {xs : List Value} (h : w.ownsRow base e k (.slice A n c) n xs) (hn : 0 < n) :
  ∃ g, A = some ⟨g, 0, none⟩ ∧ base ≤ g ∧ n ≤ c ∧ Cells w g e (fun j => xs[j]?) := by
 rcases h.2 with ⟨_, h0⟩ | ⟨g, cap, cur, hv, hb, hg, h1, _, _, hx⟩
 ·
  omega
 ·
  injection hv with e1 _ e3
  subst e1
  subst e3
  refine ⟨g, rfl, hb, h1, cur, hg, fun j v hj => ?_⟩
  have hj : xs[j]? = some v := hj
  rw [← hx, List.getElem?_take] at hj
  split at hj
  ·
   simpa using hj
  ·
   cases hj
theorem R8.put {w : World} {g n : Nat} {l : List Nat} (h : R8 w (some ⟨g, 0, none⟩) n l) (j x : Nat) (hx : x < 256) : R8 (w.setCell ⟨g, j, none⟩ (.int .u8 (x : Int))) (some ⟨g, 0, none⟩) n (l.set j x) := by
 have hl := h.len
 refine ⟨⟨by simp [U8, hl], fun hn => ?_⟩, fun y hy => ?_⟩
 ·
  obtain ⟨b, off, e, hb, hc⟩ := h.1.2 hn
  injection e with e
  injection e with e1 e2
  subst e1
  subst e2
  refine ⟨g, 0, rfl, by simpa [World.setCell] using hb, fun i hi => ?_⟩
  have h0 := hc i hi
  rw [Nat.zero_add] at h0 ⊢
  by_cases hij : i = j
  ·
   subst hij
   have h1 : (w.cell? ⟨g, i, none⟩).isSome = true := by rw [h0, U8, List.getElem?_map, List.getElem?_eq_getElem (by omega)]; rfl
   rw [World.cell?_setCell_same' w _ _ h1, U8, List.getElem?_map, List.getElem?_set]
   simp [show i < l.length by omega]
  ·
   rw [show (w.setCell ⟨g, j, none⟩ (.int .u8 (x : Int))).cell? ⟨g, i, none⟩ = w.cell? ⟨g, i, none⟩ from World.cell?_setCell_other _ _ _ _ (by intro e; injection e with _ e; exact hij e.symm), h0, U8, U8, List.getElem?_map, List.getElem?_map, List.getElem?_set, if_neg (fun e => hij e.symm)]
 ·
  rcases List.mem_or_eq_of_mem_set hy with h1 | h1
  ·
   exact h.2 y h1
  ·
   omega
theorem own_rebase {w : World} {base base' : Nat} {e : TypeId} {v : Value} {n : Nat} {xs : List Value} (h : w.ownsRow base e 1 v n xs) (hb : base' ≤ base) : w.ownsRow base' e 1 v n xs := by
 refine ⟨h.1, ?_⟩
 rcases h.2 with h1 | ⟨g, cap, cur, hv, hg, hr⟩
 ·
  exact .inl h1
 ·
  exact .inr ⟨g, cap, cur, hv, Nat.le_trans hb hg, hr⟩
theorem own_btw1 {w w' : World} {J : Nat → Prop} {base : Nat} {e : TypeId} {v : Value} {n : Nat} {xs : List Value} (h : w.ownsRow base e 1 v n xs) (hb : Btw J w w') (hn : ∀ g, v.ownBlock = some g → ¬ J g) : w'.ownsRow base e 1 v n xs := by
 refine ⟨h.1, ?_⟩
 rcases h.2 with h0 | ⟨g, cap, cur, rfl, hbase, hg, hr⟩
 ·
  exact .inl h0
 ·
  exact .inr ⟨g, cap, cur, rfl, hbase, (hb.block g (Array.getElem?_eq_some_iff.1 hg).1 (hn g rfl)).trans hg, hr⟩
theorem own_row {w : World} {base : Nat} {e : TypeId} {v : Value} {n : Nat} {xs : List Value} (h : w.ownsRow base e 1 v n xs) {g : Nat} (hg : v.ownBlock = some g) : ∃ cur : Array Value, w.heap[g]? = some (.cells cur e (0, 0)) := by
 rcases h.2 with ⟨rfl, _⟩ | ⟨g', cap, cur, rfl, _, hh, _⟩
 ·
  cases hg
 ·
  simp only [Value.ownBlock, Option.some.injEq] at hg
  subst hg
  exact ⟨cur, hh⟩
theorem own_ne {w : World} {base : Nat} {e u : TypeId} {v : Value} {n g' : Nat} {xs : List Value} {cs : Array Value} (h : w.ownsRow base e 1 v n xs) (hc : CRow w g' u cs) (hu : u ≠ e) : ∀ g, v.ownBlock = some g → g ≠ g' := by
 rintro g hg rfl
 obtain ⟨cur, hh⟩ := own_row h hg
 rw [hc.row] at hh
 simp only [Option.some.injEq, Obj.cells.injEq] at hh
 exact hu hh.2.1
theorem own_ne2 {w : World} {base base' : Nat} {e e' : TypeId} {v v' : Value} {n n' : Nat} {xs xs' : List Value} (h : w.ownsRow base e 1 v n xs) (h' : w.ownsRow base' e' 1 v' n' xs') (hu : e' ≠ e) : ∀ g, v.ownBlock = some g → ¬ v'.ownBlock = some g := by
 intro g hg hg'
 obtain ⟨cur, hh⟩ := own_row h hg
 obtain ⟨cur', hh'⟩ := own_row h' hg'
 rw [hh'] at hh
 simp only [Option.some.injEq, Obj.cells.injEq] at hh
 exact hu hh.2.1
theorem own_low {w : World} {base : Nat} {e : TypeId} {v : Value} {n : Nat} {xs : List Value} (h : w.ownsRow base e 1 v n xs) : ∀ g, v.ownBlock = some g → base ≤ g ∧ g < w.heap.size := by
 intro g hg
 rcases h.2 with ⟨rfl, _⟩ | ⟨g', cap, cur, rfl, hb, hh, _⟩
 ·
  cases hg
 ·
  simp only [Value.ownBlock, Option.some.injEq] at hg
  subst hg
  exact ⟨hb, (Array.getElem?_eq_some_iff.1 hh).1⟩
theorem Cells.ne {w : World} {a b : Nat} {u u' : TypeId} {f f' : Nat → Option Value} (h : Cells w a u f) (h' : Cells w b u' f') (hu : u ≠ u') : a ≠ b := by
 rintro rfl
 obtain ⟨_, hc, _⟩ := h
 obtain ⟨_, hc', _⟩ := h'
 have e := hc.row.symm.trans hc'.row
 injection e with e
 injection e with _ e
 exact hu e
end Go.Proofs.YtmbgoopkpfhamaaGreat
