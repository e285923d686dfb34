/-
  A tag in a block of its own: stored and loaded whole, handed back by value.
-/
import Derived.Laws.ResultCell
import Derived.Laws.CopyOwn
import Derived.Test.YtlnmehcanphmiaaGreatPollEndsJ7
import Derived.Test.YtlnmehcanphmiaaGreatPollEndsJBox
import Derived.Test.YtlnmehcanphmiaaGreatPollEndsJ5
import Derived.Test.YtlnmehcanphmiaaGreatPollEndsJ6
import Derived.Test.YtlnmehcanphmiaaGreatPollEndsJArMath
namespace Go.Proofs.YtlnmehcanphmiaaGreat
open Go.RowKit

/-- The block g holds the tag t, whole. -/
def TRow (w : World) (g : Nat) (u : TypeId) (t : Tg) : Prop := w.heap[g]? = some (.cells #[.int .i64 t.k, .int .i64 t.s, .int .i64 t.q, .int .i64 t.e] u (0, 0))
section
variable {w w' : World} {g : Nat} {u : TypeId} {t : Tg}
theorem TRow.lt (h : TRow w g u t) : g < w.heap.size := (Array.getElem?_eq_some_iff.1 h).1
theorem TRow.row (h : TRow w g u t) : w.heap[g]? = some (.cells #[.int .i64 t.k, .int .i64 t.s, .int .i64 t.q, .int .i64 t.e] u (0, 0)) := h
theorem TRow.below (h : TRow w g u t) (hb : Below w.heap.size w w') : TRow w' g u t := (hb.block g h.lt).trans h
theorem TRow.drew (h : TRow w g u t) : TRow w.drew g u t := h
theorem TRow.new (w : World) (t : Tg) (u : TypeId) : TRow (w.alloc (.cells #[.int .i64 t.k, .int .i64 t.s, .int .i64 t.q, .int .i64 t.e] u)) w.heap.size u t := heap_alloc_new w _
theorem TRow.set (h : TRow w g u t) (t' : Tg) : TRow (w.setRow g #[.int .i64 t'.k, .int .i64 t'.s, .int .i64 t'.q, .int .i64 t'.e]) g u t' := setRow_heap w g _ _ u (0, 0) h
theorem TRow.box (h : TRow w g u t) : TBox w g t := by
  have h' : w.heap[g]? = _ := h
  refine ⟨h.lt, ?_, ?_, ?_, ?_⟩ <;> (rw [cell_of_row w g _ _ u (0, 0) h']; rfl)
theorem TRow.other {g' : Nat} {cs : Array Value} (h : TRow w g u t) (hne : g ≠ g') : TRow (w.setRow g' cs) g u t := (setRow_other w g' g cs hne).trans h
end

end Go.Proofs.YtlnmehcanphmiaaGreat

/-
  Words for memory, of no program: a block whose whole row is known (structs of whatever cells), through calls and stores; a struct out of its block as a result, beside others.
-/
namespace Go.Proofs.YtlnmehcanphmiaaGreat
open Go.RowKit

theorem GBox.setCell_other {w : World} {n : Nat} {g : Gm} (h : GBox w n g) {p : Addr} (hne : n ≠ p.block) (v : Value) : GBox (w.setCell p v) n g := by
  have hc : ∀ j, (w.setCell p v).cell? ⟨n, j, none⟩ = w.cell? ⟨n, j, none⟩ := fun j => World.cell?_of_block (Below.heap_setCell w p v n hne)
  obtain ⟨h0, h1, h2, h3, h4, h5, h6, h7⟩ := h
  exact ⟨by simpa [World.setCell] using h0, (hc _).trans h1, (hc _).trans h2, (hc _).trans h3, (hc _).trans h4, (hc _).trans h5, (hc _).trans h6, (hc _).trans h7⟩
theorem R8.setCell {w : World} {A : Option Addr} {n : Nat} {l : List Nat} (h : R8 w A n l) {p : Addr} (hne : ∀ b off, A = some ⟨b, off, none⟩ → b ≠ p.block) (v : Value) : R8 (w.setCell p v) A n l :=
  ⟨⟨h.1.1, fun hn => by
    obtain ⟨b, off, e, hb, hc⟩ := h.1.2 hn
    exact ⟨b, off, e, by simpa [World.setCell] using hb, fun j hj => (World.cell?_of_block (Below.heap_setCell w p v b (hne b off e))).trans (hc j hj)⟩⟩, h.2⟩
/-- Bytes stay where a block of slices is stored anew. -/
theorem R8.setRow {w : World} {A : Option Addr} {n : Nat} {l : List Nat} (h : R8 w A n l) {g : Nat} {u : TypeId} {cs : Array Value} (hr : CRow w g u cs) (hno : ∀ v ∈ cs, ∀ x, v ≠ .int .u8 x) (cs' : Array Value) : R8 (w.setRow g cs') A n l :=
  ⟨⟨h.1.1, fun hn => by
    obtain ⟨b, off, e, hb, hc⟩ := h.1.2 hn
    have hne : b ≠ g := by
      rintro rfl
      have h0 := hc 0 hn
      rw [hr.cell] at h0
      have hl : 0 < l.length := by have := h.len; omega
      rw [U8, List.getElem?_map, List.getElem?_eq_getElem hl] at h0
      exact hno _ (Array.mem_of_getElem? h0) _ rfl
    exact ⟨b, off, e, by simpa [World.setRow] using hb, fun j hj => (World.cell?_of_block (setRow_other w g b cs' hne)).trans (hc j hj)⟩⟩, h.2⟩
theorem R8.lt_block {w : World} {A : Option Addr} {n : Nat} {l : List Nat} (h : R8 w A n l) (hn : 0 < n) : ∀ b off, A = some ⟨b, off, none⟩ → b < w.heap.size := by
  obtain ⟨b, off, e, hb, _⟩ := h.1.2 hn
  rintro b' off' rfl
  injection e with e
  injection e with e1
  omega
theorem own_block {w : World} {base : Nat} {e : TypeId} {A : Option Addr} {n c : Nat} {xs : List Value} (h : w.ownsRow base e 1 (.slice A n c) n xs) : ∀ b off, A = some ⟨b, off, none⟩ → base ≤ b := by
  rintro b off rfl
  rcases h.2 with ⟨hv, _⟩ | ⟨g, cap, cur, hv, hb, _⟩
  · simp at hv
  · simp at hv
    omega
theorem OwnsB.at_ {e0 : TypeId} {l : List Nat} {w w' : World} {e : Ending} {n : Nat} (h : OwnsB e0 l w e w') (hl : l.length = n) : ∃ A c, e = .returned (.slice A n c) ∧ Hid (w'.ownsRow w.heap.size e0 1 (.slice A n c) n (U8 l)) ∧ Hid (Below w.heap.size w w') := by
  subst hl
  exact h
end Go.Proofs.YtlnmehcanphmiaaGreat

/-
  Words for memory: the landed code's array (its struct, its rows of three cells each, how often each block was erased).
-/
namespace Go.Proofs.YtlnmehcanphmiaaGreat
open Go.RowKit

/-- A row in memory: where its bytes lie (m of them, room for c), and what it stands for. -/
structure Rc where
  a : Option Addr
  m : Nat
  c : Nat
  y : Pg
def Rc.cells (x : Rc) : List Value := [.slice x.a x.m x.c, .int .i64 x.y.n, .bool x.y.t]
def rowF (l : List Rc) (j : Nat) : Option Value := (l[j / 3]?).bind fun x => x.cells[j % 3]?
theorem rowF_at {l : List Rc} {i : Nat} {x : Rc} (h : l[i]? = some x) : rowF l (i * 3) = some (.slice x.a x.m x.c) ∧ rowF l (i * 3 + 1) = some (.int .i64 x.y.n) ∧ rowF l (i * 3 + 2) = some (.bool x.y.t) := by
  unfold rowF
  rw [show i * 3 / 3 = i by omega, show (i * 3 + 1) / 3 = i by omega, show (i * 3 + 2) / 3 = i by omega, h, show i * 3 % 3 = 0 by omega, show (i * 3 + 1) % 3 = 1 by omega, show (i * 3 + 2) % 3 = 2 by omega]
  exact ⟨rfl, rfl, rfl⟩
/-- A row of which one cell is stored. -/
theorem rowF_set {l : List Rc} {i : Nat} {x x' : Rc} (h : l[i]? = some x) (k : Nat) (v : Value) (hk : k < 3) (hx : ∀ j, j < 3 → x'.cells[j]? = if j = k then some v else x.cells[j]?) (j : Nat) (u : Value)
    (hu : rowF (l.set i x') j = some u) : (if j = i * 3 + k then some v else rowF l j) = some u := by
  have hl := (List.getElem?_eq_some_iff.1 h).1
  unfold rowF at hu ⊢
  rw [List.getElem?_set] at hu
  by_cases e : i = j / 3
  · subst e
    rw [if_pos rfl, if_pos hl] at hu
    rw [h]
    have hu2 : x'.cells[j % 3]? = some u := hu
    rw [hx (j % 3) (by omega)] at hu2
    by_cases e2 : j % 3 = k
    · rw [if_pos e2] at hu2
      rw [if_pos (by omega)]
      exact hu2
    · rw [if_neg e2] at hu2
      rw [if_neg (by omega)]
      exact hu2
  · rw [if_neg e] at hu
    rw [if_neg (by omega)]
    exact hu
theorem R8.btw0 {I : Nat → Prop} {w w' : World} {A : Option Addr} {n : Nat} {l : List Nat} (h : R8 w A n l) (hb : Btw I w w') (hi : ∀ b off, A = some ⟨b, off, none⟩ → 0 < n → ¬ I b) : R8 w' A n l := by
  refine ⟨⟨h.1.1, fun hn => ?_⟩, h.2⟩
  obtain ⟨b, off, e, hlt, hc⟩ := h.1.2 hn
  exact ⟨b, off, e, Nat.lt_of_lt_of_le hlt hb.size, fun j hj => (World.cell?_of_block (a := ⟨b, off + j, none⟩) (hb.block b hlt (hi b off e hn))).trans (hc j hj)⟩
/-- Its bytes are there, apart from the blocks of I; or it has none, and is erased. -/
def Rc.there (I : Nat → Prop) (w : World) (N : Nat) (x : Rc) : Prop :=
  x.y.well N ∧ ((x.a = none ∧ x.m = 0 ∧ x.c = 0 ∧ x.y.raw = List.replicate N 255) ∨ (∃ b off, x.a = some ⟨b, off, none⟩ ∧ ¬ I b ∧ x.m = N ∧ N ≤ x.c ∧ R8 w x.a N x.y.raw))
theorem R8.btw {I : Nat → Prop} {w w' : World} {b off n : Nat} {l : List Nat} (h : R8 w (some ⟨b, off, none⟩) n l) (hb : Btw I w w') (hi : ¬ I b) : R8 w' (some ⟨b, off, none⟩) n l := by
  refine ⟨⟨h.1.1, fun hn => ?_⟩, h.2⟩
  obtain ⟨b', off', e, hlt, hc⟩ := h.1.2 hn
  injection e with e
  injection e with e1 e2
  subst e1
  subst e2
  exact ⟨b, off, rfl, Nat.lt_of_lt_of_le hlt hb.size, fun j hj => (World.cell?_of_block (hb.block b hlt hi)).trans (hc j hj)⟩
theorem Rc.there.btw {I J : Nat → Prop} {w w' : World} {N : Nat} {x : Rc} (h : x.there I w N) (hb : Btw J w w') (hJ : ∀ j, J j → I j) : x.there I w' N := by
  obtain ⟨hw, h1 | ⟨b, off, ha, hi, hm, hc, hr⟩⟩ := h
  · exact ⟨hw, .inl h1⟩
  · rw [ha] at hr
    exact ⟨hw, .inr ⟨b, off, ha, hi, hm, hc, ha ▸ hr.btw hb fun h1 => hi (hJ b h1)⟩⟩
theorem Rc.there.read {I : Nat → Prop} {w : World} {N : Nat} {x : Rc} (h : x.there I w N) : (x.a = none ∧ x.m = 0 ∧ x.c = 0 ∧ x.y.raw = List.replicate N 255) ∨ (∃ b off, x.a = some ⟨b, off, none⟩ ∧ x.m = N ∧ N ≤ x.c ∧ Hid (R8 w x.a N x.y.raw)) := by
  obtain ⟨_, h1 | ⟨b, off, ha, _, hm, hc, hr⟩⟩ := h
  · exact .inl h1
  · exact .inr ⟨b, off, ha, hm, hc, hr⟩

/-- An array of the landed code's: its struct is the block p, its rows lie in q, its blocks' erases in r; the blocks of I are no raw page's. -/
structure AR (I : Nat → Prop) (w : World) (p q r : Nat) (g : Gm) (s : St) : Prop where
  ok : g.ok = true
  low : g.raw ≤ 1000
  ip : I p
  iq : I q
  ir : I r
  pq : p ≠ q
  pr : p ≠ r
  qr : q ≠ r
  lt : ∀ j, I j → j < w.heap.size
  blk : CRow w p 100 #[.int .i64 g.p, .int .i64 g.b, .int .i64 g.s, .int .i64 g.c, .int .i64 g.k, .int .i64 g.r, .int .i64 g.q, .slice (some ⟨q, 0, none⟩) (g.b * g.s).toNat (g.b * g.s).toNat, .slice (some ⟨r, 0, none⟩) g.b.toNat g.b.toNat]
  rows : ∃ l : List Rc, s.rows = l.map (·.y) ∧ Cells w q 105 (rowF l) ∧ ∀ x ∈ l, x.there I w g.raw.toNat
  er : Cells w r 3 (fun j => (s.er[j]?).map fun z => .int .i64 z)
  nr : s.rows.length = (g.b * g.s).toNat
  ne : s.er.length = g.b.toNat

/-- Whatever turns no block of I. -/
theorem AR.btw {I J : Nat → Prop} {w w' : World} {p q r : Nat} {g : Gm} {s : St} (h : AR I w p q r g s) (hb : Btw J w w') (hJ : ∀ j, J j → I j ∧ j ≠ p ∧ j ≠ q ∧ j ≠ r) : AR I w' p q r g s := by
  obtain ⟨l, h1, h2, h3⟩ := h.rows
  exact { h with
    lt := fun j hj => Nat.lt_of_lt_of_le (h.lt j hj) hb.size
    blk := h.blk.btw hb fun h4 => (hJ p h4).2.1 rfl
    rows := ⟨l, h1, h2.btw hb fun h4 => (hJ q h4).2.2.1 rfl, fun x hx => (h3 x hx).btw hb fun j hj => (hJ j hj).1⟩
    er := h.er.btw hb fun h4 => (hJ r h4).2.2.2 rfl }
theorem AR.below {I : Nat → Prop} {w w' : World} {p q r : Nat} {g : Gm} {s : St} (h : AR I w p q r g s) (hb : Below w.heap.size w w') : AR I w' p q r g s :=
  h.btw (J := fun _ => False) (Btw.of_below hb) fun _ h => h.elim
/-- Other blocks may be no raw page's too. -/
theorem AR.widen {I I' : Nat → Prop} {w w' : World} {p q r : Nat} {g : Gm} {s : St} (h : AR I w p q r g s) (hb : Below w.heap.size w w') (h1 : ∀ j, I j → I' j) (h2 : ∀ j, I' j → I j ∨ w.heap.size ≤ j) (h3 : ∀ j, I' j → j < w'.heap.size) : AR I' w' p q r g s := by
  obtain ⟨l, e1, e2, e3⟩ := h.rows
  exact { h with
    ip := h1 _ h.ip
    iq := h1 _ h.iq
    ir := h1 _ h.ir
    lt := h3
    blk := h.blk.below hb
    rows := ⟨l, e1, e2.below hb, fun x hx => by
      obtain ⟨hw, h4 | ⟨b, off, ha, hi, hm, hc, hr⟩⟩ := e3 x hx
      · exact ⟨hw, .inl h4⟩
      · refine ⟨hw, .inr ⟨b, off, ha, fun h5 => ?_, hm, hc, hr.below hb⟩⟩
        rcases h2 b h5 with h6 | h6
        · exact hi h6
        · have hn : 0 < g.raw.toNat := by
            have := Gm.bounds_of h.ok
            have e := g.raw
            have e7 : g.raw = g.c * (g.k + 2) + 31 := by unfold Gm.raw; rw [if_pos h.ok]
            have : 0 ≤ g.c * (g.k + 2) := Int.mul_nonneg (by omega) (by omega)
            omega
          have := hr.lt_block hn b off ha
          omega⟩
    er := h.er.below hb }
section
variable {I : Nat → Prop} {w : World} {p q r : Nat} {g : Gm} {s : St}
theorem AR.box (h : AR I w p q r g s) : GBox w p g :=
  ⟨h.blk.lt, h.blk.cell_at 0 _ rfl, h.blk.cell_at 1 _ rfl, h.blk.cell_at 2 _ rfl, h.blk.cell_at 3 _ rfl, h.blk.cell_at 4 _ rfl, h.blk.cell_at 5 _ rfl, h.blk.cell_at 6 _ rfl⟩
theorem AR.c7 (h : AR I w p q r g s) : w.cell? ⟨p, 7, none⟩ = some (.slice (some ⟨q, 0, none⟩) (g.b * g.s).toNat (g.b * g.s).toNat) := h.blk.cell_at 7 _ rfl
theorem AR.c8 (h : AR I w p q r g s) : w.cell? ⟨p, 8, none⟩ = some (.slice (some ⟨r, 0, none⟩) g.b.toNat g.b.toNat) := h.blk.cell_at 8 _ rfl
theorem AR.size (h : AR I w p q r g s) : (2 ≤ g.b ∧ g.b ≤ 256) ∧ (4 ≤ g.s ∧ g.s ≤ 64) ∧ g.raw = g.c * (g.k + 2) + 31 ∧ 31 ≤ g.raw := by
  have h1 := Gm.bounds_of h.ok
  have e7 : g.raw = g.c * (g.k + 2) + 31 := by unfold Gm.raw; rw [if_pos h.ok]
  have : 0 ≤ g.c * (g.k + 2) := Int.mul_nonneg (by omega) (by omega)
  exact ⟨h1.2.1, h1.2.2.1, e7, by omega⟩
end
end Go.Proofs.YtlnmehcanphmiaaGreat
