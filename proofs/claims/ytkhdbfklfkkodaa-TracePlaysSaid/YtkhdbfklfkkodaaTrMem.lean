/-
  A recorder in memory: its struct, its own row of cycles, its map of marks; and a slice of what is done to one.
-/
import Derived.Test.YtkhdbfklfkkodaaBtw
import Derived.Test.YtkhdbfklfkkodaaTrMath
import Derived.Maps.OwnSet
import Derived.Maps.Own
import Derived.Deep.Slices
namespace Go.Proofs.Ytkhdbfklfkkodaa
open Go.RowKit

theorem keyed_string : Maps.Keyed Try.prog 9 := Maps.string_keyed Try.underlying9
theorem key_string {s : ByteArray} (hs : s.size ≤ maxLen) : keyOf Try.prog 9 (.string s) = some (.string s.data.toList) := WideMaps.keyOf_string_mk Try.underlying9 hs
theorem zero_int (w : World) : (zeroValue 3).run Try.prog w = .ok (.int .i64 0) w := Try.zeroValue3 w

/-- The map tells the marks. -/
def MapIs (D : DataW Unit) (M : ByteArray → Option Nat) : Prop :=
  Maps.IsMap D ∧ ∀ s : ByteArray, Maps.has D (.string s.data.toList) = (M s).isSome ∧ ∀ x, M s = some x → ∀ z, D.atKey (.string s.data.toList) z = .lit (.int .i64 (x : Int))
theorem key_inj {s t : ByteArray} (h : Lit.string s.data.toList = Lit.string t.data.toList) : s = t := by
  injection h with h
  obtain ⟨⟨a⟩⟩ := s
  obtain ⟨⟨b⟩⟩ := t
  simp only at h
  rw [h]
theorem MapIs.empty : MapIs (.map []) fun _ => none := ⟨Maps.isMap_empty, fun _ => ⟨rfl, fun _ h => by cases h⟩⟩
theorem MapIs.put {D : DataW Unit} {M : ByteArray → Option Nat} (h : MapIs D M) (s : ByteArray) (x : Nat) : MapIs (D.put (.string s.data.toList) (.lit (.int .i64 (x : Int)))) fun t => if t = s then some x else M t := by
  refine ⟨h.1.put _ _, fun t => ?_⟩
  show _ = (if t = s then some x else M t).isSome ∧ ∀ y, (if t = s then some x else M t) = some y → _
  by_cases ht : t = s
  · subst ht
    rw [if_pos rfl]
    refine ⟨Maps.has_put_same h.1 (k := .string t.data.toList) trivial _, fun y hy z => ?_⟩
    simp only [Option.some.injEq] at hy
    subst hy
    exact Maps.atKey_put_same h.1 (k := .string t.data.toList) trivial _ _
  · have hne : Lit.string t.data.toList ≠ Lit.string s.data.toList := fun e => ht (key_inj e)
    rw [if_neg ht, Maps.has_put_other hne]
    refine ⟨(h.2 t).1, fun y hy z => ?_⟩
    rw [Maps.atKey_put_other hne]
    exact (h.2 t).2 y hy z
theorem map_below {w w' : World} {b n : Nat} {D : DataW Unit} (h : w.ownsMap Try.prog 9 (plainElem Try.prog 3) b n D) (hb : Below w.heap.size w w') : w'.ownsMap Try.prog 9 (plainElem Try.prog 3) b n D := by
  obtain ⟨es, clock, h1, r⟩ := h
  exact ⟨es, clock, (hb.block b (Array.getElem?_eq_some_iff.1 h1).1).trans h1, r⟩

theorem map_btw {I : Nat → Prop} {w w' : World} {b n : Nat} {D : DataW Unit} (h : w.ownsMap Try.prog 9 (plainElem Try.prog 3) b n D) (hb : Btw I w w') (hn : ¬ I b) : w'.ownsMap Try.prog 9 (plainElem Try.prog 3) b n D := by
  obtain ⟨es, clock, h1, r⟩ := h
  exact ⟨es, clock, (hb.block b (Array.getElem?_eq_some_iff.1 h1).1 hn).trans h1, r⟩

/-- What a recorder's pointer leads to: the cycles L, the number n of all, the marks M, of at most k keys; I: its blocks. -/
def RecP (w : World) (p : Nat) (I : Nat → Prop) (L : List Cy) (n : Int) (M : ByteArray → Option Nat) (k : Nat) (A : Option Addr) (c b : Nat) (D : DataW Unit) : Prop :=
  CRow w p 41 #[.slice A L.length c, .int .i64 n, .map (some b)] ∧ w.ownsRow 0 38 2 (.slice A L.length c) L.length (CyC L) ∧ (∀ t ∈ L, inC t) ∧
  w.ownsMap Try.prog 9 (plainElem Try.prog 3) b k D ∧ MapIs D M ∧ I p ∧ I b ∧ (∀ j, (Value.slice A L.length c).ownBlock = some j → I j) ∧ (∀ j, I j → j < w.heap.size)
def Rec (w : World) (p : Nat) (I : Nat → Prop) (L : List Cy) (n : Int) (M : ByteArray → Option Nat) (k : Nat) : Prop := ∃ A c b D, RecP w p I L n M k A c b D
section
variable {w w' : World} {p : Nat} {I : Nat → Prop} {L : List Cy} {n : Int} {M : ByteArray → Option Nat} {k : Nat}
theorem Rec.below (h : Rec w p I L n M k) (hb : Below w.heap.size w w') : Rec w' p I L n M k := by
  obtain ⟨A, c, b, D, h1, h2, h3, h4, h5, h6, h7, h8, h9⟩ := h
  exact ⟨A, c, b, D, h1.below hb, own_below2 h2 hb, h3, map_below h4 hb, h5, h6, h7, h8, fun j hj => Nat.lt_of_lt_of_le (h9 j hj) hb.size⟩
theorem Rec.btw {X : Nat → Prop} (h : Rec w p I L n M k) (hb : Btw X w w') (hX : ∀ j, I j → ¬ X j) : Rec w' p I L n M k := by
  obtain ⟨A, c, b, D, h1, h2, h3, h4, h5, h6, h7, h8, h9⟩ := h
  exact ⟨A, c, b, D, h1.btw hb (hX p h6), own_btw2 h2 hb (fun j hj => hX j (h8 j hj)), h3, map_btw h4 hb (hX b h7), h5, h6, h7, h8, fun j hj => Nat.lt_of_lt_of_le (h9 j hj) hb.size⟩
theorem Rec.mono (h : Rec w p I L n M k) {k' : Nat} (hk : k ≤ k') : Rec w p I L n M k' := by
  obtain ⟨A, c, b, D, h1, h2, h3, h4, r⟩ := h
  exact ⟨A, c, b, D, h1, h2, h3, h4.mono hk, r⟩
theorem Rec.in_ (h : Rec w p I L n M k) : ∀ t ∈ L, inC t := by
  obtain ⟨A, c, b, D, _, _, h3, _⟩ := h
  exact h3
theorem Rec.lt (h : Rec w p I L n M k) : ∀ j, I j → j < w.heap.size := by
  obtain ⟨A, c, b, D, _, _, _, _, _, _, _, _, h9⟩ := h
  exact h9
/-- The row's block is none of the others. -/
theorem RecP.apart {A : Option Addr} {c b : Nat} {D : DataW Unit} (h : RecP w p I L n M k A c b D) : p ≠ b ∧ (∀ j, (Value.slice A L.length c).ownBlock = some j → j ≠ p ∧ j ≠ b) := by
  obtain ⟨h1, h2, _, ⟨es, clock, h4, _⟩, _⟩ := h
  have hp := h1.row
  refine ⟨fun e => ?_, fun j hj => ?_⟩
  · subst e
    rw [hp] at h4
    cases h4
  · obtain ⟨_, cur, hc⟩ := own_at2 h2 j hj
    refine ⟨fun e => ?_, fun e => ?_⟩
    · subst e
      rw [hp] at hc
      simp at hc
    · subst e
      rw [hc] at h4
      cases h4
end

/-- The slice at A, of n elements of two cells each (a name; cycles), holds ls. -/
def RD (w : World) (A : Option Addr) (n : Nat) (ls : List Dv) : Prop :=
  ls.length = n ∧ (0 < n → ∃ b off, A = some ⟨b, off, none⟩ ∧ b < w.heap.size ∧ ∀ r d, ls[r]? = some d →
    w.cell? ⟨b, off + r * 2, none⟩ = some (.string d.nm) ∧ w.cell? ⟨b, off + r * 2 + 1, none⟩ = some (.slice d.a d.cs.length d.c) ∧ RC w d.a d.cs.length d.cs ∧ (d.a = none → d.c = 0) ∧ d.nm.size ≤ maxLen ∧ d.cs.length ≤ d.c ∧ d.cs.length ≤ maxLen)
section
variable {w w' : World} {A : Option Addr} {n : Nat} {ls : List Dv}
theorem RD.len (h : RD w A n ls) : ls.length = n := h.1
theorem RD.below (h : RD w A n ls) (hb : Below w.heap.size w w') : RD w' A n ls := ⟨h.1, fun hn => by
  obtain ⟨b, off, e, hlt, hc⟩ := h.2 hn
  refine ⟨b, off, e, Nat.lt_of_lt_of_le hlt hb.size, fun r d hd => ?_⟩
  obtain ⟨c0, c1, h2, h3, h4, h5⟩ := hc r d hd
  exact ⟨(hb.cell (p := ⟨b, off + r * 2, none⟩) hlt).trans c0, (hb.cell (p := ⟨b, off + r * 2 + 1, none⟩) hlt).trans c1, h2.below hb, h3, h4, h5⟩⟩
theorem RD.at_ (h : RD w A n ls) {k : Nat} (hk : k < n) : ∃ b off d, A = some ⟨b, off, none⟩ ∧ b < w.heap.size ∧ Hid (ls[k]? = some d) ∧
    w.cell? ⟨b, off + k * 2, none⟩ = some (.string d.nm) ∧ w.cell? ⟨b, off + k * 2 + 1, none⟩ = some (.slice d.a d.cs.length d.c) ∧ Hid (RC w d.a d.cs.length d.cs) ∧ Hid (d.a = none → d.c = 0) ∧ d.nm.size ≤ maxLen ∧ d.cs.length ≤ d.c ∧ d.cs.length ≤ maxLen := by
  obtain ⟨b, off, e, hb, hc⟩ := h.2 (by omega)
  have hl : k < ls.length := by have := h.1; omega
  have hd : ls[k]? = some ls[k] := List.getElem?_eq_getElem hl
  obtain ⟨c0, c1, h2, h3, h4, h5⟩ := hc k _ hd
  exact ⟨b, off, _, e, hb, hd, c0, c1, h2, h3, h4, h5⟩
theorem RD.row (h : RD w A n ls) {k : Nat} {d : Dv} (hd : ls[k]? = some d) : RC w d.a d.cs.length d.cs := by
  have hk := (List.getElem?_eq_some_iff.1 hd).1
  obtain ⟨b, off, e, hb, hc⟩ := h.2 (by rw [← h.1]; omega)
  exact (hc k d hd).2.2.1
/-- What the frame of a law tells of a slice of what is done. -/
theorem RD.of_dos {a : Option Addr} {len cap : Nat} {S : Nat → ByteArray} {R : Nat → Option Addr} {N C : Nat → Nat} {Z : Nat → Nat → Nat → Int}
    (h : (a = none ∧ len = 0 ∧ cap = 0) ∨
      ∃ x, a = some x ∧ len ≤ cap ∧ cap ≤ maxLen ∧ ∀ r, r < cap → w.cell? (x.add (r * 2)) = some (.string (S r)) ∧ (S r).size ≤ maxLen ∧ w.cell? (x.add (r * 2 + 1)) = some (.slice (R r) (N r) (C r)) ∧
        ((R r = none ∧ N r = 0 ∧ C r = 0) ∨ ∃ y, R r = some y ∧ N r ≤ C r ∧ C r ≤ maxLen ∧ ∀ q, q < C r → ∀ j k, [IntKind.i64, .u8][j]? = some k → w.cell? (y.add (q * 2 + j)) = some (.int k (Z r q j)) ∧ (Lit.int k (Z r q j)).wf = true)) :
    len ≤ 9223372036854775807 ∧ (a = none → cap = 0) ∧ len ≤ cap ∧ ∃ ls, RD w a len ls := by
  rcases h with ⟨rfl, rfl, rfl⟩ | ⟨x, rfl, hl, hm, hc⟩
  · exact ⟨by omega, fun _ => rfl, Nat.le_refl _, [], rfl, fun h => absurd h (by omega)⟩
  · obtain ⟨L, hL⟩ := Go.Deep.choose_lt (α := List Cy) (n := len) (p := fun r l => RC w (R r) (N r) l ∧ (R r = none → C r = 0) ∧ N r ≤ C r ∧ N r ≤ maxLen) (fun r hr => by
      have h1 := (hc r (by omega)).2.2.2
      obtain ⟨_, h3, h4, l, h5⟩ := RC.of_kinds (Z := Z r) h1
      refine ⟨l, h5, h3, h4, ?_⟩
      rcases h1 with ⟨_, h6, _⟩ | ⟨_, _, h6, h7, _⟩
      · omega
      · omega)
    refine ⟨by unfold maxLen at hm; omega, (fun h => by cases h), hl, (List.range len).map fun r => (⟨S r, R r, C r, L r⟩ : Dv), by rw [List.length_map, List.length_range], fun hn => ?_⟩
    obtain ⟨b, off, spot⟩ := x
    have h0 := (hc 0 (by omega)).1
    have hs : spot = none := by simpa [Addr.add] using World.cell?_spot h0
    subst hs
    have hb : b < w.heap.size := by have := World.block_lt_of_cell? w _ h0; simpa [Addr.add] using this
    have e : ∀ j, ((⟨b, off, none⟩ : Addr).add j) = ⟨b, off + j, none⟩ := by intro j; unfold Addr.add; split <;> simp_all
    refine ⟨b, off, rfl, hb, fun r d hd => ?_⟩
    have hr : r < len := by
      have := (List.getElem?_eq_some_iff.1 hd).1
      simpa using this
    rw [List.getElem?_map, List.getElem?_range hr] at hd
    simp only [Option.map_some, Option.some.injEq] at hd
    subst hd
    obtain ⟨c0, c1, c2, _⟩ := hc r (by omega)
    obtain ⟨l1, l2, l3, l4⟩ := hL r hr
    rw [e] at c0 c2
    have hlen := l1.len
    refine ⟨c0, ?_, ?_, l2, c1, ?_, ?_⟩
    · rw [hlen]
      exact c2
    · rw [hlen]
      exact l1
    · rw [hlen]
      exact l3
    · rw [hlen]
      exact l4
theorem RD.some_ (h : RD w A n ls) (hn : 0 < n) : ∃ b off, A = some ⟨b, off, none⟩ := by
  obtain ⟨b, off, e, _⟩ := h.2 hn
  exact ⟨b, off, e⟩
end
end Go.Proofs.Ytkhdbfklfkkodaa
