/-
  A recorder in memory: its struct, its own row of cycles, its map of marks; and a slice of what is done to one.
-/
import Derived.Maps.OwnSet
import Derived.Maps.Own
import Derived.Deep.Slices
import Derived.Test.YtmbgoopkpfhamaaGreatIdentChecksJ5
import Derived.Test.YtmbgoopkpfhamaaGreatIdentChecksJ11
import Derived.Test.YtmbgoopkpfhamaaGreatIdentChecksJ2
import Derived.Test.YtmbgoopkpfhamaaGreatIdentChecksJ7
namespace Go.Proofs.YtmbgoopkpfhamaaGreat
open Go.RowKit
theorem keyed_string : Maps.Keyed Tryz.prog 9 := Maps.string_keyed Tryz.underlying9
theorem key_string {s : ByteArray} (hs : s.size ≤ maxLen) : keyOf Tryz.prog 9 (.string s) = some (.string s.data.toList) := WideMaps.keyOf_string_mk Tryz.underlying9 hs
def MapIs (D : DataW Unit) (M : ByteArray → Option Nat) : Prop :=
 Maps.IsMap D ∧ ∀ s : ByteArray, Maps.has D (.string s.data.toList) = (M s).isSome ∧ ∀ x, M s = some x → ∀ z, D.atKey (.string s.data.toList) z = .lit (.int .i64 (x : Int))
theorem key_inj {s t : ByteArray} (h : Lit.string s.data.toList = Lit.string t.data.toList) : s = t := by
 injection h with h
 obtain ⟨⟨a⟩⟩ := s
 obtain ⟨⟨b⟩⟩ := t
 simp only at h
 rw [h]
theorem MapIs.empty : MapIs (.map []) fun _ => none := ⟨Maps.isMap_empty, fun _ => ⟨rfl, fun _ h => by cases h⟩⟩
theorem MapIs.put {D : DataW Unit} {M : ByteArray → Option Nat} (h : MapIs D M) (s : ByteArray) (x : Nat) : MapIs (D.put (.string s.data.toList) (.lit (.int .i64 (x : Int)))) fun t => if t = s then some x else M t := by
 refine ⟨h.1.put _ _, fun t => ?_⟩
 show _ = (if t = s then some x else M t).isSome ∧ ∀ y, (if t = s then some x else M t) = some y → _
 by_cases ht : t = s
 ·
  subst ht
  rw [if_pos rfl]
  refine ⟨Maps.has_put_same h.1 (k := .string t.data.toList) trivial _, fun y hy z => ?_⟩
  simp only [Option.some.injEq] at hy
  subst hy
  exact Maps.atKey_put_same h.1 (k := .string t.data.toList) trivial _ _
 ·
  have hne : Lit.string t.data.toList ≠ Lit.string s.data.toList := fun e => ht (key_inj e)
  rw [if_neg ht, Maps.has_put_other hne]
  refine ⟨(h.2 t).1, fun y hy z => ?_⟩
  rw [Maps.atKey_put_other hne]
  exact (h.2 t).2 y hy z
theorem map_below {w w' : World} {b n : Nat} {D : DataW Unit} (h : w.ownsMap Tryz.prog 9 (plainElem Tryz.prog 3) b n D) (hb : Below w.heap.size w w') : w'.ownsMap Tryz.prog 9 (plainElem Tryz.prog 3) b n D := by
 obtain ⟨es, clock, h1, r⟩ := h
 exact ⟨es, clock, (hb.block b (Array.getElem?_eq_some_iff.1 h1).1).trans h1, r⟩
theorem map_btw {I : Nat → Prop} {w w' : World} {b n : Nat} {D : DataW Unit} (h : w.ownsMap Tryz.prog 9 (plainElem Tryz.prog 3) b n D) (hb : Btw I w w') (hn : ¬ I b) : w'.ownsMap Tryz.prog 9 (plainElem Tryz.prog 3) b n D := by
 obtain ⟨es, clock, h1, r⟩ := h
 exact ⟨es, clock, (hb.block b (Array.getElem?_eq_some_iff.1 h1).1 hn).trans h1, r⟩
def RecP (w : World) (p : Nat) (I : Nat → Prop) (L : List Cy) (n : Int) (M : ByteArray → Option Nat) (k : Nat) (A : Option Addr) (c b : Nat) (D : DataW Unit) : Prop :=
 CRow w p 120 #[.slice A L.length c, .int .i64 n, .map (some b)] ∧ w.ownsRow 0 93 2 (.slice A L.length c) L.length (CyC L) ∧ (∀ t ∈ L, inC t) ∧
 w.ownsMap Tryz.prog 9 (plainElem Tryz.prog 3) b k D ∧ MapIs D M ∧ I p ∧ I b ∧ (∀ j, (Value.slice A L.length c).ownBlock = some j → I j) ∧ (∀ j, I j → j < w.heap.size)
def Rec (w : World) (p : Nat) (I : Nat → Prop) (L : List Cy) (n : Int) (M : ByteArray → Option Nat) (k : Nat) : Prop := ∃ A c b D, RecP w p I L n M k A c b D
section
variable {w w' : World} {p : Nat} {I : Nat → Prop} {L : List Cy} {n : Int} {M : ByteArray → Option Nat} {k : Nat}
theorem Rec.below (h : Rec w p I L n M k) (hb : Below w.heap.size w w') : Rec w' p I L n M k := by
 obtain ⟨A, c, b, D, h1, h2, h3, h4, h5, h6, h7, h8, h9⟩ := h
 exact ⟨A, c, b, D, h1.below hb, own_below2 h2 hb, h3, map_below h4 hb, h5, h6, h7, h8, fun j hj => Nat.lt_of_lt_of_le (h9 j hj) hb.size⟩
theorem Rec.btw {X : Nat → Prop} (h : Rec w p I L n M k) (hb : Btw X w w') (hX : ∀ j, I j → ¬ X j) : Rec w' p I L n M k := by
 obtain ⟨A, c, b, D, h1, h2, h3, h4, h5, h6, h7, h8, h9⟩ := h
 exact ⟨A, c, b, D, h1.btw hb (hX p h6), own_btw2 h2 hb (fun j hj => hX j (h8 j hj)), h3, map_btw h4 hb (hX b h7), h5, h6, h7, h8, fun j hj => Nat.lt_of_lt_of_le (h9 j hj) hb.size⟩
theorem Rec.lt (h : Rec w p I L n M k) : ∀ j, I j → j < w.heap.size := by
 obtain ⟨A, c, b, D, _, _, _, _, _, _, _, _, h9⟩ := h
 exact h9
theorem RecP.apart {A : Option Addr} {c b : Nat} {D : DataW Unit} (h : RecP w p I L n M k A c b D) : p ≠ b ∧ (∀ j, (Value.slice A L.length c).ownBlock = some j → j ≠ p ∧ j ≠ b) := by
 obtain ⟨h1, h2, _, ⟨es, clock, h4, _⟩, _⟩ := h
 have hp := h1.row
 refine ⟨fun e => ?_, fun j hj => ?_⟩
 ·
  subst e
  rw [hp] at h4
  cases h4
 ·
  obtain ⟨_, cur, hc⟩ := own_at2 h2 j hj
  refine ⟨fun e => ?_, fun e => ?_⟩
  ·
   subst e
   rw [hp] at hc
   simp at hc
  ·
   subst e
   rw [hc] at h4
   cases h4
end
def RD (w : World) (A : Option Addr) (n : Nat) (ls : List Dv) : Prop :=
 ls.length = n ∧ (0 < n → ∃ b off, A = some ⟨b, off, none⟩ ∧ b < w.heap.size ∧ ∀ r d, ls[r]? = some d →
  w.cell? ⟨b, off + r * 2, none⟩ = some (.string d.nm) ∧ w.cell? ⟨b, off + r * 2 + 1, none⟩ = some (.slice d.a d.cs.length d.c) ∧ RC w d.a d.cs.length d.cs ∧ (d.a = none → d.c = 0) ∧ d.nm.size ≤ maxLen ∧ d.cs.length ≤ d.c ∧ d.cs.length ≤ maxLen)
section
variable {w w' : World} {A : Option Addr} {n : Nat} {ls : List Dv}
end
set_option maxRecDepth 100000
def OwnsC (l : List Cy) (w : World) (e : Ending) (w' : World) : Prop := Below w.heap.size w w' ∧ ∃ A c, e = .returned (.slice A l.length c) ∧ RC w' A l.length l
set_option maxHeartbeats 400000 in
theorem CloneC_any (A : Option Addr) (n c : Nat) (l : List Cy) (w : World) (hr : RC w A n l) (hnil : A = none → c = 0) (hn : n ≤ 1099511627775) :
  Calls Tryz.prog 59 #[.slice A n c] w (OwnsC l w) := by
 obtain ⟨i0, ti, tz0, tz1, tz2⟩ := info_parts info_cycle
 have hnl := fun w => Lib.run_eql_slice_nil (P := Tryz.prog) w 49 93 A n c 0 0 Tryz.underlying49
 have hlen := Lib.hid hr.len
 have HR := Lib.hid hr
 have HNL := Lib.hid hnil
 clear hr hnil
 rcases A with _ | ad
 ·
  have h0 : n = 0 := by
   rcases Nat.eq_zero_or_pos n with h | h
   ·
    exact h
   ·
    obtain ⟨b, off, e, _⟩ := HR.out.2.2 h; cases e
  have hl : l = [] := List.eq_nil_of_length_eq_zero (by have := hlen.out; omega)
  subst hl
  clear HR h0
  go_enter Tryz.func59, Tryz.ntmps59
  go_wp2
  go_ret
  exact ⟨Below.refl _ _, none, 0, rfl, RC.nil_ _⟩
 ·
  go_enter Tryz.func59, Tryz.ntmps59
  go_wp2_with (at_builtin; refine wpList_appendC _ rfl (.tmp 5) (.tmp 6) _ rfl w.heap.size 93 i0 Tryz.underlying49 ti tz0 tz1 tz2 (.slice (some ⟨w.heap.size, 0, none⟩) 0 0) 0 [] rfl (World.ownsRow_made w #[] 0 (Nat.le_refl _) (by simp only [maxLen]; omega) rfl) (some ad) n c l rfl (by simp) (HR.out.alloc _) ?c2 ?c4 ?_)
  case c2 => omega
  case c4 => simp
  ·
   intro v' w1 hown hg
   obtain ⟨A', c', rfl⟩ := own_form2 hown
   have HO := Lib.hid hown
   have HG := Lib.hid hg
   clear hown hg
   go_wp2
   go_ret
   have e := hlen.out
   refine ⟨((Below.refl _ _).alloc (Nat.le_refl _) _).grown HG.out (by simp) (by simp [Value.ownBlock]), A', c', by rw [e]; simp, ?_⟩
   have h1 := RC.own HO.out (by simpa using HR.out.in_)
   rw [e]
   simpa using h1
theorem neqMap (b : Nat) (w : World) : (binOp .neq 118 (.map (some b)) (.map none)).run Tryz.prog w = .ok (.bool true) w := by kernel_rfl
theorem made_any (p b : Nat) (v : Value) (n : Int) (w : World) (h : CRow w p 120 #[v, .int .i64 n, .map (some b)]) :
  Calls Tryz.prog 58 #[.pointer (some ⟨p, 0, none⟩)] w (Gives (.bool true) w) := by
 have x2 := h.cell_at 2 _ rfl
 clear h
 have hne := neqMap
 go_enter Tryz.func58, Tryz.ntmps58
 go_wp2
 go_ret
 exact ⟨rfl, Below.refl _ _⟩
theorem TrNew_any (w : World) :
  Calls Tryz.prog 23 #[] w fun e w' => ∃ p I, e = .returned (.pointer (some ⟨p, 0, none⟩)) ∧ Below w.heap.size w w' ∧ Rec w' p I [] 0 (fun _ => none) 0 ∧ (∀ j, I j → w.heap.size ≤ j) := by
 have hmm := @run_makeMap Tryz.prog
 go_enter Tryz.func23, Tryz.ntmps23
 go_wp2
 go_ret
 refine ⟨w.heap.size + 1, fun j => j = w.heap.size ∨ j = w.heap.size + 1, rfl, ((Below.refl _ _).alloc (Nat.le_refl _) _).alloc (by simp) _, ⟨none, 0, w.heap.size, .map [], ?_, World.ownsRow_nil _ _ _ _, by simp, ?_, MapIs.empty, .inr rfl, .inl rfl, fun j hj => (by cases hj), ?_⟩, ?_⟩
 ·
  have h := CRow.new (w.alloc (.map #[] 0)) #[.slice none 0 0, .int .i64 0, .map (some w.heap.size)] 120
  simpa using h
 ·
  exact map_below (World.ownsMap_made w _ _ _) (below_new _ _)
 ·
  intro j hj
  simp
  omega
 ·
  intro j hj
  omega
theorem List_any (p : Nat) (I : Nat → Prop) (L : List Cy) (n : Int) (M : ByteArray → Option Nat) (k : Nat) (w : World) (h : Rec w p I L n M k) (hn : L.length ≤ 1099511627775) :
  Calls Tryz.prog 37 #[.pointer (some ⟨p, 0, none⟩)] w (OwnsC L w) := by
 obtain ⟨A, c, b, D, h1, h2, h3, _⟩ := h
 have HC := Lib.hid h1
 have HO := Lib.hid h2
 have HI := Lib.hid h3
 clear h1 h2 h3
 go_enter Tryz.func37, Tryz.ntmps37
 go_wp2_with fail
 refine (made_any p b _ n _ HC.out).mono ?_
 rintro _ w1 ⟨rfl, h1⟩
 have B1 := Lib.hid h1
 have x0 := (HC.out.below h1).cell_at 0 _ rfl
 have HO1 := Lib.hid (own_below2 HO.out h1)
 clear h1 HC HO
 go_wp2_with fail
 refine (CloneC_any A L.length c L _ (RC.own HO1.out HI.out) (own_nil2 HO1.out) hn).mono ?_
 rintro _ w2 ⟨h2, A2, c2, rfl, r2⟩
 have B2 := Lib.hid (below_step B1.out h2)
 have R2 := Lib.hid r2
 clear h2 r2 x0
 go_wp2
 go_ret
 exact ⟨B2.out, A2, c2, rfl, R2.out⟩
end Go.Proofs.YtmbgoopkpfhamaaGreat
