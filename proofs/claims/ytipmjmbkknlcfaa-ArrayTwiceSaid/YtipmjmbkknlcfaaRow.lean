/-
  Words for memory, of no program: a block whose whole row is known (structs of whatever cells), through calls and stores; a struct out of its block as a result, beside others.
-/
import Derived.Test.YtipmjmbkknlcfaaTagRow
import Derived.Test.YtipmjmbkknlcfaaCRow
import Derived.Test.YtipmjmbkknlcfaaGeomK
namespace Go.Proofs.Ytipmjmbkknlcfaa
open Go.RowKit

theorem GBox.setCell_other {w : World} {n : Nat} {g : Gm} (h : GBox w n g) {p : Addr} (hne : n ≠ p.block) (v : Value) : GBox (w.setCell p v) n g := by
  have hc : ∀ j, (w.setCell p v).cell? ⟨n, j, none⟩ = w.cell? ⟨n, j, none⟩ := fun j => World.cell?_of_block (Below.heap_setCell w p v n hne)
  obtain ⟨h0, h1, h2, h3, h4, h5, h6, h7⟩ := h
  exact ⟨by simpa [World.setCell] using h0, (hc _).trans h1, (hc _).trans h2, (hc _).trans h3, (hc _).trans h4, (hc _).trans h5, (hc _).trans h6, (hc _).trans h7⟩
theorem R8.setCell {w : World} {A : Option Addr} {n : Nat} {l : List Nat} (h : R8 w A n l) {p : Addr} (hne : ∀ b off, A = some ⟨b, off, none⟩ → b ≠ p.block) (v : Value) : R8 (w.setCell p v) A n l :=
  ⟨⟨h.1.1, fun hn => by
    obtain ⟨b, off, e, hb, hc⟩ := h.1.2 hn
    exact ⟨b, off, e, by simpa [World.setCell] using hb, fun j hj => (World.cell?_of_block (Below.heap_setCell w p v b (hne b off e))).trans (hc j hj)⟩⟩, h.2⟩
/-- Bytes stay where a block of slices is stored anew. -/
theorem R8.setRow {w : World} {A : Option Addr} {n : Nat} {l : List Nat} (h : R8 w A n l) {g : Nat} {u : TypeId} {cs : Array Value} (hr : CRow w g u cs) (hno : ∀ v ∈ cs, ∀ x, v ≠ .int .u8 x) (cs' : Array Value) : R8 (w.setRow g cs') A n l :=
  ⟨⟨h.1.1, fun hn => by
    obtain ⟨b, off, e, hb, hc⟩ := h.1.2 hn
    have hne : b ≠ g := by
      rintro rfl
      have h0 := hc 0 hn
      rw [hr.cell] at h0
      have hl : 0 < l.length := by have := h.len; omega
      rw [U8, List.getElem?_map, List.getElem?_eq_getElem hl] at h0
      exact hno _ (Array.mem_of_getElem? h0) _ rfl
    exact ⟨b, off, e, by simpa [World.setRow] using hb, fun j hj => (World.cell?_of_block (setRow_other w g b cs' hne)).trans (hc j hj)⟩⟩, h.2⟩
theorem cell_setRow {w : World} {g : Nat} (cs' : Array Value) {p : Addr} {v : Value} (hne : p.block ≠ g) (h : w.cell? p = some v) : (w.setRow g cs').cell? p = some v := (World.cell?_of_block (setRow_other w g p.block cs' hne)).trans h
theorem R8.lt_block {w : World} {A : Option Addr} {n : Nat} {l : List Nat} (h : R8 w A n l) (hn : 0 < n) : ∀ b off, A = some ⟨b, off, none⟩ → b < w.heap.size := by
  obtain ⟨b, off, e, hb, _⟩ := h.1.2 hn
  rintro b' off' rfl
  injection e with e
  injection e with e1
  omega
theorem own_block {w : World} {base : Nat} {e : TypeId} {A : Option Addr} {n c : Nat} {xs : List Value} (h : w.ownsRow base e 1 (.slice A n c) n xs) : ∀ b off, A = some ⟨b, off, none⟩ → base ≤ b := by
  rintro b off rfl
  rcases h.2 with ⟨hv, _⟩ | ⟨g, cap, cur, hv, hb, _⟩
  · simp at hv
  · simp at hv
    omega
theorem OwnsB.at_ {e0 : TypeId} {l : List Nat} {w w' : World} {e : Ending} {n : Nat} (h : OwnsB e0 l w e w') (hl : l.length = n) : ∃ A c, e = .returned (.slice A n c) ∧ Hid (w'.ownsRow w.heap.size e0 1 (.slice A n c) n (U8 l)) ∧ Hid (Below w.heap.size w w') := by
  subst hl
  exact h
/-- append onto a row of one's own, from a slice of bytes that has some: a step of a region. -/
theorem wp_append8 {P : Program} (w : World) {o : Oper} {a : Act} {K : Act → World → Prop} {Q : Exit → Act → World → Prop} (s x : Operand) (t : TypeId)
    (ho : o.op = .call { callee := .builtin .append, args := #[s, x], argTypes := #[t, t] })
    (base : Nat) (e : TypeId) (i : TypeInfo) (ht : P.underlying t = some (.slice e)) (hi : P.info? e = some i) (hz : i.zero = some (.int .u8 0)) (hsize : i.size = 1) (hby : i.bytes = 1)
    (v : Value) (n : Nat) (l : List Nat) (hs : a.eval s = v) (hown : w.ownsRow base e 1 v n (U8 l))
    (A : Option Addr) (m c : Nat) (k : List Nat) (hx : a.eval x = .slice A m c) (hr : R8 w A m k) (hm : 0 < m)
    (h63 : n + m ≤ 1099511627776) (hbase : base ≤ w.heap.size)
    (h : ∀ v' w', w'.ownsRow base e 1 v' (n + m) (U8 (l ++ k)) → w.grownBy w' v.ownBlock → K (a.put o.dst v') w') : o.wp P a w K Q := by
  obtain ⟨b, off, rfl, hb, hc⟩ := hr.1.2 hm
  refine wp_append_own w s x t ho base e i _ 1 1 ht hi hz hsize hby rfl (by decide) v n (U8 l) hs hown ⟨b, off, none⟩ m c (U8 k) hx (by rw [U8_length, hr.len]; omega) (Rd.news hc hr.1.1) (U8_one k) (by unfold maxLen; omega) (by omega) hbase ?_
  intro v' w' h1 h2 _
  exact h v' w' (by rw [U8_append]; exact h1) h2
/-- A slice, a struct out of its block, and two numbers, as results. -/
theorem results_tctt_row {P : Program} {fn : Func} {p q u v : Tmp} {ty : TypeId} (h : fn.results = #[.tmp q, .cell p ty, .tmp u, .tmp v]) (tmps : Array Value) (w : World) (g : Nat) (t : TypeId) (cs : Array Value) (fr : Nat × Nat) (d : TypeDesc)
    (hp : tmps.getD p undef = .pointer (some ⟨g, 0, none⟩)) (hg : w.heap[g]? = some (.cells cs t fr))
    (hu : P.underlying ty = some d) (hd : (match d with | .struct _ | .array _ _ => true | _ => false) = true) (hi : (P.info? ty).map (·.size) = some cs.size) :
    (results fn tmps).run P w = .ok (.tuple #[tmps.getD q undef, .agg cs, tmps.getD u undef, tmps.getD v undef]) w := by
  have hl := run_loadVar_row w g t ty cs fr d hg hu hd hi
  have hp' : tmps[p]?.getD undef = .pointer (some ⟨g, 0, none⟩) := by simpa using hp
  simp only [results, h]
  simp [Result.andThen, asAddr, hp', hl]
/-- A struct out of its block and two numbers, as results. -/
theorem results_ctt_row {P : Program} {fn : Func} {p u v : Tmp} {ty : TypeId} (h : fn.results = #[.cell p ty, .tmp u, .tmp v]) (tmps : Array Value) (w : World) (g : Nat) (t : TypeId) (cs : Array Value) (fr : Nat × Nat) (d : TypeDesc)
    (hp : tmps.getD p undef = .pointer (some ⟨g, 0, none⟩)) (hg : w.heap[g]? = some (.cells cs t fr))
    (hu : P.underlying ty = some d) (hd : (match d with | .struct _ | .array _ _ => true | _ => false) = true) (hi : (P.info? ty).map (·.size) = some cs.size) :
    (results fn tmps).run P w = .ok (.tuple #[.agg cs, tmps.getD u undef, tmps.getD v undef]) w := by
  have hl := run_loadVar_row w g t ty cs fr d hg hu hd hi
  have hp' : tmps[p]?.getD undef = .pointer (some ⟨g, 0, none⟩) := by simpa using hp
  simp only [results, h]
  simp [Result.andThen, asAddr, hp', hl]
end Go.Proofs.Ytipmjmbkknlcfaa
