/-
  Words for memory, of no program, more: parts of slices; rows of one's own; append onto a row of one's own from a slice of bytes, nil or not.
-/
import Derived.Laws.AppendOwnNone
import Derived.Deep.QuietTactic
import Derived.ChangeKeysEq
import Derived.Tactics2
import Derived.Laws.Slices
import Derived.Test.YtmbgoopkpfhamaaGreatIdentChecksJ1
namespace Go.Proofs.YtmbgoopkpfhamaaGreat
open Go.RowKit
theorem R8.sub {w : World} {b off n : Nat} {l : List Nat} (h : R8 w (some ⟨b, off, none⟩) n l) (k m : Nat) (hk : k + m ≤ n) : R8 w (some ⟨b, off + k, none⟩) m ((l.drop k).take m) := by
 have hl := h.len
 refine ⟨⟨by simp [U8]; omega, fun hm => ?_⟩, fun x hx => h.2 x (List.mem_of_mem_drop (List.mem_of_mem_take hx))⟩
 obtain ⟨b1, off1, e, hb, hc⟩ := h.1.2 (by omega)
 injection e with e
 injection e with e1 e2
 subst e1 e2
 refine ⟨b, off + k, rfl, hb, fun j hj => ?_⟩
 rw [Nat.add_assoc, hc (k + j) (by omega), U8, U8, List.getElem?_map, List.getElem?_map, List.getElem?_take, if_pos hj, List.getElem?_drop]
theorem R8.take_ {w : World} {A : Option Addr} {n : Nat} {l : List Nat} (h : R8 w A n l) (i : Nat) (hi : i ≤ n) : R8 w A i (l.take i) := by
 have hl := h.len
 refine ⟨⟨by simp [U8]; omega, fun hm => ?_⟩, fun x hx => h.2 x (List.mem_of_mem_take hx)⟩
 obtain ⟨b, off, e, hb, hc⟩ := h.1.2 (by omega)
 refine ⟨b, off, e, hb, fun j hj => ?_⟩
 rw [hc j (by omega), U8, U8, List.getElem?_map, List.getElem?_map, List.getElem?_take, if_pos hj]
theorem R8.cut {w : World} {ad : Addr} {n : Nat} {l : List Nat} (h : R8 w (some ad) n l) (i c : Nat) (hi : i ≤ n) (hc : n ≤ c) : R8 w (if c = i then some ad else some (ad.add i)) (n - i) (l.drop i) := by
 have hl := h.len
 by_cases hin : i = n
 ·
  have e0 : n - i = 0 := by omega
  have e1 : l.drop i = [] := List.drop_eq_nil_of_le (by omega)
  rw [e0, e1]
  exact ⟨Rd.nil_, by simp⟩
 ·
  rw [if_neg (by omega)]
  obtain ⟨b, off, e, _⟩ := h.1.2 (by omega)
  injection e with e
  subst e
  have := h.sub i (n - i) (by omega)
  rw [List.take_of_length_le (by simp; omega)] at this
  have e2 : ((⟨b, off, none⟩ : Addr).add i) = ⟨b, off + i, none⟩ := by unfold Addr.add; split <;> simp_all
  rw [e2]
  exact this
theorem own_cap {w : World} {base : Nat} {e : TypeId} {A : Option Addr} {n c : Nat} {xs : List Value} (h : w.ownsRow base e 1 (.slice A n c) n xs) : n ≤ c := by
 rcases h.2 with ⟨hv, rfl⟩ | ⟨g, cap, cur, hv, _, _, hc, _⟩
 ·
  omega
 ·
  simp only [Value.slice.injEq, true_and] at hv
  obtain ⟨_, rfl⟩ := hv
  exact hc
theorem own_below {w w' : World} {base : Nat} {e : TypeId} {v : Value} {n : Nat} {xs : List Value} (h : w.ownsRow base e 1 v n xs) (hb : Below w.heap.size w w') : w'.ownsRow base e 1 v n xs := by
 refine ⟨h.1, ?_⟩
 rcases h.2 with h0 | ⟨g, cap, cur, hv, hbase, hg, hr⟩
 ·
  exact .inl h0
 ·
  exact .inr ⟨g, cap, cur, hv, hbase, (hb.block g (Array.getElem?_eq_some_iff.1 hg).1).trans hg, hr⟩
theorem R8.own {w : World} {base : Nat} {e : TypeId} {A : Option Addr} {n c : Nat} {l : List Nat} (h : w.ownsRow base e 1 (.slice A n c) n (U8 l)) (hl : ∀ x ∈ l, x < 256) : R8 w A n l := ⟨Rd.own h, hl⟩
theorem R8.some_ {w : World} {A : Option Addr} {n c : Nat} {l : List Nat} (h : R8 w A n l) (hn : 0 < n) : A = none → c = 0 := by
 rintro rfl
 obtain ⟨_, _, e, _⟩ := h.1.2 hn
 cases e
theorem wpList_append8 {P : Program} (w : World) {ops : Array Oper} {rest : List Oper} {o : Oper} {a : Act} {Q : Exit → Act → World → Prop} (hgd : o.guard = none) (s x : Operand) (t : TypeId)
  (ho : o.op = .call { callee := .builtin .append, args := #[s, x], argTypes := #[t, t] })
  (base : Nat) (e : TypeId) (i : TypeInfo) (ht : P.underlying t = some (.slice e)) (hi : P.info? e = some i) (hz : i.zero = some (.int .u8 0)) (hsize : i.size = 1) (hby : i.bytes = 1)
  (v : Value) (n : Nat) (l : List Nat) (hs : a.eval s = v) (hown : w.ownsRow base e 1 v n (U8 l))
  (A : Option Addr) (m c : Nat) (k : List Nat) (hx : a.eval x = .slice A m c) (hnil : A = none → c = 0) (hr : R8 w A m k)
  (h63 : n + m ≤ 1099511627776) (hbase : base ≤ w.heap.size)
  (h : ∀ v' w', w'.ownsRow base e 1 v' (n + m) (U8 (l ++ k)) → w.grownBy w' v.ownBlock → wpList P ops Q rest (a.put o.dst v') w') : wpList P ops Q (o :: rest) a w := by
 rcases A with _ | ad
 ·
  have hm : m = 0 := by
   rcases Nat.eq_zero_or_pos m with h0 | h0
   ·
    exact h0
   ·
    obtain ⟨b, off, h1, _⟩ := hr.1.2 h0; cases h1
  obtain rfl := hnil rfl
  subst hm
  obtain rfl : k = [] := List.eq_nil_of_length_eq_zero hr.len
  refine wpList_append_own_none hgd s x t ho base e i 1 ht hi v n (U8 l) hs hown hx ?_
  exact h v w (by simpa using hown) (World.grownBy.refl w _)
 ·
  refine wpList_append_own w hgd s x t ho base e i _ 1 1 ht hi hz hsize hby rfl (by decide) v n (U8 l) hs hown ad m c (U8 k) hx (by rw [U8_length, hr.len]; omega) ?_ (U8_one k) (by unfold maxLen; omega) (by omega) hbase ?_
  ·
   intro j u hu
   rcases Nat.eq_zero_or_pos m with h0 | h0
   ·
    obtain rfl : k = [] := List.eq_nil_of_length_eq_zero (by rw [hr.len, h0])
    simp [U8] at hu
   ·
    obtain ⟨b, off, h1, hb, hc⟩ := hr.1.2 h0
    injection h1 with h1
    subst h1
    exact Rd.news hc hr.1.1 j u hu
  ·
   intro v' w' h1 h2 _
   exact h v' w' (by rw [U8_append]; exact h1) h2
theorem R64.own {w : World} {base : Nat} {e : TypeId} {A : Option Addr} {n c : Nat} {l : List Int} (h : w.ownsRow base e 1 (.slice A n c) n (I64 l)) (hl : ∀ x ∈ l, -9223372036854775808 ≤ x ∧ x ≤ 9223372036854775807) : R64 w A n l := ⟨Rd.own h, hl⟩
theorem below_new (w : World) (o : Obj) : Below w.heap.size w (w.alloc o) := (Below.refl _ _).alloc (Nat.le_refl _) o
def cutA (A : Option Addr) (c k : Nat) : Option Addr := if c = k then A else A.map (·.add k)
theorem cutA_some (ad : Addr) (c k : Nat) : cutA (some ad) c k = if c = k then some ad else some (ad.add k) := rfl
theorem R8.cutA {w : World} {A : Option Addr} {n : Nat} {l : List Nat} (h : R8 w A n l) (k c : Nat) (hk : k ≤ n) (hc : n ≤ c) : R8 w (cutA A c k) (n - k) (l.drop k) := by
 rcases A with _ | ad
 ·
  have hn : n = 0 := by
   rcases Nat.eq_zero_or_pos n with h0 | h0
   ·
    exact h0
   ·
    obtain ⟨b, off, h1, _⟩ := h.1.2 h0; cases h1
  have hl := h.len
  have e0 : n - k = 0 := by omega
  have e1 : l.drop k = [] := List.drop_eq_nil_of_le (by omega)
  rw [e0, e1]
  exact ⟨Rd.nil_, by simp⟩
 ·
  exact h.cut k c hk hc
section
variable {P : Program} {t e : TypeId} {i : TypeInfo}
theorem run_slice_to (h1 : P.underlying t = some (.slice e)) (h2 : P.info? e = some i) (h4 : P.cellsOf e = 1) (A : Option Addr) (n c k : Nat) (hk : k ≤ c) (W : World) :
  (Instr.slice t (.slice A n c) none (some (.int .i64 (k : Int))) none).run P W = .ok (.slice A k c) W := by
 have hb : (Instr.sliceBound (.int .i64 (k : Int)) c .sliceAcap).run P W = .ok k W := by
  rw [run_sliceBound W .i64 _ _ _ (by omega) (by omega)]; simp
 simp [Instr.slice, run_underlying h1, Instr.sliceBounds, hb, run_sizeOf W h2, h4]
 intro _
 cases A <;> simp [Addr.add]
theorem run_slice_from (h1 : P.underlying t = some (.slice e)) (h2 : P.info? e = some i) (h4 : P.cellsOf e = 1) (A : Option Addr) (n c k : Nat) (hk : k ≤ n) (W : World) :
  (Instr.slice t (.slice A n c) (some (.int .i64 (k : Int))) none none).run P W = .ok (.slice (cutA A c k) (n - k) (c - k)) W := by
 have hb : (Instr.sliceBound (.int .i64 (k : Int)) n .sliceB).run P W = .ok k W := by
  rw [run_sliceBound W .i64 _ _ _ (by omega) (by omega)]; simp
 simp [Instr.slice, run_underlying h1, Instr.sliceBounds, hb, run_sizeOf W h2, h4, cutA]
theorem run_sliceAt_to (h1 : P.underlying t = some (.slice e)) (h2 : P.info? e = some i) (h4 : P.cellsOf e = 1) (A : Option Addr) (n c k : Nat) (hk : k ≤ c) (W : World) :
  (Instr.sliceAt t (.slice A n c) none (some (.int .i64 (k : Int))) none).run P W = .ok (.slice A k c) W := by
 rw [← run_slice_to h1 h2 h4 A n c k hk W]
 simp [Instr.sliceAt, run_underlying h1]
theorem run_sliceAt_from (h1 : P.underlying t = some (.slice e)) (h2 : P.info? e = some i) (h4 : P.cellsOf e = 1) (A : Option Addr) (n c k : Nat) (hk : k ≤ n) (W : World) :
  (Instr.sliceAt t (.slice A n c) (some (.int .i64 (k : Int))) none none).run P W = .ok (.slice (cutA A c k) (n - k) (c - k)) W := by
 rw [← run_slice_from h1 h2 h4 A n c k hk W]
 simp [Instr.sliceAt, run_underlying h1]
end
def MakesC (l : List Nat) (w : World) (e : Ending) (w' : World) : Prop := ∃ A c, e = .returned (.slice A l.length c) ∧ R8 w' A l.length l ∧ l.length ≤ c ∧ Below w.heap.size w w'
def MakesF (l : List Nat) (w : World) (e : Ending) (w' : World) : Prop :=
 ∃ g c cur u, e = .returned (.slice (some ⟨g, 0, none⟩) l.length c) ∧ w.heap.size ≤ g ∧ w'.heap[g]? = some (.cells cur u (0, 0)) ∧ R8 w' (some ⟨g, 0, none⟩) l.length l ∧ l.length ≤ c ∧ Below w.heap.size w w'
end Go.Proofs.YtmbgoopkpfhamaaGreat
