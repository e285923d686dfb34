/-
  A slice of cycles that reads as a list in a world: two cells an element. Parts, rows of one's own, append.
-/
import Derived.Test.YtmbgoopkpfhamaaGreatIdentChecksJ2
import Derived.Test.YtmbgoopkpfhamaaGreatIdentChecksJ4
namespace Go.Proofs.YtmbgoopkpfhamaaGreat
open Go.RowKit
def CyC (l : List Cy) : List Value := l.flatMap fun t => [.int .i64 t.k, .int .u8 (t.b : Int)]
theorem CyC_length (l : List Cy) : (CyC l).length = l.length * 2 := by
 induction l with
 | nil => rfl
 | cons t l ih => simp only [CyC, List.flatMap_cons, List.length_append, List.length_cons, List.length_nil] at ih ⊢; omega
theorem CyC_append (a b : List Cy) : CyC (a ++ b) = CyC a ++ CyC b := by simp [CyC]
theorem CyC_one (l : List Cy) : ∀ u ∈ CyC l, u.oneCell' = true := by
 intro u hu
 simp only [CyC, List.mem_flatMap, List.mem_cons, List.not_mem_nil, or_false] at hu
 obtain ⟨t, _, rfl | rfl⟩ := hu <;> rfl
theorem CyC_at {l : List Cy} {k : Nat} {t : Cy} (h : l[k]? = some t) (j : Nat) (hj : j < 2) : (CyC l)[k * 2 + j]? = [Value.int .i64 t.k, .int .u8 (t.b : Int)][j]? := by
 induction l generalizing k with
 | nil => simp at h
 | cons x l ih =>
  have e : CyC (x :: l) = [Value.int .i64 x.k, .int .u8 (x.b : Int)] ++ CyC l := by simp [CyC]
  cases k with
  | zero =>
   simp at h
   subst h
   rw [e, Nat.zero_mul, Nat.zero_add, List.getElem?_append_left (by simpa using hj)]
  | succ k =>
   simp at h
   rw [e, List.getElem?_append_right (by simp; omega), ← ih h]
   congr 1
   simp
   omega
def inC (t : Cy) : Prop := -9223372036854775808 ≤ t.k ∧ t.k ≤ 9223372036854775807 ∧ t.b < 256
def RC (w : World) (A : Option Addr) (n : Nat) (l : List Cy) : Prop :=
 l.length = n ∧ (∀ t ∈ l, inC t) ∧ (0 < n → ∃ b off, A = some ⟨b, off, none⟩ ∧ b < w.heap.size ∧ ∀ j, j < n * 2 → w.cell? ⟨b, off + j, none⟩ = (CyC l)[j]?)
section
variable {w w' : World} {A : Option Addr} {n : Nat} {l : List Cy}
theorem RC.len (h : RC w A n l) : l.length = n := h.1
theorem RC.in_ (h : RC w A n l) : ∀ t ∈ l, inC t := h.2.1
theorem RC.keep (h : RC w A n l) (hs : w.heap.size ≤ w'.heap.size) (hk : ∀ p : Addr, p.block < w.heap.size → w'.cell? p = w.cell? p) : RC w' A n l :=
 ⟨h.1, h.2.1, fun hn => by
  obtain ⟨b, off, e, hb, hc⟩ := h.2.2 hn
  exact ⟨b, off, e, by omega, fun j hj => (hk _ hb).trans (hc j hj)⟩⟩
theorem RC.below (h : RC w A n l) (hb : Below w.heap.size w w') : RC w' A n l := h.keep hb.size fun _ hp => hb.cell hp
theorem RC.alloc (h : RC w A n l) (o : Obj) : RC (w.alloc o) A n l := h.keep (by simp) fun p hp => World.cell?_alloc_lt w o p (by omega)
theorem RC.nil_ (A : Option Addr) : RC w A 0 [] := ⟨rfl, by simp, fun h => absurd h (by omega)⟩
theorem RC.at_ {k : Nat} (h : RC w A n l) (hk : k < n) :
  ∃ b off t, A = some ⟨b, off, none⟩ ∧ b < w.heap.size ∧ Hid (l[k]? = some t) ∧ inC t ∧ w.cell? ⟨b, off + k * 2, none⟩ = some (.int .i64 t.k) ∧ w.cell? ⟨b, off + k * 2 + 1, none⟩ = some (.int .u8 (t.b : Int)) := by
 obtain ⟨b, off, e, hb, hc⟩ := h.2.2 (by omega)
 have hl : k < l.length := by have := h.len; omega
 have ht : l[k]? = some l[k] := List.getElem?_eq_getElem hl
 refine ⟨b, off, l[k], e, hb, ht, h.2.1 _ (List.getElem_mem hl), ?_, ?_⟩
 ·
  exact (hc (k * 2 + 0) (by omega)).trans (CyC_at ht 0 (by omega))
 ·
  exact (hc (k * 2 + 1) (by omega)).trans (CyC_at ht 1 (by omega))
theorem RC.own {base : Nat} {e : TypeId} {c : Nat} (h : w.ownsRow base e 2 (.slice A n c) n (CyC l)) (hi : ∀ t ∈ l, inC t) : RC w A n l := by
 have h1 := h.1
 rw [CyC_length] at h1
 refine ⟨by omega, hi, fun hn => ?_⟩
 rcases h.2 with ⟨_, h0⟩ | ⟨g, cap, cur, hv, _, hg, _, _, _, ht⟩
 ·
  omega
 ·
  simp only [Value.slice.injEq, true_and] at hv
  obtain ⟨rfl, rfl⟩ := hv
  refine ⟨g, 0, rfl, (Array.getElem?_eq_some_iff.1 hg).1, fun j hj => ?_⟩
  rw [Nat.zero_add, ← ht, List.getElem?_take, if_pos hj, cell_of_row w g j cur e (0, 0) hg]
  simp
end
theorem own_form2 {w : World} {base : Nat} {e : TypeId} {v : Value} {n : Nat} {xs : List Value} (h : w.ownsRow base e 2 v n xs) : ∃ A c, v = .slice A n c := by
 rcases h.2 with ⟨rfl, rfl⟩ | ⟨g, cap, cur, hv, _⟩
 ·
  exact ⟨_, _, rfl⟩
 ·
  exact ⟨_, _, hv⟩
theorem own_below2 {w w' : World} {base : Nat} {e : TypeId} {v : Value} {n : Nat} {xs : List Value} (h : w.ownsRow base e 2 v n xs) (hb : Below w.heap.size w w') : w'.ownsRow base e 2 v n xs := by
 refine ⟨h.1, ?_⟩
 rcases h.2 with h0 | ⟨g, cap, cur, hv, hbase, hg, hr⟩
 ·
  exact .inl h0
 ·
  exact .inr ⟨g, cap, cur, hv, hbase, (hb.block g (Array.getElem?_eq_some_iff.1 hg).1).trans hg, hr⟩
theorem own_nil2 {w : World} {base : Nat} {e : TypeId} {A : Option Addr} {n c : Nat} {xs : List Value} (h : w.ownsRow base e 2 (.slice A n c) n xs) : A = none → c = 0 := by
 rintro rfl
 rcases h.2 with ⟨hv, _⟩ | ⟨g, cap, cur, hv, _⟩
 ·
  simp only [Value.slice.injEq, true_and] at hv
  exact hv.2
 ·
  simp at hv
theorem pair_new (w : World) (u v : Value) (t : TypeId) : ∀ j x, [u, v][j]? = some x → (w.alloc (.cells #[u, v] t)).cell? ((⟨w.heap.size, 0, none⟩ : Addr).add j) = some x := by
 intro j x hj
 match j, hj with
 | 0, hj => simp at hj; subst hj; simp [Addr.add]
 | 1, hj => simp at hj; subst hj; simp [Addr.add]
theorem RC.one (w : World) (x : Cy) (hx : inC x) (T : TypeId) : RC (w.alloc (.cells #[.int .i64 x.k, .int .u8 (x.b : Int)] T)) (some ⟨w.heap.size, 0, none⟩) 1 [x] := by
 refine ⟨rfl, fun t ht => ?_, fun _ => ⟨w.heap.size, 0, rfl, by simp, fun j hj => ?_⟩⟩
 ·
  simp only [List.mem_cons, List.not_mem_nil, or_false] at ht
  rw [ht]
  exact hx
 ·
  have h4 : j = 0 ∨ j = 1 := by omega
  rcases h4 with rfl | rfl <;> simp [CyC]
theorem wpList_appendC {P : Program} (w : World) {ops : Array Oper} {rest : List Oper} {o : Oper} {a : Act} {Q : Exit → Act → World → Prop} (hgd : o.guard = none) (s x : Operand) (t : TypeId)
  (ho : o.op = .call { callee := .builtin .append, args := #[s, x], argTypes := #[t, t] })
  (base : Nat) (e : TypeId) (i : TypeInfo) (ht : P.underlying t = some (.slice e)) (hi : P.info? e = some i) (hz : i.zero = some (.agg #[.int .i64 0, .int .u8 0])) (hsize : i.size = 2) (hby : i.bytes = 16)
  (v : Value) (n : Nat) (l : List Cy) (hs : a.eval s = v) (hown : w.ownsRow base e 2 v n (CyC l))
  (A : Option Addr) (m c : Nat) (k : List Cy) (hx : a.eval x = .slice A m c) (hnil : A = none → c = 0) (hr : RC w A m k)
  (h63 : n + m ≤ 1099511627776) (hbase : base ≤ w.heap.size)
  (h : ∀ v' w', w'.ownsRow base e 2 v' (n + m) (CyC (l ++ k)) → w.grownBy w' v.ownBlock → wpList P ops Q rest (a.put o.dst v') w') : wpList P ops Q (o :: rest) a w := by
 rcases A with _ | ad
 ·
  have hm : m = 0 := by
   rcases Nat.eq_zero_or_pos m with h0 | h0
   ·
    exact h0
   ·
    obtain ⟨b, off, h1, _⟩ := hr.2.2 h0; cases h1
  obtain rfl := hnil rfl
  subst hm
  obtain rfl : k = [] := List.eq_nil_of_length_eq_zero hr.len
  refine wpList_append_own_none hgd s x t ho base e i 2 ht hi v n (CyC l) hs hown hx ?_
  exact h v w (by simpa using hown) (World.grownBy.refl w _)
 ·
  refine wpList_append_own w hgd s x t ho base e i _ 2 16 ht hi hz hsize hby rfl (by decide) v n (CyC l) hs hown ad m c (CyC k) hx (by rw [CyC_length, hr.len]) ?_ (CyC_one k) (by unfold maxLen; omega) (by omega) hbase ?_
  ·
   intro j u hu
   rcases Nat.eq_zero_or_pos m with h0 | h0
   ·
    obtain rfl : k = [] := List.eq_nil_of_length_eq_zero (by rw [hr.len, h0])
    simp [CyC] at hu
   ·
    obtain ⟨b, off, h1, hb, hc⟩ := hr.2.2 h0
    injection h1 with h1
    subst h1
    have hj : j < m * 2 := by
     rcases Nat.lt_or_ge j (CyC k).length with h2 | h2
     ·
      rw [CyC_length, hr.len] at h2; exact h2
     ·
      rw [List.getElem?_eq_none h2] at hu; cases hu
    have h2 := hc j hj
    rw [hu] at h2
    have e2 : ((⟨b, off, none⟩ : Addr).add j) = ⟨b, off + j, none⟩ := by unfold Addr.add; split <;> simp_all
    rw [e2]
    exact h2
  ·
   intro v' w' h1 h2 _
   exact h v' w' (by rw [CyC_append]; exact h1) h2
section
variable {w : World}
end
end Go.Proofs.YtmbgoopkpfhamaaGreat
