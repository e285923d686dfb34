/-
  Plain facts on a text with its checksum behind it; a slice's end; append onto a row of one's own from a slice of bytes, nil or not.
-/
import Derived.Test.YtdljlhmbjpakgaaCrcC
import Derived.Laws.AppendOwnNone
namespace Go.Proofs.Ytdljlhmbjpakgaa
open Go.RowKit

theorem chk_whole (l : List Nat) : chk (l ++ le4 (sumL l)) = true := by
  unfold chk
  rw [List.length_append, le4_length, show l.length + 4 - 4 = l.length by omega, List.drop_left, List.take_left]
  simp
theorem chk_turned (l : List Nat) (hl : ∀ x ∈ l, x < 256) (p x v : Nat) (hv : v ≠ 0) (hv2 : v < 256) (hx : (l ++ le4 (sumL l))[p]? = some x) : chk ((l ++ le4 (sumL l)).set p (x ^^^ v)) = false := by
  have hne : x ^^^ v ≠ x := by
    intro h
    have h2 : x ^^^ v = x ^^^ 0 := by rw [h, Nat.xor_zero]
    exact hv (xor_lc h2)
  have hx2 : x < 256 := by
    rcases List.mem_append.1 (List.mem_of_getElem? hx) with h | h
    · exact hl x h
    · exact le4_lt _ x h
  unfold chk
  rw [List.length_set, List.length_append, le4_length, show l.length + 4 - 4 = l.length by omega]
  rw [Bool.and_eq_false_iff]
  right
  apply decide_eq_false
  intro h
  rw [List.take_set, List.take_left, List.drop_set, List.drop_left] at h
  by_cases hp : p < l.length
  · rw [if_pos hp] at h
    have h1 := le4_inj _ _ (sumL_lt _) (sumL_lt _) h
    rw [List.getElem?_append_left hp] at hx
    exact hne (sumL_set l hl p x _ hx (xor_lt8 _ _ hx2 hv2) h1.symm)
  · rw [if_neg hp, List.set_eq_of_length_le (l := l) (i := p) (by omega)] at h
    rw [List.getElem?_append_right (by omega)] at hx
    have hpl : p - l.length < (le4 (sumL l)).length := (List.getElem?_eq_some_iff.1 hx).1
    have h2 := congrArg (fun z : List Nat => z[p - l.length]?) h
    simp only [List.getElem?_set_self hpl] at h2
    rw [hx] at h2
    injection h2 with h2
    exact hne h2

theorem R8.take_ {w : World} {A : Option Addr} {n : Nat} {l : List Nat} (h : R8 w A n l) (i : Nat) (hi : i ≤ n) : R8 w A i (l.take i) := by
  have hl := h.len
  refine ⟨⟨by simp [U8]; omega, fun hm => ?_⟩, fun x hx => h.2 x (List.mem_of_mem_take hx)⟩
  obtain ⟨b, off, e, hb, hc⟩ := h.1.2 (by omega)
  refine ⟨b, off, e, hb, fun j hj => ?_⟩
  rw [hc j (by omega), U8, U8, List.getElem?_map, List.getElem?_map, List.getElem?_take, if_pos hj]
/-- The end of a slice, as the model lays it. -/
theorem R8.cut {w : World} {ad : Addr} {n : Nat} {l : List Nat} (h : R8 w (some ad) n l) (i c : Nat) (hi : i ≤ n) (hc : n ≤ c) : R8 w (if c = i then some ad else some (ad.add i)) (n - i) (l.drop i) := by
  have hl := h.len
  by_cases hin : i = n
  · have e0 : n - i = 0 := by omega
    have e1 : l.drop i = [] := List.drop_eq_nil_of_le (by omega)
    rw [e0, e1]
    exact ⟨Rd.nil_, by simp⟩
  · rw [if_neg (by omega)]
    obtain ⟨b, off, e, _⟩ := h.1.2 (by omega)
    injection e with e
    subst e
    have := h.sub i (n - i) (by omega)
    rw [List.take_of_length_le (by simp; omega)] at this
    have e2 : ((⟨b, off, none⟩ : Addr).add i) = ⟨b, off + i, none⟩ := by unfold Addr.add; split <;> simp_all
    rw [e2]
    exact this

theorem own_cap {w : World} {base : Nat} {e : TypeId} {A : Option Addr} {n c : Nat} {xs : List Value} (h : w.ownsRow base e 1 (.slice A n c) n xs) : n ≤ c := by
  rcases h.2 with ⟨hv, rfl⟩ | ⟨g, cap, cur, hv, _, _, hc, _⟩
  · omega
  · simp only [Value.slice.injEq, true_and] at hv
    obtain ⟨_, rfl⟩ := hv
    exact hc

theorem own_below {w w' : World} {base : Nat} {e : TypeId} {v : Value} {n : Nat} {xs : List Value} (h : w.ownsRow base e 1 v n xs) (hb : Below w.heap.size w w') : w'.ownsRow base e 1 v n xs := by
  refine ⟨h.1, ?_⟩
  rcases h.2 with h0 | ⟨g, cap, cur, hv, hbase, hg, hr⟩
  · exact .inl h0
  · exact .inr ⟨g, cap, cur, hv, hbase, (hb.block g (Array.getElem?_eq_some_iff.1 hg).1).trans hg, hr⟩
theorem R8.own {w : World} {base : Nat} {e : TypeId} {A : Option Addr} {n c : Nat} {l : List Nat} (h : w.ownsRow base e 1 (.slice A n c) n (U8 l)) (hl : ∀ x ∈ l, x < 256) : R8 w A n l := ⟨Rd.own h, hl⟩
theorem R8.some_ {w : World} {A : Option Addr} {n c : Nat} {l : List Nat} (h : R8 w A n l) (hn : 0 < n) : A = none → c = 0 := by
  rintro rfl
  obtain ⟨_, _, e, _⟩ := h.1.2 hn
  cases e

/-- append onto a row of one's own, from a slice of bytes. -/
theorem wpList_append8 {P : Program} (w : World) {ops : Array Oper} {rest : List Oper} {o : Oper} {a : Act} {Q : Exit → Act → World → Prop} (hgd : o.guard = none) (s x : Operand) (t : TypeId)
    (ho : o.op = .call { callee := .builtin .append, args := #[s, x], argTypes := #[t, t] })
    (base : Nat) (e : TypeId) (i : TypeInfo) (ht : P.underlying t = some (.slice e)) (hi : P.info? e = some i) (hz : i.zero = some (.int .u8 0)) (hsize : i.size = 1) (hby : i.bytes = 1)
    (v : Value) (n : Nat) (l : List Nat) (hs : a.eval s = v) (hown : w.ownsRow base e 1 v n (U8 l))
    (A : Option Addr) (m c : Nat) (k : List Nat) (hx : a.eval x = .slice A m c) (hnil : A = none → c = 0) (hr : R8 w A m k)
    (h63 : n + m ≤ 1099511627776) (hbase : base ≤ w.heap.size)
    (h : ∀ v' w', w'.ownsRow base e 1 v' (n + m) (U8 (l ++ k)) → w.grownBy w' v.ownBlock → wpList P ops Q rest (a.put o.dst v') w') : wpList P ops Q (o :: rest) a w := by
  rcases A with _ | ad
  · have hm : m = 0 := by
      rcases Nat.eq_zero_or_pos m with h0 | h0
      · exact h0
      · obtain ⟨b, off, h1, _⟩ := hr.1.2 h0; cases h1
    obtain rfl := hnil rfl
    subst hm
    obtain rfl : k = [] := List.eq_nil_of_length_eq_zero hr.len
    refine wpList_append_own_none hgd s x t ho base e i 1 ht hi v n (U8 l) hs hown hx ?_
    exact h v w (by simpa using hown) (World.grownBy.refl w _)
  · refine wpList_append_own w hgd s x t ho base e i _ 1 1 ht hi hz hsize hby rfl (by decide) v n (U8 l) hs hown ad m c (U8 k) hx (by rw [U8_length, hr.len]; omega) ?_ (U8_one k) (by unfold maxLen; omega) (by omega) hbase ?_
    · intro j u hu
      rcases Nat.eq_zero_or_pos m with h0 | h0
      · obtain rfl : k = [] := List.eq_nil_of_length_eq_zero (by rw [hr.len, h0])
        simp [U8] at hu
      · obtain ⟨b, off, h1, hb, hc⟩ := hr.1.2 h0
        injection h1 with h1
        subst h1
        exact Rd.news hc hr.1.1 j u hu
    · intro v' w' h1 h2 _
      exact h v' w' (by rw [U8_append]; exact h1) h2
end Go.Proofs.Ytdljlhmbjpakgaa
