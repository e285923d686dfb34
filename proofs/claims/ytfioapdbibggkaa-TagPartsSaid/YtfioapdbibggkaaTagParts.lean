/-
  The walk of the law TagParts over the landed code, out of its callees' contracts.
-/
import Derived.Test.YtfioapdbibggkaaTagAw
import Derived.Test.YtfioapdbibggkaaTagL
namespace Go.Proofs.Ytfioapdbibggkaa
open Go.RowKit

theorem info_tag : (Try.prog.info? 23).map (fun i => (i.zero, i.size, i.bytes)) = some (some (.agg #[.int .i64 0, .int .i64 0, .int .i64 0, .int .i64 0]), 4, 32) := by kernel_rfl

/-- append onto a row of one's own, from a slice of tags that is not empty. -/
theorem wpList_appendT {P : Program} (w : World) {ops : Array Oper} {rest : List Oper} {o : Oper} {a : Act} {Q : Exit → Act → World → Prop} (hgd : o.guard = none) (s x : Operand) (t : TypeId)
    (ho : o.op = .call { callee := .builtin .append, args := #[s, x], argTypes := #[t, t] })
    (base : Nat) (e : TypeId) (i : TypeInfo) (ht : P.underlying t = some (.slice e)) (hi : P.info? e = some i) (hz : i.zero = some (.agg #[.int .i64 0, .int .i64 0, .int .i64 0, .int .i64 0])) (hsize : i.size = 4) (hby : i.bytes = 32)
    (v : Value) (n : Nat) (l : List Tg) (hs : a.eval s = v) (hown : w.ownsRow base e 4 v n (TC l))
    (A : Option Addr) (m c : Nat) (k : List Tg) (hx : a.eval x = .slice A m c) (hr : RT w A m k) (hm : 0 < m)
    (h63 : n + m ≤ 1099511627776) (hbase : base ≤ w.heap.size)
    (h : ∀ v' w', w'.ownsRow base e 4 v' (n + m) (TC (l ++ k)) → w.grownBy w' v.ownBlock → wpList P ops Q rest (a.put o.dst v') w') : wpList P ops Q (o :: rest) a w := by
  obtain ⟨b, off, rfl, hb, hc⟩ := hr.2 hm
  refine wpList_append_own w hgd s x t ho base e i _ 4 32 ht hi hz hsize hby rfl (by decide) v n (TC l) hs hown ⟨b, off, none⟩ m c (TC k) hx (by rw [TC_length, hr.len]) ?_ (TC_one k) (by unfold maxLen; omega) (by omega) hbase ?_
  · intro j u hu
    have hj : j < m * 4 := by
      rcases Nat.lt_or_ge j (TC k).length with h1 | h1
      · rw [TC_length, hr.len] at h1; exact h1
      · rw [List.getElem?_eq_none h1] at hu; cases hu
    have h1 := hc j hj
    rw [hu] at h1
    have e2 : ((⟨b, off, none⟩ : Addr).add j) = ⟨b, off + j, none⟩ := by unfold Addr.add; split <;> simp_all
    rw [e2]
    exact h1
  · intro v' w' h1 h2 _
    exact h v' w' (by rw [TC_append]; exact h1) h2
theorem own_form4 {w : World} {base : Nat} {e : TypeId} {v : Value} {n : Nat} {xs : List Value} (h : w.ownsRow base e 4 v n xs) : ∃ A c, v = .slice A n c := by
  rcases h.2 with ⟨rfl, rfl⟩ | ⟨g, cap, cur, hv, _⟩
  · exact ⟨_, _, rfl⟩
  · exact ⟨_, _, hv⟩

set_option maxRecDepth 100000 in
set_option maxHeartbeats 4000000 in
theorem TagParts_walk (A B : Option Addr) (n c m d : Nat) (a b : List Tg) (w : World) (ha : RT w A n a) (hb : RT w B m b) (hn : n ≤ 9223372036854775807) (hm : m ≤ 9223372036854775807) :
    Calls Try.prog 6 #[.slice A n c, .slice B m d] w (Gives (.bool true) w) := by
  have HA := Lib.hid ha
  have HB := Lib.hid hb
  have la := Lib.hid ha.len
  have lb := Lib.hid hb.len
  clear ha hb
  go_enter Try.func6, Try.ntmps6
  go_wp2_with fail
  refine (awake7_any _).mono ?_
  rintro _ w1 ⟨rfl, h1⟩
  have B1 := Lib.hid h1
  clear h1
  by_cases hn1 : 100 < n
  · go_wp2
    go_ret
    exact ⟨rfl, B1.out⟩
  · have e1 : decide ((100 : Int) < (n : Int)) = false := decide_eq_false (by omega)
    by_cases hm1 : 100 < m
    · go_wp2
      go_ret
      exact ⟨rfl, B1.out⟩
    · have e2 : decide ((100 : Int) < (m : Int)) = false := decide_eq_false (by omega)
      by_cases hn0 : n = 0
      · subst hn0
        go_wp2
        go_ret
        exact ⟨rfl, B1.out⟩
      · have e3 : ((n : Int) == 0) = false := beq_eq_false_iff_ne.2 (by omega)
        by_cases hm0 : m = 0
        · subst hm0
          go_wp2
          go_ret
          exact ⟨rfl, B1.out⟩
        · have e4 : ((m : Int) == 0) = false := beq_eq_false_iff_ne.2 (by omega)
          obtain ⟨i0, ti, tz0, tz1, tz2⟩ := info_parts info_tag
          go_wp2_with fail
          refine (Latest_some _ n _ a _ (HA.out.below B1.out) (by omega) (by omega)).mono ?_
          rintro _ w2 ⟨i, hi, hL, rfl, h2⟩
          have B2 := Lib.hid (below_step B1.out h2)
          have LA := Lib.hid hL
          clear h2 hL
          go_wp2_with fail
          refine (Latest_some _ m _ b _ (HB.out.below B2.out) (by omega) (by omega)).mono ?_
          rintro _ w3 ⟨k, hk, hL, rfl, h3⟩
          have B3 := Lib.hid (below_step B2.out h3)
          have LB := Lib.hid hL
          clear h3 hL
          go_wp2_with (at_builtin; refine wpList_appendT _ rfl (.tmp 42) (.tmp 43) _ rfl w3.heap.size 23 i0 Try.underlying37 ti tz0 tz1 tz2 (.slice (some ⟨w3.heap.size, 0, none⟩) 0 0) 0 [] rfl (World.ownsRow_made w3 #[] 0 (Nat.le_refl _) (by simp only [maxLen]; omega) rfl) A n c a rfl ((HA.out.below B3.out).alloc _) (by omega) (by omega) (by simp) ?_)
          intro v4 w4 hown hg
          have HO4 := Lib.hid (show w4.ownsRow w3.heap.size 23 4 v4 n (TC a) by simpa using hown)
          have D4 := Lib.hid (show Below w3.heap.size w3 w4 from ((Below.refl _ _).alloc (Nat.le_refl _) _).grown hg (by simp) (by simp [Value.ownBlock]))
          clear hown hg
          go_wp2_with (at_builtin; refine wpList_appendT _ rfl (.tmp 44) (.tmp 45) _ rfl w3.heap.size 23 i0 Try.underlying37 ti tz0 tz1 tz2 v4 n a rfl HO4.out B m d b rfl ((HB.out.below B3.out).below D4.out) (by omega) (by omega) D4.out.size ?_)
          intro v5 w5 hown hg
          obtain ⟨A5, c5, rfl⟩ := own_form4 hown
          have H5 := Lib.hid (RT.own hown)
          have D5 := Lib.hid (show Below w3.heap.size w3 w5 from D4.out.grown hg D4.out.size (fun j hj => (HO4.out.lt j hj).1))
          have B5 := Lib.hid (below_step B3.out D5.out)
          clear hown hg HO4 D4 D5
          go_wp2_with fail
          refine (Latest_some _ (n + m) _ (a ++ b) _ H5.out (by omega) (by omega)).mono ?_
          rintro _ w6 ⟨r, hr, hL, rfl, h6⟩
          have B6 := Lib.hid (below_step B5.out h6)
          clear h6 H5
          obtain ⟨b1, o1, x, rfl, _, HX, c0, c1, c2, c3⟩ := (HA.out.below B6.out).at_ hi
          obtain ⟨b2, o2, y, rfl, _, HY, d0, d1, d2, d3⟩ := (HB.out.below B6.out).at_ hk
          have hcase : r = if x.q < y.q then n + k else i := by
            have h7 := LateTo.parts (a := a) (b := b) (by rw [la.out]; exact LA.out) (by rw [lb.out]; exact LB.out) HX.out HY.out
            rw [List.length_append, la.out, lb.out] at h7
            exact hL.one h7 hr (by split <;> omega)
          clear hL c0 c1 c3 d0 d1 d3 LA LB HX HY
          have f1 : decide ((i : Int) < 0) = false := decide_eq_false (by omega)
          have f2 : decide (n ≤ i) = false := decide_eq_false (by omega)
          have f3 : decide ((k : Int) < 0) = false := decide_eq_false (by omega)
          have f4 : decide (m ≤ k) = false := decide_eq_false (by omega)
          obtain ⟨xk, xs, xq, xe⟩ := x
          obtain ⟨yk, ys, yq, ye⟩ := y
          simp only at hcase c2 d2
          by_cases hq : xq < yq
          · rw [if_pos hq] at hcase
            subst hcase
            go_wp2
            go_quiet (fail)
            go_wp2
            go_ret
            exact ⟨by simp [go_sem], below_drewN B6.out _⟩
          · rw [if_neg hq] at hcase
            subst hcase
            have hq2 : decide (xq < yq) = false := decide_eq_false hq
            go_wp2
            go_quiet (fail)
            go_wp2
            go_ret
            exact ⟨by simp [go_sem], below_drewN B6.out _⟩
end Go.Proofs.Ytfioapdbibggkaa
