/-
  The walk of the law CycleParts over the landed code, out of its callees' contracts.
-/
import Derived.Test.YtfbldlbhhaidpaaCycAw
import Derived.Test.YtfbldlbhhaidpaaCycC
import Derived.Test.YtfbldlbhhaidpaaCycG
namespace Go.Proofs.Ytfbldlbhhaidpaa
open Go.RowKit
set_option maxRecDepth 100000

set_option maxHeartbeats 4000000 in
theorem CycleParts_walk (A B : Option Addr) (n c m d : Nat) (a b : List Cy) (w : World) (ha : RC w A n a) (hb : RC w B m b) (hn : n ≤ 9223372036854775807) (hm : m ≤ 9223372036854775807) (hA : A = none → c = 0) (hB : B = none → d = 0) :
    Calls Try.prog 6 #[.slice A n c, .slice B m d] w (Gives (.bool true) w) := by
  have HA := Lib.hid ha
  have HB := Lib.hid hb
  have la := Lib.hid ha.len
  have lb := Lib.hid hb.len
  have HAN := Lib.hid hA
  have HBN := Lib.hid hB
  clear ha hb hA hB
  obtain ⟨i0, ti, tz0, tz1, tz2⟩ := info_parts info_cycle
  go_enter Try.func6, Try.ntmps6
  go_wp2_with fail
  refine (awake10_any _).mono ?_
  rintro _ w1 ⟨rfl, h1⟩
  have B1 := Lib.hid h1
  clear h1
  by_cases hn1 : 200 < n
  · go_wp2
    go_ret
    exact ⟨rfl, B1.out⟩
  · have e1 : decide ((200 : Int) < (n : Int)) = false := decide_eq_false (by omega)
    by_cases hm1 : 200 < m
    · go_wp2
      go_ret
      exact ⟨rfl, B1.out⟩
    · have e2 : decide ((200 : Int) < (m : Int)) = false := decide_eq_false (by omega)
      by_cases hn0 : n = 0
      · subst hn0
        go_wp2
        go_ret
        exact ⟨rfl, B1.out⟩
      · have e3 : ((n : Int) == 0) = false := beq_eq_false_iff_ne.2 (by omega)
        by_cases hm0 : m = 0
        · subst hm0
          go_wp2
          go_ret
          exact ⟨rfl, B1.out⟩
        · have e4 : ((m : Int) == 0) = false := beq_eq_false_iff_ne.2 (by omega)
          go_wp2_with fail
          refine (lawRight_any A n c a _ (HA.out.below B1.out) (by omega)).mono ?_
          rintro _ w2 ⟨rfl, h2⟩
          have B2 := Lib.hid (below_step B1.out h2)
          clear h2
          cases hoa : okC a
          · go_wp2
            go_ret
            exact ⟨rfl, B2.out⟩
          · go_wp2_with fail
            refine (lawRight_any B m d b _ (HB.out.below B2.out) (by omega)).mono ?_
            rintro _ w3 ⟨rfl, h3⟩
            have B3 := Lib.hid (below_step B2.out h3)
            clear h3
            cases hob : okC b
            · go_wp2
              go_ret
              exact ⟨rfl, B3.out⟩
            · have hka := okC_iff.1 hoa
              have hkb := okC_iff.1 hob
              have hoab : okC (a ++ b) = true := by rw [okC_append, hoa, hob]; rfl
              have hkab := okC_iff.1 hoab
              have h256a := HA.out.b256
              have h256b := HB.out.b256
              have h256 : ∀ t ∈ a ++ b, t.b < 256 := by
                intro t ht
                rcases List.mem_append.1 ht with h | h
                · exact h256a t h
                · exact h256b t h
              have hane : a ≠ [] := by intro h; have := la.out; rw [h] at this; simp at this; omega
              have hbne : b ≠ [] := by intro h; have := lb.out; rw [h] at this; simp at this; omega
              have lta := textL_length a
              have ltb := textL_length b
              have ltab := textL_length (a ++ b)
              rw [la.out] at lta
              rw [lb.out] at ltb
              rw [List.length_append, la.out, lb.out] at ltab
              have hcat : textL a ++ [32] ++ textL b = textL (a ++ b) := by rw [textL_append a b hane hbne]; simp
              have q0 : ∀ w, (Op.stringOp .add (str (textL a)) ⟨#[32]⟩).run Try.prog w = .ok (.string (str (textL a ++ [32]))) w := str_cat (textL a) [32] (by simp only [List.length_cons, List.length_nil]; omega)
              have q1 := str_cat (textL a ++ [32]) (textL b) (by simp only [List.length_append, List.length_cons, List.length_nil]; omega)
              have q2 := str_cat (textL a) (textL b) (by omega)
              rw [hcat] at q1
              have hz := bl_str (l := textL (a ++ b)) (fun x hx => by have := textL_lt h256 x hx; omega)
              have hv := bl_str (l := textL a ++ textL b) (fun x hx => by
                rcases List.mem_append.1 hx with h | h
                · have := textL_lt h256a x h; omega
                · have := textL_lt h256b x h; omega)
              have FZ := Lib.hid (show faultL (bl (str (textL (a ++ b)))) = 0 by rw [hz, faultL_text hkab h256])
              have PZ := Lib.hid (show parseL (bl (str (textL (a ++ b)))) = a ++ b by rw [hz, parseL_text hkab h256])
              have FV := Lib.hid (show faultL (bl (str (textL a ++ textL b))) = n * 4 - 1 + 1 by rw [hv, faultL_two hane hbne hka h256a, lta])
              have hxs : (str (textL a)).size = n * 4 - 1 := by rw [str_size, lta]
              have hzs : (str (textL (a ++ b))).size ≤ 67108864 := by rw [str_size, ltab]; omega
              have hvs : (str (textL a ++ textL b)).size ≤ 67108864 := by rw [str_size, List.length_append, lta, ltb]; omega
              obtain ⟨x, hx⟩ : ∃ x, Hid (str (textL a) = x) := ⟨_, Lib.hid rfl⟩
              obtain ⟨y, hy⟩ : ∃ x, Hid (str (textL b) = x) := ⟨_, Lib.hid rfl⟩
              obtain ⟨v0, hv0⟩ : ∃ x, Hid (str (textL a ++ [32]) = x) := ⟨_, Lib.hid rfl⟩
              obtain ⟨z, hz0⟩ : ∃ x, Hid (str (textL (a ++ b)) = x) := ⟨_, Lib.hid rfl⟩
              obtain ⟨v2, hv2⟩ : ∃ x, Hid (str (textL a ++ textL b) = x) := ⟨_, Lib.hid rfl⟩
              rw [hx.out, hv0.out] at q0
              rw [hv0.out, hy.out, hz0.out] at q1
              rw [hx.out, hy.out, hv2.out] at q2
              rw [hz0.out] at FZ PZ hzs
              rw [hv2.out] at FV hvs
              rw [hx.out] at hxs
              have OA := Lib.hid hoa
              have OB := Lib.hid hob
              have OAB := Lib.hid hoab
              clear hka hkb hkab h256a h256b h256 hane hbne hcat hz hv hoa hob hoab lta ltb ltab hv0 hv2
              obtain ⟨N, hN⟩ : ∃ N, Hid (n * 4 - 1 = N) := ⟨_, Lib.hid rfl⟩
              rw [hN.out] at hxs FV
              have hNb : N ≤ 1000 := by have := hN.out; omega
              go_wp2_with (at_builtin; refine wpList_appendC _ rfl (.tmp 48) (.tmp 49) _ rfl w3.heap.size 31 i0 Try.underlying22 ti tz0 tz1 tz2 (.slice (some ⟨w3.heap.size, 0, none⟩) 0 0) 0 [] rfl (World.ownsRow_made w3 #[] 0 (Nat.le_refl _) (by simp only [maxLen]; omega) rfl) A n c a rfl HAN.out ((HA.out.below B3.out).alloc _) (by omega) (by simp) ?_)
              intro v4 w4 hown hg
              have HO4 := Lib.hid (show w4.ownsRow w3.heap.size 31 2 v4 n (CyC a) by simpa using hown)
              have D4 := Lib.hid (show Below w3.heap.size w3 w4 from ((Below.refl _ _).alloc (Nat.le_refl _) _).grown hg (by simp) (by simp [Value.ownBlock]))
              clear hown hg
              go_wp2_with (at_builtin; refine wpList_appendC _ rfl (.tmp 50) (.tmp 51) _ rfl w3.heap.size 31 i0 Try.underlying22 ti tz0 tz1 tz2 v4 n a rfl HO4.out B m d b rfl HBN.out ((HB.out.below B3.out).below D4.out) (by omega) D4.out.size ?_)
              intro v5 w5 hown hg
              obtain ⟨A5, c5, rfl⟩ := own_form2 hown
              have R5 := Lib.hid (RC.own hown (fun t ht => by
                rcases List.mem_append.1 ht with h | h
                · exact HA.out.in_ t h
                · exact HB.out.in_ t h))
              have D5 := Lib.hid (show Below w3.heap.size w3 w5 from D4.out.grown hg D4.out.size (fun j hj => (HO4.out.lt j hj).1))
              have B5 := Lib.hid (below_step B3.out D5.out)
              clear hown hg HO4 D4 D5
              go_wp2_with fail
              refine (Text_any A n c a _ (HA.out.below B5.out) (by omega)).mono ?_
              rintro _ w6 ⟨h6, ⟨_, rfl⟩ | ⟨h, _⟩⟩
              case inr => rw [OA.out] at h; cases h
              rw [hx.out]
              have B6 := Lib.hid (below_step B5.out h6)
              have R6 := Lib.hid (R5.out.below h6)
              clear h6 R5
              go_wp2_with fail
              refine (Text_any B m d b _ (HB.out.below B6.out) (by omega)).mono ?_
              rintro _ w7 ⟨h7, ⟨_, rfl⟩ | ⟨h, _⟩⟩
              case inr => rw [OB.out] at h; cases h
              rw [hy.out]
              have B7 := Lib.hid (below_step B6.out h7)
              have R7 := Lib.hid (R6.out.below h7)
              clear h7 R6
              go_wp2_with fail
              refine (Text_any A5 (n + m) c5 (a ++ b) _ R7.out (by omega)).mono ?_
              rintro _ w8 ⟨h8, ⟨_, rfl⟩ | ⟨h, _⟩⟩
              case inr => rw [OAB.out] at h; cases h
              rw [hz0.out]
              have B8 := Lib.hid (below_step B7.out h8)
              have R8 := Lib.hid (R7.out.below h8)
              clear h8 R7
              go_wp2_with fail
              refine (Parse_any z _ hzs).mono ?_
              rintro _ w9 ⟨h9, ⟨h, _⟩ | ⟨_, A9, c9, rfl, r9, _⟩⟩
              case inl => rw [FZ.out] at h; omega
              rw [PZ.out, List.length_append, la.out, lb.out] at r9 ⊢
              have R9 := Lib.hid r9
              have B9 := Lib.hid (below_step B8.out h9)
              have R8 := Lib.hid (R8.out.below h9)
              clear h9 r9
              go_wp2_with fail
              refine (Parse_any v2 _ hvs).mono ?_
              rintro _ wa ⟨ha, ⟨_, rfl⟩ | ⟨h, _⟩⟩
              case inr => rw [FV.out] at h; omega
              rw [FV.out]
              have BA := Lib.hid (below_step B9.out ha)
              have RA := Lib.hid (R8.out.below ha)
              have R9 := Lib.hid (R9.out.below ha)
              clear ha R8
              have eN : ((N + 1 : Nat) : Int) = (N : Int) + 1 := by omega
              go_wp2_with fail
              refine (RefSameC_any A9 A5 (n + m) c9 (n + m) c5 _ _ _ R9.out RA.out (by omega) (by omega)).mono ?_
              rintro _ wb ⟨rfl, hb⟩
              rw [sameC_self]
              have BB := Lib.hid (below_step BA.out hb)
              clear hb
              go_wp2
              go_ret
              exact ⟨by simp, BB.out⟩
end Go.Proofs.Ytfbldlbhhaidpaa
