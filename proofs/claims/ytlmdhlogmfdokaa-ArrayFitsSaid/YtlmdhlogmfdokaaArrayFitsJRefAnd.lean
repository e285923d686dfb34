/-
  Contracts of the document's own And (package incunableref01), over the landed code's translation.
-/
import Derived.StillTailTactics
import Derived.Deep.RegionLaw
import Derived.Deep.AppendLies
import Derived.Test.YtlmdhlogmfdokaaArrayFitsJ3
import Derived.Test.YtlmdhlogmfdokaaArrayFitsJ2
namespace Go.Proofs.Ytlmdhlogmfdokaa
open Go.RowKit
set_option maxRecDepth 100000

theorem bis_range (bs : List Bool) : ∀ x ∈ bis bs, -9223372036854775808 ≤ x ∧ x ≤ 9223372036854775807 := by
  intro x hx
  simp only [bis, List.mem_map] at hx
  obtain ⟨v, _, rfl⟩ := hx
  have := bi_01 v
  omega
theorem bis_at {w : World} {A : Option Addr} {n k : Nat} {bs : List Bool} (h : R64 w A n (bis bs)) (hk : k < n) :
    ∃ b off y, A = some ⟨b, off, none⟩ ∧ b < w.heap.size ∧ Hid (bs[k]? = some y) ∧ 0 ≤ bi y ∧ bi y ≤ 1 ∧ w.cell? ⟨b, off + k, none⟩ = some (.int .i64 (bi y)) := by
  obtain ⟨b, off, x, rfl, hb, HX, _, _, hc⟩ := h.at_ hk
  have hx := HX.out
  unfold bis at hx
  rw [List.getElem?_map] at hx
  rcases e : bs[k]? with _ | y
  · rw [e] at hx; cases hx
  · rw [e] at hx
    injection hx with hx
    subst hx
    exact ⟨b, off, y, rfl, hb, rfl, (bi_01 y).1, (bi_01 y).2, hc⟩
theorem getD_t {bs : List Bool} {k : Nat} {y : Bool} (h : bs[k]? = some y) (d : Bool) : bs.getD k d = y := by rw [List.getD_eq_getElem?_getD, h]; rfl
theorem getD_f {bs : List Bool} {k : Nat} (h : bs.length ≤ k) (d : Bool) : bs.getD k d = d := by rw [List.getD_eq_getElem?_getD, List.getElem?_eq_none h]; rfl
theorem bi_mul (p q : Bool) : bi p * bi q = bi (p && q) := by cases p <;> cases q <;> rfl

set_option maxHeartbeats 2000000 in
theorem RefAnd_owns (A B : Option Addr) (n c m d : Nat) (a b : List Nat) (w : World) (ha : R8 w A n a) (hb : R8 w B m b) (hn : n ≤ 1099511627776) (hm : m ≤ 1099511627776) :
    Calls Try.prog 41 #[.slice A n c, .slice B m d] w (OwnsB 5 (andL a b) w) := by
  obtain ⟨i0, ti, tz0, tz1, tz2⟩ := info_parts info_int
  have la := Lib.hid ha.len
  have lb := Lib.hid hb.len
  have ha256 := Lib.hid ha.2
  have HA := Lib.hid ha
  have HB := Lib.hid hb
  clear ha hb
  go_enter Try.func41, Try.ntmps41
  go_wp2_with fail
  refine (List_any _ _ _ a _ HA.out hn).mono ?_
  rintro e w1 ⟨A1, c1, rfl, hown1, hb1⟩
  have e1 : (bis (bitsB a)).length = 8 * n := by rw [bis_length, bitsB_length, la.out]
  rw [e1] at hown1
  rw [e1]
  clear e1
  have R1 := Lib.hid (show R64 w1 A1 (8 * n) (bis (bitsB a)) from ⟨Rd.own hown1, bis_range _⟩)
  have B1 := Lib.hid hb1
  have HB1 := Lib.hid (HB.out.below hb1)
  clear hown1 hb1
  go_wp2_with fail
  refine (List_any _ _ _ b _ HB1.out hm).mono ?_
  rintro e w2 ⟨A2, c2, rfl, hown2, hb2⟩
  have e1 : (bis (bitsB b)).length = 8 * m := by rw [bis_length, bitsB_length, lb.out]
  rw [e1] at hown2
  rw [e1]
  clear e1
  have R2 := Lib.hid (show R64 w2 A2 (8 * m) (bis (bitsB b)) from ⟨Rd.own hown2, bis_range _⟩)
  have R12 := Lib.hid (R1.out.below hb2)
  have C2 := Lib.hid (below_step B1.out hb2)
  clear hown2 hb2 R1 B1 HB1 HA HB
  have hl1 := Lib.hid (show (bitsB a).length = 8 * n by rw [bitsB_length, la.out])
  have hl2 := Lib.hid (show (bitsB b).length = 8 * m by rw [bitsB_length, lb.out])
  obtain ⟨L, hL⟩ : ∃ L, L = 8 * n := ⟨_, rfl⟩
  obtain ⟨M, hM⟩ : ∃ M, M = 8 * m := ⟨_, rfl⟩
  rw [← hL] at R12 hl1 ⊢
  rw [← hM] at R2 hl2 ⊢
  have hLn : L ≤ 8796093022208 := by omega
  have hMn : M ≤ 8796093022208 := by omega
  have HL := Lib.hid hL
  have HM := Lib.hid hM
  clear hL hM
  go_wp2
  go_loopw [7, 8] (fun v i wr => ∃ k : Nat, k ≤ max L M ∧ i = .int .i64 k ∧ Hid (wr.ownsRow w2.heap.size 3 1 v k (I64 (bis (andBTo (bitsB a) (bitsB b) k)))) ∧ Hid (Below w2.heap.size w2 wr)) (fun _ i _ => max L M - (intOf i).toNat)
  case atStart => exact ⟨0, Nat.zero_le _, rfl, World.ownsRow_nil _ _ _ _, Below.refl _ _⟩
  case round =>
    obtain ⟨k, hk, rfl, HO, HBr⟩ := hrel
    have RX := Lib.hid (R12.out.below HBr.out)
    have RY := Lib.hid (R2.out.below HBr.out)
    by_cases h1 : k < L
    · obtain ⟨b1, o1, x, rfl, g1, HX, hx0, hx1, hc1⟩ := bis_at RX.out h1
      have d1 : decide ((k : Int) < (L : Int)) = true := decide_eq_true (by omega)
      by_cases h2 : k < M
      · obtain ⟨b2, o2, y, rfl, g2, HY, hy0, hy1, hc2⟩ := bis_at RY.out h2
        obtain ⟨A7, c7, rfl⟩ := own_form HO.out
        have HZ := Lib.hid (show andBTo (bitsB a) (bitsB b) (k + 1) = andBTo (bitsB a) (bitsB b) k ++ [x && y] by
          rw [andBTo_succ, andB, getD_t HX.out, getD_t HY.out])
        go_wp2
        have q0 : IntKind.i64.wrap (bi x * bi y) = bi (x && y) := by rw [bi_mul]; exact IntWalk.i64_in _ (by have := bi_01 (x && y); omega)
        have HN := Lib.hid (show ∀ j u, [Value.int .i64 (bi (x && y))][j]? = some u → ((wr.alloc (.cells #[.int .i64 (bi (x && y))] 3)).drew).cell? ((⟨wr.heap.size, 0, none⟩ : Addr).add j) = some u from one_new wr _ _)
        have HOn := Lib.hid (show ((wr.alloc (.cells #[.int .i64 (bi (x && y))] 3)).drew).ownsRow w2.heap.size 3 1 (.slice A7 k c7) k (I64 (bis (andBTo (bitsB a) (bitsB b) k))) from HO.out.alloc _)
        have HSZ := HBr.out.size
        go_region_law ((refine step_append_lies _ rfl (.tmp 47) (.tmp 57) 24 rfl w2.heap.size 3 i0 _ 1 8 Try.underlying24 ti tz0 tz1 tz2 rfl (by decide) (.slice A7 k c7) k _ (by simp [Act.eval]) HOn.out ⟨wr.heap.size, 0, none⟩ 1 1 [Value.int .i64 (bi (x && y))] (by simp [Act.eval]) rfl HN.out (by simp [Value.oneCell']) (by decide) (by unfold maxLen; omega) (by omega) (by simp; omega) _ rfl ?_; intro g cap w3 hown' hgrow _ _; have HO2 := Lib.hid (show w3.ownsRow w2.heap.size 3 1 (.slice (some ⟨g, 0, none⟩) (k + 1) cap) (k + 1) (I64 (bis (andBTo (bitsB a) (bitsB b) (k + 1)))) by rw [HZ.out, bis_append, I64_append]; exact hown'); have HB2 := Lib.hid (((HBr.out.alloc HSZ _).drew).grown hgrow (by simp; omega) (fun j hj => (HO.out.lt j hj).1)); clear hown' hgrow))
        all_goals
          clear q0 hc1 hc2
          go_wp2
          go_roundw
          case rel => exact ⟨k + 1, by omega, by go_num, HO2, HB2⟩
          case measure => simp [intOf]; omega
      · have HZ := Lib.hid (show andBTo (bitsB a) (bitsB b) (k + 1) = andBTo (bitsB a) (bitsB b) k ++ [x] by
          rw [andBTo_succ, andB, getD_t HX.out, getD_f (by rw [hl2.out]; omega), Bool.and_true])
        have h2' : (M : Int) ≤ (k : Int) := by omega
        go_wp2_with (at_builtin; refine wpList_append_own _ rfl (.tmp 40) (.tmp 45) _ rfl w2.heap.size 3 i0 _ 1 8 Try.underlying24 ti tz0 tz1 tz2 rfl (by decide) _ _ _ rfl (HO.out.alloc _) ⟨wr.heap.size, 0, none⟩ 1 1 [_] rfl rfl (one_new _ _ _) ?c5 ?c6 ?c7 ?c8 ?_)
        case c5 => first | rfl | (intro u hu; simp at hu; subst hu; rfl)
        case c6 => unfold maxLen; omega
        case c7 => omega
        case c8 => have := HBr.out.size; simp; omega
        · intro v' w3 hown' hgrow _
          have HO2 := Lib.hid (show w3.ownsRow w2.heap.size 3 1 v' (k + 1) (I64 (bis (andBTo (bitsB a) (bitsB b) (k + 1)))) by
            rw [HZ.out, bis_append, I64_append]
            exact hown')
          have HB2 := Lib.hid ((HBr.out.alloc HBr.out.size _).grown hgrow (by have := HBr.out.size; simp; omega) (fun j hj => (HO.out.lt j hj).1))
          clear hown' hgrow
          go_wp2
          go_roundw
          case rel => exact ⟨k + 1, by omega, by go_num, HO2, HB2⟩
          case measure => simp [intOf]; omega
    · have d1 : decide ((k : Int) < (L : Int)) = false := decide_eq_false (by omega)
      have h1' : (L : Int) ≤ (k : Int) := by omega
      by_cases h2 : k < M
      · obtain ⟨b2, o2, y, rfl, g2, HY, hy0, hy1, hc2⟩ := bis_at RY.out h2
        have HZ := Lib.hid (show andBTo (bitsB a) (bitsB b) (k + 1) = andBTo (bitsB a) (bitsB b) k ++ [y] by
          rw [andBTo_succ, andB, getD_t HY.out, getD_f (by rw [hl1.out]; omega), Bool.true_and])
        go_wp2_with (at_builtin; refine wpList_append_own _ rfl (.tmp 29) (.tmp 34) _ rfl w2.heap.size 3 i0 _ 1 8 Try.underlying24 ti tz0 tz1 tz2 rfl (by decide) _ _ _ rfl (HO.out.alloc _) ⟨wr.heap.size, 0, none⟩ 1 1 [_] rfl rfl (one_new _ _ _) ?c9 ?c10 ?c11 ?c12 ?_)
        case c9 => first | rfl | (intro u hu; simp at hu; subst hu; rfl)
        case c10 => unfold maxLen; omega
        case c11 => omega
        case c12 => have := HBr.out.size; simp; omega
        · intro v' w3 hown' hgrow _
          have HO2 := Lib.hid (show w3.ownsRow w2.heap.size 3 1 v' (k + 1) (I64 (bis (andBTo (bitsB a) (bitsB b) (k + 1)))) by
            rw [HZ.out, bis_append, I64_append]
            exact hown')
          have HB2 := Lib.hid ((HBr.out.alloc HBr.out.size _).grown hgrow (by have := HBr.out.size; simp; omega) (fun j hj => (HO.out.lt j hj).1))
          clear hown' hgrow
          go_wp2
          go_roundw
          case rel => exact ⟨k + 1, by omega, by go_num, HO2, HB2⟩
          case measure => simp [intOf]; omega
      · obtain ⟨A5, c5, rfl⟩ := own_form HO.out
        have d2 : decide ((k : Int) < (M : Int)) = false := decide_eq_false (by omega)
        have HE := Lib.hid (show k = 8 * max a.length b.length by have := la.out; have := lb.out; have := HL.out; have := HM.out; omega)
        have R5 := Lib.hid (show R64 wr A5 k (bis (andBTo (bitsB a) (bitsB b) k)) from ⟨Rd.own HO.out, bis_range _⟩)
        go_wp2_with fail
        refine (Of_owns _ _ _ (andBTo (bitsB a) (bitsB b) k) _ R5.out (by omega)).mono ?_
        intro e w4 hM
        rw [show k / 8 = max a.length b.length by have := HE.out; omega, HE.out, andB_eq a b ha256.out] at hM
        obtain ⟨A6, c6, rfl, hr6, hb6⟩ := hM
        have H6 := Lib.hid (own_down hr6 (below_step C2.out HBr.out).size)
        have B6 := Lib.hid hb6
        clear hr6 hb6
        go_wp2
        go_ret
        exact ⟨A6, c6, rfl, H6.out, below_step (below_step C2.out HBr.out) B6.out⟩
end Go.Proofs.Ytlmdhlogmfdokaa
