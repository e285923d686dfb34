/-
  Contract of bits.Flip, over the landed code.
-/
import Derived.StillTailTactics
import Derived.Test.YtgiihdeilkiphaaLadderFitsJ3
namespace Go.Proofs.Ytgiihdeilkiphaa
open Go.RowKit
set_option maxRecDepth 100000

set_option maxHeartbeats 1000000 in
theorem Flip_any (A P : Option Addr) (n c m d : Nat) (l : List Nat) (ps : List Int) (w : World) (hr : R8 w A n l) (hp : R64 w P m ps) (hn : n ≤ 1099511627776) (hm : m ≤ 1099511627776) :
    Calls Try.prog 75 #[.slice A n c, .slice P m d] w (OwnsB 5 (flips l ps) w) := by
  have hlen := Lib.hid hr.len
  have hplen := Lib.hid hp.len
  go_enter Try.func75, Try.ntmps75
  go_wp2_with (go_at_call 74; refine (Clone_any _ _ _ l _ hr hn).mono ?_; rintro e w1 ⟨A1, c1, rfl, hown1, hb1⟩)
  rw [hlen.out] at hown1
  have e1 := hlen.out
  rw [e1]
  clear e1
  have HO := Lib.hid hown1
  have HB := Lib.hid hb1
  clear hown1 hb1
  go_wp2
  go_loopw [12] (fun i wr => ∃ k : Nat, k ≤ m ∧ i = .int .i64 k ∧ Hid (wr.ownsRow w.heap.size 5 1 (.slice A1 n c1) n (U8 (flips l (ps.take k)))) ∧ Hid (Below w.heap.size w wr)) (fun i _ => m - (intOf i).toNat)
  case atStart => exact ⟨0, Nat.zero_le _, rfl, HO, HB⟩
  case round =>
    obtain ⟨k, hk, rfl, HOr, HBr⟩ := hrel
    by_cases hlt : k < m
    · obtain ⟨b, off, i, rfl, hb, HX, hi0, hi1, hc0⟩ := hp.at_ hlt
      have hc : wr.cell? ⟨b, off + k, none⟩ = some (.int .i64 i) := (HBr.out.cell hb).trans hc0
      have HT := Lib.hid (show flips l (ps.take (k + 1)) = flip1 (flips l (ps.take k)) i by rw [take_snoc HX.out, flips_snoc])
      have HL := Lib.hid (show (flips l (ps.take k)).length = n by rw [flips_length, hlen.out])
      by_cases hi : 0 ≤ i ∧ i / 8 < n
      · obtain ⟨ha, hn8⟩ := hi
        obtain ⟨j, rfl⟩ := Int.eq_ofNat_of_zero_le ha
        have hj : j / 8 < n := by omega
        obtain ⟨g, rfl, hg1, hg2, hcell, hfz, hst⟩ := own_at HOr.out hj
        obtain ⟨y, hy, HY, hcell2⟩ : ∃ y, y < 256 ∧ Hid ((flips l (ps.take k))[j / 8]? = some y) ∧ wr.cell? ⟨g, j / 8, none⟩ = some (.int .u8 (y : Int)) := by
          have hll : j / 8 < (flips l (ps.take k)).length := by rw [HL.out]; exact hj
          refine ⟨(flips l (ps.take k))[j / 8], flips_lt l _ hr.2 _ (List.getElem_mem hll), List.getElem?_eq_getElem hll, ?_⟩
          rw [hcell, U8, List.getElem?_map, List.getElem?_eq_getElem hll]
          rfl
        have HST := Lib.hid hst
        clear hcell hst hc0
        go_wp2_with (first | (go_at_call 87; refine (has_yes _ _ _ _ _ (by omega) (by omega) (by omega)).mono ?_; rintro e w' ⟨rfl, rfl⟩))
        have q1 : IntKind.i64.wrap ((j : Int) / 8) = (j : Int) / 8 := IntWalk.i64_in _ (by omega)
        have q2 : 0 ≤ (j : Int) / 8 := by omega
        have q3 : ((j : Int) / 8).toNat = j / 8 := by omega
        have HR1 := Lib.hid (show ((wr.setCell ⟨g, j / 8, none⟩ (.int .u8 (bits .xor .u8 (y : Int) (mk8 j : Int)))).drew).ownsRow w.heap.size 5 1 (.slice (some ⟨g, 0, none⟩) n c1) n (U8 (flips l (ps.take (k + 1)))) from by
          rw [HT.out, flip1_yes _ j y HY.out, U8_set, ← u8_xor_nat y (mk8 j) hy (mk8_lt j)]
          exact HST.out 0 _)
        refine wp_region_still_tail 8 (by kernel_rfl) (by kernel_rfl) ?_
        simp only [List.take_succ_cons, List.take_zero, List.drop_succ_cons, List.drop_zero]
        repeat still_step
        still_call ((mask_any _ _ (by omega) (by omega)).mono (fun _ _ hh => ⟨hh.1, hh.2.symm⟩))
        repeat still_step
        refine wpStill_nil ?_
        change wpList _ _ _ _ _ wr.drew
        go_wp2
        clear q1 q2 q3
        go_roundw
        case rel => exact ⟨k + 1, by omega, by go_num, HR1, (HBr.out.setCell hg1 _).drew⟩
        case measure => simp [intOf]; omega
      · have HR2 := Lib.hid (show flips l (ps.take (k + 1)) = flips l (ps.take k) by rw [HT.out, flip1_no _ i (by rw [HL.out]; exact hi)])
        clear hc0
        go_wp2_with (first | (go_at_call 87; refine (has_no _ _ _ _ _ (by omega) (by omega) hi).mono ?_; rintro e w' ⟨rfl, rfl⟩))
        go_roundw
        case rel => exact ⟨k + 1, by omega, by go_num, by rw [HR2.out]; exact HOr, HBr⟩
        case measure => simp [intOf]; omega
    · have HE := Lib.hid (show flips l (ps.take k) = flips l ps by rw [List.take_of_length_le (by have := hplen.out; omega)])
      go_wp2
      go_ret
      have e2 : (flips l ps).length = n := by rw [flips_length, hlen.out]
      exact ⟨A1, c1, by rw [e2]; rfl, by rw [e2, ← HE.out]; exact HOr.out, HBr.out⟩

theorem OwnsB.makes {e0 : TypeId} {l : List Nat} {w w' : World} {e : Ending} (h : OwnsB e0 l w e w') (hl : ∀ x ∈ l, x < 256) : MakesB l w e w' := by
  obtain ⟨A, c, he, ho, hb⟩ := h
  exact ⟨A, c, he, ⟨Rd.own ho, hl⟩, hb⟩

theorem Flip_makes (A P : Option Addr) (n c m d : Nat) (l : List Nat) (ps : List Int) (w : World) (hr : R8 w A n l) (hp : R64 w P m ps) (hn : n ≤ 1099511627776) (hm : m ≤ 1099511627776) :
    Calls Try.prog 75 #[.slice A n c, .slice P m d] w (MakesB (flips l ps) w) :=
  (Flip_any A P n c m d l ps w hr hp hn hm).mono fun _ _ h => h.makes (flips_lt l ps hr.2)
end Go.Proofs.Ytgiihdeilkiphaa

/-
  Contract of the document's own Flip (package incunableref01), over the landed code's translation.
-/
namespace Go.Proofs.Ytgiihdeilkiphaa
open Go.RowKit
set_option maxRecDepth 100000

set_option maxHeartbeats 1000000 in
theorem RefFlip_owns (A P : Option Addr) (n c m d : Nat) (l : List Nat) (ps : List Int) (w : World) (hr : R8 w A n l) (hp : R64 w P m ps) (hn : n ≤ 1099511627776) (hm : m ≤ 1099511627776) :
    Calls Try.prog 45 #[.slice A n c, .slice P m d] w (OwnsB 5 (flips l ps) w) := by
  have hlen := Lib.hid hr.len
  have hplen := Lib.hid hp.len
  have hl256 := Lib.hid hr.2
  go_enter Try.func45, Try.ntmps45
  go_wp2_with (go_at_call 43; refine (List_any _ _ _ l _ hr hn).mono ?_; rintro e w1 ⟨A1, c1, rfl, hown1, hb1⟩)
  have e1 : (bis (bitsB l)).length = 8 * n := by rw [bis_length, bitsB_length, hlen.out]
  rw [e1] at hown1
  rw [e1]
  clear e1
  have HO := Lib.hid hown1
  have HB := Lib.hid hb1
  clear hown1 hb1 hr
  obtain ⟨L, hL⟩ : ∃ L, L = 8 * n := ⟨_, rfl⟩
  rw [← hL] at HO ⊢
  have hLn : L ≤ 8796093022208 := by omega
  have HL := Lib.hid hL
  clear hL
  go_wp2
  go_loopw [6] (fun i wr => ∃ k : Nat, k ≤ m ∧ i = .int .i64 k ∧ Hid (wr.ownsRow w.heap.size 3 1 (.slice A1 L c1) L (I64 (bis (flipsB (bitsB l) (ps.take k))))) ∧ Hid (Below w.heap.size w wr)) (fun i _ => m - (intOf i).toNat)
  case atStart => exact ⟨0, Nat.zero_le _, rfl, HO, HB⟩
  case round =>
    obtain ⟨k, hk, rfl, HOr, HBr⟩ := hrel
    have HLB := Lib.hid (show (flipsB (bitsB l) (ps.take k)).length = L by rw [flipsB_length, bitsB_length, hlen.out, HL.out])
    by_cases hlt : k < m
    · obtain ⟨b, off, i, rfl, hb, HX, hi0, hi1, hc0⟩ := hp.at_ hlt
      have hc : wr.cell? ⟨b, off + k, none⟩ = some (.int .i64 i) := (HBr.out.cell hb).trans hc0
      have HT := Lib.hid (show flipsB (bitsB l) (ps.take (k + 1)) = flipB (flipsB (bitsB l) (ps.take k)) i by rw [take_snoc HX.out, flipsB_snoc])
      clear hc0
      by_cases hi : 0 ≤ i ∧ i < L
      · obtain ⟨ha, hn8⟩ := hi
        obtain ⟨j, rfl⟩ := Int.eq_ofNat_of_zero_le ha
        have hj : j < L := by omega
        obtain ⟨g, rfl, hg1, hg2, hcell, hfz, hst⟩ := own_at HOr.out hj
        obtain ⟨y, HY, hcell2⟩ : ∃ y : Bool, Hid ((flipsB (bitsB l) (ps.take k))[j]? = some y) ∧ wr.cell? ⟨g, j, none⟩ = some (.int .i64 (bi y)) := by
          have hll : j < (flipsB (bitsB l) (ps.take k)).length := by rw [HLB.out]; exact hj
          refine ⟨(flipsB (bitsB l) (ps.take k))[j], List.getElem?_eq_getElem hll, ?_⟩
          rw [hcell, I64, bis, List.getElem?_map, List.getElem?_map, List.getElem?_eq_getElem hll]
          rfl
        have hbi := bi_01 y
        have HR1 := Lib.hid (show ((wr.setCell ⟨g, j, none⟩ (.int .i64 (1 - bi y))).drew).ownsRow w.heap.size 3 1 (.slice (some ⟨g, 0, none⟩) L c1) L (I64 (bis (flipsB (bitsB l) (ps.take (k + 1))))) from by
          have e : flipB (flipsB (bitsB l) (ps.take k)) (j : Int) = (flipsB (bitsB l) (ps.take k)).set j (!y) := by
            unfold flipB
            rw [if_pos ⟨by omega, by rw [HLB.out]; omega⟩, Int.toNat_natCast, List.getD_eq_getElem?_getD, HY.out]
            rfl
          have e2 : 1 - bi y = bi (!y) := by cases y <;> simp [bi]
          rw [HT.out, e, bis, List.map_set, I64_set, e2]
          exact hst 0 _)
        clear hcell hst
        have d1 : decide ((j : Int) < (L : Int)) = true := decide_eq_true (by omega)
        have d2 : decide (0 ≤ (j : Int)) = true := decide_eq_true (by omega)
        go_wp2
        have q1 : IntKind.i64.wrap (1 - bi y) = 1 - bi y := IntWalk.i64_in _ (by omega)
        refine wp_region_still_tail 13 (by kernel_rfl) (by kernel_rfl) ?_
        simp only [List.take_succ_cons, List.take_zero, List.drop_succ_cons, List.drop_zero]
        repeat still_step
        refine wpStill_nil ?_
        change wpList _ _ _ _ _ wr.drew
        go_wp2
        clear q1
        go_roundw
        case rel => exact ⟨k + 1, by omega, by go_num, HR1, (HBr.out.setCell hg1 _).drew⟩
        case measure => simp [intOf]; omega
      · have HR2 := Lib.hid (show flipsB (bitsB l) (ps.take (k + 1)) = flipsB (bitsB l) (ps.take k) by
          rw [HT.out]; unfold flipB; rw [if_neg (by rw [HLB.out]; exact hi)])
        by_cases hi2 : 0 ≤ i
        · have d1 : decide (i < (L : Int)) = false := decide_eq_false (by omega)
          have hge : (L : Int) ≤ i := by omega
          go_wp2
          go_roundw
          case rel => exact ⟨k + 1, by omega, by go_num, by rw [HR2.out]; exact HOr, HBr⟩
          case measure => simp [intOf]; omega
        · have d1 : decide (0 ≤ i) = false := decide_eq_false hi2
          go_wp2
          go_roundw
          case rel => exact ⟨k + 1, by omega, by go_num, by rw [HR2.out]; exact HOr, HBr⟩
          case measure => simp [intOf]; omega
    · have HE := Lib.hid (show ps.take k = ps by rw [List.take_of_length_le (by have := hplen.out; omega)])
      go_wp2_with fail
      have HR3 : R64 wr A1 L (bis (flipsB (bitsB l) ps)) := by
        have h := HOr.out
        rw [HE.out] at h
        exact ⟨Rd.own h, fun x hx => by
          simp only [bis, List.mem_map] at hx
          obtain ⟨v, _, rfl⟩ := hx
          have := bi_01 v
          omega⟩
      have HR4 := Lib.hid HR3
      clear HR3
      refine (Of_owns _ _ _ (flipsB (bitsB l) ps) _ HR4.out (by omega)).mono ?_
      intro e w2 hM
      rw [show L / 8 = l.length by have := HL.out; have := hlen.out; omega, flipsB_eq l ps hl256.out] at hM
      obtain ⟨A2, c2, rfl, hr2, hb2⟩ := hM
      have H2 := Lib.hid hr2
      have B2 := Lib.hid hb2
      clear hr2 hb2
      go_wp2
      go_ret
      exact ⟨A2, c2, rfl, own_down H2.out HBr.out.size, below_step HBr.out B2.out⟩
theorem RefFlip_any (A P : Option Addr) (n c m d : Nat) (l : List Nat) (ps : List Int) (w : World) (hr : R8 w A n l) (hp : R64 w P m ps) (hn : n ≤ 1099511627776) (hm : m ≤ 1099511627776) :
    Calls Try.prog 45 #[.slice A n c, .slice P m d] w (MakesB (flips l ps) w) := (RefFlip_owns A P n c m d l ps w hr hp hn hm).mono fun _ _ ⟨A, c, he, ho, hb⟩ => ⟨A, c, he, ⟨Rd.own ho, flips_lt l ps hr.2⟩, hb⟩
end Go.Proofs.Ytgiihdeilkiphaa
