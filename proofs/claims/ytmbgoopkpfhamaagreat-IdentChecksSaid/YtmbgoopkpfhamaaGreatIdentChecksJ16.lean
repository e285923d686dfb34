/-
  Contract of bits.Flip, over the landed code.
-/
import Derived.StillTailTactics
import Derived.Test.YtmbgoopkpfhamaaGreatIdentChecksJ3
namespace Go.Proofs.YtmbgoopkpfhamaaGreat
open Go.RowKit
set_option maxRecDepth 100000
set_option maxHeartbeats 1000000 in
theorem Flip_any (A P : Option Addr) (n c m d : Nat) (l : List Nat) (ps : List Int) (w : World) (hr : R8 w A n l) (hp : R64 w P m ps) (hn : n ≤ 1099511627776) (hm : m ≤ 1099511627776) :
  Calls Tryz.prog 153 #[.slice A n c, .slice P m d] w (OwnsB 5 (flips l ps) w) := by
 have hlen := Lib.hid hr.len
 have hplen := Lib.hid hp.len
 go_enter Tryz.func153, Tryz.ntmps153
 go_wp2_with (go_at_call 42; refine (Clone_any _ _ _ l _ hr hn).mono ?_; rintro e w1 ⟨A1, c1, rfl, hown1, hb1⟩)
 rw [hlen.out] at hown1
 have e1 := hlen.out
 rw [e1]
 clear e1
 have HO := Lib.hid hown1
 have HB := Lib.hid hb1
 clear hown1 hb1
 go_wp2
 go_loopw [12] (fun i wr => ∃ k : Nat, k ≤ m ∧ i = .int .i64 k ∧ Hid (wr.ownsRow w.heap.size 5 1 (.slice A1 n c1) n (U8 (flips l (ps.take k)))) ∧ Hid (Below w.heap.size w wr)) (fun i _ => m - (intOf i).toNat)
 case atStart => exact ⟨0, Nat.zero_le _, rfl, HO, HB⟩
 case round =>
  obtain ⟨k, hk, rfl, HOr, HBr⟩ := hrel
  by_cases hlt : k < m
  ·
   obtain ⟨b, off, i, rfl, hb, HX, hi0, hi1, hc0⟩ := hp.at_ hlt
   have hc : wr.cell? ⟨b, off + k, none⟩ = some (.int .i64 i) := (HBr.out.cell hb).trans hc0
   have HT := Lib.hid (show flips l (ps.take (k + 1)) = flip1 (flips l (ps.take k)) i by rw [take_snoc HX.out, flips_snoc])
   have HL := Lib.hid (show (flips l (ps.take k)).length = n by rw [flips_length, hlen.out])
   by_cases hi : 0 ≤ i ∧ i / 8 < n
   ·
    obtain ⟨ha, hn8⟩ := hi
    obtain ⟨j, rfl⟩ := Int.eq_ofNat_of_zero_le ha
    have hj : j / 8 < n := by omega
    obtain ⟨g, rfl, hg1, hg2, hcell, hfz, hst⟩ := own_at HOr.out hj
    obtain ⟨y, hy, HY, hcell2⟩ : ∃ y, y < 256 ∧ Hid ((flips l (ps.take k))[j / 8]? = some y) ∧ wr.cell? ⟨g, j / 8, none⟩ = some (.int .u8 (y : Int)) := by
     have hll : j / 8 < (flips l (ps.take k)).length := by rw [HL.out]; exact hj
     refine ⟨(flips l (ps.take k))[j / 8], flips_lt l _ hr.2 _ (List.getElem_mem hll), List.getElem?_eq_getElem hll, ?_⟩
     rw [hcell, U8, List.getElem?_map, List.getElem?_eq_getElem hll]
     rfl
    have HST := Lib.hid hst
    clear hcell hst hc0
    go_wp2_with (first | (go_at_call 162; refine (has_yes _ _ _ _ _ (by omega) (by omega) (by omega)).mono ?_; rintro e w' ⟨rfl, rfl⟩))
    have q1 : IntKind.i64.wrap ((j : Int) / 8) = (j : Int) / 8 := IntWalk.i64_in _ (by omega)
    have q2 : 0 ≤ (j : Int) / 8 := by omega
    have q3 : ((j : Int) / 8).toNat = j / 8 := by omega
    have HR1 := Lib.hid (show ((wr.setCell ⟨g, j / 8, none⟩ (.int .u8 (bits .xor .u8 (y : Int) (mk8 j : Int)))).drew).ownsRow w.heap.size 5 1 (.slice (some ⟨g, 0, none⟩) n c1) n (U8 (flips l (ps.take (k + 1)))) from by
     rw [HT.out, flip1_yes _ j y HY.out, U8_set, ← u8_xor_nat y (mk8 j) hy (mk8_lt j)]
     exact HST.out 0 _)
    refine wp_region_still_tail 8 (by kernel_rfl) (by kernel_rfl) ?_
    simp only [List.take_succ_cons, List.take_zero, List.drop_succ_cons, List.drop_zero]
    repeat still_step
    still_call ((mask_any _ _ (by omega) (by omega)).mono (fun _ _ hh => ⟨hh.1, hh.2.symm⟩))
    repeat still_step
    refine wpStill_nil ?_
    change wpList _ _ _ _ _ wr.drew
    go_wp2
    clear q1 q2 q3
    go_roundw
    case rel => exact ⟨k + 1, by omega, by go_num, HR1, (HBr.out.setCell hg1 _).drew⟩
    case measure => simp [intOf]; omega
   ·
    have HR2 := Lib.hid (show flips l (ps.take (k + 1)) = flips l (ps.take k) by rw [HT.out, flip1_no _ i (by rw [HL.out]; exact hi)])
    clear hc0
    go_wp2_with (first | (go_at_call 162; refine (has_no _ _ _ _ _ (by omega) (by omega) hi).mono ?_; rintro e w' ⟨rfl, rfl⟩))
    go_roundw
    case rel => exact ⟨k + 1, by omega, by go_num, by rw [HR2.out]; exact HOr, HBr⟩
    case measure => simp [intOf]; omega
  ·
   have HE := Lib.hid (show flips l (ps.take k) = flips l ps by rw [List.take_of_length_le (by have := hplen.out; omega)])
   go_wp2
   go_ret
   have e2 : (flips l ps).length = n := by rw [flips_length, hlen.out]
   exact ⟨A1, c1, by rw [e2]; rfl, by rw [e2, ← HE.out]; exact HOr.out, HBr.out⟩
set_option maxHeartbeats 1000000 in
theorem And_any (A B : Option Addr) (n c m d : Nat) (a b : List Nat) (w : World) (ha : R8 w A n a) (hb : R8 w B m b) (hn : n ≤ 1099511627776) (hm : m ≤ 1099511627776) :
  Calls Tryz.prog 172 #[.slice A n c, .slice B m d] w (OwnsB 5 (andL a b) w) := by
 have la := Lib.hid ha.len
 have lb := Lib.hid hb.len
 by_cases hnm : n < m
 ·
  have hd : decide (n < m) = true := decide_eq_true hnm
  go_enter Tryz.func172, Tryz.ntmps172
  go_wp2_with (go_at_call 42; refine (Clone_any _ _ _ b _ hb hm).mono ?_; rintro e w1 ⟨A1, c1, rfl, hown1, hb1⟩)
  rw [lb.out] at hown1
  have e1 := lb.out
  rw [e1]
  clear e1
  have HO := Lib.hid hown1
  have HB := Lib.hid hb1
  clear hown1 hb1
  go_wp2
  go_loopw [19] (fun i wr => ∃ k : Nat, k ≤ n ∧ i = .int .i64 k ∧ Hid (wr.ownsRow w.heap.size 5 1 (.slice A1 m c1) m (U8 (andTo b a k))) ∧ Hid (Below w.heap.size w wr)) (fun i _ => n - (intOf i).toNat)
  case atStart => exact ⟨0, Nat.zero_le _, rfl, by rw [andTo_zero]; exact HO, HB⟩
  case round =>
   obtain ⟨k, hk, rfl, HOr, HBr⟩ := hrel
   by_cases hlt : k < n
   ·
    obtain ⟨b0, off, y, rfl, hb0, HY, hy, hc0⟩ := ha.at_ hlt
    have hc : wr.cell? ⟨b0, off + k, none⟩ = some (.int .u8 (y : Int)) := (HBr.out.cell hb0).trans hc0
    obtain ⟨_, _, x, _, _, HX, hx, _⟩ := hb.at_ (show k < m by omega)
    obtain ⟨g, rfl, hg1, hg2, hcell, hfz, hst⟩ := own_at HOr.out (show k < m by omega)
    have hcell2 : wr.cell? ⟨g, k, none⟩ = some (.int .u8 (x : Int)) := by
     rw [hcell, U8, List.getElem?_map, andTo_cell b a k x HX.out]
     rfl
    have HR1 := Lib.hid (show (wr.setCell ⟨g, k, none⟩ (.int .u8 (bits .and .u8 (x : Int) (y : Int)))).ownsRow w.heap.size 5 1 (.slice (some ⟨g, 0, none⟩) m c1) m (U8 (andTo b a (k + 1))) from by
     rw [andTo_succ b a k x y HX.out HY.out, U8_set, ← u8_and_nat x y hx hy]
     exact hst 0 _)
    clear hcell hst hc0
    go_wp2
    go_roundw
    case rel => exact ⟨k + 1, by omega, by go_num, HR1, HBr.out.setCell hg1 _⟩
    case measure => simp [intOf]; omega
   ·
    have HE := Lib.hid (show andTo b a k = andL a b by
     rw [show k = a.length by have := la.out; omega, andTo_all b a hb.2 (by have := lb.out; have := la.out; omega), andL_comm])
    go_wp2
    go_ret
    have e2 : (andL a b).length = m := by rw [andL_length]; have := la.out; have := lb.out; omega
    exact ⟨A1, c1, by rw [e2]; rfl, by rw [e2, ← HE.out]; exact HOr.out, HBr.out⟩
 ·
  have hd : decide (n < m) = false := decide_eq_false hnm
  go_enter Tryz.func172, Tryz.ntmps172
  go_wp2_with (go_at_call 42; refine (Clone_any _ _ _ a _ ha hn).mono ?_; rintro e w1 ⟨A1, c1, rfl, hown1, hb1⟩)
  rw [la.out] at hown1
  have e1 := la.out
  rw [e1]
  clear e1
  have HO := Lib.hid hown1
  have HB := Lib.hid hb1
  clear hown1 hb1
  go_wp2
  go_loopw [19] (fun i wr => ∃ k : Nat, k ≤ m ∧ i = .int .i64 k ∧ Hid (wr.ownsRow w.heap.size 5 1 (.slice A1 n c1) n (U8 (andTo a b k))) ∧ Hid (Below w.heap.size w wr)) (fun i _ => m - (intOf i).toNat)
  case atStart => exact ⟨0, Nat.zero_le _, rfl, by rw [andTo_zero]; exact HO, HB⟩
  case round =>
   obtain ⟨k, hk, rfl, HOr, HBr⟩ := hrel
   by_cases hlt : k < m
   ·
    obtain ⟨b0, off, y, rfl, hb0, HY, hy, hc0⟩ := hb.at_ hlt
    have hc : wr.cell? ⟨b0, off + k, none⟩ = some (.int .u8 (y : Int)) := (HBr.out.cell hb0).trans hc0
    obtain ⟨_, _, x, _, _, HX, hx, _⟩ := ha.at_ (show k < n by omega)
    obtain ⟨g, rfl, hg1, hg2, hcell, hfz, hst⟩ := own_at HOr.out (show k < n by omega)
    have hcell2 : wr.cell? ⟨g, k, none⟩ = some (.int .u8 (x : Int)) := by
     rw [hcell, U8, List.getElem?_map, andTo_cell a b k x HX.out]
     rfl
    have HR1 := Lib.hid (show (wr.setCell ⟨g, k, none⟩ (.int .u8 (bits .and .u8 (x : Int) (y : Int)))).ownsRow w.heap.size 5 1 (.slice (some ⟨g, 0, none⟩) n c1) n (U8 (andTo a b (k + 1))) from by
     rw [andTo_succ a b k x y HX.out HY.out, U8_set, ← u8_and_nat x y hx hy]
     exact hst 0 _)
    clear hcell hst hc0
    go_wp2
    go_roundw
    case rel => exact ⟨k + 1, by omega, by go_num, HR1, HBr.out.setCell hg1 _⟩
    case measure => simp [intOf]; omega
   ·
    have HE := Lib.hid (show andTo a b k = andL a b by
     rw [show k = b.length by have := lb.out; omega, andTo_all a b ha.2 (by have := la.out; have := lb.out; omega)])
    go_wp2
    go_ret
    have e2 : (andL a b).length = n := by rw [andL_length]; have := la.out; have := lb.out; omega
    exact ⟨A1, c1, by rw [e2]; rfl, by rw [e2, ← HE.out]; exact HOr.out, HBr.out⟩
end Go.Proofs.YtmbgoopkpfhamaaGreat
