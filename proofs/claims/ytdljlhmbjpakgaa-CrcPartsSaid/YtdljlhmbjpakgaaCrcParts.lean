/-
  The walk of the law CrcParts over the landed code, out of its callees' contracts: for whatever bytes, places and byte it returns true, and nothing that was there has turned.
-/
import Derived.Test.YtdljlhmbjpakgaaCrcSums
import Derived.Test.YtdljlhmbjpakgaaCrcD
import Derived.Deep.DeepCutAuto
namespace Go.Proofs.Ytdljlhmbjpakgaa
open Go.RowKit

set_option maxRecDepth 100000 in
set_option maxHeartbeats 4000000 in
theorem CrcParts_walk (A : Option Addr) (n c p q v : Nat) (l : List Nat) (w : World) (ha : R8 w A n l) (hn : n ≤ 9223372036854775807) (hcap : n ≤ c) (hnil : A = none → c = 0) (hp : p < 65536) (hq : q < 65536) (hv : v < 256) :
    Calls Try.prog 4 #[.slice A n c, .agg #[.int .u16 (p : Int), .int .u16 (q : Int)], .int .u8 (v : Int)] w (Gives (.bool true) w) := by
  have HA := Lib.hid ha
  have HL := Lib.hid ha.len
  have HNil := Lib.hid hnil
  clear ha hnil
  go_enter Try.func4, Try.ntmps4
  go_wp2_with fail
  refine (awake2_any _).mono ?_
  rintro e w1 ⟨rfl, h1⟩
  have hc0 : w1.cell? ⟨w.heap.size, 0, none⟩ = some (.int .u16 (p : Int)) := by rw [h1.cell (by simp)]; simp
  have hc1 : w1.cell? ⟨w.heap.size, 1, none⟩ = some (.int .u16 (q : Int)) := by rw [h1.cell (by simp)]; simp
  have B1 := Lib.hid (((Below.refl w.heap.size w).alloc (Nat.le_refl _) (.cells #[.int .u16 (p : Int), .int .u16 (q : Int)] 32)).trans (h1.mono (by simp)))
  have hz1 : w.heap.size < w1.heap.size := by have := h1.size; simp at this; omega
  clear h1
  have HA1 := Lib.hid (HA.out.below B1.out)
  by_cases hbig : 1000 < n
  · go_wp2
    go_ret
    exact ⟨rfl, B1.out⟩
  · obtain ⟨i, hi, hin⟩ : ∃ i : Nat, (p : Int) % ((n : Int) + 1) = (i : Int) ∧ i ≤ n := ⟨p % (n + 1), by simp, by have := Nat.mod_lt p (show 0 < n + 1 by omega); omega⟩
    go_wp2_with fail
    rw [hi]
    refine (Sum_one _ A n c _ l _ ?_ ?_ ?_).mono ?_
    · simp
    · exact HA1.out.alloc _
    · omega
    rintro e w' ⟨rfl, rfl⟩
    have B2 := Lib.hid ((Below.refl w1.heap.size w1).alloc (Nat.le_refl _) (.cells #[.slice A n c] 22))
    have hc2 : (w1.alloc (.cells #[.slice A n c] 22)).cell? ⟨w.heap.size, 1, none⟩ = some (.int .u16 (q : Int)) := by rw [World.cell?_alloc_lt _ _ _ hz1]; exact hc1
    have HA2 := Lib.hid (HA1.out.below B2.out)
    have hz2 : w.heap.size < (w1.alloc (.cells #[.slice A n c] 22)).heap.size := by simp; omega
    have C2 := Lib.hid (below_step B1.out B2.out)
    generalize hw2 : w1.alloc (.cells #[.slice A n c] 22) = w2 at *
    clear hw2 hc0 hc1 hi B2 hz1
    go_upto_region 7 with fail
    go_cut [34] (fun s wx => s = .bool false ∧ Hid (Below w2.heap.size w2 wx))
    case first =>
      rcases A with _ | ad
      · obtain rfl : c = 0 := HNil.out rfl
        obtain rfl : n = 0 := by omega
        obtain rfl : i = 0 := by omega
        have HS := Lib.hid (show [] ++ ([] ++ []) = l by have := HL.out; rw [List.eq_nil_of_length_eq_zero this]; rfl)
        go_region_held3 (fun _ => True) (trivial) (first
          | (go_at_call 7; (with_reducible refine (Sum_three _ none none none 0 0 0 0 0 0 _ [] [] [] _ ?_ ?_ ?_ ?_ ?_ ?_ ?_ ?_ ?_).mono ?_); (simp); (simp); (simp); (exact ⟨Rd.nil_, by simp⟩); (exact ⟨Rd.nil_, by simp⟩); (exact ⟨Rd.nil_, by simp⟩); (omega); (omega); (omega); rintro e w' ⟨rfl, rfl⟩; rw [HS.out]))
        go_wp2_with fail
        go_meet
        exact ⟨rfl, ((Below.refl _ _).alloc (Nat.le_refl _) _).drew⟩
      · obtain ⟨D, hD, hr1⟩ : ∃ D : Option Addr, (if c = i then some ad else some (ad.add i)) = D ∧ R8 w2 D (n - i) (l.drop i) := ⟨_, rfl, HA2.out.cut i c hin hcap⟩
        have HR1 := Lib.hid hr1
        clear hr1
        have HR2 := Lib.hid (HA2.out.take_ i hin)
        have HS := Lib.hid (show l.take i ++ ([] ++ l.drop i) = l by simp)
        have k1 : (0 : Int) ≤ (i : Int) := by omega
        have k2 : (i : Int) ≤ (n : Int) := by omega
        have k3 : (i : Int) ≤ (c : Int) := by omega
        go_region_held3 (fun _ => True) (trivial) (first
          | (go_at_call 7; (with_reducible refine (Sum_three _ (some ad) none D i c 0 0 (n - i) (c - i) _ (l.take i) [] (l.drop i) _ ?_ ?_ ?_ ?_ ?_ ?_ ?_ ?_ ?_).mono ?_); (simp); (simp); (simp); (exact HR2.out.below (((Below.refl _ _).alloc (Nat.le_refl _) _).drew)); (exact ⟨Rd.nil_, by simp⟩); (exact HR1.out.below (((Below.refl _ _).alloc (Nat.le_refl _) _).drew)); (omega); (omega); (omega); rintro e w' ⟨rfl, rfl⟩; rw [HS.out]))
        go_wp2_with fail
        go_meet
        exact ⟨rfl, ((Below.refl _ _).alloc (Nat.le_refl _) _).drew⟩
    case rest =>
      obtain ⟨i0, ti, tz0, tz1, tz2⟩ := info_parts info_u8
      obtain ⟨rfl, BC⟩ := hcut
      have HA3 := Lib.hid (HA2.out.below BC.out)
      have C3 := Lib.hid (below_step C2.out BC.out)
      have hc3 := (BC.out.cell (p := ⟨w.heap.size, 1, none⟩) hz2).trans hc2
      have hz3 := Nat.lt_of_lt_of_le hz2 BC.out.size
      clear BC HA2 C2 hc2 HA1 B1 hz2
      go_wp2_with (at_builtin; refine wpList_append8 _ rfl (.tmp 35) (.tmp 36) _ rfl wc.heap.size 5 i0 Try.underlying22 ti tz0 tz1 tz2 (.slice (some ⟨wc.heap.size, 0, none⟩) 0 0) 0 [] rfl (World.ownsRow_made wc #[] 0 (Nat.le_refl _) (by simp only [maxLen]; omega) rfl) A n c l rfl HNil.out (HA3.out.alloc _) (by omega) (by simp) ?_)
      intro v4 w4 hown hg
      obtain ⟨A4, c4, rfl⟩ := own_form hown
      have HO4 := Lib.hid (show w4.ownsRow wc.heap.size 5 1 (.slice A4 n c4) n (U8 l) by simpa using hown)
      have D4 := Lib.hid (show Below wc.heap.size wc w4 from ((Below.refl _ _).alloc (Nat.le_refl _) _).grown hg (by simp) (by simp [Value.ownBlock]))
      clear hown hg
      go_wp2_with fail
      refine (Bytes_four _ _ (sumL_lt l)).mono ?_
      rintro e w5 ⟨A5, c5, rfl, H5, B5⟩
      have HO5 := Lib.hid (own_below HO4.out B5.out)
      have D5 := Lib.hid (below_step D4.out B5.out)
      go_wp2_with (at_builtin; refine wpList_append8 _ rfl (.tmp 37) (.tmp 39) _ rfl wc.heap.size 5 i0 Try.underlying22 ti tz0 tz1 tz2 _ n l rfl HO5.out A5 4 c5 _ rfl (H5.out.some_ (by omega)) H5.out (by omega) D5.out.size ?_)
      intro v6 w6 hown hg
      obtain ⟨A6, c6, rfl⟩ := own_form hown
      have HO6 := Lib.hid hown
      have D6 := Lib.hid (show Below wc.heap.size wc w6 from D5.out.grown hg D5.out.size (fun j hj => (HO5.out.lt j hj).1))
      clear hown hg
      have hby : ∀ x ∈ l ++ le4 (sumL l), x < 256 := by
        intro x hx
        rcases List.mem_append.1 hx with h | h
        · exact HA3.out.2 x h
        · exact le4_lt _ x h
      have HBY := Lib.hid hby
      clear hby
      have hc6 := own_cap HO6.out
      go_wp2_with fail
      refine (Check_is _ _ _ _ true _ (chk_whole l) (R8.own HO6.out HBY.out) (by omega) hc6).mono ?_
      rintro e w7 ⟨rfl, h7⟩
      have HO7 := Lib.hid (own_below HO6.out h7)
      have D7 := Lib.hid (below_step D6.out h7)
      clear h7
      by_cases hv0 : v = 0
      · subst hv0
        go_wp2
        go_ret
        exact ⟨rfl, below_step C3.out D7.out⟩
      · have hv1 : ((v : Int) == 0) = false := beq_eq_false_iff_ne.2 (by omega)
        have hc7 := (D7.out.cell (p := ⟨w.heap.size, 1, none⟩) hz3).trans hc3
        obtain ⟨j, hj, hjn⟩ : ∃ j : Nat, (q : Int) % ((n : Int) + 4) = (j : Int) ∧ j < n + 4 := ⟨q % (n + 4), by simp, Nat.mod_lt q (by omega)⟩
        obtain ⟨g, rfl, hg1, hg2, hcell, hfz, hst⟩ := own_at HO7.out hjn
        obtain ⟨x, HX, hx, hcell2⟩ : ∃ x, Hid ((l ++ le4 (sumL l))[j]? = some x) ∧ x < 256 ∧ w7.cell? ⟨g, j, none⟩ = some (.int .u8 (x : Int)) := by
          have hll : j < (l ++ le4 (sumL l)).length := by rw [List.length_append, le4_length, HL.out]; exact hjn
          refine ⟨(l ++ le4 (sumL l))[j], List.getElem?_eq_getElem hll, HBY.out _ (List.getElem_mem hll), ?_⟩
          rw [hcell, U8, List.getElem?_map, List.getElem?_eq_getElem hll]
          rfl
        have HO8 := Lib.hid (show (w7.setCell ⟨g, j, none⟩ (.int .u8 (bits .xor .u8 (x : Int) (v : Int)))).ownsRow wc.heap.size 5 1 (.slice (some ⟨g, 0, none⟩) (n + 4) c6) (n + 4) (U8 ((l ++ le4 (sumL l)).set j (x ^^^ v))) from by
          rw [U8_set, ← u8_xor_nat x v hx hv]
          exact hst 0 _)
        have D8 := Lib.hid (D7.out.setCell (p := ⟨g, j, none⟩) hg1 (.int .u8 (bits .xor .u8 (x : Int) (v : Int))))
        have HBY8 := Lib.hid (show ∀ z ∈ (l ++ le4 (sumL l)).set j (x ^^^ v), z < 256 by
          intro z hz
          rcases List.mem_or_eq_of_mem_set hz with h | h
          · exact HBY.out z h
          · subst h; exact xor_lt8 _ _ hx hv)
        have HF := Lib.hid (chk_turned l HA3.out.2 j x v hv0 hv HX.out)
        clear hcell hst
        have q3 : ((q : Int) % ((n : Int) + 4)).toNat = j := by rw [hj]; simp
        have q4 : 0 ≤ (q : Int) % ((n : Int) + 4) := by rw [hj]; omega
        have q5 : (q : Int) % ((n : Int) + 4) < (n : Int) + 4 := by rw [hj]; omega
        go_wp2_with fail
        refine (Check_is _ _ _ _ false _ HF.out (R8.own HO8.out HBY8.out) (by omega) hc6).mono ?_
        rintro e w9 ⟨rfl, h9⟩
        have D9 := Lib.hid (below_step D8.out h9)
        clear h9
        go_wp2
        go_ret
        exact ⟨rfl, below_step C3.out D9.out⟩
end Go.Proofs.Ytdljlhmbjpakgaa
