/-
  The walk of the law PackParts over the landed code, out of its callees' contracts.
-/
import Derived.Test.YtkmjocicikgnlaaPackBack
import Derived.Test.YtkmjocicikgnlaaSlice
import Derived.Deep.RegionHeld3
namespace Go.Proofs.Ytkmjocicikgnlaa
open Go.RowKit

theorem below_of_drew {B : Nat} {a w : World} (h : Below B a.drew w) : Below B a w := ⟨h.os, h.tape, h.output, h.size, h.block⟩

set_option maxRecDepth 100000 in
set_option maxHeartbeats 4000000 in
theorem PackParts_walk (A B : Option Addr) (n c m d a : Nat) (s z : List Int) (w : World) (ha : R64 w A n s) (hb : R64 w B m z) (hn : n ≤ 9223372036854775807) (hm : m ≤ 9223372036854775807) (hc : n ≤ c) (hd : m ≤ d) (ha8 : a < 256) :
    Calls Try.prog 6 #[.slice A n c, .slice B m d, .int .u8 (a : Int)] w (Gives (.bool true) w) := by
  have HA := Lib.hid ha
  have HB := Lib.hid hb
  clear ha hb
  go_enter Try.func6, Try.ntmps6
  go_wp2_with fail
  refine (awake3_any _).mono ?_
  rintro e w1 ⟨rfl, h1⟩
  have B1 := Lib.hid h1
  clear h1
  by_cases hn1 : 60 < n
  · go_wp2
    go_ret
    exact ⟨rfl, B1.out⟩
  · by_cases hnm : n = m
    · subst hnm
      obtain ⟨k, hk, hkn⟩ : ∃ k : Nat, (a : Int) % ((n : Int) + 1) = (k : Int) ∧ k ≤ n := ⟨a % (n + 1), by simp, by have := Nat.mod_lt a (show 0 < n + 1 by omega); omega⟩
      go_wp2_with fail
      rw [hk]
      clear hk
      refine (Put_any _ _ n _ n _ s z _ (HA.out.below B1.out) (HB.out.below B1.out) (by omega) (by omega)).mono ?_
      intro e w2 hp
      obtain ⟨N, hN⟩ : ∃ N, (putA s z).length = N := ⟨_, rfl⟩
      have hN2 : N ≤ 512 := by rw [← hN]; exact putA_len s z
      obtain ⟨A2, c2, rfl, H2, D2, hc2, HNil2⟩ := hp.at_ hN
      have B2 := Lib.hid (below_step B1.out D2.out)
      have HN := Lib.hid hN
      clear hp D2 hN
      obtain ⟨i0, ti, tz0, tz1, tz2⟩ := info_parts info_int
      have hcel : Try.prog.cellsOf 3 = 1 := by kernel_rfl
      have s1 := fun W => run_sliceAt_to Try.underlying22 ti hcel A n c k (by omega) W
      have s2 := fun W => run_sliceAt_to Try.underlying22 ti hcel B n d k (by omega) W
      have s3 := fun W => run_slice_to Try.underlying22 ti hcel A n c k (by omega) W
      have s4 := fun W => run_slice_to Try.underlying22 ti hcel B n d k (by omega) W
      clear hcel
      have HRa := Lib.hid ((HA.out.below B2.out).take_ k hkn)
      have HRb := Lib.hid ((HB.out.below B2.out).take_ k hkn)
      obtain ⟨Na, hNa⟩ : ∃ N, (putA (s.take k) (z.take k)).length = N := ⟨_, rfl⟩
      have hNa2 : Na ≤ 512 := by rw [← hNa]; exact putA_len _ _
      have HNa := Lib.hid hNa
      clear hNa
      go_wp2_with fail
      go_region_held3 (fun _ => True) (trivial) (first
        | (go_at_call 8; (with_reducible refine (Put_any A B k c k d (s.take k) (z.take k) _ ?_ ?_ ?_ ?_).mono ?_); (exact HRa.out); (exact HRb.out); (omega); (omega); intro e w3 hp; obtain ⟨A3, c3, rfl, H3, D3, hc3, HNil3⟩ := hp.at_ HNa.out; clear hp))
      have B3 := Lib.hid (below_step B2.out (below_of_drew D3.out))
      have H2b := Lib.hid (H2.out.below (below_of_drew D3.out))
      clear s1 s2 s3 s4 HRa HRb H2 D3
      have hcel : Try.prog.cellsOf 3 = 1 := by kernel_rfl
      have s1 := fun W => run_sliceAt_from Try.underlying22 ti hcel A n c k hkn W
      have s2 := fun W => run_sliceAt_from Try.underlying22 ti hcel B n d k hkn W
      have s3 := fun W => run_slice_from Try.underlying22 ti hcel A n c k hkn W
      have s4 := fun W => run_slice_from Try.underlying22 ti hcel B n d k hkn W
      clear hcel
      have HRa := Lib.hid ((HA.out.cutA k c hkn hc).below B3.out)
      have HRb := Lib.hid ((HB.out.cutA k d hkn hd).below B3.out)
      generalize cutA A c k = Ak at *
      generalize cutA B d k = Bk at *
      obtain ⟨Nb, hNb⟩ : ∃ N, (putA (s.drop k) (z.drop k)).length = N := ⟨_, rfl⟩
      have hNb2 : Nb ≤ 512 := by rw [← hNb]; exact putA_len _ _
      have HNb := Lib.hid hNb
      clear hNb
      go_wp2_with fail
      go_region_held3 (fun _ => True) (trivial) (first
        | (go_at_call 8; (with_reducible refine (Put_any Ak Bk (n - k) (c - k) (n - k) (d - k) (s.drop k) (z.drop k) _ ?_ ?_ ?_ ?_).mono ?_); (exact HRa.out); (exact HRb.out); (omega); (omega); intro e w4 hp; obtain ⟨A4, c4, rfl, H4, D4, hc4, HNil4⟩ := hp.at_ HNb.out; clear hp))
      have B4 := Lib.hid (below_step B3.out (below_of_drew D4.out))
      have H2c := Lib.hid (H2b.out.below (below_of_drew D4.out))
      have H3c := Lib.hid (H3.out.below (below_of_drew D4.out))
      clear s1 s2 s3 s4 H2b H3 D4
      have HSp := Lib.hid (canPut_split s z k (by rw [HA.out.len, HB.out.len]) (by rw [HA.out.len]; omega))
      cases hp1 : canPut (s.take k) (z.take k)
      · have e0 : putE s z = 2 := putE_no (by rw [HSp.out, hp1]; rfl)
        have e1 : putE (s.take k) (z.take k) = 2 := putE_no hp1
        rw [e0, e1]
        clear e0 e1 hp1
        go_wp2
        go_ret
        exact ⟨rfl, B4.out⟩
      · cases hp2 : canPut (s.drop k) (z.drop k)
        · have e0 : putE s z = 2 := putE_no (by rw [HSp.out, hp2]; simp)
          have e1 : putE (s.take k) (z.take k) = 0 := putE_yes hp1
          have e2 : putE (s.drop k) (z.drop k) = 2 := putE_no hp2
          rw [e0, e1, e2]
          clear e0 e1 e2 hp1 hp2
          go_wp2
          go_ret
          exact ⟨rfl, B4.out⟩
        · have hp0 : canPut s z = true := by rw [HSp.out, hp1, hp2]; rfl
          have e0 : putE s z = 0 := putE_yes hp0
          have e1 : putE (s.take k) (z.take k) = 0 := putE_yes hp1
          have e2 : putE (s.drop k) (z.drop k) = 0 := putE_yes hp2
          rw [e0, e1, e2]
          clear e0 e1 e2
          obtain ⟨q1, q2, q3⟩ := canPut_yes hp0
          have HL := Lib.hid (show putA s z = putA (s.take k) (z.take k) ++ putA (s.drop k) (z.drop k) by rw [putA_yes hp0, putA_yes hp1, putA_yes hp2]; exact putL_split s z k q2)
          have HOk := Lib.hid (okL_take q1 k)
          have HSz := Lib.hid (show sumI (s.take k) = Na by
            rw [← HNa.out, putA_yes hp1, putL_length _ _ (canPut_yes hp1).2.1])
          have HTk := Lib.hid (take_put hp2)
          have HPb := Lib.hid (putA_yes hp2)
          have HNN := Lib.hid (show N = Na + Nb by rw [← HN.out, ← HNa.out, ← HNb.out, HL.out, List.length_append])
          have hNaN : Na ≤ N := by have := HNN.out; omega
          clear hp0 hp1 hp2 q1 q2 q3
          obtain ⟨j0, uj, uz0, uz1, uz2⟩ := info_parts info_u8
          go_wp2_with (at_builtin; refine wpList_unguard rfl ?_; refine wpList_append8 _ rfl (.tmp 78) (.tmp 79) _ rfl w4.heap.size 5 j0 Try.underlying24 uj uz0 uz1 uz2 (.slice (some ⟨w4.heap.size, 0, none⟩) 0 0) 0 [] rfl (World.ownsRow_made w4 #[] 0 (Nat.le_refl _) (by simp only [maxLen]; omega) rfl) A3 Na c3 _ rfl HNil3.out (H3c.out.alloc _) (by omega) (by simp) ?_)
          intro v5 w5 hown hg
          have HO5 := Lib.hid (show w5.ownsRow w4.heap.size 5 1 v5 Na (U8 (putA (s.take k) (z.take k))) by simpa using hown)
          have D5 := Lib.hid (show Below w4.heap.size w4 w5 from ((Below.refl _ _).alloc (Nat.le_refl _) _).grown hg (by simp) (by simp [Value.ownBlock]))
          clear hown hg
          go_wp2_with (at_builtin; refine wpList_unguard rfl ?_; refine wpList_append8 _ rfl (.tmp 80) (.tmp 81) _ rfl w4.heap.size 5 j0 Try.underlying24 uj uz0 uz1 uz2 v5 Na _ rfl HO5.out A4 Nb c4 _ rfl HNil4.out (H4.out.below D5.out) (by omega) D5.out.size ?_)
          intro v6 w6 hown hg
          obtain ⟨A6, c6, rfl⟩ := own_form hown
          have HO6 := Lib.hid (show R8 w6 A6 (Na + Nb) (putA s z) by
            rw [HL.out]
            refine R8.own hown ?_
            rw [← HL.out]
            exact putA_lt s z)
          have D6 := Lib.hid (show Below w4.heap.size w4 w6 from D5.out.grown hg D5.out.size (fun j hj => (HO5.out.lt j hj).1))
          have B6 := Lib.hid (below_step B4.out D6.out)
          have H2d := Lib.hid (H2c.out.below D6.out)
          clear hown hg HO5 D5 D6 H2c H3c H4
          go_wp2_with fail
          refine (Same_any _ _ N _ (Na + Nb) _ _ _ _ H2d.out HO6.out (by omega) (by omega)).mono ?_
          intro e w7 hq
          obtain ⟨rfl, D7⟩ := hq.at_
          have B7 := Lib.hid (below_step B6.out D7.out)
          have H2e := Lib.hid (H2d.out.below D7.out)
          clear hq D7 H2d HO6 B6
          rw [show decide (putA s z = putA s z) = true by simp]
          have hcel : Try.prog.cellsOf 3 = 1 := by kernel_rfl
          have s1 := fun W => run_sliceAt_to Try.underlying22 ti hcel A n c k (by omega) W
          have s3 := fun W => run_slice_to Try.underlying22 ti hcel A n c k (by omega) W
          clear hcel
          go_wp2_with fail
          clear s1 s3
          refine (Size_yes _ k _ (s.take k) _ ((HA.out.below B7.out).take_ k hkn) HOk.out).mono ?_
          rintro e w' ⟨rfl, rfl⟩
          rw [HSz.out]
          have hcel : Try.prog.cellsOf 3 = 1 := by kernel_rfl
          have hcel8 : Try.prog.cellsOf 5 = 1 := by kernel_rfl
          have s1 := fun W => run_sliceAt_from Try.underlying22 ti hcel A n c k hkn W
          have s3 := fun W => run_slice_from Try.underlying22 ti hcel A n c k hkn W
          have s5 := fun W => run_sliceAt_from Try.underlying24 uj hcel8 A2 N c2 Na hNaN W
          have s6 := fun W => run_slice_from Try.underlying24 uj hcel8 A2 N c2 Na hNaN W
          have s7 : ∀ W, (Builtin.min_ #[3, 3] 3 #[.int .i64 (Na : Int), .int .i64 (N : Int)]).run Try.prog W = .ok (.int .i64 (Na : Int)) W := by
            intro W
            rw [run_min_int2, if_neg (by omega)]
          clear hcel hcel8
          have HRa := Lib.hid ((HA.out.cutA k c hkn hc).below B7.out)
          have HRx := Lib.hid (show R8 w7 (cutA A2 c2 Na) (N - Na) (putL (s.drop k) (z.drop k)) by
            have h3 := H2e.out.cutA Na c2 hNaN hc2
            rw [HL.out, List.drop_append_of_le_length (by rw [HNa.out]; exact Nat.le_refl _), List.drop_eq_nil_of_le (by rw [HNa.out]; exact Nat.le_refl _), List.nil_append, HPb.out] at h3
            exact h3)
          generalize cutA A c k = Ak at *
          generalize cutA A2 c2 Na = Ax at *
          have HLz := Lib.hid (show (takeA (s.drop k) (putL (s.drop k) (z.drop k))).length = n - k by rw [HTk.out.2, List.length_drop, HB.out.len])
          go_wp2_with fail
          go_region_held3 (fun _ => True) (trivial) (first
            | (go_at_call 15; (with_reducible refine (Take_any Ak Ax (n - k) (c - k) (N - Na) (c2 - Na) (s.drop k) (putL (s.drop k) (z.drop k)) _ ?_ ?_ ?_ ?_ ?_).mono ?_); (exact HRa.out); (exact HRx.out); (omega); (omega); (omega); intro e w8 hp; rw [HTk.out.1] at hp; obtain ⟨A8, c8, rfl, H8, D8, hc8, HNil8⟩ := hp.at_ HLz.out; clear hp))
          have B8 := Lib.hid (below_step B7.out (below_of_drew D8.out))
          have H8b := Lib.hid (show R64 w8 A8 (n - k) (z.drop k) by have := H8.out; rwa [HTk.out.2] at this)
          clear s1 s3 s5 s6 s7 D8 H8 H2e
          have hcel : Try.prog.cellsOf 3 = 1 := by kernel_rfl
          have s1 := fun W => run_sliceAt_from Try.underlying22 ti hcel B n d k hkn W
          have s3 := fun W => run_slice_from Try.underlying22 ti hcel B n d k hkn W
          clear hcel
          have HRb := Lib.hid ((HB.out.cutA k d hkn hd).below B8.out)
          generalize cutA B d k = Bk at *
          go_wp2_with fail
          refine (Ints_any _ _ (n - k) _ (n - k) _ (z.drop k) (z.drop k) _ H8b.out HRb.out (by omega) (by omega)).mono ?_
          intro e w9 hq
          obtain ⟨rfl, D9⟩ := hq.at_
          clear hq s1 s3
          rw [show decide (z.drop k = z.drop k) = true by simp]
          go_wp2
          go_ret
          exact ⟨rfl, below_step B8.out D9.out⟩
    · have hne : ((n : Int) != (m : Int)) = true := by simp; omega
      go_wp2
      go_ret
      exact ⟨rfl, B1.out⟩
end Go.Proofs.Ytkmjocicikgnlaa
