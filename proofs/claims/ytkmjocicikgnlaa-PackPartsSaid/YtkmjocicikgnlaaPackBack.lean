/-
  The walk of the law PackBack over the landed code, out of its callees' contracts.
-/
import Derived.Test.YtkmjocicikgnlaaPackPuts
namespace Go.Proofs.Ytkmjocicikgnlaa
open Go.RowKit

theorem R8.one0 (w : World) (t : TypeId) : R8 (w.alloc (.cells #[.int .u8 0] t)) (some ⟨w.heap.size, 0, none⟩) 1 [0] := by
  refine ⟨⟨rfl, fun _ => ⟨_, 0, rfl, by simp, fun j hj => ?_⟩⟩, by simp⟩
  match j, hj with
  | 0, _ => simp [U8]

set_option maxRecDepth 100000 in
set_option maxHeartbeats 4000000 in
theorem PackBack_walk (A B C : Option Addr) (n c m0 d m cd : Nat) (s z : List Int) (b : List Nat) (w : World) (ha : R64 w A n s) (hb : R64 w B m0 z) (hc : R8 w C m b) (hn : n ≤ 9223372036854775807) (hm0 : m0 ≤ 9223372036854775807) (hm : m ≤ 9223372036854775807) (hcd : m ≤ cd) :
    Calls Try.prog 5 #[.slice A n c, .slice B m0 d, .slice C m cd] w (Gives (.bool true) w) := by
  have HA := Lib.hid ha
  have HB := Lib.hid hb
  have HC := Lib.hid hc
  clear ha hb hc
  go_enter Try.func5, Try.ntmps5
  go_wp2_with fail
  refine (awake3_any _).mono ?_
  rintro e w1 ⟨rfl, h1⟩
  have B1 := Lib.hid h1
  clear h1
  by_cases hn1 : 100 < n
  · go_wp2
    go_ret
    exact ⟨rfl, B1.out⟩
  · by_cases hm1 : 100 < m0
    · go_wp2
      go_ret
      exact ⟨rfl, B1.out⟩
    · by_cases hm2 : 1000 < m
      · go_wp2
        go_ret
        exact ⟨rfl, B1.out⟩
      · go_wp2_with fail
        refine (Put_any _ _ n _ m0 _ s z _ (HA.out.below B1.out) (HB.out.below B1.out) (by omega) (by omega)).mono ?_
        intro e w2 hp
        cases hcp : canPut s z
        · rw [putA_no hcp, putE_no hcp] at hp
          obtain ⟨A2, c2, rfl, H2, D2, hc2, _⟩ := hp.at_ rfl
          have B2 := Lib.hid (below_step B1.out D2.out)
          clear hp D2 hcp
          go_wp2_with fail
          refine (Take_any _ _ n _ m _ s b _ (HA.out.below B2.out) (HC.out.below B2.out) (by omega) (by omega) hcd).mono ?_
          intro e w7 hp
          by_cases hE : takeE s b = 0
          · obtain ⟨hc7, hl7⟩ := put_take HC.out.2 hE
            have HL7 := Lib.hid (show (takeA s b).length = n by rw [takeA_yes hE, vals_length]; exact HA.out.len)
            have HC7 := Lib.hid hc7
            have HP7 := Lib.hid hl7
            rw [hE] at hp
            clear hc7 hl7 hE
            obtain ⟨A7, c7, rfl, H7, D7, hc7, _⟩ := hp.at_ HL7.out
            have B7 := Lib.hid (below_step B2.out D7.out)
            clear hp D7
            go_wp2_with fail
            refine (Put_any _ _ n _ n _ s (takeA s b) _ (HA.out.below B7.out) H7.out (by omega) (by omega)).mono ?_
            intro e w8 hp
            rw [putA_yes HC7.out, putE_yes HC7.out, HP7.out] at hp
            obtain ⟨A8, c8, rfl, H8, D8, hc8, _⟩ := hp.at_ HC.out.len
            have B8 := Lib.hid (below_step B7.out D8.out)
            clear hp D8
            go_wp2_with fail
            refine (Same_any _ _ m _ m _ b b _ H8.out (HC.out.below B8.out) (by omega) (by omega)).mono ?_
            intro e w9 hq
            obtain ⟨rfl, D9⟩ := hq.at_
            clear hq
            rw [show decide (b = b) = true by simp]
            go_wp2
            go_ret
            exact ⟨rfl, below_step B8.out D9.out⟩
          · obtain ⟨A7, c7, rfl, H7, D7, hc7, _⟩ := hp.at_ (show (takeA s b).length = 0 by rw [takeA_no rfl hE]; rfl)
            have B7 := Lib.hid (below_step B2.out D7.out)
            have hne : (takeE s b != 0) = true := by simpa using hE
            clear hp D7 hE
            generalize takeE s b = er at *
            go_wp2
            go_ret
            exact ⟨rfl, B7.out⟩
        · obtain ⟨i0, ti, tz0, tz1, tz2⟩ := info_parts info_u8
          rw [putA_yes hcp, putE_yes hcp] at hp
          obtain ⟨N, hN⟩ : ∃ N, (putL s z).length = N := ⟨_, rfl⟩
          have hN2 : N ≤ 512 := by rw [← hN, ← putA_yes hcp]; exact putA_len s z
          obtain ⟨A2, c2, rfl, H2, D2, hc2, HNil⟩ := hp.at_ hN
          have B2 := Lib.hid (below_step B1.out D2.out)
          have HTP := Lib.hid (take_put hcp)
          have HTM := Lib.hid (take_more hcp 0)
          have HLz := Lib.hid (show (takeA s (putL s z)).length = m0 by rw [(take_put hcp).2]; exact HB.out.len)
          clear hp D2 hcp hN
          go_wp2_with fail
          refine (Take_any _ _ n _ N _ s (putL s z) _ (HA.out.below B2.out) H2.out (by omega) (by omega) hc2).mono ?_
          intro e w3 hp
          rw [HTP.out.1] at hp
          obtain ⟨A3, c3, rfl, H3, D3, hc3, _⟩ := hp.at_ HLz.out
          have H3' := Lib.hid (show R64 w3 A3 m0 z by have := H3.out; rwa [HTP.out.2] at this)
          have B3 := Lib.hid (below_step B2.out D3.out)
          have H2' := Lib.hid (H2.out.below D3.out)
          clear hp D3 H2 H3
          go_wp2_with (at_builtin; refine wpList_append8 _ rfl (.tmp 48) (.tmp 49) _ rfl w3.heap.size 5 i0 Try.underlying24 ti tz0 tz1 tz2 (.slice (some ⟨w3.heap.size, 0, none⟩) 0 0) 0 [] rfl (World.ownsRow_made w3 #[] 0 (Nat.le_refl _) (by simp only [maxLen]; omega) rfl) A2 N c2 _ rfl HNil.out (H2'.out.alloc _) (by omega) (by simp) ?_)
          intro v4 w4 hown hg
          have HO4 := Lib.hid (show w4.ownsRow w3.heap.size 5 1 v4 N (U8 (putL s z)) by simpa using hown)
          have D4 := Lib.hid (show Below w3.heap.size w3 w4 from ((Below.refl _ _).alloc (Nat.le_refl _) _).grown hg (by simp) (by simp [Value.ownBlock]))
          clear hown hg
          go_wp2_with (at_builtin; refine wpList_append8 _ rfl (.tmp 50) (.tmp 51) _ rfl w3.heap.size 5 i0 Try.underlying24 ti tz0 tz1 tz2 v4 N (putL s z) rfl (HO4.out.alloc _) (some ⟨w4.heap.size, 0, none⟩) 1 1 [0] rfl (by simp) (R8.one0 _ _) (by omega) (by have := D4.out.size; simp; omega) ?_)
          intro v5 w5 hown hg
          obtain ⟨A5, c5, rfl⟩ := own_form hown
          have HO5 := Lib.hid hown
          have D5 := Lib.hid (show Below w3.heap.size w3 w5 from (D4.out.alloc D4.out.size _).grown hg (by have := D4.out.size; simp; omega) (fun j hj => (HO4.out.lt j hj).1))
          have B5 := Lib.hid (below_step B3.out D5.out)
          have hc5 := own_cap hown
          have H5 := Lib.hid (R8.own HO5.out (by
            intro x hx
            rcases List.mem_append.1 hx with h | h
            · exact putL_lt s z x h
            · simp at h; omega))
          have H3'' := Lib.hid (H3'.out.below D5.out)
          clear hown hg HO4 HO5 D4 D5 H3'
          go_wp2_with fail
          refine (Take_any _ _ n _ (N + 1) _ s (putL s z ++ [0]) _ (HA.out.below B5.out) H5.out (by omega) (by omega) hc5).mono ?_
          intro e w6 hp
          rw [HTM.out] at hp
          obtain ⟨A6, c6, rfl, H6, D6, hc6, _⟩ := hp.at_ (show (takeA s (putL s z ++ [0])).length = 0 by rw [takeA_no HTM.out (by decide)]; rfl)
          have B6 := Lib.hid (below_step B5.out D6.out)
          have H3a := Lib.hid (H3''.out.below D6.out)
          clear hp D6 H3''
          go_wp2_with fail
          refine (Ints_any _ _ m0 _ m0 _ z z _ H3a.out (HB.out.below B6.out) (by omega) (by omega)).mono ?_
          intro e w6a hq
          obtain ⟨rfl, D6a⟩ := hq.at_
          have B6a := Lib.hid (below_step B6.out D6a.out)
          clear hq D6a
          rw [show decide (z = z) = true by simp]
          go_wp2_with fail
          refine (Take_any _ _ n _ m _ s b _ (HA.out.below B6a.out) (HC.out.below B6a.out) (by omega) (by omega) hcd).mono ?_
          intro e w7 hp
          by_cases hE : takeE s b = 0
          · obtain ⟨hc7, hl7⟩ := put_take HC.out.2 hE
            have HL7 := Lib.hid (show (takeA s b).length = n by rw [takeA_yes hE, vals_length]; exact HA.out.len)
            have HC7 := Lib.hid hc7
            have HP7 := Lib.hid hl7
            rw [hE] at hp
            clear hc7 hl7 hE
            obtain ⟨A7, c7, rfl, H7, D7, hc7, _⟩ := hp.at_ HL7.out
            have B7 := Lib.hid (below_step B6a.out D7.out)
            clear hp D7
            go_wp2_with fail
            refine (Put_any _ _ n _ n _ s (takeA s b) _ (HA.out.below B7.out) H7.out (by omega) (by omega)).mono ?_
            intro e w8 hp
            rw [putA_yes HC7.out, putE_yes HC7.out, HP7.out] at hp
            obtain ⟨A8, c8, rfl, H8, D8, hc8, _⟩ := hp.at_ HC.out.len
            have B8 := Lib.hid (below_step B7.out D8.out)
            clear hp D8
            go_wp2_with fail
            refine (Same_any _ _ m _ m _ b b _ H8.out (HC.out.below B8.out) (by omega) (by omega)).mono ?_
            intro e w9 hq
            obtain ⟨rfl, D9⟩ := hq.at_
            clear hq
            rw [show decide (b = b) = true by simp]
            go_wp2
            go_ret
            exact ⟨rfl, below_step B8.out D9.out⟩
          · obtain ⟨A7, c7, rfl, H7, D7, hc7, _⟩ := hp.at_ (show (takeA s b).length = 0 by rw [takeA_no rfl hE]; rfl)
            have B7 := Lib.hid (below_step B6a.out D7.out)
            have hne : (takeE s b != 0) = true := by simpa using hE
            clear hp D7 hE
            generalize takeE s b = er at *
            go_wp2
            go_ret
            exact ⟨rfl, B7.out⟩
end Go.Proofs.Ytkmjocicikgnlaa
