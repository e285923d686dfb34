/-
  Contract of the document's Decode (package incunableref06), over the landed code's translation.
-/
import Derived.Deep.RegionHeld3
import Derived.Test.YtgiihdeilkiphaaLadderFitsJChunkC
import Derived.Test.YtgiihdeilkiphaaLadderFitsJ11
namespace Go.Proofs.Ytgiihdeilkiphaa
open Go.RowKit
set_option maxRecDepth 100000

theorem RefDecode_no_c (A : Option Addr) (n c : Nat) (w : World) (h : n < 3 ∨ 514 < n) (hn : n ≤ 9223372036854775807) :
    Calls Try.prog 29 #[.slice A n c] w (Ret3c [] 0 2 w) := by
  rcases h with h | h
  · have hd : decide ((n : Int) - 2 < 1) = true := decide_eq_true (by omega)
    go_enter Try.func29, Try.ntmps29
    go_wp2
    go_ret3
    exact ⟨none, 0, rfl, ⟨Rd.nil_, by simp⟩, fun _ => rfl, Nat.le_refl _, Below.refl _ _⟩
  · have hd : decide ((n : Int) - 2 < 1) = false := decide_eq_false (by omega)
    have hd2 : decide (512 < (n : Int) - 2) = true := decide_eq_true (by omega)
    go_enter Try.func29, Try.ntmps29
    go_wp2
    go_ret3
    exact ⟨none, 0, rfl, ⟨Rd.nil_, by simp⟩, fun _ => rfl, Nat.le_refl _, Below.refl _ _⟩

set_option maxHeartbeats 1000000 in
theorem RefDecode_yes_c (A : Option Addr) (n c m : Nat) (l : List Nat) (w : World) (hr : R8 w A n l) (hc : n ≤ c) (hn : n = m + 2) (h0 : 1 ≤ m) (h1 : m ≤ 512) :
    Calls Try.prog 29 #[.slice A n c] w (Ret3c (decL l).1 (decL l).2.1 (decL l).2.2 w) := by
  obtain ⟨i0, ti, tz0, tz1, tz2⟩ := info_parts info_u8
  obtain ⟨x, y, s, b, hxy, g0, g1, hx, hy, hj, hd, hs, hb⟩ := raw_parts l m (by rw [hr.len, hn]) h0 h1 hr.2
  have hsub : (n : Int) - 2 = (m : Int) := by omega
  have HT := Lib.hid (hr.take_ m (by omega))
  have hnil := Lib.hid (HT.out.some_ (c := c) (by omega))
  have HLt := Lib.hid (show (l.take m).length = m by rw [List.length_take, hr.len]; omega)
  have hJ : ∀ w', R8 w' A m (l.take m) → Calls Try.prog 44 #[.slice A m c, .int .i64 ((x : Int) + 256 * (y : Int))] w' (Gives (.tuple #[.int .i64 (s : Int), .int .i64 (b : Int)]) w') := fun w' h => by
    have := RefJudge_any A m c (l.take m) (x + 256 * y) w' h h1 (by omega)
    rw [hj, show ((x + 256 * y : Nat) : Int) = (x : Int) + 256 * (y : Int) by omega] at this
    exact this
  have hsl1 := run_slice_to (P := Try.prog) Try.underlying27 ti (by kernel_rfl) A n c m (by omega)
  have hsl3 := run_sliceAt_to (P := Try.prog) Try.underlying27 ti (by kernel_rfl) A n c m (by omega)
  have hcx : ∃ b0 off, A = some ⟨b0, off, none⟩ ∧ b0 < w.heap.size ∧ w.cell? ⟨b0, off + m, none⟩ = some (.int .u8 (x : Int)) ∧ w.cell? ⟨b0, off + (m + 1), none⟩ = some (.int .u8 (y : Int)) := by
    obtain ⟨b0, off, e, hbl, hcc⟩ := hr.1.2 (by omega)
    refine ⟨b0, off, e, hbl, ?_, ?_⟩
    · rw [hcc m (by omega), U8, List.getElem?_map, g0]; rfl
    · rw [hcc (m + 1) (by omega), U8, List.getElem?_map, g1]; rfl
  rw [hd]
  clear hd hj hxy hr g0 g1
  generalize l.take m = d at *
  obtain ⟨b0, off, rfl, hbl, hcx0, hcx1⟩ := hcx
  have d1 : decide ((m : Int) < 1) = false := decide_eq_false (by omega)
  have d2 : decide (512 < (m : Int)) = false := decide_eq_false (by omega)
  go_enter Try.func29, Try.ntmps29
  go_wp2_with fail
  have hmc : m ≤ c := by omega
  have p0 : (0 : Int) ≤ (m : Int) := by omega
  have p1 : (m : Int) < (n : Int) := by omega
  have p2 : (0 : Int) ≤ (m : Int) + 1 := by omega
  have p3 : (m : Int) + 1 < (n : Int) := by omega
  have p4 : ((m : Int) + 1).toNat = m + 1 := by omega
  have p5 : IntKind.i64.wrap ((m : Int) + 1) = (m : Int) + 1 := IntWalk.i64_in _ (by omega)
  have p7 : IntKind.i64.wrap (IntKind.i64.wrap (x : Int) + IntKind.i64.wrap (256 * IntKind.i64.wrap (y : Int))) = (x : Int) + 256 * (y : Int) := by
    rw [IntWalk.i64_in (x : Int) (by omega), IntWalk.i64_in (y : Int) (by omega), IntWalk.i64_in (256 * (y : Int)) (by omega)]
    exact IntWalk.i64_in _ (by omega)
  rw [← p7] at hJ
  clear p7
  clear hn
  go_region_held3 (fun W => W.cell? ⟨b0, off + m, none⟩ = some (.int .u8 (x : Int)) ∧ W.cell? ⟨b0, off + (m + 1), none⟩ = some (.int .u8 (y : Int))) (first | exact ⟨hcx0, hcx1⟩ | exact ⟨(hb2.cell (p := ⟨b0, off + m, none⟩) hbl).trans hcx0, (hb2.cell (p := ⟨b0, off + (m + 1), none⟩) hbl).trans hcx1⟩) (first
    | (go_at_call 44; (with_reducible refine (hJ _ ?_).mono ?_); (exact HT.out); rintro e w2 ⟨rfl, hb2⟩))
  have HB2 := Lib.hid (show Below w.heap.size w w2 from below_step (below_of_drewN w 1) hb2)
  have HT2 := Lib.hid (HT.out.below HB2.out)
  clear hb2 hJ hcx0 hcx1 hbl p0 p1 p2 p3 p4 p5 d1 d2 hsub
  have h4 : s = 0 ∨ s = 1 ∨ s = 2 ∨ s = 3 := by omega
  rcases h4 with rfl | rfl | rfl | rfl
  · go_wp2
    go_ret3
    show Ret3c d 0 0 w _ w2
    exact ⟨some ⟨b0, off, none⟩, c, ret_slice3 HLt.out.symm, by rw [HLt.out]; exact HT2.out, hnil.out, by rw [HLt.out]; omega, HB2.out⟩
  · go_wp2_with fail
    have H1 := Lib.hid (one_int w2 (b : Int) 3 (by omega) (by omega))
    have HBa := Lib.hid (HB2.out.alloc HB2.out.size (.cells #[.int .i64 (b : Int)] 3))
    refine (RefFlip_owns _ _ _ _ _ _ d [(b : Int)] _ (HT2.out.alloc _) H1.out (by omega) (by omega)).mono ?_
    rintro e w3 hM
    rw [flips_one] at hM
    have hfl0 : (flip1 d (b : Int)).length = m := by rw [flip1_length, HLt.out]
    obtain ⟨A3, c3, hen, hO3, hB3⟩ := hM
    rw [hfl0] at hen hO3
    subst hen
    have H3 := Lib.hid (R8.own hO3 (flip1_lt d _ HT2.out.2))
    have hcp := own_cap hO3
    have B3 := Lib.hid hB3
    clear hO3 hB3 hfl0
    have HB3 := Lib.hid (below_step HBa.out B3.out)
    go_wp2
    go_ret3
    show Ret3c (flip1 d (b : Int)) 1 0 w _ w3
    have hfl : (flip1 d (b : Int)).length = m := by rw [flip1_length, HLt.out]
    exact ⟨A3, c3, ret_slice3 hfl.symm, by rw [hfl]; exact H3.out, H3.out.some_ (by omega), by rw [hfl]; exact hcp, HB3.out⟩
  · go_wp2
    go_ret3
    show Ret3c d 1 0 w _ w2
    exact ⟨some ⟨b0, off, none⟩, c, ret_slice3 HLt.out.symm, by rw [HLt.out]; exact HT2.out, hnil.out, by rw [HLt.out]; omega, HB2.out⟩
  · go_wp2
    go_ret3
    exact ⟨none, 0, rfl, ⟨Rd.nil_, fun x hx => by cases hx⟩, fun _ => rfl, Nat.le_refl _, HB2.out⟩
theorem RefDecode_any_c (A : Option Addr) (n c : Nat) (l : List Nat) (w : World) (hr : R8 w A n l) (hc : n ≤ c) (hn : n ≤ 9223372036854775807) :
    Calls Try.prog 29 #[.slice A n c] w (Ret3c (decL l).1 (decL l).2.1 (decL l).2.2 w) := by
  by_cases h : n < 3 ∨ 514 < n
  · rw [decL_no l (by rw [hr.len]; exact h)]
    exact RefDecode_no_c A n c w h hn
  · exact RefDecode_yes_c A n c (n - 2) l w hr hc (by omega) (by omega) (by omega)
theorem RefDecode_any (A : Option Addr) (n c : Nat) (l : List Nat) (w : World) (hr : R8 w A n l) (hc : n ≤ c) (hn : n ≤ 9223372036854775807) :
    Calls Try.prog 29 #[.slice A n c] w (Ret3 (decL l).1 (decL l).2.1 (decL l).2.2 w) := (RefDecode_any_c A n c l w hr hc hn).mono fun _ _ h => h.ret3
end Go.Proofs.Ytgiihdeilkiphaa
