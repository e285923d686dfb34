/-
  Contract of page.Erased, over the landed code: as many bytes 255 as a raw page has.
-/
import Derived.Test.YtjahbpmkkfdimaaPageEncodesJ13
import Derived.Test.YtjahbpmkkfdimaaPageEncodesJRepeat
import Derived.Test.YtjahbpmkkfdimaaPageEncodesJ5
namespace Go.Proofs.Ytjahbpmkkfdimaa
open Go.RowKit
set_option maxRecDepth 100000

set_option maxHeartbeats 1000000 in
theorem Erased_any (g : Gm) (n : Nat) (hg : g.raw = (n : Int)) (hn : n ≤ 8192) (w : World) :
    Calls Try.prog 11 #[g.val] w (MakesC (List.replicate n 255) w) := by
  have hRaw := Raw_is g n hg
  have HRep := Lib.hid (fun A c w' h => Repeat_one A c 255 n w' h hn)
  clear hg
  obtain ⟨p, b, s, gc, k, r, q⟩ := g
  simp only [Gm.val] at hRaw ⊢
  have Y0 := Lib.hid (GBox.new w ⟨p, b, s, gc, k, r, q⟩ 23)
  have B0 := Lib.hid (below_new w (.cells #[.int .i64 p, .int .i64 b, .int .i64 s, .int .i64 gc, .int .i64 k, .int .i64 r, .int .i64 q] 23))
  go_enter Try.func11, Try.ntmps11
  obtain ⟨_, g0, g1, g2, g3, g4, g5, g6⟩ := Y0.out
  simp only at g0 g1 g2 g3 g4 g5 g6
  have H1 : Hid (R8 ((w.alloc (.cells #[.int .i64 p, .int .i64 b, .int .i64 s, .int .i64 gc, .int .i64 k, .int .i64 r, .int .i64 q] 23)).alloc (.cells #[.int .u8 255] 5)) (some ⟨w.heap.size + 1, 0, none⟩) 1 [255]) := Lib.hid (by simpa using one_byte (w.alloc (.cells #[.int .i64 p, .int .i64 b, .int .i64 s, .int .i64 gc, .int .i64 k, .int .i64 r, .int .i64 q] 23)) 255 5 (by omega))
  have B1 := Lib.hid (below_step B0.out (below_new (w.alloc (.cells #[.int .i64 p, .int .i64 b, .int .i64 s, .int .i64 gc, .int .i64 k, .int .i64 r, .int .i64 q] 23)) (.cells #[.int .u8 255] 5)))
  go_wp2_with fail
  clear g0 g1 g2 g3 g4 g5 g6
  refine (hRaw _).mono ?_
  rintro _ w1 ⟨rfl, h1⟩
  have R1 := Lib.hid (H1.out.below h1)
  have B2 := Lib.hid (below_step B1.out h1)
  clear H1 h1
  go_wp2_with fail
  refine (HRep.out _ _ _ R1.out).mono ?_
  intro _ w2 hM
  obtain ⟨A, c, rfl, R2, hc, D2⟩ := hM.at_ (n := n) (by simp)
  have B3 := Lib.hid (below_step B2.out D2.out)
  clear hM
  go_wp2
  go_ret
  exact ⟨A, c, by simp, by simpa using R2.out, by simpa using hc, B3.out⟩
end Go.Proofs.Ytjahbpmkkfdimaa

/-
  The walk of the law PageEncodes over the landed code, out of its callees' contracts: for whatever geometry, data and tag it returns true, and nothing that was there has turned.
-/
namespace Go.Proofs.Ytjahbpmkkfdimaa
open Go.RowKit
set_option maxRecDepth 100000

theorem ones_rep (n : Nat) : ones (List.replicate n 255) = 8 * n := by
  induction n with
  | zero => rfl
  | succ n ih =>
    have h : ones (255 :: List.replicate n 255) = ones [255] + ones (List.replicate n 255) := by simp [ones]
    have h1 : ones [255] = 8 := by decide +kernel
    rw [List.replicate_succ, h, h1, ih]
    omega

set_option maxHeartbeats 1000000 in
theorem PageEncodes_walk (g : Gm) (tg : Tg) (D : Option Addr) (dn dc : Nat) (d : List Nat) (w : World) (hD : R8 w D dn d) (hdc : dn ≤ dc) (hdn : dn ≤ 9223372036854775807) :
    Calls Try.prog 3 #[g.val, .slice D dn dc, tg.val] w (Gives (.bool true) w) := by
  have HD := Lib.hid hD
  have hSy := Small_yes g
  have hSn := Small_no g
  have hsm : smallG g ∨ ¬ smallG g := Classical.em _
  have hMy := RefMay_any tg
  have hRg := RefRight_any g
  obtain ⟨bl, en, henb, HEnc, hsp⟩ : ∃ (bl : List Nat) (en : Nat), (en = 0 ∨ en = 2) ∧ (∀ w', R8 w' D dn d → Calls Try.prog 10 #[g.val, .slice D dn dc, tg.val] w' (Ret2 bl en w')) ∧
      ((∃ C K : Nat, g.ok = true ∧ g.c = (C : Int) ∧ g.k = (K : Int) ∧ dn = C * K ∧ tg.ok = true ∧ en = 0 ∧ (pageL C K d tg.bytes).length = C * (K + 2) + 31 ∧ bl = pageL C K d tg.bytes ∧ ∀ w', R8 w' D dn d → Calls Try.prog 17 #[g.val, .slice D dn dc, tg.val] w' (MakesB bl w')) ∨
       (¬ (g.ok = true ∧ (dn : Int) = g.data ∧ tg.ok = true) ∧ bl = [] ∧ en = 2)) := by
    by_cases h : g.ok = true ∧ (dn : Int) = g.data ∧ tg.ok = true
    · obtain ⟨h1, h2, h3⟩ := h
      have hb := Gm.bounds_of h1
      unfold Gm.data at h2
      rw [if_pos h1, show g.c = (g.c.toNat : Int) by omega, show g.k = (g.k.toNat : Int) by omega, ← Int.natCast_mul] at h2
      have h4 : dn = g.c.toNat * g.k.toNat := by omega
      have hp := pageOk g.c.toNat g.k.toNat d tg (by omega) (by omega) (by rw [hD.len, h4]) hD.2
      exact ⟨pageL g.c.toNat g.k.toNat d tg.bytes, 0, .inl rfl, fun w' h' => PageEnc_yes g h1 _ _ (by omega) (by omega) tg h3 D dn dc h4 d w' h' hdc,
        .inl ⟨g.c.toNat, g.k.toNat, h1, by omega, by omega, h4, h3, rfl, pageL_length hp, rfl, fun w' h' => RefPageEnc_any g h1 _ _ (by omega) (by omega) tg h3 D dn dc h4 d w' h' hdc⟩⟩
    · refine ⟨[], 2, .inr rfl, fun w' _ => (PageEnc_no g tg D dn dc h w').mono ?_, .inr ⟨h, rfl, rfl⟩⟩
      rintro _ w2 ⟨rfl, h2⟩
      exact ⟨none, 0, rfl, ⟨Rd.nil_, fun x hx => by cases hx⟩, fun _ => rfl, by simp, h2⟩
  have HSp := Lib.hid hsp
  have HEn := Lib.hid HEnc
  have hrawN : smallG g → ∃ N : Nat, g.raw = (N : Int) ∧ N ≤ 1000 := by
    intro h
    unfold smallG at h
    cases ho : g.ok
    · exact ⟨0, by unfold Gm.raw; rw [if_neg (by rw [ho]; simp)]; rfl, by omega⟩
    · refine ⟨g.c.toNat * (g.k.toNat + 2) + 31, ?_, ?_⟩
      · unfold Gm.raw
        rw [if_pos ho, Int.natCast_add, Int.natCast_mul, Int.natCast_add, Int.toNat_of_nonneg h.2.2.1, Int.toNat_of_nonneg h.2.2.2]
        rfl
      · have h1 : g.c.toNat ≤ 4 := by omega
        have h2 : g.k.toNat + 2 ≤ 42 := by omega
        have := Nat.mul_le_mul h1 h2
        omega
  have HEr := Lib.hid (fun n h1 h2 w' => Erased_any g n h1 h2 w')
  have HRw := Lib.hid (fun v h w' => Raw_is g v h w')
  have HBd : Hid (g.ok = true → _) := Lib.hid (fun h => Gm.bounds_of (g := g) h)
  obtain ⟨bn, HBn⟩ : ∃ bn, Hid (bl.length = bn) := ⟨_, rfl⟩
  obtain ⟨go, HGo⟩ : ∃ go, Hid (g.ok = go) := ⟨_, rfl⟩
  obtain ⟨mo, HMo⟩ : ∃ mo, Hid (tg.ok = mo) := ⟨_, rfl⟩
  rw [HGo.out] at hRg
  rw [HMo.out] at hMy
  have HDt : Hid (g.ok = true → g.data = g.c * g.k) := Lib.hid (fun h => by unfold Gm.data; rw [if_pos h])
  clear hD hsp HEnc
  obtain ⟨tk, ts, tq, te⟩ := tg
  obtain ⟨p, b, s, gc, k, r, q⟩ := g
  simp only [Gm.val, Tg.val] at hSy hSn hMy hRg HEn HSp HEr HRw HBd HDt hrawN ⊢
  have B0 := Lib.hid (below_step (below_new w (.cells #[.int .i64 p, .int .i64 b, .int .i64 s, .int .i64 gc, .int .i64 k, .int .i64 r, .int .i64 q] 23)) (below_new _ (.cells #[.int .i64 tk, .int .i64 ts, .int .i64 tq, .int .i64 te] 26)))
  have Y0 := Lib.hid ((GBox.new w ⟨p, b, s, gc, k, r, q⟩ 23).below (below_new _ (.cells #[.int .i64 tk, .int .i64 ts, .int .i64 tq, .int .i64 te] 26)))
  have T0 : Hid (CRow ((w.alloc (.cells #[.int .i64 p, .int .i64 b, .int .i64 s, .int .i64 gc, .int .i64 k, .int .i64 r, .int .i64 q] 23)).alloc (.cells #[.int .i64 tk, .int .i64 ts, .int .i64 tq, .int .i64 te] 26)) (w.heap.size + 1) 26 #[.int .i64 tk, .int .i64 ts, .int .i64 tq, .int .i64 te]) := Lib.hid (by simpa using CRow.new (w.alloc (.cells #[.int .i64 p, .int .i64 b, .int .i64 s, .int .i64 gc, .int .i64 k, .int .i64 r, .int .i64 q] 23)) #[.int .i64 tk, .int .i64 ts, .int .i64 tq, .int .i64 te] 26)
  go_enter Try.func3, Try.ntmps3
  go_wp2_with fail
  refine (awake8_any _).mono ?_
  rintro _ w1 ⟨rfl, h1⟩
  have B1 := Lib.hid (below_step B0.out h1)
  have Y1 := Lib.hid (Y0.out.below h1)
  have T1 := Lib.hid (T0.out.below h1)
  clear h1 B0 Y0 T0
  obtain ⟨_, g0, g1, g2, g3, g4, g5, g6⟩ := Y1.out
  simp only at g0 g1 g2 g3 g4 g5 g6
  have t0 := T1.out.cell_at 0 (.int .i64 tk) rfl
  have t1 := T1.out.cell_at 1 (.int .i64 ts) rfl
  have t2 := T1.out.cell_at 2 (.int .i64 tq) rfl
  have t3 := T1.out.cell_at 3 (.int .i64 te) rfl
  go_wp2_with fail
  rcases hsm with hsm | hsm
  rotate_left
  · refine (hSn hsm _).mono ?_
    rintro _ w2 ⟨rfl, h2⟩
    have B2 := Lib.hid (below_step B1.out h2)
    clear h2
    clear g0 g1 g2 g3 g4 g5 g6 t0 t1 t2 t3
    go_wp2
    go_ret
    exact ⟨rfl, B2.out⟩
  · refine (hSy hsm _).mono ?_
    rintro _ w2 ⟨rfl, h2⟩
    have B2 := Lib.hid (below_step B1.out h2)
    have Y2 := Lib.hid (Y1.out.below h2)
    have T2 := Lib.hid (T1.out.below h2)
    clear g0 g1 g2 g3 g4 g5 g6 t0 t1 t2 t3
    obtain ⟨N, hrw, hN⟩ := hrawN hsm
    have hsm2 := hsm
    unfold smallG at hsm2
    simp only at hsm2
    have hEr := HEr.out N hrw (by omega)
    have hRw := HRw.out N hrw
    clear h2 hSy hSn B1 Y1 T1 hsm hrawN HEr HRw hrw
    obtain ⟨_, g0, g1, g2, g3, g4, g5, g6⟩ := Y2.out
    simp only at g0 g1 g2 g3 g4 g5 g6
    have t0 := T2.out.cell_at 0 (.int .i64 tk) rfl
    have t1 := T2.out.cell_at 1 (.int .i64 ts) rfl
    have t2 := T2.out.cell_at 2 (.int .i64 tq) rfl
    have t3 := T2.out.cell_at 3 (.int .i64 te) rfl
    by_cases hd2 : 200 < dn
    · have e1 : decide ((200 : Int) < (dn : Int)) = true := decide_eq_true (by omega)
      go_wp2
      go_ret
      exact ⟨rfl, B2.out⟩
    · have e1 : decide ((200 : Int) < (dn : Int)) = false := decide_eq_false (by omega)
      go_wp2_with fail
      refine (HEn.out _ (HD.out.below B2.out)).mono ?_
      intro _ w3 hM
      obtain ⟨A3, c3, rfl, R3, hnil3, hc3, D3⟩ := hM.at_ HBn.out
      have B3 := Lib.hid (below_step B2.out D3.out)
      have Y3 := Lib.hid (Y2.out.below D3.out)
      have T3 := Lib.hid (T2.out.below D3.out)
      clear g0 g1 g2 g3 g4 g5 g6 t0 t1 t2 t3
      clear hM D3 B2 Y2 T2 HEn e1
      obtain ⟨_, g0, g1, g2, g3, g4, g5, g6⟩ := Y3.out
      simp only at g0 g1 g2 g3 g4 g5 g6
      have t0 := T3.out.cell_at 0 (.int .i64 tk) rfl
      have t1 := T3.out.cell_at 1 (.int .i64 ts) rfl
      have t2 := T3.out.cell_at 2 (.int .i64 tq) rfl
      have t3 := T3.out.cell_at 3 (.int .i64 te) rfl
      go_wp2_with fail
      refine (hEr _).mono ?_
      intro _ w4 hM
      obtain ⟨A4, c4, rfl, R4, hc4, D4⟩ := hM.at_ (n := N) (by simp)
      have B4 := Lib.hid (below_step B3.out D4.out)
      have Y4 := Lib.hid (Y3.out.below D4.out)
      have T4 := Lib.hid (T3.out.below D4.out)
      have RB4 := Lib.hid (R3.out.below D4.out)
      clear g0 g1 g2 g3 g4 g5 g6 t0 t1 t2 t3
      clear hM D4 B3 Y3 T3 hEr R3
      obtain ⟨_, g0, g1, g2, g3, g4, g5, g6⟩ := Y4.out
      simp only at g0 g1 g2 g3 g4 g5 g6
      have t0 := T4.out.cell_at 0 (.int .i64 tk) rfl
      have t1 := T4.out.cell_at 1 (.int .i64 ts) rfl
      have t2 := T4.out.cell_at 2 (.int .i64 tq) rfl
      have t3 := T4.out.cell_at 3 (.int .i64 te) rfl
      go_wp2_with fail
      refine (hRw _).mono ?_
      rintro _ w5 ⟨rfl, h5⟩
      have B5 := Lib.hid (below_step B4.out h5)
      have Y5 := Lib.hid (Y4.out.below h5)
      have T5 := Lib.hid (T4.out.below h5)
      have RB5 := Lib.hid (RB4.out.below h5)
      have RX5 := Lib.hid (R4.out.below h5)
      clear g0 g1 g2 g3 g4 g5 g6 t0 t1 t2 t3
      clear h5 B4 Y4 T4 hRw R4 RB4
      go_wp2_with fail
      refine (Zeros_any _ _ _ (List.replicate N 255) _ RX5.out (by omega)).mono ?_
      rintro _ w6 ⟨rfl, rfl⟩
      rw [ones_rep, show (8 * (N : Int) - ((8 * N : Nat) : Int)) = 0 by omega]
      obtain ⟨_, g0, g1, g2, g3, g4, g5, g6⟩ := Y5.out
      simp only at g0 g1 g2 g3 g4 g5 g6
      have t0 := T5.out.cell_at 0 (.int .i64 tk) rfl
      have t1 := T5.out.cell_at 1 (.int .i64 ts) rfl
      have t2 := T5.out.cell_at 2 (.int .i64 tq) rfl
      have t3 := T5.out.cell_at 3 (.int .i64 te) rfl
      have RD5 := Lib.hid (HD.out.below B5.out)
      go_wp2_with fail
      refine (hRg _).mono ?_
      rintro _ w7 ⟨rfl, h7⟩
      have B7 := Lib.hid (below_step B5.out h7)
      have Y7 := Lib.hid (Y5.out.below h7)
      have T7 := Lib.hid (T5.out.below h7)
      have RB7 := Lib.hid (RB5.out.below h7)
      have RD7 := Lib.hid (RD5.out.below h7)
      clear g0 g1 g2 g3 g4 g5 g6 t0 t1 t2 t3
      clear h7 B5 Y5 T5 hRg RX5 RB5 RD5
      cases go
      · -- not valid
        have HE := Lib.hid (show bl = [] ∧ en = 2 by
          rcases HSp.out with ⟨C, K, h1, _⟩ | ⟨_, h1, h2⟩
          · rw [HGo.out] at h1; cases h1
          · exact ⟨h1, h2⟩)
        obtain rfl : en = 2 := HE.out.2
        obtain rfl : bn = 0 := by rw [← HBn.out, HE.out.1]; rfl
        clear HSp HE henb
        go_wp2
        go_ret
        exact ⟨ret_bool (by simp), B7.out⟩
      · have hdat := HDt.out HGo.out
        have hbd := HBd.out HGo.out
        obtain ⟨C, hC⟩ := Int.eq_ofNat_of_zero_le hsm2.2.2.1
        obtain ⟨K, hK⟩ := Int.eq_ofNat_of_zero_le hsm2.2.2.2
        subst hC hK
        obtain ⟨m, HM⟩ : ∃ m, Hid (C * K = m) := ⟨_, rfl⟩
        have hmul : (C : Int) * (K : Int) = (m : Int) := by rw [← HM.out, Int.natCast_mul]
        have hm9 : m ≤ 1000 := by
          have h1 : C ≤ 4 := by omega
          have h2 : K ≤ 40 := by omega
          have := Nat.mul_le_mul h1 h2
          rw [HM.out] at this
          omega
        rw [hmul] at hdat
        have HDa := Lib.hid hdat
        clear hdat HBd HDt
        obtain ⟨_, g0, g1, g2, g3, g4, g5, g6⟩ := Y7.out
        simp only at g0 g1 g2 g3 g4 g5 g6
        have t0 := T7.out.cell_at 0 (.int .i64 tk) rfl
        have t1 := T7.out.cell_at 1 (.int .i64 ts) rfl
        have t2 := T7.out.cell_at 2 (.int .i64 tq) rfl
        have t3 := T7.out.cell_at 3 (.int .i64 te) rfl
        by_cases hdm : dn = m
        · have hne : ((dn : Int) != (m : Int)) = false := by simp; omega
          have HDm := Lib.hid hdm
          clear hdm
          go_wp2_with fail
          refine (hMy _).mono ?_
          rintro _ w8 ⟨rfl, h8⟩
          have B8 := Lib.hid (below_step B7.out h8)
          have Y8 := Lib.hid (Y7.out.below h8)
          have T8 := Lib.hid (T7.out.below h8)
          have RB8 := Lib.hid (RB7.out.below h8)
          have RD8 := Lib.hid (RD7.out.below h8)
          clear g0 g1 g2 g3 g4 g5 g6 t0 t1 t2 t3
          clear h8 B7 Y7 T7 hMy RB7 RD7
          cases mo
          · have HE := Lib.hid (show bl = [] ∧ en = 2 by
              rcases HSp.out with ⟨C, K, _, _, _, _, h1, _⟩ | ⟨_, h1, h2⟩
              · rw [HMo.out] at h1; cases h1
              · exact ⟨h1, h2⟩)
            obtain rfl : en = 2 := HE.out.2
            obtain rfl : bn = 0 := by rw [← HBn.out, HE.out.1]; rfl
            clear HSp HE henb
            go_wp2
            go_ret
            exact ⟨ret_bool (by simp), B8.out⟩
          · obtain ⟨he0, hRe⟩ : en = 0 ∧ ∀ w', R8 w' D dn d → Calls Try.prog 17 #[.agg #[.int .i64 p, .int .i64 b, .int .i64 s, .int .i64 C, .int .i64 K, .int .i64 r, .int .i64 q], .slice D dn dc, .agg #[.int .i64 tk, .int .i64 ts, .int .i64 tq, .int .i64 te]] w' (MakesB bl w') := by
              rcases HSp.out with ⟨C, K, _, _, _, _, _, h1, _, _, h2⟩ | ⟨h0, _⟩
              · exact ⟨h1, h2⟩
              · exact absurd ⟨HGo.out, by rw [HDa.out, HDm.out], HMo.out⟩ h0
            have hbn : bn ≤ 1000 := by
              rcases HSp.out with ⟨C2, K2, _, h2, h3, _, _, _, h4, h5, _⟩ | ⟨_, h1, _⟩
              · have e2 : C2 ≤ 4 := by omega
                have e3 : K2 + 2 ≤ 42 := by omega
                have := Nat.mul_le_mul e2 e3
                rw [← HBn.out, h5, h4]
                omega
              · rw [← HBn.out, h1]; simp
            subst he0
            clear HSp henb
            obtain ⟨_, g0, g1, g2, g3, g4, g5, g6⟩ := Y8.out
            simp only at g0 g1 g2 g3 g4 g5 g6
            have t0 := T8.out.cell_at 0 (.int .i64 tk) rfl
            have t1 := T8.out.cell_at 1 (.int .i64 ts) rfl
            have t2 := T8.out.cell_at 2 (.int .i64 tq) rfl
            have t3 := T8.out.cell_at 3 (.int .i64 te) rfl
            go_wp2_with fail
            refine (hRe _ RD8.out).mono ?_
            intro _ w9 hM
            obtain ⟨A9, c9, rfl, R9, D9⟩ := hM.at_ HBn.out
            have B9 := Lib.hid (below_step B8.out D9.out)
            have RB9 := Lib.hid (RB8.out.below D9.out)
            clear g0 g1 g2 g3 g4 g5 g6 t0 t1 t2 t3
            clear hM D9 hRe B8 Y8 T8 RB8
            go_wp2_with fail
            refine (Same_any _ _ _ _ _ _ bl bl _ RB9.out R9.out (by omega) (by omega)).mono ?_
            rw [decide_eq_true (rfl : bl = bl)]
            rintro _ w10 ⟨rfl, nq, rfl⟩
            have B10 := Lib.hid (below_drewN B9.out nq)
            go_wp2
            go_ret
            exact ⟨ret_bool (by simp), B10.out⟩
        · have hne : ((dn : Int) != (m : Int)) = true := by simp; omega
          have HE := Lib.hid (show bl = [] ∧ en = 2 by
            rcases HSp.out with ⟨C2, K2, _, h1, h2, h3, _⟩ | ⟨_, h1, h2⟩
            · have e1 : C2 = C := by omega
              have e2 : K2 = K := by omega
              rw [e1, e2, HM.out] at h3
              exact absurd h3 hdm
            · exact ⟨h1, h2⟩)
          obtain rfl : en = 2 := HE.out.2
          obtain rfl : bn = 0 := by rw [← HBn.out, HE.out.1]; rfl
          clear HSp HE henb
          go_wp2
          go_ret
          exact ⟨ret_bool (by simp), B7.out⟩
end Go.Proofs.Ytjahbpmkkfdimaa
