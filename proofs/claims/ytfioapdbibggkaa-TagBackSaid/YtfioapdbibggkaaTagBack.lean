/-
  The walk of the law TagBack over the landed code, out of its callees' contracts.
-/
import Derived.Test.YtfioapdbibggkaaTagAw
import Derived.Test.YtfioapdbibggkaaTagC
import Derived.Test.YtfioapdbibggkaaSame
import Derived.Test.YtfioapdbibggkaaBitsZeros
namespace Go.Proofs.Ytfioapdbibggkaa
open Go.RowKit

theorem Zeros_tag (A : Option Addr) (c : Nat) (t : Tg) (w : World) (hr : R8 w A 24 t.bytes) :
    ∃ z : Int, 56 ≤ z ∧ Hid (Calls Try.prog 16 #[.slice A 24 c] w fun e w' => e = .returned (.int .i64 z) ∧ w = w') := by
  refine ⟨_, ?_, Zeros_any A 24 c t.bytes w hr (by omega)⟩
  have := t.few
  omega

set_option maxRecDepth 100000 in
set_option maxHeartbeats 4000000 in
theorem TagBack_walk (t : Tg) (A : Option Addr) (n c : Nat) (l : List Nat) (w : World) (ha : R8 w A n l) (hn : n ≤ 9223372036854775807) (hc : n ≤ c) :
    Calls Try.prog 5 #[t.val, .slice A n c] w (Gives (.bool true) w) := by
  have HA := Lib.hid ha
  have H2 := Lib.hid (takeT_two ha.2)
  clear ha
  obtain ⟨k, s, q, e⟩ := t
  simp only [Tg.val]
  go_enter Try.func5, Try.ntmps5
  go_wp2_with fail
  refine (awake7_any _).mono ?_
  rintro _ w1 ⟨rfl, h1⟩
  have B1 := Lib.hid (below_step (below_new w _) h1)
  have T1 := Lib.hid ((TRow.new w ⟨k, s, q, e⟩ 23).below h1)
  clear h1
  by_cases hn1 : 200 < n
  · go_wp2
    go_ret
    exact ⟨rfl, B1.out⟩
  · obtain ⟨_, x0, x1, x2, x3⟩ := T1.out.box
    simp only at x0 x1 x2 x3
    have hd : decide ((200 : Int) < (n : Int)) = false := decide_eq_false (by omega)
    cases ho : Tg.ok ⟨k, s, q, e⟩
    · have HO := Lib.hid ho
      clear ho
      go_wp2_with fail
      refine (TagPut_no ⟨k, s, q, e⟩ HO.out _).mono ?_
      intro _ w2 hp
      obtain ⟨A2, c2, rfl, _, D2, _, _⟩ := hp.at_ rfl
      have B2 := Lib.hid (below_step B1.out D2.out)
      clear hp D2 x0 x1 x2 x3 T1 B1
      rcases H2.out with ⟨er, he, hT⟩ | ⟨⟨yk, ys, yq, ye⟩, hT, hy, hl⟩
      · have HT := Lib.hid hT
        have hne : (er != 0) = true := by simpa using he
        clear hT he H2
        go_wp2_with fail
        refine (TagTake_is _ n _ l Tg.zero er _ (HA.out.below B2.out) (by omega) hc HT.out).mono ?_
        rintro _ w8 ⟨rfl, h8⟩
        have B8 := Lib.hid (below_step B2.out h8)
        clear h8
        simp only [Tg.val, Tg.zero]
        go_wp2
        go_ret
        exact ⟨by simp [go_sem], below_step B8.out (below_new w8 _)⟩
      · have HT := Lib.hid hT
        have HY := Lib.hid hy
        have HLl := Lib.hid hl
        clear hT hy hl H2
        go_wp2_with fail
        refine (TagTake_is _ n _ l ⟨yk, ys, yq, ye⟩ 0 _ (HA.out.below B2.out) (by omega) hc HT.out).mono ?_
        rintro _ w8 ⟨rfl, h8⟩
        have B8 := Lib.hid (below_step B2.out h8)
        clear h8
        simp only [Tg.val]
        go_wp2_with fail
        have B9 := Lib.hid (below_step B8.out (below_new w8 (.cells #[.int .i64 yk, .int .i64 ys, .int .i64 yq, .int .i64 ye] 23)))
        have T9 := Lib.hid (TRow.new w8 ⟨yk, ys, yq, ye⟩ 23)
        refine (TagPut_yes ⟨yk, ys, yq, ye⟩ HY.out _).mono ?_
        intro _ w9 hp
        obtain ⟨A9, c9, rfl, H9, D9, _, _⟩ := hp.at_ (Tg.bytes_len _)
        have B10 := Lib.hid (below_step B9.out D9.out)
        have T10 := Lib.hid (T9.out.below D9.out)
        clear hp D9 T9 B9
        have hn24 : n = 24 := by rw [← HA.out.len, ← HLl.out]; exact Tg.bytes_len _
        subst hn24
        go_wp2_with fail
        refine (Same_any _ _ 24 _ 24 _ _ _ _ H9.out (HA.out.below B10.out) (by omega) (by omega)).mono ?_
        intro _ w10 hq
        obtain ⟨rfl, D10⟩ := hq.at_
        have B11 := Lib.hid (below_step B10.out D10.out)
        have T11 := Lib.hid (T10.out.below D10.out)
        clear hq D10 B10 T10
        rw [show decide (Tg.bytes ⟨yk, ys, yq, ye⟩ = l) = true from decide_eq_true HLl.out]
        obtain ⟨_, y0, y1, y2, y3⟩ := T11.out.box
        simp only at y0 y1 y2 y3
        go_wp2_with fail
        refine (May_is ⟨yk, ys, yq, ye⟩ _ HY.out _).mono ?_
        rintro _ w12 ⟨rfl, h12⟩
        have B12 := Lib.hid (below_step B11.out h12)
        clear h12
        go_wp2
        go_ret
        exact ⟨rfl, B12.out⟩
    · have HO := Lib.hid ho
      have HB := Lib.hid (takeT_bytes ho)
      clear ho
      go_wp2_with fail
      refine (TagPut_yes ⟨k, s, q, e⟩ HO.out _).mono ?_
      intro _ w2 hp
      obtain ⟨A2, c2, rfl, Hx, D2, hc2, _⟩ := hp.at_ (Tg.bytes_len _)
      have B2 := Lib.hid (below_step B1.out D2.out)
      have T2 := Lib.hid (T1.out.below D2.out)
      clear hp D2 x0 x1 x2 x3 T1 B1
      go_wp2_with fail
      refine (TagTake_is _ 24 _ (Tg.bytes ⟨k, s, q, e⟩) ⟨k, s, q, e⟩ 0 _ Hx.out (by omega) hc2 HB.out).mono ?_
      rintro _ w3 ⟨rfl, h3⟩
      have B3 := Lib.hid (below_step (below_step B2.out h3) (below_new w3 (.cells #[.int .i64 k, .int .i64 s, .int .i64 q, .int .i64 e] 23)))
      have T3 := Lib.hid ((T2.out.below h3).below (below_new w3 (.cells #[.int .i64 k, .int .i64 s, .int .i64 q, .int .i64 e] 23)))
      have H3 := Lib.hid ((Hx.out.below h3).below (below_new w3 (.cells #[.int .i64 k, .int .i64 s, .int .i64 q, .int .i64 e] 23)))
      clear h3 T2 B2 Hx
      simp only [Tg.val]
      obtain ⟨_, x0, x1, x2, x3⟩ := T3.out.box
      simp only at x0 x1 x2 x3
      obtain ⟨z, hz, HZ⟩ := Zeros_tag A2 c2 ⟨k, s, q, e⟩ _ H3.out
      go_wp2_with fail
      refine HZ.out.mono ?_
      rintro _ _ ⟨rfl, rfl⟩
      generalize (w3.alloc (.cells #[.int .i64 k, .int .i64 s, .int .i64 q, .int .i64 e] 23)) = w4 at *
      clear x0 x1 x2 x3 HZ
      rcases H2.out with ⟨er, he, hT⟩ | ⟨⟨yk, ys, yq, ye⟩, hT, hy, hl⟩
      · have HT := Lib.hid hT
        have hne : (er != 0) = true := by simpa using he
        clear hT he H2
        go_wp2_with fail
        refine (TagTake_is _ n _ l Tg.zero er _ (HA.out.below B3.out) (by omega) hc HT.out).mono ?_
        rintro _ w8 ⟨rfl, h8⟩
        have B8 := Lib.hid (below_step B3.out h8)
        clear h8
        simp only [Tg.val, Tg.zero]
        go_wp2
        go_ret
        exact ⟨by simp [go_sem], below_step B8.out (below_new w8 _)⟩
      · have HT := Lib.hid hT
        have HY := Lib.hid hy
        have HLl := Lib.hid hl
        clear hT hy hl H2
        go_wp2_with fail
        refine (TagTake_is _ n _ l ⟨yk, ys, yq, ye⟩ 0 _ (HA.out.below B3.out) (by omega) hc HT.out).mono ?_
        rintro _ w8 ⟨rfl, h8⟩
        have B8 := Lib.hid (below_step B3.out h8)
        clear h8
        simp only [Tg.val]
        go_wp2_with fail
        have B9 := Lib.hid (below_step B8.out (below_new w8 (.cells #[.int .i64 yk, .int .i64 ys, .int .i64 yq, .int .i64 ye] 23)))
        have T9 := Lib.hid (TRow.new w8 ⟨yk, ys, yq, ye⟩ 23)
        refine (TagPut_yes ⟨yk, ys, yq, ye⟩ HY.out _).mono ?_
        intro _ w9 hp
        obtain ⟨A9, c9, rfl, H9, D9, _, _⟩ := hp.at_ (Tg.bytes_len _)
        have B10 := Lib.hid (below_step B9.out D9.out)
        have T10 := Lib.hid (T9.out.below D9.out)
        clear hp D9 T9 B9
        have hn24 : n = 24 := by rw [← HA.out.len, ← HLl.out]; exact Tg.bytes_len _
        subst hn24
        go_wp2_with fail
        refine (Same_any _ _ 24 _ 24 _ _ _ _ H9.out (HA.out.below B10.out) (by omega) (by omega)).mono ?_
        intro _ w10 hq
        obtain ⟨rfl, D10⟩ := hq.at_
        have B11 := Lib.hid (below_step B10.out D10.out)
        have T11 := Lib.hid (T10.out.below D10.out)
        clear hq D10 B10 T10
        rw [show decide (Tg.bytes ⟨yk, ys, yq, ye⟩ = l) = true from decide_eq_true HLl.out]
        obtain ⟨_, y0, y1, y2, y3⟩ := T11.out.box
        simp only at y0 y1 y2 y3
        go_wp2_with fail
        refine (May_is ⟨yk, ys, yq, ye⟩ _ HY.out _).mono ?_
        rintro _ w12 ⟨rfl, h12⟩
        have B12 := Lib.hid (below_step B11.out h12)
        clear h12
        go_wp2
        go_ret
        exact ⟨rfl, B12.out⟩
end Go.Proofs.Ytfioapdbibggkaa
