/-
  Contract of page.Erased, over the landed code: as many bytes 255 as a raw page has.
-/
import Derived.Test.YtgiihdeilkiphaaLadderFitsJ12
import Derived.Test.YtgiihdeilkiphaaLadderFitsJRepeat
namespace Go.Proofs.Ytgiihdeilkiphaa
open Go.RowKit
set_option maxRecDepth 100000

set_option maxHeartbeats 1000000 in
theorem Erased_any (g : Gm) (n : Nat) (hg : g.raw = (n : Int)) (hn : n ≤ 8192) (w : World) :
    Calls Try.prog 18 #[g.val] w (MakesC (List.replicate n 255) w) := by
  have hRaw := Raw_is g n hg
  have HRep := Lib.hid (fun A c w' h => Repeat_one A c 255 n w' h hn)
  clear hg
  obtain ⟨p, b, s, gc, k, r, q⟩ := g
  simp only [Gm.val] at hRaw ⊢
  have Y0 := Lib.hid (GBox.new w ⟨p, b, s, gc, k, r, q⟩ 23)
  have B0 := Lib.hid (below_new w (.cells #[.int .i64 p, .int .i64 b, .int .i64 s, .int .i64 gc, .int .i64 k, .int .i64 r, .int .i64 q] 23))
  go_enter Try.func18, Try.ntmps18
  obtain ⟨_, g0, g1, g2, g3, g4, g5, g6⟩ := Y0.out
  simp only at g0 g1 g2 g3 g4 g5 g6
  have H1 : Hid (R8 ((w.alloc (.cells #[.int .i64 p, .int .i64 b, .int .i64 s, .int .i64 gc, .int .i64 k, .int .i64 r, .int .i64 q] 23)).alloc (.cells #[.int .u8 255] 5)) (some ⟨w.heap.size + 1, 0, none⟩) 1 [255]) := Lib.hid (by simpa using one_byte (w.alloc (.cells #[.int .i64 p, .int .i64 b, .int .i64 s, .int .i64 gc, .int .i64 k, .int .i64 r, .int .i64 q] 23)) 255 5 (by omega))
  have B1 := Lib.hid (below_step B0.out (below_new (w.alloc (.cells #[.int .i64 p, .int .i64 b, .int .i64 s, .int .i64 gc, .int .i64 k, .int .i64 r, .int .i64 q] 23)) (.cells #[.int .u8 255] 5)))
  go_wp2_with fail
  clear g0 g1 g2 g3 g4 g5 g6
  refine (hRaw _).mono ?_
  rintro _ w1 ⟨rfl, h1⟩
  have R1 := Lib.hid (H1.out.below h1)
  have B2 := Lib.hid (below_step B1.out h1)
  clear H1 h1
  go_wp2_with fail
  refine (HRep.out _ _ _ R1.out).mono ?_
  intro _ w2 hM
  obtain ⟨A, c, rfl, R2, hc, D2⟩ := hM.at_ (n := n) (by simp)
  have B3 := Lib.hid (below_step B2.out D2.out)
  clear hM
  go_wp2
  go_ret
  exact ⟨A, c, by simp, by simpa using R2.out, by simpa using hc, B3.out⟩
end Go.Proofs.Ytgiihdeilkiphaa
