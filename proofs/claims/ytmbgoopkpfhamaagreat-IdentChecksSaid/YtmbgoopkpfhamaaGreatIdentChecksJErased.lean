/-
  Contract of page.Erased, over the landed code: as many bytes 255 as a raw page has.
-/
import Derived.Test.YtmbgoopkpfhamaaGreatIdentChecksJ6
import Derived.Test.YtmbgoopkpfhamaaGreatIdentChecksJRepeat
namespace Go.Proofs.YtmbgoopkpfhamaaGreat
open Go.RowKit
set_option maxRecDepth 100000
theorem one_byte (w : World) (x : Nat) (t : TypeId) (hx : x < 256) : R8 (w.alloc (.cells #[.int .u8 (x : Int)] t)) (some ⟨w.heap.size, 0, none⟩) 1 [x] := by
 refine ⟨⟨rfl, fun _ => ⟨_, 0, rfl, by simp, fun j hj => ?_⟩⟩, by simp; omega⟩
 match j, hj with
 | 0, _ => simp [U8]
set_option maxHeartbeats 1000000 in
theorem Erased_fresh (g : Gm) (n : Nat) (hg : g.raw = (n : Int)) (hn : n ≤ 8192) (w : World) :
  Calls Tryz.prog 45 #[g.val] w (MakesF (List.replicate n 255) w) := by
 have hRaw := Raw_is g n hg
 have HRep := Lib.hid (fun A c w' h => Repeat_fresh A c 255 n w' h hn)
 clear hg
 obtain ⟨p, b, s, gc, k, r, q⟩ := g
 simp only [Gm.val] at hRaw ⊢
 have Y0 := Lib.hid (GBox.new w ⟨p, b, s, gc, k, r, q⟩ 23)
 have B0 := Lib.hid (below_new w (.cells #[.int .i64 p, .int .i64 b, .int .i64 s, .int .i64 gc, .int .i64 k, .int .i64 r, .int .i64 q] 23))
 go_enter Tryz.func45, Tryz.ntmps45
 obtain ⟨_, g0, g1, g2, g3, g4, g5, g6⟩ := Y0.out
 simp only at g0 g1 g2 g3 g4 g5 g6
 have H1 : Hid (R8 ((w.alloc (.cells #[.int .i64 p, .int .i64 b, .int .i64 s, .int .i64 gc, .int .i64 k, .int .i64 r, .int .i64 q] 23)).alloc (.cells #[.int .u8 255] 5)) (some ⟨w.heap.size + 1, 0, none⟩) 1 [255]) := Lib.hid (by simpa using one_byte (w.alloc (.cells #[.int .i64 p, .int .i64 b, .int .i64 s, .int .i64 gc, .int .i64 k, .int .i64 r, .int .i64 q] 23)) 255 5 (by omega))
 have B1 := Lib.hid (below_step B0.out (below_new (w.alloc (.cells #[.int .i64 p, .int .i64 b, .int .i64 s, .int .i64 gc, .int .i64 k, .int .i64 r, .int .i64 q] 23)) (.cells #[.int .u8 255] 5)))
 go_wp2_with fail
 clear g0 g1 g2 g3 g4 g5 g6
 refine (hRaw _).mono ?_
 rintro _ w1 ⟨rfl, h1⟩
 have R1 := Lib.hid (H1.out.below h1)
 have B2 := Lib.hid (below_step B1.out h1)
 clear H1 h1
 go_wp2_with fail
 refine (HRep.out _ _ _ R1.out).mono ?_
 intro _ w2 hM
 obtain ⟨b2, c, cur2, u2, rfl, hb2, hk2, R2', hc, D2'⟩ := hM
 have D2 := Lib.hid D2'
 have R2 := Lib.hid R2'
 have K2 := Lib.hid hk2
 clear hk2 D2' R2'
 have B3 := Lib.hid (below_step B2.out D2.out)
 go_wp2
 go_ret
 exact ⟨b2, c, cur2, u2, by simp, Nat.le_trans B2.out.size hb2, K2.out, by simpa using R2.out, by simpa using hc, B3.out⟩
end Go.Proofs.YtmbgoopkpfhamaaGreat
