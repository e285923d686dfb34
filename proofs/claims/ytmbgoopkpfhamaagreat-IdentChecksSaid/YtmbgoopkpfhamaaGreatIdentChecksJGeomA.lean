/-
  Contracts of geom.below and geom.valid, over the landed code.
-/
import Derived.Test.YtmbgoopkpfhamaaGreatIdentChecksJ3
import Derived.Test.YtmbgoopkpfhamaaGreatIdentChecksJBox
import Derived.Test.YtmbgoopkpfhamaaGreatIdentChecksJ1
namespace Go.Proofs.YtmbgoopkpfhamaaGreat
open Go.RowKit
set_option maxRecDepth 100000
theorem size_bounds : (Tryz.prog.info? 147).map (·.size) = some 21 := by kernel_rfl
def Gm.upto (g : Gm) (n : Nat) : Prop :=
 (1 ≤ n → 1 ≤ g.p ∧ g.p ≤ 4) ∧ (2 ≤ n → 2 ≤ g.b ∧ g.b ≤ 256) ∧ (3 ≤ n → 4 ≤ g.s ∧ g.s ≤ 64) ∧ (4 ≤ n → 1 ≤ g.c ∧ g.c ≤ 16) ∧ (5 ≤ n → 4 ≤ g.k ∧ g.k ≤ 512) ∧ (6 ≤ n → 1 ≤ g.r ∧ g.r ≤ 8) ∧ (7 ≤ n → 1 ≤ g.q ∧ g.q ≤ 8)
theorem Gm.upto_all {g : Gm} (h : g.upto 7) : g.sized := by
 unfold Gm.upto at h
 unfold Gm.sized
 omega
theorem Gm.ok_not {g : Gm} (h : ¬ g.sized) : g.ok = false := decide_eq_false fun h1 => h h1.1
def Gm.bounds (g : Gm) : Value := .agg #[.int .i64 g.p, .int .i64 1, .int .i64 4, .int .i64 g.b, .int .i64 2, .int .i64 256, .int .i64 g.s, .int .i64 4, .int .i64 64, .int .i64 g.c, .int .i64 1, .int .i64 16, .int .i64 g.k, .int .i64 4, .int .i64 512, .int .i64 g.r, .int .i64 1, .int .i64 8, .int .i64 g.q, .int .i64 1, .int .i64 8]
theorem bounds_at (g : Gm) (n : Nat) (h : n < 7) : ∃ x lo hi : Int, (∀ w : World, (Instr.index 147 g.bounds (.int .i64 n)).run Tryz.prog w = .ok (.agg #[.int .i64 x, .int .i64 lo, .int .i64 hi]) w) ∧
  (lo ≤ x → x ≤ hi → g.upto n → g.upto (n + 1)) ∧ (x < lo → g.ok = false) ∧ (hi < x → g.ok = false) := by
 obtain ⟨p, b, s, c, k, r, q⟩ := g
 have h7 : n = 0 ∨ n = 1 ∨ n = 2 ∨ n = 3 ∨ n = 4 ∨ n = 5 ∨ n = 6 := by omega
 clear h
 rcases h7 with rfl | rfl | rfl | rfl | rfl | rfl | rfl
 ·
  exact ⟨p, 1, 4, fun _ => by kernel_rfl, by simp only [Gm.upto]; omega, fun h => Gm.ok_not (by simp only [Gm.sized]; omega), fun h => Gm.ok_not (by simp only [Gm.sized]; omega)⟩
 ·
  exact ⟨b, 2, 256, fun _ => by kernel_rfl, by simp only [Gm.upto]; omega, fun h => Gm.ok_not (by simp only [Gm.sized]; omega), fun h => Gm.ok_not (by simp only [Gm.sized]; omega)⟩
 ·
  exact ⟨s, 4, 64, fun _ => by kernel_rfl, by simp only [Gm.upto]; omega, fun h => Gm.ok_not (by simp only [Gm.sized]; omega), fun h => Gm.ok_not (by simp only [Gm.sized]; omega)⟩
 ·
  exact ⟨c, 1, 16, fun _ => by kernel_rfl, by simp only [Gm.upto]; omega, fun h => Gm.ok_not (by simp only [Gm.sized]; omega), fun h => Gm.ok_not (by simp only [Gm.sized]; omega)⟩
 ·
  exact ⟨k, 4, 512, fun _ => by kernel_rfl, by simp only [Gm.upto]; omega, fun h => Gm.ok_not (by simp only [Gm.sized]; omega), fun h => Gm.ok_not (by simp only [Gm.sized]; omega)⟩
 ·
  exact ⟨r, 1, 8, fun _ => by kernel_rfl, by simp only [Gm.upto]; omega, fun h => Gm.ok_not (by simp only [Gm.sized]; omega), fun h => Gm.ok_not (by simp only [Gm.sized]; omega)⟩
 ·
  exact ⟨q, 1, 8, fun _ => by kernel_rfl, by simp only [Gm.upto]; omega, fun h => Gm.ok_not (by simp only [Gm.sized]; omega), fun h => Gm.ok_not (by simp only [Gm.sized]; omega)⟩
set_option maxHeartbeats 1000000 in
theorem valid_any (g : Gm) (w : World) : Calls Tryz.prog 50 #[g.val] w (Gives (.bool g.ok) w) := by
 have HI := Lib.hid (bounds_at g)
 obtain ⟨p, b, s, c, k, r, q⟩ := g
 simp only [Gm.val]
 go_enter Tryz.func50, Tryz.ntmps50
 go_wp2_with (first | (with_reducible refine (?_ : wpList _ _ _ ({ dst := _, op := Op.store 147 _ _, type := _, pos := _, after := _, guard := _ } :: _) _ _); refine wpList_store_new rfl 147 _ _ rfl 21 size_bounds _ ?hx rfl _ ?hn ?ho ?h1 ?_; (case hx => simp [Act.eval]); (case hn => simp); (case ho => simp); (case h1 => simp [Value.oneCell'])) | (with_reducible refine (?_ : wpList _ _ _ ({ dst := _, op := Op.load 147 _, type := _, pos := _, after := _, guard := _ } :: _) _ _); apply wpList_load_new (n := 21) (m := 7) (e := 146) (t := 147) (x := .tmp 3) (hu := Tryz.underlying147) (hi := size_bounds); (case hg => rfl); (case ho => rfl); (case hx => simp [Act.eval, Act.put]); (case hn => simp)))
 generalize HW : ((w.alloc _).alloc _ : World) = W0
 have B0 := Lib.hid (show Below w.heap.size w W0 from HW ▸ (((Below.refl _ w).alloc (Nat.le_refl _) _).alloc (by simp) _))
 have hs : w.heap.size < W0.heap.size := by rw [← HW]; simp; omega
 have c0 : W0.cell? ⟨w.heap.size, 0, none⟩ = some (.int .i64 p) := by rw [← HW]; simp
 have c1 : W0.cell? ⟨w.heap.size, 1, none⟩ = some (.int .i64 b) := by rw [← HW]; simp
 have c2 : W0.cell? ⟨w.heap.size, 2, none⟩ = some (.int .i64 s) := by rw [← HW]; simp
 clear HW
 obtain ⟨V, hV⟩ : ∃ V, Gm.bounds ⟨p, b, s, c, k, r, q⟩ = V := ⟨_, rfl⟩
 have hV2 := hV
 simp only [Gm.bounds] at hV2
 rw [hV2]
 rw [hV] at HI
 clear hV hV2
 go_loopw [29] (fun i wr => ∃ n : Nat, n ≤ 7 ∧ i = .int .i64 n ∧ Hid (Gm.upto ⟨p, b, s, c, k, r, q⟩ n) ∧ Hid (Below W0.heap.size W0 wr)) (fun i _ => 7 - (intOf i).toNat)
 case atStart => exact ⟨0, Nat.zero_le _, rfl, by simp [Hid, Gm.upto], Below.refl _ _⟩
 case round =>
  obtain ⟨n, hn, rfl, HU, HB⟩ := hrel
  by_cases hlt : n < 7
  ·
   obtain ⟨x, lo, hi, hrun, h1, h2, h3⟩ := HI.out n hlt
   have H1 := Lib.hid h1
   have H2 := Lib.hid h2
   have H3 := Lib.hid h3
   clear h1 h2 h3 HI c0 c1 c2
   have HW := Lib.hid (B0.out.trans ((HB.out.mono (Nat.le_of_lt hs)).alloc (Nat.le_trans (Nat.le_of_lt hs) HB.out.size) (.cells #[.int .i64 x, .int .i64 lo, .int .i64 hi] 146)))
   have HW2 := Lib.hid (HB.out.alloc HB.out.size (.cells #[.int .i64 x, .int .i64 lo, .int .i64 hi] 146))
   by_cases hx1 : x < lo
   ·
    go_wp2
    go_ret
    exact ⟨ret_bool (H2.out hx1).symm, HW.out⟩
   ·
    by_cases hx2 : hi < x
    ·
     go_wp2
     go_ret
     exact ⟨ret_bool (H3.out hx2).symm, HW.out⟩
    ·
     go_wp2
     go_roundw
     case rel => exact ⟨n + 1, by omega, by go_num, H1.out (by omega) (by omega) HU.out, HW2⟩
     case measure => simp [intOf]; omega
  ·
   obtain rfl : n = 7 := by omega
   have hz := Gm.upto_all HU.out
   have d0 := (HB.out.cell (p := ⟨w.heap.size, 0, none⟩) hs).trans c0
   have d1 := (HB.out.cell (p := ⟨w.heap.size, 1, none⟩) hs).trans c1
   have d2 := (HB.out.cell (p := ⟨w.heap.size, 2, none⟩) hs).trans c2
   have HW := Lib.hid (B0.out.trans (HB.out.mono (Nat.le_of_lt hs)))
   have HZ := Lib.hid hz
   have hp : 1 ≤ p ∧ p ≤ 4 := hz.1
   have hb : 2 ≤ b ∧ b ≤ 256 := hz.2.1
   have hs2 : 4 ≤ s ∧ s ≤ 64 := hz.2.2.1
   clear HI c0 c1 c2 hz
   by_cases h1 : b % p = 0
   ·
    by_cases h2 : s % 2 = 0
    ·
     have HO := Lib.hid (show Gm.ok ⟨p, b, s, c, k, r, q⟩ = true from decide_eq_true ⟨HZ.out, h1, h2⟩)
     go_wp2
     go_ret
     exact ⟨ret_bool HO.out.symm, HW.out⟩
    ·
     have HO := Lib.hid (show Gm.ok ⟨p, b, s, c, k, r, q⟩ = false from decide_eq_false fun h => h2 h.2.2)
     go_wp2
     go_ret
     exact ⟨ret_bool (by rw [HO.out]; simpa using h2), HW.out⟩
   ·
    have HO := Lib.hid (show Gm.ok ⟨p, b, s, c, k, r, q⟩ = false from decide_eq_false fun h => h1 h.2.1)
    go_wp2
    go_ret
    exact ⟨ret_bool HO.out.symm, HW.out⟩
end Go.Proofs.YtmbgoopkpfhamaaGreat
