/-
  The walk of the law ArrayTwice over the landed code, out of its callees' contracts.
-/
import Derived.Test.YtipmjmbkknlcfaaArAw
import Derived.Test.YtipmjmbkknlcfaaGeomR
import Derived.Test.YtipmjmbkknlcfaaSameG
namespace Go.Proofs.Ytipmjmbkknlcfaa
open Go.RowKit
set_option maxRecDepth 100000

/-- What each row is programmed with. -/
def seqs (x y : List Nat) : Nat → List (List Nat)
  | 0 => [x, y]
  | 1 => [y, x]
  | _ => [x, y, x]
def TS (s : St) (x y : List Nat) : Nat → St
  | 0 => s
  | f + 1 => (seqs x y f).foldl (fun s r => s.prog f r) (TS s x y f)
theorem foldl_take {f : Nat} {s : St} {L : List (List Nat)} {k : Nat} {l : List Nat} (h : L[k]? = some l) : ((L.take (k + 1)).foldl (fun s r => s.prog f r) s) = ((L.take k).foldl (fun s r => s.prog f r) s).prog f l := by
  rw [List.take_add_one, h, Option.toList_some, List.foldl_append]
  rfl
theorem TS_rows (N R P B : Nat) (x y : List Nat) (hR : 3 ≤ R) (hx : x.length = N) (hy : y.length = N) (bx : ∀ v ∈ x, v < 256) (by_ : ∀ v ∈ y, v < 256) :
    (TS (St.new N R P B []) x y 3).rows[0]? = some ⟨andL x y, 2, false⟩ ∧ (TS (St.new N R P B []) x y 3).rows[1]? = some ⟨andL x y, 2, false⟩ ∧ (TS (St.new N R P B []) x y 3).rows[2]? = some ⟨andL x y, 3, false⟩ := by
  have e0 : ∀ i, i < R → (newR N R P [])[i]? = some (ersd N) := fun i hi => by rw [newR_get _ _ _ _ _ hi]; rfl
  have i1 : inc 0 = 1 := by decide +kernel
  have i2 : inc 1 = 2 := by decide +kernel
  have i3 : inc 2 = 3 := by decide +kernel
  have a1 : andL (List.replicate N 255) x = x := andL_erased N x hx bx
  have a2 : andL (List.replicate N 255) y = y := andL_erased N y hy by_
  have a3 : andL y x = andL x y := andL_comm y x
  have a4 : andL (andL x y) x = andL x y := andL_self_left x y
  refine ⟨?_, ?_, ?_⟩
  · simp [TS, seqs, St.prog, St.new, sec_get, e0 0 (by omega), Pg.prog, ersd, i1, i2, a1]
  · simp [TS, seqs, St.prog, St.new, sec_get, e0 1 (by omega), Pg.prog, ersd, i1, i2, a2, a3]
  · simp [TS, seqs, St.prog, St.new, sec_get, e0 2 (by omega), Pg.prog, ersd, i1, i2, i3, a1, a4]

set_option maxHeartbeats 8000000 in
theorem ArrayTwice_walk (g : Gm) (XA : Option Addr) (xn xc : Nat) (x : List Nat) (YA : Option Addr) (yn yc : Nat) (y : List Nat) (w : World) (hx : R8 w XA xn x) (hy : R8 w YA yn y) (hxn : xn ≤ 9223372036854775807) (hyn : yn ≤ 9223372036854775807) :
    Calls Try.prog 5 #[g.val, .slice XA xn xc, .slice YA yn yc] w (Gives (.bool true) w) := by
  have HX := Lib.hid hx
  have HY := Lib.hid hy
  have HS := Lib.hid (fun w' => Small13_any g w')
  have Y0 := Lib.hid (GBox.new w g 23)
  have B0 := Lib.hid (below_new w (.cells #[.int .i64 g.p, .int .i64 g.b, .int .i64 g.s, .int .i64 g.c, .int .i64 g.k, .int .i64 g.r, .int .i64 g.q] 23))
  clear hx hy
  unfold Gm.val at HS ⊢
  go_enter Try.func5, Try.ntmps5
  go_wp2_with fail
  refine (awake13_any _).mono ?_
  rintro _ w1 ⟨rfl, h1⟩
  have Y1 := Lib.hid (Y0.out.below h1)
  have B1 := Lib.hid (below_step B0.out h1)
  clear h1 Y0 B0
  obtain ⟨v, hv, hSm⟩ := HS.out w1
  obtain ⟨_, g0, g1, g2, g3, g4, g5, g6⟩ := Y1.out
  go_wp2_with fail
  refine hSm.mono ?_
  rintro _ w2 ⟨rfl, h2⟩
  have Y2 := Lib.hid (Y1.out.below h2)
  have B2 := Lib.hid (below_step B1.out h2)
  clear h2 Y1 B1 hSm HS g0 g1 g2 g3 g4 g5 g6
  cases v with
  | false =>
    clear hv
    go_wp2
    go_ret
    exact ⟨rfl, B2.out⟩
  | true =>
    have HSM := Lib.hid (hv.1 rfl)
    clear hv
    obtain ⟨_, g0, g1, g2, g3, g4, g5, g6⟩ := Y2.out
    have hRt := RefRight_any g w2
    unfold Gm.val at hRt
    go_wp2_with fail
    clear g0 g1 g2 g3 g4 g5 g6
    refine hRt.mono ?_
    rintro _ w3 ⟨rfl, h3⟩
    have Y3 := Lib.hid (Y2.out.below h3)
    have B3 := Lib.hid (below_step B2.out h3)
    clear h3 hRt Y2 B2
    cases ho : g.ok with
    | false =>
      go_wp2
      go_ret
      exact ⟨rfl, B3.out⟩
    | true =>
      have HO := Lib.hid ho
      have hbd := Gm.bounds_of ho
      have hraw : g.raw = g.c * (g.k + 2) + 31 := by unfold Gm.raw; rw [if_pos ho]
      have hck : 0 ≤ g.c * (g.k + 2) := Int.mul_nonneg (by omega) (by omega)
      have hr1000 := raw_small ho HSM.out
      obtain ⟨N, hNN⟩ : ∃ N, N = g.raw.toNat := ⟨_, rfl⟩
      have HN := Lib.hid (show g.raw = (N : Int) by omega)
      have HNN := Lib.hid hNN
      have hN1 : 0 < N := by omega
      have hN3 : N ≤ 1000 := by omega
      have HR3 : Hid (3 ≤ (g.b * g.s).toNat) := Lib.hid (by
        have h9 := mul_le (a := 2) (b := 4) (m := g.b) (n := g.s) (by omega) (by omega) (by omega) (by omega)
        omega)
      have HLOW := Lib.hid hr1000
      clear ho hbd hraw hck hNN hr1000
      obtain ⟨_, g0, g1, g2, g3, g4, g5, g6⟩ := Y3.out
      have hR1 := RefRaw_any g w3 HO.out
      rw [HN.out] at hR1
      unfold Gm.val at hR1
      go_wp2_with fail
      clear g0 g1 g2 g3 g4 g5 g6
      refine hR1.mono ?_
      rintro _ w4 ⟨rfl, h4⟩
      have Y4 := Lib.hid (Y3.out.below h4)
      have B4 := Lib.hid (below_step B3.out h4)
      clear h4 hR1 Y3 B3
      by_cases hxN : xn = N
      case neg =>
        have hbeq : ((xn : Int) == (N : Int)) = false := by rw [beq_eq_false_iff_ne]; omega
        have hbne : ((xn : Int) != (N : Int)) = true := by rw [bne_iff_ne]; omega
        go_wp2
        go_ret
        exact ⟨rfl, B4.out⟩
      obtain rfl : N = xn := hxN.symm
      obtain ⟨_, g0, g1, g2, g3, g4, g5, g6⟩ := Y4.out
      have hR2 := RefRaw_any g w4 HO.out
      rw [HN.out] at hR2
      unfold Gm.val at hR2
      go_wp2_with fail
      clear g0 g1 g2 g3 g4 g5 g6
      refine hR2.mono ?_
      rintro _ w5 ⟨rfl, h5⟩
      have Y5 := Lib.hid (Y4.out.below h5)
      have B5 := Lib.hid (below_step B4.out h5)
      clear h5 hR2 Y4 B4
      by_cases hyN : yn = N
      case neg =>
        have hbeq : ((yn : Int) == (N : Int)) = false := by rw [beq_eq_false_iff_ne]; omega
        clear hyN
        go_wp2
        go_ret
        exact ⟨rfl, B5.out⟩
      obtain rfl : N = yn := hyN.symm
      obtain ⟨_, g0, g1, g2, g3, g4, g5, g6⟩ := Y5.out
      have hNw := New_nil g w5 HO.out HLOW.out
      unfold Gm.val at hNw
      go_wp2_with fail
      clear g0 g1 g2 g3 g4 g5 g6
      refine hNw.mono ?_
      rintro _ w6 ⟨p, q, r, rfl, h6, b6, hp, hq, hr⟩
      have X6 := Lib.hid (HX.out.below (below_step B5.out b6))
      have Z6 := Lib.hid (HY.out.below (below_step B5.out b6))
      have B6 := Lib.hid (below_step B5.out b6)
      have hq0 : w.heap.size ≤ q := Nat.le_trans B5.out.size hq
      have hqx : ∀ b off, XA = some ⟨b, off, none⟩ → b ≠ q := fun b off e => by have := HX.out.lt_block hN1 b off e; omega
      have hqy : ∀ b off, YA = some ⟨b, off, none⟩ → b ≠ q := fun b off e => by have := HY.out.lt_block hN1 b off e; omega
      have hq6 := h6.lt q (.inr (.inl rfl))
      have HQX := Lib.hid hqx
      have HQY := Lib.hid hqy
      have n1 := below_new w6 (.cells #[.slice XA N xc, .slice YA N yc] 35)
      have n2 := below_step n1 (below_new (w6.alloc (.cells #[.slice XA N xc, .slice YA N yc] 35)) (.cells #[.slice YA N yc, .slice XA N xc] 35))
      have n3 := below_step n2 (below_new ((w6.alloc (.cells #[.slice XA N xc, .slice YA N yc] 35)).alloc (.cells #[.slice YA N yc, .slice XA N xc] 35)) (.cells #[.slice XA N xc, .slice YA N yc, .slice XA N xc] 35))
      have n4 := below_step n3 (below_new (((w6.alloc (.cells #[.slice XA N xc, .slice YA N yc] 35)).alloc (.cells #[.slice YA N yc, .slice XA N xc] 35)).alloc (.cells #[.slice XA N xc, .slice YA N yc, .slice XA N xc] 35)) (.cells #[.slice (some ⟨w6.heap.size, 0, none⟩) 2 2, .slice (some ⟨w6.heap.size + 1, 0, none⟩) 2 2, .slice (some ⟨w6.heap.size + 2, 0, none⟩) 3 3] 43))
      have s1 : (w6.alloc (.cells #[.slice XA N xc, .slice YA N yc] 35)).heap.size = w6.heap.size + 1 := by simp
      have s2 : ((w6.alloc (.cells #[.slice XA N xc, .slice YA N yc] 35)).alloc (.cells #[.slice YA N yc, .slice XA N xc] 35)).heap.size = w6.heap.size + 2 := by simp
      have s3 : (((w6.alloc (.cells #[.slice XA N xc, .slice YA N yc] 35)).alloc (.cells #[.slice YA N yc, .slice XA N xc] 35)).alloc (.cells #[.slice XA N xc, .slice YA N yc, .slice XA N xc] 35)).heap.size = w6.heap.size + 3 := by simp
      have m2 := below_new (w6.alloc (.cells #[.slice XA N xc, .slice YA N yc] 35)) (.cells #[.slice YA N yc, .slice XA N xc] 35)
      have m3 := below_step m2 (below_new ((w6.alloc (.cells #[.slice XA N xc, .slice YA N yc] 35)).alloc (.cells #[.slice YA N yc, .slice XA N xc] 35)) (.cells #[.slice XA N xc, .slice YA N yc, .slice XA N xc] 35))
      have m4 := below_step m3 (below_new (((w6.alloc (.cells #[.slice XA N xc, .slice YA N yc] 35)).alloc (.cells #[.slice YA N yc, .slice XA N xc] 35)).alloc (.cells #[.slice XA N xc, .slice YA N yc, .slice XA N xc] 35)) (.cells #[.slice (some ⟨w6.heap.size, 0, none⟩) 2 2, .slice (some ⟨w6.heap.size + 1, 0, none⟩) 2 2, .slice (some ⟨w6.heap.size + 2, 0, none⟩) 3 3] 43))
      have k3 := below_new ((w6.alloc (.cells #[.slice XA N xc, .slice YA N yc] 35)).alloc (.cells #[.slice YA N yc, .slice XA N xc] 35)) (.cells #[.slice XA N xc, .slice YA N yc, .slice XA N xc] 35)
      have k4 := below_step k3 (below_new (((w6.alloc (.cells #[.slice XA N xc, .slice YA N yc] 35)).alloc (.cells #[.slice YA N yc, .slice XA N xc] 35)).alloc (.cells #[.slice XA N xc, .slice YA N yc, .slice XA N xc] 35)) (.cells #[.slice (some ⟨w6.heap.size, 0, none⟩) 2 2, .slice (some ⟨w6.heap.size + 1, 0, none⟩) 2 2, .slice (some ⟨w6.heap.size + 2, 0, none⟩) 3 3] 43))
      have j4 := below_new (((w6.alloc (.cells #[.slice XA N xc, .slice YA N yc] 35)).alloc (.cells #[.slice YA N yc, .slice XA N xc] 35)).alloc (.cells #[.slice XA N xc, .slice YA N yc, .slice XA N xc] 35)) (.cells #[.slice (some ⟨w6.heap.size, 0, none⟩) 2 2, .slice (some ⟨w6.heap.size + 1, 0, none⟩) 2 2, .slice (some ⟨w6.heap.size + 2, 0, none⟩) 3 3] 43)
      have c1 := (CRow.new w6 #[.slice XA N xc, .slice YA N yc] 35).below m4
      have c2 := CRow.new (w6.alloc (.cells #[.slice XA N xc, .slice YA N yc] 35)) #[.slice YA N yc, .slice XA N xc] 35
      rw [s1] at c2
      have c2 := c2.below k4
      have c3 := CRow.new ((w6.alloc (.cells #[.slice XA N xc, .slice YA N yc] 35)).alloc (.cells #[.slice YA N yc, .slice XA N xc] 35)) #[.slice XA N xc, .slice YA N yc, .slice XA N xc] 35
      rw [s2] at c3
      have c3 := c3.below j4
      have c4 := CRow.new (((w6.alloc (.cells #[.slice XA N xc, .slice YA N yc] 35)).alloc (.cells #[.slice YA N yc, .slice XA N xc] 35)).alloc (.cells #[.slice XA N xc, .slice YA N yc, .slice XA N xc] 35)) #[.slice (some ⟨w6.heap.size, 0, none⟩) 2 2, .slice (some ⟨w6.heap.size + 1, 0, none⟩) 2 2, .slice (some ⟨w6.heap.size + 2, 0, none⟩) 3 3] 43
      rw [s3] at c4
      have A7 := Lib.hid (h6.below n4)
      have X7 := Lib.hid (X6.out.below n4)
      have Z7 := Lib.hid (Z6.out.below n4)
      have B7 := Lib.hid (below_step B6.out n4)
      have K1 := Lib.hid c1
      have K2 := Lib.hid c2
      have K3 := Lib.hid c3
      have K4 := Lib.hid c4
      obtain ⟨b0, hb0⟩ : ∃ b0, b0 = w6.heap.size := ⟨_, rfl⟩
      clear h6 b6 n1 n2 n3 n4 s1 s2 s3 m2 m3 m4 k3 k4 j4 c1 c2 c3 c4 X6 Z6 B6 hNw hp hq hr Y5 B5 hqx hqy
      go_wp2
      generalize ((((w6.alloc (.cells #[.slice XA N xc, .slice YA N yc] 35)).alloc (.cells #[.slice YA N yc, .slice XA N xc] 35)).alloc (.cells #[.slice XA N xc, .slice YA N yc, .slice XA N xc] 35)).alloc (.cells #[.slice (some ⟨w6.heap.size, 0, none⟩) 2 2, .slice (some ⟨w6.heap.size + 1, 0, none⟩) 2 2, .slice (some ⟨w6.heap.size + 2, 0, none⟩) 3 3] 43)) = w7 at *
      rw [← hb0] at K1 K2 K3 K4 hq6 ⊢
      clear hb0
      have EL : Hid (∀ f, f < 3 → ∃ blk m, w7.cell? ⟨b0 + 3, f, none⟩ = some (.slice (some ⟨blk, 0, none⟩) m m) ∧ (seqs x y f).length = m ∧ m ≤ 3 ∧ blk ≠ q ∧ ∀ k l, (seqs x y f)[k]? = some l → ∃ A c, w7.cell? ⟨blk, k, none⟩ = some (.slice A N c) ∧ R8 w7 A N l ∧ ∀ b off, A = some ⟨b, off, none⟩ → b ≠ q) := Lib.hid (by
        intro f hf
        have h9 : f = 0 ∨ f = 1 ∨ f = 2 := by omega
        rcases h9 with rfl | rfl | rfl
        · refine ⟨b0, 2, K4.out.cell_at 0 _ rfl, rfl, by omega, by omega, fun k l hk => ?_⟩
          have hl := (List.getElem?_eq_some_iff.1 hk).1
          have h9 : k = 0 ∨ k = 1 := by simp [seqs] at hl; omega
          rcases h9 with rfl | rfl
          · injection hk with hk; subst hk; exact ⟨XA, xc, K1.out.cell_at 0 _ rfl, X7.out, HQX.out⟩
          · injection hk with hk; subst hk; exact ⟨YA, yc, K1.out.cell_at 1 _ rfl, Z7.out, HQY.out⟩
        · refine ⟨b0 + 1, 2, K4.out.cell_at 1 _ rfl, rfl, by omega, by omega, fun k l hk => ?_⟩
          have hl := (List.getElem?_eq_some_iff.1 hk).1
          have h9 : k = 0 ∨ k = 1 := by simp [seqs] at hl; omega
          rcases h9 with rfl | rfl
          · injection hk with hk; subst hk; exact ⟨YA, yc, K2.out.cell_at 0 _ rfl, Z7.out, HQY.out⟩
          · injection hk with hk; subst hk; exact ⟨XA, xc, K2.out.cell_at 1 _ rfl, X7.out, HQX.out⟩
        · refine ⟨b0 + 2, 3, K4.out.cell_at 2 _ rfl, rfl, by omega, by omega, fun k l hk => ?_⟩
          have hl := (List.getElem?_eq_some_iff.1 hk).1
          have h9 : k = 0 ∨ k = 1 ∨ k = 2 := by simp [seqs] at hl; omega
          rcases h9 with rfl | rfl | rfl
          · injection hk with hk; subst hk; exact ⟨XA, xc, K3.out.cell_at 0 _ rfl, X7.out, HQX.out⟩
          · injection hk with hk; subst hk; exact ⟨YA, yc, K3.out.cell_at 1 _ rfl, Z7.out, HQY.out⟩
          · injection hk with hk; subst hk; exact ⟨XA, xc, K3.out.cell_at 2 _ rfl, X7.out, HQX.out⟩)
      obtain ⟨s0, hs0⟩ : ∃ s0, s0 = St.new g.raw.toNat (g.b * g.s).toNat g.s.toNat g.b.toNat [] := ⟨_, rfl⟩
      rw [← hs0] at A7
      have HS0 := Lib.hid hs0
      clear hs0 K1 K2 K3 K4
      go_loopw [9, 10, 12, 56] (fun _ _ _ i wr => ∃ f : Nat, f ≤ 3 ∧ i = .int .i64 (f : Int) ∧ Hid (AR (fun j => j = p ∨ j = q ∨ j = r) wr p q r g (TS s0 x y f)) ∧ Hid (Btw (fun j => j = q) w7 wr)) (fun _ _ _ i _ => 3 - (intOf i).toNat)
      case atStart => exact ⟨0, by omega, rfl, A7, Lib.hid (Btw.refl _)⟩
      case round =>
        clear A7
        obtain ⟨f, hf, rfl, HA, HBW⟩ := hrel
        rename World => wr
        by_cases hlt : f < 3
        · have d1 : decide ((f : Int) < 3) = true := decide_eq_true (by omega)
          have i0 : (0 : Int) ≤ (f : Int) := by omega
          have i1 : (f : Int) < 3 := by omega
          obtain ⟨blk, m, hc, hm, hm3, hbq, hel⟩ := EL.out f hlt
          have hc' := cell_btw HBW.out (fun h => by have h9 : b0 + 3 = q := h; omega) hc
          have HM := Lib.hid hm
          have HEL := Lib.hid hel
          have HA1 := HA
          have HB1 := HBW
          clear hc hel hm
          go_wp2
          clear hc'
          clear HA HBW
          go_loopw [12, 63] (fun _ i wr => ∃ k : Nat, k ≤ m ∧ i = .int .i64 (k : Int) ∧ Hid (AR (fun j => j = p ∨ j = q ∨ j = r) wr p q r g (((seqs x y f).take k).foldl (fun s r => s.prog f r) (TS s0 x y f))) ∧ Hid (Btw (fun j => j = q) w7 wr)) (fun _ i _ => m - (intOf i).toNat)
          case atStart => exact ⟨0, Nat.zero_le _, rfl, HA1, HB1⟩
          case round =>
            clear HA1 HB1
            obtain ⟨k, hk, rfl, HA, HBW⟩ := hrel
            rename World => wk
            by_cases hlk : k < m
            · have d2 : decide ((k : Int) < (m : Int)) = true := decide_eq_true (by omega)
              have j0 : (0 : Int) ≤ (k : Int) := by omega
              have j1 : (k : Int) < (m : Int) := by omega
              obtain ⟨l, hl⟩ : ∃ l, (seqs x y f)[k]? = some l := ⟨_, List.getElem?_eq_getElem (by rw [HM.out]; exact hlk)⟩
              obtain ⟨A, c, hce, hra, hne⟩ := HEL.out k l hl
              have hce' := cell_btw HBW.out hbq hce
              have RA := Lib.hid (hra.btw0 HBW.out (fun b off e _ h => hne b off e h))
              have HL := Lib.hid hl
              obtain ⟨yy, hyy⟩ : ∃ yy, (((seqs x y f).take k).foldl (fun s r => s.prog f r) (TS s0 x y f)).rows[f]? = some yy := ⟨_, List.getElem?_eq_getElem (by rw [HA.out.nr]; have := HR3.out; omega)⟩
              have HYY := Lib.hid hyy
              clear hce hra hne hl hyy
              go_wp2_with fail
              refine (Program_yes HA.out HYY.out A N c l RA.out HNN.out).mono ?_
              rintro _ w9 ⟨rfl, h9, b9⟩
              have HA2 := Lib.hid (show AR (fun j => j = p ∨ j = q ∨ j = r) w9 p q r g (((seqs x y f).take (k + 1)).foldl (fun s r => s.prog f r) (TS s0 x y f)) by rw [foldl_take HL.out]; exact h9)
              have HB2 := Lib.hid (HBW.out.trans b9 (fun _ _ h => h))
              clear h9 b9 hce' HA HBW
              go_wp2
              go_roundw
              case rel => first | exact ⟨k + 1, by omega, by go_num, HA2, HB2⟩ | exact ⟨k + 1, by omega, by go_num, HA2⟩
              case measure => simp [intOf]; omega
            · obtain rfl : k = m := by omega
              have d2 : decide ((k : Int) < (k : Int)) = false := decide_eq_false (by omega)
              have HA2 := Lib.hid (show AR (fun j => j = p ∨ j = q ∨ j = r) wk p q r g (TS s0 x y (f + 1)) by
                have h9 := HA.out
                rw [List.take_of_length_le (by rw [HM.out]; omega)] at h9
                exact h9)
              clear HA
              go_wp2
              go_roundw
              case rel => first | exact ⟨f + 1, by omega, by go_num, HA2, HBW⟩ | exact ⟨f + 1, by omega, by go_num, HA2⟩
              case measure => simp [intOf]; omega
        · obtain rfl : f = 3 := by omega
          have d1 : decide (((3 : Nat) : Int) < 3) = false := decide_eq_false (by omega)
          have HB := Lib.hid (B7.out.trans (HBW.out.below (S := w.heap.size) (fun j e => by have e : j = q := e; omega) B7.out.size))
          have hT := TS_rows N (g.b * g.s).toNat g.s.toNat g.b.toNat x y HR3.out X7.out.len Z7.out.len X7.out.2 Z7.out.2
          have hs9 : s0 = St.new N (g.b * g.s).toNat g.s.toNat g.b.toNat [] := by rw [HS0.out, HNN.out]
          rw [← hs9] at hT
          have HT0 := Lib.hid hT.1
          have HT1 := Lib.hid hT.2.1
          have HT2 := Lib.hid hT.2.2
          have hxy : (andL x y).length ≤ 1099511627776 := by rw [andL_length, X7.out.len, Z7.out.len]; omega
          clear hT hs9 HBW
          go_wp2_with fail
          refine (Raw_yes HA.out HT0.out).mono ?_
          rintro _ z1 ⟨S1, d1, rfl, r1, h1⟩
          have R1_1 := Lib.hid r1
          have A1 := Lib.hid (HA.out.below h1)
          have B1 := Lib.hid (below_step HB.out h1)
          clear r1 h1
          go_wp2_with fail
          refine (Raw_yes A1.out HT1.out).mono ?_
          rintro _ z2 ⟨S2, d2, rfl, r2, h2⟩
          have R2_2 := Lib.hid r2
          have A2 := Lib.hid (A1.out.below h2)
          have B2 := Lib.hid (below_step B1.out h2)
          have R1_2 := Lib.hid (R1_1.out.below h2)
          clear r2 h2
          go_wp2_with fail
          refine (Same_gives S1 S2 (andL x y).length d1 (andL x y).length d2 (andL x y) _ R1_2.out R2_2.out hxy hxy).mono ?_
          rintro _ z3 ⟨rfl, h3⟩
          have A3 := Lib.hid (A2.out.below h3)
          have B3 := Lib.hid (below_step B2.out h3)
          clear h3
          go_wp2_with fail
          refine (Raw_yes A3.out HT1.out).mono ?_
          rintro _ z4 ⟨S4, d4, rfl, r4, h4⟩
          have R4_4 := Lib.hid r4
          have A4 := Lib.hid (A3.out.below h4)
          have B4 := Lib.hid (below_step B3.out h4)
          clear r4 h4
          go_wp2_with fail
          refine (Raw_yes A4.out HT2.out).mono ?_
          rintro _ z5 ⟨S5, d5, rfl, r5, h5⟩
          have R5_5 := Lib.hid r5
          have A5 := Lib.hid (A4.out.below h5)
          have B5 := Lib.hid (below_step B4.out h5)
          have R4_5 := Lib.hid (R4_4.out.below h5)
          clear r5 h5
          go_wp2_with fail
          refine (Same_gives S4 S5 (andL x y).length d4 (andL x y).length d5 (andL x y) _ R4_5.out R5_5.out hxy hxy).mono ?_
          rintro _ z6 ⟨rfl, h6⟩
          have A6 := Lib.hid (A5.out.below h6)
          have B6 := Lib.hid (below_step B5.out h6)
          clear h6
          go_wp2_with fail
          refine (Programs_yes A6.out HT1.out).mono ?_
          rintro _ z7 ⟨rfl, h7⟩
          have A7 := Lib.hid (A6.out.below h7)
          have B7 := Lib.hid (below_step B6.out h7)
          clear h7
          go_wp2_with fail
          refine (Programs_yes A7.out HT2.out).mono ?_
          rintro _ z8 ⟨rfl, h8⟩
          have A8 := Lib.hid (A7.out.below h8)
          have B8 := Lib.hid (below_step B7.out h8)
          clear h8
          go_wp2_with fail
          refine (Torn_yes A8.out HT0.out).mono ?_
          rintro _ z9 ⟨rfl, h9⟩
          have A9 := Lib.hid (A8.out.below h9)
          have B9 := Lib.hid (below_step B8.out h9)
          clear h9
          go_wp2
          go_ret
          exact ⟨rfl, B9.out⟩
end Go.Proofs.Ytipmjmbkknlcfaa
