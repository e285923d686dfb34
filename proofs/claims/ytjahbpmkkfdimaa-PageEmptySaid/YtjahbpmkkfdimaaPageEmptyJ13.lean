/-
  Contract of page.Erased, over the landed code: as many bytes 255 as a raw page has.
-/
import Derived.Deep.RegionHeld3
import Derived.Test.YtjahbpmkkfdimaaPageEmptyJ12
import Derived.Test.YtjahbpmkkfdimaaPageEmptyJRepeat
namespace Go.Proofs.Ytjahbpmkkfdimaa
open Go.RowKit
set_option maxRecDepth 100000

set_option maxHeartbeats 1000000 in
theorem Erased_any (g : Gm) (n : Nat) (hg : g.raw = (n : Int)) (hn : n ≤ 8192) (w : World) :
    Calls Try.prog 11 #[g.val] w (MakesC (List.replicate n 255) w) := by
  have hRaw := Raw_is g n hg
  have HRep := Lib.hid (fun A c w' h => Repeat_one A c 255 n w' h hn)
  clear hg
  obtain ⟨p, b, s, gc, k, r, q⟩ := g
  simp only [Gm.val] at hRaw ⊢
  have Y0 := Lib.hid (GBox.new w ⟨p, b, s, gc, k, r, q⟩ 23)
  have B0 := Lib.hid (below_new w (.cells #[.int .i64 p, .int .i64 b, .int .i64 s, .int .i64 gc, .int .i64 k, .int .i64 r, .int .i64 q] 23))
  go_enter Try.func11, Try.ntmps11
  obtain ⟨_, g0, g1, g2, g3, g4, g5, g6⟩ := Y0.out
  simp only at g0 g1 g2 g3 g4 g5 g6
  have H1 : Hid (R8 ((w.alloc (.cells #[.int .i64 p, .int .i64 b, .int .i64 s, .int .i64 gc, .int .i64 k, .int .i64 r, .int .i64 q] 23)).alloc (.cells #[.int .u8 255] 5)) (some ⟨w.heap.size + 1, 0, none⟩) 1 [255]) := Lib.hid (by simpa using one_byte (w.alloc (.cells #[.int .i64 p, .int .i64 b, .int .i64 s, .int .i64 gc, .int .i64 k, .int .i64 r, .int .i64 q] 23)) 255 5 (by omega))
  have B1 := Lib.hid (below_step B0.out (below_new (w.alloc (.cells #[.int .i64 p, .int .i64 b, .int .i64 s, .int .i64 gc, .int .i64 k, .int .i64 r, .int .i64 q] 23)) (.cells #[.int .u8 255] 5)))
  go_wp2_with fail
  clear g0 g1 g2 g3 g4 g5 g6
  refine (hRaw _).mono ?_
  rintro _ w1 ⟨rfl, h1⟩
  have R1 := Lib.hid (H1.out.below h1)
  have B2 := Lib.hid (below_step B1.out h1)
  clear H1 h1
  go_wp2_with fail
  refine (HRep.out _ _ _ R1.out).mono ?_
  intro _ w2 hM
  obtain ⟨A, c, rfl, R2, hc, D2⟩ := hM.at_ (n := n) (by simp)
  have B3 := Lib.hid (below_step B2.out D2.out)
  clear hM
  go_wp2
  go_ret
  exact ⟨A, c, by simp, by simpa using R2.out, by simpa using hc, B3.out⟩
end Go.Proofs.Ytjahbpmkkfdimaa

/-
  The walk of the law PageEmpty over the landed code, out of its callees' contracts: for whatever geometry, page and places it returns true, and nothing that was there has turned.
-/
namespace Go.Proofs.Ytjahbpmkkfdimaa
open Go.RowKit
set_option maxRecDepth 100000

/-- The law's geometry and page in their boxes. -/
def Bp (W : World) (w0 : Nat) (p b s gc k r q : Int) (D : Option Addr) (dn dc : Nat) (tk ts tq te : Int) : Prop :=
  GBox W w0 ⟨p, b, s, gc, k, r, q⟩ ∧ CRow W (w0 + 1) 45 #[.slice D dn dc, .int .i64 tk, .int .i64 ts, .int .i64 tq, .int .i64 te]
section
variable {W W' : World} {w0 : Nat} {p b s gc k r q : Int} {D : Option Addr} {dn dc : Nat} {tk ts tq te : Int}
theorem Bp.below (h : Bp W w0 p b s gc k r q D dn dc tk ts tq te) (hb : Below W.heap.size W W') : Bp W' w0 p b s gc k r q D dn dc tk ts tq te := ⟨h.1.below hb, h.2.below hb⟩
theorem Bp.cells (h : Bp W w0 p b s gc k r q D dn dc tk ts tq te) : w0 + 1 < W.heap.size ∧
    W.cell? ⟨w0, 0, none⟩ = some (.int .i64 p) ∧ W.cell? ⟨w0, 1, none⟩ = some (.int .i64 b) ∧ W.cell? ⟨w0, 2, none⟩ = some (.int .i64 s) ∧ W.cell? ⟨w0, 3, none⟩ = some (.int .i64 gc) ∧ W.cell? ⟨w0, 4, none⟩ = some (.int .i64 k) ∧ W.cell? ⟨w0, 5, none⟩ = some (.int .i64 r) ∧ W.cell? ⟨w0, 6, none⟩ = some (.int .i64 q) ∧
    W.cell? ⟨w0 + 1, 0, none⟩ = some (.slice D dn dc) ∧ W.cell? ⟨w0 + 1, 1, none⟩ = some (.int .i64 tk) ∧ W.cell? ⟨w0 + 1, 2, none⟩ = some (.int .i64 ts) ∧ W.cell? ⟨w0 + 1, 3, none⟩ = some (.int .i64 tq) ∧ W.cell? ⟨w0 + 1, 4, none⟩ = some (.int .i64 te) := by
  obtain ⟨⟨_, a0, a1, a2, a3, a4, a5, a6⟩, hp⟩ := h
  exact ⟨hp.lt, a0, a1, a2, a3, a4, a5, a6, hp.cell_at 0 _ rfl, hp.cell_at 1 _ rfl, hp.cell_at 2 _ rfl, hp.cell_at 3 _ rfl, hp.cell_at 4 _ rfl⟩
theorem Bp.new (w : World) : Bp ((w.alloc (.cells #[.int .i64 p, .int .i64 b, .int .i64 s, .int .i64 gc, .int .i64 k, .int .i64 r, .int .i64 q] 23)).alloc (.cells #[.slice D dn dc, .int .i64 tk, .int .i64 ts, .int .i64 tq, .int .i64 te] 45)) w.heap.size p b s gc k r q D dn dc tk ts tq te := by
  refine ⟨(GBox.new w ⟨p, b, s, gc, k, r, q⟩ 23).below (below_new _ _), ?_⟩
  have := CRow.new (w.alloc (.cells #[.int .i64 p, .int .i64 b, .int .i64 s, .int .i64 gc, .int .i64 k, .int .i64 r, .int .i64 q] 23)) #[.slice D dn dc, .int .i64 tk, .int .i64 ts, .int .i64 tq, .int .i64 te] 45
  simpa using this
end

theorem mk_erased {C K N : Nat} {g : Gm} (ho : g.ok = true) (hC : g.c = (C : Int)) (hK : g.k = (K : Int)) (hN : C * (K + 2) + 31 = N) : mkG g (List.replicate N 255) = false := by
  unfold mkG
  rw [List.length_replicate, okG_mk ho C K hC hK hN.symm, List.drop_replicate, show N - (N - 1) = 1 by omega]
  decide +kernel
theorem written_le (C K : Nat) (d : List Nat) (t : Tg) (ps : List Int) (h : PgOk C K d t.bytes) (hp : ps.length ≤ 10) : ∃ v, decP C K (flips (pageL C K d t.bytes) ps) = v ∧ v.2.2.1 ≤ 1 := ⟨_, rfl, dec_written h ps hp⟩
/-- The places of a list, in a page of N bytes. -/
def placesTo (N : Nat) (l : List Nat) (j : Nat) : List Int := (l.take j).map (fun x => ((x % (8 * N) : Nat) : Int))
theorem placesTo_succ (N : Nat) (l : List Nat) (j x : Nat) (h : l[j]? = some x) : placesTo N l (j + 1) = placesTo N l j ++ [((x % (8 * N) : Nat) : Int)] := by
  unfold placesTo
  rw [List.take_add_one, h]
  simp
theorem placesTo_len (N : Nat) (l : List Nat) (j : Nat) (h : j ≤ l.length) : (placesTo N l j).length = j := by simp [placesTo]; omega
theorem placesTo_bd (N : Nat) (l : List Nat) (j : Nat) (hN : 0 < N) (hM : N ≤ 1000) : ∀ x ∈ placesTo N l j, -9223372036854775808 ≤ x ∧ x ≤ 9223372036854775807 := by
  intro x hx
  unfold placesTo at hx
  obtain ⟨y, _, rfl⟩ := List.mem_map.1 hx
  have := Nat.mod_lt y (show 0 < 8 * N by omega)
  omega

set_option maxHeartbeats 8000000 in
theorem PageEmpty_walk (g : Gm) (tg : Tg) (D P : Option Addr) (dn dc m pd : Nat) (d l : List Nat) (w : World) (hD : R8 w D dn d) (hdc : dn ≤ dc) (hP : R16 w P m l) (hdn : dn ≤ 9223372036854775807) (hmn : m ≤ 9223372036854775807) :
    Calls Try.prog 6 #[g.val, .agg #[.slice D dn dc, .int .i64 tg.k, .int .i64 tg.s, .int .i64 tg.q, .int .i64 tg.e], .slice P m pd] w (Gives (.bool true) w) := by
  obtain ⟨i0, ti, tz0, tz1, tz2⟩ := info_parts info_int
  have HD := Lib.hid hD
  have HP := Lib.hid hP
  have hSy := Small_yes g
  have hSn := Small_no g
  have hCy := Check_yes g
  have hCn := Check_no g
  have hsm : smallG g ∨ ¬ smallG g := Classical.em _
  have hok : g.ok = true ∨ g.ok = false := by cases g.ok <;> simp
  have HEr := Lib.hid (fun n h1 h2 w' => Erased_any g n h1 h2 w')
  have HRw := Lib.hid (fun v h w' => Raw_is g v h w')
  have hcase : g.ok = true → (dn = g.c.toNat * g.k.toNat ∧ tg.ok = true) ∨ ¬ (g.ok = true ∧ (dn : Int) = g.data ∧ tg.ok = true) := by
    intro ho
    by_cases h : (dn : Int) = g.data ∧ tg.ok = true
    · have hb := Gm.bounds_of ho
      refine .inl ⟨?_, h.2⟩
      have h2 := h.1
      unfold Gm.data at h2
      rw [if_pos ho, show g.c = (g.c.toNat : Int) by omega, show g.k = (g.k.toNat : Int) by omega, ← Int.natCast_mul] at h2
      omega
    · exact .inr (fun h2 => h h2.2)
  have HEn := Lib.hid (fun h w' => PageEnc_no g tg D dn dc h w')
  have HEy := Lib.hid (fun h1 C K h2 h3 h4 h5 w' h6 => PageEnc_yes g h1 C K h2 h3 tg h4 D dn dc h5 d w' h6 hdc)
  have HDe := Lib.hid (fun h1 C K h2 h3 A n c h4 h5 l' w' h6 => PageDec_yes g h1 C K h2 h3 A n c h4 h5 l' w' h6)
  have HMa := Lib.hid (fun A n c h1 l' w' h2 => PageMarked_any g A n c h1 l' w' h2)
  have HBd : Hid (g.ok = true → _) := Lib.hid (fun h => Gm.bounds_of (g := g) h)
  have HRaw : Hid (∀ C K : Nat, g.ok = true → g.c = (C : Int) → g.k = (K : Int) → g.raw = ((C * (K + 2) + 31 : Nat) : Int)) := Lib.hid (by
    intro C K ho hC hK
    unfold Gm.raw
    rw [if_pos ho, hC, hK]
    simp)
  clear hD hP
  obtain ⟨tk, ts, tq, te⟩ := tg
  obtain ⟨p, b, s, gc, k, r, q⟩ := g
  simp only [Gm.val, Tg.val] at hSy hSn hCy hCn HEn HEy HDe HMa HBd HEr HRw HRaw hcase ⊢
  have B0 := Lib.hid (below_step (below_new w (.cells #[.int .i64 p, .int .i64 b, .int .i64 s, .int .i64 gc, .int .i64 k, .int .i64 r, .int .i64 q] 23)) (below_new _ (.cells #[.slice D dn dc, .int .i64 tk, .int .i64 ts, .int .i64 tq, .int .i64 te] 45)))
  have K0 := Lib.hid (Bp.new (p := p) (b := b) (s := s) (gc := gc) (k := k) (r := r) (q := q) (D := D) (dn := dn) (dc := dc) (tk := tk) (ts := ts) (tq := tq) (te := te) w)
  go_enter Try.func6, Try.ntmps6
  go_wp2_with fail
  refine (awake8_any _).mono ?_
  rintro _ w1 ⟨rfl, h1⟩
  have B1 := Lib.hid (below_step B0.out h1)
  have K1 := Lib.hid (K0.out.below h1)
  clear h1 B0 K0
  obtain ⟨_, g0, g1, g2, g3, g4, g5, g6, p0, p1, p2, p3, p4⟩ := K1.out.cells
  go_wp2_with fail
  rcases hsm with hsm | hsm
  rotate_left
  · refine (hSn hsm _).mono ?_
    rintro _ w2 ⟨rfl, h2⟩
    have B2 := Lib.hid (below_step B1.out h2)
    clear h2
    clear g0 g1 g2 g3 g4 g5 g6 p0 p1 p2 p3 p4
    go_wp2
    go_ret
    exact ⟨rfl, B2.out⟩
  · refine (hSy hsm _).mono ?_
    rintro _ w2 ⟨rfl, h2⟩
    have B2 := Lib.hid (below_step B1.out h2)
    have K2 := Lib.hid (K1.out.below h2)
    clear g0 g1 g2 g3 g4 g5 g6 p0 p1 p2 p3 p4
    clear h2 hSy hSn B1 K1
    obtain ⟨_, g0, g1, g2, g3, g4, g5, g6, p0, p1, p2, p3, p4⟩ := K2.out.cells
    go_wp2_with fail
    rcases hok with ho | ho
    rotate_left
    · refine (hCn ho _).mono ?_
      rintro _ w3 ⟨rfl, h3⟩
      have B3 := Lib.hid (below_step B2.out h3)
      clear h3
      clear g0 g1 g2 g3 g4 g5 g6 p0 p1 p2 p3 p4
      go_wp2
      go_ret
      exact ⟨rfl, B3.out⟩
    · refine (hCy ho _).mono ?_
      rintro _ w3 ⟨rfl, h3⟩
      have B3 := Lib.hid (below_step B2.out h3)
      have K3 := Lib.hid (K2.out.below h3)
      clear g0 g1 g2 g3 g4 g5 g6 p0 p1 p2 p3 p4
      clear h3 hCy hCn B2 K2
      obtain ⟨_, g0, g1, g2, g3, g4, g5, g6, p0, p1, p2, p3, p4⟩ := K3.out.cells
      by_cases hd2 : 200 < dn
      · have e1 : decide ((200 : Int) < (dn : Int)) = true := decide_eq_true (by omega)
        go_wp2
        go_ret
        exact ⟨rfl, B3.out⟩
      · have e1 : decide ((200 : Int) < (dn : Int)) = false := decide_eq_false (by omega)
        by_cases hm2 : 10 < m
        · have e2 : decide ((10 : Int) < (m : Int)) = true := decide_eq_true (by omega)
          go_wp2
          go_ret
          exact ⟨rfl, B3.out⟩
        · have e2 : decide ((10 : Int) < (m : Int)) = false := decide_eq_false (by omega)
          have hbd := HBd.out ho
          have hsm2 := hsm
          unfold smallG at hsm2
          simp only at hsm2
          obtain ⟨C, hC⟩ := Int.eq_ofNat_of_zero_le hsm2.2.2.1
          obtain ⟨K, hK⟩ := Int.eq_ofNat_of_zero_le hsm2.2.2.2
          subst hC hK
          obtain ⟨N, HN⟩ : ∃ N, Hid (C * (K + 2) + 31 = N) := ⟨_, rfl⟩
          have hN2 : N ≤ 1000 := by
            have h1 : C ≤ 4 := by omega
            have h2 : K + 2 ≤ 42 := by omega
            have := Nat.mul_le_mul h1 h2
            have := HN.out
            omega
          have hN1 : 31 ≤ N := by have := HN.out; omega
          have hRawN := HRaw.out C K ho rfl rfl
          rw [HN.out] at hRawN
          have hRw := HRw.out N hRawN
          have hEr := HEr.out N hRawN (by omega)
          have hDe := fun A c h5 l' w' h6 => HDe.out ho C K rfl rfl A N c HN.out.symm h5 l' w' h6
          have HMk := Lib.hid (mk_erased (g := ⟨p, b, s, C, K, r, q⟩) ho rfl rfl HN.out)
          have hDE := fun ps hp => dec_erased C K N HN.out.symm ps hp
          have HPs := Lib.hid (placesTo_succ N l)
          have HPl := Lib.hid (placesTo_len N l)
          have HPb := Lib.hid (placesTo_bd N l m (by omega) hN2)
          have HLl := Lib.hid HP.out.len
          clear hRawN HEr HRw HRaw e1
          go_wp2
          clear g0 g1 g2 g3 g4 g5 g6 p0 p1 p2 p3 p4
          go_loopw [7, 39] (fun v ix wr => ∃ (j : Nat), j ≤ m ∧ ix = .int .i64 (j : Int) ∧ Hid (wr.ownsRow w3.heap.size 3 1 v j (I64 (placesTo N l j))) ∧ Hid (Below w3.heap.size w3 wr))
            (fun _ ix _ => m - (intOf ix).toNat)
          case atStart => exact ⟨0, Nat.zero_le _, rfl, World.ownsRow_nil _ _ _ _, Below.refl _ _⟩
          case round =>
            obtain ⟨j, hj, rfl, HO, HB⟩ := hrel
            by_cases hlt : j < m
            · obtain ⟨b1, o1, x, rfl, hb1, HX, hx, hcx⟩ := (HP.out.below (below_step B3.out HB.out)).at_ hlt
              have KB := Lib.hid (K3.out.below HB.out)
              obtain ⟨_, g0, g1, g2, g3, g4, g5, g6, p0, p1, p2, p3, p4⟩ := KB.out.cells
              have hlj : j < l.length := by rw [HLl.out]; exact hlt
              go_wp2_with fail
              refine (hRw _).mono ?_
              rintro _ w4 ⟨rfl, h4⟩
              have HB4 := Lib.hid (below_step HB.out h4)
              have HO4 := Lib.hid (own_below HO.out h4)
              clear g0 g1 g2 g3 g4 g5 g6 p0 p1 p2 p3 p4
              clear h4 hcx KB
              obtain ⟨M, HMm⟩ : ∃ M, Hid (8 * N = M) := ⟨_, rfl⟩
              have hm8 : 8 * (N : Int) = (M : Int) := by have := HMm.out; omega
              have hM0 : (M : Int) ≠ 0 := by have := HMm.out; omega
              have hM9 : M ≤ 8000 := by have := HMm.out; omega
              obtain ⟨y, hy⟩ : ∃ y, x % M = y := ⟨_, rfl⟩
              have hmod : (x : Int) % (M : Int) = (y : Int) := by rw [← hy]; exact (Int.natCast_emod _ _).symm
              have hyM : y < M := by rw [← hy]; exact Nat.mod_lt _ (by omega)
              have HS := Lib.hid (HPs.out j x HX.out)
              rw [HMm.out, hy] at HS
              clear hy
              go_wp2_with (at_builtin; refine wpList_append_own _ rfl (.tmp 43) (.tmp 50) _ rfl w3.heap.size 3 i0 _ 1 8 Try.underlying54 ti tz0 tz1 tz2 rfl (by decide) _ _ _ rfl (HO4.out.alloc _) ⟨w4.heap.size, 0, none⟩ 1 1 [_] rfl rfl (one_new _ _ _) ?c1 ?c2 ?c3 ?c4 ?_)
              case c1 => intro u hu; simp at hu; subst hu; rfl
              case c2 => unfold maxLen; omega
              case c3 => omega
              case c4 => have := HB4.out.size; simp; omega
              intro v' w5 hown' hgrow _
              have HB5 := Lib.hid ((HB4.out.alloc HB4.out.size _).grown hgrow (by have := HB4.out.size; simp; omega) (fun j hj => (HO4.out.lt j hj).1))
              have HO5 := Lib.hid (show w5.ownsRow w3.heap.size 3 1 v' (j + 1) (I64 (placesTo N l (j + 1))) by
                rw [HS.out, I64_append]
                exact hown')
              clear hown' hgrow
              go_wp2
              go_roundw
              case rel => exact ⟨j + 1, by omega, by go_num, HO5, HB5⟩
              case measure => simp [intOf]; omega
            · obtain rfl : j = m := by omega
              obtain ⟨PA, pc, rfl⟩ := own_form HO.out
              have HI := Lib.hid (show R64 wr PA j (placesTo N l j) from ⟨Rd.own HO.out, HPb.out⟩)
              have hpl : (placesTo N l j).length = j := HPl.out j (by rw [HLl.out]; omega)
              have hp10 : (placesTo N l j).length ≤ 10 := by omega
              have HDE := Lib.hid (hDE (placesTo N l j) hp10)
              have HWr := Lib.hid (fun h => written_le C K d ⟨tk, ts, tq, te⟩ (placesTo N l j) h hp10)
              have BR := Lib.hid (below_step B3.out HB.out)
              have KR := Lib.hid (K3.out.below HB.out)
              generalize placesTo N l j = ps at *
              clear hDE HPs HPl HPb HO HB B3 K3 hpl
              have HFLn := Lib.hid (show (flips (List.replicate N 255) ps).length = N by rw [flips_length]; simp)
              have HFLb := Lib.hid (flips_lt (List.replicate N 255) ps (by intro x hx; rw [(List.mem_replicate.1 hx).2]; omega))
              have HPk := Lib.hid (fun (h1 : dn = C * K) => pageOk C K d ⟨tk, ts, tq, te⟩ (by omega) (by omega) (by rw [HD.out.len]; exact h1) HD.out.2)
              have HEn2 := Lib.hid (fun h1 h2 w' h3 => HEy.out ho C K rfl rfl h2 h1 w' h3)
              have hcs := hcase ho
              simp only [Int.toNat_natCast] at hcs
              clear HEy hcase HBd hbd hsm hsm2 HDe
              obtain ⟨hlt0, g0, g1, g2, g3, g4, g5, g6, p0, p1, p2, p3, p4⟩ := KR.out.cells
              go_wp2
              refine wp_region_noPanic ?_
              refine wp_region_held_drew (S := fun w' => Below wr.heap.size wr w') (by kernel_rfl) ((Below.refl _ _).drew) (fun C0 => ?_)
              refine wpAnyH_take (i := 0) (oi := { dst := some 54, op := Op.load 23 (Operand.tmp 3), type := 23, pos := "law.go:122", after := #[], guard := none }) (v := ?_) rfl (by kernel_rfl) (by kernel_rfl) (by kernel_rfl) (fun _ _ _ h => h) (Or.inl ⟨by rfl, ?_⟩) C0 ?_
              rotate_left
              · intro W' hSw
                have c0 := (hSw.cell (p := ⟨w.heap.size, 0, none⟩) (Nat.lt_of_succ_lt hlt0)).trans g0
                have c1 := (hSw.cell (p := ⟨w.heap.size, 1, none⟩) (Nat.lt_of_succ_lt hlt0)).trans g1
                have c2 := (hSw.cell (p := ⟨w.heap.size, 2, none⟩) (Nat.lt_of_succ_lt hlt0)).trans g2
                have c3 := (hSw.cell (p := ⟨w.heap.size, 3, none⟩) (Nat.lt_of_succ_lt hlt0)).trans g3
                have c4 := (hSw.cell (p := ⟨w.heap.size, 4, none⟩) (Nat.lt_of_succ_lt hlt0)).trans g4
                have c5 := (hSw.cell (p := ⟨w.heap.size, 5, none⟩) (Nat.lt_of_succ_lt hlt0)).trans g5
                have c6 := (hSw.cell (p := ⟨w.heap.size, 6, none⟩) (Nat.lt_of_succ_lt hlt0)).trans g6
                clear hSw
                go_simp <;> with_reducible rfl
              try simp only [Act.put, List.setIfInBounds_toArray, List.set_cons_zero, List.set_cons_succ]
              refine wpAnyH_take (i := 1) (oi := { dst := some 55, op := Op.load 23 (Operand.tmp 3), type := 23, pos := "law.go:122", after := #[], guard := none }) (v := ?_) rfl (by kernel_rfl) (by kernel_rfl) (by kernel_rfl) (fun _ _ _ h => h) (Or.inl ⟨by rfl, ?_⟩) C0 ?_
              rotate_left
              · intro W' hSw
                have c0 := (hSw.cell (p := ⟨w.heap.size, 0, none⟩) (Nat.lt_of_succ_lt hlt0)).trans g0
                have c1 := (hSw.cell (p := ⟨w.heap.size, 1, none⟩) (Nat.lt_of_succ_lt hlt0)).trans g1
                have c2 := (hSw.cell (p := ⟨w.heap.size, 2, none⟩) (Nat.lt_of_succ_lt hlt0)).trans g2
                have c3 := (hSw.cell (p := ⟨w.heap.size, 3, none⟩) (Nat.lt_of_succ_lt hlt0)).trans g3
                have c4 := (hSw.cell (p := ⟨w.heap.size, 4, none⟩) (Nat.lt_of_succ_lt hlt0)).trans g4
                have c5 := (hSw.cell (p := ⟨w.heap.size, 5, none⟩) (Nat.lt_of_succ_lt hlt0)).trans g5
                have c6 := (hSw.cell (p := ⟨w.heap.size, 6, none⟩) (Nat.lt_of_succ_lt hlt0)).trans g6
                clear hSw
                go_simp <;> with_reducible rfl
              try simp only [Act.put, List.setIfInBounds_toArray, List.set_cons_zero, List.set_cons_succ]
              refine wpAnyH_take (i := 3) (oi := { dst := some 57, op := Op.move (Operand.tmp 7), type := 54, pos := "law.go:122", after := #[], guard := none }) (v := ?_) rfl (by kernel_rfl) (by kernel_rfl) (by kernel_rfl) (fun _ _ _ h => h) (Or.inl ⟨by rfl, ?_⟩) C0 ?_
              rotate_left
              · intro W' hSw
                clear hSw
                go_simp <;> with_reducible rfl
              try simp only [Act.put, List.setIfInBounds_toArray, List.set_cons_zero, List.set_cons_succ]
              clear g0 g1 g2 g3 g4 g5 g6 p0 p1 p2 p3 p4
              refine wpAnyH_ready (rs := [2, 11]) (by kernel_rfl) (by simp) ?_
              refine (AllReadyH.cons (o := { dst := some 56, op := Op.call { callee := Callee.value (Operand.func 11), args := #[Operand.tmp 55], argTypes := #[23] }, type := 24, pos := "law.go:122", after := #[{ on := 1, ground := Ground.data }], guard := none }) rfl (fun K hK => ?_) (AllReadyH.cons (o := { dst := some 11, op := Op.alloc 26, type := 0, pos := "law.go:122", after := #[], guard := none }) rfl (fun K hK => ?_) AllReadyH.nil))
              · go_simp
                refine (hEr _).mono ?_
                intro _ w12 hM
                obtain ⟨A12, c12, rfl, R12, hc12, D12⟩ := hM.at_ (n := N) (by simp)
                have hB := D12.out
                clear hM
                go_wp2_with fail
                refine hK.out _ _ (C0.trans (hB.mono C0.size)) (fun C1 => ?_)
                clear hK K hB
                try simp only [Act.put, List.setIfInBounds_toArray, List.set_cons_zero, List.set_cons_succ]
                refine wpAnyH_ready (rs := [4, 11]) (by kernel_rfl) (by simp) ?_
                refine (AllReadyH.cons (o := { dst := some 58, op := Op.call { callee := Callee.value (Operand.func 23), args := #[Operand.tmp 56, Operand.tmp 57], argTypes := #[24, 54] }, type := 24, pos := "law.go:122", after := #[{ on := 2, ground := Ground.data }, { on := 3, ground := Ground.data }, { on := 2, ground := Ground.chain }], guard := none }) rfl (fun K hK => ?_) (AllReadyH.cons (o := { dst := some 11, op := Op.alloc 26, type := 0, pos := "law.go:122", after := #[], guard := none }) rfl (fun K hK => ?_) AllReadyH.nil))
                · go_simp
                  refine (Flip_any _ _ N _ j _ (List.replicate N 255) ps _ R12.out (HI.out.below C1) (by omega) (by omega)).mono ?_
                  intro _ w13 hM
                  obtain ⟨A13, c13, rfl, O13, D13⟩ := hM.at_ HFLn.out
                  have R13 := Lib.hid (R8.own O13.out HFLb.out)
                  have hc13 := own_cap O13.out
                  have hB := D13.out
                  clear hM O13
                  go_wp2_with fail
                  refine hK.out _ _ (C1.trans (hB.mono C1.size)) (fun C2 => ?_)
                  clear hK K hB
                  try simp only [Act.put, List.setIfInBounds_toArray, List.set_cons_zero, List.set_cons_succ]
                  refine wpAnyH_ready (rs := [5, 11]) (by kernel_rfl) (by simp) ?_
                  refine (AllReadyH.cons (o := { dst := some 59, op := Op.call { callee := Callee.value (Operand.func 18), args := #[Operand.tmp 54, Operand.tmp 58], argTypes := #[23, 24] }, type := 39, pos := "law.go:122", after := #[{ on := 0, ground := Ground.data }, { on := 4, ground := Ground.data }, { on := 4, ground := Ground.chain }], guard := none }) rfl (fun K hK => ?_) (AllReadyH.cons (o := { dst := some 11, op := Op.alloc 26, type := 0, pos := "law.go:122", after := #[], guard := none }) rfl (fun K hK => ?_) AllReadyH.nil))
                  · go_simp
                    refine (hDe _ _ hc13 (flips (List.replicate N 255) ps) _ R13.out).mono ?_
                    intro _ w14 hM
                    rw [HDE.out] at hM
                    obtain ⟨A14, c14, rfl, R14, D14⟩ := hM.tag 0 rfl 0 0 0 0 rfl
                    have hB := D14.out
                    clear hM
                    go_wp2_with fail
                    refine hK.out _ _ (C2.trans (hB.mono C2.size)) (fun C3 => ?_)
                    clear hK K hB
                    try simp only [Act.put, List.setIfInBounds_toArray, List.set_cons_zero, List.set_cons_succ]
                    refine wpAnyH_take (i := 6) (oi := { dst := some 53, op := Op.move (Operand.tmp 59), type := 39, pos := "law.go:122", after := #[{ on := 5, ground := Ground.data }], guard := none }) (v := ?_) rfl (by kernel_rfl) (by kernel_rfl) (by kernel_rfl) (fun _ _ _ h => h) (Or.inl ⟨by rfl, ?_⟩) C3 ?_
                    rotate_left
                    · intro W' hSw
                      clear hSw
                      go_simp <;> with_reducible rfl
                    try simp only [Act.put, List.setIfInBounds_toArray, List.set_cons_zero, List.set_cons_succ]
                    refine wpAnyH_take (i := 7) (oi := { dst := some 60, op := Op.extract (Operand.tmp 53) 0, type := 24, pos := "law.go:122", after := #[{ on := 6, ground := Ground.data }], guard := none }) (v := ?_) rfl (by kernel_rfl) (by kernel_rfl) (by kernel_rfl) (fun _ _ _ h => h) (Or.inl ⟨by rfl, ?_⟩) C3 ?_
                    rotate_left
                    · intro W' hSw
                      clear hSw
                      go_simp <;> with_reducible rfl
                    try simp only [Act.put, List.setIfInBounds_toArray, List.set_cons_zero, List.set_cons_succ]
                    refine wpAnyH_take (i := 8) (oi := { dst := some 61, op := Op.extract (Operand.tmp 53) 1, type := 26, pos := "law.go:122", after := #[{ on := 6, ground := Ground.data }, { on := 12, ground := Ground.gcOnly Departure.lateStores }], guard := none }) (v := ?_) rfl (by kernel_rfl) (by kernel_rfl) (by kernel_rfl) (fun _ _ _ h => h) (Or.inl ⟨by rfl, ?_⟩) C3 ?_
                    rotate_left
                    · intro W' hSw
                      clear hSw
                      go_simp <;> with_reducible rfl
                    try simp only [Act.put, List.setIfInBounds_toArray, List.set_cons_zero, List.set_cons_succ]
                    refine wpAnyH_take (i := 9) (oi := { dst := some 62, op := Op.extract (Operand.tmp 53) 2, type := 3, pos := "law.go:122", after := #[{ on := 6, ground := Ground.data }, { on := 13, ground := Ground.gcOnly Departure.lateStores }], guard := none }) (v := ?_) rfl (by kernel_rfl) (by kernel_rfl) (by kernel_rfl) (fun _ _ _ h => h) (Or.inl ⟨by rfl, ?_⟩) C3 ?_
                    rotate_left
                    · intro W' hSw
                      clear hSw
                      go_simp <;> with_reducible rfl
                    try simp only [Act.put, List.setIfInBounds_toArray, List.set_cons_zero, List.set_cons_succ]
                    refine wpAnyH_take (i := 10) (oi := { dst := some 63, op := Op.extract (Operand.tmp 53) 3, type := 29, pos := "law.go:122", after := #[{ on := 6, ground := Ground.data }, { on := 14, ground := Ground.gcOnly Departure.lateStores }], guard := none }) (v := ?_) rfl (by kernel_rfl) (by kernel_rfl) (by kernel_rfl) (fun _ _ _ h => h) (Or.inl ⟨by rfl, ?_⟩) C3 ?_
                    rotate_left
                    · intro W' hSw
                      clear hSw
                      go_simp <;> with_reducible rfl
                    try simp only [Act.put, List.setIfInBounds_toArray, List.set_cons_zero, List.set_cons_succ]
                    refine wpAnyH_ready (rs := [11]) (by kernel_rfl) (by simp) ?_
                    refine AllReadyH.cons (o := { dst := some 11, op := Op.alloc 26, type := 0, pos := "law.go:122", after := #[], guard := none }) rfl (fun K hK => ?_) AllReadyH.nil
                    go_simp
                    refine hK.out _ _ (C3.alloc C3.size _) (fun C4 => ?_)
                    clear hK K
                    try simp only [Act.put, List.setIfInBounds_toArray, List.set_cons_zero, List.set_cons_succ]
                    have TA : Hid (CRow (w14.alloc (.cells #[.int .i64 0, .int .i64 0, .int .i64 0, .int .i64 0] 26)) w14.heap.size 26 #[.int .i64 0, .int .i64 0, .int .i64 0, .int .i64 0]) := Lib.hid (CRow.new w14 #[.int .i64 0, .int .i64 0, .int .i64 0, .int .i64 0] 26)
                    refine wpAnyH_take (i := 12) (oi := { dst := some 10, op := Op.assign (Operand.tmp 60), type := 24, pos := "law.go:122", after := #[{ on := 7, ground := Ground.data }, { on := 5, ground := Ground.chain }, { on := 0, ground := Ground.phase }, { on := 1, ground := Ground.phase }, { on := 2, ground := Ground.phase }, { on := 3, ground := Ground.phase }, { on := 4, ground := Ground.phase }, { on := 5, ground := Ground.phase }, { on := 6, ground := Ground.phase }, { on := 7, ground := Ground.phase }, { on := 8, ground := Ground.textOnly Departure.lateStores }, { on := 9, ground := Ground.textOnly Departure.lateStores }, { on := 10, ground := Ground.textOnly Departure.lateStores }, { on := 11, ground := Ground.phase }], guard := none }) (v := ?_) rfl (by kernel_rfl) (by kernel_rfl) (by kernel_rfl) (fun _ _ _ h => h) (Or.inl ⟨by rfl, ?_⟩) C4 ?_
                    rotate_left
                    · intro W' hSw
                      clear hSw
                      go_simp <;> with_reducible rfl
                    try simp only [Act.put, List.setIfInBounds_toArray, List.set_cons_zero, List.set_cons_succ]
                    have hsz : wr.heap.size ≤ w14.heap.size := Nat.le_trans (Nat.le_trans (Nat.le_trans (by simp) D12.out.size) D13.out.size) D14.out.size
                    refine wpAnyH_ready (rs := [13]) (by kernel_rfl) (by simp) ?_
                    refine AllReadyH.cons (o := { dst := none, op := Op.store 26 (Operand.tmp 11) (Operand.tmp 61), type := 0, pos := "law.go:122", after := #[{ on := 11, ground := Ground.data }, { on := 8, ground := Ground.data }, { on := 12, ground := Ground.chain }, { on := 0, ground := Ground.phase }, { on := 1, ground := Ground.phase }, { on := 2, ground := Ground.phase }, { on := 3, ground := Ground.phase }, { on := 4, ground := Ground.phase }, { on := 5, ground := Ground.phase }, { on := 6, ground := Ground.phase }, { on := 7, ground := Ground.phase }, { on := 8, ground := Ground.phase }, { on := 9, ground := Ground.textOnly Departure.lateStores }, { on := 10, ground := Ground.textOnly Departure.lateStores }, { on := 11, ground := Ground.phase }, { on := 12, ground := Ground.phase }], guard := none }) rfl (fun K hK => ?_) AllReadyH.nil
                    rw [if_pos (by rfl)]
                    refine wp_store_row 26 _ _ rfl w14.heap.size #[.int .i64 0, .int .i64 0, .int .i64 0, .int .i64 0] (by simp [Act.eval]) rfl 26 _ TA.out size_tag (by simp) (by simp [Value.oneCell']) ?_
                    refine hK.out _ _ (below_setRow C4 (by omega) _) (fun C5 => ?_)
                    clear hK K
                    try simp only [Act.put]
                    generalize World.setRow (w14.alloc (.cells #[.int .i64 0, .int .i64 0, .int .i64 0, .int .i64 0] 26)) w14.heap.size #[.int .i64 0, .int .i64 0, .int .i64 0, .int .i64 0] = w15 at *
                    refine wpAnyH_take (i := 14) (oi := { dst := some 12, op := Op.assign (Operand.tmp 62), type := 3, pos := "law.go:122", after := #[{ on := 9, ground := Ground.data }, { on := 13, ground := Ground.chain }, { on := 0, ground := Ground.phase }, { on := 1, ground := Ground.phase }, { on := 2, ground := Ground.phase }, { on := 3, ground := Ground.phase }, { on := 4, ground := Ground.phase }, { on := 5, ground := Ground.phase }, { on := 6, ground := Ground.phase }, { on := 7, ground := Ground.phase }, { on := 8, ground := Ground.phase }, { on := 9, ground := Ground.phase }, { on := 10, ground := Ground.textOnly Departure.lateStores }, { on := 11, ground := Ground.phase }, { on := 12, ground := Ground.phase }, { on := 13, ground := Ground.phase }], guard := none }) (v := ?_) rfl (by kernel_rfl) (by kernel_rfl) (by kernel_rfl) (fun _ _ _ h => h) (Or.inl ⟨by rfl, ?_⟩) C5 ?_
                    rotate_left
                    · intro W' hSw
                      clear hSw
                      go_simp <;> with_reducible rfl
                    try simp only [Act.put, List.setIfInBounds_toArray, List.set_cons_zero, List.set_cons_succ]
                    refine wpAnyH_take (i := 15) (oi := { dst := some 13, op := Op.assign (Operand.tmp 63), type := 29, pos := "law.go:122", after := #[{ on := 10, ground := Ground.data }, { on := 14, ground := Ground.chain }, { on := 0, ground := Ground.phase }, { on := 1, ground := Ground.phase }, { on := 2, ground := Ground.phase }, { on := 3, ground := Ground.phase }, { on := 4, ground := Ground.phase }, { on := 5, ground := Ground.phase }, { on := 6, ground := Ground.phase }, { on := 7, ground := Ground.phase }, { on := 8, ground := Ground.phase }, { on := 9, ground := Ground.phase }, { on := 10, ground := Ground.phase }, { on := 11, ground := Ground.phase }, { on := 12, ground := Ground.phase }, { on := 13, ground := Ground.phase }, { on := 14, ground := Ground.phase }], guard := none }) (v := ?_) rfl (by kernel_rfl) (by kernel_rfl) (by kernel_rfl) (fun _ _ _ h => h) (Or.inl ⟨by rfl, ?_⟩) C5 ?_
                    rotate_left
                    · intro W' hSw
                      clear hSw
                      go_simp <;> with_reducible rfl
                    try simp only [Act.put, List.setIfInBounds_toArray, List.set_cons_zero, List.set_cons_succ]
                    refine wpAnyH_done (by kernel_rfl) ?_ _
                    refine NoPanic.normal ?_
                    have B15 := Lib.hid (below_step BR.out C5)
                    have K15 := Lib.hid (KR.out.below C5)
                    have HI15 := Lib.hid (HI.out.below C5)
                    clear BR KR HI TA
                    have hlt1 : w.heap.size < w15.heap.size := by have := K15.out.cells.1; omega
                    obtain ⟨_, g0, g1, g2, g3, g4, g5, g6, p0, p1, p2, p3, p4⟩ := K15.out.cells
                    go_wp2
                    refine wp_region_noPanic ?_
                    refine wp_region_held_drew (S := fun w' => Below w15.heap.size w15 w') (by kernel_rfl) ((Below.refl _ _).drew) (fun C0 => ?_)
                    refine wpAnyH_take (i := 0) (oi := { dst := some 64, op := Op.move (Operand.tmp 13), type := 29, pos := "law.go:123", after := #[], guard := none }) (v := ?_) rfl (by kernel_rfl) (by kernel_rfl) (by kernel_rfl) (fun _ _ _ h => h) (Or.inl ⟨by rfl, ?_⟩) C0 ?_
                    rotate_left
                    · intro W' hSw
                      clear hSw
                      go_simp <;> with_reducible rfl
                    try simp only [Act.put, List.setIfInBounds_toArray, List.set_cons_zero, List.set_cons_succ]
                    refine wpAnyH_take (i := 1) (oi := { dst := some 65, op := Op.binOp BinOp.neq 29 (Operand.tmp 64) (Operand.const (Value.int IntKind.i64 0)) 29, type := 4, pos := "law.go:123", after := #[{ on := 0, ground := Ground.data }], guard := none }) (v := ?_) rfl (by kernel_rfl) (by kernel_rfl) (by kernel_rfl) (fun _ _ _ h => h) (Or.inl ⟨by rfl, ?_⟩) C0 ?_
                    rotate_left
                    · intro W' hSw
                      clear hSw
                      go_simp <;> with_reducible rfl
                    try simp only [Act.put, List.setIfInBounds_toArray, List.set_cons_zero, List.set_cons_succ]
                    refine wpAnyH_take (i := 2) (oi := { dst := some 66, op := Op.move (Operand.tmp 65), type := 4, pos := "law.go:123", after := #[{ on := 1, ground := Ground.data }], guard := none }) (v := ?_) rfl (by kernel_rfl) (by kernel_rfl) (by kernel_rfl) (fun _ _ _ h => h) (Or.inl ⟨by rfl, ?_⟩) C0 ?_
                    rotate_left
                    · intro W' hSw
                      clear hSw
                      go_simp <;> with_reducible rfl
                    try simp only [Act.put, List.setIfInBounds_toArray, List.set_cons_zero, List.set_cons_succ]
                    refine wpAnyH_take (i := 3) (oi := { dst := some 67, op := Op.move (Operand.tmp 12), type := 3, pos := "law.go:123", after := #[{ on := 2, ground := Ground.guard }], guard := some (2, false) }) (v := ?_) rfl (by kernel_rfl) (by kernel_rfl) (by kernel_rfl) (fun _ _ _ h => h) (Or.inl ⟨by rfl, ?_⟩) C0 ?_
                    rotate_left
                    · intro W' hSw
                      clear hSw
                      go_simp <;> with_reducible rfl
                    try simp only [Act.put, List.setIfInBounds_toArray, List.set_cons_zero, List.set_cons_succ]
                    refine wpAnyH_take (i := 4) (oi := { dst := some 68, op := Op.binOp BinOp.neq 3 (Operand.tmp 67) (Operand.const (Value.int IntKind.i64 2)) 3, type := 4, pos := "law.go:123", after := #[{ on := 3, ground := Ground.data }, { on := 2, ground := Ground.guard }], guard := some (2, false) }) (v := ?_) rfl (by kernel_rfl) (by kernel_rfl) (by kernel_rfl) (fun _ _ _ h => h) (Or.inl ⟨by rfl, ?_⟩) C0 ?_
                    rotate_left
                    · intro W' hSw
                      clear hSw
                      go_simp <;> with_reducible rfl
                    try simp only [Act.put, List.setIfInBounds_toArray, List.set_cons_zero, List.set_cons_succ]
                    refine wpAnyH_take (i := 5) (oi := { dst := some 69, op := Op.pick (Operand.tmp 66) (Operand.const (Value.bool true)) (Operand.tmp 68), type := 4, pos := "law.go:123", after := #[{ on := 2, ground := Ground.data }, { on := 4, ground := Ground.data }], guard := none }) (v := ?_) rfl (by kernel_rfl) (by kernel_rfl) (by kernel_rfl) (fun _ _ _ h => h) (Or.inl ⟨by rfl, ?_⟩) C0 ?_
                    rotate_left
                    · intro W' hSw
                      clear hSw
                      go_simp <;> with_reducible rfl
                    try simp only [Act.put, List.setIfInBounds_toArray, List.set_cons_zero, List.set_cons_succ]
                    refine wpAnyH_take (i := 6) (oi := { dst := some 70, op := Op.move (Operand.tmp 69), type := 4, pos := "law.go:123", after := #[{ on := 5, ground := Ground.data }, { on := 2, ground := Ground.chain }], guard := none }) (v := ?_) rfl (by kernel_rfl) (by kernel_rfl) (by kernel_rfl) (fun _ _ _ h => h) (Or.inl ⟨by rfl, ?_⟩) C0 ?_
                    rotate_left
                    · intro W' hSw
                      clear hSw
                      go_simp <;> with_reducible rfl
                    try simp only [Act.put, List.setIfInBounds_toArray, List.set_cons_zero, List.set_cons_succ]
                    refine wpAnyH_take (i := 7) (oi := { dst := some 71, op := Op.load 23 (Operand.tmp 3), type := 23, pos := "law.go:123", after := #[{ on := 6, ground := Ground.guard }], guard := some (6, false) }) (v := ?_) rfl (by kernel_rfl) (by kernel_rfl) (by kernel_rfl) (fun _ _ _ h => h) (Or.inl ⟨by rfl, ?_⟩) C0 ?_
                    rotate_left
                    · intro W' hSw
                      have c0 := (hSw.cell (p := ⟨w.heap.size, 0, none⟩) hlt1).trans g0
                      have c1 := (hSw.cell (p := ⟨w.heap.size, 1, none⟩) hlt1).trans g1
                      have c2 := (hSw.cell (p := ⟨w.heap.size, 2, none⟩) hlt1).trans g2
                      have c3 := (hSw.cell (p := ⟨w.heap.size, 3, none⟩) hlt1).trans g3
                      have c4 := (hSw.cell (p := ⟨w.heap.size, 4, none⟩) hlt1).trans g4
                      have c5 := (hSw.cell (p := ⟨w.heap.size, 5, none⟩) hlt1).trans g5
                      have c6 := (hSw.cell (p := ⟨w.heap.size, 6, none⟩) hlt1).trans g6
                      clear hSw
                      go_simp <;> with_reducible rfl
                    try simp only [Act.put, List.setIfInBounds_toArray, List.set_cons_zero, List.set_cons_succ]
                    refine wpAnyH_take (i := 8) (oi := { dst := some 72, op := Op.load 23 (Operand.tmp 3), type := 23, pos := "law.go:123", after := #[{ on := 6, ground := Ground.guard }], guard := some (6, false) }) (v := ?_) rfl (by kernel_rfl) (by kernel_rfl) (by kernel_rfl) (fun _ _ _ h => h) (Or.inl ⟨by rfl, ?_⟩) C0 ?_
                    rotate_left
                    · intro W' hSw
                      have c0 := (hSw.cell (p := ⟨w.heap.size, 0, none⟩) hlt1).trans g0
                      have c1 := (hSw.cell (p := ⟨w.heap.size, 1, none⟩) hlt1).trans g1
                      have c2 := (hSw.cell (p := ⟨w.heap.size, 2, none⟩) hlt1).trans g2
                      have c3 := (hSw.cell (p := ⟨w.heap.size, 3, none⟩) hlt1).trans g3
                      have c4 := (hSw.cell (p := ⟨w.heap.size, 4, none⟩) hlt1).trans g4
                      have c5 := (hSw.cell (p := ⟨w.heap.size, 5, none⟩) hlt1).trans g5
                      have c6 := (hSw.cell (p := ⟨w.heap.size, 6, none⟩) hlt1).trans g6
                      clear hSw
                      go_simp <;> with_reducible rfl
                    try simp only [Act.put, List.setIfInBounds_toArray, List.set_cons_zero, List.set_cons_succ]
                    clear g0 g1 g2 g3 g4 g5 g6 p0 p1 p2 p3 p4
                    refine wpAnyH_ready (rs := [9]) (by kernel_rfl) (by simp) ?_
                    refine AllReadyH.cons (o := { dst := some 73, op := Op.call { callee := Callee.value (Operand.func 11), args := #[Operand.tmp 72], argTypes := #[23] }, type := 24, pos := "law.go:123", after := #[{ on := 8, ground := Ground.data }, { on := 6, ground := Ground.chain }, { on := 6, ground := Ground.guard }], guard := some (6, false) }) rfl (fun K hK => ?_) AllReadyH.nil
                    go_simp
                    refine (hEr _).mono ?_
                    intro _ w16 hM
                    obtain ⟨A16, c16, rfl, R16, hc16, D16⟩ := hM.at_ (n := N) (by simp)
                    have hB := D16.out
                    clear hM
                    go_wp2_with fail
                    refine hK.out _ _ (C0.trans (hB.mono C0.size)) (fun C1 => ?_)
                    clear hK K hB
                    try simp only [Act.put, List.setIfInBounds_toArray, List.set_cons_zero, List.set_cons_succ]
                    refine wpAnyH_ready (rs := [10]) (by kernel_rfl) (by simp) ?_
                    refine AllReadyH.cons (o := { dst := some 74, op := Op.call { callee := Callee.value (Operand.func 20), args := #[Operand.tmp 71, Operand.tmp 73], argTypes := #[23, 24] }, type := 4, pos := "law.go:123", after := #[{ on := 7, ground := Ground.data }, { on := 9, ground := Ground.data }, { on := 9, ground := Ground.chain }, { on := 6, ground := Ground.guard }], guard := some (6, false) }) rfl (fun K hK => ?_) AllReadyH.nil
                    go_simp
                    refine (HMa.out _ N _ hc16 (List.replicate N 255) _ R16.out).mono ?_
                    rw [HMk.out]
                    rintro _ w17 ⟨rfl, hB⟩
                    go_wp2_with fail
                    refine hK.out _ _ (C1.trans (hB.mono C1.size)) (fun C2 => ?_)
                    clear hK K hB
                    try simp only [Act.put, List.setIfInBounds_toArray, List.set_cons_zero, List.set_cons_succ]
                    refine wpAnyH_take (i := 11) (oi := { dst := some 75, op := Op.pick (Operand.tmp 70) (Operand.const (Value.bool true)) (Operand.tmp 74), type := 4, pos := "law.go:123", after := #[{ on := 6, ground := Ground.data }, { on := 10, ground := Ground.data }], guard := none }) (v := ?_) rfl (by kernel_rfl) (by kernel_rfl) (by kernel_rfl) (fun _ _ _ h => h) (Or.inl ⟨by rfl, ?_⟩) C2 ?_
                    rotate_left
                    · intro W' hSw
                      clear hSw
                      go_simp <;> with_reducible rfl
                    try simp only [Act.put, List.setIfInBounds_toArray, List.set_cons_zero, List.set_cons_succ]
                    refine wpAnyH_done (by kernel_rfl) ?_ _
                    refine NoPanic.normal ?_
                    have B17 := Lib.hid (below_step B15.out C2)
                    have K17 := Lib.hid (K15.out.below C2)
                    have H17 := Lib.hid (HI15.out.below C2)
                    clear HI15 K15 B15 HMk
                    obtain ⟨_, g0, g1, g2, g3, g4, g5, g6, p0, p1, p2, p3, p4⟩ := K17.out.cells
                    rcases hcs with ⟨hdk, hto⟩ | hno
                    rotate_left
                    · go_wp2_with fail
                      refine (HEn.out hno _).mono ?_
                      rintro _ w18 ⟨rfl, h18⟩
                      have B18 := Lib.hid (below_step B17.out h18)
                      clear h18
                      clear g0 g1 g2 g3 g4 g5 g6 p0 p1 p2 p3 p4
                      go_wp2
                      go_ret
                      exact ⟨rfl, B18.out⟩
                    · have HPk2 := Lib.hid (HPk.out hdk)
                      have HW := Lib.hid (HWr.out HPk2.out)
                      have HPgl := Lib.hid (show (pageL C K d (Tg.bytes ⟨tk, ts, tq, te⟩)).length = N by rw [pageL_length HPk2.out, HN.out])
                      have HPgb := Lib.hid (pageL_lt HPk2.out)
                      have hEn := fun w' h => HEn2.out hdk hto w' h
                      clear hdk hto
                      generalize pageL C K d (Tg.bytes ⟨tk, ts, tq, te⟩) = RAW at *
                      have HF2n := Lib.hid (show (flips RAW ps).length = N by rw [flips_length, HPgl.out])
                      have HF2b := Lib.hid (flips_lt RAW ps HPgb.out)
                      go_wp2_with fail
                      refine (hEn _ (HD.out.below B17.out)).mono ?_
                      intro _ w18 hM
                      obtain ⟨A18, c18, rfl, R18, _, hc18, D18⟩ := hM.at_ HPgl.out
                      have B18 := Lib.hid (below_step B17.out D18.out)
                      have K18 := Lib.hid (K17.out.below D18.out)
                      have H18 := Lib.hid (H17.out.below D18.out)
                      clear g0 g1 g2 g3 g4 g5 g6 p0 p1 p2 p3 p4
                      clear hM hEn D18 B17 K17 H17 HEn HEn2
                      obtain ⟨_, g0, g1, g2, g3, g4, g5, g6, p0, p1, p2, p3, p4⟩ := K18.out.cells
                      have hlt2 : w.heap.size < w18.heap.size := by have := K18.out.cells.1; omega
                      obtain ⟨⟨vd, ⟨vk, vz, vq, ve⟩, vs, vr⟩, hv, hvs⟩ := HW.out
                      simp only at hvs
                      have HV := Lib.hid hv
                      clear hv HW
                      obtain ⟨vn, HVn⟩ : ∃ vn, Hid (vd.length = vn) := ⟨_, rfl⟩
                      go_wp2
                      refine wp_region_noPanic ?_
                      refine wp_region_held_drew (S := fun w' => Below w18.heap.size w18 w') (by kernel_rfl) ((Below.refl _ _).drew) (fun C0 => ?_)
                      refine wpAnyH_take (i := 0) (oi := { dst := some 91, op := Op.load 23 (Operand.tmp 3), type := 23, pos := "law.go:130", after := #[], guard := none }) (v := ?_) rfl (by kernel_rfl) (by kernel_rfl) (by kernel_rfl) (fun _ _ _ h => h) (Or.inl ⟨by rfl, ?_⟩) C0 ?_
                      rotate_left
                      · intro W' hSw
                        have c0 := (hSw.cell (p := ⟨w.heap.size, 0, none⟩) hlt2).trans g0
                        have c1 := (hSw.cell (p := ⟨w.heap.size, 1, none⟩) hlt2).trans g1
                        have c2 := (hSw.cell (p := ⟨w.heap.size, 2, none⟩) hlt2).trans g2
                        have c3 := (hSw.cell (p := ⟨w.heap.size, 3, none⟩) hlt2).trans g3
                        have c4 := (hSw.cell (p := ⟨w.heap.size, 4, none⟩) hlt2).trans g4
                        have c5 := (hSw.cell (p := ⟨w.heap.size, 5, none⟩) hlt2).trans g5
                        have c6 := (hSw.cell (p := ⟨w.heap.size, 6, none⟩) hlt2).trans g6
                        clear hSw
                        go_simp <;> with_reducible rfl
                      try simp only [Act.put, List.setIfInBounds_toArray, List.set_cons_zero, List.set_cons_succ]
                      refine wpAnyH_take (i := 1) (oi := { dst := some 92, op := Op.move (Operand.tmp 14), type := 24, pos := "law.go:130", after := #[], guard := none }) (v := ?_) rfl (by kernel_rfl) (by kernel_rfl) (by kernel_rfl) (fun _ _ _ h => h) (Or.inl ⟨by rfl, ?_⟩) C0 ?_
                      rotate_left
                      · intro W' hSw
                        clear hSw
                        go_simp <;> with_reducible rfl
                      try simp only [Act.put, List.setIfInBounds_toArray, List.set_cons_zero, List.set_cons_succ]
                      refine wpAnyH_take (i := 2) (oi := { dst := some 93, op := Op.move (Operand.tmp 7), type := 54, pos := "law.go:130", after := #[], guard := none }) (v := ?_) rfl (by kernel_rfl) (by kernel_rfl) (by kernel_rfl) (fun _ _ _ h => h) (Or.inl ⟨by rfl, ?_⟩) C0 ?_
                      rotate_left
                      · intro W' hSw
                        clear hSw
                        go_simp <;> with_reducible rfl
                      try simp only [Act.put, List.setIfInBounds_toArray, List.set_cons_zero, List.set_cons_succ]
                      clear g0 g1 g2 g3 g4 g5 g6 p0 p1 p2 p3 p4
                      refine wpAnyH_ready (rs := [3]) (by kernel_rfl) (by simp) ?_
                      refine AllReadyH.cons (o := { dst := some 94, op := Op.call { callee := Callee.value (Operand.func 23), args := #[Operand.tmp 92, Operand.tmp 93], argTypes := #[24, 54] }, type := 24, pos := "law.go:130", after := #[{ on := 1, ground := Ground.data }, { on := 2, ground := Ground.data }], guard := none }) rfl (fun K hK => ?_) AllReadyH.nil
                      go_simp
                      refine (Flip_any _ _ N _ j _ RAW ps _ (R18.out.below C0) (H18.out.below C0) (by omega) (by omega)).mono ?_
                      intro _ w19 hM
                      obtain ⟨A19, c19, rfl, O19, D19⟩ := hM.at_ HF2n.out
                      have R19 := Lib.hid (R8.own O19.out HF2b.out)
                      have hc19 := own_cap O19.out
                      have hB := D19.out
                      clear hM O19
                      go_wp2_with fail
                      refine hK.out _ _ (C0.trans (hB.mono C0.size)) (fun C1 => ?_)
                      clear hK K hB
                      try simp only [Act.put, List.setIfInBounds_toArray, List.set_cons_zero, List.set_cons_succ]
                      refine wpAnyH_ready (rs := [4]) (by kernel_rfl) (by simp) ?_
                      refine AllReadyH.cons (o := { dst := some 95, op := Op.call { callee := Callee.value (Operand.func 18), args := #[Operand.tmp 91, Operand.tmp 94], argTypes := #[23, 24] }, type := 39, pos := "law.go:130", after := #[{ on := 0, ground := Ground.data }, { on := 3, ground := Ground.data }, { on := 3, ground := Ground.chain }], guard := none }) rfl (fun K hK => ?_) AllReadyH.nil
                      go_simp
                      refine (hDe _ _ hc19 (flips RAW ps) _ R19.out).mono ?_
                      intro _ w20 hM
                      rw [HV.out] at hM
                      obtain ⟨A20, c20, rfl, R20, D20⟩ := hM.tag vn HVn.out vk vz vq ve rfl
                      have hB := D20.out
                      clear hM
                      go_wp2_with fail
                      refine hK.out _ _ (C1.trans (hB.mono C1.size)) (fun C2 => ?_)
                      clear hK K hB
                      try simp only [Act.put, List.setIfInBounds_toArray, List.set_cons_zero, List.set_cons_succ]
                      refine wpAnyH_take (i := 5) (oi := { dst := some 90, op := Op.move (Operand.tmp 95), type := 39, pos := "law.go:130", after := #[{ on := 4, ground := Ground.data }], guard := none }) (v := ?_) rfl (by kernel_rfl) (by kernel_rfl) (by kernel_rfl) (fun _ _ _ h => h) (Or.inl ⟨by rfl, ?_⟩) C2 ?_
                      rotate_left
                      · intro W' hSw
                        clear hSw
                        go_simp <;> with_reducible rfl
                      try simp only [Act.put, List.setIfInBounds_toArray, List.set_cons_zero, List.set_cons_succ]
                      refine wpAnyH_take (i := 6) (oi := { dst := some 96, op := Op.extract (Operand.tmp 90) 0, type := 24, pos := "law.go:130", after := #[{ on := 5, ground := Ground.data }], guard := none }) (v := ?_) rfl (by kernel_rfl) (by kernel_rfl) (by kernel_rfl) (fun _ _ _ h => h) (Or.inl ⟨by rfl, ?_⟩) C2 ?_
                      rotate_left
                      · intro W' hSw
                        clear hSw
                        go_simp <;> with_reducible rfl
                      try simp only [Act.put, List.setIfInBounds_toArray, List.set_cons_zero, List.set_cons_succ]
                      refine wpAnyH_take (i := 7) (oi := { dst := some 97, op := Op.extract (Operand.tmp 90) 1, type := 26, pos := "law.go:130", after := #[{ on := 5, ground := Ground.data }], guard := none }) (v := ?_) rfl (by kernel_rfl) (by kernel_rfl) (by kernel_rfl) (fun _ _ _ h => h) (Or.inl ⟨by rfl, ?_⟩) C2 ?_
                      rotate_left
                      · intro W' hSw
                        clear hSw
                        go_simp <;> with_reducible rfl
                      try simp only [Act.put, List.setIfInBounds_toArray, List.set_cons_zero, List.set_cons_succ]
                      refine wpAnyH_take (i := 8) (oi := { dst := some 98, op := Op.extract (Operand.tmp 90) 2, type := 3, pos := "law.go:130", after := #[{ on := 5, ground := Ground.data }], guard := none }) (v := ?_) rfl (by kernel_rfl) (by kernel_rfl) (by kernel_rfl) (fun _ _ _ h => h) (Or.inl ⟨by rfl, ?_⟩) C2 ?_
                      rotate_left
                      · intro W' hSw
                        clear hSw
                        go_simp <;> with_reducible rfl
                      try simp only [Act.put, List.setIfInBounds_toArray, List.set_cons_zero, List.set_cons_succ]
                      refine wpAnyH_take (i := 9) (oi := { dst := some 99, op := Op.extract (Operand.tmp 90) 3, type := 29, pos := "law.go:130", after := #[{ on := 5, ground := Ground.data }, { on := 10, ground := Ground.gcOnly Departure.lateStores }], guard := none }) (v := ?_) rfl (by kernel_rfl) (by kernel_rfl) (by kernel_rfl) (fun _ _ _ h => h) (Or.inl ⟨by rfl, ?_⟩) C2 ?_
                      rotate_left
                      · intro W' hSw
                        clear hSw
                        go_simp <;> with_reducible rfl
                      try simp only [Act.put, List.setIfInBounds_toArray, List.set_cons_zero, List.set_cons_succ]
                      refine wpAnyH_take (i := 10) (oi := { dst := some 12, op := Op.assign (Operand.tmp 98), type := 3, pos := "law.go:130", after := #[{ on := 8, ground := Ground.data }, { on := 4, ground := Ground.chain }, { on := 0, ground := Ground.phase }, { on := 1, ground := Ground.phase }, { on := 2, ground := Ground.phase }, { on := 3, ground := Ground.phase }, { on := 4, ground := Ground.phase }, { on := 5, ground := Ground.phase }, { on := 6, ground := Ground.phase }, { on := 7, ground := Ground.phase }, { on := 8, ground := Ground.phase }, { on := 9, ground := Ground.textOnly Departure.lateStores }], guard := none }) (v := ?_) rfl (by kernel_rfl) (by kernel_rfl) (by kernel_rfl) (fun _ _ _ h => h) (Or.inl ⟨by rfl, ?_⟩) C2 ?_
                      rotate_left
                      · intro W' hSw
                        clear hSw
                        go_simp <;> with_reducible rfl
                      try simp only [Act.put, List.setIfInBounds_toArray, List.set_cons_zero, List.set_cons_succ]
                      refine wpAnyH_done (by kernel_rfl) ?_ _
                      refine NoPanic.normal ?_
                      have B20 := Lib.hid (below_step B18.out C2)
                      have hs2 : ((vs : Int) != 2) = true := by simp; omega
                      go_wp2
                      go_ret
                      exact ⟨rfl, B20.out⟩
                  · go_simp
                    refine hK.out _ _ (C2.alloc C2.size _) (fun C3 => ?_)
                    clear hK K
                    try simp only [Act.put, List.setIfInBounds_toArray, List.set_cons_zero, List.set_cons_succ]
                    have TA : Hid (CRow (w13.alloc (.cells #[.int .i64 0, .int .i64 0, .int .i64 0, .int .i64 0] 26)) w13.heap.size 26 #[.int .i64 0, .int .i64 0, .int .i64 0, .int .i64 0]) := Lib.hid (CRow.new w13 #[.int .i64 0, .int .i64 0, .int .i64 0, .int .i64 0] 26)
                    refine wpAnyH_ready (rs := [5]) (by kernel_rfl) (by simp) ?_
                    refine AllReadyH.cons (o := { dst := some 59, op := Op.call { callee := Callee.value (Operand.func 18), args := #[Operand.tmp 54, Operand.tmp 58], argTypes := #[23, 24] }, type := 39, pos := "law.go:122", after := #[{ on := 0, ground := Ground.data }, { on := 4, ground := Ground.data }, { on := 4, ground := Ground.chain }], guard := none }) rfl (fun K hK => ?_) AllReadyH.nil
                    go_simp
                    refine (hDe _ _ hc13 (flips (List.replicate N 255) ps) _ (R13.out.alloc (.cells #[.int .i64 0, .int .i64 0, .int .i64 0, .int .i64 0] 26))).mono ?_
                    intro _ w14 hM
                    rw [HDE.out] at hM
                    obtain ⟨A14, c14, rfl, R14, D14⟩ := hM.tag 0 rfl 0 0 0 0 rfl
                    have hB := D14.out
                    clear hM
                    go_wp2_with fail
                    refine hK.out _ _ (C3.trans (hB.mono C3.size)) (fun C4 => ?_)
                    clear hK K hB
                    try simp only [Act.put, List.setIfInBounds_toArray, List.set_cons_zero, List.set_cons_succ]
                    refine wpAnyH_take (i := 6) (oi := { dst := some 53, op := Op.move (Operand.tmp 59), type := 39, pos := "law.go:122", after := #[{ on := 5, ground := Ground.data }], guard := none }) (v := ?_) rfl (by kernel_rfl) (by kernel_rfl) (by kernel_rfl) (fun _ _ _ h => h) (Or.inl ⟨by rfl, ?_⟩) C4 ?_
                    rotate_left
                    · intro W' hSw
                      clear hSw
                      go_simp <;> with_reducible rfl
                    try simp only [Act.put, List.setIfInBounds_toArray, List.set_cons_zero, List.set_cons_succ]
                    refine wpAnyH_take (i := 7) (oi := { dst := some 60, op := Op.extract (Operand.tmp 53) 0, type := 24, pos := "law.go:122", after := #[{ on := 6, ground := Ground.data }], guard := none }) (v := ?_) rfl (by kernel_rfl) (by kernel_rfl) (by kernel_rfl) (fun _ _ _ h => h) (Or.inl ⟨by rfl, ?_⟩) C4 ?_
                    rotate_left
                    · intro W' hSw
                      clear hSw
                      go_simp <;> with_reducible rfl
                    try simp only [Act.put, List.setIfInBounds_toArray, List.set_cons_zero, List.set_cons_succ]
                    refine wpAnyH_take (i := 8) (oi := { dst := some 61, op := Op.extract (Operand.tmp 53) 1, type := 26, pos := "law.go:122", after := #[{ on := 6, ground := Ground.data }, { on := 12, ground := Ground.gcOnly Departure.lateStores }], guard := none }) (v := ?_) rfl (by kernel_rfl) (by kernel_rfl) (by kernel_rfl) (fun _ _ _ h => h) (Or.inl ⟨by rfl, ?_⟩) C4 ?_
                    rotate_left
                    · intro W' hSw
                      clear hSw
                      go_simp <;> with_reducible rfl
                    try simp only [Act.put, List.setIfInBounds_toArray, List.set_cons_zero, List.set_cons_succ]
                    refine wpAnyH_take (i := 9) (oi := { dst := some 62, op := Op.extract (Operand.tmp 53) 2, type := 3, pos := "law.go:122", after := #[{ on := 6, ground := Ground.data }, { on := 13, ground := Ground.gcOnly Departure.lateStores }], guard := none }) (v := ?_) rfl (by kernel_rfl) (by kernel_rfl) (by kernel_rfl) (fun _ _ _ h => h) (Or.inl ⟨by rfl, ?_⟩) C4 ?_
                    rotate_left
                    · intro W' hSw
                      clear hSw
                      go_simp <;> with_reducible rfl
                    try simp only [Act.put, List.setIfInBounds_toArray, List.set_cons_zero, List.set_cons_succ]
                    refine wpAnyH_take (i := 10) (oi := { dst := some 63, op := Op.extract (Operand.tmp 53) 3, type := 29, pos := "law.go:122", after := #[{ on := 6, ground := Ground.data }, { on := 14, ground := Ground.gcOnly Departure.lateStores }], guard := none }) (v := ?_) rfl (by kernel_rfl) (by kernel_rfl) (by kernel_rfl) (fun _ _ _ h => h) (Or.inl ⟨by rfl, ?_⟩) C4 ?_
                    rotate_left
                    · intro W' hSw
                      clear hSw
                      go_simp <;> with_reducible rfl
                    try simp only [Act.put, List.setIfInBounds_toArray, List.set_cons_zero, List.set_cons_succ]
                    refine wpAnyH_take (i := 12) (oi := { dst := some 10, op := Op.assign (Operand.tmp 60), type := 24, pos := "law.go:122", after := #[{ on := 7, ground := Ground.data }, { on := 5, ground := Ground.chain }, { on := 0, ground := Ground.phase }, { on := 1, ground := Ground.phase }, { on := 2, ground := Ground.phase }, { on := 3, ground := Ground.phase }, { on := 4, ground := Ground.phase }, { on := 5, ground := Ground.phase }, { on := 6, ground := Ground.phase }, { on := 7, ground := Ground.phase }, { on := 8, ground := Ground.textOnly Departure.lateStores }, { on := 9, ground := Ground.textOnly Departure.lateStores }, { on := 10, ground := Ground.textOnly Departure.lateStores }, { on := 11, ground := Ground.phase }], guard := none }) (v := ?_) rfl (by kernel_rfl) (by kernel_rfl) (by kernel_rfl) (fun _ _ _ h => h) (Or.inl ⟨by rfl, ?_⟩) C4 ?_
                    rotate_left
                    · intro W' hSw
                      clear hSw
                      go_simp <;> with_reducible rfl
                    try simp only [Act.put, List.setIfInBounds_toArray, List.set_cons_zero, List.set_cons_succ]
                    have hsz : wr.heap.size ≤ w13.heap.size := Nat.le_trans (Nat.le_trans (by simp) D12.out.size) D13.out.size
                    refine wpAnyH_ready (rs := [13]) (by kernel_rfl) (by simp) ?_
                    refine AllReadyH.cons (o := { dst := none, op := Op.store 26 (Operand.tmp 11) (Operand.tmp 61), type := 0, pos := "law.go:122", after := #[{ on := 11, ground := Ground.data }, { on := 8, ground := Ground.data }, { on := 12, ground := Ground.chain }, { on := 0, ground := Ground.phase }, { on := 1, ground := Ground.phase }, { on := 2, ground := Ground.phase }, { on := 3, ground := Ground.phase }, { on := 4, ground := Ground.phase }, { on := 5, ground := Ground.phase }, { on := 6, ground := Ground.phase }, { on := 7, ground := Ground.phase }, { on := 8, ground := Ground.phase }, { on := 9, ground := Ground.textOnly Departure.lateStores }, { on := 10, ground := Ground.textOnly Departure.lateStores }, { on := 11, ground := Ground.phase }, { on := 12, ground := Ground.phase }], guard := none }) rfl (fun K hK => ?_) AllReadyH.nil
                    rw [if_pos (by rfl)]
                    refine wp_store_row 26 _ _ rfl w13.heap.size #[.int .i64 0, .int .i64 0, .int .i64 0, .int .i64 0] (by simp [Act.eval]) rfl 26 _ (TA.out.below D14.out) size_tag (by simp) (by simp [Value.oneCell']) ?_
                    refine hK.out _ _ (below_setRow C4 (by omega) _) (fun C5 => ?_)
                    clear hK K
                    try simp only [Act.put]
                    generalize World.setRow w14 w13.heap.size #[.int .i64 0, .int .i64 0, .int .i64 0, .int .i64 0] = w15 at *
                    refine wpAnyH_take (i := 14) (oi := { dst := some 12, op := Op.assign (Operand.tmp 62), type := 3, pos := "law.go:122", after := #[{ on := 9, ground := Ground.data }, { on := 13, ground := Ground.chain }, { on := 0, ground := Ground.phase }, { on := 1, ground := Ground.phase }, { on := 2, ground := Ground.phase }, { on := 3, ground := Ground.phase }, { on := 4, ground := Ground.phase }, { on := 5, ground := Ground.phase }, { on := 6, ground := Ground.phase }, { on := 7, ground := Ground.phase }, { on := 8, ground := Ground.phase }, { on := 9, ground := Ground.phase }, { on := 10, ground := Ground.textOnly Departure.lateStores }, { on := 11, ground := Ground.phase }, { on := 12, ground := Ground.phase }, { on := 13, ground := Ground.phase }], guard := none }) (v := ?_) rfl (by kernel_rfl) (by kernel_rfl) (by kernel_rfl) (fun _ _ _ h => h) (Or.inl ⟨by rfl, ?_⟩) C5 ?_
                    rotate_left
                    · intro W' hSw
                      clear hSw
                      go_simp <;> with_reducible rfl
                    try simp only [Act.put, List.setIfInBounds_toArray, List.set_cons_zero, List.set_cons_succ]
                    refine wpAnyH_take (i := 15) (oi := { dst := some 13, op := Op.assign (Operand.tmp 63), type := 29, pos := "law.go:122", after := #[{ on := 10, ground := Ground.data }, { on := 14, ground := Ground.chain }, { on := 0, ground := Ground.phase }, { on := 1, ground := Ground.phase }, { on := 2, ground := Ground.phase }, { on := 3, ground := Ground.phase }, { on := 4, ground := Ground.phase }, { on := 5, ground := Ground.phase }, { on := 6, ground := Ground.phase }, { on := 7, ground := Ground.phase }, { on := 8, ground := Ground.phase }, { on := 9, ground := Ground.phase }, { on := 10, ground := Ground.phase }, { on := 11, ground := Ground.phase }, { on := 12, ground := Ground.phase }, { on := 13, ground := Ground.phase }, { on := 14, ground := Ground.phase }], guard := none }) (v := ?_) rfl (by kernel_rfl) (by kernel_rfl) (by kernel_rfl) (fun _ _ _ h => h) (Or.inl ⟨by rfl, ?_⟩) C5 ?_
                    rotate_left
                    · intro W' hSw
                      clear hSw
                      go_simp <;> with_reducible rfl
                    try simp only [Act.put, List.setIfInBounds_toArray, List.set_cons_zero, List.set_cons_succ]
                    refine wpAnyH_done (by kernel_rfl) ?_ _
                    refine NoPanic.normal ?_
                    have B15 := Lib.hid (below_step BR.out C5)
                    have K15 := Lib.hid (KR.out.below C5)
                    have HI15 := Lib.hid (HI.out.below C5)
                    clear BR KR HI TA
                    have hlt1 : w.heap.size < w15.heap.size := by have := K15.out.cells.1; omega
                    obtain ⟨_, g0, g1, g2, g3, g4, g5, g6, p0, p1, p2, p3, p4⟩ := K15.out.cells
                    go_wp2
                    refine wp_region_noPanic ?_
                    refine wp_region_held_drew (S := fun w' => Below w15.heap.size w15 w') (by kernel_rfl) ((Below.refl _ _).drew) (fun C0 => ?_)
                    refine wpAnyH_take (i := 0) (oi := { dst := some 64, op := Op.move (Operand.tmp 13), type := 29, pos := "law.go:123", after := #[], guard := none }) (v := ?_) rfl (by kernel_rfl) (by kernel_rfl) (by kernel_rfl) (fun _ _ _ h => h) (Or.inl ⟨by rfl, ?_⟩) C0 ?_
                    rotate_left
                    · intro W' hSw
                      clear hSw
                      go_simp <;> with_reducible rfl
                    try simp only [Act.put, List.setIfInBounds_toArray, List.set_cons_zero, List.set_cons_succ]
                    refine wpAnyH_take (i := 1) (oi := { dst := some 65, op := Op.binOp BinOp.neq 29 (Operand.tmp 64) (Operand.const (Value.int IntKind.i64 0)) 29, type := 4, pos := "law.go:123", after := #[{ on := 0, ground := Ground.data }], guard := none }) (v := ?_) rfl (by kernel_rfl) (by kernel_rfl) (by kernel_rfl) (fun _ _ _ h => h) (Or.inl ⟨by rfl, ?_⟩) C0 ?_
                    rotate_left
                    · intro W' hSw
                      clear hSw
                      go_simp <;> with_reducible rfl
                    try simp only [Act.put, List.setIfInBounds_toArray, List.set_cons_zero, List.set_cons_succ]
                    refine wpAnyH_take (i := 2) (oi := { dst := some 66, op := Op.move (Operand.tmp 65), type := 4, pos := "law.go:123", after := #[{ on := 1, ground := Ground.data }], guard := none }) (v := ?_) rfl (by kernel_rfl) (by kernel_rfl) (by kernel_rfl) (fun _ _ _ h => h) (Or.inl ⟨by rfl, ?_⟩) C0 ?_
                    rotate_left
                    · intro W' hSw
                      clear hSw
                      go_simp <;> with_reducible rfl
                    try simp only [Act.put, List.setIfInBounds_toArray, List.set_cons_zero, List.set_cons_succ]
                    refine wpAnyH_take (i := 3) (oi := { dst := some 67, op := Op.move (Operand.tmp 12), type := 3, pos := "law.go:123", after := #[{ on := 2, ground := Ground.guard }], guard := some (2, false) }) (v := ?_) rfl (by kernel_rfl) (by kernel_rfl) (by kernel_rfl) (fun _ _ _ h => h) (Or.inl ⟨by rfl, ?_⟩) C0 ?_
                    rotate_left
                    · intro W' hSw
                      clear hSw
                      go_simp <;> with_reducible rfl
                    try simp only [Act.put, List.setIfInBounds_toArray, List.set_cons_zero, List.set_cons_succ]
                    refine wpAnyH_take (i := 4) (oi := { dst := some 68, op := Op.binOp BinOp.neq 3 (Operand.tmp 67) (Operand.const (Value.int IntKind.i64 2)) 3, type := 4, pos := "law.go:123", after := #[{ on := 3, ground := Ground.data }, { on := 2, ground := Ground.guard }], guard := some (2, false) }) (v := ?_) rfl (by kernel_rfl) (by kernel_rfl) (by kernel_rfl) (fun _ _ _ h => h) (Or.inl ⟨by rfl, ?_⟩) C0 ?_
                    rotate_left
                    · intro W' hSw
                      clear hSw
                      go_simp <;> with_reducible rfl
                    try simp only [Act.put, List.setIfInBounds_toArray, List.set_cons_zero, List.set_cons_succ]
                    refine wpAnyH_take (i := 5) (oi := { dst := some 69, op := Op.pick (Operand.tmp 66) (Operand.const (Value.bool true)) (Operand.tmp 68), type := 4, pos := "law.go:123", after := #[{ on := 2, ground := Ground.data }, { on := 4, ground := Ground.data }], guard := none }) (v := ?_) rfl (by kernel_rfl) (by kernel_rfl) (by kernel_rfl) (fun _ _ _ h => h) (Or.inl ⟨by rfl, ?_⟩) C0 ?_
                    rotate_left
                    · intro W' hSw
                      clear hSw
                      go_simp <;> with_reducible rfl
                    try simp only [Act.put, List.setIfInBounds_toArray, List.set_cons_zero, List.set_cons_succ]
                    refine wpAnyH_take (i := 6) (oi := { dst := some 70, op := Op.move (Operand.tmp 69), type := 4, pos := "law.go:123", after := #[{ on := 5, ground := Ground.data }, { on := 2, ground := Ground.chain }], guard := none }) (v := ?_) rfl (by kernel_rfl) (by kernel_rfl) (by kernel_rfl) (fun _ _ _ h => h) (Or.inl ⟨by rfl, ?_⟩) C0 ?_
                    rotate_left
                    · intro W' hSw
                      clear hSw
                      go_simp <;> with_reducible rfl
                    try simp only [Act.put, List.setIfInBounds_toArray, List.set_cons_zero, List.set_cons_succ]
                    refine wpAnyH_take (i := 7) (oi := { dst := some 71, op := Op.load 23 (Operand.tmp 3), type := 23, pos := "law.go:123", after := #[{ on := 6, ground := Ground.guard }], guard := some (6, false) }) (v := ?_) rfl (by kernel_rfl) (by kernel_rfl) (by kernel_rfl) (fun _ _ _ h => h) (Or.inl ⟨by rfl, ?_⟩) C0 ?_
                    rotate_left
                    · intro W' hSw
                      have c0 := (hSw.cell (p := ⟨w.heap.size, 0, none⟩) hlt1).trans g0
                      have c1 := (hSw.cell (p := ⟨w.heap.size, 1, none⟩) hlt1).trans g1
                      have c2 := (hSw.cell (p := ⟨w.heap.size, 2, none⟩) hlt1).trans g2
                      have c3 := (hSw.cell (p := ⟨w.heap.size, 3, none⟩) hlt1).trans g3
                      have c4 := (hSw.cell (p := ⟨w.heap.size, 4, none⟩) hlt1).trans g4
                      have c5 := (hSw.cell (p := ⟨w.heap.size, 5, none⟩) hlt1).trans g5
                      have c6 := (hSw.cell (p := ⟨w.heap.size, 6, none⟩) hlt1).trans g6
                      clear hSw
                      go_simp <;> with_reducible rfl
                    try simp only [Act.put, List.setIfInBounds_toArray, List.set_cons_zero, List.set_cons_succ]
                    refine wpAnyH_take (i := 8) (oi := { dst := some 72, op := Op.load 23 (Operand.tmp 3), type := 23, pos := "law.go:123", after := #[{ on := 6, ground := Ground.guard }], guard := some (6, false) }) (v := ?_) rfl (by kernel_rfl) (by kernel_rfl) (by kernel_rfl) (fun _ _ _ h => h) (Or.inl ⟨by rfl, ?_⟩) C0 ?_
                    rotate_left
                    · intro W' hSw
                      have c0 := (hSw.cell (p := ⟨w.heap.size, 0, none⟩) hlt1).trans g0
                      have c1 := (hSw.cell (p := ⟨w.heap.size, 1, none⟩) hlt1).trans g1
                      have c2 := (hSw.cell (p := ⟨w.heap.size, 2, none⟩) hlt1).trans g2
                      have c3 := (hSw.cell (p := ⟨w.heap.size, 3, none⟩) hlt1).trans g3
                      have c4 := (hSw.cell (p := ⟨w.heap.size, 4, none⟩) hlt1).trans g4
                      have c5 := (hSw.cell (p := ⟨w.heap.size, 5, none⟩) hlt1).trans g5
                      have c6 := (hSw.cell (p := ⟨w.heap.size, 6, none⟩) hlt1).trans g6
                      clear hSw
                      go_simp <;> with_reducible rfl
                    try simp only [Act.put, List.setIfInBounds_toArray, List.set_cons_zero, List.set_cons_succ]
                    clear g0 g1 g2 g3 g4 g5 g6 p0 p1 p2 p3 p4
                    refine wpAnyH_ready (rs := [9]) (by kernel_rfl) (by simp) ?_
                    refine AllReadyH.cons (o := { dst := some 73, op := Op.call { callee := Callee.value (Operand.func 11), args := #[Operand.tmp 72], argTypes := #[23] }, type := 24, pos := "law.go:123", after := #[{ on := 8, ground := Ground.data }, { on := 6, ground := Ground.chain }, { on := 6, ground := Ground.guard }], guard := some (6, false) }) rfl (fun K hK => ?_) AllReadyH.nil
                    go_simp
                    refine (hEr _).mono ?_
                    intro _ w16 hM
                    obtain ⟨A16, c16, rfl, R16, hc16, D16⟩ := hM.at_ (n := N) (by simp)
                    have hB := D16.out
                    clear hM
                    go_wp2_with fail
                    refine hK.out _ _ (C0.trans (hB.mono C0.size)) (fun C1 => ?_)
                    clear hK K hB
                    try simp only [Act.put, List.setIfInBounds_toArray, List.set_cons_zero, List.set_cons_succ]
                    refine wpAnyH_ready (rs := [10]) (by kernel_rfl) (by simp) ?_
                    refine AllReadyH.cons (o := { dst := some 74, op := Op.call { callee := Callee.value (Operand.func 20), args := #[Operand.tmp 71, Operand.tmp 73], argTypes := #[23, 24] }, type := 4, pos := "law.go:123", after := #[{ on := 7, ground := Ground.data }, { on := 9, ground := Ground.data }, { on := 9, ground := Ground.chain }, { on := 6, ground := Ground.guard }], guard := some (6, false) }) rfl (fun K hK => ?_) AllReadyH.nil
                    go_simp
                    refine (HMa.out _ N _ hc16 (List.replicate N 255) _ R16.out).mono ?_
                    rw [HMk.out]
                    rintro _ w17 ⟨rfl, hB⟩
                    go_wp2_with fail
                    refine hK.out _ _ (C1.trans (hB.mono C1.size)) (fun C2 => ?_)
                    clear hK K hB
                    try simp only [Act.put, List.setIfInBounds_toArray, List.set_cons_zero, List.set_cons_succ]
                    refine wpAnyH_take (i := 11) (oi := { dst := some 75, op := Op.pick (Operand.tmp 70) (Operand.const (Value.bool true)) (Operand.tmp 74), type := 4, pos := "law.go:123", after := #[{ on := 6, ground := Ground.data }, { on := 10, ground := Ground.data }], guard := none }) (v := ?_) rfl (by kernel_rfl) (by kernel_rfl) (by kernel_rfl) (fun _ _ _ h => h) (Or.inl ⟨by rfl, ?_⟩) C2 ?_
                    rotate_left
                    · intro W' hSw
                      clear hSw
                      go_simp <;> with_reducible rfl
                    try simp only [Act.put, List.setIfInBounds_toArray, List.set_cons_zero, List.set_cons_succ]
                    refine wpAnyH_done (by kernel_rfl) ?_ _
                    refine NoPanic.normal ?_
                    have B17 := Lib.hid (below_step B15.out C2)
                    have K17 := Lib.hid (K15.out.below C2)
                    have H17 := Lib.hid (HI15.out.below C2)
                    clear HI15 K15 B15 HMk
                    obtain ⟨_, g0, g1, g2, g3, g4, g5, g6, p0, p1, p2, p3, p4⟩ := K17.out.cells
                    rcases hcs with ⟨hdk, hto⟩ | hno
                    rotate_left
                    · go_wp2_with fail
                      refine (HEn.out hno _).mono ?_
                      rintro _ w18 ⟨rfl, h18⟩
                      have B18 := Lib.hid (below_step B17.out h18)
                      clear h18
                      clear g0 g1 g2 g3 g4 g5 g6 p0 p1 p2 p3 p4
                      go_wp2
                      go_ret
                      exact ⟨rfl, B18.out⟩
                    · have HPk2 := Lib.hid (HPk.out hdk)
                      have HW := Lib.hid (HWr.out HPk2.out)
                      have HPgl := Lib.hid (show (pageL C K d (Tg.bytes ⟨tk, ts, tq, te⟩)).length = N by rw [pageL_length HPk2.out, HN.out])
                      have HPgb := Lib.hid (pageL_lt HPk2.out)
                      have hEn := fun w' h => HEn2.out hdk hto w' h
                      clear hdk hto
                      generalize pageL C K d (Tg.bytes ⟨tk, ts, tq, te⟩) = RAW at *
                      have HF2n := Lib.hid (show (flips RAW ps).length = N by rw [flips_length, HPgl.out])
                      have HF2b := Lib.hid (flips_lt RAW ps HPgb.out)
                      go_wp2_with fail
                      refine (hEn _ (HD.out.below B17.out)).mono ?_
                      intro _ w18 hM
                      obtain ⟨A18, c18, rfl, R18, _, hc18, D18⟩ := hM.at_ HPgl.out
                      have B18 := Lib.hid (below_step B17.out D18.out)
                      have K18 := Lib.hid (K17.out.below D18.out)
                      have H18 := Lib.hid (H17.out.below D18.out)
                      clear g0 g1 g2 g3 g4 g5 g6 p0 p1 p2 p3 p4
                      clear hM hEn D18 B17 K17 H17 HEn HEn2
                      obtain ⟨_, g0, g1, g2, g3, g4, g5, g6, p0, p1, p2, p3, p4⟩ := K18.out.cells
                      have hlt2 : w.heap.size < w18.heap.size := by have := K18.out.cells.1; omega
                      obtain ⟨⟨vd, ⟨vk, vz, vq, ve⟩, vs, vr⟩, hv, hvs⟩ := HW.out
                      simp only at hvs
                      have HV := Lib.hid hv
                      clear hv HW
                      obtain ⟨vn, HVn⟩ : ∃ vn, Hid (vd.length = vn) := ⟨_, rfl⟩
                      go_wp2
                      refine wp_region_noPanic ?_
                      refine wp_region_held_drew (S := fun w' => Below w18.heap.size w18 w') (by kernel_rfl) ((Below.refl _ _).drew) (fun C0 => ?_)
                      refine wpAnyH_take (i := 0) (oi := { dst := some 91, op := Op.load 23 (Operand.tmp 3), type := 23, pos := "law.go:130", after := #[], guard := none }) (v := ?_) rfl (by kernel_rfl) (by kernel_rfl) (by kernel_rfl) (fun _ _ _ h => h) (Or.inl ⟨by rfl, ?_⟩) C0 ?_
                      rotate_left
                      · intro W' hSw
                        have c0 := (hSw.cell (p := ⟨w.heap.size, 0, none⟩) hlt2).trans g0
                        have c1 := (hSw.cell (p := ⟨w.heap.size, 1, none⟩) hlt2).trans g1
                        have c2 := (hSw.cell (p := ⟨w.heap.size, 2, none⟩) hlt2).trans g2
                        have c3 := (hSw.cell (p := ⟨w.heap.size, 3, none⟩) hlt2).trans g3
                        have c4 := (hSw.cell (p := ⟨w.heap.size, 4, none⟩) hlt2).trans g4
                        have c5 := (hSw.cell (p := ⟨w.heap.size, 5, none⟩) hlt2).trans g5
                        have c6 := (hSw.cell (p := ⟨w.heap.size, 6, none⟩) hlt2).trans g6
                        clear hSw
                        go_simp <;> with_reducible rfl
                      try simp only [Act.put, List.setIfInBounds_toArray, List.set_cons_zero, List.set_cons_succ]
                      refine wpAnyH_take (i := 1) (oi := { dst := some 92, op := Op.move (Operand.tmp 14), type := 24, pos := "law.go:130", after := #[], guard := none }) (v := ?_) rfl (by kernel_rfl) (by kernel_rfl) (by kernel_rfl) (fun _ _ _ h => h) (Or.inl ⟨by rfl, ?_⟩) C0 ?_
                      rotate_left
                      · intro W' hSw
                        clear hSw
                        go_simp <;> with_reducible rfl
                      try simp only [Act.put, List.setIfInBounds_toArray, List.set_cons_zero, List.set_cons_succ]
                      refine wpAnyH_take (i := 2) (oi := { dst := some 93, op := Op.move (Operand.tmp 7), type := 54, pos := "law.go:130", after := #[], guard := none }) (v := ?_) rfl (by kernel_rfl) (by kernel_rfl) (by kernel_rfl) (fun _ _ _ h => h) (Or.inl ⟨by rfl, ?_⟩) C0 ?_
                      rotate_left
                      · intro W' hSw
                        clear hSw
                        go_simp <;> with_reducible rfl
                      try simp only [Act.put, List.setIfInBounds_toArray, List.set_cons_zero, List.set_cons_succ]
                      clear g0 g1 g2 g3 g4 g5 g6 p0 p1 p2 p3 p4
                      refine wpAnyH_ready (rs := [3]) (by kernel_rfl) (by simp) ?_
                      refine AllReadyH.cons (o := { dst := some 94, op := Op.call { callee := Callee.value (Operand.func 23), args := #[Operand.tmp 92, Operand.tmp 93], argTypes := #[24, 54] }, type := 24, pos := "law.go:130", after := #[{ on := 1, ground := Ground.data }, { on := 2, ground := Ground.data }], guard := none }) rfl (fun K hK => ?_) AllReadyH.nil
                      go_simp
                      refine (Flip_any _ _ N _ j _ RAW ps _ (R18.out.below C0) (H18.out.below C0) (by omega) (by omega)).mono ?_
                      intro _ w19 hM
                      obtain ⟨A19, c19, rfl, O19, D19⟩ := hM.at_ HF2n.out
                      have R19 := Lib.hid (R8.own O19.out HF2b.out)
                      have hc19 := own_cap O19.out
                      have hB := D19.out
                      clear hM O19
                      go_wp2_with fail
                      refine hK.out _ _ (C0.trans (hB.mono C0.size)) (fun C1 => ?_)
                      clear hK K hB
                      try simp only [Act.put, List.setIfInBounds_toArray, List.set_cons_zero, List.set_cons_succ]
                      refine wpAnyH_ready (rs := [4]) (by kernel_rfl) (by simp) ?_
                      refine AllReadyH.cons (o := { dst := some 95, op := Op.call { callee := Callee.value (Operand.func 18), args := #[Operand.tmp 91, Operand.tmp 94], argTypes := #[23, 24] }, type := 39, pos := "law.go:130", after := #[{ on := 0, ground := Ground.data }, { on := 3, ground := Ground.data }, { on := 3, ground := Ground.chain }], guard := none }) rfl (fun K hK => ?_) AllReadyH.nil
                      go_simp
                      refine (hDe _ _ hc19 (flips RAW ps) _ R19.out).mono ?_
                      intro _ w20 hM
                      rw [HV.out] at hM
                      obtain ⟨A20, c20, rfl, R20, D20⟩ := hM.tag vn HVn.out vk vz vq ve rfl
                      have hB := D20.out
                      clear hM
                      go_wp2_with fail
                      refine hK.out _ _ (C1.trans (hB.mono C1.size)) (fun C2 => ?_)
                      clear hK K hB
                      try simp only [Act.put, List.setIfInBounds_toArray, List.set_cons_zero, List.set_cons_succ]
                      refine wpAnyH_take (i := 5) (oi := { dst := some 90, op := Op.move (Operand.tmp 95), type := 39, pos := "law.go:130", after := #[{ on := 4, ground := Ground.data }], guard := none }) (v := ?_) rfl (by kernel_rfl) (by kernel_rfl) (by kernel_rfl) (fun _ _ _ h => h) (Or.inl ⟨by rfl, ?_⟩) C2 ?_
                      rotate_left
                      · intro W' hSw
                        clear hSw
                        go_simp <;> with_reducible rfl
                      try simp only [Act.put, List.setIfInBounds_toArray, List.set_cons_zero, List.set_cons_succ]
                      refine wpAnyH_take (i := 6) (oi := { dst := some 96, op := Op.extract (Operand.tmp 90) 0, type := 24, pos := "law.go:130", after := #[{ on := 5, ground := Ground.data }], guard := none }) (v := ?_) rfl (by kernel_rfl) (by kernel_rfl) (by kernel_rfl) (fun _ _ _ h => h) (Or.inl ⟨by rfl, ?_⟩) C2 ?_
                      rotate_left
                      · intro W' hSw
                        clear hSw
                        go_simp <;> with_reducible rfl
                      try simp only [Act.put, List.setIfInBounds_toArray, List.set_cons_zero, List.set_cons_succ]
                      refine wpAnyH_take (i := 7) (oi := { dst := some 97, op := Op.extract (Operand.tmp 90) 1, type := 26, pos := "law.go:130", after := #[{ on := 5, ground := Ground.data }], guard := none }) (v := ?_) rfl (by kernel_rfl) (by kernel_rfl) (by kernel_rfl) (fun _ _ _ h => h) (Or.inl ⟨by rfl, ?_⟩) C2 ?_
                      rotate_left
                      · intro W' hSw
                        clear hSw
                        go_simp <;> with_reducible rfl
                      try simp only [Act.put, List.setIfInBounds_toArray, List.set_cons_zero, List.set_cons_succ]
                      refine wpAnyH_take (i := 8) (oi := { dst := some 98, op := Op.extract (Operand.tmp 90) 2, type := 3, pos := "law.go:130", after := #[{ on := 5, ground := Ground.data }], guard := none }) (v := ?_) rfl (by kernel_rfl) (by kernel_rfl) (by kernel_rfl) (fun _ _ _ h => h) (Or.inl ⟨by rfl, ?_⟩) C2 ?_
                      rotate_left
                      · intro W' hSw
                        clear hSw
                        go_simp <;> with_reducible rfl
                      try simp only [Act.put, List.setIfInBounds_toArray, List.set_cons_zero, List.set_cons_succ]
                      refine wpAnyH_take (i := 9) (oi := { dst := some 99, op := Op.extract (Operand.tmp 90) 3, type := 29, pos := "law.go:130", after := #[{ on := 5, ground := Ground.data }, { on := 10, ground := Ground.gcOnly Departure.lateStores }], guard := none }) (v := ?_) rfl (by kernel_rfl) (by kernel_rfl) (by kernel_rfl) (fun _ _ _ h => h) (Or.inl ⟨by rfl, ?_⟩) C2 ?_
                      rotate_left
                      · intro W' hSw
                        clear hSw
                        go_simp <;> with_reducible rfl
                      try simp only [Act.put, List.setIfInBounds_toArray, List.set_cons_zero, List.set_cons_succ]
                      refine wpAnyH_take (i := 10) (oi := { dst := some 12, op := Op.assign (Operand.tmp 98), type := 3, pos := "law.go:130", after := #[{ on := 8, ground := Ground.data }, { on := 4, ground := Ground.chain }, { on := 0, ground := Ground.phase }, { on := 1, ground := Ground.phase }, { on := 2, ground := Ground.phase }, { on := 3, ground := Ground.phase }, { on := 4, ground := Ground.phase }, { on := 5, ground := Ground.phase }, { on := 6, ground := Ground.phase }, { on := 7, ground := Ground.phase }, { on := 8, ground := Ground.phase }, { on := 9, ground := Ground.textOnly Departure.lateStores }], guard := none }) (v := ?_) rfl (by kernel_rfl) (by kernel_rfl) (by kernel_rfl) (fun _ _ _ h => h) (Or.inl ⟨by rfl, ?_⟩) C2 ?_
                      rotate_left
                      · intro W' hSw
                        clear hSw
                        go_simp <;> with_reducible rfl
                      try simp only [Act.put, List.setIfInBounds_toArray, List.set_cons_zero, List.set_cons_succ]
                      refine wpAnyH_done (by kernel_rfl) ?_ _
                      refine NoPanic.normal ?_
                      have B20 := Lib.hid (below_step B18.out C2)
                      have hs2 : ((vs : Int) != 2) = true := by simp; omega
                      go_wp2
                      go_ret
                      exact ⟨rfl, B20.out⟩
                · go_simp
                  refine hK.out _ _ (C1.alloc C1.size _) (fun C2 => ?_)
                  clear hK K
                  try simp only [Act.put, List.setIfInBounds_toArray, List.set_cons_zero, List.set_cons_succ]
                  have TA : Hid (CRow (w12.alloc (.cells #[.int .i64 0, .int .i64 0, .int .i64 0, .int .i64 0] 26)) w12.heap.size 26 #[.int .i64 0, .int .i64 0, .int .i64 0, .int .i64 0]) := Lib.hid (CRow.new w12 #[.int .i64 0, .int .i64 0, .int .i64 0, .int .i64 0] 26)
                  refine wpAnyH_ready (rs := [4]) (by kernel_rfl) (by simp) ?_
                  refine AllReadyH.cons (o := { dst := some 58, op := Op.call { callee := Callee.value (Operand.func 23), args := #[Operand.tmp 56, Operand.tmp 57], argTypes := #[24, 54] }, type := 24, pos := "law.go:122", after := #[{ on := 2, ground := Ground.data }, { on := 3, ground := Ground.data }, { on := 2, ground := Ground.chain }], guard := none }) rfl (fun K hK => ?_) AllReadyH.nil
                  go_simp
                  refine (Flip_any _ _ N _ j _ (List.replicate N 255) ps _ (R12.out.alloc (.cells #[.int .i64 0, .int .i64 0, .int .i64 0, .int .i64 0] 26)) (HI.out.below C2) (by omega) (by omega)).mono ?_
                  intro _ w13 hM
                  obtain ⟨A13, c13, rfl, O13, D13⟩ := hM.at_ HFLn.out
                  have R13 := Lib.hid (R8.own O13.out HFLb.out)
                  have hc13 := own_cap O13.out
                  have hB := D13.out
                  clear hM O13
                  go_wp2_with fail
                  refine hK.out _ _ (C2.trans (hB.mono C2.size)) (fun C3 => ?_)
                  clear hK K hB
                  try simp only [Act.put, List.setIfInBounds_toArray, List.set_cons_zero, List.set_cons_succ]
                  refine wpAnyH_ready (rs := [5]) (by kernel_rfl) (by simp) ?_
                  refine AllReadyH.cons (o := { dst := some 59, op := Op.call { callee := Callee.value (Operand.func 18), args := #[Operand.tmp 54, Operand.tmp 58], argTypes := #[23, 24] }, type := 39, pos := "law.go:122", after := #[{ on := 0, ground := Ground.data }, { on := 4, ground := Ground.data }, { on := 4, ground := Ground.chain }], guard := none }) rfl (fun K hK => ?_) AllReadyH.nil
                  go_simp
                  refine (hDe _ _ hc13 (flips (List.replicate N 255) ps) _ R13.out).mono ?_
                  intro _ w14 hM
                  rw [HDE.out] at hM
                  obtain ⟨A14, c14, rfl, R14, D14⟩ := hM.tag 0 rfl 0 0 0 0 rfl
                  have hB := D14.out
                  clear hM
                  go_wp2_with fail
                  refine hK.out _ _ (C3.trans (hB.mono C3.size)) (fun C4 => ?_)
                  clear hK K hB
                  try simp only [Act.put, List.setIfInBounds_toArray, List.set_cons_zero, List.set_cons_succ]
                  refine wpAnyH_take (i := 6) (oi := { dst := some 53, op := Op.move (Operand.tmp 59), type := 39, pos := "law.go:122", after := #[{ on := 5, ground := Ground.data }], guard := none }) (v := ?_) rfl (by kernel_rfl) (by kernel_rfl) (by kernel_rfl) (fun _ _ _ h => h) (Or.inl ⟨by rfl, ?_⟩) C4 ?_
                  rotate_left
                  · intro W' hSw
                    clear hSw
                    go_simp <;> with_reducible rfl
                  try simp only [Act.put, List.setIfInBounds_toArray, List.set_cons_zero, List.set_cons_succ]
                  refine wpAnyH_take (i := 7) (oi := { dst := some 60, op := Op.extract (Operand.tmp 53) 0, type := 24, pos := "law.go:122", after := #[{ on := 6, ground := Ground.data }], guard := none }) (v := ?_) rfl (by kernel_rfl) (by kernel_rfl) (by kernel_rfl) (fun _ _ _ h => h) (Or.inl ⟨by rfl, ?_⟩) C4 ?_
                  rotate_left
                  · intro W' hSw
                    clear hSw
                    go_simp <;> with_reducible rfl
                  try simp only [Act.put, List.setIfInBounds_toArray, List.set_cons_zero, List.set_cons_succ]
                  refine wpAnyH_take (i := 8) (oi := { dst := some 61, op := Op.extract (Operand.tmp 53) 1, type := 26, pos := "law.go:122", after := #[{ on := 6, ground := Ground.data }, { on := 12, ground := Ground.gcOnly Departure.lateStores }], guard := none }) (v := ?_) rfl (by kernel_rfl) (by kernel_rfl) (by kernel_rfl) (fun _ _ _ h => h) (Or.inl ⟨by rfl, ?_⟩) C4 ?_
                  rotate_left
                  · intro W' hSw
                    clear hSw
                    go_simp <;> with_reducible rfl
                  try simp only [Act.put, List.setIfInBounds_toArray, List.set_cons_zero, List.set_cons_succ]
                  refine wpAnyH_take (i := 9) (oi := { dst := some 62, op := Op.extract (Operand.tmp 53) 2, type := 3, pos := "law.go:122", after := #[{ on := 6, ground := Ground.data }, { on := 13, ground := Ground.gcOnly Departure.lateStores }], guard := none }) (v := ?_) rfl (by kernel_rfl) (by kernel_rfl) (by kernel_rfl) (fun _ _ _ h => h) (Or.inl ⟨by rfl, ?_⟩) C4 ?_
                  rotate_left
                  · intro W' hSw
                    clear hSw
                    go_simp <;> with_reducible rfl
                  try simp only [Act.put, List.setIfInBounds_toArray, List.set_cons_zero, List.set_cons_succ]
                  refine wpAnyH_take (i := 10) (oi := { dst := some 63, op := Op.extract (Operand.tmp 53) 3, type := 29, pos := "law.go:122", after := #[{ on := 6, ground := Ground.data }, { on := 14, ground := Ground.gcOnly Departure.lateStores }], guard := none }) (v := ?_) rfl (by kernel_rfl) (by kernel_rfl) (by kernel_rfl) (fun _ _ _ h => h) (Or.inl ⟨by rfl, ?_⟩) C4 ?_
                  rotate_left
                  · intro W' hSw
                    clear hSw
                    go_simp <;> with_reducible rfl
                  try simp only [Act.put, List.setIfInBounds_toArray, List.set_cons_zero, List.set_cons_succ]
                  refine wpAnyH_take (i := 12) (oi := { dst := some 10, op := Op.assign (Operand.tmp 60), type := 24, pos := "law.go:122", after := #[{ on := 7, ground := Ground.data }, { on := 5, ground := Ground.chain }, { on := 0, ground := Ground.phase }, { on := 1, ground := Ground.phase }, { on := 2, ground := Ground.phase }, { on := 3, ground := Ground.phase }, { on := 4, ground := Ground.phase }, { on := 5, ground := Ground.phase }, { on := 6, ground := Ground.phase }, { on := 7, ground := Ground.phase }, { on := 8, ground := Ground.textOnly Departure.lateStores }, { on := 9, ground := Ground.textOnly Departure.lateStores }, { on := 10, ground := Ground.textOnly Departure.lateStores }, { on := 11, ground := Ground.phase }], guard := none }) (v := ?_) rfl (by kernel_rfl) (by kernel_rfl) (by kernel_rfl) (fun _ _ _ h => h) (Or.inl ⟨by rfl, ?_⟩) C4 ?_
                  rotate_left
                  · intro W' hSw
                    clear hSw
                    go_simp <;> with_reducible rfl
                  try simp only [Act.put, List.setIfInBounds_toArray, List.set_cons_zero, List.set_cons_succ]
                  have hsz : wr.heap.size ≤ w12.heap.size := Nat.le_trans (by simp) D12.out.size
                  refine wpAnyH_ready (rs := [13]) (by kernel_rfl) (by simp) ?_
                  refine AllReadyH.cons (o := { dst := none, op := Op.store 26 (Operand.tmp 11) (Operand.tmp 61), type := 0, pos := "law.go:122", after := #[{ on := 11, ground := Ground.data }, { on := 8, ground := Ground.data }, { on := 12, ground := Ground.chain }, { on := 0, ground := Ground.phase }, { on := 1, ground := Ground.phase }, { on := 2, ground := Ground.phase }, { on := 3, ground := Ground.phase }, { on := 4, ground := Ground.phase }, { on := 5, ground := Ground.phase }, { on := 6, ground := Ground.phase }, { on := 7, ground := Ground.phase }, { on := 8, ground := Ground.phase }, { on := 9, ground := Ground.textOnly Departure.lateStores }, { on := 10, ground := Ground.textOnly Departure.lateStores }, { on := 11, ground := Ground.phase }, { on := 12, ground := Ground.phase }], guard := none }) rfl (fun K hK => ?_) AllReadyH.nil
                  rw [if_pos (by rfl)]
                  refine wp_store_row 26 _ _ rfl w12.heap.size #[.int .i64 0, .int .i64 0, .int .i64 0, .int .i64 0] (by simp [Act.eval]) rfl 26 _ ((TA.out.below D13.out).below D14.out) size_tag (by simp) (by simp [Value.oneCell']) ?_
                  refine hK.out _ _ (below_setRow C4 (by omega) _) (fun C5 => ?_)
                  clear hK K
                  try simp only [Act.put]
                  generalize World.setRow w14 w12.heap.size #[.int .i64 0, .int .i64 0, .int .i64 0, .int .i64 0] = w15 at *
                  refine wpAnyH_take (i := 14) (oi := { dst := some 12, op := Op.assign (Operand.tmp 62), type := 3, pos := "law.go:122", after := #[{ on := 9, ground := Ground.data }, { on := 13, ground := Ground.chain }, { on := 0, ground := Ground.phase }, { on := 1, ground := Ground.phase }, { on := 2, ground := Ground.phase }, { on := 3, ground := Ground.phase }, { on := 4, ground := Ground.phase }, { on := 5, ground := Ground.phase }, { on := 6, ground := Ground.phase }, { on := 7, ground := Ground.phase }, { on := 8, ground := Ground.phase }, { on := 9, ground := Ground.phase }, { on := 10, ground := Ground.textOnly Departure.lateStores }, { on := 11, ground := Ground.phase }, { on := 12, ground := Ground.phase }, { on := 13, ground := Ground.phase }], guard := none }) (v := ?_) rfl (by kernel_rfl) (by kernel_rfl) (by kernel_rfl) (fun _ _ _ h => h) (Or.inl ⟨by rfl, ?_⟩) C5 ?_
                  rotate_left
                  · intro W' hSw
                    clear hSw
                    go_simp <;> with_reducible rfl
                  try simp only [Act.put, List.setIfInBounds_toArray, List.set_cons_zero, List.set_cons_succ]
                  refine wpAnyH_take (i := 15) (oi := { dst := some 13, op := Op.assign (Operand.tmp 63), type := 29, pos := "law.go:122", after := #[{ on := 10, ground := Ground.data }, { on := 14, ground := Ground.chain }, { on := 0, ground := Ground.phase }, { on := 1, ground := Ground.phase }, { on := 2, ground := Ground.phase }, { on := 3, ground := Ground.phase }, { on := 4, ground := Ground.phase }, { on := 5, ground := Ground.phase }, { on := 6, ground := Ground.phase }, { on := 7, ground := Ground.phase }, { on := 8, ground := Ground.phase }, { on := 9, ground := Ground.phase }, { on := 10, ground := Ground.phase }, { on := 11, ground := Ground.phase }, { on := 12, ground := Ground.phase }, { on := 13, ground := Ground.phase }, { on := 14, ground := Ground.phase }], guard := none }) (v := ?_) rfl (by kernel_rfl) (by kernel_rfl) (by kernel_rfl) (fun _ _ _ h => h) (Or.inl ⟨by rfl, ?_⟩) C5 ?_
                  rotate_left
                  · intro W' hSw
                    clear hSw
                    go_simp <;> with_reducible rfl
                  try simp only [Act.put, List.setIfInBounds_toArray, List.set_cons_zero, List.set_cons_succ]
                  refine wpAnyH_done (by kernel_rfl) ?_ _
                  refine NoPanic.normal ?_
                  have B15 := Lib.hid (below_step BR.out C5)
                  have K15 := Lib.hid (KR.out.below C5)
                  have HI15 := Lib.hid (HI.out.below C5)
                  clear BR KR HI TA
                  have hlt1 : w.heap.size < w15.heap.size := by have := K15.out.cells.1; omega
                  obtain ⟨_, g0, g1, g2, g3, g4, g5, g6, p0, p1, p2, p3, p4⟩ := K15.out.cells
                  go_wp2
                  refine wp_region_noPanic ?_
                  refine wp_region_held_drew (S := fun w' => Below w15.heap.size w15 w') (by kernel_rfl) ((Below.refl _ _).drew) (fun C0 => ?_)
                  refine wpAnyH_take (i := 0) (oi := { dst := some 64, op := Op.move (Operand.tmp 13), type := 29, pos := "law.go:123", after := #[], guard := none }) (v := ?_) rfl (by kernel_rfl) (by kernel_rfl) (by kernel_rfl) (fun _ _ _ h => h) (Or.inl ⟨by rfl, ?_⟩) C0 ?_
                  rotate_left
                  · intro W' hSw
                    clear hSw
                    go_simp <;> with_reducible rfl
                  try simp only [Act.put, List.setIfInBounds_toArray, List.set_cons_zero, List.set_cons_succ]
                  refine wpAnyH_take (i := 1) (oi := { dst := some 65, op := Op.binOp BinOp.neq 29 (Operand.tmp 64) (Operand.const (Value.int IntKind.i64 0)) 29, type := 4, pos := "law.go:123", after := #[{ on := 0, ground := Ground.data }], guard := none }) (v := ?_) rfl (by kernel_rfl) (by kernel_rfl) (by kernel_rfl) (fun _ _ _ h => h) (Or.inl ⟨by rfl, ?_⟩) C0 ?_
                  rotate_left
                  · intro W' hSw
                    clear hSw
                    go_simp <;> with_reducible rfl
                  try simp only [Act.put, List.setIfInBounds_toArray, List.set_cons_zero, List.set_cons_succ]
                  refine wpAnyH_take (i := 2) (oi := { dst := some 66, op := Op.move (Operand.tmp 65), type := 4, pos := "law.go:123", after := #[{ on := 1, ground := Ground.data }], guard := none }) (v := ?_) rfl (by kernel_rfl) (by kernel_rfl) (by kernel_rfl) (fun _ _ _ h => h) (Or.inl ⟨by rfl, ?_⟩) C0 ?_
                  rotate_left
                  · intro W' hSw
                    clear hSw
                    go_simp <;> with_reducible rfl
                  try simp only [Act.put, List.setIfInBounds_toArray, List.set_cons_zero, List.set_cons_succ]
                  refine wpAnyH_take (i := 3) (oi := { dst := some 67, op := Op.move (Operand.tmp 12), type := 3, pos := "law.go:123", after := #[{ on := 2, ground := Ground.guard }], guard := some (2, false) }) (v := ?_) rfl (by kernel_rfl) (by kernel_rfl) (by kernel_rfl) (fun _ _ _ h => h) (Or.inl ⟨by rfl, ?_⟩) C0 ?_
                  rotate_left
                  · intro W' hSw
                    clear hSw
                    go_simp <;> with_reducible rfl
                  try simp only [Act.put, List.setIfInBounds_toArray, List.set_cons_zero, List.set_cons_succ]
                  refine wpAnyH_take (i := 4) (oi := { dst := some 68, op := Op.binOp BinOp.neq 3 (Operand.tmp 67) (Operand.const (Value.int IntKind.i64 2)) 3, type := 4, pos := "law.go:123", after := #[{ on := 3, ground := Ground.data }, { on := 2, ground := Ground.guard }], guard := some (2, false) }) (v := ?_) rfl (by kernel_rfl) (by kernel_rfl) (by kernel_rfl) (fun _ _ _ h => h) (Or.inl ⟨by rfl, ?_⟩) C0 ?_
                  rotate_left
                  · intro W' hSw
                    clear hSw
                    go_simp <;> with_reducible rfl
                  try simp only [Act.put, List.setIfInBounds_toArray, List.set_cons_zero, List.set_cons_succ]
                  refine wpAnyH_take (i := 5) (oi := { dst := some 69, op := Op.pick (Operand.tmp 66) (Operand.const (Value.bool true)) (Operand.tmp 68), type := 4, pos := "law.go:123", after := #[{ on := 2, ground := Ground.data }, { on := 4, ground := Ground.data }], guard := none }) (v := ?_) rfl (by kernel_rfl) (by kernel_rfl) (by kernel_rfl) (fun _ _ _ h => h) (Or.inl ⟨by rfl, ?_⟩) C0 ?_
                  rotate_left
                  · intro W' hSw
                    clear hSw
                    go_simp <;> with_reducible rfl
                  try simp only [Act.put, List.setIfInBounds_toArray, List.set_cons_zero, List.set_cons_succ]
                  refine wpAnyH_take (i := 6) (oi := { dst := some 70, op := Op.move (Operand.tmp 69), type := 4, pos := "law.go:123", after := #[{ on := 5, ground := Ground.data }, { on := 2, ground := Ground.chain }], guard := none }) (v := ?_) rfl (by kernel_rfl) (by kernel_rfl) (by kernel_rfl) (fun _ _ _ h => h) (Or.inl ⟨by rfl, ?_⟩) C0 ?_
                  rotate_left
                  · intro W' hSw
                    clear hSw
                    go_simp <;> with_reducible rfl
                  try simp only [Act.put, List.setIfInBounds_toArray, List.set_cons_zero, List.set_cons_succ]
                  refine wpAnyH_take (i := 7) (oi := { dst := some 71, op := Op.load 23 (Operand.tmp 3), type := 23, pos := "law.go:123", after := #[{ on := 6, ground := Ground.guard }], guard := some (6, false) }) (v := ?_) rfl (by kernel_rfl) (by kernel_rfl) (by kernel_rfl) (fun _ _ _ h => h) (Or.inl ⟨by rfl, ?_⟩) C0 ?_
                  rotate_left
                  · intro W' hSw
                    have c0 := (hSw.cell (p := ⟨w.heap.size, 0, none⟩) hlt1).trans g0
                    have c1 := (hSw.cell (p := ⟨w.heap.size, 1, none⟩) hlt1).trans g1
                    have c2 := (hSw.cell (p := ⟨w.heap.size, 2, none⟩) hlt1).trans g2
                    have c3 := (hSw.cell (p := ⟨w.heap.size, 3, none⟩) hlt1).trans g3
                    have c4 := (hSw.cell (p := ⟨w.heap.size, 4, none⟩) hlt1).trans g4
                    have c5 := (hSw.cell (p := ⟨w.heap.size, 5, none⟩) hlt1).trans g5
                    have c6 := (hSw.cell (p := ⟨w.heap.size, 6, none⟩) hlt1).trans g6
                    clear hSw
                    go_simp <;> with_reducible rfl
                  try simp only [Act.put, List.setIfInBounds_toArray, List.set_cons_zero, List.set_cons_succ]
                  refine wpAnyH_take (i := 8) (oi := { dst := some 72, op := Op.load 23 (Operand.tmp 3), type := 23, pos := "law.go:123", after := #[{ on := 6, ground := Ground.guard }], guard := some (6, false) }) (v := ?_) rfl (by kernel_rfl) (by kernel_rfl) (by kernel_rfl) (fun _ _ _ h => h) (Or.inl ⟨by rfl, ?_⟩) C0 ?_
                  rotate_left
                  · intro W' hSw
                    have c0 := (hSw.cell (p := ⟨w.heap.size, 0, none⟩) hlt1).trans g0
                    have c1 := (hSw.cell (p := ⟨w.heap.size, 1, none⟩) hlt1).trans g1
                    have c2 := (hSw.cell (p := ⟨w.heap.size, 2, none⟩) hlt1).trans g2
                    have c3 := (hSw.cell (p := ⟨w.heap.size, 3, none⟩) hlt1).trans g3
                    have c4 := (hSw.cell (p := ⟨w.heap.size, 4, none⟩) hlt1).trans g4
                    have c5 := (hSw.cell (p := ⟨w.heap.size, 5, none⟩) hlt1).trans g5
                    have c6 := (hSw.cell (p := ⟨w.heap.size, 6, none⟩) hlt1).trans g6
                    clear hSw
                    go_simp <;> with_reducible rfl
                  try simp only [Act.put, List.setIfInBounds_toArray, List.set_cons_zero, List.set_cons_succ]
                  clear g0 g1 g2 g3 g4 g5 g6 p0 p1 p2 p3 p4
                  refine wpAnyH_ready (rs := [9]) (by kernel_rfl) (by simp) ?_
                  refine AllReadyH.cons (o := { dst := some 73, op := Op.call { callee := Callee.value (Operand.func 11), args := #[Operand.tmp 72], argTypes := #[23] }, type := 24, pos := "law.go:123", after := #[{ on := 8, ground := Ground.data }, { on := 6, ground := Ground.chain }, { on := 6, ground := Ground.guard }], guard := some (6, false) }) rfl (fun K hK => ?_) AllReadyH.nil
                  go_simp
                  refine (hEr _).mono ?_
                  intro _ w16 hM
                  obtain ⟨A16, c16, rfl, R16, hc16, D16⟩ := hM.at_ (n := N) (by simp)
                  have hB := D16.out
                  clear hM
                  go_wp2_with fail
                  refine hK.out _ _ (C0.trans (hB.mono C0.size)) (fun C1 => ?_)
                  clear hK K hB
                  try simp only [Act.put, List.setIfInBounds_toArray, List.set_cons_zero, List.set_cons_succ]
                  refine wpAnyH_ready (rs := [10]) (by kernel_rfl) (by simp) ?_
                  refine AllReadyH.cons (o := { dst := some 74, op := Op.call { callee := Callee.value (Operand.func 20), args := #[Operand.tmp 71, Operand.tmp 73], argTypes := #[23, 24] }, type := 4, pos := "law.go:123", after := #[{ on := 7, ground := Ground.data }, { on := 9, ground := Ground.data }, { on := 9, ground := Ground.chain }, { on := 6, ground := Ground.guard }], guard := some (6, false) }) rfl (fun K hK => ?_) AllReadyH.nil
                  go_simp
                  refine (HMa.out _ N _ hc16 (List.replicate N 255) _ R16.out).mono ?_
                  rw [HMk.out]
                  rintro _ w17 ⟨rfl, hB⟩
                  go_wp2_with fail
                  refine hK.out _ _ (C1.trans (hB.mono C1.size)) (fun C2 => ?_)
                  clear hK K hB
                  try simp only [Act.put, List.setIfInBounds_toArray, List.set_cons_zero, List.set_cons_succ]
                  refine wpAnyH_take (i := 11) (oi := { dst := some 75, op := Op.pick (Operand.tmp 70) (Operand.const (Value.bool true)) (Operand.tmp 74), type := 4, pos := "law.go:123", after := #[{ on := 6, ground := Ground.data }, { on := 10, ground := Ground.data }], guard := none }) (v := ?_) rfl (by kernel_rfl) (by kernel_rfl) (by kernel_rfl) (fun _ _ _ h => h) (Or.inl ⟨by rfl, ?_⟩) C2 ?_
                  rotate_left
                  · intro W' hSw
                    clear hSw
                    go_simp <;> with_reducible rfl
                  try simp only [Act.put, List.setIfInBounds_toArray, List.set_cons_zero, List.set_cons_succ]
                  refine wpAnyH_done (by kernel_rfl) ?_ _
                  refine NoPanic.normal ?_
                  have B17 := Lib.hid (below_step B15.out C2)
                  have K17 := Lib.hid (K15.out.below C2)
                  have H17 := Lib.hid (HI15.out.below C2)
                  clear HI15 K15 B15 HMk
                  obtain ⟨_, g0, g1, g2, g3, g4, g5, g6, p0, p1, p2, p3, p4⟩ := K17.out.cells
                  rcases hcs with ⟨hdk, hto⟩ | hno
                  rotate_left
                  · go_wp2_with fail
                    refine (HEn.out hno _).mono ?_
                    rintro _ w18 ⟨rfl, h18⟩
                    have B18 := Lib.hid (below_step B17.out h18)
                    clear h18
                    clear g0 g1 g2 g3 g4 g5 g6 p0 p1 p2 p3 p4
                    go_wp2
                    go_ret
                    exact ⟨rfl, B18.out⟩
                  · have HPk2 := Lib.hid (HPk.out hdk)
                    have HW := Lib.hid (HWr.out HPk2.out)
                    have HPgl := Lib.hid (show (pageL C K d (Tg.bytes ⟨tk, ts, tq, te⟩)).length = N by rw [pageL_length HPk2.out, HN.out])
                    have HPgb := Lib.hid (pageL_lt HPk2.out)
                    have hEn := fun w' h => HEn2.out hdk hto w' h
                    clear hdk hto
                    generalize pageL C K d (Tg.bytes ⟨tk, ts, tq, te⟩) = RAW at *
                    have HF2n := Lib.hid (show (flips RAW ps).length = N by rw [flips_length, HPgl.out])
                    have HF2b := Lib.hid (flips_lt RAW ps HPgb.out)
                    go_wp2_with fail
                    refine (hEn _ (HD.out.below B17.out)).mono ?_
                    intro _ w18 hM
                    obtain ⟨A18, c18, rfl, R18, _, hc18, D18⟩ := hM.at_ HPgl.out
                    have B18 := Lib.hid (below_step B17.out D18.out)
                    have K18 := Lib.hid (K17.out.below D18.out)
                    have H18 := Lib.hid (H17.out.below D18.out)
                    clear g0 g1 g2 g3 g4 g5 g6 p0 p1 p2 p3 p4
                    clear hM hEn D18 B17 K17 H17 HEn HEn2
                    obtain ⟨_, g0, g1, g2, g3, g4, g5, g6, p0, p1, p2, p3, p4⟩ := K18.out.cells
                    have hlt2 : w.heap.size < w18.heap.size := by have := K18.out.cells.1; omega
                    obtain ⟨⟨vd, ⟨vk, vz, vq, ve⟩, vs, vr⟩, hv, hvs⟩ := HW.out
                    simp only at hvs
                    have HV := Lib.hid hv
                    clear hv HW
                    obtain ⟨vn, HVn⟩ : ∃ vn, Hid (vd.length = vn) := ⟨_, rfl⟩
                    go_wp2
                    refine wp_region_noPanic ?_
                    refine wp_region_held_drew (S := fun w' => Below w18.heap.size w18 w') (by kernel_rfl) ((Below.refl _ _).drew) (fun C0 => ?_)
                    refine wpAnyH_take (i := 0) (oi := { dst := some 91, op := Op.load 23 (Operand.tmp 3), type := 23, pos := "law.go:130", after := #[], guard := none }) (v := ?_) rfl (by kernel_rfl) (by kernel_rfl) (by kernel_rfl) (fun _ _ _ h => h) (Or.inl ⟨by rfl, ?_⟩) C0 ?_
                    rotate_left
                    · intro W' hSw
                      have c0 := (hSw.cell (p := ⟨w.heap.size, 0, none⟩) hlt2).trans g0
                      have c1 := (hSw.cell (p := ⟨w.heap.size, 1, none⟩) hlt2).trans g1
                      have c2 := (hSw.cell (p := ⟨w.heap.size, 2, none⟩) hlt2).trans g2
                      have c3 := (hSw.cell (p := ⟨w.heap.size, 3, none⟩) hlt2).trans g3
                      have c4 := (hSw.cell (p := ⟨w.heap.size, 4, none⟩) hlt2).trans g4
                      have c5 := (hSw.cell (p := ⟨w.heap.size, 5, none⟩) hlt2).trans g5
                      have c6 := (hSw.cell (p := ⟨w.heap.size, 6, none⟩) hlt2).trans g6
                      clear hSw
                      go_simp <;> with_reducible rfl
                    try simp only [Act.put, List.setIfInBounds_toArray, List.set_cons_zero, List.set_cons_succ]
                    refine wpAnyH_take (i := 1) (oi := { dst := some 92, op := Op.move (Operand.tmp 14), type := 24, pos := "law.go:130", after := #[], guard := none }) (v := ?_) rfl (by kernel_rfl) (by kernel_rfl) (by kernel_rfl) (fun _ _ _ h => h) (Or.inl ⟨by rfl, ?_⟩) C0 ?_
                    rotate_left
                    · intro W' hSw
                      clear hSw
                      go_simp <;> with_reducible rfl
                    try simp only [Act.put, List.setIfInBounds_toArray, List.set_cons_zero, List.set_cons_succ]
                    refine wpAnyH_take (i := 2) (oi := { dst := some 93, op := Op.move (Operand.tmp 7), type := 54, pos := "law.go:130", after := #[], guard := none }) (v := ?_) rfl (by kernel_rfl) (by kernel_rfl) (by kernel_rfl) (fun _ _ _ h => h) (Or.inl ⟨by rfl, ?_⟩) C0 ?_
                    rotate_left
                    · intro W' hSw
                      clear hSw
                      go_simp <;> with_reducible rfl
                    try simp only [Act.put, List.setIfInBounds_toArray, List.set_cons_zero, List.set_cons_succ]
                    clear g0 g1 g2 g3 g4 g5 g6 p0 p1 p2 p3 p4
                    refine wpAnyH_ready (rs := [3]) (by kernel_rfl) (by simp) ?_
                    refine AllReadyH.cons (o := { dst := some 94, op := Op.call { callee := Callee.value (Operand.func 23), args := #[Operand.tmp 92, Operand.tmp 93], argTypes := #[24, 54] }, type := 24, pos := "law.go:130", after := #[{ on := 1, ground := Ground.data }, { on := 2, ground := Ground.data }], guard := none }) rfl (fun K hK => ?_) AllReadyH.nil
                    go_simp
                    refine (Flip_any _ _ N _ j _ RAW ps _ (R18.out.below C0) (H18.out.below C0) (by omega) (by omega)).mono ?_
                    intro _ w19 hM
                    obtain ⟨A19, c19, rfl, O19, D19⟩ := hM.at_ HF2n.out
                    have R19 := Lib.hid (R8.own O19.out HF2b.out)
                    have hc19 := own_cap O19.out
                    have hB := D19.out
                    clear hM O19
                    go_wp2_with fail
                    refine hK.out _ _ (C0.trans (hB.mono C0.size)) (fun C1 => ?_)
                    clear hK K hB
                    try simp only [Act.put, List.setIfInBounds_toArray, List.set_cons_zero, List.set_cons_succ]
                    refine wpAnyH_ready (rs := [4]) (by kernel_rfl) (by simp) ?_
                    refine AllReadyH.cons (o := { dst := some 95, op := Op.call { callee := Callee.value (Operand.func 18), args := #[Operand.tmp 91, Operand.tmp 94], argTypes := #[23, 24] }, type := 39, pos := "law.go:130", after := #[{ on := 0, ground := Ground.data }, { on := 3, ground := Ground.data }, { on := 3, ground := Ground.chain }], guard := none }) rfl (fun K hK => ?_) AllReadyH.nil
                    go_simp
                    refine (hDe _ _ hc19 (flips RAW ps) _ R19.out).mono ?_
                    intro _ w20 hM
                    rw [HV.out] at hM
                    obtain ⟨A20, c20, rfl, R20, D20⟩ := hM.tag vn HVn.out vk vz vq ve rfl
                    have hB := D20.out
                    clear hM
                    go_wp2_with fail
                    refine hK.out _ _ (C1.trans (hB.mono C1.size)) (fun C2 => ?_)
                    clear hK K hB
                    try simp only [Act.put, List.setIfInBounds_toArray, List.set_cons_zero, List.set_cons_succ]
                    refine wpAnyH_take (i := 5) (oi := { dst := some 90, op := Op.move (Operand.tmp 95), type := 39, pos := "law.go:130", after := #[{ on := 4, ground := Ground.data }], guard := none }) (v := ?_) rfl (by kernel_rfl) (by kernel_rfl) (by kernel_rfl) (fun _ _ _ h => h) (Or.inl ⟨by rfl, ?_⟩) C2 ?_
                    rotate_left
                    · intro W' hSw
                      clear hSw
                      go_simp <;> with_reducible rfl
                    try simp only [Act.put, List.setIfInBounds_toArray, List.set_cons_zero, List.set_cons_succ]
                    refine wpAnyH_take (i := 6) (oi := { dst := some 96, op := Op.extract (Operand.tmp 90) 0, type := 24, pos := "law.go:130", after := #[{ on := 5, ground := Ground.data }], guard := none }) (v := ?_) rfl (by kernel_rfl) (by kernel_rfl) (by kernel_rfl) (fun _ _ _ h => h) (Or.inl ⟨by rfl, ?_⟩) C2 ?_
                    rotate_left
                    · intro W' hSw
                      clear hSw
                      go_simp <;> with_reducible rfl
                    try simp only [Act.put, List.setIfInBounds_toArray, List.set_cons_zero, List.set_cons_succ]
                    refine wpAnyH_take (i := 7) (oi := { dst := some 97, op := Op.extract (Operand.tmp 90) 1, type := 26, pos := "law.go:130", after := #[{ on := 5, ground := Ground.data }], guard := none }) (v := ?_) rfl (by kernel_rfl) (by kernel_rfl) (by kernel_rfl) (fun _ _ _ h => h) (Or.inl ⟨by rfl, ?_⟩) C2 ?_
                    rotate_left
                    · intro W' hSw
                      clear hSw
                      go_simp <;> with_reducible rfl
                    try simp only [Act.put, List.setIfInBounds_toArray, List.set_cons_zero, List.set_cons_succ]
                    refine wpAnyH_take (i := 8) (oi := { dst := some 98, op := Op.extract (Operand.tmp 90) 2, type := 3, pos := "law.go:130", after := #[{ on := 5, ground := Ground.data }], guard := none }) (v := ?_) rfl (by kernel_rfl) (by kernel_rfl) (by kernel_rfl) (fun _ _ _ h => h) (Or.inl ⟨by rfl, ?_⟩) C2 ?_
                    rotate_left
                    · intro W' hSw
                      clear hSw
                      go_simp <;> with_reducible rfl
                    try simp only [Act.put, List.setIfInBounds_toArray, List.set_cons_zero, List.set_cons_succ]
                    refine wpAnyH_take (i := 9) (oi := { dst := some 99, op := Op.extract (Operand.tmp 90) 3, type := 29, pos := "law.go:130", after := #[{ on := 5, ground := Ground.data }, { on := 10, ground := Ground.gcOnly Departure.lateStores }], guard := none }) (v := ?_) rfl (by kernel_rfl) (by kernel_rfl) (by kernel_rfl) (fun _ _ _ h => h) (Or.inl ⟨by rfl, ?_⟩) C2 ?_
                    rotate_left
                    · intro W' hSw
                      clear hSw
                      go_simp <;> with_reducible rfl
                    try simp only [Act.put, List.setIfInBounds_toArray, List.set_cons_zero, List.set_cons_succ]
                    refine wpAnyH_take (i := 10) (oi := { dst := some 12, op := Op.assign (Operand.tmp 98), type := 3, pos := "law.go:130", after := #[{ on := 8, ground := Ground.data }, { on := 4, ground := Ground.chain }, { on := 0, ground := Ground.phase }, { on := 1, ground := Ground.phase }, { on := 2, ground := Ground.phase }, { on := 3, ground := Ground.phase }, { on := 4, ground := Ground.phase }, { on := 5, ground := Ground.phase }, { on := 6, ground := Ground.phase }, { on := 7, ground := Ground.phase }, { on := 8, ground := Ground.phase }, { on := 9, ground := Ground.textOnly Departure.lateStores }], guard := none }) (v := ?_) rfl (by kernel_rfl) (by kernel_rfl) (by kernel_rfl) (fun _ _ _ h => h) (Or.inl ⟨by rfl, ?_⟩) C2 ?_
                    rotate_left
                    · intro W' hSw
                      clear hSw
                      go_simp <;> with_reducible rfl
                    try simp only [Act.put, List.setIfInBounds_toArray, List.set_cons_zero, List.set_cons_succ]
                    refine wpAnyH_done (by kernel_rfl) ?_ _
                    refine NoPanic.normal ?_
                    have B20 := Lib.hid (below_step B18.out C2)
                    have hs2 : ((vs : Int) != 2) = true := by simp; omega
                    go_wp2
                    go_ret
                    exact ⟨rfl, B20.out⟩
              · go_simp
                refine hK.out _ _ (C0.alloc C0.size _) (fun C1 => ?_)
                clear hK K
                try simp only [Act.put, List.setIfInBounds_toArray, List.set_cons_zero, List.set_cons_succ]
                have TA : Hid (CRow (wr.drew.alloc (.cells #[.int .i64 0, .int .i64 0, .int .i64 0, .int .i64 0] 26)) wr.heap.size 26 #[.int .i64 0, .int .i64 0, .int .i64 0, .int .i64 0]) := Lib.hid (CRow.new wr.drew #[.int .i64 0, .int .i64 0, .int .i64 0, .int .i64 0] 26)
                refine wpAnyH_ready (rs := [2]) (by kernel_rfl) (by simp) ?_
                refine AllReadyH.cons (o := { dst := some 56, op := Op.call { callee := Callee.value (Operand.func 11), args := #[Operand.tmp 55], argTypes := #[23] }, type := 24, pos := "law.go:122", after := #[{ on := 1, ground := Ground.data }], guard := none }) rfl (fun K hK => ?_) AllReadyH.nil
                go_simp
                refine (hEr _).mono ?_
                intro _ w12 hM
                obtain ⟨A12, c12, rfl, R12, hc12, D12⟩ := hM.at_ (n := N) (by simp)
                have hB := D12.out
                clear hM
                go_wp2_with fail
                refine hK.out _ _ (C1.trans (hB.mono C1.size)) (fun C2 => ?_)
                clear hK K hB
                try simp only [Act.put, List.setIfInBounds_toArray, List.set_cons_zero, List.set_cons_succ]
                refine wpAnyH_ready (rs := [4]) (by kernel_rfl) (by simp) ?_
                refine AllReadyH.cons (o := { dst := some 58, op := Op.call { callee := Callee.value (Operand.func 23), args := #[Operand.tmp 56, Operand.tmp 57], argTypes := #[24, 54] }, type := 24, pos := "law.go:122", after := #[{ on := 2, ground := Ground.data }, { on := 3, ground := Ground.data }, { on := 2, ground := Ground.chain }], guard := none }) rfl (fun K hK => ?_) AllReadyH.nil
                go_simp
                refine (Flip_any _ _ N _ j _ (List.replicate N 255) ps _ R12.out (HI.out.below C2) (by omega) (by omega)).mono ?_
                intro _ w13 hM
                obtain ⟨A13, c13, rfl, O13, D13⟩ := hM.at_ HFLn.out
                have R13 := Lib.hid (R8.own O13.out HFLb.out)
                have hc13 := own_cap O13.out
                have hB := D13.out
                clear hM O13
                go_wp2_with fail
                refine hK.out _ _ (C2.trans (hB.mono C2.size)) (fun C3 => ?_)
                clear hK K hB
                try simp only [Act.put, List.setIfInBounds_toArray, List.set_cons_zero, List.set_cons_succ]
                refine wpAnyH_ready (rs := [5]) (by kernel_rfl) (by simp) ?_
                refine AllReadyH.cons (o := { dst := some 59, op := Op.call { callee := Callee.value (Operand.func 18), args := #[Operand.tmp 54, Operand.tmp 58], argTypes := #[23, 24] }, type := 39, pos := "law.go:122", after := #[{ on := 0, ground := Ground.data }, { on := 4, ground := Ground.data }, { on := 4, ground := Ground.chain }], guard := none }) rfl (fun K hK => ?_) AllReadyH.nil
                go_simp
                refine (hDe _ _ hc13 (flips (List.replicate N 255) ps) _ R13.out).mono ?_
                intro _ w14 hM
                rw [HDE.out] at hM
                obtain ⟨A14, c14, rfl, R14, D14⟩ := hM.tag 0 rfl 0 0 0 0 rfl
                have hB := D14.out
                clear hM
                go_wp2_with fail
                refine hK.out _ _ (C3.trans (hB.mono C3.size)) (fun C4 => ?_)
                clear hK K hB
                try simp only [Act.put, List.setIfInBounds_toArray, List.set_cons_zero, List.set_cons_succ]
                refine wpAnyH_take (i := 6) (oi := { dst := some 53, op := Op.move (Operand.tmp 59), type := 39, pos := "law.go:122", after := #[{ on := 5, ground := Ground.data }], guard := none }) (v := ?_) rfl (by kernel_rfl) (by kernel_rfl) (by kernel_rfl) (fun _ _ _ h => h) (Or.inl ⟨by rfl, ?_⟩) C4 ?_
                rotate_left
                · intro W' hSw
                  clear hSw
                  go_simp <;> with_reducible rfl
                try simp only [Act.put, List.setIfInBounds_toArray, List.set_cons_zero, List.set_cons_succ]
                refine wpAnyH_take (i := 7) (oi := { dst := some 60, op := Op.extract (Operand.tmp 53) 0, type := 24, pos := "law.go:122", after := #[{ on := 6, ground := Ground.data }], guard := none }) (v := ?_) rfl (by kernel_rfl) (by kernel_rfl) (by kernel_rfl) (fun _ _ _ h => h) (Or.inl ⟨by rfl, ?_⟩) C4 ?_
                rotate_left
                · intro W' hSw
                  clear hSw
                  go_simp <;> with_reducible rfl
                try simp only [Act.put, List.setIfInBounds_toArray, List.set_cons_zero, List.set_cons_succ]
                refine wpAnyH_take (i := 8) (oi := { dst := some 61, op := Op.extract (Operand.tmp 53) 1, type := 26, pos := "law.go:122", after := #[{ on := 6, ground := Ground.data }, { on := 12, ground := Ground.gcOnly Departure.lateStores }], guard := none }) (v := ?_) rfl (by kernel_rfl) (by kernel_rfl) (by kernel_rfl) (fun _ _ _ h => h) (Or.inl ⟨by rfl, ?_⟩) C4 ?_
                rotate_left
                · intro W' hSw
                  clear hSw
                  go_simp <;> with_reducible rfl
                try simp only [Act.put, List.setIfInBounds_toArray, List.set_cons_zero, List.set_cons_succ]
                refine wpAnyH_take (i := 9) (oi := { dst := some 62, op := Op.extract (Operand.tmp 53) 2, type := 3, pos := "law.go:122", after := #[{ on := 6, ground := Ground.data }, { on := 13, ground := Ground.gcOnly Departure.lateStores }], guard := none }) (v := ?_) rfl (by kernel_rfl) (by kernel_rfl) (by kernel_rfl) (fun _ _ _ h => h) (Or.inl ⟨by rfl, ?_⟩) C4 ?_
                rotate_left
                · intro W' hSw
                  clear hSw
                  go_simp <;> with_reducible rfl
                try simp only [Act.put, List.setIfInBounds_toArray, List.set_cons_zero, List.set_cons_succ]
                refine wpAnyH_take (i := 10) (oi := { dst := some 63, op := Op.extract (Operand.tmp 53) 3, type := 29, pos := "law.go:122", after := #[{ on := 6, ground := Ground.data }, { on := 14, ground := Ground.gcOnly Departure.lateStores }], guard := none }) (v := ?_) rfl (by kernel_rfl) (by kernel_rfl) (by kernel_rfl) (fun _ _ _ h => h) (Or.inl ⟨by rfl, ?_⟩) C4 ?_
                rotate_left
                · intro W' hSw
                  clear hSw
                  go_simp <;> with_reducible rfl
                try simp only [Act.put, List.setIfInBounds_toArray, List.set_cons_zero, List.set_cons_succ]
                refine wpAnyH_take (i := 12) (oi := { dst := some 10, op := Op.assign (Operand.tmp 60), type := 24, pos := "law.go:122", after := #[{ on := 7, ground := Ground.data }, { on := 5, ground := Ground.chain }, { on := 0, ground := Ground.phase }, { on := 1, ground := Ground.phase }, { on := 2, ground := Ground.phase }, { on := 3, ground := Ground.phase }, { on := 4, ground := Ground.phase }, { on := 5, ground := Ground.phase }, { on := 6, ground := Ground.phase }, { on := 7, ground := Ground.phase }, { on := 8, ground := Ground.textOnly Departure.lateStores }, { on := 9, ground := Ground.textOnly Departure.lateStores }, { on := 10, ground := Ground.textOnly Departure.lateStores }, { on := 11, ground := Ground.phase }], guard := none }) (v := ?_) rfl (by kernel_rfl) (by kernel_rfl) (by kernel_rfl) (fun _ _ _ h => h) (Or.inl ⟨by rfl, ?_⟩) C4 ?_
                rotate_left
                · intro W' hSw
                  clear hSw
                  go_simp <;> with_reducible rfl
                try simp only [Act.put, List.setIfInBounds_toArray, List.set_cons_zero, List.set_cons_succ]
                refine wpAnyH_ready (rs := [13]) (by kernel_rfl) (by simp) ?_
                refine AllReadyH.cons (o := { dst := none, op := Op.store 26 (Operand.tmp 11) (Operand.tmp 61), type := 0, pos := "law.go:122", after := #[{ on := 11, ground := Ground.data }, { on := 8, ground := Ground.data }, { on := 12, ground := Ground.chain }, { on := 0, ground := Ground.phase }, { on := 1, ground := Ground.phase }, { on := 2, ground := Ground.phase }, { on := 3, ground := Ground.phase }, { on := 4, ground := Ground.phase }, { on := 5, ground := Ground.phase }, { on := 6, ground := Ground.phase }, { on := 7, ground := Ground.phase }, { on := 8, ground := Ground.phase }, { on := 9, ground := Ground.textOnly Departure.lateStores }, { on := 10, ground := Ground.textOnly Departure.lateStores }, { on := 11, ground := Ground.phase }, { on := 12, ground := Ground.phase }], guard := none }) rfl (fun K hK => ?_) AllReadyH.nil
                rw [if_pos (by rfl)]
                refine wp_store_row 26 _ _ rfl wr.heap.size #[.int .i64 0, .int .i64 0, .int .i64 0, .int .i64 0] (by simp [Act.eval]) rfl 26 _ (((TA.out.below D12.out).below D13.out).below D14.out) size_tag (by simp) (by simp [Value.oneCell']) ?_
                refine hK.out _ _ (below_setRow C4 (by omega) _) (fun C5 => ?_)
                clear hK K
                try simp only [Act.put]
                generalize World.setRow w14 wr.heap.size #[.int .i64 0, .int .i64 0, .int .i64 0, .int .i64 0] = w15 at *
                refine wpAnyH_take (i := 14) (oi := { dst := some 12, op := Op.assign (Operand.tmp 62), type := 3, pos := "law.go:122", after := #[{ on := 9, ground := Ground.data }, { on := 13, ground := Ground.chain }, { on := 0, ground := Ground.phase }, { on := 1, ground := Ground.phase }, { on := 2, ground := Ground.phase }, { on := 3, ground := Ground.phase }, { on := 4, ground := Ground.phase }, { on := 5, ground := Ground.phase }, { on := 6, ground := Ground.phase }, { on := 7, ground := Ground.phase }, { on := 8, ground := Ground.phase }, { on := 9, ground := Ground.phase }, { on := 10, ground := Ground.textOnly Departure.lateStores }, { on := 11, ground := Ground.phase }, { on := 12, ground := Ground.phase }, { on := 13, ground := Ground.phase }], guard := none }) (v := ?_) rfl (by kernel_rfl) (by kernel_rfl) (by kernel_rfl) (fun _ _ _ h => h) (Or.inl ⟨by rfl, ?_⟩) C5 ?_
                rotate_left
                · intro W' hSw
                  clear hSw
                  go_simp <;> with_reducible rfl
                try simp only [Act.put, List.setIfInBounds_toArray, List.set_cons_zero, List.set_cons_succ]
                refine wpAnyH_take (i := 15) (oi := { dst := some 13, op := Op.assign (Operand.tmp 63), type := 29, pos := "law.go:122", after := #[{ on := 10, ground := Ground.data }, { on := 14, ground := Ground.chain }, { on := 0, ground := Ground.phase }, { on := 1, ground := Ground.phase }, { on := 2, ground := Ground.phase }, { on := 3, ground := Ground.phase }, { on := 4, ground := Ground.phase }, { on := 5, ground := Ground.phase }, { on := 6, ground := Ground.phase }, { on := 7, ground := Ground.phase }, { on := 8, ground := Ground.phase }, { on := 9, ground := Ground.phase }, { on := 10, ground := Ground.phase }, { on := 11, ground := Ground.phase }, { on := 12, ground := Ground.phase }, { on := 13, ground := Ground.phase }, { on := 14, ground := Ground.phase }], guard := none }) (v := ?_) rfl (by kernel_rfl) (by kernel_rfl) (by kernel_rfl) (fun _ _ _ h => h) (Or.inl ⟨by rfl, ?_⟩) C5 ?_
                rotate_left
                · intro W' hSw
                  clear hSw
                  go_simp <;> with_reducible rfl
                try simp only [Act.put, List.setIfInBounds_toArray, List.set_cons_zero, List.set_cons_succ]
                refine wpAnyH_done (by kernel_rfl) ?_ _
                refine NoPanic.normal ?_
                have B15 := Lib.hid (below_step BR.out C5)
                have K15 := Lib.hid (KR.out.below C5)
                have HI15 := Lib.hid (HI.out.below C5)
                clear BR KR HI TA
                have hlt1 : w.heap.size < w15.heap.size := by have := K15.out.cells.1; omega
                obtain ⟨_, g0, g1, g2, g3, g4, g5, g6, p0, p1, p2, p3, p4⟩ := K15.out.cells
                go_wp2
                refine wp_region_noPanic ?_
                refine wp_region_held_drew (S := fun w' => Below w15.heap.size w15 w') (by kernel_rfl) ((Below.refl _ _).drew) (fun C0 => ?_)
                refine wpAnyH_take (i := 0) (oi := { dst := some 64, op := Op.move (Operand.tmp 13), type := 29, pos := "law.go:123", after := #[], guard := none }) (v := ?_) rfl (by kernel_rfl) (by kernel_rfl) (by kernel_rfl) (fun _ _ _ h => h) (Or.inl ⟨by rfl, ?_⟩) C0 ?_
                rotate_left
                · intro W' hSw
                  clear hSw
                  go_simp <;> with_reducible rfl
                try simp only [Act.put, List.setIfInBounds_toArray, List.set_cons_zero, List.set_cons_succ]
                refine wpAnyH_take (i := 1) (oi := { dst := some 65, op := Op.binOp BinOp.neq 29 (Operand.tmp 64) (Operand.const (Value.int IntKind.i64 0)) 29, type := 4, pos := "law.go:123", after := #[{ on := 0, ground := Ground.data }], guard := none }) (v := ?_) rfl (by kernel_rfl) (by kernel_rfl) (by kernel_rfl) (fun _ _ _ h => h) (Or.inl ⟨by rfl, ?_⟩) C0 ?_
                rotate_left
                · intro W' hSw
                  clear hSw
                  go_simp <;> with_reducible rfl
                try simp only [Act.put, List.setIfInBounds_toArray, List.set_cons_zero, List.set_cons_succ]
                refine wpAnyH_take (i := 2) (oi := { dst := some 66, op := Op.move (Operand.tmp 65), type := 4, pos := "law.go:123", after := #[{ on := 1, ground := Ground.data }], guard := none }) (v := ?_) rfl (by kernel_rfl) (by kernel_rfl) (by kernel_rfl) (fun _ _ _ h => h) (Or.inl ⟨by rfl, ?_⟩) C0 ?_
                rotate_left
                · intro W' hSw
                  clear hSw
                  go_simp <;> with_reducible rfl
                try simp only [Act.put, List.setIfInBounds_toArray, List.set_cons_zero, List.set_cons_succ]
                refine wpAnyH_take (i := 3) (oi := { dst := some 67, op := Op.move (Operand.tmp 12), type := 3, pos := "law.go:123", after := #[{ on := 2, ground := Ground.guard }], guard := some (2, false) }) (v := ?_) rfl (by kernel_rfl) (by kernel_rfl) (by kernel_rfl) (fun _ _ _ h => h) (Or.inl ⟨by rfl, ?_⟩) C0 ?_
                rotate_left
                · intro W' hSw
                  clear hSw
                  go_simp <;> with_reducible rfl
                try simp only [Act.put, List.setIfInBounds_toArray, List.set_cons_zero, List.set_cons_succ]
                refine wpAnyH_take (i := 4) (oi := { dst := some 68, op := Op.binOp BinOp.neq 3 (Operand.tmp 67) (Operand.const (Value.int IntKind.i64 2)) 3, type := 4, pos := "law.go:123", after := #[{ on := 3, ground := Ground.data }, { on := 2, ground := Ground.guard }], guard := some (2, false) }) (v := ?_) rfl (by kernel_rfl) (by kernel_rfl) (by kernel_rfl) (fun _ _ _ h => h) (Or.inl ⟨by rfl, ?_⟩) C0 ?_
                rotate_left
                · intro W' hSw
                  clear hSw
                  go_simp <;> with_reducible rfl
                try simp only [Act.put, List.setIfInBounds_toArray, List.set_cons_zero, List.set_cons_succ]
                refine wpAnyH_take (i := 5) (oi := { dst := some 69, op := Op.pick (Operand.tmp 66) (Operand.const (Value.bool true)) (Operand.tmp 68), type := 4, pos := "law.go:123", after := #[{ on := 2, ground := Ground.data }, { on := 4, ground := Ground.data }], guard := none }) (v := ?_) rfl (by kernel_rfl) (by kernel_rfl) (by kernel_rfl) (fun _ _ _ h => h) (Or.inl ⟨by rfl, ?_⟩) C0 ?_
                rotate_left
                · intro W' hSw
                  clear hSw
                  go_simp <;> with_reducible rfl
                try simp only [Act.put, List.setIfInBounds_toArray, List.set_cons_zero, List.set_cons_succ]
                refine wpAnyH_take (i := 6) (oi := { dst := some 70, op := Op.move (Operand.tmp 69), type := 4, pos := "law.go:123", after := #[{ on := 5, ground := Ground.data }, { on := 2, ground := Ground.chain }], guard := none }) (v := ?_) rfl (by kernel_rfl) (by kernel_rfl) (by kernel_rfl) (fun _ _ _ h => h) (Or.inl ⟨by rfl, ?_⟩) C0 ?_
                rotate_left
                · intro W' hSw
                  clear hSw
                  go_simp <;> with_reducible rfl
                try simp only [Act.put, List.setIfInBounds_toArray, List.set_cons_zero, List.set_cons_succ]
                refine wpAnyH_take (i := 7) (oi := { dst := some 71, op := Op.load 23 (Operand.tmp 3), type := 23, pos := "law.go:123", after := #[{ on := 6, ground := Ground.guard }], guard := some (6, false) }) (v := ?_) rfl (by kernel_rfl) (by kernel_rfl) (by kernel_rfl) (fun _ _ _ h => h) (Or.inl ⟨by rfl, ?_⟩) C0 ?_
                rotate_left
                · intro W' hSw
                  have c0 := (hSw.cell (p := ⟨w.heap.size, 0, none⟩) hlt1).trans g0
                  have c1 := (hSw.cell (p := ⟨w.heap.size, 1, none⟩) hlt1).trans g1
                  have c2 := (hSw.cell (p := ⟨w.heap.size, 2, none⟩) hlt1).trans g2
                  have c3 := (hSw.cell (p := ⟨w.heap.size, 3, none⟩) hlt1).trans g3
                  have c4 := (hSw.cell (p := ⟨w.heap.size, 4, none⟩) hlt1).trans g4
                  have c5 := (hSw.cell (p := ⟨w.heap.size, 5, none⟩) hlt1).trans g5
                  have c6 := (hSw.cell (p := ⟨w.heap.size, 6, none⟩) hlt1).trans g6
                  clear hSw
                  go_simp <;> with_reducible rfl
                try simp only [Act.put, List.setIfInBounds_toArray, List.set_cons_zero, List.set_cons_succ]
                refine wpAnyH_take (i := 8) (oi := { dst := some 72, op := Op.load 23 (Operand.tmp 3), type := 23, pos := "law.go:123", after := #[{ on := 6, ground := Ground.guard }], guard := some (6, false) }) (v := ?_) rfl (by kernel_rfl) (by kernel_rfl) (by kernel_rfl) (fun _ _ _ h => h) (Or.inl ⟨by rfl, ?_⟩) C0 ?_
                rotate_left
                · intro W' hSw
                  have c0 := (hSw.cell (p := ⟨w.heap.size, 0, none⟩) hlt1).trans g0
                  have c1 := (hSw.cell (p := ⟨w.heap.size, 1, none⟩) hlt1).trans g1
                  have c2 := (hSw.cell (p := ⟨w.heap.size, 2, none⟩) hlt1).trans g2
                  have c3 := (hSw.cell (p := ⟨w.heap.size, 3, none⟩) hlt1).trans g3
                  have c4 := (hSw.cell (p := ⟨w.heap.size, 4, none⟩) hlt1).trans g4
                  have c5 := (hSw.cell (p := ⟨w.heap.size, 5, none⟩) hlt1).trans g5
                  have c6 := (hSw.cell (p := ⟨w.heap.size, 6, none⟩) hlt1).trans g6
                  clear hSw
                  go_simp <;> with_reducible rfl
                try simp only [Act.put, List.setIfInBounds_toArray, List.set_cons_zero, List.set_cons_succ]
                clear g0 g1 g2 g3 g4 g5 g6 p0 p1 p2 p3 p4
                refine wpAnyH_ready (rs := [9]) (by kernel_rfl) (by simp) ?_
                refine AllReadyH.cons (o := { dst := some 73, op := Op.call { callee := Callee.value (Operand.func 11), args := #[Operand.tmp 72], argTypes := #[23] }, type := 24, pos := "law.go:123", after := #[{ on := 8, ground := Ground.data }, { on := 6, ground := Ground.chain }, { on := 6, ground := Ground.guard }], guard := some (6, false) }) rfl (fun K hK => ?_) AllReadyH.nil
                go_simp
                refine (hEr _).mono ?_
                intro _ w16 hM
                obtain ⟨A16, c16, rfl, R16, hc16, D16⟩ := hM.at_ (n := N) (by simp)
                have hB := D16.out
                clear hM
                go_wp2_with fail
                refine hK.out _ _ (C0.trans (hB.mono C0.size)) (fun C1 => ?_)
                clear hK K hB
                try simp only [Act.put, List.setIfInBounds_toArray, List.set_cons_zero, List.set_cons_succ]
                refine wpAnyH_ready (rs := [10]) (by kernel_rfl) (by simp) ?_
                refine AllReadyH.cons (o := { dst := some 74, op := Op.call { callee := Callee.value (Operand.func 20), args := #[Operand.tmp 71, Operand.tmp 73], argTypes := #[23, 24] }, type := 4, pos := "law.go:123", after := #[{ on := 7, ground := Ground.data }, { on := 9, ground := Ground.data }, { on := 9, ground := Ground.chain }, { on := 6, ground := Ground.guard }], guard := some (6, false) }) rfl (fun K hK => ?_) AllReadyH.nil
                go_simp
                refine (HMa.out _ N _ hc16 (List.replicate N 255) _ R16.out).mono ?_
                rw [HMk.out]
                rintro _ w17 ⟨rfl, hB⟩
                go_wp2_with fail
                refine hK.out _ _ (C1.trans (hB.mono C1.size)) (fun C2 => ?_)
                clear hK K hB
                try simp only [Act.put, List.setIfInBounds_toArray, List.set_cons_zero, List.set_cons_succ]
                refine wpAnyH_take (i := 11) (oi := { dst := some 75, op := Op.pick (Operand.tmp 70) (Operand.const (Value.bool true)) (Operand.tmp 74), type := 4, pos := "law.go:123", after := #[{ on := 6, ground := Ground.data }, { on := 10, ground := Ground.data }], guard := none }) (v := ?_) rfl (by kernel_rfl) (by kernel_rfl) (by kernel_rfl) (fun _ _ _ h => h) (Or.inl ⟨by rfl, ?_⟩) C2 ?_
                rotate_left
                · intro W' hSw
                  clear hSw
                  go_simp <;> with_reducible rfl
                try simp only [Act.put, List.setIfInBounds_toArray, List.set_cons_zero, List.set_cons_succ]
                refine wpAnyH_done (by kernel_rfl) ?_ _
                refine NoPanic.normal ?_
                have B17 := Lib.hid (below_step B15.out C2)
                have K17 := Lib.hid (K15.out.below C2)
                have H17 := Lib.hid (HI15.out.below C2)
                clear HI15 K15 B15 HMk
                obtain ⟨_, g0, g1, g2, g3, g4, g5, g6, p0, p1, p2, p3, p4⟩ := K17.out.cells
                rcases hcs with ⟨hdk, hto⟩ | hno
                rotate_left
                · go_wp2_with fail
                  refine (HEn.out hno _).mono ?_
                  rintro _ w18 ⟨rfl, h18⟩
                  have B18 := Lib.hid (below_step B17.out h18)
                  clear h18
                  clear g0 g1 g2 g3 g4 g5 g6 p0 p1 p2 p3 p4
                  go_wp2
                  go_ret
                  exact ⟨rfl, B18.out⟩
                · have HPk2 := Lib.hid (HPk.out hdk)
                  have HW := Lib.hid (HWr.out HPk2.out)
                  have HPgl := Lib.hid (show (pageL C K d (Tg.bytes ⟨tk, ts, tq, te⟩)).length = N by rw [pageL_length HPk2.out, HN.out])
                  have HPgb := Lib.hid (pageL_lt HPk2.out)
                  have hEn := fun w' h => HEn2.out hdk hto w' h
                  clear hdk hto
                  generalize pageL C K d (Tg.bytes ⟨tk, ts, tq, te⟩) = RAW at *
                  have HF2n := Lib.hid (show (flips RAW ps).length = N by rw [flips_length, HPgl.out])
                  have HF2b := Lib.hid (flips_lt RAW ps HPgb.out)
                  go_wp2_with fail
                  refine (hEn _ (HD.out.below B17.out)).mono ?_
                  intro _ w18 hM
                  obtain ⟨A18, c18, rfl, R18, _, hc18, D18⟩ := hM.at_ HPgl.out
                  have B18 := Lib.hid (below_step B17.out D18.out)
                  have K18 := Lib.hid (K17.out.below D18.out)
                  have H18 := Lib.hid (H17.out.below D18.out)
                  clear g0 g1 g2 g3 g4 g5 g6 p0 p1 p2 p3 p4
                  clear hM hEn D18 B17 K17 H17 HEn HEn2
                  obtain ⟨_, g0, g1, g2, g3, g4, g5, g6, p0, p1, p2, p3, p4⟩ := K18.out.cells
                  have hlt2 : w.heap.size < w18.heap.size := by have := K18.out.cells.1; omega
                  obtain ⟨⟨vd, ⟨vk, vz, vq, ve⟩, vs, vr⟩, hv, hvs⟩ := HW.out
                  simp only at hvs
                  have HV := Lib.hid hv
                  clear hv HW
                  obtain ⟨vn, HVn⟩ : ∃ vn, Hid (vd.length = vn) := ⟨_, rfl⟩
                  go_wp2
                  refine wp_region_noPanic ?_
                  refine wp_region_held_drew (S := fun w' => Below w18.heap.size w18 w') (by kernel_rfl) ((Below.refl _ _).drew) (fun C0 => ?_)
                  refine wpAnyH_take (i := 0) (oi := { dst := some 91, op := Op.load 23 (Operand.tmp 3), type := 23, pos := "law.go:130", after := #[], guard := none }) (v := ?_) rfl (by kernel_rfl) (by kernel_rfl) (by kernel_rfl) (fun _ _ _ h => h) (Or.inl ⟨by rfl, ?_⟩) C0 ?_
                  rotate_left
                  · intro W' hSw
                    have c0 := (hSw.cell (p := ⟨w.heap.size, 0, none⟩) hlt2).trans g0
                    have c1 := (hSw.cell (p := ⟨w.heap.size, 1, none⟩) hlt2).trans g1
                    have c2 := (hSw.cell (p := ⟨w.heap.size, 2, none⟩) hlt2).trans g2
                    have c3 := (hSw.cell (p := ⟨w.heap.size, 3, none⟩) hlt2).trans g3
                    have c4 := (hSw.cell (p := ⟨w.heap.size, 4, none⟩) hlt2).trans g4
                    have c5 := (hSw.cell (p := ⟨w.heap.size, 5, none⟩) hlt2).trans g5
                    have c6 := (hSw.cell (p := ⟨w.heap.size, 6, none⟩) hlt2).trans g6
                    clear hSw
                    go_simp <;> with_reducible rfl
                  try simp only [Act.put, List.setIfInBounds_toArray, List.set_cons_zero, List.set_cons_succ]
                  refine wpAnyH_take (i := 1) (oi := { dst := some 92, op := Op.move (Operand.tmp 14), type := 24, pos := "law.go:130", after := #[], guard := none }) (v := ?_) rfl (by kernel_rfl) (by kernel_rfl) (by kernel_rfl) (fun _ _ _ h => h) (Or.inl ⟨by rfl, ?_⟩) C0 ?_
                  rotate_left
                  · intro W' hSw
                    clear hSw
                    go_simp <;> with_reducible rfl
                  try simp only [Act.put, List.setIfInBounds_toArray, List.set_cons_zero, List.set_cons_succ]
                  refine wpAnyH_take (i := 2) (oi := { dst := some 93, op := Op.move (Operand.tmp 7), type := 54, pos := "law.go:130", after := #[], guard := none }) (v := ?_) rfl (by kernel_rfl) (by kernel_rfl) (by kernel_rfl) (fun _ _ _ h => h) (Or.inl ⟨by rfl, ?_⟩) C0 ?_
                  rotate_left
                  · intro W' hSw
                    clear hSw
                    go_simp <;> with_reducible rfl
                  try simp only [Act.put, List.setIfInBounds_toArray, List.set_cons_zero, List.set_cons_succ]
                  clear g0 g1 g2 g3 g4 g5 g6 p0 p1 p2 p3 p4
                  refine wpAnyH_ready (rs := [3]) (by kernel_rfl) (by simp) ?_
                  refine AllReadyH.cons (o := { dst := some 94, op := Op.call { callee := Callee.value (Operand.func 23), args := #[Operand.tmp 92, Operand.tmp 93], argTypes := #[24, 54] }, type := 24, pos := "law.go:130", after := #[{ on := 1, ground := Ground.data }, { on := 2, ground := Ground.data }], guard := none }) rfl (fun K hK => ?_) AllReadyH.nil
                  go_simp
                  refine (Flip_any _ _ N _ j _ RAW ps _ (R18.out.below C0) (H18.out.below C0) (by omega) (by omega)).mono ?_
                  intro _ w19 hM
                  obtain ⟨A19, c19, rfl, O19, D19⟩ := hM.at_ HF2n.out
                  have R19 := Lib.hid (R8.own O19.out HF2b.out)
                  have hc19 := own_cap O19.out
                  have hB := D19.out
                  clear hM O19
                  go_wp2_with fail
                  refine hK.out _ _ (C0.trans (hB.mono C0.size)) (fun C1 => ?_)
                  clear hK K hB
                  try simp only [Act.put, List.setIfInBounds_toArray, List.set_cons_zero, List.set_cons_succ]
                  refine wpAnyH_ready (rs := [4]) (by kernel_rfl) (by simp) ?_
                  refine AllReadyH.cons (o := { dst := some 95, op := Op.call { callee := Callee.value (Operand.func 18), args := #[Operand.tmp 91, Operand.tmp 94], argTypes := #[23, 24] }, type := 39, pos := "law.go:130", after := #[{ on := 0, ground := Ground.data }, { on := 3, ground := Ground.data }, { on := 3, ground := Ground.chain }], guard := none }) rfl (fun K hK => ?_) AllReadyH.nil
                  go_simp
                  refine (hDe _ _ hc19 (flips RAW ps) _ R19.out).mono ?_
                  intro _ w20 hM
                  rw [HV.out] at hM
                  obtain ⟨A20, c20, rfl, R20, D20⟩ := hM.tag vn HVn.out vk vz vq ve rfl
                  have hB := D20.out
                  clear hM
                  go_wp2_with fail
                  refine hK.out _ _ (C1.trans (hB.mono C1.size)) (fun C2 => ?_)
                  clear hK K hB
                  try simp only [Act.put, List.setIfInBounds_toArray, List.set_cons_zero, List.set_cons_succ]
                  refine wpAnyH_take (i := 5) (oi := { dst := some 90, op := Op.move (Operand.tmp 95), type := 39, pos := "law.go:130", after := #[{ on := 4, ground := Ground.data }], guard := none }) (v := ?_) rfl (by kernel_rfl) (by kernel_rfl) (by kernel_rfl) (fun _ _ _ h => h) (Or.inl ⟨by rfl, ?_⟩) C2 ?_
                  rotate_left
                  · intro W' hSw
                    clear hSw
                    go_simp <;> with_reducible rfl
                  try simp only [Act.put, List.setIfInBounds_toArray, List.set_cons_zero, List.set_cons_succ]
                  refine wpAnyH_take (i := 6) (oi := { dst := some 96, op := Op.extract (Operand.tmp 90) 0, type := 24, pos := "law.go:130", after := #[{ on := 5, ground := Ground.data }], guard := none }) (v := ?_) rfl (by kernel_rfl) (by kernel_rfl) (by kernel_rfl) (fun _ _ _ h => h) (Or.inl ⟨by rfl, ?_⟩) C2 ?_
                  rotate_left
                  · intro W' hSw
                    clear hSw
                    go_simp <;> with_reducible rfl
                  try simp only [Act.put, List.setIfInBounds_toArray, List.set_cons_zero, List.set_cons_succ]
                  refine wpAnyH_take (i := 7) (oi := { dst := some 97, op := Op.extract (Operand.tmp 90) 1, type := 26, pos := "law.go:130", after := #[{ on := 5, ground := Ground.data }], guard := none }) (v := ?_) rfl (by kernel_rfl) (by kernel_rfl) (by kernel_rfl) (fun _ _ _ h => h) (Or.inl ⟨by rfl, ?_⟩) C2 ?_
                  rotate_left
                  · intro W' hSw
                    clear hSw
                    go_simp <;> with_reducible rfl
                  try simp only [Act.put, List.setIfInBounds_toArray, List.set_cons_zero, List.set_cons_succ]
                  refine wpAnyH_take (i := 8) (oi := { dst := some 98, op := Op.extract (Operand.tmp 90) 2, type := 3, pos := "law.go:130", after := #[{ on := 5, ground := Ground.data }], guard := none }) (v := ?_) rfl (by kernel_rfl) (by kernel_rfl) (by kernel_rfl) (fun _ _ _ h => h) (Or.inl ⟨by rfl, ?_⟩) C2 ?_
                  rotate_left
                  · intro W' hSw
                    clear hSw
                    go_simp <;> with_reducible rfl
                  try simp only [Act.put, List.setIfInBounds_toArray, List.set_cons_zero, List.set_cons_succ]
                  refine wpAnyH_take (i := 9) (oi := { dst := some 99, op := Op.extract (Operand.tmp 90) 3, type := 29, pos := "law.go:130", after := #[{ on := 5, ground := Ground.data }, { on := 10, ground := Ground.gcOnly Departure.lateStores }], guard := none }) (v := ?_) rfl (by kernel_rfl) (by kernel_rfl) (by kernel_rfl) (fun _ _ _ h => h) (Or.inl ⟨by rfl, ?_⟩) C2 ?_
                  rotate_left
                  · intro W' hSw
                    clear hSw
                    go_simp <;> with_reducible rfl
                  try simp only [Act.put, List.setIfInBounds_toArray, List.set_cons_zero, List.set_cons_succ]
                  refine wpAnyH_take (i := 10) (oi := { dst := some 12, op := Op.assign (Operand.tmp 98), type := 3, pos := "law.go:130", after := #[{ on := 8, ground := Ground.data }, { on := 4, ground := Ground.chain }, { on := 0, ground := Ground.phase }, { on := 1, ground := Ground.phase }, { on := 2, ground := Ground.phase }, { on := 3, ground := Ground.phase }, { on := 4, ground := Ground.phase }, { on := 5, ground := Ground.phase }, { on := 6, ground := Ground.phase }, { on := 7, ground := Ground.phase }, { on := 8, ground := Ground.phase }, { on := 9, ground := Ground.textOnly Departure.lateStores }], guard := none }) (v := ?_) rfl (by kernel_rfl) (by kernel_rfl) (by kernel_rfl) (fun _ _ _ h => h) (Or.inl ⟨by rfl, ?_⟩) C2 ?_
                  rotate_left
                  · intro W' hSw
                    clear hSw
                    go_simp <;> with_reducible rfl
                  try simp only [Act.put, List.setIfInBounds_toArray, List.set_cons_zero, List.set_cons_succ]
                  refine wpAnyH_done (by kernel_rfl) ?_ _
                  refine NoPanic.normal ?_
                  have B20 := Lib.hid (below_step B18.out C2)
                  have hs2 : ((vs : Int) != 2) = true := by simp; omega
                  go_wp2
                  go_ret
                  exact ⟨rfl, B20.out⟩
end Go.Proofs.Ytjahbpmkkfdimaa
