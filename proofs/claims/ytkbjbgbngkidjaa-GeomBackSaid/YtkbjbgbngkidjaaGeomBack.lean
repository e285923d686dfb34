/-
  The walk of the law GeomBack over the landed code, out of its callees' contracts.
-/
import Derived.Test.YtkbjbgbngkidjaaGeomD
import Derived.Test.YtkbjbgbngkidjaaGeomTells0
namespace Go.Proofs.Ytkbjbgbngkidjaa
open Go.RowKit

theorem Number_adr (n : Int) (A : Option Addr) (c : Nat) (w : World) (hr : R8 w A 2 (adr n)) (h0 : 0 ≤ n) (h1 : n < 65536) :
    Calls Try.prog 16 #[.slice A 2 c] w (Quiet (.tuple #[.int .i64 n, .bool true]) w) := by
  have h := Number_yes A c _ _ w hr
  have e : (((n % 256).toNat + 256 * (n / 256 % 256).toNat : Nat) : Int) = n := by omega
  rwa [e] at h
theorem back_facts {g : Gm} (ho : g.ok = true) (n : Nat) : ∃ K u v : Int, (n : Int) % (g.b * g.s) = K ∧ g.hasRow K ∧ K / g.s = u ∧ K % g.s = v ∧ g.hasPage u v ∧ u * g.s + v = K ∧ 0 ≤ K ∧ K ≤ 16384 ∧ 0 ≤ u ∧ u < g.b ∧ 0 ≤ v ∧ v < 64 := by
  have hb := Gm.bounds_of ho
  have hm : 0 ≤ g.b * g.s ∧ g.b * g.s ≤ 256 * 64 := mul_le (by omega) (by omega) (by omega) (by omega)
  have hm0 : 0 < g.b * g.s := Int.mul_pos (by omega) (by omega)
  have h0 := Int.emod_nonneg (n : Int) (show g.b * g.s ≠ 0 by omega)
  have h1 := Int.emod_lt_of_pos (n : Int) hm0
  refine ⟨_, _, _, rfl, ⟨ho, h0, h1⟩, rfl, rfl, ?_⟩
  generalize (n : Int) % (g.b * g.s) = K at *
  have h2 := Int.emod_nonneg K (show g.s ≠ 0 by omega)
  have h3 := Int.emod_lt_of_pos K (show 0 < g.s by omega)
  have h4 : 0 ≤ K / g.s := Int.ediv_nonneg h0 (by omega)
  have h5 : K / g.s < g.b := Int.ediv_lt_of_lt_mul (by omega) h1
  have e := quo_mul K g.s
  refine ⟨⟨ho, ⟨h4, h5⟩, h2, h3⟩, by omega, h0, by omega, h4, h5, h2, by omega⟩
theorem next_plane {g : Gm} (ho : g.ok = true) (u : Int) : (u + 1) % g.b % g.p = (u % g.p + 1) % g.p := by
  have h := (Gm.ok_yes ho).2.1
  rw [Int.emod_emod_of_dvd _ (Int.dvd_of_emod_eq_zero h)]
  simp
theorem lower_upper (v : Int) (h : 0 ≤ v) : lowerI (upperI v) = lowerI v := by
  unfold lowerI upperI
  split <;> split <;> omega

set_option maxRecDepth 100000 in
set_option maxHeartbeats 1000000 in
theorem GeomBack_no (g : Gm) (n : Nat) (w : World) (ho : g.ok = false) :
    Calls Try.prog 5 #[g.val, .int .u16 (n : Int)] w (Gives (.bool true) w) := by
  have HO := Lib.hid ho
  have HR := Lib.hid (show g.raw = 0 by simp [Gm.raw, ho])
  clear ho
  obtain ⟨p, b, s, c, k, r, q⟩ := g
  simp only [Gm.val]
  go_enter Try.func5, Try.ntmps5
  go_wp2_with fail
  refine (awake4_any _).mono ?_
  rintro e w1 ⟨rfl, h1⟩
  have G1 := Lib.hid ((GBox.new w ⟨p, b, s, c, k, r, q⟩ 23).below h1)
  have B1 := Lib.hid (below_step (below_alloc w _) h1)
  clear h1
  obtain ⟨_, g0, g1, g2, g3, g4, g5, g6⟩ := G1.out
  go_wp2_with fail
  refine (Check_no ⟨p, b, s, c, k, r, q⟩ HO.out _).mono ?_
  rintro e w2 ⟨rfl, h1⟩
  clear g0 g1 g2 g3 g4 g5 g6
  have G2 := Lib.hid (G1.out.below h1)
  have B2 := Lib.hid (below_step B1.out h1)
  clear h1
  obtain ⟨_, g0, g1, g2, g3, g4, g5, g6⟩ := G2.out
  go_wp2_with fail
  refine (Raw_is ⟨p, b, s, c, k, r, q⟩ 0 HR.out _).mono ?_
  rintro e w3 ⟨rfl, h1⟩
  have B3 := Lib.hid (below_step B2.out h1)
  clear h1
  go_wp2
  go_ret
  exact ⟨rfl, B3.out⟩

set_option maxRecDepth 100000 in
set_option maxHeartbeats 4000000 in
theorem GeomBack_yes (g : Gm) (n : Nat) (w : World) (hn : n < 65536) (ho : g.ok = true) :
    Calls Try.prog 5 #[g.val, .int .u16 (n : Int)] w (Gives (.bool true) w) := by
  have HO := Lib.hid ho
  have hb := Gm.bounds_of ho
  obtain ⟨rr, hr⟩ : ∃ rr, g.raw = rr := ⟨_, rfl⟩
  obtain ⟨dd, hd⟩ : ∃ dd, g.data = dd := ⟨_, rfl⟩
  have hlt : (0 ≤ dd ∧ dd < rr) ∧ rr < 65536 := by
    have h1 : 0 ≤ g.c * g.k ∧ g.c * g.k ≤ 16 * 512 := mul_le (by omega) (by omega) (by omega) (by omega)
    simp only [Gm.raw, Gm.data, ho, if_true, Int.mul_add] at hr hd
    omega
  obtain ⟨K, u, v, hK, hro, hu, hv, hpg, hback, b1, b2, b3, b4, b5, b6⟩ := back_facts ho n
  have HK := Lib.hid hK
  have HRo := Lib.hid hro
  have HU := Lib.hid hu
  have HV := Lib.hid hv
  have HPg := Lib.hid hpg
  have HBk := Lib.hid hback
  have HR := Lib.hid hr
  have HD := Lib.hid hd
  obtain ⟨P, hP⟩ : ∃ P, u % g.p = P := ⟨_, rfl⟩
  obtain ⟨u2, hu2⟩ : ∃ u2, (u + 1) % g.b = u2 := ⟨_, rfl⟩
  obtain ⟨Q, hQ⟩ : ∃ Q, (P + 1) % g.p = Q := ⟨_, rfl⟩
  have HP := Lib.hid hP
  have HU2 := Lib.hid hu2
  have HQ := Lib.hid hQ
  have HQ2 := Lib.hid (show u2 % g.p = Q by rw [← hu2, ← hQ, ← hP]; exact next_plane ho u)
  have hP1 : 0 ≤ P ∧ P < 4 := by
    have h1 := Int.emod_nonneg u (show g.p ≠ 0 by omega)
    have h2 := Int.emod_lt_of_pos u (show 0 < g.p by omega)
    omega
  have hu3 : 0 ≤ u2 ∧ u2 < g.b := by
    rw [← hu2]
    exact ⟨Int.emod_nonneg _ (by omega), Int.emod_lt_of_pos _ (by omega)⟩
  have HPl := Lib.hid (show g.hasBlock u from ⟨ho, b3, b4⟩)
  have HPl2 := Lib.hid (show g.hasBlock u2 from ⟨ho, hu3⟩)
  obtain ⟨lw, hlw⟩ : ∃ lw, lowerI v = lw := ⟨_, rfl⟩
  obtain ⟨up, hup⟩ : ∃ up, upperI v = up := ⟨_, rfl⟩
  have HLw := Lib.hid hlw
  have HUp := Lib.hid hup
  have HLU := Lib.hid (show lowerI up = lw by rw [← hup, ← hlw]; exact lower_upper v b5)
  have hup2 : up ≤ 100 := by rw [← hup]; unfold upperI; split <;> omega
  have HTb := Lib.hid (show (u + 1).tmod g.b = u2 by rw [Int.tmod_eq_emod_of_nonneg (by omega)]; exact hu2)
  have HTp := Lib.hid (show (P + 1).tmod g.p = Q by rw [Int.tmod_eq_emod_of_nonneg (by omega)]; exact hQ)
  have HWu := Lib.hid (show IntKind.i64.wrap (u + 1) = u + 1 by simp [IntKind.wrap, IntKind.bits, IntKind.signed]; omega)
  have HWp := Lib.hid (show IntKind.i64.wrap (P + 1) = P + 1 by simp [IntKind.wrap, IntKind.bits, IntKind.signed]; omega)
  clear ho hr hd hK hro hu hv hpg hback hP hu2 hQ hlw hup
  obtain ⟨p, b, s, c, k, r, q⟩ := g
  simp only at *
  have hm2 : 0 ≤ b * s ∧ b * s ≤ 256 * 64 := mul_le (by omega) (by omega) (by omega) (by omega)
  have hm0 : 0 < b * s := Int.mul_pos (by omega) (by omega)
  have hb0 : b ≠ 0 := by omega
  have hp0 : p ≠ 0 := by omega
  simp only [Gm.val]
  go_enter Try.func5, Try.ntmps5
  go_wp2_with fail
  refine (awake4_any _).mono ?_
  rintro e w1 ⟨rfl, h1⟩
  have G1 := Lib.hid ((GBox.new w ⟨p, b, s, c, k, r, q⟩ 23).below h1)
  have B1 := Lib.hid (below_step (below_alloc w _) h1)
  clear h1
  obtain ⟨_, g0, g1, g2, g3, g4, g5, g6⟩ := G1.out
  go_wp2_with fail
  refine (Check_yes ⟨p, b, s, c, k, r, q⟩ HO.out _).mono ?_
  rintro e w2 ⟨rfl, h1⟩
  clear g0 g1 g2 g3 g4 g5 g6
  have G2 := Lib.hid (G1.out.below h1)
  have B2 := Lib.hid (below_step B1.out h1)
  clear h1
  obtain ⟨_, g0, g1, g2, g3, g4, g5, g6⟩ := G2.out
  go_wp2_with fail
  rw [HK.out]
  refine (Split_is ⟨p, b, s, c, k, r, q⟩ K u v HRo.out HU.out HV.out _).mono ?_
  rintro e w3 ⟨rfl, h1⟩
  clear g0 g1 g2 g3 g4 g5 g6
  have G3 := Lib.hid (G2.out.below h1)
  have B3 := Lib.hid (below_step B2.out h1)
  clear h1
  obtain ⟨_, g0, g1, g2, g3, g4, g5, g6⟩ := G3.out
  go_wp2_with fail
  refine (Row_is ⟨p, b, s, c, k, r, q⟩ u v K HPg.out HBk.out _).mono ?_
  rintro e w4 ⟨rfl, h1⟩
  clear g0 g1 g2 g3 g4 g5 g6
  have G4 := Lib.hid (G3.out.below h1)
  have B4 := Lib.hid (below_step B3.out h1)
  clear h1
  obtain ⟨_, g0, g1, g2, g3, g4, g5, g6⟩ := G4.out
  go_wp2_with fail
  refine (Address_any K _).mono ?_
  intro e w5 hq
  obtain ⟨A5, c5, rfl, H5, D5⟩ := hq.at_ (n := 2) rfl
  have h1 := D5.out
  clear hq D5
  clear g0 g1 g2 g3 g4 g5 g6
  have G5 := Lib.hid (G4.out.below h1)
  have B5 := Lib.hid (below_step B4.out h1)
  clear h1
  obtain ⟨_, g0, g1, g2, g3, g4, g5, g6⟩ := G5.out
  go_wp2_with fail
  refine (Number_adr K A5 c5 _ H5.out (by omega) (by omega)).mono ?_
  intro e w6 hq
  obtain ⟨rfl, D6⟩ := hq.at_
  have h1 := D6.out
  clear hq D6 H5
  clear g0 g1 g2 g3 g4 g5 g6
  have G6 := Lib.hid (G5.out.below h1)
  have B6 := Lib.hid (below_step B5.out h1)
  clear h1
  obtain ⟨_, g0, g1, g2, g3, g4, g5, g6⟩ := G6.out
  go_wp2_with fail
  refine (Raw_is ⟨p, b, s, c, k, r, q⟩ rr HR.out _).mono ?_
  rintro e w7 ⟨rfl, h1⟩
  clear g0 g1 g2 g3 g4 g5 g6
  have G7 := Lib.hid (G6.out.below h1)
  have B7 := Lib.hid (below_step B6.out h1)
  clear h1
  obtain ⟨_, g0, g1, g2, g3, g4, g5, g6⟩ := G7.out
  go_wp2_with fail
  refine (Address_any rr _).mono ?_
  intro e w8 hq
  obtain ⟨A8, c8, rfl, H8, D8⟩ := hq.at_ (n := 2) rfl
  have h1 := D8.out
  clear hq D8
  clear g0 g1 g2 g3 g4 g5 g6
  have G8 := Lib.hid (G7.out.below h1)
  have B8 := Lib.hid (below_step B7.out h1)
  clear h1
  obtain ⟨_, g0, g1, g2, g3, g4, g5, g6⟩ := G8.out
  go_wp2_with fail
  refine (Number_adr rr A8 c8 _ H8.out (by omega) (by omega)).mono ?_
  intro e w9 hq
  obtain ⟨rfl, D9⟩ := hq.at_
  have h1 := D9.out
  clear hq D9 H8
  clear g0 g1 g2 g3 g4 g5 g6
  have G9 := Lib.hid (G8.out.below h1)
  have B9 := Lib.hid (below_step B8.out h1)
  clear h1
  obtain ⟨_, g0, g1, g2, g3, g4, g5, g6⟩ := G9.out
  go_wp2_with fail
  refine (Plane_is ⟨p, b, s, c, k, r, q⟩ u P HPl.out HP.out _).mono ?_
  rintro e w10 ⟨rfl, h1⟩
  clear g0 g1 g2 g3 g4 g5 g6
  have G10 := Lib.hid (G9.out.below h1)
  have B10 := Lib.hid (below_step B9.out h1)
  clear h1
  obtain ⟨_, g0, g1, g2, g3, g4, g5, g6⟩ := G10.out
  clear g0 g1 g2 g3 g4 g5 g6
  go_wp2_with fail
  refine wp_region_noPanic ?_
  refine wp_region_held_drew (S := fun w' => Below w10.heap.size w10 w') (by kernel_rfl) ((Below.refl _ _).drew) (fun C0 => ?_)
  refine wpAnyH_take (i := 0) (oi := { dst := some 69, op := Op.load 23 (Operand.tmp 2), type := 23, pos := "law.go:78", after := #[], guard := none }) (v := ?_) rfl (by kernel_rfl) (by kernel_rfl) (by kernel_rfl) (fun _ _ _ h => h) (Or.inl ⟨by rfl, ?_⟩) C0 ?_
  rotate_left
  · intro W' hSw
    obtain ⟨_, q0, q1, q2, q3, q4, q5, q6⟩ := G10.out.below hSw
    clear hSw
    go_simp <;> with_reducible rfl
  try simp only [Act.put, List.setIfInBounds_toArray, List.set_cons_zero, List.set_cons_succ]
  refine wpAnyH_take (i := 1) (oi := { dst := some 70, op := Op.move (Operand.tmp 6), type := 3, pos := "law.go:78", after := #[], guard := none }) (v := ?_) rfl (by kernel_rfl) (by kernel_rfl) (by kernel_rfl) (fun _ _ _ h => h) (Or.inl ⟨by rfl, ?_⟩) C0 ?_
  rotate_left
  · intro W' hSw
    clear hSw
    go_simp <;> with_reducible rfl
  try simp only [Act.put, List.setIfInBounds_toArray, List.set_cons_zero, List.set_cons_succ]
  refine wpAnyH_take (i := 2) (oi := { dst := some 71, op := Op.binOp BinOp.add 3 (Operand.tmp 70) (Operand.const (Value.int IntKind.i64 1)) 3, type := 3, pos := "law.go:78", after := #[{ on := 1, ground := Ground.data }], guard := none }) (v := ?_) rfl (by kernel_rfl) (by kernel_rfl) (by kernel_rfl) (fun _ _ _ h => h) (Or.inl ⟨by rfl, ?_⟩) C0 ?_
  rotate_left
  · intro W' hSw
    clear hSw
    go_simp <;> with_reducible rfl
  try simp only [Act.put, List.setIfInBounds_toArray, List.set_cons_zero, List.set_cons_succ]
  try rw [HWu.out]
  refine wpAnyH_take (i := 3) (oi := { dst := some 72, op := Op.fieldAddr 23 (Operand.tmp 2) 1, type := 0, pos := "law.go:78", after := #[], guard := none }) (v := ?_) rfl (by kernel_rfl) (by kernel_rfl) (by kernel_rfl) (fun _ _ _ h => h) (Or.inl ⟨by rfl, ?_⟩) C0 ?_
  rotate_left
  · intro W' hSw
    clear hSw
    go_simp <;> with_reducible rfl
  try simp only [Act.put, List.setIfInBounds_toArray, List.set_cons_zero, List.set_cons_succ]
  refine wpAnyH_take (i := 4) (oi := { dst := some 73, op := Op.load 3 (Operand.tmp 72), type := 3, pos := "law.go:78", after := #[{ on := 3, ground := Ground.data }], guard := none }) (v := ?_) rfl (by kernel_rfl) (by kernel_rfl) (by kernel_rfl) (fun _ _ _ h => h) (Or.inl ⟨by rfl, ?_⟩) C0 ?_
  rotate_left
  · intro W' hSw
    obtain ⟨_, q0, q1, q2, q3, q4, q5, q6⟩ := G10.out.below hSw
    clear hSw
    go_simp <;> with_reducible rfl
  try simp only [Act.put, List.setIfInBounds_toArray, List.set_cons_zero, List.set_cons_succ]
  refine wpAnyH_take (i := 5) (oi := { dst := some 74, op := Op.binOp BinOp.rem 3 (Operand.tmp 71) (Operand.tmp 73) 3, type := 3, pos := "law.go:78", after := #[{ on := 2, ground := Ground.data }, { on := 4, ground := Ground.data }], guard := none }) (v := ?_) rfl (by kernel_rfl) (by kernel_rfl) (by kernel_rfl) (fun _ _ _ h => h) (Or.inl ⟨by rfl, ?_⟩) C0 ?_
  rotate_left
  · intro W' hSw
    clear hSw
    go_simp <;> with_reducible rfl
  try simp only [Act.put, List.setIfInBounds_toArray, List.set_cons_zero, List.set_cons_succ]
  try rw [HTb.out]
  refine wpAnyH_ready (rs := [6]) (by kernel_rfl) (by simp) ?_
  refine AllReadyH.cons (o := { dst := some 75, op := Op.call { callee := Callee.value (Operand.func 12), args := #[Operand.tmp 69, Operand.tmp 74], argTypes := #[23, 3] }, type := 29, pos := "law.go:78", after := #[{ on := 0, ground := Ground.data }, { on := 5, ground := Ground.data }], guard := none }) rfl (fun K hK => ?_) AllReadyH.nil
  go_simp
  refine (Plane_is ⟨p, b, s, c, k, r, q⟩ u2 Q HPl2.out HQ2.out _).mono ?_
  rintro e w11 ⟨rfl, hB⟩
  go_wp2_with fail
  refine hK.out _ _ (C0.trans (hB.mono C0.size)) (fun C1 => ?_)
  clear hK K hB
  try simp only [Act.put, List.setIfInBounds_toArray, List.set_cons_zero, List.set_cons_succ]
  refine wpAnyH_take (i := 7) (oi := { dst := some 68, op := Op.move (Operand.tmp 75), type := 29, pos := "law.go:78", after := #[{ on := 6, ground := Ground.data }], guard := none }) (v := ?_) rfl (by kernel_rfl) (by kernel_rfl) (by kernel_rfl) (fun _ _ _ h => h) (Or.inl ⟨by rfl, ?_⟩) C1 ?_
  rotate_left
  · intro W' hSw
    clear hSw
    go_simp <;> with_reducible rfl
  try simp only [Act.put, List.setIfInBounds_toArray, List.set_cons_zero, List.set_cons_succ]
  refine wpAnyH_take (i := 8) (oi := { dst := some 76, op := Op.extract (Operand.tmp 68) 0, type := 3, pos := "law.go:78", after := #[{ on := 7, ground := Ground.data }], guard := none }) (v := ?_) rfl (by kernel_rfl) (by kernel_rfl) (by kernel_rfl) (fun _ _ _ h => h) (Or.inl ⟨by rfl, ?_⟩) C1 ?_
  rotate_left
  · intro W' hSw
    clear hSw
    go_simp <;> with_reducible rfl
  try simp only [Act.put, List.setIfInBounds_toArray, List.set_cons_zero, List.set_cons_succ]
  refine wpAnyH_take (i := 9) (oi := { dst := some 77, op := Op.extract (Operand.tmp 68) 1, type := 4, pos := "law.go:78", after := #[{ on := 7, ground := Ground.data }, { on := 10, ground := Ground.gcOnly Departure.lateStores }], guard := none }) (v := ?_) rfl (by kernel_rfl) (by kernel_rfl) (by kernel_rfl) (fun _ _ _ h => h) (Or.inl ⟨by rfl, ?_⟩) C1 ?_
  rotate_left
  · intro W' hSw
    clear hSw
    go_simp <;> with_reducible rfl
  try simp only [Act.put, List.setIfInBounds_toArray, List.set_cons_zero, List.set_cons_succ]
  refine wpAnyH_take (i := 10) (oi := { dst := some 17, op := Op.assign (Operand.tmp 76), type := 3, pos := "law.go:78", after := #[{ on := 8, ground := Ground.data }, { on := 6, ground := Ground.chain }, { on := 0, ground := Ground.phase }, { on := 1, ground := Ground.phase }, { on := 2, ground := Ground.phase }, { on := 3, ground := Ground.phase }, { on := 4, ground := Ground.phase }, { on := 5, ground := Ground.phase }, { on := 6, ground := Ground.phase }, { on := 7, ground := Ground.phase }, { on := 8, ground := Ground.phase }, { on := 9, ground := Ground.textOnly Departure.lateStores }], guard := none }) (v := ?_) rfl (by kernel_rfl) (by kernel_rfl) (by kernel_rfl) (fun _ _ _ h => h) (Or.inl ⟨by rfl, ?_⟩) C1 ?_
  rotate_left
  · intro W' hSw
    clear hSw
    go_simp <;> with_reducible rfl
  try simp only [Act.put, List.setIfInBounds_toArray, List.set_cons_zero, List.set_cons_succ]
  refine wpAnyH_take (i := 11) (oi := { dst := some 18, op := Op.assign (Operand.tmp 77), type := 4, pos := "law.go:78", after := #[{ on := 9, ground := Ground.data }, { on := 10, ground := Ground.chain }, { on := 0, ground := Ground.phase }, { on := 1, ground := Ground.phase }, { on := 2, ground := Ground.phase }, { on := 3, ground := Ground.phase }, { on := 4, ground := Ground.phase }, { on := 5, ground := Ground.phase }, { on := 6, ground := Ground.phase }, { on := 7, ground := Ground.phase }, { on := 8, ground := Ground.phase }, { on := 9, ground := Ground.phase }, { on := 10, ground := Ground.phase }], guard := none }) (v := ?_) rfl (by kernel_rfl) (by kernel_rfl) (by kernel_rfl) (fun _ _ _ h => h) (Or.inl ⟨by rfl, ?_⟩) C1 ?_
  rotate_left
  · intro W' hSw
    clear hSw
    go_simp <;> with_reducible rfl
  try simp only [Act.put, List.setIfInBounds_toArray, List.set_cons_zero, List.set_cons_succ]
  refine wpAnyH_done (by kernel_rfl) ?_ _
  refine NoPanic.normal ?_
  have G11 := Lib.hid (G10.out.below C1)
  have B11 := Lib.hid (below_step B10.out C1)
  clear C1
  go_wp2_with fail
  as_aux_lemma =>
    refine wp_region_noPanic ?_
    refine wp_region_held_drew (S := fun w' => Below w11.heap.size w11 w') (by kernel_rfl) ((Below.refl _ _).drew) (fun C0 => ?_)
    refine wpAnyH_take (i := 0) (oi := { dst := some 78, op := Op.move (Operand.tmp 8), type := 4, pos := "law.go:79", after := #[], guard := none }) (v := ?_) rfl (by kernel_rfl) (by kernel_rfl) (by kernel_rfl) (fun _ _ _ h => h) (Or.inl ⟨by rfl, ?_⟩) C0 ?_
    rotate_left
    · intro W' hSw
      clear hSw
      go_simp <;> with_reducible rfl
    try simp only [Act.put, List.setIfInBounds_toArray, List.set_cons_zero, List.set_cons_succ]
    refine wpAnyH_take (i := 1) (oi := { dst := some 79, op := Op.move (Operand.tmp 78), type := 4, pos := "law.go:79", after := #[{ on := 0, ground := Ground.data }], guard := none }) (v := ?_) rfl (by kernel_rfl) (by kernel_rfl) (by kernel_rfl) (fun _ _ _ h => h) (Or.inl ⟨by rfl, ?_⟩) C0 ?_
    rotate_left
    · intro W' hSw
      clear hSw
      go_simp <;> with_reducible rfl
    try simp only [Act.put, List.setIfInBounds_toArray, List.set_cons_zero, List.set_cons_succ]
    refine wpAnyH_take (i := 2) (oi := { dst := some 80, op := Op.move (Operand.tmp 10), type := 4, pos := "law.go:79", after := #[{ on := 1, ground := Ground.guard }], guard := some (1, true) }) (v := ?_) rfl (by kernel_rfl) (by kernel_rfl) (by kernel_rfl) (fun _ _ _ h => h) (Or.inl ⟨by rfl, ?_⟩) C0 ?_
    rotate_left
    · intro W' hSw
      clear hSw
      go_simp <;> with_reducible rfl
    try simp only [Act.put, List.setIfInBounds_toArray, List.set_cons_zero, List.set_cons_succ]
    refine wpAnyH_take (i := 3) (oi := { dst := some 81, op := Op.pick (Operand.tmp 79) (Operand.tmp 80) (Operand.const (Value.bool false)), type := 4, pos := "law.go:79", after := #[{ on := 1, ground := Ground.data }, { on := 2, ground := Ground.data }], guard := none }) (v := ?_) rfl (by kernel_rfl) (by kernel_rfl) (by kernel_rfl) (fun _ _ _ h => h) (Or.inl ⟨by rfl, ?_⟩) C0 ?_
    rotate_left
    · intro W' hSw
      clear hSw
      go_simp <;> with_reducible rfl
    try simp only [Act.put, List.setIfInBounds_toArray, List.set_cons_zero, List.set_cons_succ]
    refine wpAnyH_take (i := 4) (oi := { dst := some 82, op := Op.move (Operand.tmp 81), type := 4, pos := "law.go:79", after := #[{ on := 3, ground := Ground.data }, { on := 1, ground := Ground.chain }], guard := none }) (v := ?_) rfl (by kernel_rfl) (by kernel_rfl) (by kernel_rfl) (fun _ _ _ h => h) (Or.inl ⟨by rfl, ?_⟩) C0 ?_
    rotate_left
    · intro W' hSw
      clear hSw
      go_simp <;> with_reducible rfl
    try simp only [Act.put, List.setIfInBounds_toArray, List.set_cons_zero, List.set_cons_succ]
    refine wpAnyH_take (i := 5) (oi := { dst := some 83, op := Op.move (Operand.tmp 9), type := 3, pos := "law.go:79", after := #[{ on := 4, ground := Ground.guard }], guard := some (4, true) }) (v := ?_) rfl (by kernel_rfl) (by kernel_rfl) (by kernel_rfl) (fun _ _ _ h => h) (Or.inl ⟨by rfl, ?_⟩) C0 ?_
    rotate_left
    · intro W' hSw
      clear hSw
      go_simp <;> with_reducible rfl
    try simp only [Act.put, List.setIfInBounds_toArray, List.set_cons_zero, List.set_cons_succ]
    refine wpAnyH_take (i := 6) (oi := { dst := some 84, op := Op.move (Operand.tmp 5), type := 3, pos := "law.go:79", after := #[{ on := 4, ground := Ground.guard }], guard := some (4, true) }) (v := ?_) rfl (by kernel_rfl) (by kernel_rfl) (by kernel_rfl) (fun _ _ _ h => h) (Or.inl ⟨by rfl, ?_⟩) C0 ?_
    rotate_left
    · intro W' hSw
      clear hSw
      go_simp <;> with_reducible rfl
    try simp only [Act.put, List.setIfInBounds_toArray, List.set_cons_zero, List.set_cons_succ]
    refine wpAnyH_take (i := 7) (oi := { dst := some 85, op := Op.binOp BinOp.eql 3 (Operand.tmp 83) (Operand.tmp 84) 3, type := 4, pos := "law.go:79", after := #[{ on := 5, ground := Ground.data }, { on := 6, ground := Ground.data }, { on := 4, ground := Ground.guard }], guard := some (4, true) }) (v := ?_) rfl (by kernel_rfl) (by kernel_rfl) (by kernel_rfl) (fun _ _ _ h => h) (Or.inl ⟨by rfl, ?_⟩) C0 ?_
    rotate_left
    · intro W' hSw
      clear hSw
      go_simp <;> with_reducible rfl
    try simp only [Act.put, List.setIfInBounds_toArray, List.set_cons_zero, List.set_cons_succ]
    refine wpAnyH_take (i := 8) (oi := { dst := some 86, op := Op.pick (Operand.tmp 82) (Operand.tmp 85) (Operand.const (Value.bool false)), type := 4, pos := "law.go:79", after := #[{ on := 4, ground := Ground.data }, { on := 7, ground := Ground.data }], guard := none }) (v := ?_) rfl (by kernel_rfl) (by kernel_rfl) (by kernel_rfl) (fun _ _ _ h => h) (Or.inl ⟨by rfl, ?_⟩) C0 ?_
    rotate_left
    · intro W' hSw
      clear hSw
      go_simp <;> with_reducible rfl
    try simp only [Act.put, List.setIfInBounds_toArray, List.set_cons_zero, List.set_cons_succ]
    refine wpAnyH_take (i := 9) (oi := { dst := some 87, op := Op.move (Operand.tmp 86), type := 4, pos := "law.go:79", after := #[{ on := 8, ground := Ground.data }, { on := 4, ground := Ground.chain }], guard := none }) (v := ?_) rfl (by kernel_rfl) (by kernel_rfl) (by kernel_rfl) (fun _ _ _ h => h) (Or.inl ⟨by rfl, ?_⟩) C0 ?_
    rotate_left
    · intro W' hSw
      clear hSw
      go_simp <;> with_reducible rfl
    try simp only [Act.put, List.setIfInBounds_toArray, List.set_cons_zero, List.set_cons_succ]
    refine wpAnyH_take (i := 10) (oi := { dst := some 88, op := Op.move (Operand.tmp 12), type := 4, pos := "law.go:79", after := #[{ on := 9, ground := Ground.guard }], guard := some (9, true) }) (v := ?_) rfl (by kernel_rfl) (by kernel_rfl) (by kernel_rfl) (fun _ _ _ h => h) (Or.inl ⟨by rfl, ?_⟩) C0 ?_
    rotate_left
    · intro W' hSw
      clear hSw
      go_simp <;> with_reducible rfl
    try simp only [Act.put, List.setIfInBounds_toArray, List.set_cons_zero, List.set_cons_succ]
    refine wpAnyH_take (i := 11) (oi := { dst := some 89, op := Op.pick (Operand.tmp 87) (Operand.tmp 88) (Operand.const (Value.bool false)), type := 4, pos := "law.go:79", after := #[{ on := 9, ground := Ground.data }, { on := 10, ground := Ground.data }], guard := none }) (v := ?_) rfl (by kernel_rfl) (by kernel_rfl) (by kernel_rfl) (fun _ _ _ h => h) (Or.inl ⟨by rfl, ?_⟩) C0 ?_
    rotate_left
    · intro W' hSw
      clear hSw
      go_simp <;> with_reducible rfl
    try simp only [Act.put, List.setIfInBounds_toArray, List.set_cons_zero, List.set_cons_succ]
    refine wpAnyH_take (i := 12) (oi := { dst := some 90, op := Op.move (Operand.tmp 89), type := 4, pos := "law.go:79", after := #[{ on := 11, ground := Ground.data }, { on := 9, ground := Ground.chain }], guard := none }) (v := ?_) rfl (by kernel_rfl) (by kernel_rfl) (by kernel_rfl) (fun _ _ _ h => h) (Or.inl ⟨by rfl, ?_⟩) C0 ?_
    rotate_left
    · intro W' hSw
      clear hSw
      go_simp <;> with_reducible rfl
    try simp only [Act.put, List.setIfInBounds_toArray, List.set_cons_zero, List.set_cons_succ]
    refine wpAnyH_take (i := 13) (oi := { dst := some 91, op := Op.move (Operand.tmp 11), type := 3, pos := "law.go:79", after := #[{ on := 12, ground := Ground.guard }], guard := some (12, true) }) (v := ?_) rfl (by kernel_rfl) (by kernel_rfl) (by kernel_rfl) (fun _ _ _ h => h) (Or.inl ⟨by rfl, ?_⟩) C0 ?_
    rotate_left
    · intro W' hSw
      clear hSw
      go_simp <;> with_reducible rfl
    try simp only [Act.put, List.setIfInBounds_toArray, List.set_cons_zero, List.set_cons_succ]
    refine wpAnyH_take (i := 14) (oi := { dst := some 92, op := Op.move (Operand.tmp 5), type := 3, pos := "law.go:79", after := #[{ on := 12, ground := Ground.guard }], guard := some (12, true) }) (v := ?_) rfl (by kernel_rfl) (by kernel_rfl) (by kernel_rfl) (fun _ _ _ h => h) (Or.inl ⟨by rfl, ?_⟩) C0 ?_
    rotate_left
    · intro W' hSw
      clear hSw
      go_simp <;> with_reducible rfl
    try simp only [Act.put, List.setIfInBounds_toArray, List.set_cons_zero, List.set_cons_succ]
    refine wpAnyH_take (i := 15) (oi := { dst := some 93, op := Op.binOp BinOp.eql 3 (Operand.tmp 91) (Operand.tmp 92) 3, type := 4, pos := "law.go:79", after := #[{ on := 13, ground := Ground.data }, { on := 14, ground := Ground.data }, { on := 12, ground := Ground.guard }], guard := some (12, true) }) (v := ?_) rfl (by kernel_rfl) (by kernel_rfl) (by kernel_rfl) (fun _ _ _ h => h) (Or.inl ⟨by rfl, ?_⟩) C0 ?_
    rotate_left
    · intro W' hSw
      clear hSw
      go_simp <;> with_reducible rfl
    try simp only [Act.put, List.setIfInBounds_toArray, List.set_cons_zero, List.set_cons_succ]
    refine wpAnyH_take (i := 16) (oi := { dst := some 94, op := Op.pick (Operand.tmp 90) (Operand.tmp 93) (Operand.const (Value.bool false)), type := 4, pos := "law.go:79", after := #[{ on := 12, ground := Ground.data }, { on := 15, ground := Ground.data }], guard := none }) (v := ?_) rfl (by kernel_rfl) (by kernel_rfl) (by kernel_rfl) (fun _ _ _ h => h) (Or.inl ⟨by rfl, ?_⟩) C0 ?_
    rotate_left
    · intro W' hSw
      clear hSw
      go_simp <;> with_reducible rfl
    try simp only [Act.put, List.setIfInBounds_toArray, List.set_cons_zero, List.set_cons_succ]
    refine wpAnyH_take (i := 17) (oi := { dst := some 95, op := Op.move (Operand.tmp 94), type := 4, pos := "law.go:79", after := #[{ on := 16, ground := Ground.data }, { on := 12, ground := Ground.chain }], guard := none }) (v := ?_) rfl (by kernel_rfl) (by kernel_rfl) (by kernel_rfl) (fun _ _ _ h => h) (Or.inl ⟨by rfl, ?_⟩) C0 ?_
    rotate_left
    · intro W' hSw
      clear hSw
      go_simp <;> with_reducible rfl
    try simp only [Act.put, List.setIfInBounds_toArray, List.set_cons_zero, List.set_cons_succ]
    refine wpAnyH_take (i := 18) (oi := { dst := some 96, op := Op.move (Operand.tmp 14), type := 4, pos := "law.go:79", after := #[{ on := 17, ground := Ground.guard }], guard := some (17, true) }) (v := ?_) rfl (by kernel_rfl) (by kernel_rfl) (by kernel_rfl) (fun _ _ _ h => h) (Or.inl ⟨by rfl, ?_⟩) C0 ?_
    rotate_left
    · intro W' hSw
      clear hSw
      go_simp <;> with_reducible rfl
    try simp only [Act.put, List.setIfInBounds_toArray, List.set_cons_zero, List.set_cons_succ]
    refine wpAnyH_take (i := 19) (oi := { dst := some 97, op := Op.pick (Operand.tmp 95) (Operand.tmp 96) (Operand.const (Value.bool false)), type := 4, pos := "law.go:79", after := #[{ on := 17, ground := Ground.data }, { on := 18, ground := Ground.data }], guard := none }) (v := ?_) rfl (by kernel_rfl) (by kernel_rfl) (by kernel_rfl) (fun _ _ _ h => h) (Or.inl ⟨by rfl, ?_⟩) C0 ?_
    rotate_left
    · intro W' hSw
      clear hSw
      go_simp <;> with_reducible rfl
    try simp only [Act.put, List.setIfInBounds_toArray, List.set_cons_zero, List.set_cons_succ]
    refine wpAnyH_take (i := 20) (oi := { dst := some 98, op := Op.move (Operand.tmp 97), type := 4, pos := "law.go:79", after := #[{ on := 19, ground := Ground.data }, { on := 17, ground := Ground.chain }], guard := none }) (v := ?_) rfl (by kernel_rfl) (by kernel_rfl) (by kernel_rfl) (fun _ _ _ h => h) (Or.inl ⟨by rfl, ?_⟩) C0 ?_
    rotate_left
    · intro W' hSw
      clear hSw
      go_simp <;> with_reducible rfl
    try simp only [Act.put, List.setIfInBounds_toArray, List.set_cons_zero, List.set_cons_succ]
    refine wpAnyH_take (i := 21) (oi := { dst := some 99, op := Op.move (Operand.tmp 13), type := 3, pos := "law.go:79", after := #[{ on := 20, ground := Ground.guard }], guard := some (20, true) }) (v := ?_) rfl (by kernel_rfl) (by kernel_rfl) (by kernel_rfl) (fun _ _ _ h => h) (Or.inl ⟨by rfl, ?_⟩) C0 ?_
    rotate_left
    · intro W' hSw
      clear hSw
      go_simp <;> with_reducible rfl
    try simp only [Act.put, List.setIfInBounds_toArray, List.set_cons_zero, List.set_cons_succ]
    refine wpAnyH_take (i := 22) (oi := { dst := some 100, op := Op.load 23 (Operand.tmp 2), type := 23, pos := "law.go:79", after := #[{ on := 20, ground := Ground.guard }], guard := some (20, true) }) (v := ?_) rfl (by kernel_rfl) (by kernel_rfl) (by kernel_rfl) (fun _ _ _ h => h) (Or.inl ⟨by rfl, ?_⟩) C0 ?_
    rotate_left
    · intro W' hSw
      obtain ⟨_, q0, q1, q2, q3, q4, q5, q6⟩ := G11.out.below hSw
      clear hSw
      go_simp <;> with_reducible rfl
    try simp only [Act.put, List.setIfInBounds_toArray, List.set_cons_zero, List.set_cons_succ]
    refine wpAnyH_ready (rs := [23]) (by kernel_rfl) (by simp) ?_
    refine AllReadyH.cons (o := { dst := some 101, op := Op.call { callee := Callee.value (Operand.func 14), args := #[Operand.tmp 100], argTypes := #[23] }, type := 3, pos := "law.go:79", after := #[{ on := 22, ground := Ground.data }, { on := 20, ground := Ground.chain }, { on := 20, ground := Ground.guard }], guard := some (20, true) }) rfl (fun K hK => ?_) AllReadyH.nil
    go_simp
    refine (Raw_is ⟨p, b, s, c, k, r, q⟩ rr HR.out _).mono ?_
    rintro e w'' ⟨rfl, hB⟩
    go_wp2_with fail
    refine hK.out _ _ (C0.trans (hB.mono C0.size)) (fun C1 => ?_)
    clear hK K hB
    try simp only [Act.put, List.setIfInBounds_toArray, List.set_cons_zero, List.set_cons_succ]
    refine wpAnyH_take (i := 24) (oi := { dst := some 102, op := Op.binOp BinOp.eql 3 (Operand.tmp 99) (Operand.tmp 101) 3, type := 4, pos := "law.go:79", after := #[{ on := 21, ground := Ground.data }, { on := 23, ground := Ground.data }, { on := 20, ground := Ground.guard }], guard := some (20, true) }) (v := ?_) rfl (by kernel_rfl) (by kernel_rfl) (by kernel_rfl) (fun _ _ _ h => h) (Or.inl ⟨by rfl, ?_⟩) C1 ?_
    rotate_left
    · intro W' hSw
      clear hSw
      go_simp <;> with_reducible rfl
    try simp only [Act.put, List.setIfInBounds_toArray, List.set_cons_zero, List.set_cons_succ]
    refine wpAnyH_take (i := 25) (oi := { dst := some 103, op := Op.pick (Operand.tmp 98) (Operand.tmp 102) (Operand.const (Value.bool false)), type := 4, pos := "law.go:79", after := #[{ on := 20, ground := Ground.data }, { on := 24, ground := Ground.data }], guard := none }) (v := ?_) rfl (by kernel_rfl) (by kernel_rfl) (by kernel_rfl) (fun _ _ _ h => h) (Or.inl ⟨by rfl, ?_⟩) C1 ?_
    rotate_left
    · intro W' hSw
      clear hSw
      go_simp <;> with_reducible rfl
    try simp only [Act.put, List.setIfInBounds_toArray, List.set_cons_zero, List.set_cons_succ]
    refine wpAnyH_take (i := 26) (oi := { dst := some 104, op := Op.move (Operand.tmp 103), type := 4, pos := "law.go:79", after := #[{ on := 25, ground := Ground.data }, { on := 23, ground := Ground.chain }], guard := none }) (v := ?_) rfl (by kernel_rfl) (by kernel_rfl) (by kernel_rfl) (fun _ _ _ h => h) (Or.inl ⟨by rfl, ?_⟩) C1 ?_
    rotate_left
    · intro W' hSw
      clear hSw
      go_simp <;> with_reducible rfl
    try simp only [Act.put, List.setIfInBounds_toArray, List.set_cons_zero, List.set_cons_succ]
    refine wpAnyH_take (i := 27) (oi := { dst := some 105, op := Op.move (Operand.tmp 16), type := 4, pos := "law.go:79", after := #[{ on := 26, ground := Ground.guard }], guard := some (26, true) }) (v := ?_) rfl (by kernel_rfl) (by kernel_rfl) (by kernel_rfl) (fun _ _ _ h => h) (Or.inl ⟨by rfl, ?_⟩) C1 ?_
    rotate_left
    · intro W' hSw
      clear hSw
      go_simp <;> with_reducible rfl
    try simp only [Act.put, List.setIfInBounds_toArray, List.set_cons_zero, List.set_cons_succ]
    refine wpAnyH_take (i := 28) (oi := { dst := some 106, op := Op.pick (Operand.tmp 104) (Operand.tmp 105) (Operand.const (Value.bool false)), type := 4, pos := "law.go:79", after := #[{ on := 26, ground := Ground.data }, { on := 27, ground := Ground.data }], guard := none }) (v := ?_) rfl (by kernel_rfl) (by kernel_rfl) (by kernel_rfl) (fun _ _ _ h => h) (Or.inl ⟨by rfl, ?_⟩) C1 ?_
    rotate_left
    · intro W' hSw
      clear hSw
      go_simp <;> with_reducible rfl
    try simp only [Act.put, List.setIfInBounds_toArray, List.set_cons_zero, List.set_cons_succ]
    refine wpAnyH_take (i := 29) (oi := { dst := some 107, op := Op.move (Operand.tmp 106), type := 4, pos := "law.go:79", after := #[{ on := 28, ground := Ground.data }, { on := 26, ground := Ground.chain }], guard := none }) (v := ?_) rfl (by kernel_rfl) (by kernel_rfl) (by kernel_rfl) (fun _ _ _ h => h) (Or.inl ⟨by rfl, ?_⟩) C1 ?_
    rotate_left
    · intro W' hSw
      clear hSw
      go_simp <;> with_reducible rfl
    try simp only [Act.put, List.setIfInBounds_toArray, List.set_cons_zero, List.set_cons_succ]
    refine wpAnyH_take (i := 30) (oi := { dst := some 108, op := Op.move (Operand.tmp 18), type := 4, pos := "law.go:79", after := #[{ on := 29, ground := Ground.guard }], guard := some (29, true) }) (v := ?_) rfl (by kernel_rfl) (by kernel_rfl) (by kernel_rfl) (fun _ _ _ h => h) (Or.inl ⟨by rfl, ?_⟩) C1 ?_
    rotate_left
    · intro W' hSw
      clear hSw
      go_simp <;> with_reducible rfl
    try simp only [Act.put, List.setIfInBounds_toArray, List.set_cons_zero, List.set_cons_succ]
    refine wpAnyH_take (i := 31) (oi := { dst := some 109, op := Op.pick (Operand.tmp 107) (Operand.tmp 108) (Operand.const (Value.bool false)), type := 4, pos := "law.go:79", after := #[{ on := 29, ground := Ground.data }, { on := 30, ground := Ground.data }], guard := none }) (v := ?_) rfl (by kernel_rfl) (by kernel_rfl) (by kernel_rfl) (fun _ _ _ h => h) (Or.inl ⟨by rfl, ?_⟩) C1 ?_
    rotate_left
    · intro W' hSw
      clear hSw
      go_simp <;> with_reducible rfl
    try simp only [Act.put, List.setIfInBounds_toArray, List.set_cons_zero, List.set_cons_succ]
    refine wpAnyH_take (i := 32) (oi := { dst := some 110, op := Op.move (Operand.tmp 109), type := 4, pos := "law.go:79", after := #[{ on := 31, ground := Ground.data }, { on := 29, ground := Ground.chain }], guard := none }) (v := ?_) rfl (by kernel_rfl) (by kernel_rfl) (by kernel_rfl) (fun _ _ _ h => h) (Or.inl ⟨by rfl, ?_⟩) C1 ?_
    rotate_left
    · intro W' hSw
      clear hSw
      go_simp <;> with_reducible rfl
    try simp only [Act.put, List.setIfInBounds_toArray, List.set_cons_zero, List.set_cons_succ]
    refine wpAnyH_take (i := 33) (oi := { dst := some 111, op := Op.move (Operand.tmp 17), type := 3, pos := "law.go:79", after := #[{ on := 32, ground := Ground.guard }], guard := some (32, true) }) (v := ?_) rfl (by kernel_rfl) (by kernel_rfl) (by kernel_rfl) (fun _ _ _ h => h) (Or.inl ⟨by rfl, ?_⟩) C1 ?_
    rotate_left
    · intro W' hSw
      clear hSw
      go_simp <;> with_reducible rfl
    try simp only [Act.put, List.setIfInBounds_toArray, List.set_cons_zero, List.set_cons_succ]
    refine wpAnyH_take (i := 34) (oi := { dst := some 112, op := Op.move (Operand.tmp 15), type := 3, pos := "law.go:79", after := #[{ on := 32, ground := Ground.guard }], guard := some (32, true) }) (v := ?_) rfl (by kernel_rfl) (by kernel_rfl) (by kernel_rfl) (fun _ _ _ h => h) (Or.inl ⟨by rfl, ?_⟩) C1 ?_
    rotate_left
    · intro W' hSw
      clear hSw
      go_simp <;> with_reducible rfl
    try simp only [Act.put, List.setIfInBounds_toArray, List.set_cons_zero, List.set_cons_succ]
    refine wpAnyH_take (i := 35) (oi := { dst := some 113, op := Op.binOp BinOp.add 3 (Operand.tmp 112) (Operand.const (Value.int IntKind.i64 1)) 3, type := 3, pos := "law.go:79", after := #[{ on := 34, ground := Ground.data }, { on := 32, ground := Ground.guard }], guard := some (32, true) }) (v := ?_) rfl (by kernel_rfl) (by kernel_rfl) (by kernel_rfl) (fun _ _ _ h => h) (Or.inl ⟨by rfl, ?_⟩) C1 ?_
    rotate_left
    · intro W' hSw
      clear hSw
      go_simp <;> with_reducible rfl
    try simp only [Act.put, List.setIfInBounds_toArray, List.set_cons_zero, List.set_cons_succ]
    try rw [HWp.out]
    refine wpAnyH_take (i := 36) (oi := { dst := some 114, op := Op.fieldAddr 23 (Operand.tmp 2) 0, type := 0, pos := "law.go:79", after := #[{ on := 32, ground := Ground.guard }], guard := some (32, true) }) (v := ?_) rfl (by kernel_rfl) (by kernel_rfl) (by kernel_rfl) (fun _ _ _ h => h) (Or.inl ⟨by rfl, ?_⟩) C1 ?_
    rotate_left
    · intro W' hSw
      clear hSw
      go_simp <;> with_reducible rfl
    try simp only [Act.put, List.setIfInBounds_toArray, List.set_cons_zero, List.set_cons_succ]
    refine wpAnyH_take (i := 37) (oi := { dst := some 115, op := Op.load 3 (Operand.tmp 114), type := 3, pos := "law.go:79", after := #[{ on := 36, ground := Ground.data }, { on := 32, ground := Ground.guard }], guard := some (32, true) }) (v := ?_) rfl (by kernel_rfl) (by kernel_rfl) (by kernel_rfl) (fun _ _ _ h => h) (Or.inl ⟨by rfl, ?_⟩) C1 ?_
    rotate_left
    · intro W' hSw
      obtain ⟨_, q0, q1, q2, q3, q4, q5, q6⟩ := G11.out.below hSw
      clear hSw
      go_simp <;> with_reducible rfl
    try simp only [Act.put, List.setIfInBounds_toArray, List.set_cons_zero, List.set_cons_succ]
    refine wpAnyH_take (i := 38) (oi := { dst := some 116, op := Op.binOp BinOp.rem 3 (Operand.tmp 113) (Operand.tmp 115) 3, type := 3, pos := "law.go:79", after := #[{ on := 35, ground := Ground.data }, { on := 37, ground := Ground.data }, { on := 32, ground := Ground.guard }], guard := some (32, true) }) (v := ?_) rfl (by kernel_rfl) (by kernel_rfl) (by kernel_rfl) (fun _ _ _ h => h) (Or.inl ⟨by rfl, ?_⟩) C1 ?_
    rotate_left
    · intro W' hSw
      clear hSw
      go_simp <;> with_reducible rfl
    try simp only [Act.put, List.setIfInBounds_toArray, List.set_cons_zero, List.set_cons_succ]
    try rw [HTp.out]
    refine wpAnyH_take (i := 39) (oi := { dst := some 117, op := Op.binOp BinOp.eql 3 (Operand.tmp 111) (Operand.tmp 116) 3, type := 4, pos := "law.go:79", after := #[{ on := 33, ground := Ground.data }, { on := 38, ground := Ground.data }, { on := 32, ground := Ground.guard }], guard := some (32, true) }) (v := ?_) rfl (by kernel_rfl) (by kernel_rfl) (by kernel_rfl) (fun _ _ _ h => h) (Or.inl ⟨by rfl, ?_⟩) C1 ?_
    rotate_left
    · intro W' hSw
      clear hSw
      go_simp <;> with_reducible rfl
    try simp only [Act.put, List.setIfInBounds_toArray, List.set_cons_zero, List.set_cons_succ]
    refine wpAnyH_take (i := 40) (oi := { dst := some 118, op := Op.pick (Operand.tmp 110) (Operand.tmp 117) (Operand.const (Value.bool false)), type := 4, pos := "law.go:79", after := #[{ on := 32, ground := Ground.data }, { on := 39, ground := Ground.data }], guard := none }) (v := ?_) rfl (by kernel_rfl) (by kernel_rfl) (by kernel_rfl) (fun _ _ _ h => h) (Or.inl ⟨by rfl, ?_⟩) C1 ?_
    rotate_left
    · intro W' hSw
      clear hSw
      go_simp <;> with_reducible rfl
    try simp only [Act.put, List.setIfInBounds_toArray, List.set_cons_zero, List.set_cons_succ]
    refine wpAnyH_take (i := 41) (oi := { dst := some 119, op := Op.move (Operand.tmp 118), type := 4, pos := "law.go:79", after := #[{ on := 40, ground := Ground.data }, { on := 32, ground := Ground.chain }], guard := none }) (v := ?_) rfl (by kernel_rfl) (by kernel_rfl) (by kernel_rfl) (fun _ _ _ h => h) (Or.inl ⟨by rfl, ?_⟩) C1 ?_
    rotate_left
    · intro W' hSw
      clear hSw
      go_simp <;> with_reducible rfl
    try simp only [Act.put, List.setIfInBounds_toArray, List.set_cons_zero, List.set_cons_succ]
    refine wpAnyH_take (i := 42) (oi := { dst := some 120, op := Op.load 23 (Operand.tmp 2), type := 23, pos := "law.go:79", after := #[{ on := 41, ground := Ground.guard }], guard := some (41, true) }) (v := ?_) rfl (by kernel_rfl) (by kernel_rfl) (by kernel_rfl) (fun _ _ _ h => h) (Or.inl ⟨by rfl, ?_⟩) C1 ?_
    rotate_left
    · intro W' hSw
      obtain ⟨_, q0, q1, q2, q3, q4, q5, q6⟩ := G11.out.below hSw
      clear hSw
      go_simp <;> with_reducible rfl
    try simp only [Act.put, List.setIfInBounds_toArray, List.set_cons_zero, List.set_cons_succ]
    refine wpAnyH_take (i := 44) (oi := { dst := some 122, op := Op.load 23 (Operand.tmp 2), type := 23, pos := "law.go:79", after := #[{ on := 41, ground := Ground.guard }], guard := some (41, true) }) (v := ?_) rfl (by kernel_rfl) (by kernel_rfl) (by kernel_rfl) (fun _ _ _ h => h) (Or.inl ⟨by rfl, ?_⟩) C1 ?_
    rotate_left
    · intro W' hSw
      obtain ⟨_, q0, q1, q2, q3, q4, q5, q6⟩ := G11.out.below hSw
      clear hSw
      go_simp <;> with_reducible rfl
    try simp only [Act.put, List.setIfInBounds_toArray, List.set_cons_zero, List.set_cons_succ]
    refine wpAnyH_ready (rs := [43]) (by kernel_rfl) (by simp) ?_
    refine AllReadyH.cons (o := { dst := some 121, op := Op.call { callee := Callee.value (Operand.func 14), args := #[Operand.tmp 120], argTypes := #[23] }, type := 3, pos := "law.go:79", after := #[{ on := 42, ground := Ground.data }, { on := 41, ground := Ground.chain }, { on := 41, ground := Ground.guard }], guard := some (41, true) }) rfl (fun K hK => ?_) AllReadyH.nil
    go_simp
    refine (Raw_is ⟨p, b, s, c, k, r, q⟩ rr HR.out _).mono ?_
    rintro e w'' ⟨rfl, hB⟩
    go_wp2_with fail
    refine hK.out _ _ (C1.trans (hB.mono C1.size)) (fun C2 => ?_)
    clear hK K hB
    try simp only [Act.put, List.setIfInBounds_toArray, List.set_cons_zero, List.set_cons_succ]
    refine wpAnyH_ready (rs := [45]) (by kernel_rfl) (by simp) ?_
    refine AllReadyH.cons (o := { dst := some 123, op := Op.call { callee := Callee.value (Operand.func 13), args := #[Operand.tmp 122], argTypes := #[23] }, type := 3, pos := "law.go:79", after := #[{ on := 44, ground := Ground.data }, { on := 43, ground := Ground.chain }, { on := 41, ground := Ground.guard }], guard := some (41, true) }) rfl (fun K hK => ?_) AllReadyH.nil
    go_simp
    refine (Data_is ⟨p, b, s, c, k, r, q⟩ dd HD.out _).mono ?_
    rintro e w'' ⟨rfl, hB⟩
    go_wp2_with fail
    refine hK.out _ _ (C2.trans (hB.mono C2.size)) (fun C3 => ?_)
    clear hK K hB
    try simp only [Act.put, List.setIfInBounds_toArray, List.set_cons_zero, List.set_cons_succ]
    refine wpAnyH_take (i := 46) (oi := { dst := some 124, op := Op.binOp BinOp.gtr 3 (Operand.tmp 121) (Operand.tmp 123) 3, type := 4, pos := "law.go:79", after := #[{ on := 43, ground := Ground.data }, { on := 45, ground := Ground.data }, { on := 41, ground := Ground.guard }], guard := some (41, true) }) (v := ?_) rfl (by kernel_rfl) (by kernel_rfl) (by kernel_rfl) (fun _ _ _ h => h) (Or.inl ⟨by rfl, ?_⟩) C3 ?_
    rotate_left
    · intro W' hSw
      clear hSw
      go_simp <;> with_reducible rfl
    try simp only [Act.put, List.setIfInBounds_toArray, List.set_cons_zero, List.set_cons_succ]
    refine wpAnyH_take (i := 47) (oi := { dst := some 125, op := Op.pick (Operand.tmp 119) (Operand.tmp 124) (Operand.const (Value.bool false)), type := 4, pos := "law.go:79", after := #[{ on := 41, ground := Ground.data }, { on := 46, ground := Ground.data }], guard := none }) (v := ?_) rfl (by kernel_rfl) (by kernel_rfl) (by kernel_rfl) (fun _ _ _ h => h) (Or.inl ⟨by rfl, ?_⟩) C3 ?_
    rotate_left
    · intro W' hSw
      clear hSw
      go_simp <;> with_reducible rfl
    try simp only [Act.put, List.setIfInBounds_toArray, List.set_cons_zero, List.set_cons_succ]
    refine wpAnyH_take (i := 48) (oi := { dst := some 126, op := Op.move (Operand.tmp 125), type := 4, pos := "law.go:79", after := #[{ on := 47, ground := Ground.data }, { on := 45, ground := Ground.chain }], guard := none }) (v := ?_) rfl (by kernel_rfl) (by kernel_rfl) (by kernel_rfl) (fun _ _ _ h => h) (Or.inl ⟨by rfl, ?_⟩) C3 ?_
    rotate_left
    · intro W' hSw
      clear hSw
      go_simp <;> with_reducible rfl
    try simp only [Act.put, List.setIfInBounds_toArray, List.set_cons_zero, List.set_cons_succ]
    refine wpAnyH_take (i := 49) (oi := { dst := some 127, op := Op.move (Operand.tmp 7), type := 3, pos := "law.go:79", after := #[{ on := 48, ground := Ground.guard }], guard := some (48, true) }) (v := ?_) rfl (by kernel_rfl) (by kernel_rfl) (by kernel_rfl) (fun _ _ _ h => h) (Or.inl ⟨by rfl, ?_⟩) C3 ?_
    rotate_left
    · intro W' hSw
      clear hSw
      go_simp <;> with_reducible rfl
    try simp only [Act.put, List.setIfInBounds_toArray, List.set_cons_zero, List.set_cons_succ]
    refine wpAnyH_take (i := 52) (oi := { dst := some 130, op := Op.move (Operand.tmp 7), type := 3, pos := "law.go:79", after := #[{ on := 48, ground := Ground.guard }], guard := some (48, true) }) (v := ?_) rfl (by kernel_rfl) (by kernel_rfl) (by kernel_rfl) (fun _ _ _ h => h) (Or.inl ⟨by rfl, ?_⟩) C3 ?_
    rotate_left
    · intro W' hSw
      clear hSw
      go_simp <;> with_reducible rfl
    try simp only [Act.put, List.setIfInBounds_toArray, List.set_cons_zero, List.set_cons_succ]
    refine wpAnyH_ready (rs := [50]) (by kernel_rfl) (by simp) ?_
    refine AllReadyH.cons (o := { dst := some 128, op := Op.call { callee := Callee.value (Operand.func 20), args := #[Operand.tmp 127], argTypes := #[3] }, type := 3, pos := "law.go:79", after := #[{ on := 49, ground := Ground.data }, { on := 48, ground := Ground.chain }, { on := 48, ground := Ground.guard }], guard := some (48, true) }) rfl (fun K hK => ?_) AllReadyH.nil
    go_simp
    refine (Upper_is v up HUp.out _ (by omega)).mono ?_
    rintro e w'' ⟨rfl, rfl⟩
    go_wp2_with fail
    refine hK.out _ _ C3 (fun C4 => ?_)
    clear hK K
    try simp only [Act.put, List.setIfInBounds_toArray, List.set_cons_zero, List.set_cons_succ]
    refine wpAnyH_ready (rs := [51]) (by kernel_rfl) (by simp) ?_
    refine AllReadyH.cons (o := { dst := some 129, op := Op.call { callee := Callee.value (Operand.func 19), args := #[Operand.tmp 128], argTypes := #[3] }, type := 3, pos := "law.go:79", after := #[{ on := 50, ground := Ground.data }, { on := 50, ground := Ground.chain }, { on := 48, ground := Ground.guard }], guard := some (48, true) }) rfl (fun K hK => ?_) AllReadyH.nil
    go_simp
    refine (Lower_is up lw HLU.out _ (by omega)).mono ?_
    rintro e w'' ⟨rfl, rfl⟩
    go_wp2_with fail
    refine hK.out _ _ C4 (fun C5 => ?_)
    clear hK K
    try simp only [Act.put, List.setIfInBounds_toArray, List.set_cons_zero, List.set_cons_succ]
    refine wpAnyH_ready (rs := [53]) (by kernel_rfl) (by simp) ?_
    refine AllReadyH.cons (o := { dst := some 131, op := Op.call { callee := Callee.value (Operand.func 19), args := #[Operand.tmp 130], argTypes := #[3] }, type := 3, pos := "law.go:79", after := #[{ on := 52, ground := Ground.data }, { on := 51, ground := Ground.chain }, { on := 48, ground := Ground.guard }], guard := some (48, true) }) rfl (fun K hK => ?_) AllReadyH.nil
    go_simp
    refine (Lower_is v lw HLw.out _ (by omega)).mono ?_
    rintro e w'' ⟨rfl, rfl⟩
    go_wp2_with fail
    refine hK.out _ _ C5 (fun C6 => ?_)
    clear hK K
    try simp only [Act.put, List.setIfInBounds_toArray, List.set_cons_zero, List.set_cons_succ]
    refine wpAnyH_take (i := 54) (oi := { dst := some 132, op := Op.binOp BinOp.eql 3 (Operand.tmp 129) (Operand.tmp 131) 3, type := 4, pos := "law.go:79", after := #[{ on := 51, ground := Ground.data }, { on := 53, ground := Ground.data }, { on := 48, ground := Ground.guard }], guard := some (48, true) }) (v := ?_) rfl (by kernel_rfl) (by kernel_rfl) (by kernel_rfl) (fun _ _ _ h => h) (Or.inl ⟨by rfl, ?_⟩) C6 ?_
    rotate_left
    · intro W' hSw
      clear hSw
      go_simp <;> with_reducible rfl
    try simp only [Act.put, List.setIfInBounds_toArray, List.set_cons_zero, List.set_cons_succ]
    refine wpAnyH_take (i := 55) (oi := { dst := some 133, op := Op.pick (Operand.tmp 126) (Operand.tmp 132) (Operand.const (Value.bool false)), type := 4, pos := "law.go:79", after := #[{ on := 48, ground := Ground.data }, { on := 54, ground := Ground.data }], guard := none }) (v := ?_) rfl (by kernel_rfl) (by kernel_rfl) (by kernel_rfl) (fun _ _ _ h => h) (Or.inl ⟨by rfl, ?_⟩) C6 ?_
    rotate_left
    · intro W' hSw
      clear hSw
      go_simp <;> with_reducible rfl
    try simp only [Act.put, List.setIfInBounds_toArray, List.set_cons_zero, List.set_cons_succ]
    refine wpAnyH_take (i := 56) (oi := { dst := some 4, op := Op.assign (Operand.tmp 133), type := 4, pos := "law.go:79", after := #[{ on := 55, ground := Ground.data }, { on := 53, ground := Ground.chain }, { on := 0, ground := Ground.phase }, { on := 1, ground := Ground.phase }, { on := 2, ground := Ground.phase }, { on := 3, ground := Ground.phase }, { on := 4, ground := Ground.phase }, { on := 5, ground := Ground.phase }, { on := 6, ground := Ground.phase }, { on := 7, ground := Ground.phase }, { on := 8, ground := Ground.phase }, { on := 9, ground := Ground.phase }, { on := 10, ground := Ground.phase }, { on := 11, ground := Ground.phase }, { on := 12, ground := Ground.phase }, { on := 13, ground := Ground.phase }, { on := 14, ground := Ground.phase }, { on := 15, ground := Ground.phase }, { on := 16, ground := Ground.phase }, { on := 17, ground := Ground.phase }, { on := 18, ground := Ground.phase }, { on := 19, ground := Ground.phase }, { on := 20, ground := Ground.phase }, { on := 21, ground := Ground.phase }, { on := 22, ground := Ground.phase }, { on := 23, ground := Ground.phase }, { on := 24, ground := Ground.phase }, { on := 25, ground := Ground.phase }, { on := 26, ground := Ground.phase }, { on := 27, ground := Ground.phase }, { on := 28, ground := Ground.phase }, { on := 29, ground := Ground.phase }, { on := 30, ground := Ground.phase }, { on := 31, ground := Ground.phase }, { on := 32, ground := Ground.phase }, { on := 33, ground := Ground.phase }, { on := 34, ground := Ground.phase }, { on := 35, ground := Ground.phase }, { on := 36, ground := Ground.phase }, { on := 37, ground := Ground.phase }, { on := 38, ground := Ground.phase }, { on := 39, ground := Ground.phase }, { on := 40, ground := Ground.phase }, { on := 41, ground := Ground.phase }, { on := 42, ground := Ground.phase }, { on := 43, ground := Ground.phase }, { on := 44, ground := Ground.phase }, { on := 45, ground := Ground.phase }, { on := 46, ground := Ground.phase }, { on := 47, ground := Ground.phase }, { on := 48, ground := Ground.phase }, { on := 49, ground := Ground.phase }, { on := 50, ground := Ground.phase }, { on := 51, ground := Ground.phase }, { on := 52, ground := Ground.phase }, { on := 53, ground := Ground.phase }, { on := 54, ground := Ground.phase }, { on := 55, ground := Ground.phase }], guard := none }) (v := ?_) rfl (by kernel_rfl) (by kernel_rfl) (by kernel_rfl) (fun _ _ _ h => h) (Or.inl ⟨by rfl, ?_⟩) C6 ?_
    rotate_left
    · intro W' hSw
      clear hSw
      go_simp <;> with_reducible rfl
    try simp only [Act.put, List.setIfInBounds_toArray, List.set_cons_zero, List.set_cons_succ]
    refine wpAnyH_done (by kernel_rfl) ?_ _
    refine NoPanic.normal ?_
    go_wp2
    go_ret
    exact ⟨rfl, below_step B11.out C6⟩

theorem GeomBack_walk (g : Gm) (n : Nat) (w : World) (hn : n < 65536) : Calls Try.prog 5 #[g.val, .int .u16 (n : Int)] w (Gives (.bool true) w) := by
  cases ho : g.ok
  · exact GeomBack_no g n w ho
  · exact GeomBack_yes g n w hn ho
end Go.Proofs.Ytkbjbgbngkidjaa
