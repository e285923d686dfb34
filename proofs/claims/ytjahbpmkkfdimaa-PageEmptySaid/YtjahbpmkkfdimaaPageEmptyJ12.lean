/-
  Contracts of bytes.Clone, of page.cut, of the parts' empty, of page.Marked and of the contents' checksum, over the landed code.
-/
import Derived.Deep.RegionHeld3
import Derived.Laws.MakeOwn
import Derived.Test.YtjahbpmkkfdimaaPageEmptyJGeomK
import Derived.Test.YtjahbpmkkfdimaaPageEmptyJ6
import Derived.Test.YtjahbpmkkfdimaaPageEmptyJChunkG
import Derived.Test.YtjahbpmkkfdimaaPageEmptyJ7
import Derived.Test.YtjahbpmkkfdimaaPageEmptyJ5
import Derived.Test.YtjahbpmkkfdimaaPageEmptyJ9
import Derived.Test.YtjahbpmkkfdimaaPageEmptyJTagB
import Derived.Test.YtjahbpmkkfdimaaPageEmptyJ3
import Derived.Test.YtjahbpmkkfdimaaPageEmptyJTagC
import Derived.Test.YtjahbpmkkfdimaaPageEmptyJ11
import Derived.Test.YtjahbpmkkfdimaaPageEmptyJ4
namespace Go.Proofs.Ytjahbpmkkfdimaa
open Go.RowKit
set_option maxRecDepth 100000

theorem size_parts : (Try.prog.info? 72).map (·.size) = some 3 := by kernel_rfl
theorem size_contents : (Try.prog.info? 61).map (·.size) = some 3 := by kernel_rfl

set_option maxHeartbeats 400000 in
theorem cut_geom (g : Gm) (h : g.ok = false) (A : Option Addr) (n c : Nat) (w : World) :
    Calls Try.prog 38 #[g.val, .slice A n c] w (Gives (.tuple #[.agg #[.slice none 0 0, .slice none 0 0, .slice none 0 0], .bool false]) w) := by
  have HO := Lib.hid h
  clear h
  obtain ⟨p, b, s, gc, k, r, q⟩ := g
  simp only [Gm.val]
  go_enter Try.func38, Try.ntmps38
  go_wp2_with fail
  refine (Check_no ⟨p, b, s, gc, k, r, q⟩ HO.out _).mono ?_
  rintro _ w1 ⟨rfl, h1⟩
  have B1 := Lib.hid (below_step (below_step (below_new w _) (below_new _ _)) h1)
  have T1 : Hid (CRow w1 (w.heap.size + 1) 72 #[.slice none 0 0, .slice none 0 0, .slice none 0 0]) := Lib.hid (by simpa using (CRow.new (w.alloc (.cells #[.int .i64 p, .int .i64 b, .int .i64 s, .int .i64 gc, .int .i64 k, .int .i64 r, .int .i64 q] 23)) #[.slice none 0 0, .slice none 0 0, .slice none 0 0] 72).below h1)
  clear h1
  go_wp2_with (with_reducible refine (?_ : wpList _ _ _ ({ dst := _, op := Op.store 72 _ _, type := _, pos := _, after := _, guard := _ } :: _) _ _); refine wpList_store_at rfl 72 _ _ rfl 3 size_parts _ (w.heap.size + 1) ?hx rfl _ T1.out.row ?hn ?ho ?h1 ?_; (case hx => simp [Act.eval]); (case hn => simp); (case ho => simp); (case h1 => simp [Value.oneCell']))
  have B3 := Lib.hid (below_setRow B1.out (Nat.le_succ _) #[.slice none 0 0, .slice none 0 0, .slice none 0 0])
  have T3 := Lib.hid (T1.out.set #[.slice none 0 0, .slice none 0 0, .slice none 0 0])
  go_wp2
  refine bodyPost_ret (results_cell_tmp_row rfl _ _ (w.heap.size + 1) 72 _ (0, 0) _ rfl T3.out.row Try.underlying72 rfl size_parts) rfl ?_
  exact ⟨rfl, B3.out⟩

set_option maxHeartbeats 400000 in
theorem cut_len (g : Gm) (h : g.ok = true) (A : Option Addr) (n c : Nat) (hn : (n : Int) ≠ g.raw) (w : World) :
    Calls Try.prog 38 #[g.val, .slice A n c] w (Gives (.tuple #[.agg #[.slice none 0 0, .slice none 0 0, .slice none 0 0], .bool false]) w) := by
  have HO := Lib.hid h
  obtain ⟨m, HR⟩ : ∃ m, Hid (g.raw = m) := ⟨_, rfl⟩
  have hne : ((n : Int) != m) = true := by rw [← HR.out]; simpa using hn
  clear h hn
  obtain ⟨p, b, s, gc, k, r, q⟩ := g
  simp only [Gm.val]
  go_enter Try.func38, Try.ntmps38
  go_wp2_with fail
  refine (Check_yes ⟨p, b, s, gc, k, r, q⟩ HO.out _).mono ?_
  rintro _ w1 ⟨rfl, h1⟩
  have B1 := Lib.hid (below_step (below_step (below_new w _) (below_new _ _)) h1)
  have T1 : Hid (CRow w1 (w.heap.size + 1) 72 #[.slice none 0 0, .slice none 0 0, .slice none 0 0]) := Lib.hid (by simpa using (CRow.new (w.alloc (.cells #[.int .i64 p, .int .i64 b, .int .i64 s, .int .i64 gc, .int .i64 k, .int .i64 r, .int .i64 q] 23)) #[.slice none 0 0, .slice none 0 0, .slice none 0 0] 72).below h1)
  obtain ⟨hlt1, g0, g1, g2, g3, g4, g5, g6⟩ := ((GBox.new w ⟨p, b, s, gc, k, r, q⟩ 23).below (below_new _ (.cells #[.slice none 0 0, .slice none 0 0, .slice none 0 0] 72))).below h1
  simp only at g0 g1 g2 g3 g4 g5 g6
  clear h1
  go_wp2_with fail
  refine (Raw_is ⟨p, b, s, gc, k, r, q⟩ _ HR.out _).mono ?_
  rintro _ w2 ⟨rfl, h2⟩
  have B2 := Lib.hid (below_step B1.out h2)
  have T2 := Lib.hid (T1.out.below h2)
  clear h2 g0 g1 g2 g3 g4 g5 g6
  go_wp2_with (with_reducible refine (?_ : wpList _ _ _ ({ dst := _, op := Op.store 72 _ _, type := _, pos := _, after := _, guard := _ } :: _) _ _); refine wpList_store_at rfl 72 _ _ rfl 3 size_parts _ (w.heap.size + 1) ?hx rfl _ T2.out.row ?hn ?ho ?h1 ?_; (case hx => simp [Act.eval]); (case hn => simp); (case ho => simp); (case h1 => simp [Value.oneCell']))
  have B3 := Lib.hid (below_setRow B2.out (Nat.le_succ _) #[.slice none 0 0, .slice none 0 0, .slice none 0 0])
  have T3 := Lib.hid (T2.out.set #[.slice none 0 0, .slice none 0 0, .slice none 0 0])
  go_wp2
  refine bodyPost_ret (results_cell_tmp_row rfl _ _ (w.heap.size + 1) 72 _ (0, 0) _ rfl T3.out.row Try.underlying72 rfl size_parts) rfl ?_
  exact ⟨rfl, B3.out⟩

set_option maxHeartbeats 1000000 in
theorem cut_yes (g : Gm) (h : g.ok = true) (C K : Nat) (hC : g.c = (C : Int)) (hK : g.k = (K : Int)) (A : Option Addr) (n c : Nat) (hn : n = C * (K + 2) + 31) (hcap : n ≤ c) (w : World) :
    Calls Try.prog 38 #[g.val, .slice A n c] w (Gives (.tuple #[.agg #[.slice A (C * (K + 2)) c, .slice (cutA A c (C * (K + 2))) 30 (c - C * (K + 2)), .slice (cutA A c (n - 1)) 1 (c - (n - 1))], .bool true]) w) := by
  obtain ⟨i0, ti, tz0, tz1, tz2⟩ := info_parts info_u8
  have HO := Lib.hid h
  have hbd := Gm.bounds_of h
  have HR := Lib.hid (show g.raw = (n : Int) by unfold Gm.raw; rw [if_pos h, hC, hK, hn, Int.natCast_add, Int.natCast_mul, Int.natCast_add]; rfl)
  obtain ⟨a, HA⟩ : ∃ a, Hid (C * (K + 2) = a) := ⟨_, rfl⟩
  have hmul : (C : Int) * ((K : Int) + 2) = (a : Int) := by rw [← HA.out, Int.natCast_mul, Int.natCast_add]; rfl
  rw [HA.out] at hn ⊢
  obtain ⟨e, He⟩ : ∃ e, Hid (n - 1 = e) := ⟨_, rfl⟩
  rw [He.out]
  have hea : e = a + 30 := by rw [← He.out]; omega
  have hne : n = e + 1 := by omega
  have hsub : (n : Int) - 1 = (e : Int) := by omega
  have ha2 : a ≤ 8224 := by
    have hc16 : C ≤ 16 := by omega
    have hk2 : K + 2 ≤ 514 := by omega
    have := Nat.mul_le_mul hc16 hk2
    rw [HA.out] at this
    omega
  have he2 : e ≤ 8254 := by omega
  have hsl1 := run_slice_to (P := Try.prog) Try.underlying24 ti (by kernel_rfl) A n c a (by omega)
  have hsl2 := run_sliceAt_to (P := Try.prog) Try.underlying24 ti (by kernel_rfl) A n c a (by omega)
  have hsm1 := run_slice_mid (P := Try.prog) Try.underlying24 ti (by kernel_rfl) A n c a e (by omega) (by omega)
  have hsm2 := run_sliceAt_mid (P := Try.prog) Try.underlying24 ti (by kernel_rfl) A n c a e (by omega) (by omega)
  have hsf1 := run_slice_from (P := Try.prog) Try.underlying24 ti (by kernel_rfl) A n c e (by omega)
  have hsf2 := run_sliceAt_from (P := Try.prog) Try.underlying24 ti (by kernel_rfl) A n c e (by omega)
  rw [show e - a = 30 by omega] at hsm1 hsm2
  rw [show n - e = 1 by omega] at hsf1 hsf2
  generalize cutA A c a = A1 at *
  generalize cutA A c e = A2 at *
  clear h hn hcap hea hne He HA
  obtain ⟨p, b, s, gc, k, r, q⟩ := g
  simp only at hC hK hbd
  subst hC hK
  simp only [Gm.val]
  go_enter Try.func38, Try.ntmps38
  go_wp2_with fail
  refine (Check_yes ⟨p, b, s, C, K, r, q⟩ HO.out _).mono ?_
  rintro _ w1 ⟨rfl, h1⟩
  have B1 := Lib.hid (below_step (below_step (below_new w _) (below_new _ _)) h1)
  have T1 : Hid (CRow w1 (w.heap.size + 1) 72 #[.slice none 0 0, .slice none 0 0, .slice none 0 0]) := Lib.hid (by simpa using (CRow.new (w.alloc (.cells #[.int .i64 p, .int .i64 b, .int .i64 s, .int .i64 C, .int .i64 K, .int .i64 r, .int .i64 q] 23)) #[.slice none 0 0, .slice none 0 0, .slice none 0 0] 72).below h1)
  obtain ⟨hlt1, g0, g1, g2, g3, g4, g5, g6⟩ := ((GBox.new w ⟨p, b, s, C, K, r, q⟩ 23).below (below_new _ (.cells #[.slice none 0 0, .slice none 0 0, .slice none 0 0] 72))).below h1
  simp only at g0 g1 g2 g3 g4 g5 g6
  clear h1
  go_wp2_with fail
  refine (Raw_is ⟨p, b, s, C, K, r, q⟩ _ HR.out _).mono ?_
  rintro _ w2 ⟨rfl, h2⟩
  have B2 := Lib.hid (below_step B1.out h2)
  have T2 := Lib.hid (T1.out.below h2)
  have hw2 := h2.size
  have k3 := (h2.cell (p := ⟨w.heap.size, 3, none⟩) hlt1).trans g3
  have k4 := (h2.cell (p := ⟨w.heap.size, 4, none⟩) hlt1).trans g4
  clear h2 g0 g1 g2 g3 g4 g5 g6
  go_wp2
  refine wp_region_noPanic ?_
  refine wp_region_held_drew (S := fun w' => Below w.heap.size w w') (by kernel_rfl) B2.out.drew (fun C0 => ?_)
  refine wpAnyH_take (i := 0) (oi := { dst := some 28, op := Op.move (Operand.tmp 1), type := 24, pos := "page.go:148", after := #[], guard := none }) (v := ?_) rfl (by kernel_rfl) (by kernel_rfl) (by kernel_rfl) (fun _ _ _ h => h) (Or.inl ⟨by rfl, ?_⟩) C0 ?_
  rotate_left
  · intro W' hSw
    clear hSw
    go_simp <;> with_reducible rfl
  try simp only [Act.put, List.setIfInBounds_toArray, List.set_cons_zero, List.set_cons_succ]
  refine wpAnyH_take (i := 1) (oi := { dst := some 29, op := Op.move (Operand.tmp 6), type := 3, pos := "page.go:148", after := #[], guard := none }) (v := ?_) rfl (by kernel_rfl) (by kernel_rfl) (by kernel_rfl) (fun _ _ _ h => h) (Or.inl ⟨by rfl, ?_⟩) C0 ?_
  rotate_left
  · intro W' hSw
    clear hSw
    go_simp <;> with_reducible rfl
  try simp only [Act.put, List.setIfInBounds_toArray, List.set_cons_zero, List.set_cons_succ]
  refine wpAnyH_take (i := 2) (oi := { dst := some 30, op := Op.slice 24 (Operand.tmp 28) none (some (Operand.tmp 29)) none, type := 24, pos := "page.go:148", after := #[{ on := 0, ground := Ground.data }, { on := 1, ground := Ground.data }], guard := none }) (v := ?_) rfl (by kernel_rfl) (by kernel_rfl) (by kernel_rfl) (fun _ _ _ h => h) (Or.inl ⟨by rfl, ?_⟩) C0 ?_
  rotate_left
  · intro W' hSw
    clear hSw
    go_simp <;> with_reducible rfl
  try simp only [Act.put, List.setIfInBounds_toArray, List.set_cons_zero, List.set_cons_succ]
  refine wpAnyH_take (i := 3) (oi := { dst := some 31, op := Op.move (Operand.tmp 1), type := 24, pos := "page.go:148", after := #[], guard := none }) (v := ?_) rfl (by kernel_rfl) (by kernel_rfl) (by kernel_rfl) (fun _ _ _ h => h) (Or.inl ⟨by rfl, ?_⟩) C0 ?_
  rotate_left
  · intro W' hSw
    clear hSw
    go_simp <;> with_reducible rfl
  try simp only [Act.put, List.setIfInBounds_toArray, List.set_cons_zero, List.set_cons_succ]
  refine wpAnyH_take (i := 4) (oi := { dst := some 32, op := Op.move (Operand.tmp 6), type := 3, pos := "page.go:148", after := #[], guard := none }) (v := ?_) rfl (by kernel_rfl) (by kernel_rfl) (by kernel_rfl) (fun _ _ _ h => h) (Or.inl ⟨by rfl, ?_⟩) C0 ?_
  rotate_left
  · intro W' hSw
    clear hSw
    go_simp <;> with_reducible rfl
  try simp only [Act.put, List.setIfInBounds_toArray, List.set_cons_zero, List.set_cons_succ]
  refine wpAnyH_take (i := 5) (oi := { dst := some 33, op := Op.move (Operand.tmp 7), type := 3, pos := "page.go:148", after := #[], guard := none }) (v := ?_) rfl (by kernel_rfl) (by kernel_rfl) (by kernel_rfl) (fun _ _ _ h => h) (Or.inl ⟨by rfl, ?_⟩) C0 ?_
  rotate_left
  · intro W' hSw
    clear hSw
    go_simp <;> with_reducible rfl
  try simp only [Act.put, List.setIfInBounds_toArray, List.set_cons_zero, List.set_cons_succ]
  refine wpAnyH_take (i := 6) (oi := { dst := some 34, op := Op.slice 24 (Operand.tmp 31) (some (Operand.tmp 32)) (some (Operand.tmp 33)) none, type := 24, pos := "page.go:148", after := #[{ on := 3, ground := Ground.data }, { on := 4, ground := Ground.data }, { on := 5, ground := Ground.data }], guard := none }) (v := ?_) rfl (by kernel_rfl) (by kernel_rfl) (by kernel_rfl) (fun _ _ _ h => h) (Or.inl ⟨by rfl, ?_⟩) C0 ?_
  rotate_left
  · intro W' hSw
    clear hSw
    go_simp <;> with_reducible rfl
  try simp only [Act.put, List.setIfInBounds_toArray, List.set_cons_zero, List.set_cons_succ]
  refine wpAnyH_take (i := 7) (oi := { dst := some 35, op := Op.move (Operand.tmp 1), type := 24, pos := "page.go:148", after := #[], guard := none }) (v := ?_) rfl (by kernel_rfl) (by kernel_rfl) (by kernel_rfl) (fun _ _ _ h => h) (Or.inl ⟨by rfl, ?_⟩) C0 ?_
  rotate_left
  · intro W' hSw
    clear hSw
    go_simp <;> with_reducible rfl
  try simp only [Act.put, List.setIfInBounds_toArray, List.set_cons_zero, List.set_cons_succ]
  refine wpAnyH_take (i := 8) (oi := { dst := some 36, op := Op.move (Operand.tmp 7), type := 3, pos := "page.go:148", after := #[], guard := none }) (v := ?_) rfl (by kernel_rfl) (by kernel_rfl) (by kernel_rfl) (fun _ _ _ h => h) (Or.inl ⟨by rfl, ?_⟩) C0 ?_
  rotate_left
  · intro W' hSw
    clear hSw
    go_simp <;> with_reducible rfl
  try simp only [Act.put, List.setIfInBounds_toArray, List.set_cons_zero, List.set_cons_succ]
  refine wpAnyH_take (i := 9) (oi := { dst := some 37, op := Op.slice 24 (Operand.tmp 35) (some (Operand.tmp 36)) none none, type := 24, pos := "page.go:148", after := #[{ on := 7, ground := Ground.data }, { on := 8, ground := Ground.data }], guard := none }) (v := ?_) rfl (by kernel_rfl) (by kernel_rfl) (by kernel_rfl) (fun _ _ _ h => h) (Or.inl ⟨by rfl, ?_⟩) C0 ?_
  rotate_left
  · intro W' hSw
    clear hSw
    go_simp <;> with_reducible rfl
  try simp only [Act.put, List.setIfInBounds_toArray, List.set_cons_zero, List.set_cons_succ]
  refine wpAnyH_take (i := 10) (oi := { dst := some 38, op := Op.build 72 #[(0, Operand.tmp 30), (1, Operand.tmp 34), (2, Operand.tmp 37)], type := 72, pos := "page.go:148", after := #[{ on := 2, ground := Ground.data }, { on := 6, ground := Ground.data }, { on := 9, ground := Ground.data }], guard := none }) (v := ?_) rfl (by kernel_rfl) (by kernel_rfl) (by kernel_rfl) (fun _ _ _ h => h) (Or.inl ⟨by rfl, ?_⟩) C0 ?_
  rotate_left
  · intro W' hSw
    clear hSw
    go_simp <;> with_reducible rfl
  try simp only [Act.put, List.setIfInBounds_toArray, List.set_cons_zero, List.set_cons_succ]
  refine wpAnyH_ready (rs := [11]) (by kernel_rfl) (by simp) ?_
  refine AllReadyH.cons (o := { dst := none, op := Op.store 72 (Operand.tmp 4) (Operand.tmp 38), type := 0, pos := "page.go:148", after := #[{ on := 10, ground := Ground.data }, { on := 0, ground := Ground.phase }, { on := 1, ground := Ground.phase }, { on := 2, ground := Ground.phase }, { on := 3, ground := Ground.phase }, { on := 4, ground := Ground.phase }, { on := 5, ground := Ground.phase }, { on := 6, ground := Ground.phase }, { on := 7, ground := Ground.phase }, { on := 8, ground := Ground.phase }, { on := 9, ground := Ground.phase }, { on := 10, ground := Ground.phase }], guard := none }) rfl (fun K hK => ?_) AllReadyH.nil
  rw [if_pos (by rfl)]
  refine wp_store_row 72 _ _ rfl (w.heap.size + 1) #[.slice A a c, .slice A1 30 (c - a), .slice A2 1 (c - e)] (by simp [Act.eval]) rfl 72 _ T2.out.drew.row size_parts (by simp) (by simp [Value.oneCell']) ?_
  refine hK.out _ _ (below_setRow C0 (Nat.le_succ _) _) (fun C1 => ?_)
  clear hK K
  try simp only [Act.put]
  refine wpAnyH_take (i := 12) (oi := { dst := some 5, op := Op.assign (Operand.const (Value.bool true)), type := 4, pos := "page.go:148", after := #[{ on := 11, ground := Ground.chain }, { on := 0, ground := Ground.phase }, { on := 1, ground := Ground.phase }, { on := 2, ground := Ground.phase }, { on := 3, ground := Ground.phase }, { on := 4, ground := Ground.phase }, { on := 5, ground := Ground.phase }, { on := 6, ground := Ground.phase }, { on := 7, ground := Ground.phase }, { on := 8, ground := Ground.phase }, { on := 9, ground := Ground.phase }, { on := 10, ground := Ground.phase }, { on := 11, ground := Ground.phase }], guard := none }) (v := ?_) rfl (by kernel_rfl) (by kernel_rfl) (by kernel_rfl) (fun _ _ _ h => h) (Or.inl ⟨by rfl, ?_⟩) C1 ?_
  rotate_left
  · intro W' hSw
    clear hSw
    go_simp <;> with_reducible rfl
  try simp only [Act.put, List.setIfInBounds_toArray, List.set_cons_zero, List.set_cons_succ]
  refine wpAnyH_done (by kernel_rfl) ?_ _
  refine NoPanic.normal ?_
  have T3 := Lib.hid (T2.out.drew.set #[.slice A a c, .slice A1 30 (c - a), .slice A2 1 (c - e)])
  go_wp2
  refine bodyPost_ret (results_cell_tmp_row rfl _ _ (w.heap.size + 1) 72 _ (0, 0) _ rfl T3.out.row Try.underlying72 rfl size_parts) rfl ?_
  exact ⟨rfl, C1⟩

set_option maxHeartbeats 400000 in
theorem empty_is (A1 B A3 : Option Addr) (n1 c1 m d n3 c3 : Nat) (l : List Nat) (v : Bool) (w : World) (hr : R8 w B m l) (hm : m ≤ 1099511627776) (hv : decide (8 * (m : Int) - (ones l : Int) ≤ 20) = v) :
    Calls Try.prog 39 #[.agg #[.slice A1 n1 c1, .slice B m d, .slice A3 n3 c3]] w (Gives (.bool v) w) := by
  have HR := Lib.hid (hr.below (below_new w (.cells #[.slice A1 n1 c1, .slice B m d, .slice A3 n3 c3] 72)))
  obtain ⟨o, HO⟩ : ∃ o, Hid (ones l = o) := ⟨_, rfl⟩
  rw [HO.out] at hv
  clear hr
  go_enter Try.func39, Try.ntmps39
  go_wp2_with (go_at_call 13; refine (Zeros_any _ _ _ l _ HR.out hm).mono ?_; rw [HO.out]; rintro _ w' ⟨rfl, rfl⟩)
  go_ret
  exact ⟨rfl, below_new w _⟩

set_option maxHeartbeats 400000 in
theorem Marked_no (g : Gm) (A : Option Addr) (n c : Nat) (hcut : ∀ w', Calls Try.prog 38 #[g.val, .slice A n c] w' (Gives (.tuple #[.agg #[.slice none 0 0, .slice none 0 0, .slice none 0 0], .bool false]) w')) (w : World) :
    Calls Try.prog 20 #[g.val, .slice A n c] w (Gives (.bool false) w) := by
  obtain ⟨p, b, s, gc, k, r, q⟩ := g
  simp only [Gm.val] at hcut ⊢
  go_enter Try.func20, Try.ntmps20
  go_wp2_with fail
  refine (hcut _).mono ?_
  rintro _ w1 ⟨rfl, h1⟩
  have B1 := Lib.hid (below_step (below_new w _) h1)
  clear h1 hcut
  go_wp2
  go_ret
  exact ⟨rfl, below_step B1.out (below_new _ _)⟩

set_option maxHeartbeats 400000 in
theorem Marked_yes (g : Gm) (A A1 A2 A3 : Option Addr) (n c n1 c1 n2 c2 m d : Nat) (l : List Nat) (hcut : ∀ w', Calls Try.prog 38 #[g.val, .slice A n c] w' (Gives (.tuple #[.agg #[.slice A1 n1 c1, .slice A2 n2 c2, .slice A3 m d], .bool true]) w'))
    (v : Bool) (w : World) (hr : R8 w A3 m l) (hm : m ≤ 1099511627776) (hv : decide ((ones l : Int) < 4) = v) :
    Calls Try.prog 20 #[g.val, .slice A n c] w (Gives (.bool v) w) := by
  obtain ⟨p, b, s, gc, k, r, q⟩ := g
  simp only [Gm.val] at hcut ⊢
  obtain ⟨o, HO⟩ : ∃ o, Hid (ones l = o) := ⟨_, rfl⟩
  rw [HO.out] at hv
  have HR := Lib.hid hr
  clear hr
  go_enter Try.func20, Try.ntmps20
  go_wp2_with fail
  refine (hcut _).mono ?_
  rintro _ w1 ⟨rfl, h1⟩
  have B1 := Lib.hid (below_step (below_new w _) h1)
  have B2 := Lib.hid (below_step B1.out (below_new _ (.cells #[.slice A1 n1 c1, .slice A2 n2 c2, .slice A3 m d] 72)))
  have HR2 := Lib.hid (HR.out.below B2.out)
  clear h1 hcut
  go_wp2_with (go_at_call 25; refine (Count_any _ _ _ l _ HR2.out hm).mono ?_; rw [HO.out]; rintro _ w' ⟨rfl, rfl⟩)
  go_ret
  exact ⟨rfl, B2.out⟩

set_option maxHeartbeats 400000 in
theorem checksum_any (T S D : Option Addr) (tn tc sn sc dn dc : Nat) (tb d : List Nat) (w : World) (hT : R8 w T tn tb) (hD : R8 w D dn d) (ht : tn ≤ 1099511627776) (hd : dn ≤ 1099511627776) :
    Calls Try.prog 28 #[.agg #[.slice T tn tc, .slice S sn sc, .slice D dn dc]] w (OwnsB 5 (le4 (sumL (d ++ tb))) w) := by
  have hs := sumL_lt (d ++ tb)
  obtain ⟨m, HM⟩ : ∃ m, Hid (sumL (d ++ tb) = m) := ⟨_, rfl⟩
  rw [HM.out] at hs ⊢
  have B0 := Lib.hid (below_new w (.cells #[.slice T tn tc, .slice S sn sc, .slice D dn dc] 61))
  have HT := Lib.hid (hT.below B0.out)
  have HD := Lib.hid (hD.below B0.out)
  clear hT hD
  go_enter Try.func28, Try.ntmps28
  go_wp2_with fail
  have hN : CRow ((w.alloc (.cells #[.slice T tn tc, .slice S sn sc, .slice D dn dc] 61)).alloc (.cells #[.slice D dn dc, .slice T tn tc] 24)) (w.heap.size + 1) 24 #[.slice D dn dc, .slice T tn tc] := by
    simpa using CRow.new (w.alloc (.cells #[.slice T tn tc, .slice S sn sc, .slice D dn dc] 61)) #[.slice D dn dc, .slice T tn tc] 24
  refine (Sum_two (w.heap.size + 1) _ _ _ _ _ _ _ d tb _ (hN.cell_at 0 _ rfl) (hN.cell_at 1 _ rfl) (HD.out.alloc _) (HT.out.alloc _) hd ht).mono ?_
  rw [HM.out]
  rintro _ w' ⟨rfl, rfl⟩
  clear hN
  go_wp2_with fail
  refine (Bytes_any m _ hs).mono ?_
  intro _ w2 hM
  obtain ⟨A2, c2, rfl, O2, B2⟩ := hM.at_ (n := 4) rfl
  have O3 := Lib.hid (own_mono (base' := w.heap.size) O2.out (by simp; omega))
  clear hM
  have HB := Lib.hid (below_step (below_step B0.out (below_new _ _)) B2.out)
  go_wp2
  go_ret
  exact ⟨A2, c2, rfl, O3.out, HB.out⟩
end Go.Proofs.Ytjahbpmkkfdimaa

/-
  Contracts of the contents' codewords and of page.Encode, over the landed code.
-/
namespace Go.Proofs.Ytjahbpmkkfdimaa
open Go.RowKit
set_option maxRecDepth 100000

/-- The codewords of the chunks, and that of the tag's bytes and the checksum's. -/
def wordsL (C K : Nat) (d tb sm : List Nat) : List Nat := catTo (fun i => encL (pieceL K d i)) C ++ encL (tb ++ sm)
theorem enc_len (K : Nat) (d : List Nat) (C : Nat) (hd : d.length = C * K) (k : Nat) (hk : k ≤ C) : (catTo (fun i => encL (pieceL K d i)) k).length = k * (K + 2) :=
  catTo_length _ (K + 2) k fun i hi => by rw [encL_length, pieceL_length K d i C hd (by omega)]
theorem enc_lt (K : Nat) (d : List Nat) (C : Nat) (hd : d.length = C * K) (hb : ∀ x ∈ d, x < 256) (hK : K ≤ 512) (k : Nat) (hk : k ≤ C) : ∀ x ∈ catTo (fun i => encL (pieceL K d i)) k, x < 256 :=
  catTo_lt _ k fun i hi => encL_lt _ (pieceL_lt K d i hb) (by rw [pieceL_length K d i C hd (by omega)]; exact hK)

set_option maxHeartbeats 2000000 in
theorem codewords_any (g : Gm) (h : g.ok = true) (C K : Nat) (hC : g.c = (C : Int)) (hK : g.k = (K : Int)) (T S D : Option Addr) (tc sc dn dc : Nat) (tb sm d : List Nat) (w : World) (hT : R8 w T 24 tb) (hS : R8 w S 4 sm) (hdn : dn = C * K) (hD : R8 w D dn d) (hdc : dn ≤ dc) :
    Calls Try.prog 29 #[.agg #[.slice T 24 tc, .slice S 4 sc, .slice D dn dc], g.val] w (PutsO (wordsL C K d tb sm) 0 w) := by
  obtain ⟨i0, ti, tz0, tz1, tz2⟩ := info_parts info_u8
  have HO := Lib.hid h
  have hbd := Gm.bounds_of h
  have HRw := Lib.hid (show g.raw = ((C * (K + 2) + 31 : Nat) : Int) by unfold Gm.raw; rw [if_pos h, hC, hK, Int.natCast_add, Int.natCast_mul, Int.natCast_add]; rfl)
  have HDl := Lib.hid (show d.length = C * K by rw [hD.len, hdn])
  have HDb := Lib.hid hD.2
  have HTb := Lib.hid hT.2
  have HSb := Lib.hid hS.2
  have HTl := Lib.hid hT.len
  have HSl := Lib.hid hS.len
  have HDn := Lib.hid hdn
  obtain ⟨a, HA⟩ : ∃ a, Hid (C * (K + 2) + 31 = a) := ⟨_, rfl⟩
  rw [HA.out] at HRw
  have ha2 : a ≤ 8255 := by
    have hc16 : C ≤ 16 := by omega
    have hk2 : K + 2 ≤ 514 := by omega
    have := Nat.mul_le_mul hc16 hk2
    have := HA.out
    omega
  have hdn2 : dn ≤ 8192 := by
    have hc16 : C ≤ 16 := by omega
    have hk2 : K ≤ 512 := by omega
    have := Nat.mul_le_mul hc16 hk2
    omega
  clear hdn h
  obtain ⟨p, b, s, gc, k, r, q⟩ := g
  simp only at hC hK hbd
  subst hC hK
  simp only [Gm.val]
  have B0 := Lib.hid (below_step (below_new w (.cells #[.slice T 24 tc, .slice S 4 sc, .slice D dn dc] 61)) (below_new _ (.cells #[.int .i64 p, .int .i64 b, .int .i64 s, .int .i64 C, .int .i64 K, .int .i64 r, .int .i64 q] 23)))
  have HT := Lib.hid (hT.below B0.out)
  have HS := Lib.hid (hS.below B0.out)
  have HD := Lib.hid (hD.below B0.out)
  clear hT hS hD
  have X0 := Lib.hid ((CRow.new w #[.slice T 24 tc, .slice S 4 sc, .slice D dn dc] 61).alloc (.cells #[.int .i64 p, .int .i64 b, .int .i64 s, .int .i64 C, .int .i64 K, .int .i64 r, .int .i64 q] 23))
  have Y0 : Hid (GBox ((w.alloc (.cells #[.slice T 24 tc, .slice S 4 sc, .slice D dn dc] 61)).alloc (.cells #[.int .i64 p, .int .i64 b, .int .i64 s, .int .i64 C, .int .i64 K, .int .i64 r, .int .i64 q] 23)) (w.heap.size + 1) ⟨p, b, s, C, K, r, q⟩) := Lib.hid (by simpa using GBox.new (w.alloc (.cells #[.slice T 24 tc, .slice S 4 sc, .slice D dn dc] 61)) ⟨p, b, s, C, K, r, q⟩ 23)
  go_enter Try.func29, Try.ntmps29
  go_wp2_with fail
  refine (Raw_is ⟨p, b, s, C, K, r, q⟩ _ HRw.out _).mono ?_
  rintro _ w1 ⟨rfl, h1⟩
  have B1 := Lib.hid (below_step B0.out h1)
  have X1 := Lib.hid (X0.out.below h1)
  have Y1 := Lib.hid (Y0.out.below h1)
  have HT1 := Lib.hid (HT.out.below h1)
  have HS1 := Lib.hid (HS.out.below h1)
  have HD1 := Lib.hid (HD.out.below h1)
  clear h1 X0 Y0 HT HS HD B0
  obtain ⟨w2, hmk, hown2, hg2⟩ := run_make_own (P := Try.prog) w1 w1.heap.size 24 5 i0 _ 1 Try.underlying24 ti tz0 tz1 .i64 .i64 a (by rw [tz2]; omega) (by unfold maxLen; omega) (Nat.le_refl _)
  have HB2 := Lib.hid ((Below.refl w1.heap.size w1).grown hg2 (Nat.le_refl _) (by simp))
  have HO2 := Lib.hid hown2
  have x2 : w2.cell? ⟨w.heap.size, 2, none⟩ = some (.slice D dn dc) := (X1.out.below HB2.out).cell_at 2 _ rfl
  clear hown2 hg2
  go_wp2
  clear hmk x2
  go_loopw [6, 7] (fun v rest wr => ∃ (k n' c' jn cv : Nat) (A' Av : Option Addr), k ≤ C ∧ n' ≤ 8192 ∧ jn ≤ 8255 ∧ n' ≤ c' ∧ rest = .slice A' n' c' ∧ v = .slice Av jn cv ∧ Hid (n' = (C - k) * K) ∧ Hid (jn = k * (K + 2)) ∧ Hid (R8 w1 A' n' (d.drop (k * K))) ∧ Hid (wr.ownsRow w1.heap.size 5 1 (.slice Av jn cv) jn (U8 (catTo (fun i => encL (pieceL K d i)) k))) ∧ Hid (Below w1.heap.size w1 wr))
    (fun _ rest _ => slLen rest)
  case atStart => exact ⟨0, dn, dc, 0, a, D, _, Nat.zero_le _, hdn2, by omega, hdc, rfl, rfl, by rw [HDn.out]; rfl, by rw [Nat.zero_mul]; rfl, by rw [Nat.zero_mul, List.drop_zero]; exact HD1.out, HO2, HB2⟩
  case round =>
    obtain ⟨k, n', c', jn, cv, A', Av, hk, hn', hjn, hnc, rfl, rfl, HN, HJ, HR, HOw, HBw⟩ := hrel
    by_cases hlt : k < C
    · have hKn : K ≤ n' := by
        rw [HN.out]
        exact Nat.le_trans (by omega) (Nat.mul_le_mul_right K (show 1 ≤ C - k by omega))
      have HN2 := Lib.hid (show n' - K = (C - (k + 1)) * K by
        rw [HN.out, show C - k = (C - (k + 1)) + 1 by omega, Nat.add_mul, Nat.one_mul, Nat.add_sub_cancel])
      have hJ2 : jn + (K + 2) ≤ 8255 := by
        have h1 : (k + 1) * (K + 2) ≤ C * (K + 2) := Nat.mul_le_mul_right _ hlt
        rw [Nat.add_mul, Nat.one_mul, ← HJ.out] at h1
        have := HA.out
        omega
      have HJ3 := Lib.hid (show jn + (K + 2) = (k + 1) * (K + 2) by rw [HJ.out, Nat.add_mul, Nat.one_mul])
      have hn0 : 0 < n' := by omega
      have hsl1 := run_slice_to (P := Try.prog) Try.underlying24 ti (by kernel_rfl) A' n' c' K (by omega)
      have hsl2 := run_sliceAt_to (P := Try.prog) Try.underlying24 ti (by kernel_rfl) A' n' c' K (by omega)
      have hsf1 := run_slice_from (P := Try.prog) Try.underlying24 ti (by kernel_rfl) A' n' c' K (by omega)
      have hsf2 := run_sliceAt_from (P := Try.prog) Try.underlying24 ti (by kernel_rfl) A' n' c' K (by omega)
      have HP := Lib.hid (show R8 wr A' K (pieceL K d k) from (HR.out.take_ K hKn).below HBw.out)
      have HR2 := Lib.hid (show R8 w1 (cutA A' c' K) (n' - K) (d.drop ((k + 1) * K)) by
        have := HR.out.cutA K c' hKn hnc
        rwa [List.drop_drop, show k * K + K = (k + 1) * K by rw [Nat.add_mul, Nat.one_mul]] at this)
      have hEn := Encode_any A' K c' (pieceL K d k) wr HP.out (by omega) (by omega)
      have HC1 := Lib.hid (catTo_succ (fun i => encL (pieceL K d i)) k)
      have HEl := Lib.hid (show (encL (pieceL K d k)).length = K + 2 by rw [encL_length, HP.out.len])
      obtain ⟨E, HE⟩ : ∃ E, Hid (encL (pieceL K d k) = E) := ⟨_, rfl⟩
      rw [HE.out] at hEn HEl
      simp only [HE.out] at HC1
      obtain ⟨_, _, _, _, _, y4, _, _⟩ := Y1.out.below HBw.out
      simp only at y4
      generalize cutA A' c' K = A5 at *
      obtain ⟨n5, h5⟩ : ∃ n5, n' - K = n5 := ⟨_, rfl⟩
      have h51 : n5 ≤ 8192 := by omega
      have h52 : n5 ≤ c' - K := by omega
      have h53 : n5 < n' := by omega
      rw [h5] at HN2 HR2 hsf1 hsf2
      clear h5
      go_wp2_with fail
      refine hEn.mono ?_
      intro en w3 hM
      obtain ⟨A3, c3, rfl, R3, hnil3, _, B3⟩ := hM.at_ HEl.out
      have HB3 := Lib.hid (below_step HBw.out B3.out)
      have HO3 := Lib.hid (own_below HOw.out B3.out)
      have hs3 := HB3.out.size
      clear hM hEn hsl1 hsl2 y4 B3
      go_wp2_with (at_builtin; refine wpList_append8 _ rfl (.tmp 35) (.tmp 36) _ rfl w1.heap.size 5 i0 Try.underlying24 ti tz0 tz1 tz2 _ _ _ rfl HO3.out _ _ _ E rfl hnil3.out R3.out (by omega) hs3 ?_)
      intro v4 w4 hown4 hg4
      obtain ⟨A4, c4, rfl⟩ := own_form hown4
      have HO4 := Lib.hid hown4
      have HB4 := Lib.hid (HB3.out.grown hg4 hs3 (fun j hj => (HO3.out.lt j hj).1))
      clear hown4 hg4
      obtain ⟨_, _, _, _, _, y4, _, _⟩ := Y1.out.below HB4.out
      simp only at y4
      go_wp2
      go_roundw
      case rel =>
        refine ⟨k + 1, n5, c' - K, jn + (K + 2), c4, A5, A4, by omega, h51, hJ2, h52, rfl, rfl, HN2, HJ3, HR2, ?_, HB4⟩
        have := HO4.out
        show w4.ownsRow w1.heap.size 5 1 (.slice A4 (jn + (K + 2)) c4) (jn + (K + 2)) (U8 (catTo (fun i => encL (pieceL K d i)) (k + 1)))
        rw [HC1.out]
        exact this
      case measure => simp [slLen]; omega
    · obtain rfl : k = C := by omega
      obtain rfl : n' = 0 := by rw [HN.out, Nat.sub_self, Nat.zero_mul]
      have hltX : w.heap.size < wr.heap.size := (X1.out.below HBw.out).lt
      have x0 : wr.cell? ⟨w.heap.size, 0, none⟩ = some (.slice T 24 tc) := (X1.out.below HBw.out).cell_at 0 _ rfl
      have x1 : wr.cell? ⟨w.heap.size, 1, none⟩ = some (.slice S 4 sc) := (X1.out.below HBw.out).cell_at 1 _ rfl
      have HTr := Lib.hid (HT1.out.below HBw.out)
      have HSr := Lib.hid (HS1.out.below HBw.out)
      have HTS := Lib.hid (show ∀ x ∈ tb ++ sm, x < 256 by
        intro x hx
        rw [List.mem_append] at hx
        exact hx.elim (HTb.out x) (HSb.out x))
      have HEl := Lib.hid (show (encL (tb ++ sm)).length = 30 by rw [encL_length, List.length_append, HTl.out, HSl.out])
      have HEb := Lib.hid (encL_lt (tb ++ sm) HTS.out (by rw [List.length_append, HTl.out, HSl.out]; omega))
      have hK5 : K ≤ 512 := by omega
      clear HRw HO HA HDn hdc hdn2 hbd HB2 HO2 HR HD1 HT1 HS1 X1 Y1
      go_wp2
      refine wp_region_noPanic ?_
      refine wp_region_held_drew (S := fun w' => Below wr.heap.size wr w') (by kernel_rfl) ((Below.refl _ _).drew) (fun C0 => ?_)
      refine wpAnyH_take (i := 0) (oi := { dst := some 39, op := Op.fieldAddr 61 (Operand.tmp 2) 0, type := 0, pos := "page.go:132", after := #[], guard := none }) (v := ?_) rfl (by kernel_rfl) (by kernel_rfl) (by kernel_rfl) (fun _ _ _ h => h) (Or.inl ⟨by rfl, ?_⟩) C0 ?_
      rotate_left
      · intro W' hSw
        clear hSw
        go_simp <;> with_reducible rfl
      try simp only [Act.put, List.setIfInBounds_toArray, List.set_cons_zero, List.set_cons_succ]
      refine wpAnyH_take (i := 1) (oi := { dst := some 40, op := Op.fieldAddr 59 (Operand.tmp 39) 0, type := 0, pos := "page.go:132", after := #[{ on := 0, ground := Ground.data }], guard := none }) (v := ?_) rfl (by kernel_rfl) (by kernel_rfl) (by kernel_rfl) (fun _ _ _ h => h) (Or.inl ⟨by rfl, ?_⟩) C0 ?_
      rotate_left
      · intro W' hSw
        clear hSw
        go_simp <;> with_reducible rfl
      try simp only [Act.put, List.setIfInBounds_toArray, List.set_cons_zero, List.set_cons_succ]
      refine wpAnyH_take (i := 2) (oi := { dst := some 41, op := Op.load 24 (Operand.tmp 40), type := 24, pos := "page.go:132", after := #[{ on := 1, ground := Ground.data }], guard := none }) (v := ?_) rfl (by kernel_rfl) (by kernel_rfl) (by kernel_rfl) (fun _ _ _ h => h) (Or.inl ⟨by rfl, ?_⟩) C0 ?_
      rotate_left
      · intro W' hSw
        have q0 := (hSw.cell (p := ⟨w.heap.size, 0, none⟩) hltX).trans x0
        clear hSw
        go_simp <;> with_reducible rfl
      try simp only [Act.put, List.setIfInBounds_toArray, List.set_cons_zero, List.set_cons_succ]
      refine wpAnyH_take (i := 4) (oi := { dst := some 43, op := Op.fieldAddr 61 (Operand.tmp 2) 0, type := 0, pos := "page.go:132", after := #[], guard := none }) (v := ?_) rfl (by kernel_rfl) (by kernel_rfl) (by kernel_rfl) (fun _ _ _ h => h) (Or.inl ⟨by rfl, ?_⟩) C0 ?_
      rotate_left
      · intro W' hSw
        clear hSw
        go_simp <;> with_reducible rfl
      try simp only [Act.put, List.setIfInBounds_toArray, List.set_cons_zero, List.set_cons_succ]
      refine wpAnyH_take (i := 5) (oi := { dst := some 44, op := Op.fieldAddr 59 (Operand.tmp 43) 1, type := 0, pos := "page.go:132", after := #[{ on := 4, ground := Ground.data }], guard := none }) (v := ?_) rfl (by kernel_rfl) (by kernel_rfl) (by kernel_rfl) (fun _ _ _ h => h) (Or.inl ⟨by rfl, ?_⟩) C0 ?_
      rotate_left
      · intro W' hSw
        clear hSw
        go_simp <;> with_reducible rfl
      try simp only [Act.put, List.setIfInBounds_toArray, List.set_cons_zero, List.set_cons_succ]
      refine wpAnyH_take (i := 6) (oi := { dst := some 45, op := Op.load 24 (Operand.tmp 44), type := 24, pos := "page.go:132", after := #[{ on := 5, ground := Ground.data }], guard := none }) (v := ?_) rfl (by kernel_rfl) (by kernel_rfl) (by kernel_rfl) (fun _ _ _ h => h) (Or.inl ⟨by rfl, ?_⟩) C0 ?_
      rotate_left
      · intro W' hSw
        have q1 := (hSw.cell (p := ⟨w.heap.size, 1, none⟩) hltX).trans x1
        clear hSw
        go_simp <;> with_reducible rfl
      try simp only [Act.put, List.setIfInBounds_toArray, List.set_cons_zero, List.set_cons_succ]
      refine wpAnyH_ready (rs := [3]) (by kernel_rfl) (by simp) ?_
      refine AllReadyH.cons (o := { dst := some 42, op := Op.call { callee := Callee.value (Operand.func 58), args := #[Operand.tmp 41], argTypes := #[24] }, type := 24, pos := "page.go:132", after := #[{ on := 2, ground := Ground.data }], guard := none }) rfl (fun K hK => ?_) AllReadyH.nil
      go_simp
      refine (BClone_any _ _ _ tb _ (HTr.out.below C0) (by omega)).mono ?_
      intro _ w3 hM
      obtain ⟨A3, c3, rfl, O3, D3⟩ := hM.at_ HTl.out
      have hB := D3.out
      clear hM D3
      go_wp2_with fail
      refine hK.out _ _ (C0.trans (hB.mono C0.size)) (fun C1 => ?_)
      clear hK K hB
      try simp only [Act.put, List.setIfInBounds_toArray, List.set_cons_zero, List.set_cons_succ]
      refine wpAnyH_ready (rs := [7]) (by kernel_rfl) (by simp) ?_
      refine AllReadyH.cons (o := { dst := some 46, op := Op.call { callee := Callee.builtin Builtin.append, args := #[Operand.tmp 42, Operand.tmp 45], argTypes := #[24, 24] }, type := 24, pos := "page.go:132", after := #[{ on := 3, ground := Ground.data }, { on := 6, ground := Ground.data }, { on := 3, ground := Ground.chain }], guard := none }) rfl (fun K hK => ?_) AllReadyH.nil
      rw [if_pos (by rfl)]
      refine wp_append8 w3 (.tmp 42) (.tmp 45) _ rfl wr.heap.size 5 i0 Try.underlying24 ti tz0 tz1 tz2 _ 24 tb rfl O3.out _ 4 _ sm rfl (HSr.out.below C1) (by omega) (by omega) C1.size ?_
      intro v4 w4 hown4 hg4
      obtain ⟨A4, c4, rfl⟩ := own_form hown4
      have O4 := Lib.hid hown4
      refine hK.out _ _ (C1.grown hg4 C1.size (fun j hj => (O3.out.lt j hj).1)) (fun C2 => ?_)
      clear hK K hown4 hg4
      try simp only [Act.put, List.setIfInBounds_toArray, List.set_cons_zero, List.set_cons_succ]
      refine wpAnyH_ready (rs := [8]) (by kernel_rfl) (by simp) ?_
      refine AllReadyH.cons (o := { dst := some 47, op := Op.call { callee := Callee.value (Operand.func 57), args := #[Operand.tmp 46], argTypes := #[24] }, type := 30, pos := "page.go:132", after := #[{ on := 7, ground := Ground.data }, { on := 7, ground := Ground.chain }], guard := none }) rfl (fun K hK => ?_) AllReadyH.nil
      go_simp
      refine (Encode_any _ 28 _ (tb ++ sm) _ (R8.own O4.out HTS.out) (by omega) (by omega)).mono ?_
      intro _ w5 hM
      obtain ⟨A5, c5, rfl, R5, hnil5, _, D5⟩ := hM.at_ HEl.out
      have hB := D5.out
      clear hM D5
      go_wp2_with fail
      refine hK.out _ _ (C2.trans (hB.mono C2.size)) (fun C3 => ?_)
      clear hK K hB
      try simp only [Act.put, List.setIfInBounds_toArray, List.set_cons_zero, List.set_cons_succ]
      refine wpAnyH_take (i := 9) (oi := { dst := some 38, op := Op.move (Operand.tmp 47), type := 30, pos := "page.go:132", after := #[{ on := 8, ground := Ground.data }], guard := none }) (v := ?_) rfl (by kernel_rfl) (by kernel_rfl) (by kernel_rfl) (fun _ _ _ h => h) (Or.inl ⟨by rfl, ?_⟩) C3 ?_
      rotate_left
      · intro W' hSw
        clear hSw
        go_simp <;> with_reducible rfl
      try simp only [Act.put, List.setIfInBounds_toArray, List.set_cons_zero, List.set_cons_succ]
      refine wpAnyH_take (i := 10) (oi := { dst := some 48, op := Op.extract (Operand.tmp 38) 0, type := 24, pos := "page.go:132", after := #[{ on := 9, ground := Ground.data }], guard := none }) (v := ?_) rfl (by kernel_rfl) (by kernel_rfl) (by kernel_rfl) (fun _ _ _ h => h) (Or.inl ⟨by rfl, ?_⟩) C3 ?_
      rotate_left
      · intro W' hSw
        clear hSw
        go_simp <;> with_reducible rfl
      try simp only [Act.put, List.setIfInBounds_toArray, List.set_cons_zero, List.set_cons_succ]
      refine wpAnyH_take (i := 11) (oi := { dst := some 49, op := Op.extract (Operand.tmp 38) 1, type := 29, pos := "page.go:132", after := #[{ on := 9, ground := Ground.data }, { on := 12, ground := Ground.gcOnly Departure.lateStores }], guard := none }) (v := ?_) rfl (by kernel_rfl) (by kernel_rfl) (by kernel_rfl) (fun _ _ _ h => h) (Or.inl ⟨by rfl, ?_⟩) C3 ?_
      rotate_left
      · intro W' hSw
        clear hSw
        go_simp <;> with_reducible rfl
      try simp only [Act.put, List.setIfInBounds_toArray, List.set_cons_zero, List.set_cons_succ]
      refine wpAnyH_take (i := 12) (oi := { dst := some 10, op := Op.assign (Operand.tmp 48), type := 24, pos := "page.go:132", after := #[{ on := 10, ground := Ground.data }, { on := 8, ground := Ground.chain }, { on := 0, ground := Ground.phase }, { on := 1, ground := Ground.phase }, { on := 2, ground := Ground.phase }, { on := 3, ground := Ground.phase }, { on := 4, ground := Ground.phase }, { on := 5, ground := Ground.phase }, { on := 6, ground := Ground.phase }, { on := 7, ground := Ground.phase }, { on := 8, ground := Ground.phase }, { on := 9, ground := Ground.phase }, { on := 10, ground := Ground.phase }, { on := 11, ground := Ground.textOnly Departure.lateStores }], guard := none }) (v := ?_) rfl (by kernel_rfl) (by kernel_rfl) (by kernel_rfl) (fun _ _ _ h => h) (Or.inl ⟨by rfl, ?_⟩) C3 ?_
      rotate_left
      · intro W' hSw
        clear hSw
        go_simp <;> with_reducible rfl
      try simp only [Act.put, List.setIfInBounds_toArray, List.set_cons_zero, List.set_cons_succ]
      refine wpAnyH_take (i := 13) (oi := { dst := some 11, op := Op.assign (Operand.tmp 49), type := 29, pos := "page.go:132", after := #[{ on := 11, ground := Ground.data }, { on := 12, ground := Ground.chain }, { on := 0, ground := Ground.phase }, { on := 1, ground := Ground.phase }, { on := 2, ground := Ground.phase }, { on := 3, ground := Ground.phase }, { on := 4, ground := Ground.phase }, { on := 5, ground := Ground.phase }, { on := 6, ground := Ground.phase }, { on := 7, ground := Ground.phase }, { on := 8, ground := Ground.phase }, { on := 9, ground := Ground.phase }, { on := 10, ground := Ground.phase }, { on := 11, ground := Ground.phase }, { on := 12, ground := Ground.phase }], guard := none }) (v := ?_) rfl (by kernel_rfl) (by kernel_rfl) (by kernel_rfl) (fun _ _ _ h => h) (Or.inl ⟨by rfl, ?_⟩) C3 ?_
      rotate_left
      · intro W' hSw
        clear hSw
        go_simp <;> with_reducible rfl
      try simp only [Act.put, List.setIfInBounds_toArray, List.set_cons_zero, List.set_cons_succ]
      refine wpAnyH_done (by kernel_rfl) ?_ _
      refine NoPanic.normal ?_
      have HO5 := Lib.hid (own_below HOw.out C3)
      have HB5 := Lib.hid (below_step HBw.out C3)
      have hs5 := HB5.out.size
      clear C0 C1 C2 C3 x0 x1
      go_wp2_with (at_builtin; refine wpList_append8 _ rfl (.tmp 53) (.tmp 54) _ rfl w1.heap.size 5 i0 Try.underlying24 ti tz0 tz1 tz2 _ _ _ rfl HO5.out _ _ _ (encL (tb ++ sm)) rfl hnil5.out R5.out (by omega) hs5 ?_)
      intro v6 w6 hown6 hg6
      obtain ⟨A6, c6, rfl⟩ := own_form hown6
      have O6 := Lib.hid hown6
      have HB6 := Lib.hid (HB5.out.grown hg6 hs5 (fun j hj => (HO5.out.lt j hj).1))
      clear hown6 hg6
      go_wp2
      go_ret2
      have e1 : (wordsL k K d tb sm).length = jn + 30 := by unfold wordsL; rw [List.length_append, enc_len K d k HDl.out k (Nat.le_refl _), HEl.out, HJ.out]
      refine ⟨A6, c6, by rw [e1]; rfl, ?_, ?_, below_step B1.out HB6.out⟩
      · rw [e1]
        exact own_mono O6.out B1.out.size
      · unfold wordsL
        intro x hx
        rw [List.mem_append] at hx
        exact hx.elim (enc_lt K d k HDl.out HDb.out hK5 k (Nat.le_refl _) x) (HEb.out x)
end Go.Proofs.Ytjahbpmkkfdimaa

/-
  Contract of page.Encode, over the landed code.
-/
namespace Go.Proofs.Ytjahbpmkkfdimaa
open Go.RowKit
set_option maxRecDepth 100000

/-- A tag in the block behind a geometry's. -/
theorem TBox.second (w : World) (o : Obj) (t : Tg) (u : TypeId) : TBox ((w.alloc o).alloc (.cells #[.int .i64 t.k, .int .i64 t.s, .int .i64 t.q, .int .i64 t.e] u)) (w.heap.size + 1) t := by
  simpa using TBox.new (w.alloc o) t u

set_option maxHeartbeats 1000000 in
theorem PageEnc_no (g : Gm) (t : Tg) (D : Option Addr) (dn dc : Nat) (h : ¬ (g.ok = true ∧ (dn : Int) = g.data ∧ t.ok = true)) (w : World) :
    Calls Try.prog 10 #[g.val, .slice D dn dc, t.val] w (Gives (.tuple #[.slice none 0 0, .int .i64 2]) w) := by
  cases ho : g.ok
  · have HO := Lib.hid ho
    clear ho h
    obtain ⟨p, b, s, gc, k, r, q⟩ := g
    obtain ⟨tk, ts, tq, te⟩ := t
    simp only [Gm.val, Tg.val]
    have B0 := Lib.hid (below_step (below_new w (.cells #[.int .i64 p, .int .i64 b, .int .i64 s, .int .i64 gc, .int .i64 k, .int .i64 r, .int .i64 q] 23)) (below_new _ (.cells #[.int .i64 tk, .int .i64 ts, .int .i64 tq, .int .i64 te] 26)))

    go_enter Try.func10, Try.ntmps10
    go_wp2_with fail
    refine (Check_no ⟨p, b, s, gc, k, r, q⟩ HO.out _).mono ?_
    rintro _ w1 ⟨rfl, h1⟩
    have B1 := Lib.hid (below_step B0.out h1)
    clear h1
    go_wp2
    go_ret2
    exact ⟨rfl, B1.out⟩
  · have HO := Lib.hid ho
    obtain ⟨m, HD⟩ : ∃ m, Hid (g.data = m) := ⟨_, rfl⟩
    rw [ho, HD.out] at h
    clear ho
    by_cases hn : (dn : Int) = m
    · have ht : t.ok = false := by
        cases hh : t.ok
        · rfl
        · exact absurd ⟨rfl, hn, hh⟩ h
      have HT := Lib.hid ht
      clear h ht
      obtain ⟨p, b, s, gc, k, r, q⟩ := g
      obtain ⟨tk, ts, tq, te⟩ := t
      simp only [Gm.val, Tg.val]
      have B0 := Lib.hid (below_step (below_new w (.cells #[.int .i64 p, .int .i64 b, .int .i64 s, .int .i64 gc, .int .i64 k, .int .i64 r, .int .i64 q] 23)) (below_new _ (.cells #[.int .i64 tk, .int .i64 ts, .int .i64 tq, .int .i64 te] 26)))

      go_enter Try.func10, Try.ntmps10
      go_wp2_with fail
      refine (Check_yes ⟨p, b, s, gc, k, r, q⟩ HO.out _).mono ?_
      rintro _ w1 ⟨rfl, h1⟩
      have B1 := Lib.hid (below_step B0.out h1)
      obtain ⟨hlt, g0, g1, g2, g3, g4, g5, g6⟩ := ((GBox.new w ⟨p, b, s, gc, k, r, q⟩ 23).below (below_new _ (.cells #[.int .i64 tk, .int .i64 ts, .int .i64 tq, .int .i64 te] 26))).below h1
      simp only at g0 g1 g2 g3 g4 g5 g6
      have X1 := Lib.hid ((TBox.second w (.cells #[.int .i64 p, .int .i64 b, .int .i64 s, .int .i64 gc, .int .i64 k, .int .i64 r, .int .i64 q] 23) ⟨tk, ts, tq, te⟩ 26).below h1)
      clear h1
      go_wp2_with fail
      refine (Data_is ⟨p, b, s, gc, k, r, q⟩ _ HD.out _).mono ?_
      rintro _ w2 ⟨rfl, h2⟩
      have B2 := Lib.hid (below_step B1.out h2)
      obtain ⟨_, x0, x1, x2, x3⟩ := X1.out.below h2
      simp only at x0 x1 x2 x3
      clear h2 g0 g1 g2 g3 g4 g5 g6
      go_wp2_with fail
      refine (TagPut_no ⟨tk, ts, tq, te⟩ HT.out _).mono ?_
      intro _ w3 hM
      obtain ⟨A3, c3, rfl, _, D3, _, _⟩ := hM.at_ rfl
      have B3 := Lib.hid (below_step B2.out D3.out)
      clear hM x0 x1 x2 x3 D3
      go_wp2
      go_ret2
      exact ⟨rfl, B3.out⟩
    · have hne : ((dn : Int) != m) = true := by simpa using hn
      clear h hn
      obtain ⟨p, b, s, gc, k, r, q⟩ := g
      obtain ⟨tk, ts, tq, te⟩ := t
      simp only [Gm.val, Tg.val]
      have B0 := Lib.hid (below_step (below_new w (.cells #[.int .i64 p, .int .i64 b, .int .i64 s, .int .i64 gc, .int .i64 k, .int .i64 r, .int .i64 q] 23)) (below_new _ (.cells #[.int .i64 tk, .int .i64 ts, .int .i64 tq, .int .i64 te] 26)))

      go_enter Try.func10, Try.ntmps10
      go_wp2_with fail
      refine (Check_yes ⟨p, b, s, gc, k, r, q⟩ HO.out _).mono ?_
      rintro _ w1 ⟨rfl, h1⟩
      have B1 := Lib.hid (below_step B0.out h1)
      obtain ⟨hlt, g0, g1, g2, g3, g4, g5, g6⟩ := ((GBox.new w ⟨p, b, s, gc, k, r, q⟩ 23).below (below_new _ (.cells #[.int .i64 tk, .int .i64 ts, .int .i64 tq, .int .i64 te] 26))).below h1
      simp only at g0 g1 g2 g3 g4 g5 g6
      clear h1
      go_wp2_with fail
      refine (Data_is ⟨p, b, s, gc, k, r, q⟩ _ HD.out _).mono ?_
      rintro _ w2 ⟨rfl, h2⟩
      have B2 := Lib.hid (below_step B1.out h2)
      clear h2 g0 g1 g2 g3 g4 g5 g6
      go_wp2
      go_ret2
      exact ⟨rfl, B2.out⟩

set_option maxHeartbeats 2000000 in
theorem PageEnc_yes (g : Gm) (h : g.ok = true) (C K : Nat) (hC : g.c = (C : Int)) (hK : g.k = (K : Int)) (t : Tg) (ht : t.ok = true) (D : Option Addr) (dn dc : Nat) (hdn : dn = C * K) (d : List Nat) (w : World) (hD : R8 w D dn d) (hdc : dn ≤ dc) :
    Calls Try.prog 10 #[g.val, .slice D dn dc, t.val] w (Ret2 (pageL C K d t.bytes) 0 w) := by
  obtain ⟨i0, ti, tz0, tz1, tz2⟩ := info_parts info_u8
  have HO := Lib.hid h
  have hbd := Gm.bounds_of h
  have HDa := Lib.hid (show g.data = (dn : Int) by unfold Gm.data; rw [if_pos h, hC, hK, hdn, Int.natCast_mul])
  have HT := Lib.hid ht
  have HTl := Lib.hid t.bytes_len
  have hdn0 : 0 < dn := by
    rw [hdn]
    exact Nat.mul_pos (by omega) (by omega)
  have hdn2 : dn ≤ 8192 := by
    have hc16 : C ≤ 16 := by omega
    have hk2 : K ≤ 512 := by omega
    have := Nat.mul_le_mul hc16 hk2
    omega
  have HPk := Lib.hid (pageOk C K d t (by omega) (by omega) (by rw [hD.len, hdn]) hD.2)
  have HPE := Lib.hid (pageL_eq C K d t.bytes)
  have HPl := Lib.hid (pageL_length HPk.out)
  have HPb := Lib.hid (pageL_lt HPk.out)
  have HDn := Lib.hid hdn
  have HWl := Lib.hid (show (wordsL C K d t.bytes (le4 (sumL (d ++ t.bytes)))).length = C * (K + 2) + 30 by
    unfold wordsL
    rw [List.length_append, enc_len K d C (by rw [hD.len, hdn]) C (Nat.le_refl _), encL_length, List.length_append, HTl.out, le4_length])
  have hCK : C * (K + 2) ≤ 8224 := by
    have hc16 : C ≤ 16 := by omega
    have hk2 : K + 2 ≤ 514 := by omega
    have := Nat.mul_le_mul hc16 hk2
    omega
  obtain ⟨a, HA⟩ : ∃ a, Hid (C * (K + 2) = a) := ⟨_, rfl⟩
  rw [HA.out] at hCK HWl HPl
  have HDD := Lib.hid hD
  obtain ⟨tb, HTb⟩ : ∃ tb, Hid (t.bytes = tb) := ⟨_, rfl⟩
  have hPut := TagPut_yes t ht
  rw [HTb.out] at HTl HPE HPl HPb HWl hPut ⊢
  clear hD h ht hdn
  have HCC := Lib.hid hC
  have HKK := Lib.hid hK
  clear hC hK hbd
  have hCk := Check_yes g HO.out
  have hDt := Data_is g _ HDa.out
  have hCw := fun T S tc sc sm w' h1 h2 h3 => codewords_any g HO.out C K HCC.out HKK.out T S D tc sc dn dc tb sm d w' h1 h2 HDn.out h3 hdc
  obtain ⟨p, b, s, gc, k, r, q⟩ := g
  obtain ⟨tk, ts, tq, te⟩ := t
  simp only [Gm.val, Tg.val] at hCk hDt hCw hPut ⊢
  have B0 := Lib.hid (below_step (below_new w (.cells #[.int .i64 p, .int .i64 b, .int .i64 s, .int .i64 gc, .int .i64 k, .int .i64 r, .int .i64 q] 23)) (below_new _ (.cells #[.int .i64 tk, .int .i64 ts, .int .i64 tq, .int .i64 te] 26)))
  go_enter Try.func10, Try.ntmps10
  go_wp2_with fail
  refine (hCk _).mono ?_
  rintro _ w1 ⟨rfl, h1⟩
  have B1 := Lib.hid (below_step B0.out h1)
  have Y1 := Lib.hid (((GBox.new w ⟨p, b, s, gc, k, r, q⟩ 23).below (below_new _ (.cells #[.int .i64 tk, .int .i64 ts, .int .i64 tq, .int .i64 te] 26))).below h1)
  have X1 := Lib.hid ((TBox.second w (.cells #[.int .i64 p, .int .i64 b, .int .i64 s, .int .i64 gc, .int .i64 k, .int .i64 r, .int .i64 q] 23) ⟨tk, ts, tq, te⟩ 26).below h1)
  obtain ⟨hlt, g0, g1, g2, g3, g4, g5, g6⟩ := Y1.out
  simp only at g0 g1 g2 g3 g4 g5 g6
  clear h1 hCk
  go_wp2_with fail
  refine (hDt _).mono ?_
  rintro _ w2 ⟨rfl, h2⟩
  have B2 := Lib.hid (below_step B1.out h2)
  have Y2 := Lib.hid (Y1.out.below h2)
  obtain ⟨_, x0, x1, x2, x3⟩ := X1.out.below h2
  simp only at x0 x1 x2 x3
  clear h2 g0 g1 g2 g3 g4 g5 g6 hDt Y1 X1 B1
  go_wp2_with fail
  refine (hPut _).mono ?_
  intro _ w3 hM
  obtain ⟨A3, c3, rfl, R3, D3, _, _⟩ := hM.at_ HTl.out
  have B3 := Lib.hid (below_step B2.out D3.out)
  have Y3 := Lib.hid (Y2.out.below D3.out)
  have hltg : w.heap.size < w3.heap.size := Y3.out.1
  clear hM x0 x1 x2 x3 D3 hPut Y2 B2
  have X4 := Lib.hid (CRow.new w3 #[.slice A3 24 c3, .slice none 0 0, .slice D dn dc] 61)
  have R4 := Lib.hid (R3.out.below (below_new w3 (.cells #[.slice A3 24 c3, .slice none 0 0, .slice D dn dc] 61)))
  have B4 := Lib.hid (below_step B3.out (below_new w3 (.cells #[.slice A3 24 c3, .slice none 0 0, .slice D dn dc] 61)))
  have Y4 := Lib.hid (Y3.out.below (below_new w3 (.cells #[.slice A3 24 c3, .slice none 0 0, .slice D dn dc] 61)))
  have D4 := Lib.hid (HDD.out.below B4.out)
  go_wp2_with fail
  refine (checksum_any A3 none D 24 c3 0 0 dn dc tb d _ R4.out D4.out (by omega) (by omega)).mono ?_
  intro _ w5 hM
  obtain ⟨A5, c5, rfl, O5, D5⟩ := hM.at_ (n := 4) rfl
  have hlt5 : w3.heap.size < w5.heap.size := (X4.out.below D5.out).lt
  have hne5 : w.heap.size ≠ w3.heap.size := by omega
  have B5 := Lib.hid (below_step B4.out D5.out)
  have X6 := Lib.hid ((X4.out.below D5.out).setCell 1 (.slice A5 4 c5))
  have Y6 := Lib.hid ((Y4.out.below D5.out).setCell_other (p := ⟨w3.heap.size, 1, none⟩) hne5 (.slice A5 4 c5))
  have R6 := Lib.hid ((R4.out.below D5.out).setCell (p := ⟨w3.heap.size, 1, none⟩) (fun b off e => Nat.ne_of_lt (R3.out.lt_block (by omega) b off e)) (.slice A5 4 c5))
  have D6 := Lib.hid ((D4.out.below D5.out).setCell (p := ⟨w3.heap.size, 1, none⟩) (fun b off e => Nat.ne_of_lt (Nat.lt_trans (HDD.out.lt_block hdn0 b off e) hltg)) (.slice A5 4 c5))
  have S6 := Lib.hid ((R8.own O5.out (le4_lt _)).setCell (p := ⟨w3.heap.size, 1, none⟩) (fun b off e => by have h9 := own_block O5.out b off e; simp at h9; show b ≠ w3.heap.size; omega) (.slice A5 4 c5))
  have B6 := Lib.hid (B5.out.setCell (p := ⟨w3.heap.size, 1, none⟩) (Nat.le_of_lt hltg) (.slice A5 4 c5))
  have x5 : w5.cell? ⟨w3.heap.size, 1, none⟩ = some (.slice none 0 0) := (X4.out.below D5.out).cell_at 1 _ rfl
  have x50 : w5.cell? ⟨w3.heap.size, 0, none⟩ = some (.slice A3 24 c3) := (X4.out.below D5.out).cell_at 0 _ rfl
  have x52 : w5.cell? ⟨w3.heap.size, 2, none⟩ = some (.slice D dn dc) := (X4.out.below D5.out).cell_at 2 _ rfl
  obtain ⟨_, g0, g1, g2, g3, g4, g5, g6⟩ := Y4.out.below D5.out
  simp only at g0 g1 g2 g3 g4 g5 g6
  have hne6 := hne5.symm
  have f5 := (X4.out.below D5.out).frozen 1
  clear hM X4 Y4 R4 D4 D5 B5 B4
  go_wp2_with fail
  refine (hCw A3 A5 c3 c5 _ _ R6.out S6.out D6.out).mono ?_
  intro _ w7 hM
  obtain ⟨A7, c7, rfl, R7, D7, _, _, O7⟩ := hM.at_ HWl.out
  have B7 := Lib.hid (below_step B6.out D7.out)
  have O8 := Lib.hid (own_mono (base' := w.heap.size) O7.out B6.out.size)
  have hs7 := B7.out.size
  clear hM hCw R6 S6 D6 X6 Y6 B6 D7 O7 R7 x5 x50 x52 g0 g1 g2 g3 g4 g5 g6 f5
  go_wp2_with (at_builtin; refine wpList_append8 _ rfl (.tmp 47) (.tmp 48) _ rfl w.heap.size 5 i0 Try.underlying24 ti tz0 tz1 tz2 _ _ _ rfl (O8.out.alloc _) _ _ _ [255] rfl (fun h => by cases h) (one_byte w7 255 _ (by omega)) (by omega) (by simp; omega) ?_)
  intro v9 w9 hown9 hg9
  obtain ⟨A9, c9, rfl⟩ := own_form hown9
  have O9 := Lib.hid hown9
  have B9 := Lib.hid ((B7.out.alloc hs7 _).grown hg9 (by simp; omega) (fun j hj => (O8.out.lt j hj).1))
  clear hown9 hg9
  go_wp2
  go_ret2
  have e1 : U8 (wordsL C K d tb (le4 (sumL (d ++ tb))) ++ [255]) = U8 (pageL C K d tb) := by rw [HPE.out]; unfold wordsL; rw [List.append_assoc]
  have O10 := O9.out
  rw [e1] at O10
  exact ⟨A9, c9, by rw [HPl.out]; rfl, by rw [HPl.out]; exact R8.own O10 HPb.out, own_nil O10, by rw [HPl.out]; exact own_cap O10, B9.out⟩
end Go.Proofs.Ytjahbpmkkfdimaa

/-
  Contracts of the parts' read and of page.Decode, over the landed code.
-/
namespace Go.Proofs.Ytjahbpmkkfdimaa
open Go.RowKit
set_option maxRecDepth 100000

/-- What read hands back where it did: the contents, in parts. -/
def Reads (d b : List Nat) (f : Nat) (w : World) (en : Ending) (w' : World) : Prop :=
  ∃ T S D tc sc dc, en = .returned (.tuple #[.agg #[.slice T 24 tc, .slice S 4 sc, .slice D d.length dc], .int .i64 (f : Int), .int .i64 0]) ∧ R8 w' T 24 (b.take 24) ∧ R8 w' S 4 (b.drop 24) ∧ R8 w' D d.length d ∧ 24 ≤ tc ∧ Below w.heap.size w w'

set_option maxHeartbeats 1000000 in
theorem read_chunks (g : Gm) (hg : g.ok = true) (C K : Nat) (hC : g.c = (C : Int)) (hK : g.k = (K : Int)) (A1 A2 A3 : Option Addr) (a c1 c2 n3 c3 : Nat) (ch lab : List Nat) (w : World) (hch : R8 w A1 a ch) (hlab : R8 w A2 30 lab) (ha : a = C * (K + 2)) (hc1 : a ≤ c1) (d : List Nat) (n e : Nat) (hA : allL (piecesL (K + 2) ch C) = (d, n, e)) (he : e ≠ 0) :
    Calls Try.prog 40 #[.agg #[.slice A1 a c1, .slice A2 30 c2, .slice A3 n3 c3], g.val] w (Gives (.tuple #[.agg #[.slice none 0 0, .slice none 0 0, .slice none 0 0], .int .i64 0, .int .i64 (e : Int)]) w) := by
  have hbd := Gm.bounds_of hg
  have ha2 : a ≤ 8224 := by
    have hc16 : C ≤ 16 := by omega
    have hk2 : K + 2 ≤ 514 := by omega
    have := Nat.mul_le_mul hc16 hk2
    omega
  have hAll := fun w' (h : R8 w' A1 a ch) => All_yes A1 a c1 K C ch w' h hc1 (by omega) (by omega) ha (by omega)
  rw [hA] at hAll
  simp only at hAll
  have hne : ((e : Int) != 0) = true := by simp; omega
  clear hA ha hC hbd
  have HG := Lib.hid hg
  obtain ⟨p, b, s, gc, k, r, q⟩ := g
  simp only at hK
  subst hK
  simp only [Gm.val]
  have B0 := Lib.hid (below_step (below_step (below_new w (.cells #[.slice A1 a c1, .slice A2 30 c2, .slice A3 n3 c3] 72)) (below_new _ (.cells #[.int .i64 p, .int .i64 b, .int .i64 s, .int .i64 gc, .int .i64 K, .int .i64 r, .int .i64 q] 23))) (below_new _ (.cells #[.slice none 0 0, .slice none 0 0, .slice none 0 0] 61)))
  have T0 : Hid (CRow (((w.alloc (.cells #[.slice A1 a c1, .slice A2 30 c2, .slice A3 n3 c3] 72)).alloc (.cells #[.int .i64 p, .int .i64 b, .int .i64 s, .int .i64 gc, .int .i64 K, .int .i64 r, .int .i64 q] 23)).alloc (.cells #[.slice none 0 0, .slice none 0 0, .slice none 0 0] 61)) (w.heap.size + 2) 61 #[.slice none 0 0, .slice none 0 0, .slice none 0 0]) := Lib.hid (by simpa using CRow.new ((w.alloc (.cells #[.slice A1 a c1, .slice A2 30 c2, .slice A3 n3 c3] 72)).alloc (.cells #[.int .i64 p, .int .i64 b, .int .i64 s, .int .i64 gc, .int .i64 K, .int .i64 r, .int .i64 q] 23)) #[.slice none 0 0, .slice none 0 0, .slice none 0 0] 61)
  have X0 := Lib.hid (((CRow.new w #[.slice A1 a c1, .slice A2 30 c2, .slice A3 n3 c3] 72).alloc (.cells #[.int .i64 p, .int .i64 b, .int .i64 s, .int .i64 gc, .int .i64 K, .int .i64 r, .int .i64 q] 23)).alloc (.cells #[.slice none 0 0, .slice none 0 0, .slice none 0 0] 61))
  have R1 := Lib.hid (hch.below B0.out)
  have R2 := Lib.hid (hlab.below B0.out)
  clear hch hlab hg
  go_enter Try.func40, Try.ntmps40
  go_wp2_with fail
  refine (hAll _ R1.out).mono ?_
  intro _ w1 hM
  obtain ⟨A4, c4, rfl, _, _, D1⟩ := hM.at_ rfl
  have B1 := Lib.hid (below_step B0.out D1.out)
  have T1 := Lib.hid (T0.out.below D1.out)
  clear hM hAll D1 T0 B0 X0
  go_wp2_with (with_reducible refine (?_ : wpList _ _ _ ({ dst := _, op := Op.store 61 _ _, type := _, pos := _, after := _, guard := _ } :: _) _ _); refine wpList_store_at rfl 61 _ _ rfl 3 size_contents _ (w.heap.size + 2) ?hx rfl _ T1.out.row ?hn ?ho ?h1 ?_; (case hx => simp [Act.eval]); (case hn => simp); (case ho => simp); (case h1 => simp [Value.oneCell']))
  have B9 := Lib.hid (below_setRow B1.out (show w.heap.size ≤ w.heap.size + 2 by omega) #[.slice none 0 0, .slice none 0 0, .slice none 0 0])
  have T9 := Lib.hid (T1.out.set #[.slice none 0 0, .slice none 0 0, .slice none 0 0])
  go_wp2
  refine bodyPost_ret (results_ctt_row rfl _ _ (w.heap.size + 2) 61 _ (0, 0) _ rfl T9.out.row Try.underlying61 rfl size_contents) rfl ?_
  exact ⟨rfl, B9.out⟩

set_option maxHeartbeats 1000000 in
theorem read_label (g : Gm) (hg : g.ok = true) (C K : Nat) (hC : g.c = (C : Int)) (hK : g.k = (K : Int)) (A1 A2 A3 : Option Addr) (a c1 c2 n3 c3 : Nat) (ch lab : List Nat) (w : World) (hch : R8 w A1 a ch) (hlab : R8 w A2 30 lab) (ha : a = C * (K + 2)) (hc1 : a ≤ c1) (hc2 : 30 ≤ c2) (d bs : List Nat) (n m e : Nat) (hA : allL (piecesL (K + 2) ch C) = (d, n, 0)) (hB : decL lab = (bs, m, e)) (he : e ≠ 0) :
    Calls Try.prog 40 #[.agg #[.slice A1 a c1, .slice A2 30 c2, .slice A3 n3 c3], g.val] w (Gives (.tuple #[.agg #[.slice none 0 0, .slice none 0 0, .slice none 0 0], .int .i64 0, .int .i64 (e : Int)]) w) := by
  have hbd := Gm.bounds_of hg
  have ha2 : a ≤ 8224 := by
    have hc16 : C ≤ 16 := by omega
    have hk2 : K + 2 ≤ 514 := by omega
    have := Nat.mul_le_mul hc16 hk2
    omega
  have hAll := fun w' (h : R8 w' A1 a ch) => All_yes A1 a c1 K C ch w' h hc1 (by omega) (by omega) ha (by omega)
  rw [hA] at hAll
  simp only at hAll
  have hne : ((e : Int) != 0) = true := by simp; omega
  have hDec := fun w' (h : R8 w' A2 30 lab) => Decode_any_c A2 30 c2 lab w' h hc2 (by omega)
  rw [hB] at hDec
  simp only at hDec
  clear hA ha hC hbd hB
  have HG := Lib.hid hg
  obtain ⟨p, b, s, gc, k, r, q⟩ := g
  simp only at hK
  subst hK
  simp only [Gm.val]
  have B0 := Lib.hid (below_step (below_step (below_new w (.cells #[.slice A1 a c1, .slice A2 30 c2, .slice A3 n3 c3] 72)) (below_new _ (.cells #[.int .i64 p, .int .i64 b, .int .i64 s, .int .i64 gc, .int .i64 K, .int .i64 r, .int .i64 q] 23))) (below_new _ (.cells #[.slice none 0 0, .slice none 0 0, .slice none 0 0] 61)))
  have T0 : Hid (CRow (((w.alloc (.cells #[.slice A1 a c1, .slice A2 30 c2, .slice A3 n3 c3] 72)).alloc (.cells #[.int .i64 p, .int .i64 b, .int .i64 s, .int .i64 gc, .int .i64 K, .int .i64 r, .int .i64 q] 23)).alloc (.cells #[.slice none 0 0, .slice none 0 0, .slice none 0 0] 61)) (w.heap.size + 2) 61 #[.slice none 0 0, .slice none 0 0, .slice none 0 0]) := Lib.hid (by simpa using CRow.new ((w.alloc (.cells #[.slice A1 a c1, .slice A2 30 c2, .slice A3 n3 c3] 72)).alloc (.cells #[.int .i64 p, .int .i64 b, .int .i64 s, .int .i64 gc, .int .i64 K, .int .i64 r, .int .i64 q] 23)) #[.slice none 0 0, .slice none 0 0, .slice none 0 0] 61)
  have X0 := Lib.hid (((CRow.new w #[.slice A1 a c1, .slice A2 30 c2, .slice A3 n3 c3] 72).alloc (.cells #[.int .i64 p, .int .i64 b, .int .i64 s, .int .i64 gc, .int .i64 K, .int .i64 r, .int .i64 q] 23)).alloc (.cells #[.slice none 0 0, .slice none 0 0, .slice none 0 0] 61))
  have R1 := Lib.hid (hch.below B0.out)
  have R2 := Lib.hid (hlab.below B0.out)
  clear hch hlab hg
  go_enter Try.func40, Try.ntmps40
  go_wp2_with fail
  refine (hAll _ R1.out).mono ?_
  intro _ w1 hM
  obtain ⟨A4, c4, rfl, _, _, D1⟩ := hM.at_ rfl
  have B1 := Lib.hid (below_step B0.out D1.out)
  have T1 := Lib.hid (T0.out.below D1.out)
  have R3 := Lib.hid (R2.out.below D1.out)
  have x1 : w1.cell? ⟨w.heap.size, 1, none⟩ = some (.slice A2 30 c2) := (X0.out.below D1.out).cell_at 1 _ rfl
  clear hM hAll D1 T0 B0 X0 R1 R2
  go_wp2_with fail
  refine (hDec _ R3.out).mono ?_
  intro _ w2 hM
  obtain ⟨A5, c5, rfl, _, _, _, D2⟩ := hM.at_ rfl
  have B2 := Lib.hid (below_step B1.out D2.out)
  have T2 := Lib.hid (T1.out.below D2.out)
  clear hM hDec D2 T1 B1 R3 x1
  go_wp2_with (with_reducible refine (?_ : wpList _ _ _ ({ dst := _, op := Op.store 61 _ _, type := _, pos := _, after := _, guard := _ } :: _) _ _); refine wpList_store_at rfl 61 _ _ rfl 3 size_contents _ (w.heap.size + 2) ?hx rfl _ T2.out.row ?hn ?ho ?h1 ?_; (case hx => simp [Act.eval]); (case hn => simp); (case ho => simp); (case h1 => simp [Value.oneCell']))
  have B9 := Lib.hid (below_setRow B2.out (show w.heap.size ≤ w.heap.size + 2 by omega) #[.slice none 0 0, .slice none 0 0, .slice none 0 0])
  have T9 := Lib.hid (T2.out.set #[.slice none 0 0, .slice none 0 0, .slice none 0 0])
  go_wp2
  refine bodyPost_ret (results_ctt_row rfl _ _ (w.heap.size + 2) 61 _ (0, 0) _ rfl T9.out.row Try.underlying61 rfl size_contents) rfl ?_
  exact ⟨rfl, B9.out⟩

set_option maxHeartbeats 2000000 in
theorem read_ok (g : Gm) (hg : g.ok = true) (C K : Nat) (hC : g.c = (C : Int)) (hK : g.k = (K : Int)) (A1 A2 A3 : Option Addr) (a c1 c2 n3 c3 : Nat) (ch lab : List Nat) (w : World) (hch : R8 w A1 a ch) (hlab : R8 w A2 30 lab) (ha : a = C * (K + 2)) (hc1 : a ≤ c1) (hc2 : 30 ≤ c2) (d bs : List Nat) (n m : Nat) (hA : allL (piecesL (K + 2) ch C) = (d, n, 0)) (hB : decL lab = (bs, m, 0)) :
    Calls Try.prog 40 #[.agg #[.slice A1 a c1, .slice A2 30 c2, .slice A3 n3 c3], g.val] w (Reads d bs (n + m) w) := by
  obtain ⟨i0, ti, tz0, tz1, tz2⟩ := info_parts info_u8
  have hbd := Gm.bounds_of hg
  have ha2 : a ≤ 8224 := by
    have hc16 : C ≤ 16 := by omega
    have hk2 : K + 2 ≤ 514 := by omega
    have := Nat.mul_le_mul hc16 hk2
    omega
  have hAll := fun w' (h : R8 w' A1 a ch) => All_yes A1 a c1 K C ch w' h hc1 (by omega) (by omega) ha (by omega)
  rw [hA] at hAll
  simp only at hAll
  have hDec := fun w' (h : R8 w' A2 30 lab) => Decode_any_c A2 30 c2 lab w' h hc2 (by omega)
  have hbl : bs.length = 28 := by
    have := decL_len lab (by rw [hlab.len]; omega) (by rw [hlab.len]; omega) (by rw [hB])
    rw [hB, hlab.len] at this
    exact this
  have hm1 : m ≤ 1 := by
    have := (decL_facts lab hlab.2).2.2.1
    rwa [hB] at this
  have hn1 : n ≤ 16 := by
    have hf := joinD_facts (piecesL (K + 2) ch C) (K + 2) (piecesL_facts (K + 2) ch C C (by rw [hch.len, ha]) (Nat.le_refl _) hch.2)
    rw [piecesL_length] at hf
    have h2 : n ≤ C := by
      unfold allL at hA
      split at hA
      · simp at hA; omega
      · simp at hA; omega
    omega
  have hdl : d.length ≤ 1099511627776 := by
    have hf := joinD_facts (piecesL (K + 2) ch C) (K + 2) (piecesL_facts (K + 2) ch C C (by rw [hch.len, ha]) (Nat.le_refl _) hch.2)
    rw [piecesL_length] at hf
    unfold allL at hA
    split at hA
    · simp at hA; rw [hA.1]; simp
    · simp at hA; rw [← hA.1]; omega
  rw [hB] at hDec
  simp only at hDec
  have HBL := Lib.hid hbl
  obtain ⟨dn, HDn⟩ : ∃ dn, Hid (d.length = dn) := ⟨_, rfl⟩
  rw [HDn.out] at hdl
  clear hA ha hC hbd hB hbl
  have HG := Lib.hid hg
  obtain ⟨p, b, s, gc, k, r, q⟩ := g
  simp only at hK
  subst hK
  simp only [Gm.val]
  have B0 := Lib.hid (below_step (below_step (below_new w (.cells #[.slice A1 a c1, .slice A2 30 c2, .slice A3 n3 c3] 72)) (below_new _ (.cells #[.int .i64 p, .int .i64 b, .int .i64 s, .int .i64 gc, .int .i64 K, .int .i64 r, .int .i64 q] 23))) (below_new _ (.cells #[.slice none 0 0, .slice none 0 0, .slice none 0 0] 61)))
  have T0 : Hid (CRow (((w.alloc (.cells #[.slice A1 a c1, .slice A2 30 c2, .slice A3 n3 c3] 72)).alloc (.cells #[.int .i64 p, .int .i64 b, .int .i64 s, .int .i64 gc, .int .i64 K, .int .i64 r, .int .i64 q] 23)).alloc (.cells #[.slice none 0 0, .slice none 0 0, .slice none 0 0] 61)) (w.heap.size + 2) 61 #[.slice none 0 0, .slice none 0 0, .slice none 0 0]) := Lib.hid (by simpa using CRow.new ((w.alloc (.cells #[.slice A1 a c1, .slice A2 30 c2, .slice A3 n3 c3] 72)).alloc (.cells #[.int .i64 p, .int .i64 b, .int .i64 s, .int .i64 gc, .int .i64 K, .int .i64 r, .int .i64 q] 23)) #[.slice none 0 0, .slice none 0 0, .slice none 0 0] 61)
  have X0 := Lib.hid (((CRow.new w #[.slice A1 a c1, .slice A2 30 c2, .slice A3 n3 c3] 72).alloc (.cells #[.int .i64 p, .int .i64 b, .int .i64 s, .int .i64 gc, .int .i64 K, .int .i64 r, .int .i64 q] 23)).alloc (.cells #[.slice none 0 0, .slice none 0 0, .slice none 0 0] 61))
  have R1 := Lib.hid (hch.below B0.out)
  have R2 := Lib.hid (hlab.below B0.out)
  clear hch hlab hg
  go_enter Try.func40, Try.ntmps40
  go_wp2_with fail
  refine (hAll _ R1.out).mono ?_
  intro _ w1 hM
  obtain ⟨A4, c4, rfl, R4, _, D1⟩ := hM.at_ HDn.out
  have B1 := Lib.hid (below_step B0.out D1.out)
  have T1 := Lib.hid (T0.out.below D1.out)
  have R3 := Lib.hid (R2.out.below D1.out)
  have x1 : w1.cell? ⟨w.heap.size, 1, none⟩ = some (.slice A2 30 c2) := (X0.out.below D1.out).cell_at 1 _ rfl
  clear hM hAll D1 T0 B0 X0 R1 R2
  go_wp2_with fail
  refine (hDec _ R3.out).mono ?_
  intro _ w2 hM
  obtain ⟨A5, c5, rfl, R5, _, hc5, D2⟩ := hM.at_ HBL.out
  have B2 := Lib.hid (below_step B1.out D2.out)
  have T2 := Lib.hid (T1.out.below D2.out)
  have R6 := Lib.hid (R4.out.below D2.out)
  clear hM hDec D2 T1 B1 R3 x1 R4
  have hsl1 := run_slice_to (P := Try.prog) Try.underlying24 ti (by kernel_rfl) A5 28 c5 24 (by omega)
  have hsl2 := run_sliceAt_to (P := Try.prog) Try.underlying24 ti (by kernel_rfl) A5 28 c5 24 (by omega)
  have hsf1 := run_slice_from (P := Try.prog) Try.underlying24 ti (by kernel_rfl) A5 28 c5 24 (by omega)
  have hsf2 := run_sliceAt_from (P := Try.prog) Try.underlying24 ti (by kernel_rfl) A5 28 c5 24 (by omega)
  simp only [Nat.reduceSub, Int.cast_ofNat_Int] at hsl1 hsl2 hsf1 hsf2
  have R7 := Lib.hid (show R8 w2 (cutA A5 c5 24) 4 (bs.drop 24) from R5.out.cutA 24 c5 (by omega) hc5)
  have R8' := Lib.hid (R5.out.take_ 24 (by omega))
  generalize cutA A5 c5 24 = A6 at *
  go_wp2
  refine wp_region_noPanic ?_
  refine wp_region_held_drew (S := fun w' => Below w.heap.size w w') (by kernel_rfl) B2.out.drew (fun C0 => ?_)
  refine wpAnyH_take (i := 0) (oi := { dst := some 35, op := Op.move (Operand.tmp 7), type := 24, pos := "page.go:167", after := #[], guard := none }) (v := ?_) rfl (by kernel_rfl) (by kernel_rfl) (by kernel_rfl) (fun _ _ _ h => h) (Or.inl ⟨by rfl, ?_⟩) C0 ?_
  rotate_left
  · intro W' hSw
    clear hSw
    go_simp <;> with_reducible rfl
  try simp only [Act.put, List.setIfInBounds_toArray, List.set_cons_zero, List.set_cons_succ]
  refine wpAnyH_take (i := 1) (oi := { dst := some 36, op := Op.move (Operand.tmp 9), type := 24, pos := "page.go:167", after := #[], guard := none }) (v := ?_) rfl (by kernel_rfl) (by kernel_rfl) (by kernel_rfl) (fun _ _ _ h => h) (Or.inl ⟨by rfl, ?_⟩) C0 ?_
  rotate_left
  · intro W' hSw
    clear hSw
    go_simp <;> with_reducible rfl
  try simp only [Act.put, List.setIfInBounds_toArray, List.set_cons_zero, List.set_cons_succ]
  refine wpAnyH_take (i := 2) (oi := { dst := some 37, op := Op.slice 24 (Operand.tmp 36) none (some (Operand.const (Value.int IntKind.i64 24))) none, type := 24, pos := "page.go:167", after := #[{ on := 1, ground := Ground.data }], guard := none }) (v := ?_) rfl (by kernel_rfl) (by kernel_rfl) (by kernel_rfl) (fun _ _ _ h => h) (Or.inl ⟨by rfl, ?_⟩) C0 ?_
  rotate_left
  · intro W' hSw
    clear hSw
    go_simp <;> with_reducible rfl
  try simp only [Act.put, List.setIfInBounds_toArray, List.set_cons_zero, List.set_cons_succ]
  refine wpAnyH_take (i := 3) (oi := { dst := some 38, op := Op.move (Operand.tmp 9), type := 24, pos := "page.go:167", after := #[], guard := none }) (v := ?_) rfl (by kernel_rfl) (by kernel_rfl) (by kernel_rfl) (fun _ _ _ h => h) (Or.inl ⟨by rfl, ?_⟩) C0 ?_
  rotate_left
  · intro W' hSw
    clear hSw
    go_simp <;> with_reducible rfl
  try simp only [Act.put, List.setIfInBounds_toArray, List.set_cons_zero, List.set_cons_succ]
  refine wpAnyH_take (i := 4) (oi := { dst := some 39, op := Op.slice 24 (Operand.tmp 38) (some (Operand.const (Value.int IntKind.i64 24))) none none, type := 24, pos := "page.go:167", after := #[{ on := 3, ground := Ground.data }], guard := none }) (v := ?_) rfl (by kernel_rfl) (by kernel_rfl) (by kernel_rfl) (fun _ _ _ h => h) (Or.inl ⟨by rfl, ?_⟩) C0 ?_
  rotate_left
  · intro W' hSw
    clear hSw
    go_simp <;> with_reducible rfl
  try simp only [Act.put, List.setIfInBounds_toArray, List.set_cons_zero, List.set_cons_succ]
  refine wpAnyH_take (i := 5) (oi := { dst := some 40, op := Op.build 59 #[(0, Operand.tmp 37), (1, Operand.tmp 39)], type := 59, pos := "page.go:167", after := #[{ on := 2, ground := Ground.data }, { on := 4, ground := Ground.data }], guard := none }) (v := ?_) rfl (by kernel_rfl) (by kernel_rfl) (by kernel_rfl) (fun _ _ _ h => h) (Or.inl ⟨by rfl, ?_⟩) C0 ?_
  rotate_left
  · intro W' hSw
    clear hSw
    go_simp <;> with_reducible rfl
  try simp only [Act.put, List.setIfInBounds_toArray, List.set_cons_zero, List.set_cons_succ]
  refine wpAnyH_take (i := 6) (oi := { dst := some 41, op := Op.build 61 #[(1, Operand.tmp 35), (0, Operand.tmp 40)], type := 61, pos := "page.go:167", after := #[{ on := 0, ground := Ground.data }, { on := 5, ground := Ground.data }], guard := none }) (v := ?_) rfl (by kernel_rfl) (by kernel_rfl) (by kernel_rfl) (fun _ _ _ h => h) (Or.inl ⟨by rfl, ?_⟩) C0 ?_
  rotate_left
  · intro W' hSw
    clear hSw
    go_simp <;> with_reducible rfl
  try simp only [Act.put, List.setIfInBounds_toArray, List.set_cons_zero, List.set_cons_succ]
  refine wpAnyH_ready (rs := [7]) (by kernel_rfl) (by simp) ?_
  refine AllReadyH.cons (o := { dst := none, op := Op.store 61 (Operand.tmp 4) (Operand.tmp 41), type := 0, pos := "page.go:167", after := #[{ on := 6, ground := Ground.data }, { on := 0, ground := Ground.phase }, { on := 1, ground := Ground.phase }, { on := 2, ground := Ground.phase }, { on := 3, ground := Ground.phase }, { on := 4, ground := Ground.phase }, { on := 5, ground := Ground.phase }, { on := 6, ground := Ground.phase }], guard := none }) rfl (fun K hK => ?_) AllReadyH.nil
  rw [if_pos (by rfl)]
  refine wp_store_row 61 _ _ rfl (w.heap.size + 2) #[.slice A5 24 c5, .slice A6 4 (c5 - 24), .slice A4 dn c4] (by simp [Act.eval]) rfl 61 _ T2.out.drew.row size_contents (by simp) (by simp [Value.oneCell']) ?_
  refine hK.out _ _ (below_setRow C0 (by omega) _) (fun C1 => ?_)
  clear hK K
  try simp only [Act.put]
  refine wpAnyH_done (by kernel_rfl) ?_ _
  refine NoPanic.normal ?_
  have T3 := Lib.hid (T2.out.drew.set #[.slice A5 24 c5, .slice A6 4 (c5 - 24), .slice A4 dn c4])
  have Q1 := Lib.hid (R8.setRow (w := w2.drew) R8'.out T2.out.drew (by intro v hv; simp at hv; subst hv; simp) #[.slice A5 24 c5, .slice A6 4 (c5 - 24), .slice A4 dn c4])
  have Q2 := Lib.hid (R8.setRow (w := w2.drew) R7.out T2.out.drew (by intro v hv; simp at hv; subst hv; simp) #[.slice A5 24 c5, .slice A6 4 (c5 - 24), .slice A4 dn c4])
  have Q3 := Lib.hid (R8.setRow (w := w2.drew) R6.out T2.out.drew (by intro v hv; simp at hv; subst hv; simp) #[.slice A5 24 c5, .slice A6 4 (c5 - 24), .slice A4 dn c4])
  have B3 := Lib.hid C1
  generalize w2.drew.setRow (w.heap.size + 2) #[.slice A5 24 c5, .slice A6 4 (c5 - 24), .slice A4 dn c4] = W3 at *
  clear C1 C0 B2 T2 R8' R7 R6 R5 hsl1 hsl2 hsf1 hsf2
  have y0 : W3.cell? ⟨w.heap.size + 1 + 1, 0, none⟩ = some (.slice A5 24 c5) := T3.out.cell_at 0 _ rfl
  have y1 : W3.cell? ⟨w.heap.size + 1 + 1, 1, none⟩ = some (.slice A6 4 (c5 - 24)) := T3.out.cell_at 1 _ rfl
  have y2 : W3.cell? ⟨w.heap.size + 1 + 1, 2, none⟩ = some (.slice A4 dn c4) := T3.out.cell_at 2 _ rfl
  go_wp2_with (with_reducible refine (?_ : wpList _ _ _ ({ dst := _, op := Op.store 61 _ _, type := _, pos := _, after := _, guard := _ } :: _) _ _); refine wpList_store_at rfl 61 _ _ rfl 3 size_contents _ (w.heap.size + 1 + 1) ?hx rfl _ T3.out.row ?hn ?ho ?h1 ?_; (case hx => simp [Act.eval]); (case hn => simp); (case ho => simp); (case h1 => simp [Value.oneCell']))
  have T4 := Lib.hid (T3.out.set #[.slice A5 24 c5, .slice A6 4 (c5 - 24), .slice A4 dn c4])
  have P1 := Lib.hid (R8.setRow Q1.out T3.out (by intro v hv; simp at hv; rcases hv with rfl | rfl | rfl <;> simp) #[.slice A5 24 c5, .slice A6 4 (c5 - 24), .slice A4 dn c4])
  have P2 := Lib.hid (R8.setRow Q2.out T3.out (by intro v hv; simp at hv; rcases hv with rfl | rfl | rfl <;> simp) #[.slice A5 24 c5, .slice A6 4 (c5 - 24), .slice A4 dn c4])
  have P3 := Lib.hid (R8.setRow Q3.out T3.out (by intro v hv; simp at hv; rcases hv with rfl | rfl | rfl <;> simp) #[.slice A5 24 c5, .slice A6 4 (c5 - 24), .slice A4 dn c4])
  have B4 := Lib.hid (below_setRow B3.out (show w.heap.size ≤ w.heap.size + 2 by omega) #[.slice A5 24 c5, .slice A6 4 (c5 - 24), .slice A4 dn c4])
  have hsum : (n : Int) + (m : Int) = ((n + m : Nat) : Int) := by omega
  clear y0 y1 y2 Q1 Q2 Q3 T3 B3
  go_wp2
  refine bodyPost_ret (results_ctt_row rfl _ _ (w.heap.size + 2) 61 _ (0, 0) _ rfl T4.out.row Try.underlying61 rfl size_contents) rfl ?_
  refine ⟨A5, A6, A4, c5, c5 - 24, c4, ?_, P1.out, P2.out, by rw [HDn.out]; exact P3.out, by omega, B4.out⟩
  rw [HDn.out]
  rfl
end Go.Proofs.Ytjahbpmkkfdimaa

/-
  Contract of page.Decode, over the landed code.
-/
namespace Go.Proofs.Ytjahbpmkkfdimaa
open Go.RowKit
set_option maxRecDepth 100000

/-- It returns bytes, a tag, a state and an error, and nothing that was there has turned. -/
def Ret4 (d : List Nat) (t : Tg) (s : Nat) (e : Int) (w : World) (en : Ending) (w' : World) : Prop :=
  ∃ A c, en = .returned (.tuple #[.slice A d.length c, t.val, .int .i64 (s : Int), .int .i64 e]) ∧ R8 w' A d.length d ∧ Below w.heap.size w w'
theorem Ret4.at_ {d : List Nat} {t : Tg} {s n : Nat} {e : Int} {w w' : World} {en : Ending} (h : Ret4 d t s e w en w') (hl : d.length = n) : ∃ A c, en = .returned (.tuple #[.slice A n c, t.val, .int .i64 (s : Int), .int .i64 e]) ∧ Hid (R8 w' A n d) ∧ Hid (Below w.heap.size w w') := by
  subst hl
  exact h
theorem four {d d' : List Nat} {t t' : Tg} {s s' : Nat} {e e' : Int} (h : (d, t, s, e) = (d', t', s', e')) : d = d' ∧ t = t' ∧ s = s' ∧ e = e' := by
  simp only [Prod.mk.injEq] at h
  exact h

set_option maxHeartbeats 1000000 in
theorem PageDec_no (g : Gm) (A : Option Addr) (n c : Nat) (hcut : ∀ w', Calls Try.prog 38 #[g.val, .slice A n c] w' (Gives (.tuple #[.agg #[.slice none 0 0, .slice none 0 0, .slice none 0 0], .bool false]) w')) (w : World) :
    Calls Try.prog 18 #[g.val, .slice A n c] w (Ret4 [] Tg.zero 0 2 w) := by
  obtain ⟨p, b, s, gc, k, r, q⟩ := g
  simp only [Gm.val] at hcut ⊢
  go_enter Try.func18, Try.ntmps18
  go_wp2_with fail
  refine (hcut _).mono ?_
  rintro _ w1 ⟨rfl, h1⟩
  have B1 := Lib.hid (below_step (below_step (below_step (below_new w _) (below_new _ _)) h1) (below_new _ (.cells #[.slice none 0 0, .slice none 0 0, .slice none 0 0] 72)))
  have T1 : Hid (CRow (w1.alloc (.cells #[.slice none 0 0, .slice none 0 0, .slice none 0 0] 72)) (w.heap.size + 1) 26 #[.int .i64 0, .int .i64 0, .int .i64 0, .int .i64 0]) := Lib.hid ((show CRow w1 (w.heap.size + 1) 26 #[.int .i64 0, .int .i64 0, .int .i64 0, .int .i64 0] by simpa using (CRow.new (w.alloc (.cells #[.int .i64 p, .int .i64 b, .int .i64 s, .int .i64 gc, .int .i64 k, .int .i64 r, .int .i64 q] 23)) #[.int .i64 0, .int .i64 0, .int .i64 0, .int .i64 0] 26).below h1).alloc _)
  clear h1 hcut
  go_wp2_with (with_reducible refine (?_ : wpList _ _ _ ({ dst := _, op := Op.store 26 _ _, type := _, pos := _, after := _, guard := _ } :: _) _ _); refine wpList_store_at rfl 26 _ _ rfl 4 size_tag _ (w.heap.size + 1) ?hx rfl _ T1.out.row ?hn ?ho ?h1 ?_; (case hx => simp [Act.eval]); (case hn => simp); (case ho => simp); (case h1 => simp [Value.oneCell']))
  have B9 := Lib.hid (below_setRow B1.out (Nat.le_succ _) #[.int .i64 0, .int .i64 0, .int .i64 0, .int .i64 0])
  have T9 := Lib.hid (T1.out.set #[.int .i64 0, .int .i64 0, .int .i64 0, .int .i64 0])
  go_wp2
  refine bodyPost_ret (results_tctt_row rfl _ _ (w.heap.size + 1) 26 _ (0, 0) _ rfl T9.out.row Try.underlying26 rfl size_tag) rfl ?_
  exact ⟨none, 0, rfl, ⟨Rd.nil_, fun x hx => by cases hx⟩, B9.out⟩

set_option maxHeartbeats 4000000 in
theorem PageDec_yes (g : Gm) (h : g.ok = true) (C K : Nat) (hC : g.c = (C : Int)) (hK : g.k = (K : Int)) (A : Option Addr) (n c : Nat) (hn : n = C * (K + 2) + 31) (hcap : n ≤ c) (l : List Nat) (w : World) (hr : R8 w A n l) :
    Calls Try.prog 18 #[g.val, .slice A n c] w (Ret4 (decP C K l).1 (decP C K l).2.1 (decP C K l).2.2.1 (decP C K l).2.2.2 w) := by
  have hcut := cut_yes g h C K hC hK A n c hn hcap
  have hbd := Gm.bounds_of h
  obtain ⟨a, HA⟩ : ∃ a, Hid (C * (K + 2) = a) := ⟨_, rfl⟩
  have ha2 : a ≤ 8224 := by
    have hc16 : C ≤ 16 := by omega
    have hk2 : K + 2 ≤ 514 := by omega
    have := Nat.mul_le_mul hc16 hk2
    rw [HA.out] at this
    omega
  rw [HA.out] at hn hcut
  have HCH := Lib.hid (hr.take_ a (by omega))
  have HLB := Lib.hid (show R8 w (cutA A c a) 30 ((l.drop a).take 30) from (hr.cutA a c (by omega) hcap).take_ 30 (by omega))
  obtain ⟨V, HV⟩ : ∃ V, Hid (decP C K l = V) := ⟨_, rfl⟩
  rw [HV.out]
  have HV1 := HV.out
  unfold decP at HV1
  rw [HA.out] at HV1
  have HVQ := Lib.hid HV1
  clear HV1 HV
  obtain ⟨vd, vt, vs, ve⟩ := V
  simp only
  have hrd1 := fun A3 n3 c3 w' h1 h2 => read_chunks g h C K hC hK A (cutA A c a) A3 a c (c - a) n3 c3 (l.take a) ((l.drop a).take 30) w' h1 h2 HA.out.symm (by omega)
  have hrd2 := fun A3 n3 c3 w' h1 h2 => read_label g h C K hC hK A (cutA A c a) A3 a c (c - a) n3 c3 (l.take a) ((l.drop a).take 30) w' h1 h2 HA.out.symm (by omega) (by omega)
  have hrd3 := fun A3 n3 c3 w' h1 h2 => read_ok g h C K hC hK A (cutA A c a) A3 a c (c - a) n3 c3 (l.take a) ((l.drop a).take 30) w' h1 h2 HA.out.symm (by omega) (by omega)
  have hdl : ∀ d n1, allL (piecesL (K + 2) (l.take a) C) = (d, n1, 0) → d.length ≤ 1099511627776 := by
    intro d n1 hA
    have hf := joinD_facts (piecesL (K + 2) (l.take a) C) (K + 2) (piecesL_facts (K + 2) _ C C (by rw [HCH.out.len, HA.out]) (Nat.le_refl _) HCH.out.2)
    rw [piecesL_length, HA.out] at hf
    unfold allL at hA
    split at hA
    · simp at hA; rw [hA.1]; simp
    · simp at hA; rw [← hA.1]; omega
  generalize l.take a = ch at *
  generalize (l.drop a).take 30 = lab at *
  generalize cutA A c a = A1 at *
  generalize cutA A c (n - 1) = A2 at *
  generalize c - a = c1 at *
  generalize c - (n - 1) = c2 at *
  have HRD1 := Lib.hid hrd1
  have HRD2 := Lib.hid hrd2
  have HRD3 := Lib.hid hrd3
  have HDL := Lib.hid hdl
  clear hr hrd1 hrd2 hrd3 hdl hbd hn hcap h hC hK
  obtain ⟨p, b, s, gc, k, r, q⟩ := g
  simp only [Gm.val] at hcut HRD1 HRD2 HRD3 ⊢
  go_enter Try.func18, Try.ntmps18
  go_wp2_with fail
  refine (hcut _).mono ?_
  rintro _ w1 ⟨rfl, h1⟩
  have B1 := Lib.hid (below_step (below_step (below_step (below_new w _) (below_new _ _)) h1) (below_new _ (.cells #[.slice A a c, .slice A1 30 c1, .slice A2 1 c2] 72)))
  have T1 : Hid (CRow (w1.alloc (.cells #[.slice A a c, .slice A1 30 c1, .slice A2 1 c2] 72)) (w.heap.size + 1) 26 #[.int .i64 0, .int .i64 0, .int .i64 0, .int .i64 0]) := Lib.hid ((show CRow w1 (w.heap.size + 1) 26 #[.int .i64 0, .int .i64 0, .int .i64 0, .int .i64 0] by simpa using (CRow.new (w.alloc (.cells #[.int .i64 p, .int .i64 b, .int .i64 s, .int .i64 gc, .int .i64 k, .int .i64 r, .int .i64 q] 23)) #[.int .i64 0, .int .i64 0, .int .i64 0, .int .i64 0] 26).below h1).alloc _)
  have Y1 := Lib.hid ((((GBox.new w ⟨p, b, s, gc, k, r, q⟩ 23).below (below_new _ (.cells #[.int .i64 0, .int .i64 0, .int .i64 0, .int .i64 0] 26))).below h1).below (below_new _ (.cells #[.slice A a c, .slice A1 30 c1, .slice A2 1 c2] 72)))
  have X1 := Lib.hid (CRow.new w1 #[.slice A a c, .slice A1 30 c1, .slice A2 1 c2] 72)
  have L1 := Lib.hid (HLB.out.below B1.out)
  clear h1 hcut
  go_wp2_with fail
  by_cases hemp : 220 ≤ ones lab
  · refine (empty_is A A1 A2 a c 30 c1 1 c2 lab true _ L1.out (by omega) (decide_eq_true (by omega))).mono ?_
    rintro _ w2 ⟨rfl, h2⟩
    have B2 := Lib.hid (below_step B1.out h2)
    have T2 := Lib.hid (T1.out.below h2)
    clear h2
    obtain ⟨rfl, rfl, rfl, rfl⟩ := four (HVQ.out.symm.trans (decQ_empty hemp))
    go_wp2_with (with_reducible refine (?_ : wpList _ _ _ ({ dst := _, op := Op.store 26 _ _, type := _, pos := _, after := _, guard := _ } :: _) _ _); refine wpList_store_at rfl 26 _ _ rfl 4 size_tag _ (w.heap.size + 1) ?hx rfl _ T2.out.row ?hn ?ho ?h1 ?_; (case hx => simp [Act.eval]); (case hn => simp); (case ho => simp); (case h1 => simp [Value.oneCell']))
    have B9 := Lib.hid (below_setRow B2.out (Nat.le_succ _) #[.int .i64 0, .int .i64 0, .int .i64 0, .int .i64 0])
    have T9 := Lib.hid (T2.out.set #[.int .i64 0, .int .i64 0, .int .i64 0, .int .i64 0])
    go_wp2
    refine bodyPost_ret (results_tctt_row rfl _ _ (w.heap.size + 1) 26 _ (0, 0) _ rfl T9.out.row Try.underlying26 rfl size_tag) rfl ?_
    exact ⟨none, 0, rfl, ⟨Rd.nil_, fun x hx => by cases hx⟩, B9.out⟩
  · refine (empty_is A A1 A2 a c 30 c1 1 c2 lab false _ L1.out (by omega) (decide_eq_false (by omega))).mono ?_
    rintro _ w2 ⟨rfl, h2⟩
    have B2 := Lib.hid (below_step B1.out h2)
    have T2 := Lib.hid (T1.out.below h2)
    have Y2 := Lib.hid (Y1.out.below h2)
    have X2 := Lib.hid (X1.out.below h2)
    have L2 := Lib.hid (L1.out.below h2)
    have C2 := Lib.hid (HCH.out.below B2.out)
    have HE := Lib.hid hemp
    obtain ⟨_, g0, g1, g2, g3, g4, g5, g6⟩ := Y2.out
    simp only at g0 g1 g2 g3 g4 g5 g6
    have x0 : w2.cell? ⟨w1.heap.size, 0, none⟩ = some (.slice A a c) := X2.out.cell_at 0 _ rfl
    have x1 : w2.cell? ⟨w1.heap.size, 1, none⟩ = some (.slice A1 30 c1) := X2.out.cell_at 1 _ rfl
    have x2 : w2.cell? ⟨w1.heap.size, 2, none⟩ = some (.slice A2 1 c2) := X2.out.cell_at 2 _ rfl
    clear h2 hemp B1 T1 Y1 X1 L1
    go_wp2_with fail
    clear g0 g1 g2 g3 g4 g5 g6 x0 x1 x2 X2 Y2
    obtain ⟨⟨d, n1, e1⟩, HAl⟩ : ∃ x, Hid (allL (piecesL (K + 2) ch C) = x) := ⟨_, rfl⟩
    by_cases he1 : e1 = 0
    · subst he1
      obtain ⟨⟨bs, m, e2⟩, HDe⟩ : ∃ x, Hid (decL lab = x) := ⟨_, rfl⟩
      by_cases he2 : e2 = 0
      · subst he2
        obtain ⟨f, HF⟩ : ∃ f, Hid (n1 + m = f) := ⟨_, rfl⟩
        have hR3 := HRD3.out A2 1 c2 _ C2.out L2.out d bs n1 m HAl.out HDe.out
        rw [HF.out] at hR3
        refine hR3.mono ?_
        clear hR3
        rintro _ w3 ⟨T, S, D, tc, sc, dc, rfl, hT, hS, hD, htc, h3⟩
        obtain ⟨dn, HDn⟩ : ∃ dn, Hid (d.length = dn) := ⟨_, rfl⟩
        rw [HDn.out] at hD ⊢
        have hdn := HDL.out d n1 HAl.out
        rw [HDn.out] at hdn
        have B3 := Lib.hid (below_step (below_step B2.out h3) (below_new w3 (.cells #[.slice T 24 tc, .slice S 4 sc, .slice D dn dc] 61)))
        have T3 := Lib.hid ((T2.out.below h3).alloc (.cells #[.slice T 24 tc, .slice S 4 sc, .slice D dn dc] 61))
        have X3 := Lib.hid (CRow.new w3 #[.slice T 24 tc, .slice S 4 sc, .slice D dn dc] 61)
        have hltB : w.heap.size + 1 < w3.heap.size := (T2.out.below h3).lt
        have RT := Lib.hid (hT.alloc (.cells #[.slice T 24 tc, .slice S 4 sc, .slice D dn dc] 61))
        have RS := Lib.hid (hS.alloc (.cells #[.slice T 24 tc, .slice S 4 sc, .slice D dn dc] 61))
        have RD := Lib.hid (hD.alloc (.cells #[.slice T 24 tc, .slice S 4 sc, .slice D dn dc] 61))
        have hlt3 : w3.heap.size < (w3.alloc (.cells #[.slice T 24 tc, .slice S 4 sc, .slice D dn dc] 61)).heap.size := X3.out.lt
        have x0 := X3.out.cell_at 0 (.slice T 24 tc) rfl
        have x1 := X3.out.cell_at 1 (.slice S 4 sc) rfl
        have x2 := X3.out.cell_at 2 (.slice D dn dc) rfl
        clear hT hS hD h3 B2 T2 C2 L2
        go_wp2
        generalize w3.alloc (.cells #[.slice T 24 tc, .slice S 4 sc, .slice D dn dc] 61) = w4 at *
        have hneB : w3.heap.size ≠ w.heap.size + 1 := Nat.ne_of_gt (hltB)
        obtain ⟨sm, HSM⟩ : ∃ sm, Hid (le4 (sumL (d ++ bs.take 24)) = sm) := ⟨_, rfl⟩
        have HSl := Lib.hid (show sm.length = 4 by rw [← HSM.out]; rfl)
        have HSb := Lib.hid (show ∀ x ∈ sm, x < 256 by rw [← HSM.out]; exact le4_lt _)
        by_cases hsm : bs.drop 24 = sm
        · have hdec : decide (bs.drop 24 = sm) = true := decide_eq_true hsm
          have HSQ := Lib.hid (show le4 (sumL (d ++ bs.take 24)) = bs.drop 24 by rw [HSM.out, hsm])
          clear hsm
          refine wp_region_noPanic ?_
          refine wp_region_held_drew (S := fun w' => Below w4.heap.size w4 w') (by kernel_rfl) ((Below.refl _ _).drew) (fun C0 => ?_)
          refine wpAnyH_take (i := 0) (oi := { dst := some 35, op := Op.fieldAddr 61 (Operand.tmp 10) 0, type := 0, pos := "page.go:90", after := #[], guard := none }) (v := ?_) rfl (by kernel_rfl) (by kernel_rfl) (by kernel_rfl) (fun _ _ _ h => h) (Or.inl ⟨by rfl, ?_⟩) C0 ?_
          rotate_left
          · intro W' hSw
            clear hSw
            go_simp <;> with_reducible rfl
          try simp only [Act.put, List.setIfInBounds_toArray, List.set_cons_zero, List.set_cons_succ]
          refine wpAnyH_take (i := 1) (oi := { dst := some 36, op := Op.fieldAddr 59 (Operand.tmp 35) 1, type := 0, pos := "page.go:90", after := #[{ on := 0, ground := Ground.data }], guard := none }) (v := ?_) rfl (by kernel_rfl) (by kernel_rfl) (by kernel_rfl) (fun _ _ _ h => h) (Or.inl ⟨by rfl, ?_⟩) C0 ?_
          rotate_left
          · intro W' hSw
            clear hSw
            go_simp <;> with_reducible rfl
          try simp only [Act.put, List.setIfInBounds_toArray, List.set_cons_zero, List.set_cons_succ]
          refine wpAnyH_take (i := 2) (oi := { dst := some 37, op := Op.load 24 (Operand.tmp 36), type := 24, pos := "page.go:90", after := #[{ on := 1, ground := Ground.data }], guard := none }) (v := ?_) rfl (by kernel_rfl) (by kernel_rfl) (by kernel_rfl) (fun _ _ _ h => h) (Or.inl ⟨by rfl, ?_⟩) C0 ?_
          rotate_left
          · intro W' hSw
            have q1 := (hSw.cell (p := ⟨w3.heap.size, 1, none⟩) hlt3).trans x1
            clear hSw
            go_simp <;> with_reducible rfl
          try simp only [Act.put, List.setIfInBounds_toArray, List.set_cons_zero, List.set_cons_succ]
          refine wpAnyH_take (i := 3) (oi := { dst := some 38, op := Op.load 61 (Operand.tmp 10), type := 61, pos := "page.go:90", after := #[], guard := none }) (v := ?_) rfl (by kernel_rfl) (by kernel_rfl) (by kernel_rfl) (fun _ _ _ h => h) (Or.inl ⟨by rfl, ?_⟩) C0 ?_
          rotate_left
          · intro W' hSw
            have q0 := (hSw.cell (p := ⟨w3.heap.size, 0, none⟩) hlt3).trans x0
            have q1 := (hSw.cell (p := ⟨w3.heap.size, 1, none⟩) hlt3).trans x1
            have q2 := (hSw.cell (p := ⟨w3.heap.size, 2, none⟩) hlt3).trans x2
            clear hSw
            go_simp <;> with_reducible rfl
          try simp only [Act.put, List.setIfInBounds_toArray, List.set_cons_zero, List.set_cons_succ]
          refine wpAnyH_ready (rs := [4]) (by kernel_rfl) (by simp) ?_
          refine AllReadyH.cons (o := { dst := some 39, op := Op.call { callee := Callee.value (Operand.func 28), args := #[Operand.tmp 38], argTypes := #[61] }, type := 24, pos := "page.go:90", after := #[{ on := 3, ground := Ground.data }], guard := none }) rfl (fun K hK => ?_) AllReadyH.nil
          go_simp
          refine (checksum_any _ _ _ _ _ _ _ _ _ (bs.take 24) d _ (RT.out.below C0) (RD.out.below C0) (by omega) hdn).mono ?_
          rw [HSM.out]
          intro _ w5 hM
          obtain ⟨A5, c5, rfl, O5, D5⟩ := hM.at_ HSl.out
          have hB := D5.out
          have R5 := Lib.hid (R8.own O5.out HSb.out)
          clear hM D5 O5
          go_wp2_with fail
          refine hK.out _ _ (C0.trans (hB.mono C0.size)) (fun C1 => ?_)
          clear hK K hB
          try simp only [Act.put, List.setIfInBounds_toArray, List.set_cons_zero, List.set_cons_succ]
          refine wpAnyH_ready (rs := [5]) (by kernel_rfl) (by simp) ?_
          refine AllReadyH.cons (o := { dst := some 40, op := Op.call { callee := Callee.value (Operand.func 41), args := #[Operand.tmp 37, Operand.tmp 39], argTypes := #[24, 24] }, type := 4, pos := "page.go:90", after := #[{ on := 2, ground := Ground.data }, { on := 4, ground := Ground.data }, { on := 4, ground := Ground.chain }], guard := none }) rfl (fun K hK => ?_) AllReadyH.nil
          go_simp
          refine (Equal_any _ _ _ _ _ _ (bs.drop 24) sm _ (RS.out.below C1) R5.out).mono ?_
          rw [hdec]
          rintro _ w6 ⟨rfl, rfl⟩
          go_wp2_with fail
          refine hK.out _ _ C1 (fun C2 => ?_)
          clear hK K
          try simp only [Act.put, List.setIfInBounds_toArray, List.set_cons_zero, List.set_cons_succ]
          refine wpAnyH_take (i := 6) (oi := { dst := some 41, op := Op.unOp UnOp.not 4 (Operand.tmp 40), type := 4, pos := "page.go:90", after := #[{ on := 5, ground := Ground.data }], guard := none }) (v := ?_) rfl (by kernel_rfl) (by kernel_rfl) (by kernel_rfl) (fun _ _ _ h => h) (Or.inl ⟨by rfl, ?_⟩) C2 ?_
          rotate_left
          · intro W' hSw
            clear hSw
            go_simp <;> with_reducible rfl
          try simp only [Act.put, List.setIfInBounds_toArray, List.set_cons_zero, List.set_cons_succ]
          refine wpAnyH_done (by kernel_rfl) ?_ _
          refine NoPanic.normal ?_
          have B5 := Lib.hid (below_step B3.out C2)
          have T5 := Lib.hid (T3.out.below C2)
          have RT5 := Lib.hid (RT.out.below C2)
          have RD5 := Lib.hid (RD.out.below C2)
          have z0 := (C2.cell (p := ⟨w3.heap.size, 0, none⟩) hlt3).trans x0
          have z2 := (C2.cell (p := ⟨w3.heap.size, 2, none⟩) hlt3).trans x2
          have hs45 := C2.size
          clear C2 C1 C0 B3 T3 RT RD RS x0 x1 x2
          have hlt5 : w3.heap.size < w5.heap.size := Nat.lt_of_lt_of_le hlt3 hs45
          obtain ⟨⟨⟨tk, ts, tq, te⟩, er⟩, HTk⟩ : ∃ x, Hid (takeT (bs.take 24) = x) := ⟨_, rfl⟩
          go_wp2_with fail
          refine (TagTake_is _ 24 _ (bs.take 24) ⟨tk, ts, tq, te⟩ er _ RT5.out (by omega) htc HTk.out).mono ?_
          rintro _ w6 ⟨rfl, h6⟩
          have B6 := Lib.hid (below_step B5.out h6)
          have T6 := Lib.hid (T5.out.below h6)
          have RD6 := Lib.hid (RD5.out.below h6)
          have y2 := (h6.cell (p := ⟨w3.heap.size, 2, none⟩) hlt5).trans z2
          clear h6 B5 T5 RT5 RD5 z0 z2
          simp only [Tg.val]
          have B7 := Lib.hid (below_setRow B6.out (Nat.le_succ _) #[.int .i64 tk, .int .i64 ts, .int .i64 tq, .int .i64 te])
          have T7 := Lib.hid (T6.out.set #[.int .i64 tk, .int .i64 ts, .int .i64 tq, .int .i64 te])
          have RD7 := Lib.hid (R8.setRow RD6.out T6.out (by intro v hv; simp at hv; subst hv; simp) #[.int .i64 tk, .int .i64 ts, .int .i64 tq, .int .i64 te])
          have z2 := cell_setRow #[.int .i64 tk, .int .i64 ts, .int .i64 tq, .int .i64 te] hneB y2
          by_cases her : er = 0
          · subst her
            by_cases hf : 0 < f
            · have hf2 : decide ((0 : Int) < (f : Int)) = true := decide_eq_true (by omega)
              go_wp2_with (with_reducible refine (?_ : wpList _ _ _ ({ dst := _, op := Op.store 26 _ _, type := _, pos := _, after := _, guard := _ } :: _) _ _); refine wpList_store_at rfl 26 _ _ rfl 4 size_tag _ (w.heap.size + 1) ?hx rfl _ T6.out.row ?hn ?ho ?h1 ?_; (case hx => simp [Act.eval]); (case hn => simp); (case ho => simp); (case h1 => simp [Value.oneCell']))
              generalize w6.setRow (w.heap.size + 1) #[.int .i64 tk, .int .i64 ts, .int .i64 tq, .int .i64 te] = w7 at *
              clear B6 T6 RD6 y2
              have hlt7 := T7.out.lt
              refine wp_region_noPanic ?_
              refine wp_region_held_drew (S := fun w' => Below w.heap.size w w' ∧ (w'.cell? ⟨w3.heap.size, 2, none⟩ = some (.slice D dn dc) ∧ CRow w' (w.heap.size + 1) 26 #[.int .i64 tk, .int .i64 ts, .int .i64 tq, .int .i64 te])) (by kernel_rfl) ⟨B7.out.drew, z2, T7.out.drew⟩ (fun C0 => ?_)
              refine wpAnyH_take (i := 0) (oi := { dst := some 56, op := Op.fieldAddr 61 (Operand.tmp 10) 1, type := 0, pos := "page.go:98", after := #[], guard := none }) (v := ?_) rfl (by kernel_rfl) (by kernel_rfl) (by kernel_rfl) (fun _ _ _ h => h) (Or.inl ⟨by rfl, ?_⟩) C0 ?_
              rotate_left
              · intro W' hSw
                clear hSw
                go_simp <;> with_reducible rfl
              try simp only [Act.put, List.setIfInBounds_toArray, List.set_cons_zero, List.set_cons_succ]
              refine wpAnyH_take (i := 1) (oi := { dst := some 57, op := Op.load 24 (Operand.tmp 56), type := 24, pos := "page.go:98", after := #[{ on := 0, ground := Ground.data }], guard := none }) (v := ?_) rfl (by kernel_rfl) (by kernel_rfl) (by kernel_rfl) (fun _ _ _ h => h) (Or.inl ⟨by rfl, ?_⟩) C0 ?_
              rotate_left
              · intro W' hSw
                have y2 := hSw.2.1
                clear hSw
                go_simp <;> with_reducible rfl
              try simp only [Act.put, List.setIfInBounds_toArray, List.set_cons_zero, List.set_cons_succ]
              refine wpAnyH_take (i := 2) (oi := { dst := some 58, op := Op.load 26 (Operand.tmp 5), type := 26, pos := "page.go:98", after := #[{ on := 3, ground := Ground.gcOnly Departure.lateStores }], guard := none }) (v := ?_) rfl (by kernel_rfl) (by kernel_rfl) (by kernel_rfl) (fun _ _ _ h => h) (Or.inl ⟨by rfl, ?_⟩) C0 ?_
              rotate_left
              · intro W' hSw
                have r0 := hSw.2.2.cell_at 0 (.int .i64 tk) rfl
                have r1 := hSw.2.2.cell_at 1 (.int .i64 ts) rfl
                have r2 := hSw.2.2.cell_at 2 (.int .i64 tq) rfl
                have r3 := hSw.2.2.cell_at 3 (.int .i64 te) rfl
                clear hSw
                go_simp <;> with_reducible rfl
              try simp only [Act.put, List.setIfInBounds_toArray, List.set_cons_zero, List.set_cons_succ]
              refine wpAnyH_take (i := 3) (oi := { dst := some 4, op := Op.assign (Operand.tmp 57), type := 24, pos := "page.go:98", after := #[{ on := 1, ground := Ground.data }, { on := 0, ground := Ground.phase }, { on := 1, ground := Ground.phase }, { on := 2, ground := Ground.textOnly Departure.lateStores }], guard := none }) (v := ?_) rfl (by kernel_rfl) (by kernel_rfl) (by kernel_rfl) (fun _ _ _ h => h) (Or.inl ⟨by rfl, ?_⟩) C0 ?_
              rotate_left
              · intro W' hSw
                clear hSw
                go_simp <;> with_reducible rfl
              try simp only [Act.put, List.setIfInBounds_toArray, List.set_cons_zero, List.set_cons_succ]
              refine wpAnyH_ready (rs := [4]) (by kernel_rfl) (by simp) ?_
              refine AllReadyH.cons (o := { dst := none, op := Op.store 26 (Operand.tmp 5) (Operand.tmp 58), type := 0, pos := "page.go:98", after := #[{ on := 2, ground := Ground.data }, { on := 3, ground := Ground.chain }, { on := 0, ground := Ground.phase }, { on := 1, ground := Ground.phase }, { on := 2, ground := Ground.phase }, { on := 3, ground := Ground.phase }], guard := none }) rfl (fun K hK => ?_) AllReadyH.nil
              rw [if_pos (by rfl)]
              refine wp_store_row 26 _ _ rfl (w.heap.size + 1) #[.int .i64 tk, .int .i64 ts, .int .i64 tq, .int .i64 te] (by simp [Act.eval]) rfl 26 _ T7.out.drew.row size_tag (by simp) (by simp [Value.oneCell']) ?_
              refine hK.out _ _ ⟨below_setRow C0.1 (Nat.le_succ _) _, cell_setRow _ hneB C0.2.1, C0.2.2.set _⟩ (fun C1 => ?_)
              clear hK K
              try simp only [Act.put]
              refine wpAnyH_take (i := 5) (oi := { dst := some 6, op := Op.assign (Operand.const (Value.int IntKind.i64 1)), type := 3, pos := "page.go:98", after := #[{ on := 4, ground := Ground.chain }, { on := 0, ground := Ground.phase }, { on := 1, ground := Ground.phase }, { on := 2, ground := Ground.phase }, { on := 3, ground := Ground.phase }, { on := 4, ground := Ground.phase }], guard := none }) (v := ?_) rfl (by kernel_rfl) (by kernel_rfl) (by kernel_rfl) (fun _ _ _ h => h) (Or.inl ⟨by rfl, ?_⟩) C1 ?_
              rotate_left
              · intro W' hSw
                clear hSw
                go_simp <;> with_reducible rfl
              try simp only [Act.put, List.setIfInBounds_toArray, List.set_cons_zero, List.set_cons_succ]
              refine wpAnyH_take (i := 6) (oi := { dst := some 7, op := Op.assign (Operand.const (Value.int IntKind.i64 0)), type := 29, pos := "page.go:98", after := #[{ on := 5, ground := Ground.chain }, { on := 0, ground := Ground.phase }, { on := 1, ground := Ground.phase }, { on := 2, ground := Ground.phase }, { on := 3, ground := Ground.phase }, { on := 4, ground := Ground.phase }, { on := 5, ground := Ground.phase }], guard := none }) (v := ?_) rfl (by kernel_rfl) (by kernel_rfl) (by kernel_rfl) (fun _ _ _ h => h) (Or.inl ⟨by rfl, ?_⟩) C1 ?_
              rotate_left
              · intro W' hSw
                clear hSw
                go_simp <;> with_reducible rfl
              try simp only [Act.put, List.setIfInBounds_toArray, List.set_cons_zero, List.set_cons_succ]
              refine wpAnyH_done (by kernel_rfl) ?_ _
              refine NoPanic.normal ?_
              have RD8 := Lib.hid (R8.setRow (w := w7.drew) RD7.out T7.out.drew (by intro v hv; simp at hv; rcases hv with rfl | rfl | rfl | rfl <;> simp) #[.int .i64 tk, .int .i64 ts, .int .i64 tq, .int .i64 te])
              have T8 := Lib.hid C1.2.2
              have B8 := Lib.hid C1.1
              clear C0 C1 z2
              obtain ⟨hv1, hv2, hv3, hv4⟩ := four (HVQ.out.symm.trans (decQ_ok HE.out HAl.out HDe.out HSQ.out HTk.out) |>.trans (by rw [HF.out, if_pos hf]))
              subst hv1 hv2 hv3 hv4
              go_wp2
              refine bodyPost_ret (results_tctt_row rfl _ _ (w.heap.size + 1) 26 _ (0, 0) _ rfl T8.out.row Try.underlying26 rfl size_tag) rfl ?_
              refine ⟨D, dc, ?_, by rw [HDn.out]; exact RD8.out, B8.out⟩
              rw [HDn.out]
              rfl
            · obtain rfl : f = 0 := by omega
              go_wp2_with (with_reducible refine (?_ : wpList _ _ _ ({ dst := _, op := Op.store 26 _ _, type := _, pos := _, after := _, guard := _ } :: _) _ _); refine wpList_store_at rfl 26 _ _ rfl 4 size_tag _ (w.heap.size + 1) ?hx rfl _ T6.out.row ?hn ?ho ?h1 ?_; (case hx => simp [Act.eval]); (case hn => simp); (case ho => simp); (case h1 => simp [Value.oneCell']))
              generalize w6.setRow (w.heap.size + 1) #[.int .i64 tk, .int .i64 ts, .int .i64 tq, .int .i64 te] = w7 at *
              clear B6 T6 RD6 y2
              have hlt7 := T7.out.lt
              refine wp_region_noPanic ?_
              refine wp_region_held_drew (S := fun w' => Below w.heap.size w w' ∧ (w'.cell? ⟨w3.heap.size, 2, none⟩ = some (.slice D dn dc) ∧ CRow w' (w.heap.size + 1) 26 #[.int .i64 tk, .int .i64 ts, .int .i64 tq, .int .i64 te])) (by kernel_rfl) ⟨B7.out.drew, z2, T7.out.drew⟩ (fun C0 => ?_)
              refine wpAnyH_take (i := 0) (oi := { dst := some 59, op := Op.fieldAddr 61 (Operand.tmp 10) 1, type := 0, pos := "page.go:100", after := #[], guard := none }) (v := ?_) rfl (by kernel_rfl) (by kernel_rfl) (by kernel_rfl) (fun _ _ _ h => h) (Or.inl ⟨by rfl, ?_⟩) C0 ?_
              rotate_left
              · intro W' hSw
                clear hSw
                go_simp <;> with_reducible rfl
              try simp only [Act.put, List.setIfInBounds_toArray, List.set_cons_zero, List.set_cons_succ]
              refine wpAnyH_take (i := 1) (oi := { dst := some 60, op := Op.load 24 (Operand.tmp 59), type := 24, pos := "page.go:100", after := #[{ on := 0, ground := Ground.data }], guard := none }) (v := ?_) rfl (by kernel_rfl) (by kernel_rfl) (by kernel_rfl) (fun _ _ _ h => h) (Or.inl ⟨by rfl, ?_⟩) C0 ?_
              rotate_left
              · intro W' hSw
                have y2 := hSw.2.1
                clear hSw
                go_simp <;> with_reducible rfl
              try simp only [Act.put, List.setIfInBounds_toArray, List.set_cons_zero, List.set_cons_succ]
              refine wpAnyH_take (i := 2) (oi := { dst := some 61, op := Op.load 26 (Operand.tmp 5), type := 26, pos := "page.go:100", after := #[{ on := 3, ground := Ground.gcOnly Departure.lateStores }], guard := none }) (v := ?_) rfl (by kernel_rfl) (by kernel_rfl) (by kernel_rfl) (fun _ _ _ h => h) (Or.inl ⟨by rfl, ?_⟩) C0 ?_
              rotate_left
              · intro W' hSw
                have r0 := hSw.2.2.cell_at 0 (.int .i64 tk) rfl
                have r1 := hSw.2.2.cell_at 1 (.int .i64 ts) rfl
                have r2 := hSw.2.2.cell_at 2 (.int .i64 tq) rfl
                have r3 := hSw.2.2.cell_at 3 (.int .i64 te) rfl
                clear hSw
                go_simp <;> with_reducible rfl
              try simp only [Act.put, List.setIfInBounds_toArray, List.set_cons_zero, List.set_cons_succ]
              refine wpAnyH_take (i := 3) (oi := { dst := some 4, op := Op.assign (Operand.tmp 60), type := 24, pos := "page.go:100", after := #[{ on := 1, ground := Ground.data }, { on := 0, ground := Ground.phase }, { on := 1, ground := Ground.phase }, { on := 2, ground := Ground.textOnly Departure.lateStores }], guard := none }) (v := ?_) rfl (by kernel_rfl) (by kernel_rfl) (by kernel_rfl) (fun _ _ _ h => h) (Or.inl ⟨by rfl, ?_⟩) C0 ?_
              rotate_left
              · intro W' hSw
                clear hSw
                go_simp <;> with_reducible rfl
              try simp only [Act.put, List.setIfInBounds_toArray, List.set_cons_zero, List.set_cons_succ]
              refine wpAnyH_ready (rs := [4]) (by kernel_rfl) (by simp) ?_
              refine AllReadyH.cons (o := { dst := none, op := Op.store 26 (Operand.tmp 5) (Operand.tmp 61), type := 0, pos := "page.go:100", after := #[{ on := 2, ground := Ground.data }, { on := 3, ground := Ground.chain }, { on := 0, ground := Ground.phase }, { on := 1, ground := Ground.phase }, { on := 2, ground := Ground.phase }, { on := 3, ground := Ground.phase }], guard := none }) rfl (fun K hK => ?_) AllReadyH.nil
              rw [if_pos (by rfl)]
              refine wp_store_row 26 _ _ rfl (w.heap.size + 1) #[.int .i64 tk, .int .i64 ts, .int .i64 tq, .int .i64 te] (by simp [Act.eval]) rfl 26 _ T7.out.drew.row size_tag (by simp) (by simp [Value.oneCell']) ?_
              refine hK.out _ _ ⟨below_setRow C0.1 (Nat.le_succ _) _, cell_setRow _ hneB C0.2.1, C0.2.2.set _⟩ (fun C1 => ?_)
              clear hK K
              try simp only [Act.put]
              refine wpAnyH_take (i := 5) (oi := { dst := some 6, op := Op.assign (Operand.const (Value.int IntKind.i64 0)), type := 3, pos := "page.go:100", after := #[{ on := 4, ground := Ground.chain }, { on := 0, ground := Ground.phase }, { on := 1, ground := Ground.phase }, { on := 2, ground := Ground.phase }, { on := 3, ground := Ground.phase }, { on := 4, ground := Ground.phase }], guard := none }) (v := ?_) rfl (by kernel_rfl) (by kernel_rfl) (by kernel_rfl) (fun _ _ _ h => h) (Or.inl ⟨by rfl, ?_⟩) C1 ?_
              rotate_left
              · intro W' hSw
                clear hSw
                go_simp <;> with_reducible rfl
              try simp only [Act.put, List.setIfInBounds_toArray, List.set_cons_zero, List.set_cons_succ]
              refine wpAnyH_take (i := 6) (oi := { dst := some 7, op := Op.assign (Operand.const (Value.int IntKind.i64 0)), type := 29, pos := "page.go:100", after := #[{ on := 5, ground := Ground.chain }, { on := 0, ground := Ground.phase }, { on := 1, ground := Ground.phase }, { on := 2, ground := Ground.phase }, { on := 3, ground := Ground.phase }, { on := 4, ground := Ground.phase }, { on := 5, ground := Ground.phase }], guard := none }) (v := ?_) rfl (by kernel_rfl) (by kernel_rfl) (by kernel_rfl) (fun _ _ _ h => h) (Or.inl ⟨by rfl, ?_⟩) C1 ?_
              rotate_left
              · intro W' hSw
                clear hSw
                go_simp <;> with_reducible rfl
              try simp only [Act.put, List.setIfInBounds_toArray, List.set_cons_zero, List.set_cons_succ]
              refine wpAnyH_done (by kernel_rfl) ?_ _
              refine NoPanic.normal ?_
              have RD8 := Lib.hid (R8.setRow (w := w7.drew) RD7.out T7.out.drew (by intro v hv; simp at hv; rcases hv with rfl | rfl | rfl | rfl <;> simp) #[.int .i64 tk, .int .i64 ts, .int .i64 tq, .int .i64 te])
              have T8 := Lib.hid C1.2.2
              have B8 := Lib.hid C1.1
              clear C0 C1 z2
              obtain ⟨hv1, hv2, hv3, hv4⟩ := four (HVQ.out.symm.trans (decQ_ok HE.out HAl.out HDe.out HSQ.out HTk.out) |>.trans (by rw [HF.out, if_neg hf]))
              subst hv1 hv2 hv3 hv4
              go_wp2
              refine bodyPost_ret (results_tctt_row rfl _ _ (w.heap.size + 1) 26 _ (0, 0) _ rfl T8.out.row Try.underlying26 rfl size_tag) rfl ?_
              refine ⟨D, dc, ?_, by rw [HDn.out]; exact RD8.out, B8.out⟩
              rw [HDn.out]
              rfl
          · have hne : (er != 0) = true := by simpa using her
            obtain ⟨rfl, rfl, rfl, rfl⟩ := four (HVQ.out.symm.trans (decQ_tag HE.out HAl.out HDe.out HSQ.out HTk.out her))
            go_wp2_with (first | (with_reducible refine (?_ : wpList _ _ _ ({ dst := _, op := Op.store 26 _ _, type := _, pos := _, after := _, guard := _ } :: _) _ _); refine wpList_store_at rfl 26 _ _ rfl 4 size_tag _ (w.heap.size + 1) ?hx rfl _ T6.out.row ?hn ?ho ?h1 ?_; (case hx => simp [Act.eval]); (case hn => simp); (case ho => simp); (case h1 => simp [Value.oneCell'])) | (with_reducible refine (?_ : wpList _ _ _ ({ dst := _, op := Op.store 26 _ _, type := _, pos := _, after := _, guard := _ } :: _) _ _); refine wpList_store_at rfl 26 _ _ rfl 4 size_tag _ (w.heap.size + 1) ?hx rfl _ T7.out.row ?hn ?ho ?h1 ?_; (case hx => simp [Act.eval]); (case hn => simp); (case ho => simp); (case h1 => simp [Value.oneCell'])))
            have B9 := Lib.hid (below_setRow B7.out (Nat.le_succ _) #[.int .i64 0, .int .i64 0, .int .i64 0, .int .i64 0])
            have T9 := Lib.hid (T7.out.set #[.int .i64 0, .int .i64 0, .int .i64 0, .int .i64 0])
            go_wp2
            refine bodyPost_ret (results_tctt_row rfl _ _ (w.heap.size + 1) 26 _ (0, 0) _ rfl T9.out.row Try.underlying26 rfl size_tag) rfl ?_
            exact ⟨none, 0, rfl, ⟨Rd.nil_, fun x hx => by cases hx⟩, B9.out⟩
        · have hdec : decide (bs.drop 24 = sm) = false := decide_eq_false hsm
          have HSQ := Lib.hid (show le4 (sumL (d ++ bs.take 24)) ≠ bs.drop 24 by rw [HSM.out]; exact fun h => hsm h.symm)
          clear hsm
          refine wp_region_noPanic ?_
          refine wp_region_held_drew (S := fun w' => Below w4.heap.size w4 w') (by kernel_rfl) ((Below.refl _ _).drew) (fun C0 => ?_)
          refine wpAnyH_take (i := 0) (oi := { dst := some 35, op := Op.fieldAddr 61 (Operand.tmp 10) 0, type := 0, pos := "page.go:90", after := #[], guard := none }) (v := ?_) rfl (by kernel_rfl) (by kernel_rfl) (by kernel_rfl) (fun _ _ _ h => h) (Or.inl ⟨by rfl, ?_⟩) C0 ?_
          rotate_left
          · intro W' hSw
            clear hSw
            go_simp <;> with_reducible rfl
          try simp only [Act.put, List.setIfInBounds_toArray, List.set_cons_zero, List.set_cons_succ]
          refine wpAnyH_take (i := 1) (oi := { dst := some 36, op := Op.fieldAddr 59 (Operand.tmp 35) 1, type := 0, pos := "page.go:90", after := #[{ on := 0, ground := Ground.data }], guard := none }) (v := ?_) rfl (by kernel_rfl) (by kernel_rfl) (by kernel_rfl) (fun _ _ _ h => h) (Or.inl ⟨by rfl, ?_⟩) C0 ?_
          rotate_left
          · intro W' hSw
            clear hSw
            go_simp <;> with_reducible rfl
          try simp only [Act.put, List.setIfInBounds_toArray, List.set_cons_zero, List.set_cons_succ]
          refine wpAnyH_take (i := 2) (oi := { dst := some 37, op := Op.load 24 (Operand.tmp 36), type := 24, pos := "page.go:90", after := #[{ on := 1, ground := Ground.data }], guard := none }) (v := ?_) rfl (by kernel_rfl) (by kernel_rfl) (by kernel_rfl) (fun _ _ _ h => h) (Or.inl ⟨by rfl, ?_⟩) C0 ?_
          rotate_left
          · intro W' hSw
            have q1 := (hSw.cell (p := ⟨w3.heap.size, 1, none⟩) hlt3).trans x1
            clear hSw
            go_simp <;> with_reducible rfl
          try simp only [Act.put, List.setIfInBounds_toArray, List.set_cons_zero, List.set_cons_succ]
          refine wpAnyH_take (i := 3) (oi := { dst := some 38, op := Op.load 61 (Operand.tmp 10), type := 61, pos := "page.go:90", after := #[], guard := none }) (v := ?_) rfl (by kernel_rfl) (by kernel_rfl) (by kernel_rfl) (fun _ _ _ h => h) (Or.inl ⟨by rfl, ?_⟩) C0 ?_
          rotate_left
          · intro W' hSw
            have q0 := (hSw.cell (p := ⟨w3.heap.size, 0, none⟩) hlt3).trans x0
            have q1 := (hSw.cell (p := ⟨w3.heap.size, 1, none⟩) hlt3).trans x1
            have q2 := (hSw.cell (p := ⟨w3.heap.size, 2, none⟩) hlt3).trans x2
            clear hSw
            go_simp <;> with_reducible rfl
          try simp only [Act.put, List.setIfInBounds_toArray, List.set_cons_zero, List.set_cons_succ]
          refine wpAnyH_ready (rs := [4]) (by kernel_rfl) (by simp) ?_
          refine AllReadyH.cons (o := { dst := some 39, op := Op.call { callee := Callee.value (Operand.func 28), args := #[Operand.tmp 38], argTypes := #[61] }, type := 24, pos := "page.go:90", after := #[{ on := 3, ground := Ground.data }], guard := none }) rfl (fun K hK => ?_) AllReadyH.nil
          go_simp
          refine (checksum_any _ _ _ _ _ _ _ _ _ (bs.take 24) d _ (RT.out.below C0) (RD.out.below C0) (by omega) hdn).mono ?_
          rw [HSM.out]
          intro _ w5 hM
          obtain ⟨A5, c5, rfl, O5, D5⟩ := hM.at_ HSl.out
          have hB := D5.out
          have R5 := Lib.hid (R8.own O5.out HSb.out)
          clear hM D5 O5
          go_wp2_with fail
          refine hK.out _ _ (C0.trans (hB.mono C0.size)) (fun C1 => ?_)
          clear hK K hB
          try simp only [Act.put, List.setIfInBounds_toArray, List.set_cons_zero, List.set_cons_succ]
          refine wpAnyH_ready (rs := [5]) (by kernel_rfl) (by simp) ?_
          refine AllReadyH.cons (o := { dst := some 40, op := Op.call { callee := Callee.value (Operand.func 41), args := #[Operand.tmp 37, Operand.tmp 39], argTypes := #[24, 24] }, type := 4, pos := "page.go:90", after := #[{ on := 2, ground := Ground.data }, { on := 4, ground := Ground.data }, { on := 4, ground := Ground.chain }], guard := none }) rfl (fun K hK => ?_) AllReadyH.nil
          go_simp
          refine (Equal_any _ _ _ _ _ _ (bs.drop 24) sm _ (RS.out.below C1) R5.out).mono ?_
          rw [hdec]
          rintro _ w6 ⟨rfl, rfl⟩
          go_wp2_with fail
          refine hK.out _ _ C1 (fun C2 => ?_)
          clear hK K
          try simp only [Act.put, List.setIfInBounds_toArray, List.set_cons_zero, List.set_cons_succ]
          refine wpAnyH_take (i := 6) (oi := { dst := some 41, op := Op.unOp UnOp.not 4 (Operand.tmp 40), type := 4, pos := "page.go:90", after := #[{ on := 5, ground := Ground.data }], guard := none }) (v := ?_) rfl (by kernel_rfl) (by kernel_rfl) (by kernel_rfl) (fun _ _ _ h => h) (Or.inl ⟨by rfl, ?_⟩) C2 ?_
          rotate_left
          · intro W' hSw
            clear hSw
            go_simp <;> with_reducible rfl
          try simp only [Act.put, List.setIfInBounds_toArray, List.set_cons_zero, List.set_cons_succ]
          refine wpAnyH_done (by kernel_rfl) ?_ _
          refine NoPanic.normal ?_
          have B5 := Lib.hid (below_step B3.out C2)
          have T5 := Lib.hid (T3.out.below C2)
          have RT5 := Lib.hid (RT.out.below C2)
          have RD5 := Lib.hid (RD.out.below C2)
          have z0 := (C2.cell (p := ⟨w3.heap.size, 0, none⟩) hlt3).trans x0
          have z2 := (C2.cell (p := ⟨w3.heap.size, 2, none⟩) hlt3).trans x2
          have hs45 := C2.size
          clear C2 C1 C0 B3 T3 RT RD RS x0 x1 x2
          obtain ⟨rfl, rfl, rfl, rfl⟩ := four (HVQ.out.symm.trans (decQ_sum HE.out HAl.out HDe.out HSQ.out))
          go_wp2_with (with_reducible refine (?_ : wpList _ _ _ ({ dst := _, op := Op.store 26 _ _, type := _, pos := _, after := _, guard := _ } :: _) _ _); refine wpList_store_at rfl 26 _ _ rfl 4 size_tag _ (w.heap.size + 1) ?hx rfl _ T5.out.row ?hn ?ho ?h1 ?_; (case hx => simp [Act.eval]); (case hn => simp); (case ho => simp); (case h1 => simp [Value.oneCell']))
          have B9 := Lib.hid (below_setRow B5.out (Nat.le_succ _) #[.int .i64 0, .int .i64 0, .int .i64 0, .int .i64 0])
          have T9 := Lib.hid (T5.out.set #[.int .i64 0, .int .i64 0, .int .i64 0, .int .i64 0])
          go_wp2
          refine bodyPost_ret (results_tctt_row rfl _ _ (w.heap.size + 1) 26 _ (0, 0) _ rfl T9.out.row Try.underlying26 rfl size_tag) rfl ?_
          exact ⟨none, 0, rfl, ⟨Rd.nil_, fun x hx => by cases hx⟩, B9.out⟩
      · have hne : ((e2 : Int) != 0) = true := by simp; omega
        refine (HRD2.out A2 1 c2 _ C2.out L2.out d bs n1 m e2 HAl.out HDe.out he2).mono ?_
        rintro _ w3 ⟨rfl, h3⟩
        have B3 := Lib.hid (below_step (below_step B2.out h3) (below_new w3 (.cells #[.slice none 0 0, .slice none 0 0, .slice none 0 0] 61)))
        have T3 := Lib.hid ((T2.out.below h3).alloc (.cells #[.slice none 0 0, .slice none 0 0, .slice none 0 0] 61))
        clear h3 B2 T2 C2 L2
        obtain ⟨rfl, rfl, rfl, rfl⟩ := four (HVQ.out.symm.trans (decQ_label HE.out HAl.out HDe.out he2))
        go_wp2_with (with_reducible refine (?_ : wpList _ _ _ ({ dst := _, op := Op.store 26 _ _, type := _, pos := _, after := _, guard := _ } :: _) _ _); refine wpList_store_at rfl 26 _ _ rfl 4 size_tag _ (w.heap.size + 1) ?hx rfl _ T3.out.row ?hn ?ho ?h1 ?_; (case hx => simp [Act.eval]); (case hn => simp); (case ho => simp); (case h1 => simp [Value.oneCell']))
        have B9 := Lib.hid (below_setRow B3.out (Nat.le_succ _) #[.int .i64 0, .int .i64 0, .int .i64 0, .int .i64 0])
        have T9 := Lib.hid (T3.out.set #[.int .i64 0, .int .i64 0, .int .i64 0, .int .i64 0])
        go_wp2
        refine bodyPost_ret (results_tctt_row rfl _ _ (w.heap.size + 1) 26 _ (0, 0) _ rfl T9.out.row Try.underlying26 rfl size_tag) rfl ?_
        exact ⟨none, 0, rfl, ⟨Rd.nil_, fun x hx => by cases hx⟩, B9.out⟩
    · have hne : ((e1 : Int) != 0) = true := by simp; omega
      refine (HRD1.out A2 1 c2 _ C2.out L2.out d n1 e1 HAl.out he1).mono ?_
      rintro _ w3 ⟨rfl, h3⟩
      have B3 := Lib.hid (below_step (below_step B2.out h3) (below_new w3 (.cells #[.slice none 0 0, .slice none 0 0, .slice none 0 0] 61)))
      have T3 := Lib.hid ((T2.out.below h3).alloc (.cells #[.slice none 0 0, .slice none 0 0, .slice none 0 0] 61))
      clear h3 B2 T2 C2 L2
      obtain ⟨rfl, rfl, rfl, rfl⟩ := four (HVQ.out.symm.trans (decQ_chunks HE.out HAl.out he1))
      go_wp2_with (with_reducible refine (?_ : wpList _ _ _ ({ dst := _, op := Op.store 26 _ _, type := _, pos := _, after := _, guard := _ } :: _) _ _); refine wpList_store_at rfl 26 _ _ rfl 4 size_tag _ (w.heap.size + 1) ?hx rfl _ T3.out.row ?hn ?ho ?h1 ?_; (case hx => simp [Act.eval]); (case hn => simp); (case ho => simp); (case h1 => simp [Value.oneCell']))
      have B9 := Lib.hid (below_setRow B3.out (Nat.le_succ _) #[.int .i64 0, .int .i64 0, .int .i64 0, .int .i64 0])
      have T9 := Lib.hid (T3.out.set #[.int .i64 0, .int .i64 0, .int .i64 0, .int .i64 0])
      go_wp2
      refine bodyPost_ret (results_tctt_row rfl _ _ (w.heap.size + 1) 26 _ (0, 0) _ rfl T9.out.row Try.underlying26 rfl size_tag) rfl ?_
      exact ⟨none, 0, rfl, ⟨Rd.nil_, fun x hx => by cases hx⟩, B9.out⟩
end Go.Proofs.Ytjahbpmkkfdimaa

/-
  The laws' Small and awake, over the landed code; page.Decode and page.Marked for whatever geometry and bytes.
-/
namespace Go.Proofs.Ytjahbpmkkfdimaa
open Go.RowKit
set_option maxRecDepth 100000

def okG (g : Gm) (n : Nat) : Bool := g.ok && decide ((n : Int) = g.raw)
/-- What a raw page has, in whatever geometry. -/
def decG (g : Gm) (l : List Nat) : List Nat × Tg × Nat × Int := if okG g l.length then decP g.c.toNat g.k.toNat l else ([], Tg.zero, 0, 2)
def mkG (g : Gm) (l : List Nat) : Bool := okG g l.length && decide (ones (l.drop (l.length - 1)) < 4)
theorem okG_len {g : Gm} {n : Nat} (h : okG g n = true) : g.ok = true ∧ g.c = (g.c.toNat : Int) ∧ g.k = (g.k.toNat : Int) ∧ n = g.c.toNat * (g.k.toNat + 2) + 31 := by
  unfold okG at h
  simp only [Bool.and_eq_true, decide_eq_true_eq] at h
  obtain ⟨ho, hn⟩ := h
  have hb := Gm.bounds_of ho
  have hc : g.c = (g.c.toNat : Int) := by omega
  have hk : g.k = (g.k.toNat : Int) := by omega
  refine ⟨ho, hc, hk, ?_⟩
  unfold Gm.raw at hn
  rw [if_pos ho, hc, hk] at hn
  have e : ((g.c.toNat * (g.k.toNat + 2) + 31 : Nat) : Int) = (g.c.toNat : Int) * ((g.k.toNat : Int) + 2) + 31 := by
    rw [Int.natCast_add, Int.natCast_mul, Int.natCast_add]
    rfl
  omega
theorem okG_mk {g : Gm} {n : Nat} (h : g.ok = true) (C K : Nat) (hC : g.c = (C : Int)) (hK : g.k = (K : Int)) (hn : n = C * (K + 2) + 31) : okG g n = true := by
  unfold okG Gm.raw
  rw [h, if_pos rfl, hC, hK, hn, Int.natCast_add, Int.natCast_mul, Int.natCast_add]
  simp
theorem cut_no (g : Gm) (A : Option Addr) (n c : Nat) (h : okG g n = false) (w : World) :
    Calls Try.prog 38 #[g.val, .slice A n c] w (Gives (.tuple #[.agg #[.slice none 0 0, .slice none 0 0, .slice none 0 0], .bool false]) w) := by
  cases ho : g.ok
  · exact cut_geom g ho A n c w
  · refine cut_len g ho A n c ?_ w
    unfold okG at h
    rw [ho] at h
    simpa using h
theorem PageDec_any (g : Gm) (A : Option Addr) (n c : Nat) (hcap : n ≤ c) (l : List Nat) (w : World) (hr : R8 w A n l) :
    Calls Try.prog 18 #[g.val, .slice A n c] w (Ret4 (decG g l).1 (decG g l).2.1 (decG g l).2.2.1 (decG g l).2.2.2 w) := by
  unfold decG
  rw [hr.len]
  cases h : okG g n
  · exact PageDec_no g A n c (cut_no g A n c h) w
  · obtain ⟨ho, hc, hk, hn⟩ := okG_len h
    exact PageDec_yes g ho _ _ hc hk A n c hn hcap l w hr
theorem PageMarked_any (g : Gm) (A : Option Addr) (n c : Nat) (hcap : n ≤ c) (l : List Nat) (w : World) (hr : R8 w A n l) :
    Calls Try.prog 20 #[g.val, .slice A n c] w (Gives (.bool (mkG g l)) w) := by
  unfold mkG
  rw [hr.len]
  cases h : okG g n
  · exact Marked_no g A n c (cut_no g A n c h) w
  · obtain ⟨ho, hc, hk, hn⟩ := okG_len h
    have hR : R8 w (cutA A c (n - 1)) 1 (l.drop (n - 1)) := by
      have := hr.cutA (n - 1) c (by omega) hcap
      rwa [show n - (n - 1) = 1 by omega] at this
    refine Marked_yes g A _ _ _ n c _ _ _ _ _ _ _ (cut_yes g ho _ _ hc hk A n c hn hcap) _ w hR (by omega) ?_
    rw [Bool.true_and, decide_eq_decide]
    omega
theorem decG_len (g : Gm) (l : List Nat) (hb : ∀ x ∈ l, x < 256) : (decG g l).1.length ≤ 8224 := by
  unfold decG
  cases h : okG g l.length
  · simp
  · obtain ⟨ho, hc, hk, hn⟩ := okG_len h
    have hbd := Gm.bounds_of ho
    have h1 := decP_len g.c.toNat g.k.toNat l hn hb
    have hc16 : g.c.toNat ≤ 16 := by omega
    have hk2 : g.k.toNat + 2 ≤ 514 := by omega
    have := Nat.mul_le_mul hc16 hk2
    simp only [if_true]
    omega
theorem decG_mark (g : Gm) (l : List Nat) (x : Nat) : decG g (l.set (l.length - 1) x) = decG g l := by
  unfold decG
  rw [List.length_set]
  cases h : okG g l.length
  · rfl
  · simp only [if_true]
    exact dec_mark _ _ l x (okG_len h).2.2.2
theorem mkG_mark (g : Gm) (l : List Nat) (x : Nat) (h0 : 0 < l.length) : mkG g (l.set (l.length - 1) x) = (okG g l.length && decide (Lib.onesCount x < 4)) := by
  unfold mkG
  rw [List.length_set, List.drop_set, if_neg (by omega), Nat.sub_self]
  have e : l.drop (l.length - 1) = [l[l.length - 1]] := by
    rw [List.drop_eq_getElem_cons (by omega), List.drop_eq_nil_of_le (by omega)]
  rw [e]
  simp [ones]

def smallG (g : Gm) : Prop := g.c ≤ 4 ∧ g.k ≤ 40 ∧ 0 ≤ g.c ∧ 0 ≤ g.k
set_option maxHeartbeats 1000000 in
theorem Small_yes (g : Gm) (h : smallG g) (w : World) : Calls Try.prog 9 #[g.val] w (Gives (.bool true) w) := by
  obtain ⟨p, b, s, c, k, r, q⟩ := g
  obtain ⟨h1, h2, h3, h4⟩ := h
  simp only at h1 h2 h3 h4
  have d1 : decide (c ≤ 4) = true := decide_eq_true h1
  have d2 : decide (k ≤ 40) = true := decide_eq_true h2
  have d3 : decide (0 ≤ c) = true := decide_eq_true h3
  have d4 : decide (0 ≤ k) = true := decide_eq_true h4
  simp only [Gm.val]
  go_enter Try.func9, Try.ntmps9
  go_wp2
  go_ret
  exact ⟨rfl, below_new w _⟩
set_option maxHeartbeats 1000000 in
theorem Small_no (g : Gm) (h : ¬ smallG g) (w : World) : Calls Try.prog 9 #[g.val] w (Gives (.bool false) w) := by
  obtain ⟨p, b, s, c, k, r, q⟩ := g
  unfold smallG at h
  simp only at h
  simp only [Gm.val]
  by_cases h1 : c ≤ 4
  · have d1 : decide (c ≤ 4) = true := decide_eq_true h1
    by_cases h2 : k ≤ 40
    · have d2 : decide (k ≤ 40) = true := decide_eq_true h2
      by_cases h3 : 0 ≤ c
      · have d3 : decide (0 ≤ c) = true := decide_eq_true h3
        have d4 : decide (0 ≤ k) = false := decide_eq_false (by omega)
        clear h
        go_enter Try.func9, Try.ntmps9
        go_wp2
        go_ret
        exact ⟨rfl, below_new w _⟩
      · have d3 : decide (0 ≤ c) = false := decide_eq_false h3
        clear h
        go_enter Try.func9, Try.ntmps9
        go_wp2
        go_ret
        exact ⟨rfl, below_new w _⟩
    · have d2 : decide (k ≤ 40) = false := decide_eq_false h2
      clear h
      go_enter Try.func9, Try.ntmps9
      go_wp2
      go_ret
      exact ⟨rfl, below_new w _⟩
  · have d1 : decide (c ≤ 4) = false := decide_eq_false h1
    clear h
    go_enter Try.func9, Try.ntmps9
    go_wp2
    go_ret
    exact ⟨rfl, below_new w _⟩

def geo1 : Gm := ⟨1, 2, 4, 1, 4, 1, 1⟩
theorem geo1_ok : geo1.ok = true := by decide +kernel
def tag1 : Tg := ⟨1, 0, 0, 0⟩
theorem tag1_ok : tag1.ok = true := by decide +kernel
theorem four_bytes (w : World) (x y z u : Nat) (t : TypeId) (hx : x < 256) (hy : y < 256) (hz : z < 256) (hu : u < 256) : R8 (w.alloc (.cells #[.int .u8 (x : Int), .int .u8 (y : Int), .int .u8 (z : Int), .int .u8 (u : Int)] t)) (some ⟨w.heap.size, 0, none⟩) 4 [x, y, z, u] := by
  refine ⟨⟨rfl, fun _ => ⟨_, 0, rfl, by simp, fun j hj => ?_⟩⟩, by simp; omega⟩
  match j, hj with
  | 0, _ => simp [U8]
  | 1, _ => simp [U8]
  | 2, _ => simp [U8]
  | 3, _ => simp [U8]
theorem page_mark {C K : Nat} {d tb : List Nat} (h : PgOk C K d tb) : (pageL C K d tb)[C * (K + 2) + 30]? = some 255 := by
  unfold pageL pg
  have hl := catTo_length (cws C K d tb) (K + 2) C (fun i hi => cws_len h i hi)
  have h2 := cws_last h
  rw [List.getElem?_append_right (by omega), hl, List.getElem?_append_right (by omega), h2, show C * (K + 2) + 30 - C * (K + 2) - 30 = 0 by omega]
  rfl

set_option maxHeartbeats 1000000 in
theorem awake8_any (w : World) : Calls Try.prog 8 #[] w (Gives (.bool true) w) := by
  have HP := Lib.hid (pageOk 1 4 [1, 2, 3, 4] tag1 (by omega) (by omega) rfl (by simp))
  have HL := Lib.hid (pageL_length HP.out)
  have HM := Lib.hid (page_mark HP.out)
  have hE := fun A c w' h hc => PageEnc_yes geo1 geo1_ok 1 4 rfl rfl tag1 tag1_ok A 4 c rfl [1, 2, 3, 4] w' h hc
  have B0 := Lib.hid (below_step (below_new w (.cells #[.int .i64 1, .int .i64 2, .int .i64 4, .int .i64 1, .int .i64 4, .int .i64 1, .int .i64 1] 23)) (below_new _ (.cells #[.int .u8 1, .int .u8 2, .int .u8 3, .int .u8 4] 5)))
  have H1 := Lib.hid (four_bytes (w.alloc (.cells #[.int .i64 1, .int .i64 2, .int .i64 4, .int .i64 1, .int .i64 4, .int .i64 1, .int .i64 1] 23)) 1 2 3 4 5 (by omega) (by omega) (by omega) (by omega))
  simp only [geo1, tag1, Gm.val, Tg.val] at hE
  go_enter Try.func8, Try.ntmps8
  go_wp2_with fail
  refine (hE _ _ _ (by simpa using H1.out) (by omega)).mono ?_
  intro _ w1 hM
  obtain ⟨A1, c1, rfl, R1, _, _, B1⟩ := hM.at_ (n := 37) HL.out
  obtain ⟨b2, o2, x, rfl, _, HX, _, hcx⟩ := R1.out.at_ (k := 36) (by omega)
  have hx : x = 255 := by
    have h1 := HX.out
    have h2 := HM.out
    simp only [tag1] at h2
    rw [h2] at h1
    injection h1 with h1
    omega
  subst hx
  have B2 := Lib.hid (below_step B0.out B1.out)
  clear hM B1 hE HX R1
  go_wp2
  go_ret
  exact ⟨rfl, B2.out⟩
theorem Ret4.tag {d : List Nat} {t : Tg} {s : Nat} {e : Int} {w w' : World} {en : Ending} (h : Ret4 d t s e w en w') (n : Nat) (hl : d.length = n) (tk ts tq te : Int) (ht : t = ⟨tk, ts, tq, te⟩) :
    ∃ A c, en = .returned (.tuple #[.slice A n c, .agg #[.int .i64 tk, .int .i64 ts, .int .i64 tq, .int .i64 te], .int .i64 (s : Int), .int .i64 e]) ∧ Hid (R8 w' A n d) ∧ Hid (Below w.heap.size w w') := by
  subst ht
  exact h.at_ hl
end Go.Proofs.Ytjahbpmkkfdimaa

/-
  Slices of uint16; contract of the laws' turn, over the landed code.
-/
namespace Go.Proofs.Ytjahbpmkkfdimaa
open Go.RowKit
set_option maxRecDepth 100000

/-- A list of uint16, as cells. -/
def U16 (l : List Nat) : List Value := l.map fun (x : Nat) => Value.int .u16 (x : Int)
/-- The slice holds the uint16 l. -/
def R16 (w : World) (A : Option Addr) (n : Nat) (l : List Nat) : Prop := Rd w A n (U16 l) ∧ ∀ x ∈ l, x < 65536
section
variable {w w' : World} {A : Option Addr} {n : Nat} {l : List Nat}
theorem R16.len (h : R16 w A n l) : l.length = n := by have := h.1.1; simpa [U16] using this
theorem R16.below (h : R16 w A n l) (hb : Below w.heap.size w w') : R16 w' A n l := ⟨h.1.below hb, h.2⟩
theorem R16.at_ {k : Nat} (h : R16 w A n l) (hk : k < n) :
    ∃ b off x, A = some ⟨b, off, none⟩ ∧ b < w.heap.size ∧ Hid (l[k]? = some x) ∧ x < 65536 ∧ w.cell? ⟨b, off + k, none⟩ = some (.int .u16 (x : Int)) := by
  obtain ⟨b, off, e, hb, hc⟩ := h.1.2 (by omega)
  have hl : k < l.length := by have := h.len; omega
  refine ⟨b, off, l[k], e, hb, List.getElem?_eq_getElem hl, h.2 _ (List.getElem_mem hl), ?_⟩
  rw [hc k hk, U16, List.getElem?_map, List.getElem?_eq_getElem hl]
  rfl
theorem R16.of_cells {a : Option Addr} {len cap : Nat} {zs : List Int}
    (h : (a = none ∧ len = 0 ∧ cap = 0 ∧ zs = []) ∨
      ∃ x, a = some x ∧ len ≤ cap ∧ cap ≤ maxLen ∧ zs.length = cap ∧ (∀ i, i < zs.length → w.cell? (x.add i) = some (.int .u16 (zs.getD i 0))) ∧ ∀ n ∈ zs, (Lit.int .u16 n).wf = true) :
    len ≤ 9223372036854775807 ∧ ∃ l, R16 w a len l := by
  rcases h with ⟨rfl, rfl, _, _⟩ | ⟨x, rfl, hl, hm, hz, hc, hw⟩
  · exact ⟨by omega, [], Rd.nil_, by simp⟩
  · refine ⟨by unfold maxLen at hm; omega, (zs.take len).map Int.toNat, ⟨⟨by simp [U16]; omega, fun hn => ?_⟩, ?_⟩⟩
    · obtain ⟨b, off, spot⟩ := x
      have h0 := hc 0 (by omega)
      have hs : spot = none := by simpa [Addr.add] using World.cell?_spot h0
      subst hs
      have hb : b < w.heap.size := by have := World.block_lt_of_cell? w _ h0; simpa [Addr.add] using this
      refine ⟨b, off, rfl, hb, fun j hj => ?_⟩
      have hj1 : j < zs.length := by omega
      have h1 := hc j hj1
      have e : ((⟨b, off, none⟩ : Addr).add j) = ⟨b, off + j, none⟩ := by unfold Addr.add; split <;> simp_all
      rw [e] at h1
      rw [h1]
      have hwf := hw _ (List.getElem_mem hj1)
      have hnn : 0 ≤ zs[j] ∧ zs[j] ≤ 65535 := by simpa [Lit.wf, IntKind.min, IntKind.max, IntKind.signed, IntKind.bits] using hwf
      have hj2 : j < (zs.take len).length := by simp; omega
      simp only [U16, List.getElem?_map]
      rw [List.getElem?_eq_getElem hj2]
      simp [hj1]
      omega
    · intro n hn
      simp only [List.mem_map] at hn
      obtain ⟨z, hz1, rfl⟩ := hn
      have hwf := hw _ (List.mem_of_mem_take hz1)
      have hnn : 0 ≤ z ∧ z ≤ 65535 := by simpa [Lit.wf, IntKind.min, IntKind.max, IntKind.signed, IntKind.bits] using hwf
      omega
end

theorem pg_turn_len (C K : Nat) (l : List Nat) (f : Nat → List Nat) (j : Nat) (h : ∀ i, i < C → (f i).length = K + 2) (hC : (f C).length = 30) : (pg (turnF C K l f j) C).length = C * (K + 2) + 31 :=
  pg_length _ C (K + 2) (fun i hi => by rw [turnF_len]; exact h i hi) (by rw [turnF_len]; exact hC)

set_option maxHeartbeats 4000000 in
theorem turn_any (g : Gm) (C K : Nat) (hC : g.c = (C : Int)) (hK : g.k = (K : Int)) (hC2 : C ≤ 16) (hK2 : K ≤ 512) (f : Nat → List Nat) (hf : ∀ i, i < C → (f i).length = K + 2) (hfC : (f C).length = 30)
    (A P : Option Addr) (n c m pd : Nat) (l : List Nat) (w : World) (hn : n = C * (K + 2) + 31) (hr : R8 w A n (pg f C)) (hc : n ≤ c) (hp : R16 w P m l) (hm : m ≤ 1000) :
    Calls Try.prog 22 #[g.val, .slice A n c, .slice P m pd] w (MakesC (pg (turnF C K l f m) C) w) := by
  have HFl := Lib.hid (fun j => pg_turn_len C K l f j hf hfC)
  have HY := Lib.hid (fun j k hk hj hw => turn_yes C K l f j k hk hj hw hf hfC)
  have HNo := Lib.hid (fun j k hk hw => turn_no C K l f j k hk hw)
  have HZ := Lib.hid (turnF_zero C K l f)
  have HN := Lib.hid hn
  have hn2 : n ≤ 8255 := by
    have hk2 : K + 2 ≤ 514 := by omega
    have := Nat.mul_le_mul hC2 hk2
    omega
  have HPl := Lib.hid hp.len
  obtain ⟨p, b, s, gc, k, r, q⟩ := g
  simp only at hC hK
  subst hC hK
  simp only [Gm.val]
  have B0 := Lib.hid (below_new w (.cells #[.int .i64 p, .int .i64 b, .int .i64 s, .int .i64 C, .int .i64 K, .int .i64 r, .int .i64 q] 23))
  have Y0 := Lib.hid (GBox.new w ⟨p, b, s, C, K, r, q⟩ 23)
  have HR0 := Lib.hid (hr.below B0.out)
  have HP0 := Lib.hid (hp.below B0.out)
  simp only at Y0
  clear hr hp hn hf hfC
  go_enter Try.func22, Try.ntmps22
  go_wp2
  generalize w.alloc (.cells #[.int .i64 p, .int .i64 b, .int .i64 s, .int .i64 C, .int .i64 K, .int .i64 r, .int .i64 q] 23) = w0 at *
  go_loopw [1, 12] (fun v ix wr => ∃ (j cv : Nat) (Av : Option Addr), j ≤ m ∧ n ≤ cv ∧ ix = .int .i64 (j : Int) ∧ v = .slice Av n cv ∧ Hid (R8 wr Av n (pg (turnF C K l f j) C)) ∧ Hid (Below w0.heap.size w0 wr))
    (fun _ ix _ => m - (intOf ix).toNat)
  case atStart => exact ⟨0, c, A, Nat.zero_le _, hc, rfl, rfl, by rw [HZ.out]; exact HR0, Below.refl _ _⟩
  case round =>
    obtain ⟨j, cv, Av, hj, hcv, rfl, rfl, HR, HB⟩ := hrel
    by_cases hlt : j < m
    · obtain ⟨b1, o1, x, rfl, hb1, HX, hx, hcx⟩ := (HP0.out.below HB.out).at_ hlt
      obtain ⟨_, y0, y1, y2, y3, y4, y5, y6⟩ := Y0.out.below HB.out
      simp only at y0 y1 y2 y3 y4 y5 y6
      clear y0 y1 y2 y5 y6
      have HBd := Lib.hid HB.out.size
      have hx2 : (x : Int) ≤ 65535 := by omega
      by_cases hjC : j = C
      · have hjle : j ≤ C := by omega
        have hj16 : j ≤ 16 := by omega
        have e1 : ((j : Int) == (C : Int)) = true := by simp; omega
        have d1 : decide ((j : Int) ≤ (C : Int)) = true := decide_eq_true (by omega)
        have hwid : wid C K j = 238 := if_pos hjC
        clear hjC
        by_cases hx3 : x < 238
        · have d2 : decide ((x : Int) < 238) = true := decide_eq_true (by omega)
          have hxw : x < wid C K j := by omega
          clear hwid
          obtain ⟨M, HM⟩ : ∃ M, Hid (8 * (j * (K + 2)) = M) := ⟨_, rfl⟩
          have hM2 : M ≤ 65792 := by
            rw [← HM.out]
            have := Nat.mul_le_mul (Nat.le_trans hjle hC2) (show K + 2 ≤ 514 by omega)
            omega
          have hmul : 8 * (j : Int) * ((K : Int) + 2) = (M : Int) := by
            rw [← HM.out, Int.natCast_mul, Int.natCast_mul, Int.natCast_add, Int.mul_assoc]
            rfl
          have HT := Lib.hid (HY.out j x HX.out hjle hxw)
          rw [HM.out] at HT
          have hFlip : Calls Try.prog 23 #[.slice Av n cv, .slice (some ⟨wr.heap.size, 0, none⟩) 1 1] (wr.alloc (.cells #[.int .i64 ((M : Int) + (x : Int))] 3)) (OwnsB 5 (pg (turnF C K l f (j + 1)) C) (wr.alloc (.cells #[.int .i64 ((M : Int) + (x : Int))] 3))) := by
            have := Flip_any Av (some ⟨wr.heap.size, 0, none⟩) n cv 1 1 (pg (turnF C K l f j) C) [(M : Int) + (x : Int)] (wr.alloc (.cells #[.int .i64 ((M : Int) + (x : Int))] 3)) (HR.out.alloc _) (one_int wr _ _ (by omega) (by omega)) (by omega) (by omega)
            rw [flips_one] at this
            rw [← HT.out]
            exact this
          have HLn := Lib.hid (show (pg (turnF C K l f (j + 1)) C).length = n by rw [HFl.out, HN.out])
          have HLb := Lib.hid (show ∀ y ∈ pg (turnF C K l f (j + 1)) C, y < 256 by rw [← HT.out]; exact flip1_lt _ _ HR.out.2)
          clear HT hxw
          go_wp2_with fail
          refine hFlip.mono ?_
          intro _ w2 hM9
          obtain ⟨A2, c2, rfl, O2, D2⟩ := hM9.at_ HLn.out
          have HB2 := Lib.hid (below_step (HB.out.alloc HB.out.size _) D2.out)
          have R2 := Lib.hid (R8.own O2.out HLb.out)
          have hc2 := own_cap O2.out
          clear hM9 hFlip D2 O2 hcx y3 y4
          go_wp2
          go_roundw
          case rel => exact ⟨j + 1, c2, A2, by omega, hc2, by go_num, rfl, R2, HB2⟩
          case measure => simp [intOf]; omega
        · have d2 : decide ((x : Int) < 238) = false := decide_eq_false (by omega)
          have hno : ¬ (j ≤ C ∧ x < wid C K j) := by omega
          clear hwid
          have HT := Lib.hid (HNo.out j x HX.out hno)
          clear hno
          go_wp2
          go_roundw
          case rel => exact ⟨j + 1, cv, Av, by omega, hcv, by go_num, rfl, by rw [← HT.out]; exact HR, HB⟩
          case measure => simp [intOf]; omega
      · have e1 : ((j : Int) == (C : Int)) = false := by simp; omega
        by_cases hjle : j ≤ C
        · have hj16 : j ≤ 16 := by omega
          have d1 : decide ((j : Int) ≤ (C : Int)) = true := decide_eq_true (by omega)
          have hwid : wid C K j = 8 * K + 14 := if_neg hjC
          by_cases hx3 : x < 8 * K + 14
          · have d2 : decide ((x : Int) < 8 * (K : Int) + 14) = true := decide_eq_true (by omega)
            have hxw : x < wid C K j := by omega
            clear hwid
            obtain ⟨M, HM⟩ : ∃ M, Hid (8 * (j * (K + 2)) = M) := ⟨_, rfl⟩
            have hM2 : M ≤ 65792 := by
              rw [← HM.out]
              have := Nat.mul_le_mul (Nat.le_trans hjle hC2) (show K + 2 ≤ 514 by omega)
              omega
            have hmul : 8 * (j : Int) * ((K : Int) + 2) = (M : Int) := by
              rw [← HM.out, Int.natCast_mul, Int.natCast_mul, Int.natCast_add, Int.mul_assoc]
              rfl
            have HT := Lib.hid (HY.out j x HX.out hjle hxw)
            rw [HM.out] at HT
            have hFlip : Calls Try.prog 23 #[.slice Av n cv, .slice (some ⟨wr.heap.size, 0, none⟩) 1 1] (wr.alloc (.cells #[.int .i64 ((M : Int) + (x : Int))] 3)) (OwnsB 5 (pg (turnF C K l f (j + 1)) C) (wr.alloc (.cells #[.int .i64 ((M : Int) + (x : Int))] 3))) := by
              have := Flip_any Av (some ⟨wr.heap.size, 0, none⟩) n cv 1 1 (pg (turnF C K l f j) C) [(M : Int) + (x : Int)] (wr.alloc (.cells #[.int .i64 ((M : Int) + (x : Int))] 3)) (HR.out.alloc _) (one_int wr _ _ (by omega) (by omega)) (by omega) (by omega)
              rw [flips_one] at this
              rw [← HT.out]
              exact this
            have HLn := Lib.hid (show (pg (turnF C K l f (j + 1)) C).length = n by rw [HFl.out, HN.out])
            have HLb := Lib.hid (show ∀ y ∈ pg (turnF C K l f (j + 1)) C, y < 256 by rw [← HT.out]; exact flip1_lt _ _ HR.out.2)
            clear HT hxw
            go_wp2_with fail
            refine hFlip.mono ?_
            intro _ w2 hM9
            obtain ⟨A2, c2, rfl, O2, D2⟩ := hM9.at_ HLn.out
            have HB2 := Lib.hid (below_step (HB.out.alloc HB.out.size _) D2.out)
            have R2 := Lib.hid (R8.own O2.out HLb.out)
            have hc2 := own_cap O2.out
            clear hM9 hFlip D2 O2 hcx y3 y4
            go_wp2
            go_roundw
            case rel => exact ⟨j + 1, c2, A2, by omega, hc2, by go_num, rfl, R2, HB2⟩
            case measure => simp [intOf]; omega
          · have d2 : decide ((x : Int) < 8 * (K : Int) + 14) = false := decide_eq_false (by omega)
            have hno : ¬ (j ≤ C ∧ x < wid C K j) := by omega
            clear hwid
            have HT := Lib.hid (HNo.out j x HX.out hno)
            clear hno
            go_wp2
            go_roundw
            case rel => exact ⟨j + 1, cv, Av, by omega, hcv, by go_num, rfl, by rw [← HT.out]; exact HR, HB⟩
            case measure => simp [intOf]; omega
        · have d1 : decide ((j : Int) ≤ (C : Int)) = false := decide_eq_false (by omega)
          have hno : ¬ (j ≤ C ∧ x < wid C K j) := fun h => hjle h.1
          have HT := Lib.hid (HNo.out j x HX.out hno)
          clear hno
          go_wp2
          go_roundw
          case rel => exact ⟨j + 1, cv, Av, by omega, hcv, by go_num, rfl, by rw [← HT.out]; exact HR, HB⟩
          case measure => simp [intOf]; omega
    · obtain rfl : j = m := by omega
      go_wp2
      go_ret
      have e := HFl.out j
      rw [← HN.out] at e
      exact ⟨Av, cv, by rw [e]; rfl, by rw [e]; exact HR.out, by rw [e]; exact hcv, below_step B0.out HB.out⟩
end Go.Proofs.Ytjahbpmkkfdimaa
