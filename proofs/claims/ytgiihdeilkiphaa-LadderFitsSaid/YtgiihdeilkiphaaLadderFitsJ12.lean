/-
  Contracts of bytes.Clone, of page.cut, of the parts' empty, of page.Marked and of the contents' checksum, over the landed code.
-/
import Derived.Deep.RegionHeld3
import Derived.Laws.MakeOwn
import Derived.Test.YtgiihdeilkiphaaLadderFitsJGeomK
import Derived.Test.YtgiihdeilkiphaaLadderFitsJ6
import Derived.Test.YtgiihdeilkiphaaLadderFitsJChunkG
import Derived.Test.YtgiihdeilkiphaaLadderFitsJ7
import Derived.Test.YtgiihdeilkiphaaLadderFitsJ5
import Derived.Test.YtgiihdeilkiphaaLadderFitsJ9
import Derived.Test.YtgiihdeilkiphaaLadderFitsJTagB
import Derived.Test.YtgiihdeilkiphaaLadderFitsJ3
import Derived.Test.YtgiihdeilkiphaaLadderFitsJTagC
namespace Go.Proofs.Ytgiihdeilkiphaa
open Go.RowKit
set_option maxRecDepth 100000

theorem size_parts : (Try.prog.info? 63).map (·.size) = some 3 := by kernel_rfl
theorem size_contents : (Try.prog.info? 69).map (·.size) = some 3 := by kernel_rfl

set_option maxHeartbeats 400000 in
theorem cut_geom (g : Gm) (h : g.ok = false) (A : Option Addr) (n c : Nat) (w : World) :
    Calls Try.prog 33 #[g.val, .slice A n c] w (Gives (.tuple #[.agg #[.slice none 0 0, .slice none 0 0, .slice none 0 0], .bool false]) w) := by
  have HO := Lib.hid h
  clear h
  obtain ⟨p, b, s, gc, k, r, q⟩ := g
  simp only [Gm.val]
  go_enter Try.func33, Try.ntmps33
  go_wp2_with fail
  refine (Check_no ⟨p, b, s, gc, k, r, q⟩ HO.out _).mono ?_
  rintro _ w1 ⟨rfl, h1⟩
  have B1 := Lib.hid (below_step (below_step (below_new w _) (below_new _ _)) h1)
  have T1 : Hid (CRow w1 (w.heap.size + 1) 63 #[.slice none 0 0, .slice none 0 0, .slice none 0 0]) := Lib.hid (by simpa using (CRow.new (w.alloc (.cells #[.int .i64 p, .int .i64 b, .int .i64 s, .int .i64 gc, .int .i64 k, .int .i64 r, .int .i64 q] 23)) #[.slice none 0 0, .slice none 0 0, .slice none 0 0] 63).below h1)
  clear h1
  go_wp2_with (with_reducible refine (?_ : wpList _ _ _ ({ dst := _, op := Op.store 63 _ _, type := _, pos := _, after := _, guard := _ } :: _) _ _); refine wpList_store_at rfl 63 _ _ rfl 3 size_parts _ (w.heap.size + 1) ?hx rfl _ T1.out.row ?hn ?ho ?h1 ?_; (case hx => simp [Act.eval]); (case hn => simp); (case ho => simp); (case h1 => simp [Value.oneCell']))
  have B3 := Lib.hid (below_setRow B1.out (Nat.le_succ _) #[.slice none 0 0, .slice none 0 0, .slice none 0 0])
  have T3 := Lib.hid (T1.out.set #[.slice none 0 0, .slice none 0 0, .slice none 0 0])
  go_wp2
  refine bodyPost_ret (results_cell_tmp_row rfl _ _ (w.heap.size + 1) 63 _ (0, 0) _ rfl T3.out.row Try.underlying63 rfl size_parts) rfl ?_
  exact ⟨rfl, B3.out⟩

set_option maxHeartbeats 400000 in
theorem cut_len (g : Gm) (h : g.ok = true) (A : Option Addr) (n c : Nat) (hn : (n : Int) ≠ g.raw) (w : World) :
    Calls Try.prog 33 #[g.val, .slice A n c] w (Gives (.tuple #[.agg #[.slice none 0 0, .slice none 0 0, .slice none 0 0], .bool false]) w) := by
  have HO := Lib.hid h
  obtain ⟨m, HR⟩ : ∃ m, Hid (g.raw = m) := ⟨_, rfl⟩
  have hne : ((n : Int) != m) = true := by rw [← HR.out]; simpa using hn
  clear h hn
  obtain ⟨p, b, s, gc, k, r, q⟩ := g
  simp only [Gm.val]
  go_enter Try.func33, Try.ntmps33
  go_wp2_with fail
  refine (Check_yes ⟨p, b, s, gc, k, r, q⟩ HO.out _).mono ?_
  rintro _ w1 ⟨rfl, h1⟩
  have B1 := Lib.hid (below_step (below_step (below_new w _) (below_new _ _)) h1)
  have T1 : Hid (CRow w1 (w.heap.size + 1) 63 #[.slice none 0 0, .slice none 0 0, .slice none 0 0]) := Lib.hid (by simpa using (CRow.new (w.alloc (.cells #[.int .i64 p, .int .i64 b, .int .i64 s, .int .i64 gc, .int .i64 k, .int .i64 r, .int .i64 q] 23)) #[.slice none 0 0, .slice none 0 0, .slice none 0 0] 63).below h1)
  obtain ⟨hlt1, g0, g1, g2, g3, g4, g5, g6⟩ := ((GBox.new w ⟨p, b, s, gc, k, r, q⟩ 23).below (below_new _ (.cells #[.slice none 0 0, .slice none 0 0, .slice none 0 0] 63))).below h1
  simp only at g0 g1 g2 g3 g4 g5 g6
  clear h1
  go_wp2_with fail
  refine (Raw_is ⟨p, b, s, gc, k, r, q⟩ _ HR.out _).mono ?_
  rintro _ w2 ⟨rfl, h2⟩
  have B2 := Lib.hid (below_step B1.out h2)
  have T2 := Lib.hid (T1.out.below h2)
  clear h2 g0 g1 g2 g3 g4 g5 g6
  go_wp2_with (with_reducible refine (?_ : wpList _ _ _ ({ dst := _, op := Op.store 63 _ _, type := _, pos := _, after := _, guard := _ } :: _) _ _); refine wpList_store_at rfl 63 _ _ rfl 3 size_parts _ (w.heap.size + 1) ?hx rfl _ T2.out.row ?hn ?ho ?h1 ?_; (case hx => simp [Act.eval]); (case hn => simp); (case ho => simp); (case h1 => simp [Value.oneCell']))
  have B3 := Lib.hid (below_setRow B2.out (Nat.le_succ _) #[.slice none 0 0, .slice none 0 0, .slice none 0 0])
  have T3 := Lib.hid (T2.out.set #[.slice none 0 0, .slice none 0 0, .slice none 0 0])
  go_wp2
  refine bodyPost_ret (results_cell_tmp_row rfl _ _ (w.heap.size + 1) 63 _ (0, 0) _ rfl T3.out.row Try.underlying63 rfl size_parts) rfl ?_
  exact ⟨rfl, B3.out⟩

set_option maxHeartbeats 1000000 in
theorem cut_yes (g : Gm) (h : g.ok = true) (C K : Nat) (hC : g.c = (C : Int)) (hK : g.k = (K : Int)) (A : Option Addr) (n c : Nat) (hn : n = C * (K + 2) + 31) (hcap : n ≤ c) (w : World) :
    Calls Try.prog 33 #[g.val, .slice A n c] w (Gives (.tuple #[.agg #[.slice A (C * (K + 2)) c, .slice (cutA A c (C * (K + 2))) 30 (c - C * (K + 2)), .slice (cutA A c (n - 1)) 1 (c - (n - 1))], .bool true]) w) := by
  obtain ⟨i0, ti, tz0, tz1, tz2⟩ := info_parts info_u8
  have HO := Lib.hid h
  have hbd := Gm.bounds_of h
  have HR := Lib.hid (show g.raw = (n : Int) by unfold Gm.raw; rw [if_pos h, hC, hK, hn, Int.natCast_add, Int.natCast_mul, Int.natCast_add]; rfl)
  obtain ⟨a, HA⟩ : ∃ a, Hid (C * (K + 2) = a) := ⟨_, rfl⟩
  have hmul : (C : Int) * ((K : Int) + 2) = (a : Int) := by rw [← HA.out, Int.natCast_mul, Int.natCast_add]; rfl
  rw [HA.out] at hn ⊢
  obtain ⟨e, He⟩ : ∃ e, Hid (n - 1 = e) := ⟨_, rfl⟩
  rw [He.out]
  have hea : e = a + 30 := by rw [← He.out]; omega
  have hne : n = e + 1 := by omega
  have hsub : (n : Int) - 1 = (e : Int) := by omega
  have ha2 : a ≤ 8224 := by
    have hc16 : C ≤ 16 := by omega
    have hk2 : K + 2 ≤ 514 := by omega
    have := Nat.mul_le_mul hc16 hk2
    rw [HA.out] at this
    omega
  have he2 : e ≤ 8254 := by omega
  have hsl1 := run_slice_to (P := Try.prog) Try.underlying27 ti (by kernel_rfl) A n c a (by omega)
  have hsl2 := run_sliceAt_to (P := Try.prog) Try.underlying27 ti (by kernel_rfl) A n c a (by omega)
  have hsm1 := run_slice_mid (P := Try.prog) Try.underlying27 ti (by kernel_rfl) A n c a e (by omega) (by omega)
  have hsm2 := run_sliceAt_mid (P := Try.prog) Try.underlying27 ti (by kernel_rfl) A n c a e (by omega) (by omega)
  have hsf1 := run_slice_from (P := Try.prog) Try.underlying27 ti (by kernel_rfl) A n c e (by omega)
  have hsf2 := run_sliceAt_from (P := Try.prog) Try.underlying27 ti (by kernel_rfl) A n c e (by omega)
  rw [show e - a = 30 by omega] at hsm1 hsm2
  rw [show n - e = 1 by omega] at hsf1 hsf2
  generalize cutA A c a = A1 at *
  generalize cutA A c e = A2 at *
  clear h hn hcap hea hne He HA
  obtain ⟨p, b, s, gc, k, r, q⟩ := g
  simp only at hC hK hbd
  subst hC hK
  simp only [Gm.val]
  go_enter Try.func33, Try.ntmps33
  go_wp2_with fail
  refine (Check_yes ⟨p, b, s, C, K, r, q⟩ HO.out _).mono ?_
  rintro _ w1 ⟨rfl, h1⟩
  have B1 := Lib.hid (below_step (below_step (below_new w _) (below_new _ _)) h1)
  have T1 : Hid (CRow w1 (w.heap.size + 1) 63 #[.slice none 0 0, .slice none 0 0, .slice none 0 0]) := Lib.hid (by simpa using (CRow.new (w.alloc (.cells #[.int .i64 p, .int .i64 b, .int .i64 s, .int .i64 C, .int .i64 K, .int .i64 r, .int .i64 q] 23)) #[.slice none 0 0, .slice none 0 0, .slice none 0 0] 63).below h1)
  obtain ⟨hlt1, g0, g1, g2, g3, g4, g5, g6⟩ := ((GBox.new w ⟨p, b, s, C, K, r, q⟩ 23).below (below_new _ (.cells #[.slice none 0 0, .slice none 0 0, .slice none 0 0] 63))).below h1
  simp only at g0 g1 g2 g3 g4 g5 g6
  clear h1
  go_wp2_with fail
  refine (Raw_is ⟨p, b, s, C, K, r, q⟩ _ HR.out _).mono ?_
  rintro _ w2 ⟨rfl, h2⟩
  have B2 := Lib.hid (below_step B1.out h2)
  have T2 := Lib.hid (T1.out.below h2)
  have hw2 := h2.size
  have k3 := (h2.cell (p := ⟨w.heap.size, 3, none⟩) hlt1).trans g3
  have k4 := (h2.cell (p := ⟨w.heap.size, 4, none⟩) hlt1).trans g4
  clear h2 g0 g1 g2 g3 g4 g5 g6
  go_wp2
  refine wp_region_noPanic ?_
  refine wp_region_held_drew (S := fun w' => Below w.heap.size w w') (by kernel_rfl) B2.out.drew (fun C0 => ?_)
  refine wpAnyH_take (i := 0) (oi := { dst := some 28, op := Op.move (Operand.tmp 1), type := 27, pos := "page.go:148", after := #[], guard := none }) (v := ?_) rfl (by kernel_rfl) (by kernel_rfl) (by kernel_rfl) (fun _ _ _ h => h) (Or.inl ⟨by rfl, ?_⟩) C0 ?_
  rotate_left
  · intro W' hSw
    clear hSw
    go_simp <;> with_reducible rfl
  try simp only [Act.put, List.setIfInBounds_toArray, List.set_cons_zero, List.set_cons_succ]
  refine wpAnyH_take (i := 1) (oi := { dst := some 29, op := Op.move (Operand.tmp 6), type := 3, pos := "page.go:148", after := #[], guard := none }) (v := ?_) rfl (by kernel_rfl) (by kernel_rfl) (by kernel_rfl) (fun _ _ _ h => h) (Or.inl ⟨by rfl, ?_⟩) C0 ?_
  rotate_left
  · intro W' hSw
    clear hSw
    go_simp <;> with_reducible rfl
  try simp only [Act.put, List.setIfInBounds_toArray, List.set_cons_zero, List.set_cons_succ]
  refine wpAnyH_take (i := 2) (oi := { dst := some 30, op := Op.slice 27 (Operand.tmp 28) none (some (Operand.tmp 29)) none, type := 27, pos := "page.go:148", after := #[{ on := 0, ground := Ground.data }, { on := 1, ground := Ground.data }], guard := none }) (v := ?_) rfl (by kernel_rfl) (by kernel_rfl) (by kernel_rfl) (fun _ _ _ h => h) (Or.inl ⟨by rfl, ?_⟩) C0 ?_
  rotate_left
  · intro W' hSw
    clear hSw
    go_simp <;> with_reducible rfl
  try simp only [Act.put, List.setIfInBounds_toArray, List.set_cons_zero, List.set_cons_succ]
  refine wpAnyH_take (i := 3) (oi := { dst := some 31, op := Op.move (Operand.tmp 1), type := 27, pos := "page.go:148", after := #[], guard := none }) (v := ?_) rfl (by kernel_rfl) (by kernel_rfl) (by kernel_rfl) (fun _ _ _ h => h) (Or.inl ⟨by rfl, ?_⟩) C0 ?_
  rotate_left
  · intro W' hSw
    clear hSw
    go_simp <;> with_reducible rfl
  try simp only [Act.put, List.setIfInBounds_toArray, List.set_cons_zero, List.set_cons_succ]
  refine wpAnyH_take (i := 4) (oi := { dst := some 32, op := Op.move (Operand.tmp 6), type := 3, pos := "page.go:148", after := #[], guard := none }) (v := ?_) rfl (by kernel_rfl) (by kernel_rfl) (by kernel_rfl) (fun _ _ _ h => h) (Or.inl ⟨by rfl, ?_⟩) C0 ?_
  rotate_left
  · intro W' hSw
    clear hSw
    go_simp <;> with_reducible rfl
  try simp only [Act.put, List.setIfInBounds_toArray, List.set_cons_zero, List.set_cons_succ]
  refine wpAnyH_take (i := 5) (oi := { dst := some 33, op := Op.move (Operand.tmp 7), type := 3, pos := "page.go:148", after := #[], guard := none }) (v := ?_) rfl (by kernel_rfl) (by kernel_rfl) (by kernel_rfl) (fun _ _ _ h => h) (Or.inl ⟨by rfl, ?_⟩) C0 ?_
  rotate_left
  · intro W' hSw
    clear hSw
    go_simp <;> with_reducible rfl
  try simp only [Act.put, List.setIfInBounds_toArray, List.set_cons_zero, List.set_cons_succ]
  refine wpAnyH_take (i := 6) (oi := { dst := some 34, op := Op.slice 27 (Operand.tmp 31) (some (Operand.tmp 32)) (some (Operand.tmp 33)) none, type := 27, pos := "page.go:148", after := #[{ on := 3, ground := Ground.data }, { on := 4, ground := Ground.data }, { on := 5, ground := Ground.data }], guard := none }) (v := ?_) rfl (by kernel_rfl) (by kernel_rfl) (by kernel_rfl) (fun _ _ _ h => h) (Or.inl ⟨by rfl, ?_⟩) C0 ?_
  rotate_left
  · intro W' hSw
    clear hSw
    go_simp <;> with_reducible rfl
  try simp only [Act.put, List.setIfInBounds_toArray, List.set_cons_zero, List.set_cons_succ]
  refine wpAnyH_take (i := 7) (oi := { dst := some 35, op := Op.move (Operand.tmp 1), type := 27, pos := "page.go:148", after := #[], guard := none }) (v := ?_) rfl (by kernel_rfl) (by kernel_rfl) (by kernel_rfl) (fun _ _ _ h => h) (Or.inl ⟨by rfl, ?_⟩) C0 ?_
  rotate_left
  · intro W' hSw
    clear hSw
    go_simp <;> with_reducible rfl
  try simp only [Act.put, List.setIfInBounds_toArray, List.set_cons_zero, List.set_cons_succ]
  refine wpAnyH_take (i := 8) (oi := { dst := some 36, op := Op.move (Operand.tmp 7), type := 3, pos := "page.go:148", after := #[], guard := none }) (v := ?_) rfl (by kernel_rfl) (by kernel_rfl) (by kernel_rfl) (fun _ _ _ h => h) (Or.inl ⟨by rfl, ?_⟩) C0 ?_
  rotate_left
  · intro W' hSw
    clear hSw
    go_simp <;> with_reducible rfl
  try simp only [Act.put, List.setIfInBounds_toArray, List.set_cons_zero, List.set_cons_succ]
  refine wpAnyH_take (i := 9) (oi := { dst := some 37, op := Op.slice 27 (Operand.tmp 35) (some (Operand.tmp 36)) none none, type := 27, pos := "page.go:148", after := #[{ on := 7, ground := Ground.data }, { on := 8, ground := Ground.data }], guard := none }) (v := ?_) rfl (by kernel_rfl) (by kernel_rfl) (by kernel_rfl) (fun _ _ _ h => h) (Or.inl ⟨by rfl, ?_⟩) C0 ?_
  rotate_left
  · intro W' hSw
    clear hSw
    go_simp <;> with_reducible rfl
  try simp only [Act.put, List.setIfInBounds_toArray, List.set_cons_zero, List.set_cons_succ]
  refine wpAnyH_take (i := 10) (oi := { dst := some 38, op := Op.build 63 #[(0, Operand.tmp 30), (1, Operand.tmp 34), (2, Operand.tmp 37)], type := 63, pos := "page.go:148", after := #[{ on := 2, ground := Ground.data }, { on := 6, ground := Ground.data }, { on := 9, ground := Ground.data }], guard := none }) (v := ?_) rfl (by kernel_rfl) (by kernel_rfl) (by kernel_rfl) (fun _ _ _ h => h) (Or.inl ⟨by rfl, ?_⟩) C0 ?_
  rotate_left
  · intro W' hSw
    clear hSw
    go_simp <;> with_reducible rfl
  try simp only [Act.put, List.setIfInBounds_toArray, List.set_cons_zero, List.set_cons_succ]
  refine wpAnyH_ready (rs := [11]) (by kernel_rfl) (by simp) ?_
  refine AllReadyH.cons (o := { dst := none, op := Op.store 63 (Operand.tmp 4) (Operand.tmp 38), type := 0, pos := "page.go:148", after := #[{ on := 10, ground := Ground.data }, { on := 0, ground := Ground.phase }, { on := 1, ground := Ground.phase }, { on := 2, ground := Ground.phase }, { on := 3, ground := Ground.phase }, { on := 4, ground := Ground.phase }, { on := 5, ground := Ground.phase }, { on := 6, ground := Ground.phase }, { on := 7, ground := Ground.phase }, { on := 8, ground := Ground.phase }, { on := 9, ground := Ground.phase }, { on := 10, ground := Ground.phase }], guard := none }) rfl (fun K hK => ?_) AllReadyH.nil
  rw [if_pos (by rfl)]
  refine wp_store_row 63 _ _ rfl (w.heap.size + 1) #[.slice A a c, .slice A1 30 (c - a), .slice A2 1 (c - e)] (by simp [Act.eval]) rfl 63 _ T2.out.drew.row size_parts (by simp) (by simp [Value.oneCell']) ?_
  refine hK.out _ _ (below_setRow C0 (Nat.le_succ _) _) (fun C1 => ?_)
  clear hK K
  try simp only [Act.put]
  refine wpAnyH_take (i := 12) (oi := { dst := some 5, op := Op.assign (Operand.const (Value.bool true)), type := 4, pos := "page.go:148", after := #[{ on := 11, ground := Ground.chain }, { on := 0, ground := Ground.phase }, { on := 1, ground := Ground.phase }, { on := 2, ground := Ground.phase }, { on := 3, ground := Ground.phase }, { on := 4, ground := Ground.phase }, { on := 5, ground := Ground.phase }, { on := 6, ground := Ground.phase }, { on := 7, ground := Ground.phase }, { on := 8, ground := Ground.phase }, { on := 9, ground := Ground.phase }, { on := 10, ground := Ground.phase }, { on := 11, ground := Ground.phase }], guard := none }) (v := ?_) rfl (by kernel_rfl) (by kernel_rfl) (by kernel_rfl) (fun _ _ _ h => h) (Or.inl ⟨by rfl, ?_⟩) C1 ?_
  rotate_left
  · intro W' hSw
    clear hSw
    go_simp <;> with_reducible rfl
  try simp only [Act.put, List.setIfInBounds_toArray, List.set_cons_zero, List.set_cons_succ]
  refine wpAnyH_done (by kernel_rfl) ?_ _
  refine NoPanic.normal ?_
  have T3 := Lib.hid (T2.out.drew.set #[.slice A a c, .slice A1 30 (c - a), .slice A2 1 (c - e)])
  go_wp2
  refine bodyPost_ret (results_cell_tmp_row rfl _ _ (w.heap.size + 1) 63 _ (0, 0) _ rfl T3.out.row Try.underlying63 rfl size_parts) rfl ?_
  exact ⟨rfl, C1⟩

set_option maxHeartbeats 400000 in
theorem empty_is (A1 B A3 : Option Addr) (n1 c1 m d n3 c3 : Nat) (l : List Nat) (v : Bool) (w : World) (hr : R8 w B m l) (hm : m ≤ 1099511627776) (hv : decide (8 * (m : Int) - (ones l : Int) ≤ 20) = v) :
    Calls Try.prog 34 #[.agg #[.slice A1 n1 c1, .slice B m d, .slice A3 n3 c3]] w (Gives (.bool v) w) := by
  have HR := Lib.hid (hr.below (below_new w (.cells #[.slice A1 n1 c1, .slice B m d, .slice A3 n3 c3] 63)))
  obtain ⟨o, HO⟩ : ∃ o, Hid (ones l = o) := ⟨_, rfl⟩
  rw [HO.out] at hv
  clear hr
  go_enter Try.func34, Try.ntmps34
  go_wp2_with (go_at_call 49; refine (Zeros_any _ _ _ l _ HR.out hm).mono ?_; rw [HO.out]; rintro _ w' ⟨rfl, rfl⟩)
  go_ret
  exact ⟨rfl, below_new w _⟩

set_option maxHeartbeats 400000 in
theorem checksum_any (T S D : Option Addr) (tn tc sn sc dn dc : Nat) (tb d : List Nat) (w : World) (hT : R8 w T tn tb) (hD : R8 w D dn d) (ht : tn ≤ 1099511627776) (hd : dn ≤ 1099511627776) :
    Calls Try.prog 37 #[.agg #[.slice T tn tc, .slice S sn sc, .slice D dn dc]] w (OwnsB 5 (le4 (sumL (d ++ tb))) w) := by
  have hs := sumL_lt (d ++ tb)
  obtain ⟨m, HM⟩ : ∃ m, Hid (sumL (d ++ tb) = m) := ⟨_, rfl⟩
  rw [HM.out] at hs ⊢
  have B0 := Lib.hid (below_new w (.cells #[.slice T tn tc, .slice S sn sc, .slice D dn dc] 69))
  have HT := Lib.hid (hT.below B0.out)
  have HD := Lib.hid (hD.below B0.out)
  clear hT hD
  go_enter Try.func37, Try.ntmps37
  go_wp2_with fail
  have hN : CRow ((w.alloc (.cells #[.slice T tn tc, .slice S sn sc, .slice D dn dc] 69)).alloc (.cells #[.slice D dn dc, .slice T tn tc] 27)) (w.heap.size + 1) 27 #[.slice D dn dc, .slice T tn tc] := by
    simpa using CRow.new (w.alloc (.cells #[.slice T tn tc, .slice S sn sc, .slice D dn dc] 69)) #[.slice D dn dc, .slice T tn tc] 27
  refine (Sum_two (w.heap.size + 1) _ _ _ _ _ _ _ d tb _ (hN.cell_at 0 _ rfl) (hN.cell_at 1 _ rfl) (HD.out.alloc _) (HT.out.alloc _) hd ht).mono ?_
  rw [HM.out]
  rintro _ w' ⟨rfl, rfl⟩
  clear hN
  go_wp2_with fail
  refine (Bytes_any m _ hs).mono ?_
  intro _ w2 hM
  obtain ⟨A2, c2, rfl, O2, B2⟩ := hM.at_ (n := 4) rfl
  have O3 := Lib.hid (own_mono (base' := w.heap.size) O2.out (by simp; omega))
  clear hM
  have HB := Lib.hid (below_step (below_step B0.out (below_new _ _)) B2.out)
  go_wp2
  go_ret
  exact ⟨A2, c2, rfl, O3.out, HB.out⟩
end Go.Proofs.Ytgiihdeilkiphaa

/-
  Contracts of the contents' codewords and of page.Encode, over the landed code.
-/
namespace Go.Proofs.Ytgiihdeilkiphaa
open Go.RowKit
set_option maxRecDepth 100000

/-- The codewords of the chunks, and that of the tag's bytes and the checksum's. -/
def wordsL (C K : Nat) (d tb sm : List Nat) : List Nat := catTo (fun i => encL (pieceL K d i)) C ++ encL (tb ++ sm)
theorem enc_len (K : Nat) (d : List Nat) (C : Nat) (hd : d.length = C * K) (k : Nat) (hk : k ≤ C) : (catTo (fun i => encL (pieceL K d i)) k).length = k * (K + 2) :=
  catTo_length _ (K + 2) k fun i hi => by rw [encL_length, pieceL_length K d i C hd (by omega)]
theorem enc_lt (K : Nat) (d : List Nat) (C : Nat) (hd : d.length = C * K) (hb : ∀ x ∈ d, x < 256) (hK : K ≤ 512) (k : Nat) (hk : k ≤ C) : ∀ x ∈ catTo (fun i => encL (pieceL K d i)) k, x < 256 :=
  catTo_lt _ k fun i hi => encL_lt _ (pieceL_lt K d i hb) (by rw [pieceL_length K d i C hd (by omega)]; exact hK)

end Go.Proofs.Ytgiihdeilkiphaa

/-
  Contract of page.Encode, over the landed code.
-/
namespace Go.Proofs.Ytgiihdeilkiphaa
open Go.RowKit
set_option maxRecDepth 100000

/-- A tag in the block behind a geometry's. -/
theorem TBox.second (w : World) (o : Obj) (t : Tg) (u : TypeId) : TBox ((w.alloc o).alloc (.cells #[.int .i64 t.k, .int .i64 t.s, .int .i64 t.q, .int .i64 t.e] u)) (w.heap.size + 1) t := by
  simpa using TBox.new (w.alloc o) t u

end Go.Proofs.Ytgiihdeilkiphaa

/-
  Contracts of the parts' read and of page.Decode, over the landed code.
-/
namespace Go.Proofs.Ytgiihdeilkiphaa
open Go.RowKit
set_option maxRecDepth 100000

/-- What read hands back where it did: the contents, in parts. -/
def Reads (d b : List Nat) (f : Nat) (w : World) (en : Ending) (w' : World) : Prop :=
  ∃ T S D tc sc dc, en = .returned (.tuple #[.agg #[.slice T 24 tc, .slice S 4 sc, .slice D d.length dc], .int .i64 (f : Int), .int .i64 0]) ∧ R8 w' T 24 (b.take 24) ∧ R8 w' S 4 (b.drop 24) ∧ R8 w' D d.length d ∧ 24 ≤ tc ∧ Below w.heap.size w w'

set_option maxHeartbeats 1000000 in
theorem read_chunks (g : Gm) (hg : g.ok = true) (C K : Nat) (hC : g.c = (C : Int)) (hK : g.k = (K : Int)) (A1 A2 A3 : Option Addr) (a c1 c2 n3 c3 : Nat) (ch lab : List Nat) (w : World) (hch : R8 w A1 a ch) (hlab : R8 w A2 30 lab) (ha : a = C * (K + 2)) (hc1 : a ≤ c1) (d : List Nat) (n e : Nat) (hA : allL (piecesL (K + 2) ch C) = (d, n, e)) (he : e ≠ 0) :
    Calls Try.prog 35 #[.agg #[.slice A1 a c1, .slice A2 30 c2, .slice A3 n3 c3], g.val] w (Gives (.tuple #[.agg #[.slice none 0 0, .slice none 0 0, .slice none 0 0], .int .i64 0, .int .i64 (e : Int)]) w) := by
  have hbd := Gm.bounds_of hg
  have ha2 : a ≤ 8224 := by
    have hc16 : C ≤ 16 := by omega
    have hk2 : K + 2 ≤ 514 := by omega
    have := Nat.mul_le_mul hc16 hk2
    omega
  have hAll := fun w' (h : R8 w' A1 a ch) => All_yes A1 a c1 K C ch w' h hc1 (by omega) (by omega) ha (by omega)
  rw [hA] at hAll
  simp only at hAll
  have hne : ((e : Int) != 0) = true := by simp; omega
  clear hA ha hC hbd
  have HG := Lib.hid hg
  obtain ⟨p, b, s, gc, k, r, q⟩ := g
  simp only at hK
  subst hK
  simp only [Gm.val]
  have B0 := Lib.hid (below_step (below_step (below_new w (.cells #[.slice A1 a c1, .slice A2 30 c2, .slice A3 n3 c3] 63)) (below_new _ (.cells #[.int .i64 p, .int .i64 b, .int .i64 s, .int .i64 gc, .int .i64 K, .int .i64 r, .int .i64 q] 23))) (below_new _ (.cells #[.slice none 0 0, .slice none 0 0, .slice none 0 0] 69)))
  have T0 : Hid (CRow (((w.alloc (.cells #[.slice A1 a c1, .slice A2 30 c2, .slice A3 n3 c3] 63)).alloc (.cells #[.int .i64 p, .int .i64 b, .int .i64 s, .int .i64 gc, .int .i64 K, .int .i64 r, .int .i64 q] 23)).alloc (.cells #[.slice none 0 0, .slice none 0 0, .slice none 0 0] 69)) (w.heap.size + 2) 69 #[.slice none 0 0, .slice none 0 0, .slice none 0 0]) := Lib.hid (by simpa using CRow.new ((w.alloc (.cells #[.slice A1 a c1, .slice A2 30 c2, .slice A3 n3 c3] 63)).alloc (.cells #[.int .i64 p, .int .i64 b, .int .i64 s, .int .i64 gc, .int .i64 K, .int .i64 r, .int .i64 q] 23)) #[.slice none 0 0, .slice none 0 0, .slice none 0 0] 69)
  have X0 := Lib.hid (((CRow.new w #[.slice A1 a c1, .slice A2 30 c2, .slice A3 n3 c3] 63).alloc (.cells #[.int .i64 p, .int .i64 b, .int .i64 s, .int .i64 gc, .int .i64 K, .int .i64 r, .int .i64 q] 23)).alloc (.cells #[.slice none 0 0, .slice none 0 0, .slice none 0 0] 69))
  have R1 := Lib.hid (hch.below B0.out)
  have R2 := Lib.hid (hlab.below B0.out)
  clear hch hlab hg
  go_enter Try.func35, Try.ntmps35
  go_wp2_with fail
  refine (hAll _ R1.out).mono ?_
  intro _ w1 hM
  obtain ⟨A4, c4, rfl, _, _, D1⟩ := hM.at_ rfl
  have B1 := Lib.hid (below_step B0.out D1.out)
  have T1 := Lib.hid (T0.out.below D1.out)
  clear hM hAll D1 T0 B0 X0
  go_wp2_with (with_reducible refine (?_ : wpList _ _ _ ({ dst := _, op := Op.store 69 _ _, type := _, pos := _, after := _, guard := _ } :: _) _ _); refine wpList_store_at rfl 69 _ _ rfl 3 size_contents _ (w.heap.size + 2) ?hx rfl _ T1.out.row ?hn ?ho ?h1 ?_; (case hx => simp [Act.eval]); (case hn => simp); (case ho => simp); (case h1 => simp [Value.oneCell']))
  have B9 := Lib.hid (below_setRow B1.out (show w.heap.size ≤ w.heap.size + 2 by omega) #[.slice none 0 0, .slice none 0 0, .slice none 0 0])
  have T9 := Lib.hid (T1.out.set #[.slice none 0 0, .slice none 0 0, .slice none 0 0])
  go_wp2
  refine bodyPost_ret (results_ctt_row rfl _ _ (w.heap.size + 2) 69 _ (0, 0) _ rfl T9.out.row Try.underlying69 rfl size_contents) rfl ?_
  exact ⟨rfl, B9.out⟩

set_option maxHeartbeats 1000000 in
theorem read_label (g : Gm) (hg : g.ok = true) (C K : Nat) (hC : g.c = (C : Int)) (hK : g.k = (K : Int)) (A1 A2 A3 : Option Addr) (a c1 c2 n3 c3 : Nat) (ch lab : List Nat) (w : World) (hch : R8 w A1 a ch) (hlab : R8 w A2 30 lab) (ha : a = C * (K + 2)) (hc1 : a ≤ c1) (hc2 : 30 ≤ c2) (d bs : List Nat) (n m e : Nat) (hA : allL (piecesL (K + 2) ch C) = (d, n, 0)) (hB : decL lab = (bs, m, e)) (he : e ≠ 0) :
    Calls Try.prog 35 #[.agg #[.slice A1 a c1, .slice A2 30 c2, .slice A3 n3 c3], g.val] w (Gives (.tuple #[.agg #[.slice none 0 0, .slice none 0 0, .slice none 0 0], .int .i64 0, .int .i64 (e : Int)]) w) := by
  have hbd := Gm.bounds_of hg
  have ha2 : a ≤ 8224 := by
    have hc16 : C ≤ 16 := by omega
    have hk2 : K + 2 ≤ 514 := by omega
    have := Nat.mul_le_mul hc16 hk2
    omega
  have hAll := fun w' (h : R8 w' A1 a ch) => All_yes A1 a c1 K C ch w' h hc1 (by omega) (by omega) ha (by omega)
  rw [hA] at hAll
  simp only at hAll
  have hne : ((e : Int) != 0) = true := by simp; omega
  have hDec := fun w' (h : R8 w' A2 30 lab) => Decode_any_c A2 30 c2 lab w' h hc2 (by omega)
  rw [hB] at hDec
  simp only at hDec
  clear hA ha hC hbd hB
  have HG := Lib.hid hg
  obtain ⟨p, b, s, gc, k, r, q⟩ := g
  simp only at hK
  subst hK
  simp only [Gm.val]
  have B0 := Lib.hid (below_step (below_step (below_new w (.cells #[.slice A1 a c1, .slice A2 30 c2, .slice A3 n3 c3] 63)) (below_new _ (.cells #[.int .i64 p, .int .i64 b, .int .i64 s, .int .i64 gc, .int .i64 K, .int .i64 r, .int .i64 q] 23))) (below_new _ (.cells #[.slice none 0 0, .slice none 0 0, .slice none 0 0] 69)))
  have T0 : Hid (CRow (((w.alloc (.cells #[.slice A1 a c1, .slice A2 30 c2, .slice A3 n3 c3] 63)).alloc (.cells #[.int .i64 p, .int .i64 b, .int .i64 s, .int .i64 gc, .int .i64 K, .int .i64 r, .int .i64 q] 23)).alloc (.cells #[.slice none 0 0, .slice none 0 0, .slice none 0 0] 69)) (w.heap.size + 2) 69 #[.slice none 0 0, .slice none 0 0, .slice none 0 0]) := Lib.hid (by simpa using CRow.new ((w.alloc (.cells #[.slice A1 a c1, .slice A2 30 c2, .slice A3 n3 c3] 63)).alloc (.cells #[.int .i64 p, .int .i64 b, .int .i64 s, .int .i64 gc, .int .i64 K, .int .i64 r, .int .i64 q] 23)) #[.slice none 0 0, .slice none 0 0, .slice none 0 0] 69)
  have X0 := Lib.hid (((CRow.new w #[.slice A1 a c1, .slice A2 30 c2, .slice A3 n3 c3] 63).alloc (.cells #[.int .i64 p, .int .i64 b, .int .i64 s, .int .i64 gc, .int .i64 K, .int .i64 r, .int .i64 q] 23)).alloc (.cells #[.slice none 0 0, .slice none 0 0, .slice none 0 0] 69))
  have R1 := Lib.hid (hch.below B0.out)
  have R2 := Lib.hid (hlab.below B0.out)
  clear hch hlab hg
  go_enter Try.func35, Try.ntmps35
  go_wp2_with fail
  refine (hAll _ R1.out).mono ?_
  intro _ w1 hM
  obtain ⟨A4, c4, rfl, _, _, D1⟩ := hM.at_ rfl
  have B1 := Lib.hid (below_step B0.out D1.out)
  have T1 := Lib.hid (T0.out.below D1.out)
  have R3 := Lib.hid (R2.out.below D1.out)
  have x1 : w1.cell? ⟨w.heap.size, 1, none⟩ = some (.slice A2 30 c2) := (X0.out.below D1.out).cell_at 1 _ rfl
  clear hM hAll D1 T0 B0 X0 R1 R2
  go_wp2_with fail
  refine (hDec _ R3.out).mono ?_
  intro _ w2 hM
  obtain ⟨A5, c5, rfl, _, _, _, D2⟩ := hM.at_ rfl
  have B2 := Lib.hid (below_step B1.out D2.out)
  have T2 := Lib.hid (T1.out.below D2.out)
  clear hM hDec D2 T1 B1 R3 x1
  go_wp2_with (with_reducible refine (?_ : wpList _ _ _ ({ dst := _, op := Op.store 69 _ _, type := _, pos := _, after := _, guard := _ } :: _) _ _); refine wpList_store_at rfl 69 _ _ rfl 3 size_contents _ (w.heap.size + 2) ?hx rfl _ T2.out.row ?hn ?ho ?h1 ?_; (case hx => simp [Act.eval]); (case hn => simp); (case ho => simp); (case h1 => simp [Value.oneCell']))
  have B9 := Lib.hid (below_setRow B2.out (show w.heap.size ≤ w.heap.size + 2 by omega) #[.slice none 0 0, .slice none 0 0, .slice none 0 0])
  have T9 := Lib.hid (T2.out.set #[.slice none 0 0, .slice none 0 0, .slice none 0 0])
  go_wp2
  refine bodyPost_ret (results_ctt_row rfl _ _ (w.heap.size + 2) 69 _ (0, 0) _ rfl T9.out.row Try.underlying69 rfl size_contents) rfl ?_
  exact ⟨rfl, B9.out⟩

set_option maxHeartbeats 2000000 in
theorem read_ok (g : Gm) (hg : g.ok = true) (C K : Nat) (hC : g.c = (C : Int)) (hK : g.k = (K : Int)) (A1 A2 A3 : Option Addr) (a c1 c2 n3 c3 : Nat) (ch lab : List Nat) (w : World) (hch : R8 w A1 a ch) (hlab : R8 w A2 30 lab) (ha : a = C * (K + 2)) (hc1 : a ≤ c1) (hc2 : 30 ≤ c2) (d bs : List Nat) (n m : Nat) (hA : allL (piecesL (K + 2) ch C) = (d, n, 0)) (hB : decL lab = (bs, m, 0)) :
    Calls Try.prog 35 #[.agg #[.slice A1 a c1, .slice A2 30 c2, .slice A3 n3 c3], g.val] w (Reads d bs (n + m) w) := by
  obtain ⟨i0, ti, tz0, tz1, tz2⟩ := info_parts info_u8
  have hbd := Gm.bounds_of hg
  have ha2 : a ≤ 8224 := by
    have hc16 : C ≤ 16 := by omega
    have hk2 : K + 2 ≤ 514 := by omega
    have := Nat.mul_le_mul hc16 hk2
    omega
  have hAll := fun w' (h : R8 w' A1 a ch) => All_yes A1 a c1 K C ch w' h hc1 (by omega) (by omega) ha (by omega)
  rw [hA] at hAll
  simp only at hAll
  have hDec := fun w' (h : R8 w' A2 30 lab) => Decode_any_c A2 30 c2 lab w' h hc2 (by omega)
  have hbl : bs.length = 28 := by
    have := decL_len lab (by rw [hlab.len]; omega) (by rw [hlab.len]; omega) (by rw [hB])
    rw [hB, hlab.len] at this
    exact this
  have hm1 : m ≤ 1 := by
    have := (decL_facts lab hlab.2).2.2.1
    rwa [hB] at this
  have hn1 : n ≤ 16 := by
    have hf := joinD_facts (piecesL (K + 2) ch C) (K + 2) (piecesL_facts (K + 2) ch C C (by rw [hch.len, ha]) (Nat.le_refl _) hch.2)
    rw [piecesL_length] at hf
    have h2 : n ≤ C := by
      unfold allL at hA
      split at hA
      · simp at hA; omega
      · simp at hA; omega
    omega
  have hdl : d.length ≤ 1099511627776 := by
    have hf := joinD_facts (piecesL (K + 2) ch C) (K + 2) (piecesL_facts (K + 2) ch C C (by rw [hch.len, ha]) (Nat.le_refl _) hch.2)
    rw [piecesL_length] at hf
    unfold allL at hA
    split at hA
    · simp at hA; rw [hA.1]; simp
    · simp at hA; rw [← hA.1]; omega
  rw [hB] at hDec
  simp only at hDec
  have HBL := Lib.hid hbl
  obtain ⟨dn, HDn⟩ : ∃ dn, Hid (d.length = dn) := ⟨_, rfl⟩
  rw [HDn.out] at hdl
  clear hA ha hC hbd hB hbl
  have HG := Lib.hid hg
  obtain ⟨p, b, s, gc, k, r, q⟩ := g
  simp only at hK
  subst hK
  simp only [Gm.val]
  have B0 := Lib.hid (below_step (below_step (below_new w (.cells #[.slice A1 a c1, .slice A2 30 c2, .slice A3 n3 c3] 63)) (below_new _ (.cells #[.int .i64 p, .int .i64 b, .int .i64 s, .int .i64 gc, .int .i64 K, .int .i64 r, .int .i64 q] 23))) (below_new _ (.cells #[.slice none 0 0, .slice none 0 0, .slice none 0 0] 69)))
  have T0 : Hid (CRow (((w.alloc (.cells #[.slice A1 a c1, .slice A2 30 c2, .slice A3 n3 c3] 63)).alloc (.cells #[.int .i64 p, .int .i64 b, .int .i64 s, .int .i64 gc, .int .i64 K, .int .i64 r, .int .i64 q] 23)).alloc (.cells #[.slice none 0 0, .slice none 0 0, .slice none 0 0] 69)) (w.heap.size + 2) 69 #[.slice none 0 0, .slice none 0 0, .slice none 0 0]) := Lib.hid (by simpa using CRow.new ((w.alloc (.cells #[.slice A1 a c1, .slice A2 30 c2, .slice A3 n3 c3] 63)).alloc (.cells #[.int .i64 p, .int .i64 b, .int .i64 s, .int .i64 gc, .int .i64 K, .int .i64 r, .int .i64 q] 23)) #[.slice none 0 0, .slice none 0 0, .slice none 0 0] 69)
  have X0 := Lib.hid (((CRow.new w #[.slice A1 a c1, .slice A2 30 c2, .slice A3 n3 c3] 63).alloc (.cells #[.int .i64 p, .int .i64 b, .int .i64 s, .int .i64 gc, .int .i64 K, .int .i64 r, .int .i64 q] 23)).alloc (.cells #[.slice none 0 0, .slice none 0 0, .slice none 0 0] 69))
  have R1 := Lib.hid (hch.below B0.out)
  have R2 := Lib.hid (hlab.below B0.out)
  clear hch hlab hg
  go_enter Try.func35, Try.ntmps35
  go_wp2_with fail
  refine (hAll _ R1.out).mono ?_
  intro _ w1 hM
  obtain ⟨A4, c4, rfl, R4, _, D1⟩ := hM.at_ HDn.out
  have B1 := Lib.hid (below_step B0.out D1.out)
  have T1 := Lib.hid (T0.out.below D1.out)
  have R3 := Lib.hid (R2.out.below D1.out)
  have x1 : w1.cell? ⟨w.heap.size, 1, none⟩ = some (.slice A2 30 c2) := (X0.out.below D1.out).cell_at 1 _ rfl
  clear hM hAll D1 T0 B0 X0 R1 R2
  go_wp2_with fail
  refine (hDec _ R3.out).mono ?_
  intro _ w2 hM
  obtain ⟨A5, c5, rfl, R5, _, hc5, D2⟩ := hM.at_ HBL.out
  have B2 := Lib.hid (below_step B1.out D2.out)
  have T2 := Lib.hid (T1.out.below D2.out)
  have R6 := Lib.hid (R4.out.below D2.out)
  clear hM hDec D2 T1 B1 R3 x1 R4
  have hsl1 := run_slice_to (P := Try.prog) Try.underlying27 ti (by kernel_rfl) A5 28 c5 24 (by omega)
  have hsl2 := run_sliceAt_to (P := Try.prog) Try.underlying27 ti (by kernel_rfl) A5 28 c5 24 (by omega)
  have hsf1 := run_slice_from (P := Try.prog) Try.underlying27 ti (by kernel_rfl) A5 28 c5 24 (by omega)
  have hsf2 := run_sliceAt_from (P := Try.prog) Try.underlying27 ti (by kernel_rfl) A5 28 c5 24 (by omega)
  simp only [Nat.reduceSub, Int.cast_ofNat_Int] at hsl1 hsl2 hsf1 hsf2
  have R7 := Lib.hid (show R8 w2 (cutA A5 c5 24) 4 (bs.drop 24) from R5.out.cutA 24 c5 (by omega) hc5)
  have R8' := Lib.hid (R5.out.take_ 24 (by omega))
  generalize cutA A5 c5 24 = A6 at *
  go_wp2
  refine wp_region_noPanic ?_
  refine wp_region_held_drew (S := fun w' => Below w.heap.size w w') (by kernel_rfl) B2.out.drew (fun C0 => ?_)
  refine wpAnyH_take (i := 0) (oi := { dst := some 35, op := Op.move (Operand.tmp 7), type := 27, pos := "page.go:167", after := #[], guard := none }) (v := ?_) rfl (by kernel_rfl) (by kernel_rfl) (by kernel_rfl) (fun _ _ _ h => h) (Or.inl ⟨by rfl, ?_⟩) C0 ?_
  rotate_left
  · intro W' hSw
    clear hSw
    go_simp <;> with_reducible rfl
  try simp only [Act.put, List.setIfInBounds_toArray, List.set_cons_zero, List.set_cons_succ]
  refine wpAnyH_take (i := 1) (oi := { dst := some 36, op := Op.move (Operand.tmp 9), type := 27, pos := "page.go:167", after := #[], guard := none }) (v := ?_) rfl (by kernel_rfl) (by kernel_rfl) (by kernel_rfl) (fun _ _ _ h => h) (Or.inl ⟨by rfl, ?_⟩) C0 ?_
  rotate_left
  · intro W' hSw
    clear hSw
    go_simp <;> with_reducible rfl
  try simp only [Act.put, List.setIfInBounds_toArray, List.set_cons_zero, List.set_cons_succ]
  refine wpAnyH_take (i := 2) (oi := { dst := some 37, op := Op.slice 27 (Operand.tmp 36) none (some (Operand.const (Value.int IntKind.i64 24))) none, type := 27, pos := "page.go:167", after := #[{ on := 1, ground := Ground.data }], guard := none }) (v := ?_) rfl (by kernel_rfl) (by kernel_rfl) (by kernel_rfl) (fun _ _ _ h => h) (Or.inl ⟨by rfl, ?_⟩) C0 ?_
  rotate_left
  · intro W' hSw
    clear hSw
    go_simp <;> with_reducible rfl
  try simp only [Act.put, List.setIfInBounds_toArray, List.set_cons_zero, List.set_cons_succ]
  refine wpAnyH_take (i := 3) (oi := { dst := some 38, op := Op.move (Operand.tmp 9), type := 27, pos := "page.go:167", after := #[], guard := none }) (v := ?_) rfl (by kernel_rfl) (by kernel_rfl) (by kernel_rfl) (fun _ _ _ h => h) (Or.inl ⟨by rfl, ?_⟩) C0 ?_
  rotate_left
  · intro W' hSw
    clear hSw
    go_simp <;> with_reducible rfl
  try simp only [Act.put, List.setIfInBounds_toArray, List.set_cons_zero, List.set_cons_succ]
  refine wpAnyH_take (i := 4) (oi := { dst := some 39, op := Op.slice 27 (Operand.tmp 38) (some (Operand.const (Value.int IntKind.i64 24))) none none, type := 27, pos := "page.go:167", after := #[{ on := 3, ground := Ground.data }], guard := none }) (v := ?_) rfl (by kernel_rfl) (by kernel_rfl) (by kernel_rfl) (fun _ _ _ h => h) (Or.inl ⟨by rfl, ?_⟩) C0 ?_
  rotate_left
  · intro W' hSw
    clear hSw
    go_simp <;> with_reducible rfl
  try simp only [Act.put, List.setIfInBounds_toArray, List.set_cons_zero, List.set_cons_succ]
  refine wpAnyH_take (i := 5) (oi := { dst := some 40, op := Op.build 67 #[(0, Operand.tmp 37), (1, Operand.tmp 39)], type := 67, pos := "page.go:167", after := #[{ on := 2, ground := Ground.data }, { on := 4, ground := Ground.data }], guard := none }) (v := ?_) rfl (by kernel_rfl) (by kernel_rfl) (by kernel_rfl) (fun _ _ _ h => h) (Or.inl ⟨by rfl, ?_⟩) C0 ?_
  rotate_left
  · intro W' hSw
    clear hSw
    go_simp <;> with_reducible rfl
  try simp only [Act.put, List.setIfInBounds_toArray, List.set_cons_zero, List.set_cons_succ]
  refine wpAnyH_take (i := 6) (oi := { dst := some 41, op := Op.build 69 #[(1, Operand.tmp 35), (0, Operand.tmp 40)], type := 69, pos := "page.go:167", after := #[{ on := 0, ground := Ground.data }, { on := 5, ground := Ground.data }], guard := none }) (v := ?_) rfl (by kernel_rfl) (by kernel_rfl) (by kernel_rfl) (fun _ _ _ h => h) (Or.inl ⟨by rfl, ?_⟩) C0 ?_
  rotate_left
  · intro W' hSw
    clear hSw
    go_simp <;> with_reducible rfl
  try simp only [Act.put, List.setIfInBounds_toArray, List.set_cons_zero, List.set_cons_succ]
  refine wpAnyH_ready (rs := [7]) (by kernel_rfl) (by simp) ?_
  refine AllReadyH.cons (o := { dst := none, op := Op.store 69 (Operand.tmp 4) (Operand.tmp 41), type := 0, pos := "page.go:167", after := #[{ on := 6, ground := Ground.data }, { on := 0, ground := Ground.phase }, { on := 1, ground := Ground.phase }, { on := 2, ground := Ground.phase }, { on := 3, ground := Ground.phase }, { on := 4, ground := Ground.phase }, { on := 5, ground := Ground.phase }, { on := 6, ground := Ground.phase }], guard := none }) rfl (fun K hK => ?_) AllReadyH.nil
  rw [if_pos (by rfl)]
  refine wp_store_row 69 _ _ rfl (w.heap.size + 2) #[.slice A5 24 c5, .slice A6 4 (c5 - 24), .slice A4 dn c4] (by simp [Act.eval]) rfl 69 _ T2.out.drew.row size_contents (by simp) (by simp [Value.oneCell']) ?_
  refine hK.out _ _ (below_setRow C0 (by omega) _) (fun C1 => ?_)
  clear hK K
  try simp only [Act.put]
  refine wpAnyH_done (by kernel_rfl) ?_ _
  refine NoPanic.normal ?_
  have T3 := Lib.hid (T2.out.drew.set #[.slice A5 24 c5, .slice A6 4 (c5 - 24), .slice A4 dn c4])
  have Q1 := Lib.hid (R8.setRow (w := w2.drew) R8'.out T2.out.drew (by intro v hv; simp at hv; subst hv; simp) #[.slice A5 24 c5, .slice A6 4 (c5 - 24), .slice A4 dn c4])
  have Q2 := Lib.hid (R8.setRow (w := w2.drew) R7.out T2.out.drew (by intro v hv; simp at hv; subst hv; simp) #[.slice A5 24 c5, .slice A6 4 (c5 - 24), .slice A4 dn c4])
  have Q3 := Lib.hid (R8.setRow (w := w2.drew) R6.out T2.out.drew (by intro v hv; simp at hv; subst hv; simp) #[.slice A5 24 c5, .slice A6 4 (c5 - 24), .slice A4 dn c4])
  have B3 := Lib.hid C1
  generalize w2.drew.setRow (w.heap.size + 2) #[.slice A5 24 c5, .slice A6 4 (c5 - 24), .slice A4 dn c4] = W3 at *
  clear C1 C0 B2 T2 R8' R7 R6 R5 hsl1 hsl2 hsf1 hsf2
  have y0 : W3.cell? ⟨w.heap.size + 1 + 1, 0, none⟩ = some (.slice A5 24 c5) := T3.out.cell_at 0 _ rfl
  have y1 : W3.cell? ⟨w.heap.size + 1 + 1, 1, none⟩ = some (.slice A6 4 (c5 - 24)) := T3.out.cell_at 1 _ rfl
  have y2 : W3.cell? ⟨w.heap.size + 1 + 1, 2, none⟩ = some (.slice A4 dn c4) := T3.out.cell_at 2 _ rfl
  go_wp2_with (with_reducible refine (?_ : wpList _ _ _ ({ dst := _, op := Op.store 69 _ _, type := _, pos := _, after := _, guard := _ } :: _) _ _); refine wpList_store_at rfl 69 _ _ rfl 3 size_contents _ (w.heap.size + 1 + 1) ?hx rfl _ T3.out.row ?hn ?ho ?h1 ?_; (case hx => simp [Act.eval]); (case hn => simp); (case ho => simp); (case h1 => simp [Value.oneCell']))
  have T4 := Lib.hid (T3.out.set #[.slice A5 24 c5, .slice A6 4 (c5 - 24), .slice A4 dn c4])
  have P1 := Lib.hid (R8.setRow Q1.out T3.out (by intro v hv; simp at hv; rcases hv with rfl | rfl | rfl <;> simp) #[.slice A5 24 c5, .slice A6 4 (c5 - 24), .slice A4 dn c4])
  have P2 := Lib.hid (R8.setRow Q2.out T3.out (by intro v hv; simp at hv; rcases hv with rfl | rfl | rfl <;> simp) #[.slice A5 24 c5, .slice A6 4 (c5 - 24), .slice A4 dn c4])
  have P3 := Lib.hid (R8.setRow Q3.out T3.out (by intro v hv; simp at hv; rcases hv with rfl | rfl | rfl <;> simp) #[.slice A5 24 c5, .slice A6 4 (c5 - 24), .slice A4 dn c4])
  have B4 := Lib.hid (below_setRow B3.out (show w.heap.size ≤ w.heap.size + 2 by omega) #[.slice A5 24 c5, .slice A6 4 (c5 - 24), .slice A4 dn c4])
  have hsum : (n : Int) + (m : Int) = ((n + m : Nat) : Int) := by omega
  clear y0 y1 y2 Q1 Q2 Q3 T3 B3
  go_wp2
  refine bodyPost_ret (results_ctt_row rfl _ _ (w.heap.size + 2) 69 _ (0, 0) _ rfl T4.out.row Try.underlying69 rfl size_contents) rfl ?_
  refine ⟨A5, A6, A4, c5, c5 - 24, c4, ?_, P1.out, P2.out, by rw [HDn.out]; exact P3.out, by omega, B4.out⟩
  rw [HDn.out]
  rfl
end Go.Proofs.Ytgiihdeilkiphaa

/-
  Contract of page.Decode, over the landed code.
-/
namespace Go.Proofs.Ytgiihdeilkiphaa
open Go.RowKit
set_option maxRecDepth 100000

/-- It returns bytes, a tag, a state and an error, and nothing that was there has turned. -/
def Ret4 (d : List Nat) (t : Tg) (s : Nat) (e : Int) (w : World) (en : Ending) (w' : World) : Prop :=
  ∃ A c, en = .returned (.tuple #[.slice A d.length c, t.val, .int .i64 (s : Int), .int .i64 e]) ∧ R8 w' A d.length d ∧ Below w.heap.size w w'
theorem Ret4.at_ {d : List Nat} {t : Tg} {s n : Nat} {e : Int} {w w' : World} {en : Ending} (h : Ret4 d t s e w en w') (hl : d.length = n) : ∃ A c, en = .returned (.tuple #[.slice A n c, t.val, .int .i64 (s : Int), .int .i64 e]) ∧ Hid (R8 w' A n d) ∧ Hid (Below w.heap.size w w') := by
  subst hl
  exact h
theorem four {d d' : List Nat} {t t' : Tg} {s s' : Nat} {e e' : Int} (h : (d, t, s, e) = (d', t', s', e')) : d = d' ∧ t = t' ∧ s = s' ∧ e = e' := by
  simp only [Prod.mk.injEq] at h
  exact h

set_option maxHeartbeats 1000000 in
theorem PageDec_no (g : Gm) (A : Option Addr) (n c : Nat) (hcut : ∀ w', Calls Try.prog 33 #[g.val, .slice A n c] w' (Gives (.tuple #[.agg #[.slice none 0 0, .slice none 0 0, .slice none 0 0], .bool false]) w')) (w : World) :
    Calls Try.prog 16 #[g.val, .slice A n c] w (Ret4 [] Tg.zero 0 2 w) := by
  obtain ⟨p, b, s, gc, k, r, q⟩ := g
  simp only [Gm.val] at hcut ⊢
  go_enter Try.func16, Try.ntmps16
  go_wp2_with fail
  refine (hcut _).mono ?_
  rintro _ w1 ⟨rfl, h1⟩
  have B1 := Lib.hid (below_step (below_step (below_step (below_new w _) (below_new _ _)) h1) (below_new _ (.cells #[.slice none 0 0, .slice none 0 0, .slice none 0 0] 63)))
  have T1 : Hid (CRow (w1.alloc (.cells #[.slice none 0 0, .slice none 0 0, .slice none 0 0] 63)) (w.heap.size + 1) 29 #[.int .i64 0, .int .i64 0, .int .i64 0, .int .i64 0]) := Lib.hid ((show CRow w1 (w.heap.size + 1) 29 #[.int .i64 0, .int .i64 0, .int .i64 0, .int .i64 0] by simpa using (CRow.new (w.alloc (.cells #[.int .i64 p, .int .i64 b, .int .i64 s, .int .i64 gc, .int .i64 k, .int .i64 r, .int .i64 q] 23)) #[.int .i64 0, .int .i64 0, .int .i64 0, .int .i64 0] 29).below h1).alloc _)
  clear h1 hcut
  go_wp2_with (with_reducible refine (?_ : wpList _ _ _ ({ dst := _, op := Op.store 29 _ _, type := _, pos := _, after := _, guard := _ } :: _) _ _); refine wpList_store_at rfl 29 _ _ rfl 4 size_tag _ (w.heap.size + 1) ?hx rfl _ T1.out.row ?hn ?ho ?h1 ?_; (case hx => simp [Act.eval]); (case hn => simp); (case ho => simp); (case h1 => simp [Value.oneCell']))
  have B9 := Lib.hid (below_setRow B1.out (Nat.le_succ _) #[.int .i64 0, .int .i64 0, .int .i64 0, .int .i64 0])
  have T9 := Lib.hid (T1.out.set #[.int .i64 0, .int .i64 0, .int .i64 0, .int .i64 0])
  go_wp2
  refine bodyPost_ret (results_tctt_row rfl _ _ (w.heap.size + 1) 29 _ (0, 0) _ rfl T9.out.row Try.underlying29 rfl size_tag) rfl ?_
  exact ⟨none, 0, rfl, ⟨Rd.nil_, fun x hx => by cases hx⟩, B9.out⟩

set_option maxHeartbeats 4000000 in
theorem PageDec_yes (g : Gm) (h : g.ok = true) (C K : Nat) (hC : g.c = (C : Int)) (hK : g.k = (K : Int)) (A : Option Addr) (n c : Nat) (hn : n = C * (K + 2) + 31) (hcap : n ≤ c) (l : List Nat) (w : World) (hr : R8 w A n l) :
    Calls Try.prog 16 #[g.val, .slice A n c] w (Ret4 (decP C K l).1 (decP C K l).2.1 (decP C K l).2.2.1 (decP C K l).2.2.2 w) := by
  have hcut := cut_yes g h C K hC hK A n c hn hcap
  have hbd := Gm.bounds_of h
  obtain ⟨a, HA⟩ : ∃ a, Hid (C * (K + 2) = a) := ⟨_, rfl⟩
  have ha2 : a ≤ 8224 := by
    have hc16 : C ≤ 16 := by omega
    have hk2 : K + 2 ≤ 514 := by omega
    have := Nat.mul_le_mul hc16 hk2
    rw [HA.out] at this
    omega
  rw [HA.out] at hn hcut
  have HCH := Lib.hid (hr.take_ a (by omega))
  have HLB := Lib.hid (show R8 w (cutA A c a) 30 ((l.drop a).take 30) from (hr.cutA a c (by omega) hcap).take_ 30 (by omega))
  obtain ⟨V, HV⟩ : ∃ V, Hid (decP C K l = V) := ⟨_, rfl⟩
  rw [HV.out]
  have HV1 := HV.out
  unfold decP at HV1
  rw [HA.out] at HV1
  have HVQ := Lib.hid HV1
  clear HV1 HV
  obtain ⟨vd, vt, vs, ve⟩ := V
  simp only
  have hrd1 := fun A3 n3 c3 w' h1 h2 => read_chunks g h C K hC hK A (cutA A c a) A3 a c (c - a) n3 c3 (l.take a) ((l.drop a).take 30) w' h1 h2 HA.out.symm (by omega)
  have hrd2 := fun A3 n3 c3 w' h1 h2 => read_label g h C K hC hK A (cutA A c a) A3 a c (c - a) n3 c3 (l.take a) ((l.drop a).take 30) w' h1 h2 HA.out.symm (by omega) (by omega)
  have hrd3 := fun A3 n3 c3 w' h1 h2 => read_ok g h C K hC hK A (cutA A c a) A3 a c (c - a) n3 c3 (l.take a) ((l.drop a).take 30) w' h1 h2 HA.out.symm (by omega) (by omega)
  have hdl : ∀ d n1, allL (piecesL (K + 2) (l.take a) C) = (d, n1, 0) → d.length ≤ 1099511627776 := by
    intro d n1 hA
    have hf := joinD_facts (piecesL (K + 2) (l.take a) C) (K + 2) (piecesL_facts (K + 2) _ C C (by rw [HCH.out.len, HA.out]) (Nat.le_refl _) HCH.out.2)
    rw [piecesL_length, HA.out] at hf
    unfold allL at hA
    split at hA
    · simp at hA; rw [hA.1]; simp
    · simp at hA; rw [← hA.1]; omega
  generalize l.take a = ch at *
  generalize (l.drop a).take 30 = lab at *
  generalize cutA A c a = A1 at *
  generalize cutA A c (n - 1) = A2 at *
  generalize c - a = c1 at *
  generalize c - (n - 1) = c2 at *
  have HRD1 := Lib.hid hrd1
  have HRD2 := Lib.hid hrd2
  have HRD3 := Lib.hid hrd3
  have HDL := Lib.hid hdl
  clear hr hrd1 hrd2 hrd3 hdl hbd hn hcap h hC hK
  obtain ⟨p, b, s, gc, k, r, q⟩ := g
  simp only [Gm.val] at hcut HRD1 HRD2 HRD3 ⊢
  go_enter Try.func16, Try.ntmps16
  go_wp2_with fail
  refine (hcut _).mono ?_
  rintro _ w1 ⟨rfl, h1⟩
  have B1 := Lib.hid (below_step (below_step (below_step (below_new w _) (below_new _ _)) h1) (below_new _ (.cells #[.slice A a c, .slice A1 30 c1, .slice A2 1 c2] 63)))
  have T1 : Hid (CRow (w1.alloc (.cells #[.slice A a c, .slice A1 30 c1, .slice A2 1 c2] 63)) (w.heap.size + 1) 29 #[.int .i64 0, .int .i64 0, .int .i64 0, .int .i64 0]) := Lib.hid ((show CRow w1 (w.heap.size + 1) 29 #[.int .i64 0, .int .i64 0, .int .i64 0, .int .i64 0] by simpa using (CRow.new (w.alloc (.cells #[.int .i64 p, .int .i64 b, .int .i64 s, .int .i64 gc, .int .i64 k, .int .i64 r, .int .i64 q] 23)) #[.int .i64 0, .int .i64 0, .int .i64 0, .int .i64 0] 29).below h1).alloc _)
  have Y1 := Lib.hid ((((GBox.new w ⟨p, b, s, gc, k, r, q⟩ 23).below (below_new _ (.cells #[.int .i64 0, .int .i64 0, .int .i64 0, .int .i64 0] 29))).below h1).below (below_new _ (.cells #[.slice A a c, .slice A1 30 c1, .slice A2 1 c2] 63)))
  have X1 := Lib.hid (CRow.new w1 #[.slice A a c, .slice A1 30 c1, .slice A2 1 c2] 63)
  have L1 := Lib.hid (HLB.out.below B1.out)
  clear h1 hcut
  go_wp2_with fail
  by_cases hemp : 220 ≤ ones lab
  · refine (empty_is A A1 A2 a c 30 c1 1 c2 lab true _ L1.out (by omega) (decide_eq_true (by omega))).mono ?_
    rintro _ w2 ⟨rfl, h2⟩
    have B2 := Lib.hid (below_step B1.out h2)
    have T2 := Lib.hid (T1.out.below h2)
    clear h2
    obtain ⟨rfl, rfl, rfl, rfl⟩ := four (HVQ.out.symm.trans (decQ_empty hemp))
    go_wp2_with (with_reducible refine (?_ : wpList _ _ _ ({ dst := _, op := Op.store 29 _ _, type := _, pos := _, after := _, guard := _ } :: _) _ _); refine wpList_store_at rfl 29 _ _ rfl 4 size_tag _ (w.heap.size + 1) ?hx rfl _ T2.out.row ?hn ?ho ?h1 ?_; (case hx => simp [Act.eval]); (case hn => simp); (case ho => simp); (case h1 => simp [Value.oneCell']))
    have B9 := Lib.hid (below_setRow B2.out (Nat.le_succ _) #[.int .i64 0, .int .i64 0, .int .i64 0, .int .i64 0])
    have T9 := Lib.hid (T2.out.set #[.int .i64 0, .int .i64 0, .int .i64 0, .int .i64 0])
    go_wp2
    refine bodyPost_ret (results_tctt_row rfl _ _ (w.heap.size + 1) 29 _ (0, 0) _ rfl T9.out.row Try.underlying29 rfl size_tag) rfl ?_
    exact ⟨none, 0, rfl, ⟨Rd.nil_, fun x hx => by cases hx⟩, B9.out⟩
  · refine (empty_is A A1 A2 a c 30 c1 1 c2 lab false _ L1.out (by omega) (decide_eq_false (by omega))).mono ?_
    rintro _ w2 ⟨rfl, h2⟩
    have B2 := Lib.hid (below_step B1.out h2)
    have T2 := Lib.hid (T1.out.below h2)
    have Y2 := Lib.hid (Y1.out.below h2)
    have X2 := Lib.hid (X1.out.below h2)
    have L2 := Lib.hid (L1.out.below h2)
    have C2 := Lib.hid (HCH.out.below B2.out)
    have HE := Lib.hid hemp
    obtain ⟨_, g0, g1, g2, g3, g4, g5, g6⟩ := Y2.out
    simp only at g0 g1 g2 g3 g4 g5 g6
    have x0 : w2.cell? ⟨w1.heap.size, 0, none⟩ = some (.slice A a c) := X2.out.cell_at 0 _ rfl
    have x1 : w2.cell? ⟨w1.heap.size, 1, none⟩ = some (.slice A1 30 c1) := X2.out.cell_at 1 _ rfl
    have x2 : w2.cell? ⟨w1.heap.size, 2, none⟩ = some (.slice A2 1 c2) := X2.out.cell_at 2 _ rfl
    clear h2 hemp B1 T1 Y1 X1 L1
    go_wp2_with fail
    clear g0 g1 g2 g3 g4 g5 g6 x0 x1 x2 X2 Y2
    obtain ⟨⟨d, n1, e1⟩, HAl⟩ : ∃ x, Hid (allL (piecesL (K + 2) ch C) = x) := ⟨_, rfl⟩
    by_cases he1 : e1 = 0
    · subst he1
      obtain ⟨⟨bs, m, e2⟩, HDe⟩ : ∃ x, Hid (decL lab = x) := ⟨_, rfl⟩
      by_cases he2 : e2 = 0
      · subst he2
        obtain ⟨f, HF⟩ : ∃ f, Hid (n1 + m = f) := ⟨_, rfl⟩
        have hR3 := HRD3.out A2 1 c2 _ C2.out L2.out d bs n1 m HAl.out HDe.out
        rw [HF.out] at hR3
        refine hR3.mono ?_
        clear hR3
        rintro _ w3 ⟨T, S, D, tc, sc, dc, rfl, hT, hS, hD, htc, h3⟩
        obtain ⟨dn, HDn⟩ : ∃ dn, Hid (d.length = dn) := ⟨_, rfl⟩
        rw [HDn.out] at hD ⊢
        have hdn := HDL.out d n1 HAl.out
        rw [HDn.out] at hdn
        have B3 := Lib.hid (below_step (below_step B2.out h3) (below_new w3 (.cells #[.slice T 24 tc, .slice S 4 sc, .slice D dn dc] 69)))
        have T3 := Lib.hid ((T2.out.below h3).alloc (.cells #[.slice T 24 tc, .slice S 4 sc, .slice D dn dc] 69))
        have X3 := Lib.hid (CRow.new w3 #[.slice T 24 tc, .slice S 4 sc, .slice D dn dc] 69)
        have hltB : w.heap.size + 1 < w3.heap.size := (T2.out.below h3).lt
        have RT := Lib.hid (hT.alloc (.cells #[.slice T 24 tc, .slice S 4 sc, .slice D dn dc] 69))
        have RS := Lib.hid (hS.alloc (.cells #[.slice T 24 tc, .slice S 4 sc, .slice D dn dc] 69))
        have RD := Lib.hid (hD.alloc (.cells #[.slice T 24 tc, .slice S 4 sc, .slice D dn dc] 69))
        have hlt3 : w3.heap.size < (w3.alloc (.cells #[.slice T 24 tc, .slice S 4 sc, .slice D dn dc] 69)).heap.size := X3.out.lt
        have x0 := X3.out.cell_at 0 (.slice T 24 tc) rfl
        have x1 := X3.out.cell_at 1 (.slice S 4 sc) rfl
        have x2 := X3.out.cell_at 2 (.slice D dn dc) rfl
        clear hT hS hD h3 B2 T2 C2 L2
        go_wp2
        generalize w3.alloc (.cells #[.slice T 24 tc, .slice S 4 sc, .slice D dn dc] 69) = w4 at *
        have hneB : w3.heap.size ≠ w.heap.size + 1 := Nat.ne_of_gt (hltB)
        obtain ⟨sm, HSM⟩ : ∃ sm, Hid (le4 (sumL (d ++ bs.take 24)) = sm) := ⟨_, rfl⟩
        have HSl := Lib.hid (show sm.length = 4 by rw [← HSM.out]; rfl)
        have HSb := Lib.hid (show ∀ x ∈ sm, x < 256 by rw [← HSM.out]; exact le4_lt _)
        by_cases hsm : bs.drop 24 = sm
        · have hdec : decide (bs.drop 24 = sm) = true := decide_eq_true hsm
          have HSQ := Lib.hid (show le4 (sumL (d ++ bs.take 24)) = bs.drop 24 by rw [HSM.out, hsm])
          clear hsm
          refine wp_region_noPanic ?_
          refine wp_region_held_drew (S := fun w' => Below w4.heap.size w4 w') (by kernel_rfl) ((Below.refl _ _).drew) (fun C0 => ?_)
          refine wpAnyH_take (i := 0) (oi := { dst := some 35, op := Op.fieldAddr 69 (Operand.tmp 10) 0, type := 0, pos := "page.go:90", after := #[], guard := none }) (v := ?_) rfl (by kernel_rfl) (by kernel_rfl) (by kernel_rfl) (fun _ _ _ h => h) (Or.inl ⟨by rfl, ?_⟩) C0 ?_
          rotate_left
          · intro W' hSw
            clear hSw
            go_simp <;> with_reducible rfl
          try simp only [Act.put, List.setIfInBounds_toArray, List.set_cons_zero, List.set_cons_succ]
          refine wpAnyH_take (i := 1) (oi := { dst := some 36, op := Op.fieldAddr 67 (Operand.tmp 35) 1, type := 0, pos := "page.go:90", after := #[{ on := 0, ground := Ground.data }], guard := none }) (v := ?_) rfl (by kernel_rfl) (by kernel_rfl) (by kernel_rfl) (fun _ _ _ h => h) (Or.inl ⟨by rfl, ?_⟩) C0 ?_
          rotate_left
          · intro W' hSw
            clear hSw
            go_simp <;> with_reducible rfl
          try simp only [Act.put, List.setIfInBounds_toArray, List.set_cons_zero, List.set_cons_succ]
          refine wpAnyH_take (i := 2) (oi := { dst := some 37, op := Op.load 27 (Operand.tmp 36), type := 27, pos := "page.go:90", after := #[{ on := 1, ground := Ground.data }], guard := none }) (v := ?_) rfl (by kernel_rfl) (by kernel_rfl) (by kernel_rfl) (fun _ _ _ h => h) (Or.inl ⟨by rfl, ?_⟩) C0 ?_
          rotate_left
          · intro W' hSw
            have q1 := (hSw.cell (p := ⟨w3.heap.size, 1, none⟩) hlt3).trans x1
            clear hSw
            go_simp <;> with_reducible rfl
          try simp only [Act.put, List.setIfInBounds_toArray, List.set_cons_zero, List.set_cons_succ]
          refine wpAnyH_take (i := 3) (oi := { dst := some 38, op := Op.load 69 (Operand.tmp 10), type := 69, pos := "page.go:90", after := #[], guard := none }) (v := ?_) rfl (by kernel_rfl) (by kernel_rfl) (by kernel_rfl) (fun _ _ _ h => h) (Or.inl ⟨by rfl, ?_⟩) C0 ?_
          rotate_left
          · intro W' hSw
            have q0 := (hSw.cell (p := ⟨w3.heap.size, 0, none⟩) hlt3).trans x0
            have q1 := (hSw.cell (p := ⟨w3.heap.size, 1, none⟩) hlt3).trans x1
            have q2 := (hSw.cell (p := ⟨w3.heap.size, 2, none⟩) hlt3).trans x2
            clear hSw
            go_simp <;> with_reducible rfl
          try simp only [Act.put, List.setIfInBounds_toArray, List.set_cons_zero, List.set_cons_succ]
          refine wpAnyH_ready (rs := [4]) (by kernel_rfl) (by simp) ?_
          refine AllReadyH.cons (o := { dst := some 39, op := Op.call { callee := Callee.value (Operand.func 37), args := #[Operand.tmp 38], argTypes := #[69] }, type := 27, pos := "page.go:90", after := #[{ on := 3, ground := Ground.data }], guard := none }) rfl (fun K hK => ?_) AllReadyH.nil
          go_simp
          refine (checksum_any _ _ _ _ _ _ _ _ _ (bs.take 24) d _ (RT.out.below C0) (RD.out.below C0) (by omega) hdn).mono ?_
          rw [HSM.out]
          intro _ w5 hM
          obtain ⟨A5, c5, rfl, O5, D5⟩ := hM.at_ HSl.out
          have hB := D5.out
          have R5 := Lib.hid (R8.own O5.out HSb.out)
          clear hM D5 O5
          go_wp2_with fail
          refine hK.out _ _ (C0.trans (hB.mono C0.size)) (fun C1 => ?_)
          clear hK K hB
          try simp only [Act.put, List.setIfInBounds_toArray, List.set_cons_zero, List.set_cons_succ]
          refine wpAnyH_ready (rs := [5]) (by kernel_rfl) (by simp) ?_
          refine AllReadyH.cons (o := { dst := some 40, op := Op.call { callee := Callee.value (Operand.func 36), args := #[Operand.tmp 37, Operand.tmp 39], argTypes := #[27, 27] }, type := 4, pos := "page.go:90", after := #[{ on := 2, ground := Ground.data }, { on := 4, ground := Ground.data }, { on := 4, ground := Ground.chain }], guard := none }) rfl (fun K hK => ?_) AllReadyH.nil
          go_simp
          refine (Equal_any _ _ _ _ _ _ (bs.drop 24) sm _ (RS.out.below C1) R5.out).mono ?_
          rw [hdec]
          rintro _ w6 ⟨rfl, rfl⟩
          go_wp2_with fail
          refine hK.out _ _ C1 (fun C2 => ?_)
          clear hK K
          try simp only [Act.put, List.setIfInBounds_toArray, List.set_cons_zero, List.set_cons_succ]
          refine wpAnyH_take (i := 6) (oi := { dst := some 41, op := Op.unOp UnOp.not 4 (Operand.tmp 40), type := 4, pos := "page.go:90", after := #[{ on := 5, ground := Ground.data }], guard := none }) (v := ?_) rfl (by kernel_rfl) (by kernel_rfl) (by kernel_rfl) (fun _ _ _ h => h) (Or.inl ⟨by rfl, ?_⟩) C2 ?_
          rotate_left
          · intro W' hSw
            clear hSw
            go_simp <;> with_reducible rfl
          try simp only [Act.put, List.setIfInBounds_toArray, List.set_cons_zero, List.set_cons_succ]
          refine wpAnyH_done (by kernel_rfl) ?_ _
          refine NoPanic.normal ?_
          have B5 := Lib.hid (below_step B3.out C2)
          have T5 := Lib.hid (T3.out.below C2)
          have RT5 := Lib.hid (RT.out.below C2)
          have RD5 := Lib.hid (RD.out.below C2)
          have z0 := (C2.cell (p := ⟨w3.heap.size, 0, none⟩) hlt3).trans x0
          have z2 := (C2.cell (p := ⟨w3.heap.size, 2, none⟩) hlt3).trans x2
          have hs45 := C2.size
          clear C2 C1 C0 B3 T3 RT RD RS x0 x1 x2
          have hlt5 : w3.heap.size < w5.heap.size := Nat.lt_of_lt_of_le hlt3 hs45
          obtain ⟨⟨⟨tk, ts, tq, te⟩, er⟩, HTk⟩ : ∃ x, Hid (takeT (bs.take 24) = x) := ⟨_, rfl⟩
          go_wp2_with fail
          refine (TagTake_is _ 24 _ (bs.take 24) ⟨tk, ts, tq, te⟩ er _ RT5.out (by omega) htc HTk.out).mono ?_
          rintro _ w6 ⟨rfl, h6⟩
          have B6 := Lib.hid (below_step B5.out h6)
          have T6 := Lib.hid (T5.out.below h6)
          have RD6 := Lib.hid (RD5.out.below h6)
          have y2 := (h6.cell (p := ⟨w3.heap.size, 2, none⟩) hlt5).trans z2
          clear h6 B5 T5 RT5 RD5 z0 z2
          simp only [Tg.val]
          have B7 := Lib.hid (below_setRow B6.out (Nat.le_succ _) #[.int .i64 tk, .int .i64 ts, .int .i64 tq, .int .i64 te])
          have T7 := Lib.hid (T6.out.set #[.int .i64 tk, .int .i64 ts, .int .i64 tq, .int .i64 te])
          have RD7 := Lib.hid (R8.setRow RD6.out T6.out (by intro v hv; simp at hv; subst hv; simp) #[.int .i64 tk, .int .i64 ts, .int .i64 tq, .int .i64 te])
          have z2 := cell_setRow #[.int .i64 tk, .int .i64 ts, .int .i64 tq, .int .i64 te] hneB y2
          by_cases her : er = 0
          · subst her
            by_cases hf : 0 < f
            · have hf2 : decide ((0 : Int) < (f : Int)) = true := decide_eq_true (by omega)
              go_wp2_with (with_reducible refine (?_ : wpList _ _ _ ({ dst := _, op := Op.store 29 _ _, type := _, pos := _, after := _, guard := _ } :: _) _ _); refine wpList_store_at rfl 29 _ _ rfl 4 size_tag _ (w.heap.size + 1) ?hx rfl _ T6.out.row ?hn ?ho ?h1 ?_; (case hx => simp [Act.eval]); (case hn => simp); (case ho => simp); (case h1 => simp [Value.oneCell']))
              generalize w6.setRow (w.heap.size + 1) #[.int .i64 tk, .int .i64 ts, .int .i64 tq, .int .i64 te] = w7 at *
              clear B6 T6 RD6 y2
              have hlt7 := T7.out.lt
              refine wp_region_noPanic ?_
              refine wp_region_held_drew (S := fun w' => Below w.heap.size w w' ∧ (w'.cell? ⟨w3.heap.size, 2, none⟩ = some (.slice D dn dc) ∧ CRow w' (w.heap.size + 1) 29 #[.int .i64 tk, .int .i64 ts, .int .i64 tq, .int .i64 te])) (by kernel_rfl) ⟨B7.out.drew, z2, T7.out.drew⟩ (fun C0 => ?_)
              refine wpAnyH_take (i := 0) (oi := { dst := some 56, op := Op.fieldAddr 69 (Operand.tmp 10) 1, type := 0, pos := "page.go:98", after := #[], guard := none }) (v := ?_) rfl (by kernel_rfl) (by kernel_rfl) (by kernel_rfl) (fun _ _ _ h => h) (Or.inl ⟨by rfl, ?_⟩) C0 ?_
              rotate_left
              · intro W' hSw
                clear hSw
                go_simp <;> with_reducible rfl
              try simp only [Act.put, List.setIfInBounds_toArray, List.set_cons_zero, List.set_cons_succ]
              refine wpAnyH_take (i := 1) (oi := { dst := some 57, op := Op.load 27 (Operand.tmp 56), type := 27, pos := "page.go:98", after := #[{ on := 0, ground := Ground.data }], guard := none }) (v := ?_) rfl (by kernel_rfl) (by kernel_rfl) (by kernel_rfl) (fun _ _ _ h => h) (Or.inl ⟨by rfl, ?_⟩) C0 ?_
              rotate_left
              · intro W' hSw
                have y2 := hSw.2.1
                clear hSw
                go_simp <;> with_reducible rfl
              try simp only [Act.put, List.setIfInBounds_toArray, List.set_cons_zero, List.set_cons_succ]
              refine wpAnyH_take (i := 2) (oi := { dst := some 58, op := Op.load 29 (Operand.tmp 5), type := 29, pos := "page.go:98", after := #[{ on := 3, ground := Ground.gcOnly Departure.lateStores }], guard := none }) (v := ?_) rfl (by kernel_rfl) (by kernel_rfl) (by kernel_rfl) (fun _ _ _ h => h) (Or.inl ⟨by rfl, ?_⟩) C0 ?_
              rotate_left
              · intro W' hSw
                have r0 := hSw.2.2.cell_at 0 (.int .i64 tk) rfl
                have r1 := hSw.2.2.cell_at 1 (.int .i64 ts) rfl
                have r2 := hSw.2.2.cell_at 2 (.int .i64 tq) rfl
                have r3 := hSw.2.2.cell_at 3 (.int .i64 te) rfl
                clear hSw
                go_simp <;> with_reducible rfl
              try simp only [Act.put, List.setIfInBounds_toArray, List.set_cons_zero, List.set_cons_succ]
              refine wpAnyH_take (i := 3) (oi := { dst := some 4, op := Op.assign (Operand.tmp 57), type := 27, pos := "page.go:98", after := #[{ on := 1, ground := Ground.data }, { on := 0, ground := Ground.phase }, { on := 1, ground := Ground.phase }, { on := 2, ground := Ground.textOnly Departure.lateStores }], guard := none }) (v := ?_) rfl (by kernel_rfl) (by kernel_rfl) (by kernel_rfl) (fun _ _ _ h => h) (Or.inl ⟨by rfl, ?_⟩) C0 ?_
              rotate_left
              · intro W' hSw
                clear hSw
                go_simp <;> with_reducible rfl
              try simp only [Act.put, List.setIfInBounds_toArray, List.set_cons_zero, List.set_cons_succ]
              refine wpAnyH_ready (rs := [4]) (by kernel_rfl) (by simp) ?_
              refine AllReadyH.cons (o := { dst := none, op := Op.store 29 (Operand.tmp 5) (Operand.tmp 58), type := 0, pos := "page.go:98", after := #[{ on := 2, ground := Ground.data }, { on := 3, ground := Ground.chain }, { on := 0, ground := Ground.phase }, { on := 1, ground := Ground.phase }, { on := 2, ground := Ground.phase }, { on := 3, ground := Ground.phase }], guard := none }) rfl (fun K hK => ?_) AllReadyH.nil
              rw [if_pos (by rfl)]
              refine wp_store_row 29 _ _ rfl (w.heap.size + 1) #[.int .i64 tk, .int .i64 ts, .int .i64 tq, .int .i64 te] (by simp [Act.eval]) rfl 29 _ T7.out.drew.row size_tag (by simp) (by simp [Value.oneCell']) ?_
              refine hK.out _ _ ⟨below_setRow C0.1 (Nat.le_succ _) _, cell_setRow _ hneB C0.2.1, C0.2.2.set _⟩ (fun C1 => ?_)
              clear hK K
              try simp only [Act.put]
              refine wpAnyH_take (i := 5) (oi := { dst := some 6, op := Op.assign (Operand.const (Value.int IntKind.i64 1)), type := 3, pos := "page.go:98", after := #[{ on := 4, ground := Ground.chain }, { on := 0, ground := Ground.phase }, { on := 1, ground := Ground.phase }, { on := 2, ground := Ground.phase }, { on := 3, ground := Ground.phase }, { on := 4, ground := Ground.phase }], guard := none }) (v := ?_) rfl (by kernel_rfl) (by kernel_rfl) (by kernel_rfl) (fun _ _ _ h => h) (Or.inl ⟨by rfl, ?_⟩) C1 ?_
              rotate_left
              · intro W' hSw
                clear hSw
                go_simp <;> with_reducible rfl
              try simp only [Act.put, List.setIfInBounds_toArray, List.set_cons_zero, List.set_cons_succ]
              refine wpAnyH_take (i := 6) (oi := { dst := some 7, op := Op.assign (Operand.const (Value.int IntKind.i64 0)), type := 32, pos := "page.go:98", after := #[{ on := 5, ground := Ground.chain }, { on := 0, ground := Ground.phase }, { on := 1, ground := Ground.phase }, { on := 2, ground := Ground.phase }, { on := 3, ground := Ground.phase }, { on := 4, ground := Ground.phase }, { on := 5, ground := Ground.phase }], guard := none }) (v := ?_) rfl (by kernel_rfl) (by kernel_rfl) (by kernel_rfl) (fun _ _ _ h => h) (Or.inl ⟨by rfl, ?_⟩) C1 ?_
              rotate_left
              · intro W' hSw
                clear hSw
                go_simp <;> with_reducible rfl
              try simp only [Act.put, List.setIfInBounds_toArray, List.set_cons_zero, List.set_cons_succ]
              refine wpAnyH_done (by kernel_rfl) ?_ _
              refine NoPanic.normal ?_
              have RD8 := Lib.hid (R8.setRow (w := w7.drew) RD7.out T7.out.drew (by intro v hv; simp at hv; rcases hv with rfl | rfl | rfl | rfl <;> simp) #[.int .i64 tk, .int .i64 ts, .int .i64 tq, .int .i64 te])
              have T8 := Lib.hid C1.2.2
              have B8 := Lib.hid C1.1
              clear C0 C1 z2
              obtain ⟨hv1, hv2, hv3, hv4⟩ := four (HVQ.out.symm.trans (decQ_ok HE.out HAl.out HDe.out HSQ.out HTk.out) |>.trans (by rw [HF.out, if_pos hf]))
              subst hv1 hv2 hv3 hv4
              go_wp2
              refine bodyPost_ret (results_tctt_row rfl _ _ (w.heap.size + 1) 29 _ (0, 0) _ rfl T8.out.row Try.underlying29 rfl size_tag) rfl ?_
              refine ⟨D, dc, ?_, by rw [HDn.out]; exact RD8.out, B8.out⟩
              rw [HDn.out]
              rfl
            · obtain rfl : f = 0 := by omega
              go_wp2_with (with_reducible refine (?_ : wpList _ _ _ ({ dst := _, op := Op.store 29 _ _, type := _, pos := _, after := _, guard := _ } :: _) _ _); refine wpList_store_at rfl 29 _ _ rfl 4 size_tag _ (w.heap.size + 1) ?hx rfl _ T6.out.row ?hn ?ho ?h1 ?_; (case hx => simp [Act.eval]); (case hn => simp); (case ho => simp); (case h1 => simp [Value.oneCell']))
              generalize w6.setRow (w.heap.size + 1) #[.int .i64 tk, .int .i64 ts, .int .i64 tq, .int .i64 te] = w7 at *
              clear B6 T6 RD6 y2
              have hlt7 := T7.out.lt
              refine wp_region_noPanic ?_
              refine wp_region_held_drew (S := fun w' => Below w.heap.size w w' ∧ (w'.cell? ⟨w3.heap.size, 2, none⟩ = some (.slice D dn dc) ∧ CRow w' (w.heap.size + 1) 29 #[.int .i64 tk, .int .i64 ts, .int .i64 tq, .int .i64 te])) (by kernel_rfl) ⟨B7.out.drew, z2, T7.out.drew⟩ (fun C0 => ?_)
              refine wpAnyH_take (i := 0) (oi := { dst := some 59, op := Op.fieldAddr 69 (Operand.tmp 10) 1, type := 0, pos := "page.go:100", after := #[], guard := none }) (v := ?_) rfl (by kernel_rfl) (by kernel_rfl) (by kernel_rfl) (fun _ _ _ h => h) (Or.inl ⟨by rfl, ?_⟩) C0 ?_
              rotate_left
              · intro W' hSw
                clear hSw
                go_simp <;> with_reducible rfl
              try simp only [Act.put, List.setIfInBounds_toArray, List.set_cons_zero, List.set_cons_succ]
              refine wpAnyH_take (i := 1) (oi := { dst := some 60, op := Op.load 27 (Operand.tmp 59), type := 27, pos := "page.go:100", after := #[{ on := 0, ground := Ground.data }], guard := none }) (v := ?_) rfl (by kernel_rfl) (by kernel_rfl) (by kernel_rfl) (fun _ _ _ h => h) (Or.inl ⟨by rfl, ?_⟩) C0 ?_
              rotate_left
              · intro W' hSw
                have y2 := hSw.2.1
                clear hSw
                go_simp <;> with_reducible rfl
              try simp only [Act.put, List.setIfInBounds_toArray, List.set_cons_zero, List.set_cons_succ]
              refine wpAnyH_take (i := 2) (oi := { dst := some 61, op := Op.load 29 (Operand.tmp 5), type := 29, pos := "page.go:100", after := #[{ on := 3, ground := Ground.gcOnly Departure.lateStores }], guard := none }) (v := ?_) rfl (by kernel_rfl) (by kernel_rfl) (by kernel_rfl) (fun _ _ _ h => h) (Or.inl ⟨by rfl, ?_⟩) C0 ?_
              rotate_left
              · intro W' hSw
                have r0 := hSw.2.2.cell_at 0 (.int .i64 tk) rfl
                have r1 := hSw.2.2.cell_at 1 (.int .i64 ts) rfl
                have r2 := hSw.2.2.cell_at 2 (.int .i64 tq) rfl
                have r3 := hSw.2.2.cell_at 3 (.int .i64 te) rfl
                clear hSw
                go_simp <;> with_reducible rfl
              try simp only [Act.put, List.setIfInBounds_toArray, List.set_cons_zero, List.set_cons_succ]
              refine wpAnyH_take (i := 3) (oi := { dst := some 4, op := Op.assign (Operand.tmp 60), type := 27, pos := "page.go:100", after := #[{ on := 1, ground := Ground.data }, { on := 0, ground := Ground.phase }, { on := 1, ground := Ground.phase }, { on := 2, ground := Ground.textOnly Departure.lateStores }], guard := none }) (v := ?_) rfl (by kernel_rfl) (by kernel_rfl) (by kernel_rfl) (fun _ _ _ h => h) (Or.inl ⟨by rfl, ?_⟩) C0 ?_
              rotate_left
              · intro W' hSw
                clear hSw
                go_simp <;> with_reducible rfl
              try simp only [Act.put, List.setIfInBounds_toArray, List.set_cons_zero, List.set_cons_succ]
              refine wpAnyH_ready (rs := [4]) (by kernel_rfl) (by simp) ?_
              refine AllReadyH.cons (o := { dst := none, op := Op.store 29 (Operand.tmp 5) (Operand.tmp 61), type := 0, pos := "page.go:100", after := #[{ on := 2, ground := Ground.data }, { on := 3, ground := Ground.chain }, { on := 0, ground := Ground.phase }, { on := 1, ground := Ground.phase }, { on := 2, ground := Ground.phase }, { on := 3, ground := Ground.phase }], guard := none }) rfl (fun K hK => ?_) AllReadyH.nil
              rw [if_pos (by rfl)]
              refine wp_store_row 29 _ _ rfl (w.heap.size + 1) #[.int .i64 tk, .int .i64 ts, .int .i64 tq, .int .i64 te] (by simp [Act.eval]) rfl 29 _ T7.out.drew.row size_tag (by simp) (by simp [Value.oneCell']) ?_
              refine hK.out _ _ ⟨below_setRow C0.1 (Nat.le_succ _) _, cell_setRow _ hneB C0.2.1, C0.2.2.set _⟩ (fun C1 => ?_)
              clear hK K
              try simp only [Act.put]
              refine wpAnyH_take (i := 5) (oi := { dst := some 6, op := Op.assign (Operand.const (Value.int IntKind.i64 0)), type := 3, pos := "page.go:100", after := #[{ on := 4, ground := Ground.chain }, { on := 0, ground := Ground.phase }, { on := 1, ground := Ground.phase }, { on := 2, ground := Ground.phase }, { on := 3, ground := Ground.phase }, { on := 4, ground := Ground.phase }], guard := none }) (v := ?_) rfl (by kernel_rfl) (by kernel_rfl) (by kernel_rfl) (fun _ _ _ h => h) (Or.inl ⟨by rfl, ?_⟩) C1 ?_
              rotate_left
              · intro W' hSw
                clear hSw
                go_simp <;> with_reducible rfl
              try simp only [Act.put, List.setIfInBounds_toArray, List.set_cons_zero, List.set_cons_succ]
              refine wpAnyH_take (i := 6) (oi := { dst := some 7, op := Op.assign (Operand.const (Value.int IntKind.i64 0)), type := 32, pos := "page.go:100", after := #[{ on := 5, ground := Ground.chain }, { on := 0, ground := Ground.phase }, { on := 1, ground := Ground.phase }, { on := 2, ground := Ground.phase }, { on := 3, ground := Ground.phase }, { on := 4, ground := Ground.phase }, { on := 5, ground := Ground.phase }], guard := none }) (v := ?_) rfl (by kernel_rfl) (by kernel_rfl) (by kernel_rfl) (fun _ _ _ h => h) (Or.inl ⟨by rfl, ?_⟩) C1 ?_
              rotate_left
              · intro W' hSw
                clear hSw
                go_simp <;> with_reducible rfl
              try simp only [Act.put, List.setIfInBounds_toArray, List.set_cons_zero, List.set_cons_succ]
              refine wpAnyH_done (by kernel_rfl) ?_ _
              refine NoPanic.normal ?_
              have RD8 := Lib.hid (R8.setRow (w := w7.drew) RD7.out T7.out.drew (by intro v hv; simp at hv; rcases hv with rfl | rfl | rfl | rfl <;> simp) #[.int .i64 tk, .int .i64 ts, .int .i64 tq, .int .i64 te])
              have T8 := Lib.hid C1.2.2
              have B8 := Lib.hid C1.1
              clear C0 C1 z2
              obtain ⟨hv1, hv2, hv3, hv4⟩ := four (HVQ.out.symm.trans (decQ_ok HE.out HAl.out HDe.out HSQ.out HTk.out) |>.trans (by rw [HF.out, if_neg hf]))
              subst hv1 hv2 hv3 hv4
              go_wp2
              refine bodyPost_ret (results_tctt_row rfl _ _ (w.heap.size + 1) 29 _ (0, 0) _ rfl T8.out.row Try.underlying29 rfl size_tag) rfl ?_
              refine ⟨D, dc, ?_, by rw [HDn.out]; exact RD8.out, B8.out⟩
              rw [HDn.out]
              rfl
          · have hne : (er != 0) = true := by simpa using her
            obtain ⟨rfl, rfl, rfl, rfl⟩ := four (HVQ.out.symm.trans (decQ_tag HE.out HAl.out HDe.out HSQ.out HTk.out her))
            go_wp2_with (first | (with_reducible refine (?_ : wpList _ _ _ ({ dst := _, op := Op.store 29 _ _, type := _, pos := _, after := _, guard := _ } :: _) _ _); refine wpList_store_at rfl 29 _ _ rfl 4 size_tag _ (w.heap.size + 1) ?hx rfl _ T6.out.row ?hn ?ho ?h1 ?_; (case hx => simp [Act.eval]); (case hn => simp); (case ho => simp); (case h1 => simp [Value.oneCell'])) | (with_reducible refine (?_ : wpList _ _ _ ({ dst := _, op := Op.store 29 _ _, type := _, pos := _, after := _, guard := _ } :: _) _ _); refine wpList_store_at rfl 29 _ _ rfl 4 size_tag _ (w.heap.size + 1) ?hx rfl _ T7.out.row ?hn ?ho ?h1 ?_; (case hx => simp [Act.eval]); (case hn => simp); (case ho => simp); (case h1 => simp [Value.oneCell'])))
            have B9 := Lib.hid (below_setRow B7.out (Nat.le_succ _) #[.int .i64 0, .int .i64 0, .int .i64 0, .int .i64 0])
            have T9 := Lib.hid (T7.out.set #[.int .i64 0, .int .i64 0, .int .i64 0, .int .i64 0])
            go_wp2
            refine bodyPost_ret (results_tctt_row rfl _ _ (w.heap.size + 1) 29 _ (0, 0) _ rfl T9.out.row Try.underlying29 rfl size_tag) rfl ?_
            exact ⟨none, 0, rfl, ⟨Rd.nil_, fun x hx => by cases hx⟩, B9.out⟩
        · have hdec : decide (bs.drop 24 = sm) = false := decide_eq_false hsm
          have HSQ := Lib.hid (show le4 (sumL (d ++ bs.take 24)) ≠ bs.drop 24 by rw [HSM.out]; exact fun h => hsm h.symm)
          clear hsm
          refine wp_region_noPanic ?_
          refine wp_region_held_drew (S := fun w' => Below w4.heap.size w4 w') (by kernel_rfl) ((Below.refl _ _).drew) (fun C0 => ?_)
          refine wpAnyH_take (i := 0) (oi := { dst := some 35, op := Op.fieldAddr 69 (Operand.tmp 10) 0, type := 0, pos := "page.go:90", after := #[], guard := none }) (v := ?_) rfl (by kernel_rfl) (by kernel_rfl) (by kernel_rfl) (fun _ _ _ h => h) (Or.inl ⟨by rfl, ?_⟩) C0 ?_
          rotate_left
          · intro W' hSw
            clear hSw
            go_simp <;> with_reducible rfl
          try simp only [Act.put, List.setIfInBounds_toArray, List.set_cons_zero, List.set_cons_succ]
          refine wpAnyH_take (i := 1) (oi := { dst := some 36, op := Op.fieldAddr 67 (Operand.tmp 35) 1, type := 0, pos := "page.go:90", after := #[{ on := 0, ground := Ground.data }], guard := none }) (v := ?_) rfl (by kernel_rfl) (by kernel_rfl) (by kernel_rfl) (fun _ _ _ h => h) (Or.inl ⟨by rfl, ?_⟩) C0 ?_
          rotate_left
          · intro W' hSw
            clear hSw
            go_simp <;> with_reducible rfl
          try simp only [Act.put, List.setIfInBounds_toArray, List.set_cons_zero, List.set_cons_succ]
          refine wpAnyH_take (i := 2) (oi := { dst := some 37, op := Op.load 27 (Operand.tmp 36), type := 27, pos := "page.go:90", after := #[{ on := 1, ground := Ground.data }], guard := none }) (v := ?_) rfl (by kernel_rfl) (by kernel_rfl) (by kernel_rfl) (fun _ _ _ h => h) (Or.inl ⟨by rfl, ?_⟩) C0 ?_
          rotate_left
          · intro W' hSw
            have q1 := (hSw.cell (p := ⟨w3.heap.size, 1, none⟩) hlt3).trans x1
            clear hSw
            go_simp <;> with_reducible rfl
          try simp only [Act.put, List.setIfInBounds_toArray, List.set_cons_zero, List.set_cons_succ]
          refine wpAnyH_take (i := 3) (oi := { dst := some 38, op := Op.load 69 (Operand.tmp 10), type := 69, pos := "page.go:90", after := #[], guard := none }) (v := ?_) rfl (by kernel_rfl) (by kernel_rfl) (by kernel_rfl) (fun _ _ _ h => h) (Or.inl ⟨by rfl, ?_⟩) C0 ?_
          rotate_left
          · intro W' hSw
            have q0 := (hSw.cell (p := ⟨w3.heap.size, 0, none⟩) hlt3).trans x0
            have q1 := (hSw.cell (p := ⟨w3.heap.size, 1, none⟩) hlt3).trans x1
            have q2 := (hSw.cell (p := ⟨w3.heap.size, 2, none⟩) hlt3).trans x2
            clear hSw
            go_simp <;> with_reducible rfl
          try simp only [Act.put, List.setIfInBounds_toArray, List.set_cons_zero, List.set_cons_succ]
          refine wpAnyH_ready (rs := [4]) (by kernel_rfl) (by simp) ?_
          refine AllReadyH.cons (o := { dst := some 39, op := Op.call { callee := Callee.value (Operand.func 37), args := #[Operand.tmp 38], argTypes := #[69] }, type := 27, pos := "page.go:90", after := #[{ on := 3, ground := Ground.data }], guard := none }) rfl (fun K hK => ?_) AllReadyH.nil
          go_simp
          refine (checksum_any _ _ _ _ _ _ _ _ _ (bs.take 24) d _ (RT.out.below C0) (RD.out.below C0) (by omega) hdn).mono ?_
          rw [HSM.out]
          intro _ w5 hM
          obtain ⟨A5, c5, rfl, O5, D5⟩ := hM.at_ HSl.out
          have hB := D5.out
          have R5 := Lib.hid (R8.own O5.out HSb.out)
          clear hM D5 O5
          go_wp2_with fail
          refine hK.out _ _ (C0.trans (hB.mono C0.size)) (fun C1 => ?_)
          clear hK K hB
          try simp only [Act.put, List.setIfInBounds_toArray, List.set_cons_zero, List.set_cons_succ]
          refine wpAnyH_ready (rs := [5]) (by kernel_rfl) (by simp) ?_
          refine AllReadyH.cons (o := { dst := some 40, op := Op.call { callee := Callee.value (Operand.func 36), args := #[Operand.tmp 37, Operand.tmp 39], argTypes := #[27, 27] }, type := 4, pos := "page.go:90", after := #[{ on := 2, ground := Ground.data }, { on := 4, ground := Ground.data }, { on := 4, ground := Ground.chain }], guard := none }) rfl (fun K hK => ?_) AllReadyH.nil
          go_simp
          refine (Equal_any _ _ _ _ _ _ (bs.drop 24) sm _ (RS.out.below C1) R5.out).mono ?_
          rw [hdec]
          rintro _ w6 ⟨rfl, rfl⟩
          go_wp2_with fail
          refine hK.out _ _ C1 (fun C2 => ?_)
          clear hK K
          try simp only [Act.put, List.setIfInBounds_toArray, List.set_cons_zero, List.set_cons_succ]
          refine wpAnyH_take (i := 6) (oi := { dst := some 41, op := Op.unOp UnOp.not 4 (Operand.tmp 40), type := 4, pos := "page.go:90", after := #[{ on := 5, ground := Ground.data }], guard := none }) (v := ?_) rfl (by kernel_rfl) (by kernel_rfl) (by kernel_rfl) (fun _ _ _ h => h) (Or.inl ⟨by rfl, ?_⟩) C2 ?_
          rotate_left
          · intro W' hSw
            clear hSw
            go_simp <;> with_reducible rfl
          try simp only [Act.put, List.setIfInBounds_toArray, List.set_cons_zero, List.set_cons_succ]
          refine wpAnyH_done (by kernel_rfl) ?_ _
          refine NoPanic.normal ?_
          have B5 := Lib.hid (below_step B3.out C2)
          have T5 := Lib.hid (T3.out.below C2)
          have RT5 := Lib.hid (RT.out.below C2)
          have RD5 := Lib.hid (RD.out.below C2)
          have z0 := (C2.cell (p := ⟨w3.heap.size, 0, none⟩) hlt3).trans x0
          have z2 := (C2.cell (p := ⟨w3.heap.size, 2, none⟩) hlt3).trans x2
          have hs45 := C2.size
          clear C2 C1 C0 B3 T3 RT RD RS x0 x1 x2
          obtain ⟨rfl, rfl, rfl, rfl⟩ := four (HVQ.out.symm.trans (decQ_sum HE.out HAl.out HDe.out HSQ.out))
          go_wp2_with (with_reducible refine (?_ : wpList _ _ _ ({ dst := _, op := Op.store 29 _ _, type := _, pos := _, after := _, guard := _ } :: _) _ _); refine wpList_store_at rfl 29 _ _ rfl 4 size_tag _ (w.heap.size + 1) ?hx rfl _ T5.out.row ?hn ?ho ?h1 ?_; (case hx => simp [Act.eval]); (case hn => simp); (case ho => simp); (case h1 => simp [Value.oneCell']))
          have B9 := Lib.hid (below_setRow B5.out (Nat.le_succ _) #[.int .i64 0, .int .i64 0, .int .i64 0, .int .i64 0])
          have T9 := Lib.hid (T5.out.set #[.int .i64 0, .int .i64 0, .int .i64 0, .int .i64 0])
          go_wp2
          refine bodyPost_ret (results_tctt_row rfl _ _ (w.heap.size + 1) 29 _ (0, 0) _ rfl T9.out.row Try.underlying29 rfl size_tag) rfl ?_
          exact ⟨none, 0, rfl, ⟨Rd.nil_, fun x hx => by cases hx⟩, B9.out⟩
      · have hne : ((e2 : Int) != 0) = true := by simp; omega
        refine (HRD2.out A2 1 c2 _ C2.out L2.out d bs n1 m e2 HAl.out HDe.out he2).mono ?_
        rintro _ w3 ⟨rfl, h3⟩
        have B3 := Lib.hid (below_step (below_step B2.out h3) (below_new w3 (.cells #[.slice none 0 0, .slice none 0 0, .slice none 0 0] 69)))
        have T3 := Lib.hid ((T2.out.below h3).alloc (.cells #[.slice none 0 0, .slice none 0 0, .slice none 0 0] 69))
        clear h3 B2 T2 C2 L2
        obtain ⟨rfl, rfl, rfl, rfl⟩ := four (HVQ.out.symm.trans (decQ_label HE.out HAl.out HDe.out he2))
        go_wp2_with (with_reducible refine (?_ : wpList _ _ _ ({ dst := _, op := Op.store 29 _ _, type := _, pos := _, after := _, guard := _ } :: _) _ _); refine wpList_store_at rfl 29 _ _ rfl 4 size_tag _ (w.heap.size + 1) ?hx rfl _ T3.out.row ?hn ?ho ?h1 ?_; (case hx => simp [Act.eval]); (case hn => simp); (case ho => simp); (case h1 => simp [Value.oneCell']))
        have B9 := Lib.hid (below_setRow B3.out (Nat.le_succ _) #[.int .i64 0, .int .i64 0, .int .i64 0, .int .i64 0])
        have T9 := Lib.hid (T3.out.set #[.int .i64 0, .int .i64 0, .int .i64 0, .int .i64 0])
        go_wp2
        refine bodyPost_ret (results_tctt_row rfl _ _ (w.heap.size + 1) 29 _ (0, 0) _ rfl T9.out.row Try.underlying29 rfl size_tag) rfl ?_
        exact ⟨none, 0, rfl, ⟨Rd.nil_, fun x hx => by cases hx⟩, B9.out⟩
    · have hne : ((e1 : Int) != 0) = true := by simp; omega
      refine (HRD1.out A2 1 c2 _ C2.out L2.out d n1 e1 HAl.out he1).mono ?_
      rintro _ w3 ⟨rfl, h3⟩
      have B3 := Lib.hid (below_step (below_step B2.out h3) (below_new w3 (.cells #[.slice none 0 0, .slice none 0 0, .slice none 0 0] 69)))
      have T3 := Lib.hid ((T2.out.below h3).alloc (.cells #[.slice none 0 0, .slice none 0 0, .slice none 0 0] 69))
      clear h3 B2 T2 C2 L2
      obtain ⟨rfl, rfl, rfl, rfl⟩ := four (HVQ.out.symm.trans (decQ_chunks HE.out HAl.out he1))
      go_wp2_with (with_reducible refine (?_ : wpList _ _ _ ({ dst := _, op := Op.store 29 _ _, type := _, pos := _, after := _, guard := _ } :: _) _ _); refine wpList_store_at rfl 29 _ _ rfl 4 size_tag _ (w.heap.size + 1) ?hx rfl _ T3.out.row ?hn ?ho ?h1 ?_; (case hx => simp [Act.eval]); (case hn => simp); (case ho => simp); (case h1 => simp [Value.oneCell']))
      have B9 := Lib.hid (below_setRow B3.out (Nat.le_succ _) #[.int .i64 0, .int .i64 0, .int .i64 0, .int .i64 0])
      have T9 := Lib.hid (T3.out.set #[.int .i64 0, .int .i64 0, .int .i64 0, .int .i64 0])
      go_wp2
      refine bodyPost_ret (results_tctt_row rfl _ _ (w.heap.size + 1) 29 _ (0, 0) _ rfl T9.out.row Try.underlying29 rfl size_tag) rfl ?_
      exact ⟨none, 0, rfl, ⟨Rd.nil_, fun x hx => by cases hx⟩, B9.out⟩
end Go.Proofs.Ytgiihdeilkiphaa

/-
  The laws' Small and awake, over the landed code; page.Decode and page.Marked for whatever geometry and bytes.
-/
namespace Go.Proofs.Ytgiihdeilkiphaa
open Go.RowKit
set_option maxRecDepth 100000

def okG (g : Gm) (n : Nat) : Bool := g.ok && decide ((n : Int) = g.raw)
/-- What a raw page has, in whatever geometry. -/
def decG (g : Gm) (l : List Nat) : List Nat × Tg × Nat × Int := if okG g l.length then decP g.c.toNat g.k.toNat l else ([], Tg.zero, 0, 2)
def mkG (g : Gm) (l : List Nat) : Bool := okG g l.length && decide (ones (l.drop (l.length - 1)) < 4)
theorem okG_len {g : Gm} {n : Nat} (h : okG g n = true) : g.ok = true ∧ g.c = (g.c.toNat : Int) ∧ g.k = (g.k.toNat : Int) ∧ n = g.c.toNat * (g.k.toNat + 2) + 31 := by
  unfold okG at h
  simp only [Bool.and_eq_true, decide_eq_true_eq] at h
  obtain ⟨ho, hn⟩ := h
  have hb := Gm.bounds_of ho
  have hc : g.c = (g.c.toNat : Int) := by omega
  have hk : g.k = (g.k.toNat : Int) := by omega
  refine ⟨ho, hc, hk, ?_⟩
  unfold Gm.raw at hn
  rw [if_pos ho, hc, hk] at hn
  have e : ((g.c.toNat * (g.k.toNat + 2) + 31 : Nat) : Int) = (g.c.toNat : Int) * ((g.k.toNat : Int) + 2) + 31 := by
    rw [Int.natCast_add, Int.natCast_mul, Int.natCast_add]
    rfl
  omega
theorem okG_mk {g : Gm} {n : Nat} (h : g.ok = true) (C K : Nat) (hC : g.c = (C : Int)) (hK : g.k = (K : Int)) (hn : n = C * (K + 2) + 31) : okG g n = true := by
  unfold okG Gm.raw
  rw [h, if_pos rfl, hC, hK, hn, Int.natCast_add, Int.natCast_mul, Int.natCast_add]
  simp
theorem cut_no (g : Gm) (A : Option Addr) (n c : Nat) (h : okG g n = false) (w : World) :
    Calls Try.prog 33 #[g.val, .slice A n c] w (Gives (.tuple #[.agg #[.slice none 0 0, .slice none 0 0, .slice none 0 0], .bool false]) w) := by
  cases ho : g.ok
  · exact cut_geom g ho A n c w
  · refine cut_len g ho A n c ?_ w
    unfold okG at h
    rw [ho] at h
    simpa using h
theorem PageDec_any (g : Gm) (A : Option Addr) (n c : Nat) (hcap : n ≤ c) (l : List Nat) (w : World) (hr : R8 w A n l) :
    Calls Try.prog 16 #[g.val, .slice A n c] w (Ret4 (decG g l).1 (decG g l).2.1 (decG g l).2.2.1 (decG g l).2.2.2 w) := by
  unfold decG
  rw [hr.len]
  cases h : okG g n
  · exact PageDec_no g A n c (cut_no g A n c h) w
  · obtain ⟨ho, hc, hk, hn⟩ := okG_len h
    exact PageDec_yes g ho _ _ hc hk A n c hn hcap l w hr
theorem decG_len (g : Gm) (l : List Nat) (hb : ∀ x ∈ l, x < 256) : (decG g l).1.length ≤ 8224 := by
  unfold decG
  cases h : okG g l.length
  · simp
  · obtain ⟨ho, hc, hk, hn⟩ := okG_len h
    have hbd := Gm.bounds_of ho
    have h1 := decP_len g.c.toNat g.k.toNat l hn hb
    have hc16 : g.c.toNat ≤ 16 := by omega
    have hk2 : g.k.toNat + 2 ≤ 514 := by omega
    have := Nat.mul_le_mul hc16 hk2
    simp only [if_true]
    omega
theorem decG_mark (g : Gm) (l : List Nat) (x : Nat) : decG g (l.set (l.length - 1) x) = decG g l := by
  unfold decG
  rw [List.length_set]
  cases h : okG g l.length
  · rfl
  · simp only [if_true]
    exact dec_mark _ _ l x (okG_len h).2.2.2
theorem mkG_mark (g : Gm) (l : List Nat) (x : Nat) (h0 : 0 < l.length) : mkG g (l.set (l.length - 1) x) = (okG g l.length && decide (Lib.onesCount x < 4)) := by
  unfold mkG
  rw [List.length_set, List.drop_set, if_neg (by omega), Nat.sub_self]
  have e : l.drop (l.length - 1) = [l[l.length - 1]] := by
    rw [List.drop_eq_getElem_cons (by omega), List.drop_eq_nil_of_le (by omega)]
  rw [e]
  simp [ones]

def smallG (g : Gm) : Prop := g.c ≤ 4 ∧ g.k ≤ 40 ∧ 0 ≤ g.c ∧ 0 ≤ g.k
set_option maxHeartbeats 1000000 in
theorem Small_yes (g : Gm) (h : smallG g) (w : World) : Calls Try.prog 19 #[g.val] w (Gives (.bool true) w) := by
  obtain ⟨p, b, s, c, k, r, q⟩ := g
  obtain ⟨h1, h2, h3, h4⟩ := h
  simp only at h1 h2 h3 h4
  have d1 : decide (c ≤ 4) = true := decide_eq_true h1
  have d2 : decide (k ≤ 40) = true := decide_eq_true h2
  have d3 : decide (0 ≤ c) = true := decide_eq_true h3
  have d4 : decide (0 ≤ k) = true := decide_eq_true h4
  simp only [Gm.val]
  go_enter Try.func19, Try.ntmps19
  go_wp2
  go_ret
  exact ⟨rfl, below_new w _⟩
set_option maxHeartbeats 1000000 in
theorem Small_no (g : Gm) (h : ¬ smallG g) (w : World) : Calls Try.prog 19 #[g.val] w (Gives (.bool false) w) := by
  obtain ⟨p, b, s, c, k, r, q⟩ := g
  unfold smallG at h
  simp only at h
  simp only [Gm.val]
  by_cases h1 : c ≤ 4
  · have d1 : decide (c ≤ 4) = true := decide_eq_true h1
    by_cases h2 : k ≤ 40
    · have d2 : decide (k ≤ 40) = true := decide_eq_true h2
      by_cases h3 : 0 ≤ c
      · have d3 : decide (0 ≤ c) = true := decide_eq_true h3
        have d4 : decide (0 ≤ k) = false := decide_eq_false (by omega)
        clear h
        go_enter Try.func19, Try.ntmps19
        go_wp2
        go_ret
        exact ⟨rfl, below_new w _⟩
      · have d3 : decide (0 ≤ c) = false := decide_eq_false h3
        clear h
        go_enter Try.func19, Try.ntmps19
        go_wp2
        go_ret
        exact ⟨rfl, below_new w _⟩
    · have d2 : decide (k ≤ 40) = false := decide_eq_false h2
      clear h
      go_enter Try.func19, Try.ntmps19
      go_wp2
      go_ret
      exact ⟨rfl, below_new w _⟩
  · have d1 : decide (c ≤ 4) = false := decide_eq_false h1
    clear h
    go_enter Try.func19, Try.ntmps19
    go_wp2
    go_ret
    exact ⟨rfl, below_new w _⟩

def geo1 : Gm := ⟨1, 2, 4, 1, 4, 1, 1⟩
theorem geo1_ok : geo1.ok = true := by decide +kernel
def tag1 : Tg := ⟨1, 0, 0, 0⟩
theorem tag1_ok : tag1.ok = true := by decide +kernel
theorem four_bytes (w : World) (x y z u : Nat) (t : TypeId) (hx : x < 256) (hy : y < 256) (hz : z < 256) (hu : u < 256) : R8 (w.alloc (.cells #[.int .u8 (x : Int), .int .u8 (y : Int), .int .u8 (z : Int), .int .u8 (u : Int)] t)) (some ⟨w.heap.size, 0, none⟩) 4 [x, y, z, u] := by
  refine ⟨⟨rfl, fun _ => ⟨_, 0, rfl, by simp, fun j hj => ?_⟩⟩, by simp; omega⟩
  match j, hj with
  | 0, _ => simp [U8]
  | 1, _ => simp [U8]
  | 2, _ => simp [U8]
  | 3, _ => simp [U8]
theorem page_mark {C K : Nat} {d tb : List Nat} (h : PgOk C K d tb) : (pageL C K d tb)[C * (K + 2) + 30]? = some 255 := by
  unfold pageL pg
  have hl := catTo_length (cws C K d tb) (K + 2) C (fun i hi => cws_len h i hi)
  have h2 := cws_last h
  rw [List.getElem?_append_right (by omega), hl, List.getElem?_append_right (by omega), h2, show C * (K + 2) + 30 - C * (K + 2) - 30 = 0 by omega]
  rfl

theorem Ret4.tag {d : List Nat} {t : Tg} {s : Nat} {e : Int} {w w' : World} {en : Ending} (h : Ret4 d t s e w en w') (n : Nat) (hl : d.length = n) (tk ts tq te : Int) (ht : t = ⟨tk, ts, tq, te⟩) :
    ∃ A c, en = .returned (.tuple #[.slice A n c, .agg #[.int .i64 tk, .int .i64 ts, .int .i64 tq, .int .i64 te], .int .i64 (s : Int), .int .i64 e]) ∧ Hid (R8 w' A n d) ∧ Hid (Below w.heap.size w w') := by
  subst ht
  exact h.at_ hl
end Go.Proofs.Ytgiihdeilkiphaa

/-
  Plain facts on ladders: which rung counts; rungs behind it, rungs that are read again.
-/
namespace Go.Proofs.Ytgiihdeilkiphaa

/-- What a raw page's decoding says: its error; its page. -/
def rungE (g : Gm) (l : List Nat) : Int := (decG g l).2.2.2
def rungP (g : Gm) (l : List Nat) : List Nat × Tg × Nat := ((decG g l).1, (decG g l).2.1, (decG g l).2.2.1)
/-- No page, rung 0, an error. -/
def noPage (e : Int) : (List Nat × Tg × Nat) × Nat × Int := (([], Tg.zero, 0), 0, e)
/-- The rung that counts, from rung i on. -/
def climbFrom (g : Gm) : Nat → List (List Nat) → (List Nat × Tg × Nat) × Nat × Int
  | _, [] => noPage 30
  | i, l :: ls => if rungE g l = 0 then (rungP g l, i, 0) else climbFrom g (i + 1) ls
/-- What may be climbed. -/
def climbOk (g : Gm) (ls : List (List Nat)) : Bool := g.ok && (decide (1 ≤ ls.length) && (decide ((ls.length : Int) ≤ g.r) && ls.all (fun l => decide ((l.length : Int) = g.raw))))
def climbL (g : Gm) (ls : List (List Nat)) : (List Nat × Tg × Nat) × Nat × Int := if climbOk g ls then climbFrom g 0 ls else noPage 2
/-- Of the first k rungs none counts. -/
def NoneTo (g : Gm) (ls : List (List Nat)) (k : Nat) : Prop := ∀ j l, j < k → ls[j]? = some l → rungE g l ≠ 0

theorem NoneTo.zero (g : Gm) (ls : List (List Nat)) : NoneTo g ls 0 := fun _ _ h => absurd h (by omega)
theorem NoneTo.succ {g : Gm} {ls : List (List Nat)} {k : Nat} {l : List Nat} (h : NoneTo g ls k) (hl : ls[k]? = some l) (he : rungE g l ≠ 0) : NoneTo g ls (k + 1) := by
  intro j l' hj hl'
  rcases Nat.lt_or_ge j k with h1 | h1
  · exact h j l' h1 hl'
  · obtain rfl : j = k := by omega
    rw [hl] at hl'
    injection hl' with e
    rw [← e]
    exact he
theorem climbFrom_at {g : Gm} : ∀ (ls : List (List Nat)) (k i : Nat) (l : List Nat), NoneTo g ls k → ls[k]? = some l → rungE g l = 0 → climbFrom g i ls = (rungP g l, i + k, 0)
  | [], k, i, l, _, h, _ => by simp at h
  | a :: ls, 0, i, l, _, h, he => by
    simp only [List.getElem?_cons_zero, Option.some.injEq] at h
    subst h
    rw [climbFrom, if_pos he, Nat.add_zero]
  | a :: ls, k + 1, i, l, hn, h, he => by
    rw [climbFrom, if_neg (hn 0 a (by omega) rfl), climbFrom_at ls k (i + 1) l (fun j l' hj hl' => hn (j + 1) l' (by omega) (by simpa using hl')) (by simpa using h) he]
    rw [show i + 1 + k = i + (k + 1) by omega]
theorem climbFrom_none {g : Gm} : ∀ (ls : List (List Nat)) (i : Nat), NoneTo g ls ls.length → climbFrom g i ls = noPage 30
  | [], _, _ => rfl
  | a :: ls, i, hn => by
    rw [climbFrom, if_neg (hn 0 a (by simp) rfl)]
    exact climbFrom_none ls (i + 1) (fun j l' hj hl' => hn (j + 1) l' (by simp; omega) (by simpa using hl'))
/-- Either a rung counts, the first one, or none. -/
theorem climb_cases (g : Gm) (ls : List (List Nat)) : (∃ k l, ls[k]? = some l ∧ NoneTo g ls k ∧ rungE g l = 0) ∨ NoneTo g ls ls.length := by
  have key : ∀ k, k ≤ ls.length → (∃ k l, ls[k]? = some l ∧ NoneTo g ls k ∧ rungE g l = 0) ∨ NoneTo g ls k := by
    intro k
    induction k with
    | zero => exact fun _ => .inr (NoneTo.zero g ls)
    | succ k ih =>
      intro hk
      rcases ih (by omega) with h | h
      · exact .inl h
      · have hl : ls[k]? = some ls[k] := List.getElem?_eq_getElem (by omega)
        by_cases he : rungE g ls[k] = 0
        · exact .inl ⟨k, _, hl, h, he⟩
        · exact .inr (h.succ hl he)
  exact key _ (Nat.le_refl _)
theorem climbOk_iff {g : Gm} {ls : List (List Nat)} : climbOk g ls = true ↔ g.ok = true ∧ 1 ≤ ls.length ∧ (ls.length : Int) ≤ g.r ∧ ∀ l ∈ ls, (l.length : Int) = g.raw := by
  simp [climbOk, Bool.and_eq_true]
theorem climbL_no {g : Gm} {ls : List (List Nat)} (h : climbOk g ls = false) : climbL g ls = noPage 2 := by
  unfold climbL
  rw [if_neg (by rw [h]; simp)]
theorem climbL_at {g : Gm} {ls : List (List Nat)} {k : Nat} {l : List Nat} (h : climbOk g ls = true) (hn : NoneTo g ls k) (hl : ls[k]? = some l) (he : rungE g l = 0) : climbL g ls = (rungP g l, k, 0) := by
  unfold climbL
  rw [if_pos h, climbFrom_at ls k 0 l hn hl he, Nat.zero_add]
theorem climbL_none {g : Gm} {ls : List (List Nat)} (h : climbOk g ls = true) (hn : NoneTo g ls ls.length) : climbL g ls = noPage 30 := by
  unfold climbL
  rw [if_pos h, climbFrom_none ls 0 hn]
/-- What comes of it: refused; no rung counts; one does. -/
theorem climbL_cases (g : Gm) (ls : List (List Nat)) :
    (climbOk g ls = false ∧ climbL g ls = noPage 2) ∨ (climbOk g ls = true ∧ NoneTo g ls ls.length ∧ climbL g ls = noPage 30) ∨
    ∃ k l, climbOk g ls = true ∧ NoneTo g ls k ∧ ls[k]? = some l ∧ k < ls.length ∧ rungE g l = 0 ∧ climbL g ls = (rungP g l, k, 0) := by
  cases h : climbOk g ls
  · exact .inl ⟨rfl, climbL_no h⟩
  · rcases climb_cases g ls with ⟨k, l, h1, h2, h3⟩ | h1
    · exact .inr (.inr ⟨k, l, rfl, h2, h1, (List.getElem?_eq_some_iff.1 h1).1, h3, climbL_at h h2 h1 h3⟩)
    · exact .inr (.inl ⟨rfl, h1, climbL_none h h1⟩)
/-- Rungs behind the one that counts make no difference. -/
theorem climb_take {g : Gm} {ls : List (List Nat)} {k n : Nat} {l : List Nat} (h : climbOk g ls = true) (hn : NoneTo g ls k) (hl : ls[k]? = some l) (he : rungE g l = 0) (hk : k < n) : climbL g (ls.take n) = (rungP g l, k, 0) := by
  obtain ⟨h1, h2, h3, h4⟩ := climbOk_iff.1 h
  have hkl := (List.getElem?_eq_some_iff.1 hl).1
  refine climbL_at (climbOk_iff.2 ⟨h1, by simp; omega, ?_, fun x hx => h4 x (List.mem_of_mem_take hx)⟩) (fun j x hj hx => ?_) (by rw [List.getElem?_take, if_pos hk]; exact hl) he
  · have : (ls.take n).length ≤ ls.length := by simp; omega
    omega
  · rw [List.getElem?_take, if_pos (by omega)] at hx
    exact hn j x hj hx
/-- The one that counts, ahead of all others. -/
theorem climb_ahead {g : Gm} {ls : List (List Nat)} {k : Nat} {l : List Nat} (h : climbOk g ls = true) (hl : ls[k]? = some l) (he : rungE g l = 0) : climbL g (l :: ls.drop 1) = (rungP g l, 0, 0) := by
  obtain ⟨h1, h2, h3, h4⟩ := climbOk_iff.1 h
  refine climbL_at (k := 0) (climbOk_iff.2 ⟨h1, by simp, ?_, fun x hx => ?_⟩) (NoneTo.zero _ _) rfl he
  · have : (l :: ls.drop 1).length = ls.length := by simp; omega
    rw [this]
    exact h3
  · rcases List.mem_cons.1 hx with rfl | hx
    · exact h4 _ (List.mem_of_getElem? hl)
    · exact h4 x (List.mem_of_mem_drop hx)
/-- The list with its i-th twice. -/
def twiceL (ls : List (List Nat)) (i : Nat) : List (List Nat) := ls.take (i + 1) ++ ls.drop i
theorem twiceL_length {ls : List (List Nat)} {i : Nat} (h : i < ls.length) : (twiceL ls i).length = ls.length + 1 := by simp [twiceL]; omega
theorem twiceL_get {ls : List (List Nat)} {i : Nat} (h : i < ls.length) (j : Nat) : (twiceL ls i)[j]? = if j ≤ i then ls[j]? else ls[j - 1]? := by
  unfold twiceL
  have hl : (ls.take (i + 1)).length = i + 1 := by simp; omega
  by_cases hj : j ≤ i
  · rw [if_pos hj, List.getElem?_append_left (by omega), List.getElem?_take, if_pos (by omega)]
  · rw [if_neg hj, List.getElem?_append_right (by omega), hl, List.getElem?_drop, show i + (j - (i + 1)) = j - 1 by omega]
theorem twiceL_ok {g : Gm} {ls : List (List Nat)} {i : Nat} (hi : i < ls.length) (hr : (ls.length : Int) < g.r) : climbOk g (twiceL ls i) = climbOk g ls := by
  have hm : ∀ x, x ∈ twiceL ls i ↔ x ∈ ls := by
    intro x
    unfold twiceL
    rw [List.mem_append]
    refine ⟨fun h => h.elim List.mem_of_mem_take List.mem_of_mem_drop, fun h => ?_⟩
    rw [← List.take_append_drop (i + 1) ls, List.mem_append] at h
    refine h.imp id fun h => ?_
    rw [show ls.drop (i + 1) = (ls.drop i).drop 1 by rw [List.drop_drop]] at h
    exact List.mem_of_mem_drop h
  have e := @climbOk_iff g (twiceL ls i)
  have e2 := @climbOk_iff g ls
  rw [twiceL_length hi] at e
  cases h1 : climbOk g ls
  · cases h2 : climbOk g (twiceL ls i)
    · rfl
    · obtain ⟨a, b, c, d⟩ := e.1 h2
      rw [e2.2 ⟨a, by omega, by omega, fun l hl => d l ((hm l).2 hl)⟩] at h1
      cases h1
  · obtain ⟨a, b, c, d⟩ := e2.1 h1
    exact e.2 ⟨a, by omega, by omega, fun l hl => d l ((hm l).1 hl)⟩
/-- A rung that is read again changes nothing but the place. -/
theorem climb_twice {g : Gm} {ls : List (List Nat)} {i : Nat} (hi : i < ls.length) (hr : (ls.length : Int) < g.r) :
    climbL g (twiceL ls i) = ((climbL g ls).1, (if i < (climbL g ls).2.1 then (climbL g ls).2.1 + 1 else (climbL g ls).2.1), (climbL g ls).2.2) := by
  have hok := twiceL_ok hi hr
  rcases climbL_cases g ls with ⟨h1, h2⟩ | ⟨h1, h2, h3⟩ | ⟨k, l, h1, h2, h3, h4, h5, h6⟩
  · rw [h2, climbL_no (hok.trans h1)]
    rfl
  · rw [h3, climbL_none (hok.trans h1) (fun j x hj hx => ?_)]
    · rfl
    · rw [twiceL_get hi] at hx
      split at hx
      · exact h2 j x (List.getElem?_eq_some_iff.1 hx).1 hx
      · exact h2 (j - 1) x (List.getElem?_eq_some_iff.1 hx).1 hx
  · rw [h6]
    simp only
    by_cases hik : i < k
    · rw [if_pos hik]
      refine climbL_at (hok.trans h1) (fun j x hj hx => ?_) (by rw [twiceL_get hi, if_neg (by omega)]; exact h3) h5
      rw [twiceL_get hi] at hx
      split at hx
      · exact h2 j x (by omega) hx
      · exact h2 (j - 1) x (by omega) hx
    · rw [if_neg hik]
      refine climbL_at (hok.trans h1) (fun j x hj hx => ?_) (by rw [twiceL_get hi, if_pos (by omega)]; exact h3) h5
      rw [twiceL_get hi, if_pos (by omega)] at hx
      exact h2 j x hj hx
end Go.Proofs.Ytgiihdeilkiphaa

/-
  Plain facts on rungs that are read one by one, and on worlds where all but some blocks are as they were.
-/
namespace Go.Proofs.Ytgiihdeilkiphaa
open Go.RowKit

/-- What comes of m reads, from the k-th on: the error of the read; bytes that are no raw page; the rung that counts; none. -/
def upL (g : Gm) (rd : Nat → List Nat × Int) : Nat → Nat → (List Nat × Tg × Nat) × Nat × Int
  | 0, _ => noPage 30
  | m + 1, k => if (rd k).2 ≠ 0 then noPage (rd k).2 else if ((rd k).1.length : Int) ≠ g.raw then noPage 2 else if rungE g (rd k).1 = 0 then (rungP g (rd k).1, k, 0) else upL g rd m (k + 1)
/-- How many reads had been asked for then. -/
def upN (g : Gm) (rd : Nat → List Nat × Int) : Nat → Nat → Nat
  | 0, k => k
  | m + 1, k => if (rd k).2 ≠ 0 then k + 1 else if ((rd k).1.length : Int) ≠ g.raw then k + 1 else if rungE g (rd k).1 = 0 then k + 1 else upN g rd m (k + 1)
theorem zz : ¬ ((0 : Int) ≠ 0) := fun h => h rfl
section
variable {g : Gm} {rd : Nat → List Nat × Int} {m k : Nat} {l : List Nat} {er : Int}
theorem up_err (h : rd k = (l, er)) (he : er ≠ 0) : upL g rd (m + 1) k = noPage er ∧ upN g rd (m + 1) k = k + 1 := by
  unfold upL upN
  rw [h]
  simp only
  rw [if_pos he, if_pos he]
  exact ⟨rfl, rfl⟩
theorem up_len (h : rd k = (l, 0)) (hl : (l.length : Int) ≠ g.raw) : upL g rd (m + 1) k = noPage 2 ∧ upN g rd (m + 1) k = k + 1 := by
  unfold upL upN
  rw [h]
  simp only
  rw [if_neg zz, if_neg zz, if_pos hl, if_pos hl]
  exact ⟨rfl, rfl⟩
theorem up_at (h : rd k = (l, 0)) (hl : (l.length : Int) = g.raw) (he : rungE g l = 0) : upL g rd (m + 1) k = (rungP g l, k, 0) ∧ upN g rd (m + 1) k = k + 1 := by
  unfold upL upN
  rw [h]
  simp only
  rw [if_neg zz, if_neg zz, if_neg (show ¬ (l.length : Int) ≠ g.raw from fun x => x hl), if_neg (show ¬ (l.length : Int) ≠ g.raw from fun x => x hl), if_pos he, if_pos he]
  exact ⟨rfl, rfl⟩
theorem up_next (h : rd k = (l, 0)) (hl : (l.length : Int) = g.raw) (he : rungE g l ≠ 0) : upL g rd (m + 1) k = upL g rd m (k + 1) ∧ upN g rd (m + 1) k = upN g rd m (k + 1) := by
  rw [upL, upN, h]
  simp only
  rw [if_neg zz, if_neg zz, if_neg (show ¬ (l.length : Int) ≠ g.raw from fun x => x hl), if_neg (show ¬ (l.length : Int) ≠ g.raw from fun x => x hl), if_neg he, if_neg he]
  exact ⟨rfl, rfl⟩
end
/-- Rungs that are there, read one by one. -/
theorem up_climb (g : Gm) (ls : List (List Nat)) (h : ∀ l ∈ ls, (l.length : Int) = g.raw) : ∀ m k, m + k = ls.length → upL g (fun j => (ls.getD j [], 0)) m k = climbFrom g k (ls.drop k)
  | 0, k, hk => by
    rw [List.drop_eq_nil_of_le (by omega)]
    rfl
  | m + 1, k, hk => by
    have hl : k < ls.length := by omega
    have e : ls.drop k = ls[k] :: ls.drop (k + 1) := List.drop_eq_getElem_cons hl
    have hr : (fun j => (ls.getD j [], (0 : Int))) k = (ls[k], 0) := by simp [List.getD, List.getElem?_eq_getElem hl]
    rw [e, climbFrom]
    by_cases he : rungE g ls[k] = 0
    · rw [if_pos he]
      exact (up_at hr (h _ (List.getElem_mem hl)) he).1
    · rw [if_neg he, (up_next hr (h _ (List.getElem_mem hl)) he).1]
      exact up_climb g ls h m (k + 1) (by omega)

/-- All blocks that were there are as they were, but those of Y. -/
structure Save (Y : Nat → Prop) (w w' : World) : Prop where
  os : w'.os = w.os
  tape : w'.tape = w.tape
  output : w'.output = w.output
  size : w.heap.size ≤ w'.heap.size
  block : ∀ k, k < w.heap.size → ¬ Y k → w'.heap[k]? = w.heap[k]?
section
variable {Y : Nat → Prop} {w w' w'' : World} {g : Nat} {u : TypeId} {cs : Array Value}
theorem Save.refl (Y : Nat → Prop) (w : World) : Save Y w w := ⟨rfl, rfl, rfl, Nat.le_refl _, fun _ _ _ => rfl⟩
theorem Save.trans (h : Save Y w w') (k : Save Y w' w'') : Save Y w w'' :=
  ⟨k.os.trans h.os, k.tape.trans h.tape, k.output.trans h.output, Nat.le_trans h.size k.size, fun i hi hy => (k.block i (Nat.lt_of_lt_of_le hi h.size) hy).trans (h.block i hi hy)⟩
theorem Save.of (h : Below w.heap.size w w') : Save Y w w' := ⟨h.os, h.tape, h.output, h.size, fun i hi _ => h.block i hi⟩
theorem Save.step (h : Save Y w w') (k : Below w'.heap.size w' w'') : Save Y w w'' := h.trans (Save.of k)
theorem Save.below (h : Save (fun _ => False) w w') : Below w.heap.size w w' := ⟨h.os, h.tape, h.output, h.size, fun i hi => h.block i hi (fun x => x)⟩
/-- Below a number from which on the blocks of Y lie, nothing has turned. -/
theorem Save.under {B : Nat} (h : Save Y w w') (hB : B ≤ w.heap.size) (hY : ∀ k, Y k → B ≤ k) : Below B w w' :=
  ⟨h.os, h.tape, h.output, h.size, fun i hi => h.block i (by omega) (fun x => by have := hY i x; omega)⟩
theorem CRow.save (h : CRow w g u cs) (hs : Save Y w w') (hy : ¬ Y g) : CRow w' g u cs := (hs.block g h.lt hy).trans h
theorem GBox.save {x : Gm} (h : GBox w g x) (hs : Save Y w w') (hy : ¬ Y g) : GBox w' g x := by
  obtain ⟨h0, h1, h2, h3, h4, h5, h6, h7⟩ := h
  have hc : ∀ j, w'.cell? ⟨g, j, none⟩ = w.cell? ⟨g, j, none⟩ := fun j => World.cell?_of_block (hs.block g h0 hy)
  exact ⟨Nat.lt_of_lt_of_le h0 hs.size, (hc _).trans h1, (hc _).trans h2, (hc _).trans h3, (hc _).trans h4, (hc _).trans h5, (hc _).trans h6, (hc _).trans h7⟩
theorem Save.setRow (h : Save Y w w') {r : Nat} (hr : w.heap.size ≤ r) (cs : Array Value) : Save Y w (w'.setRow r cs) := by
  have e := below_setRow (Below.refl w.heap.size w') hr cs
  exact ⟨e.os.trans h.os, e.tape.trans h.tape, e.output.trans h.output, Nat.le_trans h.size e.size, fun i hi hy => (e.block i hi).trans (h.block i hi hy)⟩
end

/-- It returns a page, a rung and an error. -/
def UpRet (V : (List Nat × Tg × Nat) × Nat × Int) (e : Ending) (w' : World) : Prop :=
  ∃ A c, e = .returned (.tuple #[.agg #[.slice A V.1.1.length c, .int .i64 V.1.2.1.k, .int .i64 V.1.2.1.s, .int .i64 V.1.2.1.q, .int .i64 V.1.2.1.e, .int .i64 (V.1.2.2 : Int)], .int .i64 (V.2.1 : Int), .int .i64 V.2.2]) ∧ R8 w' A V.1.1.length V.1.1
theorem UpRet.at_ {d : List Nat} {tk ts tq te er : Int} {s r n : Nat} {e : Ending} {w' : World} (h : UpRet ((d, ⟨tk, ts, tq, te⟩, s), r, er) e w') (hl : d.length = n) :
    ∃ A c, e = .returned (.tuple #[.agg #[.slice A n c, .int .i64 tk, .int .i64 ts, .int .i64 tq, .int .i64 te, .int .i64 (s : Int)], .int .i64 (r : Int), .int .i64 er]) ∧ Hid (R8 w' A n d) := by
  subst hl
  exact h
theorem UpRet.no (er : Int) (w : World) : UpRet (noPage er) (.returned (.tuple #[.agg #[.slice none 0 0, .int .i64 0, .int .i64 0, .int .i64 0, .int .i64 0, .int .i64 0], .int .i64 0, .int .i64 er])) w :=
  ⟨none, 0, rfl, Rd.nil_, fun x hx => by cases hx⟩
/-- What a read answers: bytes and an error. -/
def RdE (l : List Nat) (er : Int) (k : Nat) (Y : Nat → Prop) (I : Nat → World → Prop) (W : World) (e : Ending) (W' : World) : Prop :=
  ∃ A n c, e = .returned (.tuple #[.slice A n c, .int .i64 er]) ∧ (er = 0 → l.length = n ∧ R8 W' A n l ∧ n ≤ c) ∧ Save Y W W' ∧ I (k + 1) W'

/-- Of raw pages of a valid geometry no error is that of an argument. -/
theorem decG_two {g : Gm} {l : List Nat} (h : okG g l.length = true) (hb : ∀ x ∈ l, x < 256) : (decG g l).2.2.2 ≠ 2 := by
  obtain ⟨ho, hc, hk, hn⟩ := okG_len h
  have hbd := Gm.bounds_of ho
  unfold decG
  rw [if_pos h]
  generalize hC : g.c.toNat = C at *
  generalize hK : g.k.toNat = K at *
  have ht : (l.take (C * (K + 2))).length = C * (K + 2) := by rw [List.length_take]; omega
  have hV : ∀ d v, (decV d v).2.2 ≠ 2 := by
    intro d v
    unfold decV
    split
    · simp
    · split
      · simp
      · split <;> simp
  have hdl : ∀ p : List Nat, 3 ≤ p.length → p.length ≤ 514 → (decL p).2.2 ≠ 2 := by
    intro p h1 h2
    unfold decL
    rw [if_neg (by omega)]
    exact hV _ _
  have hall : (allL (piecesL (K + 2) (l.take (C * (K + 2))) C)).2.2 ≠ 2 := by
    have hf := piecesL_facts (K + 2) (l.take (C * (K + 2))) C C ht (Nat.le_refl _) (fun x hx => hb x (List.mem_of_mem_take hx))
    unfold allL
    split
    · rename_i p hp
      have := (hf p (List.mem_of_find?_eq_some hp)).1
      exact hdl p (by omega) (by omega)
    · simp
  have hlab : (decL ((l.drop (C * (K + 2))).take 30)).2.2 ≠ 2 := by
    refine hdl _ ?_ ?_ <;> (rw [List.length_take, List.length_drop]; omega)
  have htk : ∀ b, (takeT b).2 ≠ 2 := by
    intro b
    unfold takeT
    split
    · split <;> simp
    · unfold takeE
      rw [if_pos (by decide +kernel)]
      split
      · simp
      · split
        · simp
        · split <;> simp
  unfold decP decQ
  split
  · simp
  · split
    · simp only; omega
    · split
      · simp only; omega
      · split
        · simp
        · split
          · exact htk _
          · simp
end Go.Proofs.Ytgiihdeilkiphaa
