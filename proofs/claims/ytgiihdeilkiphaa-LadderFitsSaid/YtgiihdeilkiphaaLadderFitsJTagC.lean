/-
  Contracts of tag.Take and of the document's Take (package incunableref07), over the landed code.
-/
import Derived.Deep.RegionHeld3
import Derived.Test.YtgiihdeilkiphaaLadderFitsJ6
import Derived.Test.YtgiihdeilkiphaaLadderFitsJ5
namespace Go.Proofs.Ytgiihdeilkiphaa
open Go.RowKit
set_option maxRecDepth 100000

theorem size_tag : (Try.prog.info? 29).map (·.size) = some 4 := by kernel_rfl

set_option maxHeartbeats 1000000 in
theorem TagTake_no (B : Option Addr) (m d : Nat) (b : List Nat) (er : Int) (w : World) (hb : R8 w B m b) (hm : m ≤ 1099511627776) (hd : m ≤ d) (hE : takeE lay b = er) (h0 : er ≠ 0) :
    Calls Try.prog 38 #[.slice B m d] w (Gives (.tuple #[Tg.zero.val, .int .i64 er]) w) := by
  have hne : (er != 0) = true := by simpa using h0
  have HA := Lib.hid hb
  clear hb
  go_enter Try.func38, Try.ntmps38
  go_wp2_with fail
  refine (layout_any _).mono ?_
  rintro _ w1 ⟨A1, c1, rfl, hl, h1⟩
  have B1 := Lib.hid (below_step (below_new w _) h1)
  have T1 := Lib.hid ((TRow.new w Tg.zero 29).below h1)
  have HL := Lib.hid hl
  clear h1 hl
  go_wp2_with fail
  refine (Take_any _ _ 6 _ m _ lay b _ HL.out (HA.out.below B1.out) (by omega) hm hd).mono ?_
  intro _ w2 hp
  rw [takeA_no hE h0, hE] at hp
  obtain ⟨A2, c2, rfl, _, D2, _, _⟩ := hp.at_ rfl
  have B2 := Lib.hid (below_step B1.out D2.out)
  have T2 := Lib.hid (T1.out.below D2.out)
  clear hp D2 hE h0
  go_wp2_with (with_reducible refine (?_ : wpList _ _ _ ({ dst := _, op := Op.store 29 _ _, type := _, pos := _, after := _, guard := _ } :: _) _ _); refine wpList_store_at rfl 29 _ _ rfl 4 size_tag _ w.heap.size ?hx rfl _ T2.out.row ?hn ?ho ?h1 ?_; (case hx => simp [Act.eval]); (case hn => simp); (case ho => simp); (case h1 => simp [Value.oneCell']))
  have B3 := Lib.hid (below_setRow B2.out (Nat.le_refl _) #[.int .i64 0, .int .i64 0, .int .i64 0, .int .i64 0])
  have T3 := Lib.hid (T2.out.set Tg.zero)
  simp only [Tg.zero] at T3
  go_wp2
  refine bodyPost_ret (results_cell_tmp_row rfl _ _ w.heap.size 29 _ (0, 0) _ rfl T3.out Try.underlying29 rfl size_tag) rfl ?_
  exact ⟨rfl, B3.out⟩

set_option maxRecDepth 100000 in
set_option maxHeartbeats 2000000 in
theorem TagTake_six (B : Option Addr) (m d : Nat) (b : List Nat) (v0 v1 v2 v3 v4 v5 : Int) (w : World) (hb : R8 w B m b) (hm : m ≤ 1099511627776) (hd : m ≤ d) (hE : takeE lay b = 0) (hV : takeA lay b = [v0, v1, v2, v3, v4, v5]) :
    Calls Try.prog 38 #[.slice B m d] w (Gives (.tuple #[(takeT b).1.val, .int .i64 (takeT b).2]) w) := by
  have HA := Lib.hid hb
  clear hb
  go_enter Try.func38, Try.ntmps38
  go_wp2_with fail
  refine (layout_any _).mono ?_
  rintro _ w1 ⟨A1, c1, rfl, hl, h1⟩
  have B1 := Lib.hid (below_step (below_new w _) h1)
  have T1 := Lib.hid ((TRow.new w Tg.zero 29).below h1)
  have HL := Lib.hid hl
  clear h1 hl
  go_wp2_with fail
  refine (Take_any _ _ 6 _ m _ lay b _ HL.out (HA.out.below B1.out) (by omega) hm hd).mono ?_
  intro _ w2 hp
  rw [hV, hE] at hp
  obtain ⟨A2, c2, rfl, H2, D2, hc2, _⟩ := hp.at_ rfl
  simp only [List.length_cons, List.length_nil, Nat.zero_add, Nat.reduceAdd] at H2 hc2 ⊢
  have B2 := Lib.hid (below_step B1.out D2.out)
  have T2 := Lib.hid (T1.out.below D2.out)
  have HV := Lib.hid hV
  obtain ⟨b2, o2, rfl, hb2, e0, e1, e2, e3, e4, e5⟩ := H2.out.six_at
  clear hp D2 hE hV B1 T1 HL H2
  go_wp2
  refine wp_region_noPanic ?_
  refine wp_region_held_drew (S := fun w' => Below w2.heap.size w2 w') (by kernel_rfl) ((Below.refl _ _).drew) (fun C0 => ?_)
  refine wpAnyH_take (i := 0) (oi := { dst := some 17, op := Op.move (Operand.tmp 4), type := 78, pos := "tag.go:32", after := #[], guard := none }) (v := ?_) rfl (by kernel_rfl) (by kernel_rfl) (by kernel_rfl) (fun _ _ _ h => h) (Or.inl ⟨by rfl, ?_⟩) C0 ?_
  rotate_left
  · intro W' hSw
    clear hSw
    go_simp <;> with_reducible rfl
  try simp only [Act.put, List.setIfInBounds_toArray, List.set_cons_zero, List.set_cons_succ]
  refine wpAnyH_take (i := 1) (oi := { dst := some 18, op := Op.indexAddr 78 (Operand.tmp 17) (Operand.const (Value.int IntKind.i64 1)), type := 0, pos := "tag.go:32", after := #[{ on := 0, ground := Ground.data }], guard := none }) (v := ?_) rfl (by kernel_rfl) (by kernel_rfl) (by kernel_rfl) (fun _ _ _ h => h) (Or.inl ⟨by rfl, ?_⟩) C0 ?_
  rotate_left
  · intro W' hSw
    clear hSw
    go_simp <;> with_reducible rfl
  try simp only [Act.put, List.setIfInBounds_toArray, List.set_cons_zero, List.set_cons_succ]
  refine wpAnyH_take (i := 2) (oi := { dst := some 19, op := Op.load 3 (Operand.tmp 18), type := 3, pos := "tag.go:32", after := #[{ on := 1, ground := Ground.data }], guard := none }) (v := ?_) rfl (by kernel_rfl) (by kernel_rfl) (by kernel_rfl) (fun _ _ _ h => h) (Or.inl ⟨by rfl, ?_⟩) C0 ?_
  rotate_left
  · intro W' hSw
    have q1 := (hSw.cell (p := ⟨b2, o2 + 1, none⟩) hb2).trans e1
    have q2 := (hSw.cell (p := ⟨b2, o2 + 2, none⟩) hb2).trans e2
    have q3 := (hSw.cell (p := ⟨b2, o2 + 3, none⟩) hb2).trans e3
    have q4 := (hSw.cell (p := ⟨b2, o2 + 4, none⟩) hb2).trans e4
    clear hSw
    go_simp <;> with_reducible rfl
  try simp only [Act.put, List.setIfInBounds_toArray, List.set_cons_zero, List.set_cons_succ]
  refine wpAnyH_take (i := 3) (oi := { dst := some 20, op := Op.move (Operand.tmp 4), type := 78, pos := "tag.go:32", after := #[], guard := none }) (v := ?_) rfl (by kernel_rfl) (by kernel_rfl) (by kernel_rfl) (fun _ _ _ h => h) (Or.inl ⟨by rfl, ?_⟩) C0 ?_
  rotate_left
  · intro W' hSw
    clear hSw
    go_simp <;> with_reducible rfl
  try simp only [Act.put, List.setIfInBounds_toArray, List.set_cons_zero, List.set_cons_succ]
  refine wpAnyH_take (i := 4) (oi := { dst := some 21, op := Op.indexAddr 78 (Operand.tmp 20) (Operand.const (Value.int IntKind.i64 2)), type := 0, pos := "tag.go:32", after := #[{ on := 3, ground := Ground.data }], guard := none }) (v := ?_) rfl (by kernel_rfl) (by kernel_rfl) (by kernel_rfl) (fun _ _ _ h => h) (Or.inl ⟨by rfl, ?_⟩) C0 ?_
  rotate_left
  · intro W' hSw
    clear hSw
    go_simp <;> with_reducible rfl
  try simp only [Act.put, List.setIfInBounds_toArray, List.set_cons_zero, List.set_cons_succ]
  refine wpAnyH_take (i := 5) (oi := { dst := some 22, op := Op.load 3 (Operand.tmp 21), type := 3, pos := "tag.go:32", after := #[{ on := 4, ground := Ground.data }], guard := none }) (v := ?_) rfl (by kernel_rfl) (by kernel_rfl) (by kernel_rfl) (fun _ _ _ h => h) (Or.inl ⟨by rfl, ?_⟩) C0 ?_
  rotate_left
  · intro W' hSw
    have q1 := (hSw.cell (p := ⟨b2, o2 + 1, none⟩) hb2).trans e1
    have q2 := (hSw.cell (p := ⟨b2, o2 + 2, none⟩) hb2).trans e2
    have q3 := (hSw.cell (p := ⟨b2, o2 + 3, none⟩) hb2).trans e3
    have q4 := (hSw.cell (p := ⟨b2, o2 + 4, none⟩) hb2).trans e4
    clear hSw
    go_simp <;> with_reducible rfl
  try simp only [Act.put, List.setIfInBounds_toArray, List.set_cons_zero, List.set_cons_succ]
  refine wpAnyH_take (i := 6) (oi := { dst := some 23, op := Op.move (Operand.tmp 4), type := 78, pos := "tag.go:32", after := #[], guard := none }) (v := ?_) rfl (by kernel_rfl) (by kernel_rfl) (by kernel_rfl) (fun _ _ _ h => h) (Or.inl ⟨by rfl, ?_⟩) C0 ?_
  rotate_left
  · intro W' hSw
    clear hSw
    go_simp <;> with_reducible rfl
  try simp only [Act.put, List.setIfInBounds_toArray, List.set_cons_zero, List.set_cons_succ]
  refine wpAnyH_take (i := 7) (oi := { dst := some 24, op := Op.indexAddr 78 (Operand.tmp 23) (Operand.const (Value.int IntKind.i64 3)), type := 0, pos := "tag.go:32", after := #[{ on := 6, ground := Ground.data }], guard := none }) (v := ?_) rfl (by kernel_rfl) (by kernel_rfl) (by kernel_rfl) (fun _ _ _ h => h) (Or.inl ⟨by rfl, ?_⟩) C0 ?_
  rotate_left
  · intro W' hSw
    clear hSw
    go_simp <;> with_reducible rfl
  try simp only [Act.put, List.setIfInBounds_toArray, List.set_cons_zero, List.set_cons_succ]
  refine wpAnyH_take (i := 8) (oi := { dst := some 25, op := Op.load 3 (Operand.tmp 24), type := 3, pos := "tag.go:32", after := #[{ on := 7, ground := Ground.data }], guard := none }) (v := ?_) rfl (by kernel_rfl) (by kernel_rfl) (by kernel_rfl) (fun _ _ _ h => h) (Or.inl ⟨by rfl, ?_⟩) C0 ?_
  rotate_left
  · intro W' hSw
    have q1 := (hSw.cell (p := ⟨b2, o2 + 1, none⟩) hb2).trans e1
    have q2 := (hSw.cell (p := ⟨b2, o2 + 2, none⟩) hb2).trans e2
    have q3 := (hSw.cell (p := ⟨b2, o2 + 3, none⟩) hb2).trans e3
    have q4 := (hSw.cell (p := ⟨b2, o2 + 4, none⟩) hb2).trans e4
    clear hSw
    go_simp <;> with_reducible rfl
  try simp only [Act.put, List.setIfInBounds_toArray, List.set_cons_zero, List.set_cons_succ]
  refine wpAnyH_take (i := 9) (oi := { dst := some 26, op := Op.move (Operand.tmp 4), type := 78, pos := "tag.go:32", after := #[], guard := none }) (v := ?_) rfl (by kernel_rfl) (by kernel_rfl) (by kernel_rfl) (fun _ _ _ h => h) (Or.inl ⟨by rfl, ?_⟩) C0 ?_
  rotate_left
  · intro W' hSw
    clear hSw
    go_simp <;> with_reducible rfl
  try simp only [Act.put, List.setIfInBounds_toArray, List.set_cons_zero, List.set_cons_succ]
  refine wpAnyH_take (i := 10) (oi := { dst := some 27, op := Op.indexAddr 78 (Operand.tmp 26) (Operand.const (Value.int IntKind.i64 4)), type := 0, pos := "tag.go:32", after := #[{ on := 9, ground := Ground.data }], guard := none }) (v := ?_) rfl (by kernel_rfl) (by kernel_rfl) (by kernel_rfl) (fun _ _ _ h => h) (Or.inl ⟨by rfl, ?_⟩) C0 ?_
  rotate_left
  · intro W' hSw
    clear hSw
    go_simp <;> with_reducible rfl
  try simp only [Act.put, List.setIfInBounds_toArray, List.set_cons_zero, List.set_cons_succ]
  refine wpAnyH_take (i := 11) (oi := { dst := some 28, op := Op.load 3 (Operand.tmp 27), type := 3, pos := "tag.go:32", after := #[{ on := 10, ground := Ground.data }], guard := none }) (v := ?_) rfl (by kernel_rfl) (by kernel_rfl) (by kernel_rfl) (fun _ _ _ h => h) (Or.inl ⟨by rfl, ?_⟩) C0 ?_
  rotate_left
  · intro W' hSw
    have q1 := (hSw.cell (p := ⟨b2, o2 + 1, none⟩) hb2).trans e1
    have q2 := (hSw.cell (p := ⟨b2, o2 + 2, none⟩) hb2).trans e2
    have q3 := (hSw.cell (p := ⟨b2, o2 + 3, none⟩) hb2).trans e3
    have q4 := (hSw.cell (p := ⟨b2, o2 + 4, none⟩) hb2).trans e4
    clear hSw
    go_simp <;> with_reducible rfl
  try simp only [Act.put, List.setIfInBounds_toArray, List.set_cons_zero, List.set_cons_succ]
  refine wpAnyH_take (i := 12) (oi := { dst := some 29, op := Op.build 29 #[(0, Operand.tmp 19), (1, Operand.tmp 22), (2, Operand.tmp 25), (3, Operand.tmp 28)], type := 29, pos := "tag.go:32", after := #[{ on := 2, ground := Ground.data }, { on := 5, ground := Ground.data }, { on := 8, ground := Ground.data }, { on := 11, ground := Ground.data }], guard := none }) (v := ?_) rfl (by kernel_rfl) (by kernel_rfl) (by kernel_rfl) (fun _ _ _ h => h) (Or.inl ⟨by rfl, ?_⟩) C0 ?_
  rotate_left
  · intro W' hSw
    clear hSw
    go_simp <;> with_reducible rfl
  try simp only [Act.put, List.setIfInBounds_toArray, List.set_cons_zero, List.set_cons_succ]
  refine wpAnyH_ready (rs := [13]) (by kernel_rfl) (by simp) ?_
  refine AllReadyH.cons (o := { dst := some 6, op := Op.alloc 29, type := 0, pos := "tag.go:32", after := #[], guard := none }) rfl (fun K hK => ?_) AllReadyH.nil
  go_simp
  refine hK.out _ _ (C0.alloc C0.size _) (fun C1 => ?_)
  clear hK K
  try simp only [Act.put, List.setIfInBounds_toArray, List.set_cons_zero, List.set_cons_succ]
  refine wpAnyH_ready (rs := [14]) (by kernel_rfl) (by simp) ?_
  refine AllReadyH.cons (o := { dst := none, op := Op.store 29 (Operand.tmp 6) (Operand.tmp 29), type := 0, pos := "tag.go:32", after := #[{ on := 13, ground := Ground.data }, { on := 12, ground := Ground.data }, { on := 0, ground := Ground.phase }, { on := 1, ground := Ground.phase }, { on := 2, ground := Ground.phase }, { on := 3, ground := Ground.phase }, { on := 4, ground := Ground.phase }, { on := 5, ground := Ground.phase }, { on := 6, ground := Ground.phase }, { on := 7, ground := Ground.phase }, { on := 8, ground := Ground.phase }, { on := 9, ground := Ground.phase }, { on := 10, ground := Ground.phase }, { on := 11, ground := Ground.phase }, { on := 12, ground := Ground.phase }, { on := 13, ground := Ground.phase }], guard := none }) rfl (fun K hK => ?_) AllReadyH.nil
  go_simp
  refine hK.out _ _ (((Below.refl _ _).alloc (Nat.le_refl _) _).drew) (fun C2 => ?_)
  clear hK K C0 C1
  try simp only [Act.put, List.setIfInBounds_toArray, List.set_cons_zero, List.set_cons_succ]
  refine wpAnyH_done (by kernel_rfl) ?_ _
  refine NoPanic.normal ?_
  have hsz := T2.out.lt
  obtain ⟨W3, hW3⟩ : ∃ W3, (w2.alloc (.cells #[.int .i64 v1, .int .i64 v2, .int .i64 v3, .int .i64 v4] 29)).drew = W3 := ⟨_, rfl⟩
  have D3 : Below w2.heap.size w2 W3 := by rw [← hW3]; exact (below_new w2 _).drew
  have T6 := Lib.hid (show TRow W3 w2.heap.size 29 ⟨v1, v2, v3, v4⟩ by rw [← hW3]; exact (TRow.new w2 ⟨v1, v2, v3, v4⟩ _).drew)
  have T3 := Lib.hid (T2.out.below D3)
  have B3 := Lib.hid (below_step B2.out D3)
  have i0 := (D3.cell (p := ⟨b2, o2, none⟩) hb2).trans e0
  have i5 := (D3.cell (p := ⟨b2, o2 + 5, none⟩) hb2).trans e5
  rw [hW3]
  clear hW3 D3 C2 e0 e1 e2 e3 e4 e5 T2 B2
  by_cases h0 : v0 = 0
  · by_cases h5 : v5 = 0
    · subst h0 h5
      obtain ⟨_, x0, x1, x2, x3⟩ := T6.out.box
      simp only at x0 x1 x2 x3
      cases ho : Tg.ok ⟨v1, v2, v3, v4⟩
      · have HT := Lib.hid (takeT_bad HV.out (.inr (.inr ho)))
        have HO := Lib.hid ho
        clear ho
        go_wp2_with fail
        refine (May_is ⟨v1, v2, v3, v4⟩ _ HO.out _).mono ?_
        rintro _ w4 ⟨rfl, h4⟩
        have T4 := Lib.hid (T3.out.below h4)
        have B4 := Lib.hid (below_step B3.out h4)
        clear h4 x0 x1 x2 x3 i0 i5
        go_wp2_with (with_reducible refine (?_ : wpList _ _ _ ({ dst := _, op := Op.store 29 _ _, type := _, pos := _, after := _, guard := _ } :: _) _ _); refine wpList_store_at rfl 29 _ _ rfl 4 size_tag _ w.heap.size ?hx rfl _ T4.out.row ?hn ?ho ?h1 ?_; (case hx => simp [Act.eval]); (case hn => simp); (case ho => simp); (case h1 => simp [Value.oneCell']))
        have B9 := Lib.hid (below_setRow B4.out (Nat.le_refl _) #[.int .i64 0, .int .i64 0, .int .i64 0, .int .i64 0])
        have T9 := Lib.hid (T4.out.set Tg.zero)
        simp only [Tg.zero] at T9
        go_wp2
        refine bodyPost_ret (results_cell_tmp_row rfl _ _ w.heap.size 29 _ (0, 0) _ rfl T9.out Try.underlying29 rfl size_tag) rfl ?_
        rw [HT.out]
        exact ⟨rfl, B9.out⟩
      · have HT := Lib.hid (takeT_yes HV.out ho)
        have HO := Lib.hid ho
        clear ho
        go_wp2_with fail
        refine (May_is ⟨v1, v2, v3, v4⟩ _ HO.out _).mono ?_
        rintro _ w4 ⟨rfl, h4⟩
        have T4 := Lib.hid (T3.out.below h4)
        have B4 := Lib.hid (below_step B3.out h4)
        have T7 := Lib.hid (T6.out.below h4)
        clear h4 x0 x1 x2 x3 i0 i5
        obtain ⟨_, x0, x1, x2, x3⟩ := T7.out.box
        simp only at x0 x1 x2 x3
        go_wp2_with (with_reducible refine (?_ : wpList _ _ _ ({ dst := _, op := Op.store 29 _ _, type := _, pos := _, after := _, guard := _ } :: _) _ _); refine wpList_store_at rfl 29 _ _ rfl 4 size_tag _ w.heap.size ?hx rfl _ T4.out.row ?hn ?ho ?h1 ?_; (case hx => simp [Act.eval]); (case hn => simp); (case ho => simp); (case h1 => simp [Value.oneCell']))
        have B9 := Lib.hid (below_setRow B4.out (Nat.le_refl _) #[.int .i64 v1, .int .i64 v2, .int .i64 v3, .int .i64 v4])
        have T9 := Lib.hid (T4.out.set ⟨v1, v2, v3, v4⟩)
        go_wp2
        refine bodyPost_ret (results_cell_tmp_row rfl _ _ w.heap.size 29 _ (0, 0) _ rfl T9.out Try.underlying29 rfl size_tag) rfl ?_
        rw [HT.out]
        exact ⟨rfl, B9.out⟩
    · have HT := Lib.hid (takeT_bad HV.out (.inr (.inl h5)))
      have hne : (v5 != 0) = true := by simpa using h5
      subst h0
      clear h5
      go_wp2_with (with_reducible refine (?_ : wpList _ _ _ ({ dst := _, op := Op.store 29 _ _, type := _, pos := _, after := _, guard := _ } :: _) _ _); refine wpList_store_at rfl 29 _ _ rfl 4 size_tag _ w.heap.size ?hx rfl _ T3.out.row ?hn ?ho ?h1 ?_; (case hx => simp [Act.eval]); (case hn => simp); (case ho => simp); (case h1 => simp [Value.oneCell']))
      have B9 := Lib.hid (below_setRow B3.out (Nat.le_refl _) #[.int .i64 0, .int .i64 0, .int .i64 0, .int .i64 0])
      have T9 := Lib.hid (T3.out.set Tg.zero)
      simp only [Tg.zero] at T9
      go_wp2
      refine bodyPost_ret (results_cell_tmp_row rfl _ _ w.heap.size 29 _ (0, 0) _ rfl T9.out Try.underlying29 rfl size_tag) rfl ?_
      rw [HT.out]
      exact ⟨rfl, B9.out⟩
  · have HT := Lib.hid (takeT_bad HV.out (.inl h0))
    have hne : (v0 != 0) = true := by simpa using h0
    clear h0
    go_wp2_with (with_reducible refine (?_ : wpList _ _ _ ({ dst := _, op := Op.store 29 _ _, type := _, pos := _, after := _, guard := _ } :: _) _ _); refine wpList_store_at rfl 29 _ _ rfl 4 size_tag _ w.heap.size ?hx rfl _ T3.out.row ?hn ?ho ?h1 ?_; (case hx => simp [Act.eval]); (case hn => simp); (case ho => simp); (case h1 => simp [Value.oneCell']))
    have B9 := Lib.hid (below_setRow B3.out (Nat.le_refl _) #[.int .i64 0, .int .i64 0, .int .i64 0, .int .i64 0])
    have T9 := Lib.hid (T3.out.set Tg.zero)
    simp only [Tg.zero] at T9
    go_wp2
    refine bodyPost_ret (results_cell_tmp_row rfl _ _ w.heap.size 29 _ (0, 0) _ rfl T9.out Try.underlying29 rfl size_tag) rfl ?_
    rw [HT.out]
    exact ⟨rfl, B9.out⟩

theorem TagTake_any (B : Option Addr) (m d : Nat) (b : List Nat) (w : World) (hb : R8 w B m b) (hm : m ≤ 1099511627776) (hd : m ≤ d) :
    Calls Try.prog 38 #[.slice B m d] w (Gives (.tuple #[(takeT b).1.val, .int .i64 (takeT b).2]) w) := by
  by_cases h : takeE lay b = 0
  · obtain ⟨v0, v1, v2, v3, v4, v5, hV⟩ := take_six h
    exact TagTake_six B m d b v0 v1 v2 v3 v4 v5 w hb hm hd h hV
  · have h1 := TagTake_no B m d b _ w hb hm hd rfl h
    rw [takeT_no rfl h]
    exact h1
theorem TagTake_is (B : Option Addr) (m d : Nat) (b : List Nat) (t : Tg) (er : Int) (w : World) (hb : R8 w B m b) (hm : m ≤ 1099511627776) (hd : m ≤ d) (h : takeT b = (t, er)) :
    Calls Try.prog 38 #[.slice B m d] w (Gives (.tuple #[t.val, .int .i64 er]) w) := by
  have h1 := TagTake_any B m d b w hb hm hd
  rw [h] at h1
  exact h1

set_option maxHeartbeats 1000000 in
theorem RefTagTake_no (B : Option Addr) (m d : Nat) (b : List Nat) (er : Int) (w : World) (hb : R8 w B m b) (hm : m ≤ 1099511627776) (_hd : m ≤ d) (hE : takeE lay b = er) (h0 : er ≠ 0) :
    Calls Try.prog 32 #[.slice B m d] w (Gives (.tuple #[Tg.zero.val, .int .i64 er]) w) := by
  have hne : (er != 0) = true := by simpa using h0
  have HA := Lib.hid hb
  clear hb
  go_enter Try.func32, Try.ntmps32
  go_wp2_with fail
  refine (sizes_any _).mono ?_
  rintro _ w1 ⟨A1, c1, rfl, hl, h1⟩
  have B1 := Lib.hid (below_step (below_new w _) h1)
  have T1 := Lib.hid ((TRow.new w Tg.zero 29).below h1)
  have HL := Lib.hid hl
  clear h1 hl
  go_wp2_with fail
  refine (RefTake_any _ _ 6 _ m _ lay b _ HL.out (HA.out.below B1.out) (by omega) hm).mono ?_
  intro _ w2 hp
  rw [takeA_no hE h0, hE] at hp
  obtain ⟨A2, c2, rfl, _, D2, _, _⟩ := hp.at_ rfl
  have B2 := Lib.hid (below_step B1.out D2.out)
  have T2 := Lib.hid (T1.out.below D2.out)
  clear hp D2 hE h0
  go_wp2_with (with_reducible refine (?_ : wpList _ _ _ ({ dst := _, op := Op.store 29 _ _, type := _, pos := _, after := _, guard := _ } :: _) _ _); refine wpList_store_at rfl 29 _ _ rfl 4 size_tag _ w.heap.size ?hx rfl _ T2.out.row ?hn ?ho ?h1 ?_; (case hx => simp [Act.eval]); (case hn => simp); (case ho => simp); (case h1 => simp [Value.oneCell']))
  have B3 := Lib.hid (below_setRow B2.out (Nat.le_refl _) #[.int .i64 0, .int .i64 0, .int .i64 0, .int .i64 0])
  have T3 := Lib.hid (T2.out.set Tg.zero)
  simp only [Tg.zero] at T3
  go_wp2
  refine bodyPost_ret (results_cell_tmp_row rfl _ _ w.heap.size 29 _ (0, 0) _ rfl T3.out Try.underlying29 rfl size_tag) rfl ?_
  exact ⟨rfl, B3.out⟩

set_option maxRecDepth 100000 in
set_option maxHeartbeats 2000000 in
theorem RefTagTake_six (B : Option Addr) (m d : Nat) (b : List Nat) (v0 v1 v2 v3 v4 v5 : Int) (w : World) (hb : R8 w B m b) (hm : m ≤ 1099511627776) (_hd : m ≤ d) (hE : takeE lay b = 0) (hV : takeA lay b = [v0, v1, v2, v3, v4, v5]) :
    Calls Try.prog 32 #[.slice B m d] w (Gives (.tuple #[(takeT b).1.val, .int .i64 (takeT b).2]) w) := by
  have HA := Lib.hid hb
  clear hb
  go_enter Try.func32, Try.ntmps32
  go_wp2_with fail
  refine (sizes_any _).mono ?_
  rintro _ w1 ⟨A1, c1, rfl, hl, h1⟩
  have B1 := Lib.hid (below_step (below_new w _) h1)
  have T1 := Lib.hid ((TRow.new w Tg.zero 29).below h1)
  have HL := Lib.hid hl
  clear h1 hl
  go_wp2_with fail
  refine (RefTake_any _ _ 6 _ m _ lay b _ HL.out (HA.out.below B1.out) (by omega) hm).mono ?_
  intro _ w2 hp
  rw [hV, hE] at hp
  obtain ⟨A2, c2, rfl, H2, D2, hc2, _⟩ := hp.at_ rfl
  simp only [List.length_cons, List.length_nil, Nat.zero_add, Nat.reduceAdd] at H2 hc2 ⊢
  have B2 := Lib.hid (below_step B1.out D2.out)
  have T2 := Lib.hid (T1.out.below D2.out)
  have HV := Lib.hid hV
  obtain ⟨b2, o2, rfl, hb2, e0, e1, e2, e3, e4, e5⟩ := H2.out.six_at
  clear hp D2 hE hV B1 T1 HL H2
  go_wp2
  refine wp_region_noPanic ?_
  refine wp_region_held_drew (S := fun w' => Below w2.heap.size w2 w') (by kernel_rfl) ((Below.refl _ _).drew) (fun C0 => ?_)
  refine wpAnyH_take (i := 0) (oi := { dst := some 17, op := Op.move (Operand.tmp 4), type := 78, pos := "ref.go:30", after := #[], guard := none }) (v := ?_) rfl (by kernel_rfl) (by kernel_rfl) (by kernel_rfl) (fun _ _ _ h => h) (Or.inl ⟨by rfl, ?_⟩) C0 ?_
  rotate_left
  · intro W' hSw
    clear hSw
    go_simp <;> with_reducible rfl
  try simp only [Act.put, List.setIfInBounds_toArray, List.set_cons_zero, List.set_cons_succ]
  refine wpAnyH_take (i := 1) (oi := { dst := some 18, op := Op.indexAddr 78 (Operand.tmp 17) (Operand.const (Value.int IntKind.i64 1)), type := 0, pos := "ref.go:30", after := #[{ on := 0, ground := Ground.data }], guard := none }) (v := ?_) rfl (by kernel_rfl) (by kernel_rfl) (by kernel_rfl) (fun _ _ _ h => h) (Or.inl ⟨by rfl, ?_⟩) C0 ?_
  rotate_left
  · intro W' hSw
    clear hSw
    go_simp <;> with_reducible rfl
  try simp only [Act.put, List.setIfInBounds_toArray, List.set_cons_zero, List.set_cons_succ]
  refine wpAnyH_take (i := 2) (oi := { dst := some 19, op := Op.load 3 (Operand.tmp 18), type := 3, pos := "ref.go:30", after := #[{ on := 1, ground := Ground.data }], guard := none }) (v := ?_) rfl (by kernel_rfl) (by kernel_rfl) (by kernel_rfl) (fun _ _ _ h => h) (Or.inl ⟨by rfl, ?_⟩) C0 ?_
  rotate_left
  · intro W' hSw
    have q1 := (hSw.cell (p := ⟨b2, o2 + 1, none⟩) hb2).trans e1
    have q2 := (hSw.cell (p := ⟨b2, o2 + 2, none⟩) hb2).trans e2
    have q3 := (hSw.cell (p := ⟨b2, o2 + 3, none⟩) hb2).trans e3
    have q4 := (hSw.cell (p := ⟨b2, o2 + 4, none⟩) hb2).trans e4
    clear hSw
    go_simp <;> with_reducible rfl
  try simp only [Act.put, List.setIfInBounds_toArray, List.set_cons_zero, List.set_cons_succ]
  refine wpAnyH_take (i := 3) (oi := { dst := some 20, op := Op.move (Operand.tmp 4), type := 78, pos := "ref.go:30", after := #[], guard := none }) (v := ?_) rfl (by kernel_rfl) (by kernel_rfl) (by kernel_rfl) (fun _ _ _ h => h) (Or.inl ⟨by rfl, ?_⟩) C0 ?_
  rotate_left
  · intro W' hSw
    clear hSw
    go_simp <;> with_reducible rfl
  try simp only [Act.put, List.setIfInBounds_toArray, List.set_cons_zero, List.set_cons_succ]
  refine wpAnyH_take (i := 4) (oi := { dst := some 21, op := Op.indexAddr 78 (Operand.tmp 20) (Operand.const (Value.int IntKind.i64 2)), type := 0, pos := "ref.go:30", after := #[{ on := 3, ground := Ground.data }], guard := none }) (v := ?_) rfl (by kernel_rfl) (by kernel_rfl) (by kernel_rfl) (fun _ _ _ h => h) (Or.inl ⟨by rfl, ?_⟩) C0 ?_
  rotate_left
  · intro W' hSw
    clear hSw
    go_simp <;> with_reducible rfl
  try simp only [Act.put, List.setIfInBounds_toArray, List.set_cons_zero, List.set_cons_succ]
  refine wpAnyH_take (i := 5) (oi := { dst := some 22, op := Op.load 3 (Operand.tmp 21), type := 3, pos := "ref.go:30", after := #[{ on := 4, ground := Ground.data }], guard := none }) (v := ?_) rfl (by kernel_rfl) (by kernel_rfl) (by kernel_rfl) (fun _ _ _ h => h) (Or.inl ⟨by rfl, ?_⟩) C0 ?_
  rotate_left
  · intro W' hSw
    have q1 := (hSw.cell (p := ⟨b2, o2 + 1, none⟩) hb2).trans e1
    have q2 := (hSw.cell (p := ⟨b2, o2 + 2, none⟩) hb2).trans e2
    have q3 := (hSw.cell (p := ⟨b2, o2 + 3, none⟩) hb2).trans e3
    have q4 := (hSw.cell (p := ⟨b2, o2 + 4, none⟩) hb2).trans e4
    clear hSw
    go_simp <;> with_reducible rfl
  try simp only [Act.put, List.setIfInBounds_toArray, List.set_cons_zero, List.set_cons_succ]
  refine wpAnyH_take (i := 6) (oi := { dst := some 23, op := Op.move (Operand.tmp 4), type := 78, pos := "ref.go:30", after := #[], guard := none }) (v := ?_) rfl (by kernel_rfl) (by kernel_rfl) (by kernel_rfl) (fun _ _ _ h => h) (Or.inl ⟨by rfl, ?_⟩) C0 ?_
  rotate_left
  · intro W' hSw
    clear hSw
    go_simp <;> with_reducible rfl
  try simp only [Act.put, List.setIfInBounds_toArray, List.set_cons_zero, List.set_cons_succ]
  refine wpAnyH_take (i := 7) (oi := { dst := some 24, op := Op.indexAddr 78 (Operand.tmp 23) (Operand.const (Value.int IntKind.i64 3)), type := 0, pos := "ref.go:30", after := #[{ on := 6, ground := Ground.data }], guard := none }) (v := ?_) rfl (by kernel_rfl) (by kernel_rfl) (by kernel_rfl) (fun _ _ _ h => h) (Or.inl ⟨by rfl, ?_⟩) C0 ?_
  rotate_left
  · intro W' hSw
    clear hSw
    go_simp <;> with_reducible rfl
  try simp only [Act.put, List.setIfInBounds_toArray, List.set_cons_zero, List.set_cons_succ]
  refine wpAnyH_take (i := 8) (oi := { dst := some 25, op := Op.load 3 (Operand.tmp 24), type := 3, pos := "ref.go:30", after := #[{ on := 7, ground := Ground.data }], guard := none }) (v := ?_) rfl (by kernel_rfl) (by kernel_rfl) (by kernel_rfl) (fun _ _ _ h => h) (Or.inl ⟨by rfl, ?_⟩) C0 ?_
  rotate_left
  · intro W' hSw
    have q1 := (hSw.cell (p := ⟨b2, o2 + 1, none⟩) hb2).trans e1
    have q2 := (hSw.cell (p := ⟨b2, o2 + 2, none⟩) hb2).trans e2
    have q3 := (hSw.cell (p := ⟨b2, o2 + 3, none⟩) hb2).trans e3
    have q4 := (hSw.cell (p := ⟨b2, o2 + 4, none⟩) hb2).trans e4
    clear hSw
    go_simp <;> with_reducible rfl
  try simp only [Act.put, List.setIfInBounds_toArray, List.set_cons_zero, List.set_cons_succ]
  refine wpAnyH_take (i := 9) (oi := { dst := some 26, op := Op.move (Operand.tmp 4), type := 78, pos := "ref.go:30", after := #[], guard := none }) (v := ?_) rfl (by kernel_rfl) (by kernel_rfl) (by kernel_rfl) (fun _ _ _ h => h) (Or.inl ⟨by rfl, ?_⟩) C0 ?_
  rotate_left
  · intro W' hSw
    clear hSw
    go_simp <;> with_reducible rfl
  try simp only [Act.put, List.setIfInBounds_toArray, List.set_cons_zero, List.set_cons_succ]
  refine wpAnyH_take (i := 10) (oi := { dst := some 27, op := Op.indexAddr 78 (Operand.tmp 26) (Operand.const (Value.int IntKind.i64 4)), type := 0, pos := "ref.go:30", after := #[{ on := 9, ground := Ground.data }], guard := none }) (v := ?_) rfl (by kernel_rfl) (by kernel_rfl) (by kernel_rfl) (fun _ _ _ h => h) (Or.inl ⟨by rfl, ?_⟩) C0 ?_
  rotate_left
  · intro W' hSw
    clear hSw
    go_simp <;> with_reducible rfl
  try simp only [Act.put, List.setIfInBounds_toArray, List.set_cons_zero, List.set_cons_succ]
  refine wpAnyH_take (i := 11) (oi := { dst := some 28, op := Op.load 3 (Operand.tmp 27), type := 3, pos := "ref.go:30", after := #[{ on := 10, ground := Ground.data }], guard := none }) (v := ?_) rfl (by kernel_rfl) (by kernel_rfl) (by kernel_rfl) (fun _ _ _ h => h) (Or.inl ⟨by rfl, ?_⟩) C0 ?_
  rotate_left
  · intro W' hSw
    have q1 := (hSw.cell (p := ⟨b2, o2 + 1, none⟩) hb2).trans e1
    have q2 := (hSw.cell (p := ⟨b2, o2 + 2, none⟩) hb2).trans e2
    have q3 := (hSw.cell (p := ⟨b2, o2 + 3, none⟩) hb2).trans e3
    have q4 := (hSw.cell (p := ⟨b2, o2 + 4, none⟩) hb2).trans e4
    clear hSw
    go_simp <;> with_reducible rfl
  try simp only [Act.put, List.setIfInBounds_toArray, List.set_cons_zero, List.set_cons_succ]
  refine wpAnyH_take (i := 12) (oi := { dst := some 29, op := Op.build 29 #[(0, Operand.tmp 19), (1, Operand.tmp 22), (2, Operand.tmp 25), (3, Operand.tmp 28)], type := 29, pos := "ref.go:30", after := #[{ on := 2, ground := Ground.data }, { on := 5, ground := Ground.data }, { on := 8, ground := Ground.data }, { on := 11, ground := Ground.data }], guard := none }) (v := ?_) rfl (by kernel_rfl) (by kernel_rfl) (by kernel_rfl) (fun _ _ _ h => h) (Or.inl ⟨by rfl, ?_⟩) C0 ?_
  rotate_left
  · intro W' hSw
    clear hSw
    go_simp <;> with_reducible rfl
  try simp only [Act.put, List.setIfInBounds_toArray, List.set_cons_zero, List.set_cons_succ]
  refine wpAnyH_ready (rs := [13]) (by kernel_rfl) (by simp) ?_
  refine AllReadyH.cons (o := { dst := some 6, op := Op.alloc 29, type := 0, pos := "ref.go:30", after := #[], guard := none }) rfl (fun K hK => ?_) AllReadyH.nil
  go_simp
  refine hK.out _ _ (C0.alloc C0.size _) (fun C1 => ?_)
  clear hK K
  try simp only [Act.put, List.setIfInBounds_toArray, List.set_cons_zero, List.set_cons_succ]
  refine wpAnyH_ready (rs := [14]) (by kernel_rfl) (by simp) ?_
  refine AllReadyH.cons (o := { dst := none, op := Op.store 29 (Operand.tmp 6) (Operand.tmp 29), type := 0, pos := "ref.go:30", after := #[{ on := 13, ground := Ground.data }, { on := 12, ground := Ground.data }, { on := 0, ground := Ground.phase }, { on := 1, ground := Ground.phase }, { on := 2, ground := Ground.phase }, { on := 3, ground := Ground.phase }, { on := 4, ground := Ground.phase }, { on := 5, ground := Ground.phase }, { on := 6, ground := Ground.phase }, { on := 7, ground := Ground.phase }, { on := 8, ground := Ground.phase }, { on := 9, ground := Ground.phase }, { on := 10, ground := Ground.phase }, { on := 11, ground := Ground.phase }, { on := 12, ground := Ground.phase }, { on := 13, ground := Ground.phase }], guard := none }) rfl (fun K hK => ?_) AllReadyH.nil
  go_simp
  refine hK.out _ _ (((Below.refl _ _).alloc (Nat.le_refl _) _).drew) (fun C2 => ?_)
  clear hK K C0 C1
  try simp only [Act.put, List.setIfInBounds_toArray, List.set_cons_zero, List.set_cons_succ]
  refine wpAnyH_done (by kernel_rfl) ?_ _
  refine NoPanic.normal ?_
  have hsz := T2.out.lt
  obtain ⟨W3, hW3⟩ : ∃ W3, (w2.alloc (.cells #[.int .i64 v1, .int .i64 v2, .int .i64 v3, .int .i64 v4] 29)).drew = W3 := ⟨_, rfl⟩
  have D3 : Below w2.heap.size w2 W3 := by rw [← hW3]; exact (below_new w2 _).drew
  have T6 := Lib.hid (show TRow W3 w2.heap.size 29 ⟨v1, v2, v3, v4⟩ by rw [← hW3]; exact (TRow.new w2 ⟨v1, v2, v3, v4⟩ _).drew)
  have T3 := Lib.hid (T2.out.below D3)
  have B3 := Lib.hid (below_step B2.out D3)
  have i0 := (D3.cell (p := ⟨b2, o2, none⟩) hb2).trans e0
  have i5 := (D3.cell (p := ⟨b2, o2 + 5, none⟩) hb2).trans e5
  rw [hW3]
  clear hW3 D3 C2 e0 e1 e2 e3 e4 e5 T2 B2
  by_cases h0 : v0 = 0
  · by_cases h5 : v5 = 0
    · subst h0 h5
      obtain ⟨_, x0, x1, x2, x3⟩ := T6.out.box
      simp only at x0 x1 x2 x3
      cases ho : Tg.ok ⟨v1, v2, v3, v4⟩
      · have HT := Lib.hid (takeT_bad HV.out (.inr (.inr ho)))
        have HO := Lib.hid ho
        clear ho
        go_wp2_with fail
        refine (RefMay_is ⟨v1, v2, v3, v4⟩ _ HO.out _).mono ?_
        rintro _ w4 ⟨rfl, h4⟩
        have T4 := Lib.hid (T3.out.below h4)
        have B4 := Lib.hid (below_step B3.out h4)
        clear h4 x0 x1 x2 x3 i0 i5
        go_wp2_with (with_reducible refine (?_ : wpList _ _ _ ({ dst := _, op := Op.store 29 _ _, type := _, pos := _, after := _, guard := _ } :: _) _ _); refine wpList_store_at rfl 29 _ _ rfl 4 size_tag _ w.heap.size ?hx rfl _ T4.out.row ?hn ?ho ?h1 ?_; (case hx => simp [Act.eval]); (case hn => simp); (case ho => simp); (case h1 => simp [Value.oneCell']))
        have B9 := Lib.hid (below_setRow B4.out (Nat.le_refl _) #[.int .i64 0, .int .i64 0, .int .i64 0, .int .i64 0])
        have T9 := Lib.hid (T4.out.set Tg.zero)
        simp only [Tg.zero] at T9
        go_wp2
        refine bodyPost_ret (results_cell_tmp_row rfl _ _ w.heap.size 29 _ (0, 0) _ rfl T9.out Try.underlying29 rfl size_tag) rfl ?_
        rw [HT.out]
        exact ⟨rfl, B9.out⟩
      · have HT := Lib.hid (takeT_yes HV.out ho)
        have HO := Lib.hid ho
        clear ho
        go_wp2_with fail
        refine (RefMay_is ⟨v1, v2, v3, v4⟩ _ HO.out _).mono ?_
        rintro _ w4 ⟨rfl, h4⟩
        have T4 := Lib.hid (T3.out.below h4)
        have B4 := Lib.hid (below_step B3.out h4)
        have T7 := Lib.hid (T6.out.below h4)
        clear h4 x0 x1 x2 x3 i0 i5
        obtain ⟨_, x0, x1, x2, x3⟩ := T7.out.box
        simp only at x0 x1 x2 x3
        go_wp2_with (with_reducible refine (?_ : wpList _ _ _ ({ dst := _, op := Op.store 29 _ _, type := _, pos := _, after := _, guard := _ } :: _) _ _); refine wpList_store_at rfl 29 _ _ rfl 4 size_tag _ w.heap.size ?hx rfl _ T4.out.row ?hn ?ho ?h1 ?_; (case hx => simp [Act.eval]); (case hn => simp); (case ho => simp); (case h1 => simp [Value.oneCell']))
        have B9 := Lib.hid (below_setRow B4.out (Nat.le_refl _) #[.int .i64 v1, .int .i64 v2, .int .i64 v3, .int .i64 v4])
        have T9 := Lib.hid (T4.out.set ⟨v1, v2, v3, v4⟩)
        go_wp2
        refine bodyPost_ret (results_cell_tmp_row rfl _ _ w.heap.size 29 _ (0, 0) _ rfl T9.out Try.underlying29 rfl size_tag) rfl ?_
        rw [HT.out]
        exact ⟨rfl, B9.out⟩
    · have HT := Lib.hid (takeT_bad HV.out (.inr (.inl h5)))
      have hne : (v5 != 0) = true := by simpa using h5
      subst h0
      clear h5
      go_wp2_with (with_reducible refine (?_ : wpList _ _ _ ({ dst := _, op := Op.store 29 _ _, type := _, pos := _, after := _, guard := _ } :: _) _ _); refine wpList_store_at rfl 29 _ _ rfl 4 size_tag _ w.heap.size ?hx rfl _ T3.out.row ?hn ?ho ?h1 ?_; (case hx => simp [Act.eval]); (case hn => simp); (case ho => simp); (case h1 => simp [Value.oneCell']))
      have B9 := Lib.hid (below_setRow B3.out (Nat.le_refl _) #[.int .i64 0, .int .i64 0, .int .i64 0, .int .i64 0])
      have T9 := Lib.hid (T3.out.set Tg.zero)
      simp only [Tg.zero] at T9
      go_wp2
      refine bodyPost_ret (results_cell_tmp_row rfl _ _ w.heap.size 29 _ (0, 0) _ rfl T9.out Try.underlying29 rfl size_tag) rfl ?_
      rw [HT.out]
      exact ⟨rfl, B9.out⟩
  · have HT := Lib.hid (takeT_bad HV.out (.inl h0))
    have hne : (v0 != 0) = true := by simpa using h0
    clear h0
    go_wp2_with (with_reducible refine (?_ : wpList _ _ _ ({ dst := _, op := Op.store 29 _ _, type := _, pos := _, after := _, guard := _ } :: _) _ _); refine wpList_store_at rfl 29 _ _ rfl 4 size_tag _ w.heap.size ?hx rfl _ T3.out.row ?hn ?ho ?h1 ?_; (case hx => simp [Act.eval]); (case hn => simp); (case ho => simp); (case h1 => simp [Value.oneCell']))
    have B9 := Lib.hid (below_setRow B3.out (Nat.le_refl _) #[.int .i64 0, .int .i64 0, .int .i64 0, .int .i64 0])
    have T9 := Lib.hid (T3.out.set Tg.zero)
    simp only [Tg.zero] at T9
    go_wp2
    refine bodyPost_ret (results_cell_tmp_row rfl _ _ w.heap.size 29 _ (0, 0) _ rfl T9.out Try.underlying29 rfl size_tag) rfl ?_
    rw [HT.out]
    exact ⟨rfl, B9.out⟩

theorem RefTagTake_any (B : Option Addr) (m d : Nat) (b : List Nat) (w : World) (hb : R8 w B m b) (hm : m ≤ 1099511627776) (hd : m ≤ d) :
    Calls Try.prog 32 #[.slice B m d] w (Gives (.tuple #[(takeT b).1.val, .int .i64 (takeT b).2]) w) := by
  by_cases h : takeE lay b = 0
  · obtain ⟨v0, v1, v2, v3, v4, v5, hV⟩ := take_six h
    exact RefTagTake_six B m d b v0 v1 v2 v3 v4 v5 w hb hm hd h hV
  · have h1 := RefTagTake_no B m d b _ w hb hm hd rfl h
    rw [takeT_no rfl h]
    exact h1
theorem RefTagTake_is (B : Option Addr) (m d : Nat) (b : List Nat) (t : Tg) (er : Int) (w : World) (hb : R8 w B m b) (hm : m ≤ 1099511627776) (hd : m ≤ d) (h : takeT b = (t, er)) :
    Calls Try.prog 32 #[.slice B m d] w (Gives (.tuple #[t.val, .int .i64 er]) w) := by
  have h1 := RefTagTake_any B m d b w hb hm hd
  rw [h] at h1
  exact h1
end Go.Proofs.Ytgiihdeilkiphaa
