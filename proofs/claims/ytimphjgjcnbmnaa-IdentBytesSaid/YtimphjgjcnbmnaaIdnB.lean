/-
  Package ident: Take.
-/
import Derived.Test.YtimphjgjcnbmnaaIdnA
namespace Go.Proofs.Ytimphjgjcnbmnaa
open Go.RowKit
set_option maxRecDepth 100000

/-- A struct out of its block and a number beside it, as results. -/
theorem res_cell_tmp {P : Program} {fn : Func} {p u : Tmp} {ty : TypeId} (h : fn.results = #[.cell p ty, .tmp u]) (tmps : Array Value) (w : World) (g : Nat) (t : TypeId) (cs : Array Value) (fr : Nat × Nat) (d : TypeDesc)
    (hp : tmps.getD p undef = .pointer (some ⟨g, 0, none⟩)) (hg : w.heap[g]? = some (.cells cs t fr))
    (hu : P.underlying ty = some d) (hd : (match d with | .struct _ | .array _ _ => true | _ => false) = true) (hi : (P.info? ty).map (·.size) = some cs.size) :
    (results fn tmps).run P w = .ok (.tuple #[.agg cs, tmps.getD u undef]) w := by
  rw [results_cell_tmp h, hp]
  simp only [asAddr, Sem.run_pure, Result.andThen_ok, run_loadVar_row w g t ty cs fr d hg hu hd hi]
theorem slice_mid {P : Program} {t e : TypeId} {i0 : TypeInfo} (h1 : P.underlying t = some (.slice e)) (h2 : P.info? e = some i0) (h4 : P.cellsOf e = 1) (A : Option Addr) (n c i j : Nat) (hij : i ≤ j) (hj : j ≤ c) (W : World) :
    (Instr.slice t (.slice A n c) (some (.int .i64 (i : Int))) (some (.int .i64 (j : Int))) none).run P W = .ok (.slice (cutA A c i) (j - i) (c - i)) W := by
  have hb : (Instr.sliceBound (.int .i64 (j : Int)) c .sliceAcap).run P W = .ok j W := by
    rw [run_sliceBound W .i64 _ _ _ (by omega) (by omega)]; simp
  have hb2 : (Instr.sliceBound (.int .i64 (i : Int)) j .sliceB).run P W = .ok i W := by
    rw [run_sliceBound W .i64 _ _ _ (by omega) (by omega)]; simp
  simp [Instr.slice, run_underlying h1, Instr.sliceBounds, hb, hb2, run_sizeOf W h2, h4, cutA]
/-- The first k numbers of bytes, and zeros. -/
def nmC (l : List Nat) (k j : Nat) : Int := if j < k then nmB l j else 0
def nmA (l : List Nat) (k : Nat) : Array Value := #[.int .i64 (nmC l k 0), .int .i64 (nmC l k 1), .int .i64 (nmC l k 2), .int .i64 (nmC l k 3), .int .i64 (nmC l k 4), .int .i64 (nmC l k 5), .int .i64 (nmC l k 6)]
theorem nmA_zero (l : List Nat) : nmA l 0 = #[.int .i64 0, .int .i64 0, .int .i64 0, .int .i64 0, .int .i64 0, .int .i64 0, .int .i64 0] := rfl
theorem nmA_seven (l : List Nat) : nmA l 7 = #[.int .i64 (gOf l).p, .int .i64 (gOf l).b, .int .i64 (gOf l).s, .int .i64 (gOf l).c, .int .i64 (gOf l).k, .int .i64 (gOf l).r, .int .i64 (gOf l).q] := rfl
theorem nmA_set (l : List Nat) (k : Nat) (h : k < 7) : (nmA l k).setIfInBounds k (.int .i64 (nmB l k)) = nmA l (k + 1) := by
  obtain rfl | rfl | rfl | rfl | rfl | rfl | rfl : k = 0 ∨ k = 1 ∨ k = 2 ∨ k = 3 ∨ k = 4 ∨ k = 5 ∨ k = 6 := by omega
  all_goals rfl
theorem nmA_at (l : List Nat) (k : Nat) (h : k < 7) : ∃ x : Int, (nmA l k)[k]? = some (.int .i64 x) := by
  obtain rfl | rfl | rfl | rfl | rfl | rfl | rfl : k = 0 ∨ k = 1 ∨ k = 2 ∨ k = 3 ∨ k = 4 ∨ k = 5 ∨ k = 6 := by omega
  all_goals exact ⟨_, rfl⟩
/-- Two bytes of more. -/
theorem r8_pair {w : World} {A : Option Addr} {c : Nat} {l : List Nat} (h : R8 w A 14 l) (hc : 14 ≤ c) (k : Nat) (hk : k < 7) : R8 w (cutA A c (2 * k)) 2 [l.getD (2 * k) 0, l.getD (2 * k + 1) 0] := by
  have h1 := (h.cutA (2 * k) c (by omega) hc).take_ 2 (by omega)
  have hl := h.len
  have e : (l.drop (2 * k)).take 2 = [l.getD (2 * k) 0, l.getD (2 * k + 1) 0] := by
    rw [List.drop_eq_getElem_cons (show 2 * k < l.length by omega), List.drop_eq_getElem_cons (show 2 * k + 1 < l.length by omega), List.getD_eq_getElem?_getD, List.getElem?_eq_getElem (show 2 * k < l.length by omega), List.getD_eq_getElem?_getD, List.getElem?_eq_getElem (show 2 * k + 1 < l.length by omega)]
    rfl
  rw [← e]
  exact h1
set_option maxHeartbeats 4000000 in
theorem idTake_short (A : Option Addr) (n c : Nat) (l : List Nat) (w : World) (hr : R8 w A n l) (hn : n ≤ 1099511627776) (h : n ≠ 14) :
    Calls Try.prog 7 #[.slice A n c] w (Gives (.tuple #[(tkgG l).val, .int .i64 (tkgE l)]) w) := by
  have hl := hr.len
  have hE0 : tkgE l ≠ 0 := by
    unfold tkgE
    rw [hl]
    by_cases h1 : n < 14
    · rw [if_pos h1]; decide
    · rw [if_neg h1, if_pos (by omega)]; decide
  have hE : tkgG l = gZ := if_neg hE0
  rw [hE]
  have T0 := Lib.hid (CRow.new w #[.int .i64 0, .int .i64 0, .int .i64 0, .int .i64 0, .int .i64 0, .int .i64 0, .int .i64 0] 23)
  have B9 := Lib.hid (below_setRow (below_new w (.cells #[.int .i64 0, .int .i64 0, .int .i64 0, .int .i64 0, .int .i64 0, .int .i64 0, .int .i64 0] 23)) (Nat.le_refl _) #[.int .i64 0, .int .i64 0, .int .i64 0, .int .i64 0, .int .i64 0, .int .i64 0, .int .i64 0])
  have T9 := Lib.hid (T0.out.set #[.int .i64 0, .int .i64 0, .int .i64 0, .int .i64 0, .int .i64 0, .int .i64 0, .int .i64 0])
  rcases Nat.lt_or_gt_of_ne h with h1 | h1
  · have HE := Lib.hid (show tkgE l = 10 by unfold tkgE; rw [hl, if_pos h1])
    have d1 : decide ((n : Int) < 14) = true := decide_eq_true (by omega)
    clear hl hr h1 hE hE0 h
    go_enter Try.func7, Try.ntmps7
    go_wp2_with (with_reducible refine (?_ : wpList _ _ _ ({ dst := _, op := Op.store 23 _ _, type := _, pos := _, after := _, guard := _ } :: _) _ _); refine wpList_store_at rfl 23 _ _ rfl 7 size_geomA _ w.heap.size ?hx rfl _ T0.out.row rfl rfl (by simp [Value.oneCell']) ?_; (case hx => simp [Act.eval]))
    go_wp2
    refine bodyPost_ret (res_cell_tmp rfl _ _ w.heap.size 23 _ (0, 0) _ rfl T9.out.row Try.underlying23 rfl size_geomA) rfl ?_
    exact ⟨by rw [HE.out]; rfl, B9.out⟩
  · have HE := Lib.hid (show tkgE l = 13 by unfold tkgE; rw [hl, if_neg (by omega), if_pos h1])
    have d1 : decide ((n : Int) < 14) = false := decide_eq_false (by omega)
    have d2 : decide (14 < (n : Int)) = true := decide_eq_true (by omega)
    clear hl hr h1 hE hE0 h
    go_enter Try.func7, Try.ntmps7
    go_wp2_with (with_reducible refine (?_ : wpList _ _ _ ({ dst := _, op := Op.store 23 _ _, type := _, pos := _, after := _, guard := _ } :: _) _ _); refine wpList_store_at rfl 23 _ _ rfl 7 size_geomA _ w.heap.size ?hx rfl _ T0.out.row rfl rfl (by simp [Value.oneCell']) ?_; (case hx => simp [Act.eval]))
    go_wp2
    refine bodyPost_ret (res_cell_tmp rfl _ _ w.heap.size 23 _ (0, 0) _ rfl T9.out.row Try.underlying23 rfl size_geomA) rfl ?_
    exact ⟨by rw [HE.out]; rfl, B9.out⟩
set_option maxHeartbeats 8000000 in
theorem idTake_full (A : Option Addr) (c : Nat) (l : List Nat) (w : World) (hr : R8 w A 14 l) (hc : 14 ≤ c) :
    Calls Try.prog 7 #[.slice A 14 c] w (Gives (.tuple #[(tkgG l).val, .int .i64 (tkgE l)]) w) := by
  obtain ⟨ti, hti, hz0, hz1, hz2⟩ := info_parts info_u8
  have HI := Lib.hid hr
  have HEN := Lib.hid (tkgE_not hr.len)
  obtain ⟨W1, hW⟩ : ∃ W1, W1 = w.alloc (.cells #[.int .i64 0, .int .i64 0, .int .i64 0, .int .i64 0, .int .i64 0, .int .i64 0, .int .i64 0] 23) := ⟨_, rfl⟩
  have hsz : W1.heap.size = w.heap.size + 1 := by rw [hW]; simp
  have B0 := Lib.hid (show Below w.heap.size w W1 by rw [hW]; exact below_new w _)
  have T0 := Lib.hid (show CRow W1 w.heap.size 23 #[.int .i64 0, .int .i64 0, .int .i64 0, .int .i64 0, .int .i64 0, .int .i64 0, .int .i64 0] by rw [hW]; exact CRow.new w _ _)
  have N1 := Lib.hid (show CRow (W1.alloc (.cells #[.int .i64 0, .int .i64 0, .int .i64 0, .int .i64 0, .int .i64 0, .int .i64 0, .int .i64 0] 40)) (w.heap.size + 1) 40 #[.int .i64 0, .int .i64 0, .int .i64 0, .int .i64 0, .int .i64 0, .int .i64 0, .int .i64 0] by rw [← hsz]; exact CRow.new W1 _ _)
  have T1 := Lib.hid (T0.out.alloc (.cells #[.int .i64 0, .int .i64 0, .int .i64 0, .int .i64 0, .int .i64 0, .int .i64 0, .int .i64 0] 40))
  have B1 := Lib.hid (B0.out.alloc (w := W1) (by rw [hsz]; omega) (.cells #[.int .i64 0, .int .i64 0, .int .i64 0, .int .i64 0, .int .i64 0, .int .i64 0, .int .i64 0] 40))
  subst hW
  clear hr hsz B0 T0
  go_enter Try.func7, Try.ntmps7
  go_wp2
  go_loopw [17] (fun iv wr => ∃ k : Nat, k ≤ 7 ∧ iv = .int .i64 (k : Int) ∧ Hid (CRow wr (w.heap.size + 1) 40 (nmA l k)) ∧ Hid (CRow wr w.heap.size 23 #[.int .i64 0, .int .i64 0, .int .i64 0, .int .i64 0, .int .i64 0, .int .i64 0, .int .i64 0]) ∧ Hid (Below w.heap.size w wr)) (fun iv _ => 7 - (intOf iv).toNat)
  case atStart => exact ⟨0, Nat.zero_le _, rfl, N1, T1, B1⟩
  case round =>
    obtain ⟨k, hk, rfl, HN, HT, HB⟩ := hrel
    rename World => wr
    clear N1 T1 B1
    by_cases hlt : k < 7
    · have d1 : decide ((k : Int) < 7) = true := decide_eq_true (by omega)
      have hk0 : (0 : Int) ≤ (k : Int) := by omega
      have hk7 : (k : Int) < 7 := by omega
      have hsl := slice_mid (P := Try.prog) Try.underlying24 hti (by kernel_rfl) A 14 c (2 * k) (2 * k + 2) (by omega) (by omega)
      rw [show ((2 * k : Nat) : Int) = (k : Int) * 2 by omega, show ((2 * k + 2 : Nat) : Int) = ((k : Int) + 1) * 2 by omega, show 2 * k + 2 - 2 * k = 2 by omega] at hsl
      have HNU := Lib.hid (fun W (h : R8 W A 14 l) => Number_yes (cutA A c (2 * k)) (c - 2 * k) (l.getD (2 * k) 0) (l.getD (2 * k + 1) 0) W (r8_pair h hc k hlt))
      have HS := Lib.hid (nmA_set l k hlt)
      unfold nmB at HS
      generalize ((l.getD (2 * k) 0 + 256 * l.getD (2 * k + 1) 0 : Nat) : Int) = X at *
      obtain ⟨x, hx⟩ := nmA_at l k hlt
      have HX := Lib.hid hx
      obtain ⟨D, hD⟩ : ∃ D, D = cutA A c (2 * k) := ⟨_, rfl⟩
      rw [← hD] at hsl HNU
      clear hD hx
      go_wp2_with fail
      refine (HNU.out _ (HI.out.below HB.out)).mono ?_
      rintro _ w3 hq
      obtain ⟨rfl, h3⟩ := hq.at_
      have N3 := Lib.hid (HN.out.below h3.out)
      have T3 := Lib.hid (HT.out.below h3.out)
      have B3 := Lib.hid (below_step HB.out h3.out)
      have x0 := N3.out.cell_at k (.int .i64 x) HX.out
      have f0 := N3.out.frozen k
      clear h3 HN HT HB hsl HNU
      go_wp2
      go_roundw
      case rel => exact ⟨k + 1, by omega, by go_num, by rw [← HS.out]; exact N3.out.setCell k _, T3.out.setCell_other (p := ⟨w.heap.size + 1, k, none⟩) (by simp) _, B3.out.setCell (by simp) _⟩
      case measure => simp [intOf]; omega
    · obtain rfl : k = 7 := by omega
      rw [nmA_seven] at HN
      have HJ := Lib.hid (fun W => idJoin_any (gOf l) W)
      have hce : tkgE l = 0 ∧ (gOf l).ok = true ∨ tkgE l = 11 ∧ (gOf l).ok = false := HEN.out
      have HG := Lib.hid (show tkgG l = if tkgE l = 0 then gOf l else gZ from rfl)
      generalize tkgE l = E at *
      generalize tkgG l = G at *
      generalize gOf l = o at *
      have x0 := HN.out.cell_at 0 (.int .i64 o.p) rfl
      have x1 := HN.out.cell_at 1 (.int .i64 o.b) rfl
      have x2 := HN.out.cell_at 2 (.int .i64 o.s) rfl
      have x3 := HN.out.cell_at 3 (.int .i64 o.c) rfl
      have x4 := HN.out.cell_at 4 (.int .i64 o.k) rfl
      have x5 := HN.out.cell_at 5 (.int .i64 o.r) rfl
      have x6 := HN.out.cell_at 6 (.int .i64 o.q) rfl
      have HCE := Lib.hid hce
      clear HEN hce
      simp only [Gm.val] at HJ
      go_wp2_with fail
      refine (HJ.out _).mono ?_
      rintro _ w3 ⟨rfl, h3⟩
      have T3 := Lib.hid (HT.out.below h3)
      have B3 := Lib.hid (below_step HB.out h3)
      have G0 := Lib.hid (CRow.new w3 #[.int .i64 0, .int .i64 0, .int .i64 0, .int .i64 0, .int .i64 0, .int .i64 0, .int .i64 0] 23)
      have G1 := Lib.hid (G0.out.set #[.int .i64 o.p, .int .i64 o.b, .int .i64 o.s, .int .i64 o.c, .int .i64 o.k, .int .i64 o.r, .int .i64 o.q])
      have hs3 : w.heap.size < w3.heap.size := T3.out.lt
      have hs4 : w.heap.size ≤ w3.heap.size := B3.out.size
      have T4 := Lib.hid ((T3.out.alloc (.cells #[.int .i64 0, .int .i64 0, .int .i64 0, .int .i64 0, .int .i64 0, .int .i64 0, .int .i64 0] 23)).other (g' := w3.heap.size) (cs' := #[.int .i64 o.p, .int .i64 o.b, .int .i64 o.s, .int .i64 o.c, .int .i64 o.k, .int .i64 o.r, .int .i64 o.q]) (by omega))
      have B4 := Lib.hid (below_setRow (B3.out.alloc hs4 (.cells #[.int .i64 0, .int .i64 0, .int .i64 0, .int .i64 0, .int .i64 0, .int .i64 0, .int .i64 0] 23)) hs4 #[.int .i64 o.p, .int .i64 o.b, .int .i64 o.s, .int .i64 o.c, .int .i64 o.k, .int .i64 o.r, .int .i64 o.q])
      clear h3 x0 x1 x2 x3 x4 x5 x6 HN HT HB T3 B3 HJ
      have x0 := G1.out.cell_at 0 (.int .i64 o.p) rfl
      have x1 := G1.out.cell_at 1 (.int .i64 o.b) rfl
      have x2 := G1.out.cell_at 2 (.int .i64 o.s) rfl
      have x3 := G1.out.cell_at 3 (.int .i64 o.c) rfl
      have x4 := G1.out.cell_at 4 (.int .i64 o.k) rfl
      have x5 := G1.out.cell_at 5 (.int .i64 o.r) rfl
      have x6 := G1.out.cell_at 6 (.int .i64 o.q) rfl
      go_wp2_with (with_reducible refine (?_ : wpList _ _ _ ({ dst := _, op := Op.store 23 _ _, type := _, pos := _, after := _, guard := _ } :: _) _ _); refine wpList_store_at rfl 23 _ _ rfl 7 size_geomA _ w3.heap.size ?hx rfl _ G0.out.row rfl rfl (by simp [Value.oneCell']) ?_; (case hx => simp [Act.eval]))
      obtain ⟨w4, hw4⟩ : ∃ w4, w4 = ((w3.alloc (.cells #[.int .i64 0, .int .i64 0, .int .i64 0, .int .i64 0, .int .i64 0, .int .i64 0, .int .i64 0] 23)).setRow w3.heap.size #[.int .i64 o.p, .int .i64 o.b, .int .i64 o.s, .int .i64 o.c, .int .i64 o.k, .int .i64 o.r, .int .i64 o.q]) := ⟨_, rfl⟩
      rw [← hw4] at G1 T4 B4 ⊢
      clear hw4 x0 x1 x2 x3 x4 x5 x6
      clear G0
      rcases HCE.out with ⟨he, hok⟩ | ⟨he, hok⟩
      · have HC := Lib.hid (fun W => Check_yes o hok W)
        have HGE := Lib.hid (show G = o by rw [HG.out, if_pos he])
        have HEE := Lib.hid he
        simp only [Gm.val] at HC
        clear he hok HCE HG
        go_wp2_with fail
        refine (HC.out _).mono ?_
        rintro _ w5 ⟨rfl, h5⟩
        have T5 := Lib.hid (T4.out.below h5)
        have B5 := Lib.hid (below_step B4.out h5)
        have G5 := Lib.hid (G1.out.below h5)
        clear h5 T4 B4 G1 HC
        have x0 := G5.out.cell_at 0 (.int .i64 o.p) rfl
        have x1 := G5.out.cell_at 1 (.int .i64 o.b) rfl
        have x2 := G5.out.cell_at 2 (.int .i64 o.s) rfl
        have x3 := G5.out.cell_at 3 (.int .i64 o.c) rfl
        have x4 := G5.out.cell_at 4 (.int .i64 o.k) rfl
        have x5 := G5.out.cell_at 5 (.int .i64 o.r) rfl
        have x6 := G5.out.cell_at 6 (.int .i64 o.q) rfl
        go_wp2_with (with_reducible refine (?_ : wpList _ _ _ ({ dst := _, op := Op.store 23 _ _, type := _, pos := _, after := _, guard := _ } :: _) _ _); refine wpList_store_at rfl 23 _ _ rfl 7 size_geomA _ w.heap.size ?hx rfl _ T5.out.row rfl rfl (by simp [Value.oneCell']) ?_; (case hx => simp [Act.eval]))
        have B9 := Lib.hid (below_setRow B5.out (Nat.le_refl _) #[.int .i64 o.p, .int .i64 o.b, .int .i64 o.s, .int .i64 o.c, .int .i64 o.k, .int .i64 o.r, .int .i64 o.q])
        have T9 := Lib.hid (T5.out.set #[.int .i64 o.p, .int .i64 o.b, .int .i64 o.s, .int .i64 o.c, .int .i64 o.k, .int .i64 o.r, .int .i64 o.q])
        clear x0 x1 x2 x3 x4 x5 x6
        go_wp2
        refine bodyPost_ret (res_cell_tmp rfl _ _ w.heap.size 23 _ (0, 0) _ rfl T9.out.row Try.underlying23 rfl size_geomA) rfl ?_
        exact ⟨by rw [HGE.out, HEE.out]; rfl, B9.out⟩
      · have HC := Lib.hid (fun W => Check_no o hok W)
        have HGE := Lib.hid (show G = gZ by rw [HG.out, if_neg (by omega)])
        have HEE := Lib.hid he
        simp only [Gm.val] at HC
        clear he hok HCE HG
        go_wp2_with fail
        refine (HC.out _).mono ?_
        rintro _ w5 ⟨rfl, h5⟩
        have T5 := Lib.hid (T4.out.below h5)
        have B5 := Lib.hid (below_step B4.out h5)
        clear h5 T4 B4 G1 HC
        go_wp2_with (with_reducible refine (?_ : wpList _ _ _ ({ dst := _, op := Op.store 23 _ _, type := _, pos := _, after := _, guard := _ } :: _) _ _); refine wpList_store_at rfl 23 _ _ rfl 7 size_geomA _ w.heap.size ?hx rfl _ T5.out.row rfl rfl (by simp [Value.oneCell']) ?_; (case hx => simp [Act.eval]))
        have B9 := Lib.hid (below_setRow B5.out (Nat.le_refl _) #[.int .i64 0, .int .i64 0, .int .i64 0, .int .i64 0, .int .i64 0, .int .i64 0, .int .i64 0])
        have T9 := Lib.hid (T5.out.set #[.int .i64 0, .int .i64 0, .int .i64 0, .int .i64 0, .int .i64 0, .int .i64 0, .int .i64 0])
        go_wp2
        refine bodyPost_ret (res_cell_tmp rfl _ _ w.heap.size 23 _ (0, 0) _ rfl T9.out.row Try.underlying23 rfl size_geomA) rfl ?_
        exact ⟨by rw [HGE.out, HEE.out]; rfl, B9.out⟩
theorem idTake_any (A : Option Addr) (n c : Nat) (l : List Nat) (w : World) (hr : R8 w A n l) (hn : n ≤ 1099511627776) (hc : n ≤ c) :
    Calls Try.prog 7 #[.slice A n c] w (Gives (.tuple #[(tkgG l).val, .int .i64 (tkgE l)]) w) := by
  by_cases h : n = 14
  · subst h
    exact idTake_full A c l w hr hc
  · exact idTake_short A n c l w hr hn h
end Go.Proofs.Ytimphjgjcnbmnaa
