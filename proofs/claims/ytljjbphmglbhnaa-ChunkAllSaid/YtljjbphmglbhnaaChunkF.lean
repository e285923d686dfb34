/-
  Contract of chunk.Split, over the landed code.
-/
import Derived.Test.YtljjbphmglbhnaaChunkE
namespace Go.Proofs.Ytljjbphmglbhnaa
open Go.RowKit Go.Shelf

attribute [local go_sem] Oper.semAt_some

theorem info_sl : (Try.prog.info? 22).map (fun i => (i.zero, i.size, i.bytes)) = some (some (.slice none 0 0), 1, 24) := by kernel_rfl

/-- The values vs are slices of the bytes ps, each in memory of its own, from block B on. -/
def Rows (W : World) (B : Nat) (vs : List Value) (ps : List (List Nat)) : Prop :=
  vs.length = ps.length ∧ ∀ (i : Nat) (p : List Nat), ps[i]? = some p → ∃ v, vs[i]? = some v ∧ W.ownsRow B 5 1 v p.length (U8 p)
theorem Rows.nil_ (W : World) (B : Nat) : Rows W B [] [] := ⟨rfl, fun i p h => by simp at h⟩
theorem Rows.below {W W1 : World} {B : Nat} {vs : List Value} {ps : List (List Nat)} (h : Rows W B vs ps) (hb : Below W.heap.size W W1) : Rows W1 B vs ps :=
  ⟨h.1, fun i p hi => by obtain ⟨v, h1, h2⟩ := h.2 i p hi; exact ⟨v, h1, own_below h2 hb⟩⟩
theorem own_apart {W : World} {B : Nat} {e : TypeId} {v : Value} {k : Nat} {xs : List Value} (h : W.ownsRow B e 1 v k xs) {j : Nat} {o : Obj} (hj : W.heap[j]? = some o) (ho : ∀ cur, o ≠ .cells cur e (0, 0)) : v.ownBlock ≠ some j := by
  intro hv
  rcases h.2 with ⟨rfl, _⟩ | ⟨g, cap, cur, rfl, _, hgb, _⟩
  · simp [Value.ownBlock] at hv
  · obtain rfl : g = j := by simpa [Value.ownBlock] using hv
    rw [hgb] at hj
    injection hj with hj
    exact ho cur hj.symm
theorem Rows.kept {W W1 : World} {B : Nat} {vs : List Value} {ps : List (List Nat)} {row : Option Nat} (h : Rows W B vs ps) (hg : W.grownBy W1 row) (hr : ∀ j, row = some j → ∃ o, W.heap[j]? = some o ∧ ∀ cur, o ≠ .cells cur 5 (0, 0)) : Rows W1 B vs ps :=
  ⟨h.1, fun i p hi => by
    obtain ⟨v, h1, h2⟩ := h.2 i p hi
    refine ⟨v, h1, h2.kept hg ?_⟩
    cases hb : v.ownBlock with
    | none => exact .inl rfl
    | some j =>
      refine .inr fun e => ?_
      obtain ⟨o, ho1, ho2⟩ := hr j e.symm
      exact own_apart h2 ho1 ho2 hb⟩
theorem Rows.snoc {W : World} {B : Nat} {vs : List Value} {ps : List (List Nat)} {v : Value} {p : List Nat} (h : Rows W B vs ps) (hv : W.ownsRow B 5 1 v p.length (U8 p)) : Rows W B (vs ++ [v]) (ps ++ [p]) := by
  refine ⟨by simp [h.1], fun i q hi => ?_⟩
  rcases Nat.lt_trichotomy i ps.length with h1 | h1 | h1
  · rw [List.getElem?_append_left h1] at hi
    obtain ⟨u, h2, h3⟩ := h.2 i q hi
    exact ⟨u, by rw [List.getElem?_append_left (by rw [h.1]; exact h1)]; exact h2, h3⟩
  · subst h1
    have e : (ps ++ [p])[ps.length]? = some p := by simp
    rw [e] at hi
    injection hi with hi
    subst hi
    exact ⟨v, by rw [← h.1]; simp, hv⟩
  · rw [List.getElem?_eq_none (by simp; omega)] at hi
    cases hi
theorem own_base {W : World} {B B' : Nat} {e : TypeId} {v : Value} {k : Nat} {xs : List Value} (h : W.ownsRow B e 1 v k xs) (hb : B' ≤ B) : W.ownsRow B' e 1 v k xs := by
  refine ⟨h.1, ?_⟩
  rcases h.2 with h0 | ⟨g, cap, cur, hv, hbase, hr⟩
  · exact .inl h0
  · exact .inr ⟨g, cap, cur, hv, by omega, hr⟩
/-- append, as a step of a region that draws its order, inside a fence. -/
theorem stepIn_append {F : Fence} {n : Nat} {P : Program} {w w' : World} {ops : Array Oper} {o : Oper} {a : Act} {K : Act → World → Prop} {Q : Exit → Act → World → Prop} {E : Prop} (hgd : o.guard = none) (s x : Operand) (t : TypeId)
    (ho : o.op = .call { callee := .builtin .append, args := #[s, x], argTypes := #[t, t] }) (u v : Value) {v' : Value} (hs : a.eval s = u) (hx : a.eval x = v) (hrun : (Builtin.append_ #[t, t] o.type #[u, v]).run P w = .ok v' w') (h : K (a.put o.dst v') w') :
    if Region.wanted o (yielded ops a.tmps) = true then Oper.wpIn F n P o a w K Q else E := by
  have hw : Region.wanted o (yielded ops a.tmps) = true := by simp [Region.wanted, hgd]
  rw [if_pos hw]
  unfold Oper.wpIn
  refine ⟨by simp [Oper.about, ho, resolve, Target.leads, Sem.run_pure], ?_⟩
  rw [Oper.semAt_plain F _ _ (by rw [ho]; intro c hc'; cases hc')]
  simp [execOp, ho, resolve, invoke, builtin, hs, hx, hrun, Result.andThen]
  exact h
/-- One round of Split: the piece's copy put behind the list. -/
theorem split_round {w W w1 : World} {B jn cv c1 len : Nat} {Av A1 : Option Addr} {vs : List Value} {ps : List (List Nat)} {p : List Nat}
    (x0 : Boxed W B 35 (.slice Av jn cv)) (x4 : Boxed W (B + 1 + 1) 3 (.int .i64 (len : Int))) (row : W.ownsRow B 22 1 (.slice Av jn cv) jn vs) (rows : Rows W B vs ps) (hB : Below B w W) (hBw : B ≤ w.heap.size)
    (hown : w1.ownsRow W.heap.size 5 1 (.slice A1 p.length c1) p.length (U8 p)) (hb : Below W.heap.size W w1) (hj : jn ≤ 1099511627776) :
    ∃ A3 c3 w2, (Builtin.append_ #[35, 35] 35 #[.slice Av jn cv, .slice (some ⟨w1.heap.size, 0, none⟩) 1 1]).run Try.prog (w1.alloc (.cells #[.slice A1 p.length c1] 22)) = .ok (.slice A3 (jn + 1) c3) w2 ∧
      w1.cell? ⟨B, 0, none⟩ = some (.slice Av jn cv) ∧ (w1.alloc (.cells #[.slice A1 p.length c1] 22)).cell? ⟨B, 0, none⟩ = some (.slice Av jn cv) ∧ w2.cell? ⟨B, 0, none⟩ = some (.slice Av jn cv) ∧ w2.frozen? ⟨B, 0, none⟩ = false ∧
      Hid (KeepsOthers W (w2.setCell ⟨B, 0, none⟩ (.slice A3 (jn + 1) c3)) ∧ Boxed (w2.setCell ⟨B, 0, none⟩ (.slice A3 (jn + 1) c3)) (B + 1 + 1) 3 (.int .i64 (len : Int)) ∧ Boxed (w2.setCell ⟨B, 0, none⟩ (.slice A3 (jn + 1) c3)) B 35 (.slice A3 (jn + 1) c3) ∧
        (w2.setCell ⟨B, 0, none⟩ (.slice A3 (jn + 1) c3)).ownsRow B 22 1 (.slice A3 (jn + 1) c3) (jn + 1) (vs ++ [.slice A1 p.length c1]) ∧ Rows (w2.setCell ⟨B, 0, none⟩ (.slice A3 (jn + 1) c3)) B (vs ++ [.slice A1 p.length c1]) (ps ++ [p]) ∧ Below B w (w2.setCell ⟨B, 0, none⟩ (.slice A3 (jn + 1) c3))) := by
  obtain ⟨i0, ti, tz0, tz1, tz2⟩ := info_parts info_sl
  have hBW : B ≤ W.heap.size := Nat.le_trans hBw hB.size
  have hBw1 : B ≤ w1.heap.size := Nat.le_trans hBW hb.size
  have y0 := (Boxed.below x0 hb).alloc (.cells #[.slice A1 p.length c1] 22)
  have y4 := (Boxed.below x4 hb).alloc (.cells #[.slice A1 p.length c1] 22)
  have row1 := (own_below row hb).alloc (.cells #[.slice A1 p.length c1] 22)
  have rows1 : Rows (w1.alloc (.cells #[.slice A1 p.length c1] 22)) B (vs ++ [.slice A1 p.length c1]) (ps ++ [p]) := (rows.below (hb.alloc hb.size _)).snoc ((own_base hown hBW).alloc _)
  have hB1 : Below B w (w1.alloc (.cells #[.slice A1 p.length c1] 22)) := (hB.trans (hb.mono hBW)).alloc hBw1 _
  have hk1 : KeepsOthers W (w1.alloc (.cells #[.slice A1 p.length c1] 22)) := (keeps_below hb).trans (KeepsOthers.alloc _ _)
  obtain ⟨v', w2, hrun, hown2, hg2, _⟩ := run_append_own (P := Try.prog) (w1.alloc (.cells #[.slice A1 p.length c1] 22)) B 35 35 22 i0 (.slice none 0 0) 1 24 Try.underlying35 ti tz0 tz1 tz2 rfl (by decide) (.slice Av jn cv) jn vs row1 ⟨w1.heap.size, 0, none⟩ 1 1 [.slice A1 p.length c1] rfl (one_new _ _ _) (by intro u hu; simp at hu; subst hu; rfl) (by unfold maxLen; omega) (by omega) (by simp; omega)
  obtain ⟨A3, c3, rfl⟩ := own_form hown2
  have z0 := y0.kept hg2 (y0.not_row (by decide) row1)
  have z4 := y4.kept hg2 (y4.not_row (by decide) row1)
  have zrows : Rows w2 B (vs ++ [.slice A1 p.length c1]) (ps ++ [p]) := rows1.kept hg2 (fun j hj => by
    rcases row1.2 with ⟨h1, _⟩ | ⟨g, cap, cur, h1, _, hgb, _⟩
    · rw [h1] at hj; simp [Value.ownBlock] at hj
    · rw [h1] at hj
      obtain rfl : g = j := by simpa [Value.ownBlock] using hj
      exact ⟨_, hgb, fun cur' h => by simp at h⟩)
  have zB := hB1.grown hg2 (by simp; omega) (fun j hj => (row1.lt j hj).1)
  have zk := hk1.trans (KeepsOthers.of_grownBy hg2 (row_cells row1))
  refine ⟨A3, c3, w2, hrun, (Boxed.below x0 hb).cell, y0.cell, z0.cell, z0.frozen, zk.trans (KeepsOthers.setCell _ _ _), z4.other (by omega) _, z0.set _, ownsRow_setCell_other hown2 (fun h => z0.not_row (by decide) hown2 h.symm) _, ?_, zB.setCell (p := ⟨B, 0, none⟩) (Nat.le_refl _) _⟩
  exact zrows.kept (grownBy_setCell' w2 B _) (fun j hj => by cases hj; exact ⟨_, z0, fun cur h => by simp at h⟩)

/-- It returns a slice of slices of the bytes ps, and an error. -/
def RetRows (ps : List (List Nat)) (e : Nat) (w : World) (en : Ending) (w' : World) : Prop :=
  ∃ A c vs, en = .returned (.tuple #[.slice A ps.length c, .int .i64 (e : Int)]) ∧ Rd w' A ps.length vs ∧ Rows w' w.heap.size vs ps ∧ Below w.heap.size w w'

set_option maxRecDepth 100000 in
set_option maxHeartbeats 2000000 in
theorem Split_yes (A : Option Addr) (n c s N : Nat) (l : List Nat) (w : World) (hr : R8 w A n l) (hc : n ≤ c) (hs0 : 1 ≤ s) (hs1 : s ≤ 512) (hn : n = N * (s + 2)) (hn2 : n ≤ 1099511627776) :
    Calls Try.prog 15 #[.slice A n c, .int .i64 (s : Int)] w (RetRows (piecesL (s + 2) l N) 0 w) := by
  obtain ⟨i0, ti, tz0, tz1, tz2⟩ := info_parts info_sl
  obtain ⟨PA, PC, p0, p1, p2, p3⟩ := pieces_addr A n c N (s + 2) l w hr hn (by omega) hc
  have hDv := fun w' => divides_yes A n c s N w' hs0 hs1 hn hn2
  have hPc := fun w' => pieces_any A n c s w' hs1
  have hNn : N ≤ 1099511627776 := by
    have : N * 1 ≤ N * (s + 2) := Nat.mul_le_mul_left _ (by omega)
    omega
  obtain ⟨V, HV⟩ : ∃ V, Hid (piecesL (s + 2) l N = V) := ⟨_, rfl⟩
  rw [HV.out]
  have HR := Lib.hid hr
  have HN := Lib.hid hn
  have P0 := Lib.hid p0
  have P1 := Lib.hid p1
  have P2 := Lib.hid p2
  have P3 := Lib.hid p3
  clear hr hn p0 p1 p2 p3
  refine (callsIn_wide (n := 3)).1 ?_
  refine callsIn_of_wp_marks Try.func15 rfl trivial ?_ rfl
  simp only [Try.ntmps15, List.size_toArray, List.length_cons, List.length_nil, Nat.reduceAdd, Nat.reduceSub, Array.replicate_succ, Array.replicate_zero, List.push_toArray, List.append_toArray, List.nil_append, List.cons_append]
  gi_wp2_with (first | (refine ⟨trivial, ?_⟩; gi_at_call 25; refine (callsIn_wide.2 (hDv _)).mono ?_; rintro e w' ⟨rfl, rfl⟩) | (refine ⟨trivial, ?_⟩; gi_at_call 26; refine (callsIn_wide.2 (hPc _)).mono ?_; rintro e w5 ⟨rfl, bR, bL, hsz, hB5⟩))
  simp only [World.size_alloc] at bR bL hsz
  have b0 : Boxed w5 w.heap.size 35 (.slice none 0 0) := Boxed.below (Boxed.new w 35 (.slice none 0 0)) hB5
  have hB0 : Below w.heap.size w w5 := ((Below.refl _ w).alloc (Nat.le_refl _) _).trans (hB5.mono (by simp))
  clear hB5 hDv hPc
  refine wpIn_rangeFunc_ownG (α := Fin N) rfl (by omega) (gf := 39) (lb := #[.pointer (some ⟨w.heap.size + 1, 0, none⟩), .pointer (some ⟨w.heap.size + 1 + 1, 0, none⟩)]) rfl trivial (enters_of Try.func39 (by kernel_rfl) rfl)
    (pieces1_stops 2 N (s + 2) n c _ _ A PA PC w5 (by omega) HN.out (by omega) (by omega) P0.out P1.out P2.out bR.lt bL.lt bR.cell bL.cell)
    (fun h k => k.trans h) (fun W l o o' hl _ _ _ => World.cell?_of_block (World.putObj_heap_other (by rw [hsz] at hl; simp; omega))) (Below.refl _ _) (fun _ => rfl)
    (fun pre W => (∃ v vs, Boxed W w.heap.size 35 v ∧ W.ownsRow w.heap.size 22 1 v pre.length vs ∧ Rows W w.heap.size vs (pre.map fun x => pieceL (s + 2) l x.1)) ∧
      Boxed W (w.heap.size + 1 + 1) 3 (.int .i64 ((s + 2 : Nat) : Int)) ∧ Below w.heap.size w W)
    (fun _ _ _ => False)
    ((Own.from (fun _ X Y row hs hg hr => by
        obtain ⟨v, vs, h1, h2, h3⟩ := hs
        refine ⟨v, vs, boxed_own _ _ (fun _ : Unit => _) () X Y row h1 hg hr, h2.kept hg ?_, h3.kept hg fun j hj => ?_⟩
        · cases hb : v.ownBlock with
          | none => exact .inl rfl
          | some j =>
            refine .inr fun e => ?_
            obtain ⟨o, ho1, ho2⟩ := hr j e.symm
            have := row_cells h2 j o hb ho1
            rw [this] at ho2
            cases ho2
        · obtain ⟨o, ho1, ho2⟩ := hr j hj
          exact ⟨o, ho1, fun cur e => by rw [e] at ho2; cases ho2⟩) _).and ((Own.from (boxed_own _ _ _) _).and (ownFrom_below (Nat.le_refl _) (by omega))))
    (fun _ _ _ _ _ hs _ _ => hs)
    ⟨⟨_, [], b0, World.ownsRow_nil _ _ _ _, Rows.nil_ _ _⟩, bL, hB0⟩
    (fun x => { tmps := #[.slice A n c, .int .i64 (s : Int), undef, undef, .slice none 0 0, .int .i64 0, .pointer (some ⟨w.heap.size, 0, none⟩), .slice (PA x.1) (s + 2) (PC x.1), .slice A n c, .int .i64 (s : Int), .bool true, .bool false, .slice A n c, .int .i64 (s : Int),
      .func (.func 39) #[] #[.pointer (some ⟨w.heap.size + 1, 0, none⟩), .pointer (some ⟨w.heap.size + 1 + 1, 0, none⟩)],
      .slice (PA x.1) (s + 2) (PC x.1), undef, undef, undef, undef, undef, undef], defers := [] }) ?assign ?body ?done ?stop
  case assign =>
    intro l x W K hK
    gi_wp2
    exact hK
  case body =>
    rintro l0 pre x W ⟨⟨v, vs, hv, hrow, hrows⟩, hv4, hB⟩ hlt
    have HRW := Lib.hid (P3.out x.1 x.2 W (HR.out.below hB))
    have HPl := Lib.hid HRW.out.len
    have HM1 := Lib.hid (show (pre ++ [x]).map (fun x => pieceL (s + 2) l x.1) = (pre.map fun x => pieceL (s + 2) l x.1) ++ [pieceL (s + 2) l x.1] by simp)
    have hpl : pre.length ≤ 1099511627776 := by omega
    obtain ⟨p, HP⟩ : ∃ p, Hid (pieceL (s + 2) l x.1 = p) := ⟨_, rfl⟩
    rw [HP.out] at HRW HPl HM1
    obtain ⟨jn, HJn⟩ : ∃ jn, Hid (pre.length = jn) := ⟨_, rfl⟩
    rw [HJn.out] at hrow hpl
    obtain ⟨Av, cv, rfl⟩ := own_form hrow
    have HRWd := Lib.hid (show R8 W.drew (PA x.1) (s + 2) p from HRW.out)
    have hmx : Try.prog.follows .mixedOrders = true := by kernel_rfl
    have x0 := Lib.hid hv
    have ROW := Lib.hid hrow
    have ROWS := Lib.hid hrows
    have c0 := hv.cell
    have c0' := hv.frozen
    clear hv hrow hrows
    gi_wp2
    have fin : ∀ (A1 A3 : Option Addr) (c1 c3 : Nat) (w2 : World), Hid (KeepsOthers W (w2.setCell ⟨w.heap.size, 0, none⟩ (.slice A3 (jn + 1) c3)) ∧ Boxed (w2.setCell ⟨w.heap.size, 0, none⟩ (.slice A3 (jn + 1) c3)) (w.heap.size + 1 + 1) 3 (.int .i64 ((s + 2 : Nat) : Int)) ∧ Boxed (w2.setCell ⟨w.heap.size, 0, none⟩ (.slice A3 (jn + 1) c3)) w.heap.size 35 (.slice A3 (jn + 1) c3) ∧
        (w2.setCell ⟨w.heap.size, 0, none⟩ (.slice A3 (jn + 1) c3)).ownsRow w.heap.size 22 1 (.slice A3 (jn + 1) c3) (jn + 1) (vs ++ [.slice A1 (s + 2) c1]) ∧ Rows (w2.setCell ⟨w.heap.size, 0, none⟩ (.slice A3 (jn + 1) c3)) w.heap.size (vs ++ [.slice A1 (s + 2) c1]) ((pre.map fun x => pieceL (s + 2) l x.1) ++ [p]) ∧ Below w.heap.size w (w2.setCell ⟨w.heap.size, 0, none⟩ (.slice A3 (jn + 1) c3))) →
        KeepsFrom w5.heap.size W (w2.setCell ⟨w.heap.size, 0, none⟩ (.slice A3 (jn + 1) c3)) ∧ (w2.setCell ⟨w.heap.size, 0, none⟩ (.slice A3 (jn + 1) c3)).cell? ⟨w.heap.size + 1 + 1, 0, none⟩ = W.cell? ⟨w.heap.size + 1 + 1, 0, none⟩ ∧
        (∃ v vs, Boxed (w2.setCell ⟨w.heap.size, 0, none⟩ (.slice A3 (jn + 1) c3)) w.heap.size 35 v ∧ (w2.setCell ⟨w.heap.size, 0, none⟩ (.slice A3 (jn + 1) c3)).ownsRow w.heap.size 22 1 v (pre ++ [x]).length vs ∧ Rows (w2.setCell ⟨w.heap.size, 0, none⟩ (.slice A3 (jn + 1) c3)) w.heap.size vs ((pre ++ [x]).map fun x => pieceL (s + 2) l x.1)) ∧
          Boxed (w2.setCell ⟨w.heap.size, 0, none⟩ (.slice A3 (jn + 1) c3)) (w.heap.size + 1 + 1) 3 (.int .i64 ((s + 2 : Nat) : Int)) ∧ Below w.heap.size w (w2.setCell ⟨w.heap.size, 0, none⟩ (.slice A3 (jn + 1) c3)) := by
      intro A1 A3 c1 c3 w2 H
      obtain ⟨h1, h2, h3, h4, h5, h6⟩ := H.out
      refine ⟨h1.from _, h2.cell.trans hv4.cell.symm, ⟨_, vs ++ [.slice A1 (s + 2) c1], h3, ?_, ?_⟩, h2, h6⟩
      · rw [List.length_append, HJn.out]
        exact h4
      · rw [HM1.out]
        exact h5
    refine wpIn_region_any hmx ?_
    change wpAnyIn _ _ _ _ _ _ _ _ _ (World.drew _)
    -- THE REGION
    refine wpAnyIn_ready (rs := [0, 1]) (by kernel_rfl) (by simp) ?_
    refine AllReadyIn.cons rfl (fun K hK => ?_) ?_
    · skip
      go_simp
      refine hK _ _ ?_
      clear hK K
      refine wpAnyIn_ready (rs := [1]) (by kernel_rfl) (by simp) ?_
      refine AllReadyIn.cons rfl (fun K hK => ?_) AllReadyIn.nil
      go_simp
      refine hK _ _ ?_
      clear hK K
      refine wpAnyIn_ready (rs := [2]) (by kernel_rfl) (by simp) ?_
      refine AllReadyIn.cons rfl (fun K hK => ?_) AllReadyIn.nil
      go_simp
      refine ⟨trivial, ?_⟩
      refine (CallsIn.inRound l0 (callsIn_wide.2 (Clone_any _ _ _ p W.drew HRWd.out (by omega)))).mono ?_
      rintro e w1 ⟨A1, c1, rfl, hown1, hb1⟩
      obtain ⟨A3, c3, w2, hrun, k1, k2, k3, k4, HF⟩ := split_round (w := w) x0.out hv4 ROW.out ROWS.out hB (Nat.le_refl _) hown1 ⟨hb1.os, hb1.tape, hb1.output, hb1.size, hb1.block⟩ hpl
      rw [HPl.out] at hrun k2 HF ⊢
      have HRUN := Lib.hid hrun
      clear hown1 hb1 hrun
      refine hK _ _ ?_
      clear hK K
      refine wpAnyIn_ready (rs := [3]) (by kernel_rfl) (by simp) ?_
      refine AllReadyIn.cons rfl (fun K hK => ?_) AllReadyIn.nil
      go_simp
      refine hK _ _ ?_
      clear hK K
      refine wpAnyIn_ready (rs := [4]) (by kernel_rfl) (by simp) ?_
      refine AllReadyIn.cons rfl (fun K hK => ?_) AllReadyIn.nil
      refine stepIn_append rfl (.tmp 16) (.tmp 19) _ rfl _ _ rfl rfl HRUN.out ?_
      refine hK _ _ ?_
      clear hK K
      refine wpAnyIn_ready (rs := [5]) (by kernel_rfl) (by simp) ?_
      refine AllReadyIn.cons rfl (fun K hK => ?_) AllReadyIn.nil
      go_simp
      refine hK _ _ ?_
      clear hK K
      refine wpAnyIn_done (by kernel_rfl) ?_ _
      exact fin _ _ _ _ _ HF
    refine AllReadyIn.cons rfl (fun K hK => ?_) ?_
    · skip
      go_simp
      refine hK _ _ ?_
      clear hK K
      refine wpAnyIn_ready (rs := [0, 2]) (by kernel_rfl) (by simp) ?_
      refine AllReadyIn.cons rfl (fun K hK => ?_) ?_
      · skip
        go_simp
        refine hK _ _ ?_
        clear hK K
        refine wpAnyIn_ready (rs := [2]) (by kernel_rfl) (by simp) ?_
        refine AllReadyIn.cons rfl (fun K hK => ?_) AllReadyIn.nil
        go_simp
        refine ⟨trivial, ?_⟩
        refine (CallsIn.inRound l0 (callsIn_wide.2 (Clone_any _ _ _ p W.drew HRWd.out (by omega)))).mono ?_
        rintro e w1 ⟨A1, c1, rfl, hown1, hb1⟩
        obtain ⟨A3, c3, w2, hrun, k1, k2, k3, k4, HF⟩ := split_round (w := w) x0.out hv4 ROW.out ROWS.out hB (Nat.le_refl _) hown1 ⟨hb1.os, hb1.tape, hb1.output, hb1.size, hb1.block⟩ hpl
        rw [HPl.out] at hrun k2 HF ⊢
        have HRUN := Lib.hid hrun
        clear hown1 hb1 hrun
        refine hK _ _ ?_
        clear hK K
        refine wpAnyIn_ready (rs := [3]) (by kernel_rfl) (by simp) ?_
        refine AllReadyIn.cons rfl (fun K hK => ?_) AllReadyIn.nil
        go_simp
        refine hK _ _ ?_
        clear hK K
        refine wpAnyIn_ready (rs := [4]) (by kernel_rfl) (by simp) ?_
        refine AllReadyIn.cons rfl (fun K hK => ?_) AllReadyIn.nil
        refine stepIn_append rfl (.tmp 16) (.tmp 19) _ rfl _ _ rfl rfl HRUN.out ?_
        refine hK _ _ ?_
        clear hK K
        refine wpAnyIn_ready (rs := [5]) (by kernel_rfl) (by simp) ?_
        refine AllReadyIn.cons rfl (fun K hK => ?_) AllReadyIn.nil
        go_simp
        refine hK _ _ ?_
        clear hK K
        refine wpAnyIn_done (by kernel_rfl) ?_ _
        exact fin _ _ _ _ _ HF
      refine AllReadyIn.cons rfl (fun K hK => ?_) ?_
      · skip
        go_simp
        refine ⟨trivial, ?_⟩
        refine (CallsIn.inRound l0 (callsIn_wide.2 (Clone_any _ _ _ p W.drew HRWd.out (by omega)))).mono ?_
        rintro e w1 ⟨A1, c1, rfl, hown1, hb1⟩
        obtain ⟨A3, c3, w2, hrun, k1, k2, k3, k4, HF⟩ := split_round (w := w) x0.out hv4 ROW.out ROWS.out hB (Nat.le_refl _) hown1 ⟨hb1.os, hb1.tape, hb1.output, hb1.size, hb1.block⟩ hpl
        rw [HPl.out] at hrun k2 HF ⊢
        have HRUN := Lib.hid hrun
        clear hown1 hb1 hrun
        refine hK _ _ ?_
        clear hK K
        refine wpAnyIn_ready (rs := [0, 3]) (by kernel_rfl) (by simp) ?_
        refine AllReadyIn.cons rfl (fun K hK => ?_) ?_
        · skip
          go_simp
          refine hK _ _ ?_
          clear hK K
          refine wpAnyIn_ready (rs := [3]) (by kernel_rfl) (by simp) ?_
          refine AllReadyIn.cons rfl (fun K hK => ?_) AllReadyIn.nil
          go_simp
          refine hK _ _ ?_
          clear hK K
          refine wpAnyIn_ready (rs := [4]) (by kernel_rfl) (by simp) ?_
          refine AllReadyIn.cons rfl (fun K hK => ?_) AllReadyIn.nil
          refine stepIn_append rfl (.tmp 16) (.tmp 19) _ rfl _ _ rfl rfl HRUN.out ?_
          refine hK _ _ ?_
          clear hK K
          refine wpAnyIn_ready (rs := [5]) (by kernel_rfl) (by simp) ?_
          refine AllReadyIn.cons rfl (fun K hK => ?_) AllReadyIn.nil
          go_simp
          refine hK _ _ ?_
          clear hK K
          refine wpAnyIn_done (by kernel_rfl) ?_ _
          exact fin _ _ _ _ _ HF
        refine AllReadyIn.cons rfl (fun K hK => ?_) ?_
        · skip
          go_simp
          refine hK _ _ ?_
          clear hK K
          refine wpAnyIn_ready (rs := [0]) (by kernel_rfl) (by simp) ?_
          refine AllReadyIn.cons rfl (fun K hK => ?_) AllReadyIn.nil
          go_simp
          refine hK _ _ ?_
          clear hK K
          refine wpAnyIn_ready (rs := [4]) (by kernel_rfl) (by simp) ?_
          refine AllReadyIn.cons rfl (fun K hK => ?_) AllReadyIn.nil
          refine stepIn_append rfl (.tmp 16) (.tmp 19) _ rfl _ _ rfl rfl HRUN.out ?_
          refine hK _ _ ?_
          clear hK K
          refine wpAnyIn_ready (rs := [5]) (by kernel_rfl) (by simp) ?_
          refine AllReadyIn.cons rfl (fun K hK => ?_) AllReadyIn.nil
          go_simp
          refine hK _ _ ?_
          clear hK K
          refine wpAnyIn_done (by kernel_rfl) ?_ _
          exact fin _ _ _ _ _ HF
        exact AllReadyIn.nil
      exact AllReadyIn.nil
    exact AllReadyIn.nil
    -- ITS END
  case done =>
    rintro D ys W hD rfl ⟨⟨v, vs, hv, hrow, hrows⟩, hv4, hB⟩ hK
    rw [← fin_pieces, HV.out] at hrows
    have HVl := Lib.hid (show V.length = N by rw [← HV.out, piecesL_length])
    rw [List.length_finRange] at hrow
    obtain ⟨Av, cv, rfl⟩ := own_form hrow
    have ROW := Lib.hid hrow
    have ROWS := Lib.hid hrows
    have HB := Lib.hid hB
    have c0 := hv.cell
    clear hrow hrows hB hv4
    gi_wp2
    refine ⟨by simp, .inl ⟨_, _, rfl, run_takeDeferred hK, ?_⟩⟩
    refine ⟨.tuple #[.slice Av N cv, .int .i64 0], ?_, Av, cv, vs, by rw [HVl.out]; rfl, ?_, ?_, HB.out.trans (belowK_b (w := w) (Nat.le_refl _) W D _ _ (by rw [hsz] at hD; omega) hK rfl rfl)⟩
    · simp [results, Try.f15, go_sem]
    · rw [HVl.out]
      exact Rd.own (ownsRow_putObj ROW.out _ hK rfl)
    · exact ROWS.out.kept (grownBy_putObj' W D (.deferred none)) (fun j hj => by cases hj; exact ⟨_, hK, fun cur h => by cases h⟩)
  case stop =>
    rintro D c pre W _ _ h _
    exact h.elim

theorem Split_no (A : Option Addr) (n c : Nat) (x : Int) (w : World) (hDv : ∀ w', Calls Try.prog 25 #[.slice A n c, .int .i64 x] w' fun e w'' => e = .returned (.bool false) ∧ w' = w'') :
    Calls Try.prog 15 #[.slice A n c, .int .i64 x] w fun e w' => e = .returned (.tuple #[.slice none 0 0, .int .i64 2]) ∧ w = w' := by
  go_enter Try.func15, Try.ntmps15
  go_wp2_with (go_at_call 25; refine (hDv _).mono ?_; rintro e w' ⟨rfl, rfl⟩)
  go_ret2
  exact ⟨rfl, rfl⟩
end Go.Proofs.Ytljjbphmglbhnaa
