/-
  Contract of chunk.All, over the landed code.
-/
import Derived.Test.YtgiihdeilkiphaaLadderFitsJPieces
import Derived.Test.YtgiihdeilkiphaaLadderFitsJChunkC
namespace Go.Proofs.Ytgiihdeilkiphaa
open Go.RowKit Go.Shelf

attribute [local go_sem] Oper.semAt_some

/-- Where the pieces lie. -/
theorem pieces_addr (A : Option Addr) (n c N len : Nat) (l : List Nat) (w : World) (hr : R8 w A n l) (hn : n = N * len) (hlen : 1 ≤ len) (hc : n ≤ c) :
    ∃ (PA : Nat → Option Addr) (PC : Nat → Nat), (0 < N → PA 0 = A ∧ PC 0 = c) ∧ (∀ k, k + 1 < N → cutA (PA k) (PC k) len = PA (k + 1) ∧ PC k - len = PC (k + 1)) ∧ (∀ k, k < N → len ≤ PC k) ∧
      ∀ k, k < N → ∀ w', R8 w' A n l → R8 w' (PA k) len (pieceL len l k) := by
  rcases Nat.eq_zero_or_pos N with h0 | h0
  · exact ⟨fun _ => none, fun _ => 0, fun h => by omega, fun k h => by omega, fun k h => by omega, fun k h => by omega⟩
  · have hn0 : 0 < n := by rw [hn]; exact Nat.mul_pos h0 hlen
    obtain ⟨b, off, rfl, _, _⟩ := hr.1.2 hn0
    have hmul : ∀ k, k < N → k * len + len ≤ n := fun k hk => by
      have : (k + 1) * len ≤ N * len := Nat.mul_le_mul_right _ hk
      rw [Nat.add_mul, Nat.one_mul] at this
      omega
    refine ⟨fun k => some ⟨b, off + k * len, none⟩, fun k => c - k * len, fun _ => by simp, fun k hk => ?_, fun k hk => by have := hmul k hk; show len ≤ c - k * len; omega, fun k hk w' h => ?_⟩
    · have h1 := hmul (k + 1) hk
      have e : (k + 1) * len = k * len + len := by rw [Nat.add_mul, Nat.one_mul]
      dsimp only
      rw [e] at h1 ⊢
      refine ⟨?_, by omega⟩
      rw [cutA_some, if_neg (by omega)]
      have e2 : ((⟨b, off + k * len, none⟩ : Addr).add len) = ⟨b, off + k * len + len, none⟩ := by unfold Addr.add; split <;> simp_all
      rw [e2, Nat.add_assoc]
    · exact h.sub (k * len) len (hmul k hk)

theorem decL_len (p : List Nat) (h0 : 3 ≤ p.length) (h1 : p.length ≤ 514) (h : (decL p).2.2 = 0) : (decL p).1.length = p.length - 2 := by
  unfold decL at h ⊢
  rw [if_neg (by omega)] at h ⊢
  unfold decV at h ⊢
  have e : (p.take (p.length - 2)).length = p.length - 2 := by rw [List.length_take]; omega
  split
  · exact e
  · rename_i h2; rw [if_neg h2] at h
    split
    · exact e
    · rename_i h3; rw [if_neg h3] at h
      split
      · rw [flip1_length]; exact e
      · rename_i h4; rw [if_neg h4] at h; simp at h

theorem Boxed.below {W W1 : World} {B : Nat} {t : TypeId} {v : Value} (h : Boxed W B t v) (hb : Below W.heap.size W W1) : Boxed W1 B t v := (hb.block B h.lt).trans h
theorem row_cells {W : World} {base : Nat} {e : TypeId} {v : Value} {k : Nat} {xs : List Value} (h : W.ownsRow base e 1 v k xs) : ∀ (j : Nat) (o : Obj), v.ownBlock = some j → W.heap[j]? = some o → o.isCells = true := by
  intro j o hj ho
  rcases h.2 with ⟨rfl, _⟩ | ⟨g, cap, cur, rfl, _, hgb, _⟩
  · simp [Value.ownBlock] at hj
  · obtain rfl : g = j := by simpa [Value.ownBlock] using hj
    rw [hgb] at ho
    cases ho
    rfl
theorem fin_pieces (len : Nat) (l : List Nat) (N : Nat) : piecesL len l N = (List.finRange N).map fun x => pieceL len l x.1 := by
  apply List.ext_getElem
  · simp [piecesL]
  · intro i h1 h2
    simp [piecesL]
theorem keeps_below {W W1 : World} (h : Below W.heap.size W W1) : KeepsOthers W W1 := ⟨h.size, fun k _ hk _ => (h.block k (Array.getElem?_eq_some_iff.1 hk).1).trans hk⟩

set_option maxRecDepth 100000 in
set_option maxHeartbeats 2000000 in
theorem All_yes (A : Option Addr) (n c s N : Nat) (l : List Nat) (w : World) (hr : R8 w A n l) (hc : n ≤ c) (hs0 : 1 ≤ s) (hs1 : s ≤ 512) (hn : n = N * (s + 2)) (hn2 : n ≤ 1099511627776) :
    Calls Try.prog 50 #[.slice A n c, .int .i64 (s : Int)] w (Ret3 (allL (piecesL (s + 2) l N)).1 (allL (piecesL (s + 2) l N)).2.1 (allL (piecesL (s + 2) l N)).2.2 w) := by
  obtain ⟨i0, ti, tz0, tz1, tz2⟩ := info_parts info_u8
  obtain ⟨PA, PC, p0, p1, p2, p3⟩ := pieces_addr A n c N (s + 2) l w hr hn (by omega) hc
  have hDv := fun w' => divides_yes A n c s N w' hs0 hs1 hn hn2
  have hPc := fun w' => pieces_any A n c s w' hs1
  obtain ⟨V, HV⟩ : ∃ V, Hid (allL (piecesL (s + 2) l N) = V) := ⟨_, rfl⟩
  rw [HV.out]
  obtain ⟨vd, vf, ve⟩ := V
  have HR := Lib.hid hr
  have HN := Lib.hid hn
  have P0 := Lib.hid p0
  have P1 := Lib.hid p1
  have P2 := Lib.hid p2
  have P3 := Lib.hid p3
  clear hr hn p0 p1 p2 p3
  refine (callsIn_wide (n := 3)).1 ?_
  refine callsIn_of_wp_marks Try.func50 rfl trivial ?_ rfl
  simp only [Try.ntmps50, List.size_toArray, List.length_cons, List.length_nil, Nat.reduceAdd, Nat.reduceSub, Array.replicate_succ, Array.replicate_zero, List.push_toArray, List.append_toArray, List.nil_append, List.cons_append]
  gi_wp2_with (first | (refine ⟨trivial, ?_⟩; gi_at_call 69; refine (callsIn_wide.2 (hDv _)).mono ?_; rintro e w' ⟨rfl, rfl⟩) | (refine ⟨trivial, ?_⟩; gi_at_call 70; refine (callsIn_wide.2 (hPc _)).mono ?_; rintro e w5 ⟨rfl, bR, bL, hsz, hB5⟩))
  simp only [World.size_alloc] at bR bL hsz
  have b0 : Boxed w5 w.heap.size 27 (.slice none 0 0) := Boxed.below (((Boxed.new w 27 (.slice none 0 0)).alloc _).alloc _) hB5
  have b1 : Boxed w5 (w.heap.size + 1) 3 (.int .i64 0) := Boxed.below (by have h := (Boxed.new (w.alloc (.cells #[.slice none 0 0] 27)) 3 (.int .i64 0)).alloc (.cells #[.int .i64 0] 32); rw [World.size_alloc] at h; exact h) hB5
  have b2 : Boxed w5 (w.heap.size + 1 + 1) 32 (.int .i64 0) := Boxed.below (by have h := Boxed.new ((w.alloc (.cells #[.slice none 0 0] 27)).alloc (.cells #[.int .i64 0] 3)) 32 (.int .i64 0); simp only [World.size_alloc] at h; exact h) hB5
  have hB0 : Below w.heap.size w w5 := ((((Below.refl _ w).alloc (Nat.le_refl _) _).alloc (by simp) _).alloc (by simp; omega) _).trans (hB5.mono (by simp; omega))
  clear hB5 hDv hPc
  refine wpIn_rangeFunc_ownG (α := Fin N) rfl (by omega) (gf := 83) (lb := #[.pointer (some ⟨w.heap.size + 1 + 1 + 1, 0, none⟩), .pointer (some ⟨w.heap.size + 1 + 1 + 1 + 1, 0, none⟩)]) rfl trivial (enters_of Try.func83 (by kernel_rfl) rfl)
    (pieces1_stops 2 N (s + 2) n c _ _ A PA PC w5 (by omega) HN.out (by omega) (by omega) P0.out P1.out P2.out bR.lt bL.lt bR.cell bL.cell)
    (fun h k => k.trans h) (fun W l o o' hl _ _ _ => World.cell?_of_block (World.putObj_heap_other (by rw [hsz] at hl; simp; omega))) (Below.refl _ _) (fun _ => rfl)
    (fun pre W => (∃ v, Boxed W w.heap.size 27 v ∧ W.ownsRow w.heap.size 5 1 v (joinD (pre.map fun x => pieceL (s + 2) l x.1)).length (U8 (joinD (pre.map fun x => pieceL (s + 2) l x.1))) ∧ True) ∧
      Boxed W (w.heap.size + 1) 3 (.int .i64 (sumD (pre.map fun x => pieceL (s + 2) l x.1) : Int)) ∧ Boxed W (w.heap.size + 1 + 1) 32 (.int .i64 0) ∧ Boxed W (w.heap.size + 1 + 1 + 1 + 1) 3 (.int .i64 ((s + 2 : Nat) : Int)) ∧ Hid (okD (pre.map fun x => pieceL (s + 2) l x.1)) ∧ Below w.heap.size w W)
    (fun c pre W => (c = .ret ∧ ∃ ini last, ∃ e : Nat, pre = ini ++ [last] ∧ Hid (okD (ini.map fun x => pieceL (s + 2) l x.1)) ∧ Hid ((decL (pieceL (s + 2) l last.1)).2.2 = e) ∧ e ≠ 0 ∧ Boxed W w.heap.size 27 (.slice none 0 0) ∧ Boxed W (w.heap.size + 1) 3 (.int .i64 0) ∧ Boxed W (w.heap.size + 1 + 1) 32 (.int .i64 (e : Int))) ∧ Below w.heap.size w W)
    ((Own.from (holdsRow_own _ _ _ _ _ _ _ _) _).and ((Own.from (boxed_own _ _ _) _).and ((Own.from (boxed_own _ _ _) _).and ((Own.from (boxed_own _ _ _) _).and ((ownFrom_pure _ _).and (ownFrom_below (Nat.le_refl _) (by omega)))))))
    (fun c => OwnFrom.and (Own.from (fun s X Y row hs hg hr => by obtain ⟨hc, ini, last, e, e1, e2, e3, e4, e5, e6, e7⟩ := hs; exact ⟨hc, ini, last, e, e1, e2, e3, e4, boxed_own _ _ (fun _ : Unit => _) () X Y row e5 hg hr, boxed_own _ _ (fun _ : Unit => _) () X Y row e6 hg hr, boxed_own _ _ (fun _ : Unit => _) () X Y row e7 hg hr⟩) _) (ownFrom_below (Nat.le_refl _) (by omega)))
    ⟨⟨_, b0, World.ownsRow_nil _ _ _ _, trivial⟩, b1, b2, bL, okD_nil, hB0⟩
    (fun x => { tmps := #[.slice A n c, .int .i64 (s : Int), undef, undef, .pointer (some ⟨w.heap.size, 0, none⟩), .pointer (some ⟨w.heap.size + 1, 0, none⟩), .pointer (some ⟨w.heap.size + 1 + 1, 0, none⟩), .slice (PA x.1) (s + 2) (PC x.1), undef, undef, undef,
      .slice A n c, .int .i64 (s : Int), .bool true, .bool false, .slice A n c, .int .i64 (s : Int), .func (.func 83) #[] #[.pointer (some ⟨w.heap.size + 1 + 1 + 1, 0, none⟩), .pointer (some ⟨w.heap.size + 1 + 1 + 1 + 1, 0, none⟩)],
      .slice (PA x.1) (s + 2) (PC x.1), undef, undef, undef, undef, undef, undef, undef, undef, undef, undef, undef, undef, undef, undef, undef, undef, undef], defers := [] }) ?assign ?body ?done ?stop
  case assign =>
    intro l x W K hK
    gi_wp2
    exact hK
  case body =>
    rintro l0 pre x W ⟨⟨v, hv, hrow, _⟩, hv1, hv2, hv4, HOK, hB⟩ hlt
    have HRW := Lib.hid (P3.out x.1 x.2 W (HR.out.below hB))
    have hcap := P2.out x.1 x.2
    have HPl := Lib.hid HRW.out.len
    have hJf := joinD_facts (pre.map fun x => pieceL (s + 2) l x.1) (s + 2) (by
      intro q hq
      simp only [List.mem_map] at hq
      obtain ⟨y, _, rfl⟩ := hq
      exact ⟨pieceL_length (s + 2) l y.1 N (by rw [HR.out.len]; exact HN.out) y.2, pieceL_lt _ _ _ HR.out.2⟩)
    rw [List.length_map] at hJf
    have hmul : pre.length * (s + 2) ≤ n := by rw [HN.out]; exact Nat.mul_le_mul_right _ (by omega)
    have hpl : pre.length ≤ n := by
      have : pre.length * 1 ≤ pre.length * (s + 2) := Nat.mul_le_mul_left _ (by omega)
      omega
    have HJ1 := Lib.hid (joinD_snoc (pre.map fun x => pieceL (s + 2) l x.1) (pieceL (s + 2) l x.1))
    have HS1 := Lib.hid (sumD_snoc (pre.map fun x => pieceL (s + 2) l x.1) (pieceL (s + 2) l x.1))
    have HM1 := Lib.hid (show (pre ++ [x]).map (fun x => pieceL (s + 2) l x.1) = (pre.map fun x => pieceL (s + 2) l x.1) ++ [pieceL (s + 2) l x.1] by simp)
    have hDec := Decode_any (PA x.1) (s + 2) (PC x.1) _ W HRW.out hcap (by omega)
    obtain ⟨d1, d2, d3, _⟩ := decL_facts _ HRW.out.2
    have HDL := Lib.hid (fun h => decL_len (pieceL (s + 2) l x.1) (by rw [HPl.out]; omega) (by rw [HPl.out]; omega) h)
    have HDn := Lib.hid (fun h => decL_nil (pieceL (s + 2) l x.1) h)
    obtain ⟨V, HVp⟩ : ∃ V, Hid (decL (pieceL (s + 2) l x.1) = V) := ⟨_, rfl⟩
    rw [HVp.out] at hDec d1 d2 d3 HJ1 HS1 HDL HDn
    rw [HPl.out] at HDL
    obtain ⟨d, f, e⟩ := V
    simp only at hDec d1 d2 d3
    obtain ⟨J, HJ⟩ : ∃ J, Hid (joinD (pre.map fun x => pieceL (s + 2) l x.1) = J) := ⟨_, rfl⟩
    obtain ⟨S, HS⟩ : ∃ S, Hid (sumD (pre.map fun x => pieceL (s + 2) l x.1) = S) := ⟨_, rfl⟩
    rw [HJ.out] at hrow hJf HJ1
    rw [HS.out] at hv1 hJf HS1
    obtain ⟨jn, HJn⟩ : ∃ jn, Hid (J.length = jn) := ⟨_, rfl⟩
    rw [HJn.out] at hrow hJf
    have hjn : jn ≤ 1099511627776 := by omega
    have hS : S ≤ 1099511627776 := by omega
    have HD2 := Lib.hid d2
    clear hJf d1 d2 hlt hmul hpl
    by_cases he : e = 0
    · subst he
      obtain ⟨m, HDm⟩ : ∃ m, Hid (d.length = m) := ⟨_, rfl⟩
      have hm : m = s := by rw [← HDm.out, HDL.out rfl]; omega
      subst hm
      gi_wp2_with fail
      refine ⟨trivial, ?_⟩
      refine (CallsIn.inRound l0 (callsIn_wide.2 hDec)).mono ?_
      rintro en w1 hM
      obtain ⟨A2, c2, rfl, R2, _, B2⟩ := hM.at_ HDm.out
      clear hM hDec HDL HDn
      obtain ⟨g2, o2, rfl, _, hcc⟩ := R2.out.1.2 (by omega)
      have HNw := Lib.hid (Rd.news hcc R2.out.1.1)
      clear hcc
      have ROW1 := Lib.hid (own_below hrow B2.out)
      obtain ⟨Av, cv, rfl⟩ := own_form ROW1.out
      have x0 := Lib.hid (Boxed.below hv B2.out)
      have x1 := Lib.hid (Boxed.below hv1 B2.out)
      have x2 := Lib.hid (Boxed.below hv2 B2.out)
      have x4 := Lib.hid (Boxed.below hv4 B2.out)
      have HB1 := Lib.hid (hB.trans (B2.out.mono hB.size))
      have HK1 := Lib.hid (keeps_below B2.out)
      have hs1' := HB1.out.size
      have c0 := x0.out.cell
      gi_wp2_with (gi_at_builtin; refine wpListIn_append_own _ rfl _ _ 27 rfl w.heap.size 5 i0 (.int .u8 0) 1 1 Try.underlying27 ti tz0 tz1 tz2 rfl (by decide) _ _ _ rfl ROW1.out ⟨g2, o2, none⟩ m c2 (U8 d) rfl (by rw [U8_length, HDm.out]; omega) HNw.out (U8_one d) (by unfold maxLen; omega) (by omega) hs1' ?_)
      intro v' w2 hown2 hg2 _
      obtain ⟨A3, c3, rfl⟩ := own_form hown2
      have y0 := Lib.hid (x0.out.kept hg2 (x0.out.not_row (by decide) ROW1.out))
      have y1 := Lib.hid (x1.out.kept hg2 (x1.out.not_row (by decide) ROW1.out))
      have y2 := Lib.hid (x2.out.kept hg2 (x2.out.not_row (by decide) ROW1.out))
      have y4 := Lib.hid (x4.out.kept hg2 (x4.out.not_row (by decide) ROW1.out))
      have HB2 := Lib.hid (HB1.out.grown hg2 hs1' (fun j hj => (ROW1.out.lt j hj).1))
      have HK2 := Lib.hid (HK1.out.trans (KeepsOthers.of_grownBy hg2 (row_cells ROW1.out)))
      have ROW2 := Lib.hid hown2
      have r0 := Lib.hid (y0.out.not_row (by decide) hown2)
      have r1 := Lib.hid (y1.out.not_row (by decide) hown2)
      clear hown2 hg2 c0
      have c1 := y0.out.cell
      have c2' := y0.out.frozen
      have z1 := Lib.hid (y1.out.other (B' := w.heap.size) (by omega) (.slice A3 (jn + m) c3))
      have c3' := z1.out.cell
      have c4 := z1.out.frozen
      have hSf : IntKind.i64.wrap ((S : Int) + (f : Int)) = ((S + f : Nat) : Int) := IntWalk.i64_in _ (by omega)
      gi_wp2
      have f0 := Lib.hid ((y0.out.set (.slice A3 (jn + m) c3)).other (B' := w.heap.size + 1) (by omega) (.int .i64 ((S : Int) + (f : Int))))
      have f1 := Lib.hid (z1.out.set (.int .i64 ((S : Int) + (f : Int))))
      have f2 := Lib.hid ((y2.out.other (B' := w.heap.size) (by omega) (.slice A3 (jn + m) c3)).other (B' := w.heap.size + 1) (by omega) (.int .i64 ((S : Int) + (f : Int))))
      have f4 := Lib.hid ((y4.out.other (B' := w.heap.size) (by omega) (.slice A3 (jn + m) c3)).other (B' := w.heap.size + 1) (by omega) (.int .i64 ((S : Int) + (f : Int))))
      have fr := Lib.hid (ownsRow_setCell_other (ownsRow_setCell_other ROW2.out (a := ⟨w.heap.size, 0, none⟩) (fun h => r0.out h.symm) (.slice A3 (jn + m) c3)) (a := ⟨w.heap.size + 1, 0, none⟩) (fun h => r1.out h.symm) (.int .i64 ((S : Int) + (f : Int))))
      refine ⟨(HK2.out.trans ((KeepsOthers.setCell _ _ _).trans (KeepsOthers.setCell _ _ _))).from _, f4.out.cell.trans hv4.cell.symm, ⟨_, f0.out, ?_, trivial⟩, ?_, f2.out, f4.out, ?_, (HB2.out.setCell (p := ⟨w.heap.size, 0, none⟩) (Nat.le_refl _) _).setCell (p := ⟨w.heap.size + 1, 0, none⟩) (by simp) _⟩
      · rw [HM1.out, HJ1.out, List.length_append, HJn.out, HDm.out, U8_append]
        exact fr.out
      · rw [HM1.out, HS1.out]
        exact f1.out
      · rw [HM1.out]
        exact okD_snoc HOK.out (by rw [HVp.out])
    · obtain ⟨rfl, rfl⟩ : d = [] ∧ f = 0 := HDn.out he
      have hne : ((e : Int) != 0) = true := by simp; omega
      gi_wp2_with fail
      refine ⟨trivial, ?_⟩
      refine (CallsIn.inRound l0 (callsIn_wide.2 hDec)).mono ?_
      rintro en w1 hM
      obtain ⟨A2, c2, rfl, _, _, B2⟩ := hM.at_ (n := 0) rfl
      clear hM hDec HDL HDn
      have x0 := Lib.hid (Boxed.below hv B2.out)
      have x1 := Lib.hid (Boxed.below hv1 B2.out)
      have x2 := Lib.hid (Boxed.below hv2 B2.out)
      have HB1 := Lib.hid (hB.trans (B2.out.mono hB.size))
      have HK1 := Lib.hid (keeps_below B2.out)
      have z1 := Lib.hid (x1.out.other (B' := w.heap.size) (by omega) (.slice none 0 0))
      have z2 := Lib.hid ((x2.out.other (B' := w.heap.size) (by omega) (.slice none 0 0)).other (B' := w.heap.size + 1) (by omega) (.int .i64 0))
      have g0 := x0.out.cell
      have g0' := x0.out.frozen
      have g1 := z1.out.cell
      have g1' := z1.out.frozen
      have g2 := z2.out.cell
      have g2' := z2.out.frozen
      gi_wp2
      exact ⟨(HK1.out.trans ((KeepsOthers.setCell _ _ _).trans ((KeepsOthers.setCell _ _ _).trans (KeepsOthers.setCell _ _ _)))).from _,
        ⟨rfl, pre, x, e, rfl, HOK, (by rw [HVp.out] : (decL (pieceL (s + 2) l x.1)).2.2 = e), he, ((x0.out.set _).other (by omega) _).other (by omega) _, (z1.out.set _).other (by omega) _, z2.out.set _⟩,
        ((HB1.out.setCell (p := ⟨w.heap.size, 0, none⟩) (Nat.le_refl _) _).setCell (p := ⟨w.heap.size + 1, 0, none⟩) (by simp) _).setCell (p := ⟨w.heap.size + 1 + 1, 0, none⟩) (by simp; omega) _⟩
  case done =>
    rintro D ys W hD rfl ⟨⟨v, hv, hrow, _⟩, hv1, hv2, hv4, HOK, hB⟩ hK
    have HA := Lib.hid (show (vd, vf, ve) = (joinD ((List.finRange N).map fun x => pieceL (s + 2) l x.1), sumD ((List.finRange N).map fun x => pieceL (s + 2) l x.1), 0) by
      rw [← HV.out, ← allL_ok _ HOK.out, fin_pieces])
    obtain ⟨rfl, rfl, rfl⟩ : vd = joinD ((List.finRange N).map fun x => pieceL (s + 2) l x.1) ∧ vf = sumD ((List.finRange N).map fun x => pieceL (s + 2) l x.1) ∧ ve = 0 := by
      have h := HA.out
      simp only [Prod.mk.injEq] at h
      exact h
    have HJb := Lib.hid (joinD_facts ((List.finRange N).map fun x => pieceL (s + 2) l x.1) (s + 2) (by rw [← fin_pieces]; exact piecesL_facts (s + 2) l N N (by rw [HR.out.len]; exact HN.out) (Nat.le_refl _) HR.out.2)).2.1
    clear HV HA HOK
    generalize joinD ((List.finRange N).map fun x => pieceL (s + 2) l x.1) = J at *
    generalize sumD ((List.finRange N).map fun x => pieceL (s + 2) l x.1) = S at *
    obtain ⟨Av, cv, rfl⟩ := own_form hrow
    have x0 := Lib.hid hv
    have x1 := Lib.hid hv1
    have x2 := Lib.hid hv2
    have ROW := Lib.hid hrow
    have HB := Lib.hid hB
    have c0 := hv.cell
    have c0' := hv.frozen
    have c1 := hv1.cell
    have c1' := hv1.frozen
    have c2 := hv2.cell
    have c2' := hv2.frozen
    clear hv hv1 hv2 hv4 hrow hB
    gi_wp2
    gi_region
    gi_wp2
    obtain ⟨WF, hWF⟩ : ∃ WF, (((W.setCell ⟨w.heap.size, 0, none⟩ (.slice Av J.length cv)).setCell ⟨w.heap.size + 1, 0, none⟩ (.int .i64 (S : Int))).setCell ⟨w.heap.size + 1 + 1, 0, none⟩ (.int .i64 0)).drew = WF := ⟨_, rfl⟩
    have hK' : WF.heap[D]? = some (.deferred (some [])) := by
      rw [← hWF]
      exact ((KeepsOthers.setCell W _ _).trans ((KeepsOthers.setCell _ _ _).trans (KeepsOthers.setCell _ _ _))).same D _ hK rfl
    have y0 : Boxed WF w.heap.size 27 (.slice Av J.length cv) := by
      rw [← hWF]
      exact ((x0.out.set _).other (B' := w.heap.size + 1) (by omega) _).other (B' := w.heap.size + 1 + 1) (by omega) _
    have y1 : Boxed WF (w.heap.size + 1) 3 (.int .i64 (S : Int)) := by
      rw [← hWF]
      exact ((x1.out.other (B' := w.heap.size) (by omega) _).set _).other (B' := w.heap.size + 1 + 1) (by omega) _
    have y2 : Boxed WF (w.heap.size + 1 + 1) 32 (.int .i64 0) := by
      rw [← hWF]
      exact ((x2.out.other (B' := w.heap.size) (by omega) _).other (B' := w.heap.size + 1) (by omega) _).set _
    have yB : Below w.heap.size w WF := by
      rw [← hWF]
      exact (((HB.out.setCell (p := ⟨w.heap.size, 0, none⟩) (Nat.le_refl _) _).setCell (p := ⟨w.heap.size + 1, 0, none⟩) (by simp) _).setCell (p := ⟨w.heap.size + 1 + 1, 0, none⟩) (by simp; omega) _).drew
    have yR : WF.ownsRow w.heap.size 5 1 (.slice Av J.length cv) J.length (U8 J) := by
      have r0 := x0.out.not_row (by decide) ROW.out
      have r1 := x1.out.not_row (by decide) ROW.out
      have r2 := x2.out.not_row (by decide) ROW.out
      rw [← hWF]
      exact ownsRow_setCell_other (ownsRow_setCell_other (ownsRow_setCell_other ROW.out (a := ⟨w.heap.size, 0, none⟩) (fun h => r0 h.symm) _) (a := ⟨w.heap.size + 1, 0, none⟩) (fun h => r1 h.symm) _) (a := ⟨w.heap.size + 1 + 1, 0, none⟩) (fun h => r2 h.symm) _
    rw [hWF]
    refine ⟨by simp, .inl ⟨_, _, rfl, run_takeDeferred hK', ?_⟩⟩
    have hc0 := cell_kept y0.cell (grownBy_putObj' WF D (.deferred none)) (fun r e => by cases e; exact ⟨_, hK', rfl⟩)
    have hc1 := cell_kept y1.cell (grownBy_putObj' WF D (.deferred none)) (fun r e => by cases e; exact ⟨_, hK', rfl⟩)
    have hc2 := cell_kept y2.cell (grownBy_putObj' WF D (.deferred none)) (fun r e => by cases e; exact ⟨_, hK', rfl⟩)
    refine ⟨.tuple #[.slice Av J.length cv, .int .i64 (S : Int), .int .i64 0], ?_, Av, cv, rfl, R8.own (ownsRow_putObj yR _ hK' rfl) HJb.out, own_nil yR, yB.trans (belowK_b (w := w) (Nat.le_refl _) WF D _ _ (by rw [hsz] at hD; omega) hK' rfl rfl)⟩
    simp [results, Try.f50, go_sem, hc0, hc1, hc2]
  case stop =>
    rintro D c0 pre W hD hpre ⟨⟨rfl, ini, last, e, e1, e2, e3, e4, e5, e6, e7⟩, hB⟩ hK
    have HA : (vd, vf, ve) = ([], 0, e) := by
      obtain ⟨rest, hrest⟩ := hpre
      rw [← HV.out, fin_pieces, ← hrest, e1, List.map_append, List.map_append, List.append_assoc]
      have h := allL_bad (ini.map fun x => pieceL (s + 2) l x.1) (rest.map fun x => pieceL (s + 2) l x.1) (pieceL (s + 2) l last.1) e2.out (by rw [e3.out]; exact e4)
      rw [e3.out] at h
      exact h
    obtain ⟨rfl, rfl, rfl⟩ : vd = [] ∧ vf = 0 ∧ ve = e := by
      simp only [Prod.mk.injEq] at HA
      exact HA
    clear HV HA hpre e1 e2 e3
    have x0 := Lib.hid e5
    have x1 := Lib.hid e6
    have x2 := Lib.hid e7
    clear e5 e6 e7
    gi_wp2
    refine ⟨by simp, .inl ⟨_, _, rfl, run_takeDeferred hK, ?_⟩⟩
    have hc0 := cell_kept x0.out.cell (grownBy_putObj' W D (.deferred none)) (fun r e => by cases e; exact ⟨_, hK, rfl⟩)
    have hc1 := cell_kept x1.out.cell (grownBy_putObj' W D (.deferred none)) (fun r e => by cases e; exact ⟨_, hK, rfl⟩)
    have hc2 := cell_kept x2.out.cell (grownBy_putObj' W D (.deferred none)) (fun r e => by cases e; exact ⟨_, hK, rfl⟩)
    refine ⟨.tuple #[.slice none 0 0, .int .i64 0, .int .i64 (ve : Int)], ?_, none, 0, rfl, ⟨Rd.nil_, fun x hx => by cases hx⟩, fun _ => rfl, hB.trans (belowK_b (w := w) (Nat.le_refl _) W D _ _ (by rw [hsz] at hD; omega) hK rfl rfl)⟩
    simp [results, Try.f50, go_sem, hc0, hc1, hc2]

theorem All_no (A : Option Addr) (n c : Nat) (x : Int) (w : World) (hDv : ∀ w', Calls Try.prog 69 #[.slice A n c, .int .i64 x] w' fun e w'' => e = .returned (.bool false) ∧ w' = w'') :
    Calls Try.prog 50 #[.slice A n c, .int .i64 x] w (Ret3 [] 0 2 w) := by
  go_enter Try.func50, Try.ntmps50
  go_wp2_with (go_at_call 69; refine (hDv _).mono ?_; rintro e w' ⟨rfl, rfl⟩)
  have b0 : Boxed (((w.alloc (.cells #[.slice none 0 0] 27)).alloc (.cells #[.int .i64 0] 3)).alloc (.cells #[.int .i64 2] 32)) w.heap.size 27 (.slice none 0 0) := ((Boxed.new w 27 (.slice none 0 0)).alloc _).alloc _
  have b1 : Boxed (((w.alloc (.cells #[.slice none 0 0] 27)).alloc (.cells #[.int .i64 0] 3)).alloc (.cells #[.int .i64 2] 32)) (w.heap.size + 1) 3 (.int .i64 0) := by
    have h := (Boxed.new (w.alloc (.cells #[.slice none 0 0] 27)) 3 (.int .i64 0)).alloc (.cells #[.int .i64 2] 32)
    rw [World.size_alloc] at h
    exact h
  have b2 : Boxed (((w.alloc (.cells #[.slice none 0 0] 27)).alloc (.cells #[.int .i64 0] 3)).alloc (.cells #[.int .i64 2] 32)) (w.heap.size + 1 + 1) 32 (.int .i64 2) := by
    have h := Boxed.new ((w.alloc (.cells #[.slice none 0 0] 27)).alloc (.cells #[.int .i64 0] 3)) 32 (.int .i64 2)
    simp only [World.size_alloc] at h
    exact h
  have hB : Below w.heap.size w (((w.alloc (.cells #[.slice none 0 0] 27)).alloc (.cells #[.int .i64 0] 3)).alloc (.cells #[.int .i64 2] 32)) := (((Below.refl _ w).alloc (Nat.le_refl _) _).alloc (by simp) _).alloc (by simp; omega) _
  generalize ((w.alloc (.cells #[.slice none 0 0] 27)).alloc (.cells #[.int .i64 0] 3)).alloc (.cells #[.int .i64 2] 32) = WF at *
  have c0 := b0.cell
  have c1 := b1.cell
  have c2 := b2.cell
  refine bodyPost_ret (v := .tuple #[.slice none 0 0, .int .i64 0, .int .i64 2]) ?_ rfl ?_
  · simp [results, Try.f50, go_sem, c0, c1, c2]
  · exact ⟨none, 0, rfl, ⟨Rd.nil_, fun x hx => by cases hx⟩, fun _ => rfl, hB⟩
end Go.Proofs.Ytgiihdeilkiphaa
