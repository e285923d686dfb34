/-
  The walk of the law ArrayPlays over the landed code, out of its callees' contracts.
-/
import Derived.Test.YtlmdhlogmfdokaaArrayFitsJ10
import Derived.Test.YtlmdhlogmfdokaaArrayFitsJ9
import Derived.Test.YtlmdhlogmfdokaaArrayFitsJArAw
namespace Go.Proofs.Ytlmdhlogmfdokaa
open Go.RowKit
set_option maxRecDepth 100000

/-- What is done, in memory: its bytes lie at a, m of them, room for c. -/
structure Dn where
  kind : Int
  at_ : Int
  a : Option Addr
  m : Nat
  c : Nat
  raw : List Nat
/-- A slice of what is done. -/
def DL (w : World) (A : Option Addr) (n : Nat) (l : List Dn) : Prop :=
  l.length = n ∧ (0 < n → ∃ b off, A = some ⟨b, off, none⟩ ∧ b < w.heap.size ∧ ∀ i d, l[i]? = some d → w.cell? ⟨b, off + i * 3, none⟩ = some (.int .i64 d.kind) ∧ w.cell? ⟨b, off + i * 3 + 1, none⟩ = some (.int .i64 d.at_) ∧ w.cell? ⟨b, off + i * 3 + 2, none⟩ = some (.slice d.a d.m d.c) ∧
    R8 w d.a d.m d.raw ∧ d.m ≤ 9223372036854775807)
theorem DL.below {w w' : World} {A : Option Addr} {n : Nat} {l : List Dn} (h : DL w A n l) (hb : Below w.heap.size w w') : DL w' A n l := by
  refine ⟨h.1, fun hn => ?_⟩
  obtain ⟨b, off, e, hlt, hc⟩ := h.2 hn
  refine ⟨b, off, e, Nat.lt_of_lt_of_le hlt hb.size, fun i d hd => ?_⟩
  obtain ⟨h0, h1, h2, h3, h4⟩ := hc i d hd
  exact ⟨(hb.cell hlt).trans h0, (hb.cell hlt).trans h1, (hb.cell hlt).trans h2, h3.below hb, h4⟩
theorem size_do : (Try.prog.info? 37).map (·.size) = some 3 := by kernel_rfl
set_option maxHeartbeats 8000000 in
theorem ArrayPlays_walk (g : Gm) (MA : Option Addr) (mn mc : Nat) (ms : List Int) (LA : Option Addr) (n lc : Nat) (ds : List Dn) (w : World) (hms : R64 w MA mn ms) (hdl : DL w LA n ds) (hmn : mn ≤ 9223372036854775807) (hn : n ≤ 9223372036854775807) :
    Calls Try.prog 3 #[g.val, .slice MA mn mc, .slice LA n lc] w (Gives (.bool true) w) := by
  have HMS := Lib.hid hms
  have HDL := Lib.hid hdl
  obtain ⟨v, hv, hS⟩ := Small13_any g w
  have Y0 := Lib.hid (GBox.new w g 23)
  have B0 := Lib.hid (below_new w (.cells #[.int .i64 g.p, .int .i64 g.b, .int .i64 g.s, .int .i64 g.c, .int .i64 g.k, .int .i64 g.r, .int .i64 g.q] 23))
  have HS := Lib.hid (fun w' => (Small13_any g w'))
  clear hms hdl hS hv
  unfold Gm.val at HS ⊢
  go_enter Try.func3, Try.ntmps3
  go_wp2_with fail
  refine (awake13_any _).mono ?_
  rintro _ w1 ⟨rfl, h1⟩
  have Y1 := Lib.hid (Y0.out.below h1)
  have B1 := Lib.hid (below_step B0.out h1)
  clear h1 Y0 B0
  obtain ⟨v, hv, hSm⟩ := HS.out w1
  obtain ⟨_, g0, g1, g2, g3, g4, g5, g6⟩ := Y1.out
  go_wp2_with fail
  refine hSm.mono ?_
  rintro _ w2 ⟨rfl, h2⟩
  have Y2 := Lib.hid (Y1.out.below h2)
  have B2 := Lib.hid (below_step B1.out h2)
  clear h2 Y1 B1 hSm HS g0 g1 g2 g3 g4 g5 g6
  cases v with
  | false =>
    clear hv
    go_wp2
    go_ret
    exact ⟨rfl, B2.out⟩
  | true =>
    have hsm := hv.1 rfl
    clear hv
    by_cases hm20 : (20 : Int) < (mn : Int)
    · have d1 : decide ((20 : Int) < (mn : Int)) = true := decide_eq_true hm20
      clear hsm
      go_wp2
      go_ret
      exact ⟨rfl, B2.out⟩
    have d1 : decide ((20 : Int) < (mn : Int)) = false := decide_eq_false hm20
    by_cases hn20 : (20 : Int) < (n : Int)
    · have d2 : decide ((20 : Int) < (n : Int)) = true := decide_eq_true hn20
      clear hsm
      go_wp2
      go_ret
      exact ⟨rfl, B2.out⟩
    have d2 : decide ((20 : Int) < (n : Int)) = false := decide_eq_false hn20
    have HSM := Lib.hid hsm
    have M2 := Lib.hid (HMS.out.below B2.out)
    have hmn2 : mn ≤ 1099511627776 := by omega
    clear hsm hm20 hn20
    obtain ⟨_, g0, g1, g2, g3, g4, g5, g6⟩ := Y2.out
    cases ho : g.ok with
    | false =>
      have HO := Lib.hid ho
      clear ho
      have hNb := NewBad_any g MA mn mc w2 HO.out
      unfold Gm.val at hNb
      go_wp2_with fail
      clear g0 g1 g2 g3 g4 g5 g6
      refine hNb.mono ?_
      rintro _ w3 h3
      obtain ⟨rfl, h3⟩ := h3
      have Y3 := Lib.hid (Y2.out.below h3)
      have B3 := Lib.hid (below_step B2.out h3)
      clear h3 hNb
      obtain ⟨_, g0, g1, g2, g3, g4, g5, g6⟩ := Y3.out
      have hRt := RefRight_any g w3
      rw [HO.out] at hRt
      unfold Gm.val at hRt
      go_wp2_with fail
      clear g0 g1 g2 g3 g4 g5 g6
      refine hRt.mono ?_
      rintro _ w4 ⟨rfl, h4⟩
      have B4 := Lib.hid (below_step B3.out h4)
      clear h4 hRt
      go_wp2
      go_ret
      exact ⟨rfl, B4.out⟩
    | true =>
      have HO := Lib.hid ho
      clear ho
      have HRaw := Lib.hid (raw_small HO.out HSM.out)
      have hNw := New_any g MA mn mc ms w2 HO.out HRaw.out M2.out (by omega)
      unfold Gm.val at hNw
      go_wp2_with fail
      clear g0 g1 g2 g3 g4 g5 g6
      refine hNw.mono ?_
      clear hNw
      rintro e3 w3 (⟨hgood, p, q, r, rfl, h3, b3, hp, hq, hr⟩ | ⟨hbad, rfl, b3⟩)
      · have A3 := Lib.hid h3
        have Y3 := Lib.hid (Y2.out.below b3)
        have B3 := Lib.hid (below_step B2.out b3)
        have M3 := Lib.hid (M2.out.below b3)
        have hp : w.heap.size ≤ p := Nat.le_trans B2.out.size hp
        have hq : w.heap.size ≤ q := Nat.le_trans B2.out.size hq
        have hr : w.heap.size ≤ r := Nat.le_trans B2.out.size hr
        have HGood := Lib.hid hgood
        clear h3 b3 hgood
        obtain ⟨_, g0, g1, g2, g3, g4, g5, g6⟩ := Y3.out
        have hRt := RefRight_any g w3
        rw [HO.out] at hRt
        unfold Gm.val at hRt
        go_wp2_with fail
        clear g0 g1 g2 g3 g4 g5 g6
        refine hRt.mono ?_
        rintro _ w4 ⟨rfl, h4⟩
        have A4 := Lib.hid (A3.out.below h4)
        have Y4 := Lib.hid (Y3.out.below h4)
        have B4 := Lib.hid (below_step B3.out h4)
        have M4 := Lib.hid (M3.out.below h4)
        clear h4 hRt A3 Y3 M3
        obtain ⟨_, g0, g1, g2, g3, g4, g5, g6⟩ := Y4.out
        have hRN := RNew_any g MA mn mc ms w4 HO.out HRaw.out M4.out (by omega) (fun j => j = p ∨ j = q ∨ j = r) (fun j hj => A4.out.lt j hj)
        unfold Gm.val at hRN
        go_wp2_with fail
        clear g0 g1 g2 g3 g4 g5 g6
        refine hRN.mono ?_
        clear hRN
        rintro e5 w5 (⟨_, k, rfl, h5, b5, k1, k2, k3, k4, k5⟩ | ⟨hbad, _, _⟩)
        · obtain ⟨I, hI⟩ : ∃ I : Nat → Prop, I = fun j => j = k.p ∨ k.J j ∨ (j = p ∨ j = q ∨ j = r) := ⟨_, rfl⟩
          rw [← hI] at h5
          have hA5 : AR I w5 p q r g (St.new g.raw.toNat (g.b * g.s).toNat g.s.toNat g.b.toNat ms) := by
            refine A4.out.widen b5 (fun j hj => by rw [hI]; exact .inr (.inr hj)) (fun j hj => ?_) h5.lt
            rw [hI] at hj
            rcases hj with rfl | (rfl | rfl | rfl | rfl) | hj
            · exact .inr k1
            · exact .inr k2
            · exact .inr k3
            · exact .inr k4
            · exact .inr k5
            · exact .inl hj
          have hpl := A4.out.lt p (.inl rfl)
          have hql := A4.out.lt q (.inr (.inl rfl))
          have hrl := A4.out.lt r (.inr (.inr rfl))
          have hs4 := B4.out.size
          have HIJ : Hid (∀ j, ArJ q r j → I j) := Lib.hid (by
            rintro j (rfl | rfl)
            · rw [hI]; exact .inr (.inr (.inr (.inl rfl)))
            · rw [hI]; exact .inr (.inr (.inr (.inr rfl))))
          have HKJ : Hid (∀ j, k.J j → I j) := Lib.hid (fun j hj => by rw [hI]; exact .inr (.inl hj))
          have HLow : Hid (∀ j, I j → w.heap.size ≤ j) := Lib.hid (by
            intro j hj
            rw [hI] at hj
            rcases hj with rfl | (rfl | rfl | rfl | rfl) | (rfl | rfl | rfl) <;> omega)
          have HDis : Hid (∀ j, ArJ q r j → I j ∧ j ≠ k.p ∧ ¬ k.J j) := Lib.hid (by
            intro j hj
            refine ⟨HIJ.out j hj, ?_, ?_⟩
            · rcases hj with rfl | rfl <;> omega
            · intro h9
              rcases hj with rfl | rfl <;> (rcases h9 with h9 | h9 | h9 | h9 <;> omega))
          have HDis2 : Hid (∀ j, k.J j → I j ∧ j ≠ p ∧ j ≠ q ∧ j ≠ r) := Lib.hid (by
            intro j hj
            refine ⟨HKJ.out j hj, ?_, ?_, ?_⟩ <;> (rcases hj with h9 | h9 | h9 | h9 <;> omega))
          have A5 := Lib.hid hA5
          have W5 := Lib.hid h5
          have B5 := Lib.hid (below_step B4.out b5)
          have HKR := Lib.hid h5.rr
          have hgb0 : 0 ≤ g.b := by have := h5.size; omega
          clear hA5 h5 b5 hI A4 M4 Y4 M2 Y2 B2 B3 B4 HMS hpl hql hrl hs4 k1 k2 k3 k4 k5 hp hq hr HRaw HSM HGood
          go_wp2_with fail
          refine (Same13_any A5.out W5.out).mono ?_
          rintro _ w6 ⟨rfl, h6⟩
          have A6 := Lib.hid (A5.out.below h6)
          have W6 := Lib.hid (W5.out.below h6)
          have B6 := Lib.hid (below_step B5.out h6)
          clear h6 A5 W5 B5
          go_wp2
          generalize St.new g.raw.toNat (g.b * g.s).toNat g.s.toNat g.b.toNat ms = s0 at *
          go_loopw [11, 12, 64] (fun _ _ i wr => ∃ (f : Nat) (s : St), f ≤ n ∧ i = .int .i64 (f : Int) ∧ Hid (AR I wr p q r g s) ∧ Hid (WR I wr k g s) ∧ Hid (Below w.heap.size w wr)) (fun _ _ i _ => n - (intOf i).toNat)
          case atStart => exact ⟨0, s0, Nat.zero_le _, rfl, A6, W6, B6⟩
          case round =>
            clear A6 W6 B6
            obtain ⟨f, s, hf, rfl, HA, HW, HB⟩ := hrel
            rename World => wr
            by_cases hlt : f < n
            · have d3 : decide ((f : Int) < (n : Int)) = true := decide_eq_true (by omega)
              obtain ⟨b9, o9, rfl, hb9, hc9⟩ := (HDL.out.below HB.out).2 (by omega)
              obtain ⟨d, hd⟩ : ∃ d, ds[f]? = some d := ⟨_, List.getElem?_eq_getElem (by rw [HDL.out.1]; exact hlt)⟩
              obtain ⟨x0, x1, x2, xr, xm⟩ := hc9 f d hd
              have hb0 : b9 < w.heap.size := by
                obtain ⟨b', off', e, hlt', _⟩ := HDL.out.2 (by omega)
                injection e with e
                injection e with e _
                omega
              have RD0 := Lib.hid xr
              have HNI : Hid (∀ b off, d.a = some ⟨b, off, none⟩ → 0 < d.m → ¬ I b) := Lib.hid (by
                intro b off e h0 hI
                obtain ⟨_, _, _, _, hcc⟩ := HDL.out.2 (by omega)
                have := HLow.out b hI
                have h9 := ((hcc f d hd).2.2.2.1).lt_block h0 b off e
                omega)
              have i0 : (0 : Int) ≤ (f : Int) := by omega
              have i1 : (f : Int) < (n : Int) := by omega
              have T0 := Lib.hid (CRow.new wr #[.int .i64 0, .int .i64 0, .slice none 0 0] 37)
              have B9 := Lib.hid (below_setRow (below_new wr (.cells #[.int .i64 0, .int .i64 0, .slice none 0 0] 37)) (Nat.le_refl _) #[.int .i64 d.kind, .int .i64 d.at_, .slice d.a d.m d.c])
              have CD := Lib.hid (T0.out.set #[.int .i64 d.kind, .int .i64 d.at_, .slice d.a d.m d.c])
              have hI0 := HA.out.lt
              have HLT : Hid (∀ j, I j → j < wr.heap.size) := Lib.hid hI0
              have HA5 := Lib.hid (HA.out.below B9.out)
              have HW5 := Lib.hid (HW.out.below B9.out)
              have B5 := Lib.hid (below_step HB.out B9.out)
              have RD5 := Lib.hid (RD0.out.below B9.out)
              have g0 := CD.out.cell_at 0 (.int .i64 d.kind) rfl
              have g1 := CD.out.cell_at 1 (.int .i64 d.at_) rfl
              have g2 := CD.out.cell_at 2 (.slice d.a d.m d.c) rfl
              clear xr hc9 B9 hI0 HA HW HB RD0
              by_cases h400 : (400 : Int) < (d.m : Int)
              · have d4 : decide ((400 : Int) < (d.m : Int)) = true := decide_eq_true h400
                go_wp2_with (with_reducible refine (?_ : wpList _ _ _ ({ dst := _, op := Op.store 37 _ _, type := _, pos := _, after := _, guard := _ } :: _) _ _); refine wpList_store_at rfl 37 _ _ rfl 3 size_do _ wr.heap.size ?hx rfl _ T0.out.row ?hn ?ho ?h1 ?_; (case hx => simp [Act.eval]); (case hn => simp); (case ho => simp); (case h1 => simp [Value.oneCell']))
                go_wp2
                go_ret
                exact ⟨rfl, B5.out⟩
              · have d4 : decide ((400 : Int) < (d.m : Int)) = false := decide_eq_false h400
                by_cases hk1 : d.kind = 1
                · have e1 : (d.kind == 1) = true := by rw [beq_iff_eq]; exact hk1
                  obtain ⟨e, s', HB1, HB2⟩ := both_program (I := I) (p := p) (q := q) (r := r) (k := k) (g := g) (s := s) HA5.out.nr HKR.out d.at_ d.a d.m d.c d.raw
                  have HB1 := Lib.hid HB1
                  have HB2 := Lib.hid HB2
                  clear hk1 
                  go_wp2_with (with_reducible refine (?_ : wpList _ _ _ ({ dst := _, op := Op.store 37 _ _, type := _, pos := _, after := _, guard := _ } :: _) _ _); refine wpList_store_at rfl 37 _ _ rfl 3 size_do _ wr.heap.size ?hx rfl _ T0.out.row ?hn ?ho ?h1 ?_; (case hx => simp [Act.eval]); (case hn => simp); (case ho => simp); (case h1 => simp [Value.oneCell']))
                  go_wp2
                  generalize ((wr.alloc (.cells #[.int .i64 0, .int .i64 0, .slice none 0 0] 37)).setRow wr.heap.size #[.int .i64 d.kind, .int .i64 d.at_, .slice d.a d.m d.c]) = WD at *
                  clear g0 g1 g2 x0 x1 x2 T0 e1
                  refine wp_region_noPanic ?_
                  refine wp_region_held_drew (S := fun w' => CRow w' wr.heap.size 37 #[.int .i64 d.kind, .int .i64 d.at_, .slice d.a d.m d.c]) (by kernel_rfl) (CD.out.drew) (fun C0 => ?_)
                  refine wpAnyH_take (i := 0) (oi := { dst := some 76, op := Op.move (Operand.tmp 7), type := 28, pos := "law.go:79", after := #[], guard := none }) (v := ?_) rfl (by kernel_rfl) (by kernel_rfl) (by kernel_rfl) (fun _ _ _ h => h) (Or.inl ⟨by rfl, ?_⟩) C0 ?_
                  rotate_left
                  · intro W' hSw
                    clear hSw
                    go_simp <;> with_reducible rfl
                  try simp only [Act.put, List.setIfInBounds_toArray, List.set_cons_zero, List.set_cons_succ]
                  refine wpAnyH_take (i := 1) (oi := { dst := some 77, op := Op.fieldAddr 37 (Operand.tmp 11) 1, type := 0, pos := "law.go:79", after := #[], guard := none }) (v := ?_) rfl (by kernel_rfl) (by kernel_rfl) (by kernel_rfl) (fun _ _ _ h => h) (Or.inl ⟨by rfl, ?_⟩) C0 ?_
                  rotate_left
                  · intro W' hSw
                    clear hSw
                    go_simp <;> with_reducible rfl
                  try simp only [Act.put, List.setIfInBounds_toArray, List.set_cons_zero, List.set_cons_succ]
                  refine wpAnyH_take (i := 2) (oi := { dst := some 78, op := Op.load 3 (Operand.tmp 77), type := 3, pos := "law.go:79", after := #[{ on := 1, ground := Ground.data }], guard := none }) (v := ?_) rfl (by kernel_rfl) (by kernel_rfl) (by kernel_rfl) (fun _ _ _ h => h) (Or.inl ⟨by rfl, ?_⟩) C0 ?_
                  rotate_left
                  · intro W' hSw
                    have y := hSw.cell_at 1 (.int .i64 d.at_) rfl
                    clear hSw
                    go_simp <;> with_reducible rfl
                  try simp only [Act.put, List.setIfInBounds_toArray, List.set_cons_zero, List.set_cons_succ]
                  refine wpAnyH_take (i := 3) (oi := { dst := some 79, op := Op.fieldAddr 37 (Operand.tmp 11) 2, type := 0, pos := "law.go:79", after := #[], guard := none }) (v := ?_) rfl (by kernel_rfl) (by kernel_rfl) (by kernel_rfl) (fun _ _ _ h => h) (Or.inl ⟨by rfl, ?_⟩) C0 ?_
                  rotate_left
                  · intro W' hSw
                    clear hSw
                    go_simp <;> with_reducible rfl
                  try simp only [Act.put, List.setIfInBounds_toArray, List.set_cons_zero, List.set_cons_succ]
                  refine wpAnyH_take (i := 4) (oi := { dst := some 80, op := Op.load 35 (Operand.tmp 79), type := 35, pos := "law.go:79", after := #[{ on := 3, ground := Ground.data }], guard := none }) (v := ?_) rfl (by kernel_rfl) (by kernel_rfl) (by kernel_rfl) (fun _ _ _ h => h) (Or.inl ⟨by rfl, ?_⟩) C0 ?_
                  rotate_left
                  · intro W' hSw
                    have y := hSw.cell_at 2 (.slice d.a d.m d.c) rfl
                    clear hSw
                    go_simp <;> with_reducible rfl
                  try simp only [Act.put, List.setIfInBounds_toArray, List.set_cons_zero, List.set_cons_succ]
                  refine wpAnyH_take (i := 6) (oi := { dst := some 82, op := Op.move (Operand.tmp 9), type := 32, pos := "law.go:79", after := #[], guard := none }) (v := ?_) rfl (by kernel_rfl) (by kernel_rfl) (by kernel_rfl) (fun _ _ _ h => h) (Or.inl ⟨by rfl, ?_⟩) C0 ?_
                  rotate_left
                  · intro W' hSw
                    clear hSw
                    go_simp <;> with_reducible rfl
                  try simp only [Act.put, List.setIfInBounds_toArray, List.set_cons_zero, List.set_cons_succ]
                  refine wpAnyH_take (i := 7) (oi := { dst := some 83, op := Op.fieldAddr 37 (Operand.tmp 11) 1, type := 0, pos := "law.go:79", after := #[], guard := none }) (v := ?_) rfl (by kernel_rfl) (by kernel_rfl) (by kernel_rfl) (fun _ _ _ h => h) (Or.inl ⟨by rfl, ?_⟩) C0 ?_
                  rotate_left
                  · intro W' hSw
                    clear hSw
                    go_simp <;> with_reducible rfl
                  try simp only [Act.put, List.setIfInBounds_toArray, List.set_cons_zero, List.set_cons_succ]
                  refine wpAnyH_take (i := 8) (oi := { dst := some 84, op := Op.load 3 (Operand.tmp 83), type := 3, pos := "law.go:79", after := #[{ on := 7, ground := Ground.data }], guard := none }) (v := ?_) rfl (by kernel_rfl) (by kernel_rfl) (by kernel_rfl) (fun _ _ _ h => h) (Or.inl ⟨by rfl, ?_⟩) C0 ?_
                  rotate_left
                  · intro W' hSw
                    have y := hSw.cell_at 1 (.int .i64 d.at_) rfl
                    clear hSw
                    go_simp <;> with_reducible rfl
                  try simp only [Act.put, List.setIfInBounds_toArray, List.set_cons_zero, List.set_cons_succ]
                  refine wpAnyH_take (i := 9) (oi := { dst := some 85, op := Op.fieldAddr 37 (Operand.tmp 11) 2, type := 0, pos := "law.go:79", after := #[], guard := none }) (v := ?_) rfl (by kernel_rfl) (by kernel_rfl) (by kernel_rfl) (fun _ _ _ h => h) (Or.inl ⟨by rfl, ?_⟩) C0 ?_
                  rotate_left
                  · intro W' hSw
                    clear hSw
                    go_simp <;> with_reducible rfl
                  try simp only [Act.put, List.setIfInBounds_toArray, List.set_cons_zero, List.set_cons_succ]
                  refine wpAnyH_take (i := 10) (oi := { dst := some 86, op := Op.load 35 (Operand.tmp 85), type := 35, pos := "law.go:79", after := #[{ on := 9, ground := Ground.data }], guard := none }) (v := ?_) rfl (by kernel_rfl) (by kernel_rfl) (by kernel_rfl) (fun _ _ _ h => h) (Or.inl ⟨by rfl, ?_⟩) C0 ?_
                  rotate_left
                  · intro W' hSw
                    have y := hSw.cell_at 2 (.slice d.a d.m d.c) rfl
                    clear hSw
                    go_simp <;> with_reducible rfl
                  try simp only [Act.put, List.setIfInBounds_toArray, List.set_cons_zero, List.set_cons_succ]
                  refine wpAnyH_ready (rs := [5]) (by kernel_rfl) (by simp) ?_
                  refine AllReadyH.cons (o := { dst := some 81, op := Op.call { callee := Callee.value (Operand.func 12), args := #[Operand.tmp 76, Operand.tmp 78, Operand.tmp 80], argTypes := #[28, 3, 35] }, type := 29, pos := "law.go:79", after := #[{ on := 0, ground := Ground.data }, { on := 2, ground := Ground.data }, { on := 4, ground := Ground.data }], guard := none }) rfl (fun K hK => ?_) AllReadyH.nil
                  go_simp
                  refine (HB1.out _ (HA5.out.below ((Below.refl _ _).drew)) ((RD5.out.btw0 (Btw.of_below (I := fun _ => False) ((Below.refl _ _).drew)) (fun _ _ _ _ h => h)))).mono ?_
                  rintro _ w7 ⟨rfl, h7, b7⟩
                  have HA7 := Lib.hid h7
                  have HW7 := Lib.hid ((HW5.out.below ((Below.refl _ _).drew)).btw b7 (fun j hj => HDis.out j hj))
                  have CD7 := Lib.hid (CD.out.drew.btw b7 (fun hj => Nat.lt_irrefl _ (HLT.out _ (HIJ.out _ hj))))
                  have B7 := Lib.hid (B5.out.drew.trans (b7.below (S := w.heap.size) (fun j hj => HLow.out j (HIJ.out j hj)) B5.out.drew.size))
                  have T7 := Lib.hid (show Btw I WD w7 from (Btw.of_below ((Below.refl _ _).drew)).trans b7 (fun j _ hj => HIJ.out j hj))
                  clear h7 b7
                  go_wp2_with fail
                  refine hK.out _ _ CD7.out (fun C1 => ?_)
                  clear hK K
                  try simp only [Act.put, List.setIfInBounds_toArray, List.set_cons_zero, List.set_cons_succ]
                  refine wpAnyH_ready (rs := [11]) (by kernel_rfl) (by simp) ?_
                  refine AllReadyH.cons (o := { dst := some 87, op := Op.call { callee := Callee.value (Operand.func 13), args := #[Operand.tmp 82, Operand.tmp 84, Operand.tmp 86], argTypes := #[32, 3, 35] }, type := 3, pos := "law.go:79", after := #[{ on := 6, ground := Ground.data }, { on := 8, ground := Ground.data }, { on := 10, ground := Ground.data }, { on := 5, ground := Ground.chain }], guard := none }) rfl (fun K hK => ?_) AllReadyH.nil
                  go_simp
                  refine (HB2.out _ HW7.out (RD5.out.btw0 T7.out HNI.out)).mono ?_
                  rintro _ w8 ⟨rfl, h8, b8⟩
                  have HW8 := Lib.hid h8
                  have HA8 := Lib.hid (HA7.out.btw b8 (fun j hj => HDis2.out j hj))
                  have CD8 := Lib.hid (CD7.out.btw b8 (fun hj => Nat.lt_irrefl _ (HLT.out _ (HKJ.out _ hj))))
                  have B8 := Lib.hid (B7.out.trans (b8.below (S := w.heap.size) (fun j hj => HLow.out j (HKJ.out j hj)) B7.out.size))
                  clear h8 b8
                  go_wp2_with fail
                  refine hK.out _ _ CD8.out (fun C2 => ?_)
                  clear hK K
                  try simp only [Act.put, List.setIfInBounds_toArray, List.set_cons_zero, List.set_cons_succ]
                  refine wpAnyH_take (i := 12) (oi := { dst := some 88, op := Op.binOp BinOp.eql 3 (Operand.tmp 81) (Operand.tmp 87) 3, type := 4, pos := "law.go:79", after := #[{ on := 5, ground := Ground.data }, { on := 11, ground := Ground.data }], guard := none }) (v := ?_) rfl (by kernel_rfl) (by kernel_rfl) (by kernel_rfl) (fun _ _ _ h => h) (Or.inl ⟨by rfl, ?_⟩) C2 ?_
                  rotate_left
                  · intro W' hSw
                    clear hSw
                    go_simp <;> with_reducible rfl
                  try simp only [Act.put, List.setIfInBounds_toArray, List.set_cons_zero, List.set_cons_succ]
                  refine wpAnyH_take (i := 13) (oi := { dst := some 12, op := Op.assign (Operand.tmp 88), type := 4, pos := "law.go:79", after := #[{ on := 12, ground := Ground.data }, { on := 11, ground := Ground.chain }, { on := 0, ground := Ground.phase }, { on := 1, ground := Ground.phase }, { on := 2, ground := Ground.phase }, { on := 3, ground := Ground.phase }, { on := 4, ground := Ground.phase }, { on := 5, ground := Ground.phase }, { on := 6, ground := Ground.phase }, { on := 7, ground := Ground.phase }, { on := 8, ground := Ground.phase }, { on := 9, ground := Ground.phase }, { on := 10, ground := Ground.phase }, { on := 11, ground := Ground.phase }, { on := 12, ground := Ground.phase }], guard := none }) (v := ?_) rfl (by kernel_rfl) (by kernel_rfl) (by kernel_rfl) (fun _ _ _ h => h) (Or.inl ⟨by rfl, ?_⟩) C2 ?_
                  rotate_left
                  · intro W' hSw
                    clear hSw
                    go_simp <;> with_reducible rfl
                  try simp only [Act.put, List.setIfInBounds_toArray, List.set_cons_zero, List.set_cons_succ]
                  refine wpAnyH_done (by kernel_rfl) ?_ _
                  refine NoPanic.normal ?_
                  go_wp2
                  go_roundw
                  case rel => first | exact ⟨f + 1, s', by omega, by go_num, HA8, HW8, B8⟩ | exact ⟨f + 1, s', by omega, by go_num, HA8, HW8⟩
                  case measure => simp [intOf]; omega
                by_cases hk2 : d.kind = 2
                · have e2 : (d.kind == 2) = true := by rw [beq_iff_eq]; exact hk2
                  have e1 : (d.kind == 1) = false := by rw [beq_eq_false_iff_ne]; exact hk1
                  obtain ⟨e, s', HB1, HB2⟩ := both_tear (I := I) (p := p) (q := q) (r := r) (k := k) (g := g) (s := s) HA5.out.nr HKR.out d.at_ d.a d.m d.c d.raw
                  have HB1 := Lib.hid HB1
                  have HB2 := Lib.hid HB2
                  clear hk2 hk1
                  go_wp2_with (with_reducible refine (?_ : wpList _ _ _ ({ dst := _, op := Op.store 37 _ _, type := _, pos := _, after := _, guard := _ } :: _) _ _); refine wpList_store_at rfl 37 _ _ rfl 3 size_do _ wr.heap.size ?hx rfl _ T0.out.row ?hn ?ho ?h1 ?_; (case hx => simp [Act.eval]); (case hn => simp); (case ho => simp); (case h1 => simp [Value.oneCell']))
                  go_wp2
                  generalize ((wr.alloc (.cells #[.int .i64 0, .int .i64 0, .slice none 0 0] 37)).setRow wr.heap.size #[.int .i64 d.kind, .int .i64 d.at_, .slice d.a d.m d.c]) = WD at *
                  clear g0 g1 g2 x0 x1 x2 T0 e1 e2
                  refine wp_region_noPanic ?_
                  refine wp_region_held_drew (S := fun w' => CRow w' wr.heap.size 37 #[.int .i64 d.kind, .int .i64 d.at_, .slice d.a d.m d.c]) (by kernel_rfl) (CD.out.drew) (fun C0 => ?_)
                  refine wpAnyH_take (i := 0) (oi := { dst := some 91, op := Op.move (Operand.tmp 7), type := 28, pos := "law.go:81", after := #[], guard := none }) (v := ?_) rfl (by kernel_rfl) (by kernel_rfl) (by kernel_rfl) (fun _ _ _ h => h) (Or.inl ⟨by rfl, ?_⟩) C0 ?_
                  rotate_left
                  · intro W' hSw
                    clear hSw
                    go_simp <;> with_reducible rfl
                  try simp only [Act.put, List.setIfInBounds_toArray, List.set_cons_zero, List.set_cons_succ]
                  refine wpAnyH_take (i := 1) (oi := { dst := some 92, op := Op.fieldAddr 37 (Operand.tmp 11) 1, type := 0, pos := "law.go:81", after := #[], guard := none }) (v := ?_) rfl (by kernel_rfl) (by kernel_rfl) (by kernel_rfl) (fun _ _ _ h => h) (Or.inl ⟨by rfl, ?_⟩) C0 ?_
                  rotate_left
                  · intro W' hSw
                    clear hSw
                    go_simp <;> with_reducible rfl
                  try simp only [Act.put, List.setIfInBounds_toArray, List.set_cons_zero, List.set_cons_succ]
                  refine wpAnyH_take (i := 2) (oi := { dst := some 93, op := Op.load 3 (Operand.tmp 92), type := 3, pos := "law.go:81", after := #[{ on := 1, ground := Ground.data }], guard := none }) (v := ?_) rfl (by kernel_rfl) (by kernel_rfl) (by kernel_rfl) (fun _ _ _ h => h) (Or.inl ⟨by rfl, ?_⟩) C0 ?_
                  rotate_left
                  · intro W' hSw
                    have y := hSw.cell_at 1 (.int .i64 d.at_) rfl
                    clear hSw
                    go_simp <;> with_reducible rfl
                  try simp only [Act.put, List.setIfInBounds_toArray, List.set_cons_zero, List.set_cons_succ]
                  refine wpAnyH_take (i := 3) (oi := { dst := some 94, op := Op.fieldAddr 37 (Operand.tmp 11) 2, type := 0, pos := "law.go:81", after := #[], guard := none }) (v := ?_) rfl (by kernel_rfl) (by kernel_rfl) (by kernel_rfl) (fun _ _ _ h => h) (Or.inl ⟨by rfl, ?_⟩) C0 ?_
                  rotate_left
                  · intro W' hSw
                    clear hSw
                    go_simp <;> with_reducible rfl
                  try simp only [Act.put, List.setIfInBounds_toArray, List.set_cons_zero, List.set_cons_succ]
                  refine wpAnyH_take (i := 4) (oi := { dst := some 95, op := Op.load 35 (Operand.tmp 94), type := 35, pos := "law.go:81", after := #[{ on := 3, ground := Ground.data }], guard := none }) (v := ?_) rfl (by kernel_rfl) (by kernel_rfl) (by kernel_rfl) (fun _ _ _ h => h) (Or.inl ⟨by rfl, ?_⟩) C0 ?_
                  rotate_left
                  · intro W' hSw
                    have y := hSw.cell_at 2 (.slice d.a d.m d.c) rfl
                    clear hSw
                    go_simp <;> with_reducible rfl
                  try simp only [Act.put, List.setIfInBounds_toArray, List.set_cons_zero, List.set_cons_succ]
                  refine wpAnyH_take (i := 6) (oi := { dst := some 97, op := Op.move (Operand.tmp 9), type := 32, pos := "law.go:81", after := #[], guard := none }) (v := ?_) rfl (by kernel_rfl) (by kernel_rfl) (by kernel_rfl) (fun _ _ _ h => h) (Or.inl ⟨by rfl, ?_⟩) C0 ?_
                  rotate_left
                  · intro W' hSw
                    clear hSw
                    go_simp <;> with_reducible rfl
                  try simp only [Act.put, List.setIfInBounds_toArray, List.set_cons_zero, List.set_cons_succ]
                  refine wpAnyH_take (i := 7) (oi := { dst := some 98, op := Op.fieldAddr 37 (Operand.tmp 11) 1, type := 0, pos := "law.go:81", after := #[], guard := none }) (v := ?_) rfl (by kernel_rfl) (by kernel_rfl) (by kernel_rfl) (fun _ _ _ h => h) (Or.inl ⟨by rfl, ?_⟩) C0 ?_
                  rotate_left
                  · intro W' hSw
                    clear hSw
                    go_simp <;> with_reducible rfl
                  try simp only [Act.put, List.setIfInBounds_toArray, List.set_cons_zero, List.set_cons_succ]
                  refine wpAnyH_take (i := 8) (oi := { dst := some 99, op := Op.load 3 (Operand.tmp 98), type := 3, pos := "law.go:81", after := #[{ on := 7, ground := Ground.data }], guard := none }) (v := ?_) rfl (by kernel_rfl) (by kernel_rfl) (by kernel_rfl) (fun _ _ _ h => h) (Or.inl ⟨by rfl, ?_⟩) C0 ?_
                  rotate_left
                  · intro W' hSw
                    have y := hSw.cell_at 1 (.int .i64 d.at_) rfl
                    clear hSw
                    go_simp <;> with_reducible rfl
                  try simp only [Act.put, List.setIfInBounds_toArray, List.set_cons_zero, List.set_cons_succ]
                  refine wpAnyH_take (i := 9) (oi := { dst := some 100, op := Op.fieldAddr 37 (Operand.tmp 11) 2, type := 0, pos := "law.go:81", after := #[], guard := none }) (v := ?_) rfl (by kernel_rfl) (by kernel_rfl) (by kernel_rfl) (fun _ _ _ h => h) (Or.inl ⟨by rfl, ?_⟩) C0 ?_
                  rotate_left
                  · intro W' hSw
                    clear hSw
                    go_simp <;> with_reducible rfl
                  try simp only [Act.put, List.setIfInBounds_toArray, List.set_cons_zero, List.set_cons_succ]
                  refine wpAnyH_take (i := 10) (oi := { dst := some 101, op := Op.load 35 (Operand.tmp 100), type := 35, pos := "law.go:81", after := #[{ on := 9, ground := Ground.data }], guard := none }) (v := ?_) rfl (by kernel_rfl) (by kernel_rfl) (by kernel_rfl) (fun _ _ _ h => h) (Or.inl ⟨by rfl, ?_⟩) C0 ?_
                  rotate_left
                  · intro W' hSw
                    have y := hSw.cell_at 2 (.slice d.a d.m d.c) rfl
                    clear hSw
                    go_simp <;> with_reducible rfl
                  try simp only [Act.put, List.setIfInBounds_toArray, List.set_cons_zero, List.set_cons_succ]
                  refine wpAnyH_ready (rs := [5]) (by kernel_rfl) (by simp) ?_
                  refine AllReadyH.cons (o := { dst := some 96, op := Op.call { callee := Callee.value (Operand.func 14), args := #[Operand.tmp 91, Operand.tmp 93, Operand.tmp 95], argTypes := #[28, 3, 35] }, type := 29, pos := "law.go:81", after := #[{ on := 0, ground := Ground.data }, { on := 2, ground := Ground.data }, { on := 4, ground := Ground.data }], guard := none }) rfl (fun K hK => ?_) AllReadyH.nil
                  go_simp
                  refine (HB1.out _ (HA5.out.below ((Below.refl _ _).drew)) ((RD5.out.btw0 (Btw.of_below (I := fun _ => False) ((Below.refl _ _).drew)) (fun _ _ _ _ h => h)))).mono ?_
                  rintro _ w7 ⟨rfl, h7, b7⟩
                  have HA7 := Lib.hid h7
                  have HW7 := Lib.hid ((HW5.out.below ((Below.refl _ _).drew)).btw b7 (fun j hj => HDis.out j hj))
                  have CD7 := Lib.hid (CD.out.drew.btw b7 (fun hj => Nat.lt_irrefl _ (HLT.out _ (HIJ.out _ hj))))
                  have B7 := Lib.hid (B5.out.drew.trans (b7.below (S := w.heap.size) (fun j hj => HLow.out j (HIJ.out j hj)) B5.out.drew.size))
                  have T7 := Lib.hid (show Btw I WD w7 from (Btw.of_below ((Below.refl _ _).drew)).trans b7 (fun j _ hj => HIJ.out j hj))
                  clear h7 b7
                  go_wp2_with fail
                  refine hK.out _ _ CD7.out (fun C1 => ?_)
                  clear hK K
                  try simp only [Act.put, List.setIfInBounds_toArray, List.set_cons_zero, List.set_cons_succ]
                  refine wpAnyH_ready (rs := [11]) (by kernel_rfl) (by simp) ?_
                  refine AllReadyH.cons (o := { dst := some 102, op := Op.call { callee := Callee.value (Operand.func 15), args := #[Operand.tmp 97, Operand.tmp 99, Operand.tmp 101], argTypes := #[32, 3, 35] }, type := 3, pos := "law.go:81", after := #[{ on := 6, ground := Ground.data }, { on := 8, ground := Ground.data }, { on := 10, ground := Ground.data }, { on := 5, ground := Ground.chain }], guard := none }) rfl (fun K hK => ?_) AllReadyH.nil
                  go_simp
                  refine (HB2.out _ HW7.out (RD5.out.btw0 T7.out HNI.out)).mono ?_
                  rintro _ w8 ⟨rfl, h8, b8⟩
                  have HW8 := Lib.hid h8
                  have HA8 := Lib.hid (HA7.out.btw b8 (fun j hj => HDis2.out j hj))
                  have CD8 := Lib.hid (CD7.out.btw b8 (fun hj => Nat.lt_irrefl _ (HLT.out _ (HKJ.out _ hj))))
                  have B8 := Lib.hid (B7.out.trans (b8.below (S := w.heap.size) (fun j hj => HLow.out j (HKJ.out j hj)) B7.out.size))
                  clear h8 b8
                  go_wp2_with fail
                  refine hK.out _ _ CD8.out (fun C2 => ?_)
                  clear hK K
                  try simp only [Act.put, List.setIfInBounds_toArray, List.set_cons_zero, List.set_cons_succ]
                  refine wpAnyH_take (i := 12) (oi := { dst := some 103, op := Op.binOp BinOp.eql 3 (Operand.tmp 96) (Operand.tmp 102) 3, type := 4, pos := "law.go:81", after := #[{ on := 5, ground := Ground.data }, { on := 11, ground := Ground.data }], guard := none }) (v := ?_) rfl (by kernel_rfl) (by kernel_rfl) (by kernel_rfl) (fun _ _ _ h => h) (Or.inl ⟨by rfl, ?_⟩) C2 ?_
                  rotate_left
                  · intro W' hSw
                    clear hSw
                    go_simp <;> with_reducible rfl
                  try simp only [Act.put, List.setIfInBounds_toArray, List.set_cons_zero, List.set_cons_succ]
                  refine wpAnyH_take (i := 13) (oi := { dst := some 12, op := Op.assign (Operand.tmp 103), type := 4, pos := "law.go:81", after := #[{ on := 12, ground := Ground.data }, { on := 11, ground := Ground.chain }, { on := 0, ground := Ground.phase }, { on := 1, ground := Ground.phase }, { on := 2, ground := Ground.phase }, { on := 3, ground := Ground.phase }, { on := 4, ground := Ground.phase }, { on := 5, ground := Ground.phase }, { on := 6, ground := Ground.phase }, { on := 7, ground := Ground.phase }, { on := 8, ground := Ground.phase }, { on := 9, ground := Ground.phase }, { on := 10, ground := Ground.phase }, { on := 11, ground := Ground.phase }, { on := 12, ground := Ground.phase }], guard := none }) (v := ?_) rfl (by kernel_rfl) (by kernel_rfl) (by kernel_rfl) (fun _ _ _ h => h) (Or.inl ⟨by rfl, ?_⟩) C2 ?_
                  rotate_left
                  · intro W' hSw
                    clear hSw
                    go_simp <;> with_reducible rfl
                  try simp only [Act.put, List.setIfInBounds_toArray, List.set_cons_zero, List.set_cons_succ]
                  refine wpAnyH_done (by kernel_rfl) ?_ _
                  refine NoPanic.normal ?_
                  go_wp2
                  go_roundw
                  case rel => first | exact ⟨f + 1, s', by omega, by go_num, HA8, HW8, B8⟩ | exact ⟨f + 1, s', by omega, by go_num, HA8, HW8⟩
                  case measure => simp [intOf]; omega
                by_cases hk3 : d.kind = 3
                · have e3 : (d.kind == 3) = true := by rw [beq_iff_eq]; exact hk3
                  have e1 : (d.kind == 1) = false := by rw [beq_eq_false_iff_ne]; exact hk1
                  have e2 : (d.kind == 2) = false := by rw [beq_eq_false_iff_ne]; exact hk2
                  obtain ⟨e, s', HB1, HB2⟩ := both_erase (I := I) (p := p) (q := q) (r := r) (k := k) (g := g) (s := s) hgb0 d.at_
                  have HB1 := Lib.hid HB1
                  have HB2 := Lib.hid HB2
                  clear hk3 hk1 hk2
                  go_wp2_with (with_reducible refine (?_ : wpList _ _ _ ({ dst := _, op := Op.store 37 _ _, type := _, pos := _, after := _, guard := _ } :: _) _ _); refine wpList_store_at rfl 37 _ _ rfl 3 size_do _ wr.heap.size ?hx rfl _ T0.out.row ?hn ?ho ?h1 ?_; (case hx => simp [Act.eval]); (case hn => simp); (case ho => simp); (case h1 => simp [Value.oneCell']))
                  go_wp2
                  generalize ((wr.alloc (.cells #[.int .i64 0, .int .i64 0, .slice none 0 0] 37)).setRow wr.heap.size #[.int .i64 d.kind, .int .i64 d.at_, .slice d.a d.m d.c]) = WD at *
                  clear g0 g1 g2 x0 x1 x2 T0 e1 e2 e3
                  refine wp_region_noPanic ?_
                  refine wp_region_held_drew (S := fun w' => CRow w' wr.heap.size 37 #[.int .i64 d.kind, .int .i64 d.at_, .slice d.a d.m d.c]) (by kernel_rfl) (CD.out.drew) (fun C0 => ?_)
                  refine wpAnyH_take (i := 0) (oi := { dst := some 106, op := Op.move (Operand.tmp 7), type := 28, pos := "law.go:83", after := #[], guard := none }) (v := ?_) rfl (by kernel_rfl) (by kernel_rfl) (by kernel_rfl) (fun _ _ _ h => h) (Or.inl ⟨by rfl, ?_⟩) C0 ?_
                  rotate_left
                  · intro W' hSw
                    clear hSw
                    go_simp <;> with_reducible rfl
                  try simp only [Act.put, List.setIfInBounds_toArray, List.set_cons_zero, List.set_cons_succ]
                  refine wpAnyH_take (i := 1) (oi := { dst := some 107, op := Op.fieldAddr 37 (Operand.tmp 11) 1, type := 0, pos := "law.go:83", after := #[], guard := none }) (v := ?_) rfl (by kernel_rfl) (by kernel_rfl) (by kernel_rfl) (fun _ _ _ h => h) (Or.inl ⟨by rfl, ?_⟩) C0 ?_
                  rotate_left
                  · intro W' hSw
                    clear hSw
                    go_simp <;> with_reducible rfl
                  try simp only [Act.put, List.setIfInBounds_toArray, List.set_cons_zero, List.set_cons_succ]
                  refine wpAnyH_take (i := 2) (oi := { dst := some 108, op := Op.load 3 (Operand.tmp 107), type := 3, pos := "law.go:83", after := #[{ on := 1, ground := Ground.data }], guard := none }) (v := ?_) rfl (by kernel_rfl) (by kernel_rfl) (by kernel_rfl) (fun _ _ _ h => h) (Or.inl ⟨by rfl, ?_⟩) C0 ?_
                  rotate_left
                  · intro W' hSw
                    have y := hSw.cell_at 1 (.int .i64 d.at_) rfl
                    clear hSw
                    go_simp <;> with_reducible rfl
                  try simp only [Act.put, List.setIfInBounds_toArray, List.set_cons_zero, List.set_cons_succ]
                  refine wpAnyH_take (i := 4) (oi := { dst := some 110, op := Op.move (Operand.tmp 9), type := 32, pos := "law.go:83", after := #[], guard := none }) (v := ?_) rfl (by kernel_rfl) (by kernel_rfl) (by kernel_rfl) (fun _ _ _ h => h) (Or.inl ⟨by rfl, ?_⟩) C0 ?_
                  rotate_left
                  · intro W' hSw
                    clear hSw
                    go_simp <;> with_reducible rfl
                  try simp only [Act.put, List.setIfInBounds_toArray, List.set_cons_zero, List.set_cons_succ]
                  refine wpAnyH_take (i := 5) (oi := { dst := some 111, op := Op.fieldAddr 37 (Operand.tmp 11) 1, type := 0, pos := "law.go:83", after := #[], guard := none }) (v := ?_) rfl (by kernel_rfl) (by kernel_rfl) (by kernel_rfl) (fun _ _ _ h => h) (Or.inl ⟨by rfl, ?_⟩) C0 ?_
                  rotate_left
                  · intro W' hSw
                    clear hSw
                    go_simp <;> with_reducible rfl
                  try simp only [Act.put, List.setIfInBounds_toArray, List.set_cons_zero, List.set_cons_succ]
                  refine wpAnyH_take (i := 6) (oi := { dst := some 112, op := Op.load 3 (Operand.tmp 111), type := 3, pos := "law.go:83", after := #[{ on := 5, ground := Ground.data }], guard := none }) (v := ?_) rfl (by kernel_rfl) (by kernel_rfl) (by kernel_rfl) (fun _ _ _ h => h) (Or.inl ⟨by rfl, ?_⟩) C0 ?_
                  rotate_left
                  · intro W' hSw
                    have y := hSw.cell_at 1 (.int .i64 d.at_) rfl
                    clear hSw
                    go_simp <;> with_reducible rfl
                  try simp only [Act.put, List.setIfInBounds_toArray, List.set_cons_zero, List.set_cons_succ]
                  refine wpAnyH_ready (rs := [3]) (by kernel_rfl) (by simp) ?_
                  refine AllReadyH.cons (o := { dst := some 109, op := Op.call { callee := Callee.value (Operand.func 16), args := #[Operand.tmp 106, Operand.tmp 108], argTypes := #[28, 3] }, type := 29, pos := "law.go:83", after := #[{ on := 0, ground := Ground.data }, { on := 2, ground := Ground.data }], guard := none }) rfl (fun K hK => ?_) AllReadyH.nil
                  go_simp
                  refine (HB1.out _ (HA5.out.below ((Below.refl _ _).drew)) trivial).mono ?_
                  rintro _ w7 ⟨rfl, h7, b7⟩
                  have HA7 := Lib.hid h7
                  have HW7 := Lib.hid ((HW5.out.below ((Below.refl _ _).drew)).btw b7 (fun j hj => HDis.out j hj))
                  have CD7 := Lib.hid (CD.out.drew.btw b7 (fun hj => Nat.lt_irrefl _ (HLT.out _ (HIJ.out _ hj))))
                  have B7 := Lib.hid (B5.out.drew.trans (b7.below (S := w.heap.size) (fun j hj => HLow.out j (HIJ.out j hj)) B5.out.drew.size))
                  have T7 := Lib.hid (show Btw I WD w7 from (Btw.of_below ((Below.refl _ _).drew)).trans b7 (fun j _ hj => HIJ.out j hj))
                  clear h7 b7
                  go_wp2_with fail
                  refine hK.out _ _ CD7.out (fun C1 => ?_)
                  clear hK K
                  try simp only [Act.put, List.setIfInBounds_toArray, List.set_cons_zero, List.set_cons_succ]
                  refine wpAnyH_ready (rs := [7]) (by kernel_rfl) (by simp) ?_
                  refine AllReadyH.cons (o := { dst := some 113, op := Op.call { callee := Callee.value (Operand.func 17), args := #[Operand.tmp 110, Operand.tmp 112], argTypes := #[32, 3] }, type := 3, pos := "law.go:83", after := #[{ on := 4, ground := Ground.data }, { on := 6, ground := Ground.data }, { on := 3, ground := Ground.chain }], guard := none }) rfl (fun K hK => ?_) AllReadyH.nil
                  go_simp
                  refine (HB2.out _ HW7.out trivial).mono ?_
                  rintro _ w8 ⟨rfl, h8, b8⟩
                  have HW8 := Lib.hid h8
                  have HA8 := Lib.hid (HA7.out.btw b8 (fun j hj => HDis2.out j hj))
                  have CD8 := Lib.hid (CD7.out.btw b8 (fun hj => Nat.lt_irrefl _ (HLT.out _ (HKJ.out _ hj))))
                  have B8 := Lib.hid (B7.out.trans (b8.below (S := w.heap.size) (fun j hj => HLow.out j (HKJ.out j hj)) B7.out.size))
                  clear h8 b8
                  go_wp2_with fail
                  refine hK.out _ _ CD8.out (fun C2 => ?_)
                  clear hK K
                  try simp only [Act.put, List.setIfInBounds_toArray, List.set_cons_zero, List.set_cons_succ]
                  refine wpAnyH_take (i := 8) (oi := { dst := some 114, op := Op.binOp BinOp.eql 3 (Operand.tmp 109) (Operand.tmp 113) 3, type := 4, pos := "law.go:83", after := #[{ on := 3, ground := Ground.data }, { on := 7, ground := Ground.data }], guard := none }) (v := ?_) rfl (by kernel_rfl) (by kernel_rfl) (by kernel_rfl) (fun _ _ _ h => h) (Or.inl ⟨by rfl, ?_⟩) C2 ?_
                  rotate_left
                  · intro W' hSw
                    clear hSw
                    go_simp <;> with_reducible rfl
                  try simp only [Act.put, List.setIfInBounds_toArray, List.set_cons_zero, List.set_cons_succ]
                  refine wpAnyH_take (i := 9) (oi := { dst := some 12, op := Op.assign (Operand.tmp 114), type := 4, pos := "law.go:83", after := #[{ on := 8, ground := Ground.data }, { on := 7, ground := Ground.chain }, { on := 0, ground := Ground.phase }, { on := 1, ground := Ground.phase }, { on := 2, ground := Ground.phase }, { on := 3, ground := Ground.phase }, { on := 4, ground := Ground.phase }, { on := 5, ground := Ground.phase }, { on := 6, ground := Ground.phase }, { on := 7, ground := Ground.phase }, { on := 8, ground := Ground.phase }], guard := none }) (v := ?_) rfl (by kernel_rfl) (by kernel_rfl) (by kernel_rfl) (fun _ _ _ h => h) (Or.inl ⟨by rfl, ?_⟩) C2 ?_
                  rotate_left
                  · intro W' hSw
                    clear hSw
                    go_simp <;> with_reducible rfl
                  try simp only [Act.put, List.setIfInBounds_toArray, List.set_cons_zero, List.set_cons_succ]
                  refine wpAnyH_done (by kernel_rfl) ?_ _
                  refine NoPanic.normal ?_
                  go_wp2
                  go_roundw
                  case rel => first | exact ⟨f + 1, s', by omega, by go_num, HA8, HW8, B8⟩ | exact ⟨f + 1, s', by omega, by go_num, HA8, HW8⟩
                  case measure => simp [intOf]; omega
                by_cases hk4 : d.kind = 4
                · have e4 : (d.kind == 4) = true := by rw [beq_iff_eq]; exact hk4
                  have e1 : (d.kind == 1) = false := by rw [beq_eq_false_iff_ne]; exact hk1
                  have e2 : (d.kind == 2) = false := by rw [beq_eq_false_iff_ne]; exact hk2
                  have e3 : (d.kind == 3) = false := by rw [beq_eq_false_iff_ne]; exact hk3
                  obtain ⟨e, s', HB1, HB2⟩ := both_tearb (I := I) (p := p) (q := q) (r := r) (k := k) (g := g) (s := s) hgb0 d.at_ d.a d.m d.c d.raw (HIJ.out q (.inl rfl)) HKJ.out
                  have HB1 := Lib.hid HB1
                  have HB2 := Lib.hid HB2
                  clear hk4 hk1 hk2 hk3
                  go_wp2_with (with_reducible refine (?_ : wpList _ _ _ ({ dst := _, op := Op.store 37 _ _, type := _, pos := _, after := _, guard := _ } :: _) _ _); refine wpList_store_at rfl 37 _ _ rfl 3 size_do _ wr.heap.size ?hx rfl _ T0.out.row ?hn ?ho ?h1 ?_; (case hx => simp [Act.eval]); (case hn => simp); (case ho => simp); (case h1 => simp [Value.oneCell']))
                  go_wp2
                  generalize ((wr.alloc (.cells #[.int .i64 0, .int .i64 0, .slice none 0 0] 37)).setRow wr.heap.size #[.int .i64 d.kind, .int .i64 d.at_, .slice d.a d.m d.c]) = WD at *
                  clear g0 g1 g2 x0 x1 x2 T0 e1 e2 e3 e4
                  refine wp_region_noPanic ?_
                  refine wp_region_held_drew (S := fun w' => CRow w' wr.heap.size 37 #[.int .i64 d.kind, .int .i64 d.at_, .slice d.a d.m d.c]) (by kernel_rfl) (CD.out.drew) (fun C0 => ?_)
                  refine wpAnyH_take (i := 0) (oi := { dst := some 117, op := Op.move (Operand.tmp 7), type := 28, pos := "law.go:85", after := #[], guard := none }) (v := ?_) rfl (by kernel_rfl) (by kernel_rfl) (by kernel_rfl) (fun _ _ _ h => h) (Or.inl ⟨by rfl, ?_⟩) C0 ?_
                  rotate_left
                  · intro W' hSw
                    clear hSw
                    go_simp <;> with_reducible rfl
                  try simp only [Act.put, List.setIfInBounds_toArray, List.set_cons_zero, List.set_cons_succ]
                  refine wpAnyH_take (i := 1) (oi := { dst := some 118, op := Op.fieldAddr 37 (Operand.tmp 11) 1, type := 0, pos := "law.go:85", after := #[], guard := none }) (v := ?_) rfl (by kernel_rfl) (by kernel_rfl) (by kernel_rfl) (fun _ _ _ h => h) (Or.inl ⟨by rfl, ?_⟩) C0 ?_
                  rotate_left
                  · intro W' hSw
                    clear hSw
                    go_simp <;> with_reducible rfl
                  try simp only [Act.put, List.setIfInBounds_toArray, List.set_cons_zero, List.set_cons_succ]
                  refine wpAnyH_take (i := 2) (oi := { dst := some 119, op := Op.load 3 (Operand.tmp 118), type := 3, pos := "law.go:85", after := #[{ on := 1, ground := Ground.data }], guard := none }) (v := ?_) rfl (by kernel_rfl) (by kernel_rfl) (by kernel_rfl) (fun _ _ _ h => h) (Or.inl ⟨by rfl, ?_⟩) C0 ?_
                  rotate_left
                  · intro W' hSw
                    have y := hSw.cell_at 1 (.int .i64 d.at_) rfl
                    clear hSw
                    go_simp <;> with_reducible rfl
                  try simp only [Act.put, List.setIfInBounds_toArray, List.set_cons_zero, List.set_cons_succ]
                  refine wpAnyH_take (i := 3) (oi := { dst := some 120, op := Op.fieldAddr 37 (Operand.tmp 11) 2, type := 0, pos := "law.go:85", after := #[], guard := none }) (v := ?_) rfl (by kernel_rfl) (by kernel_rfl) (by kernel_rfl) (fun _ _ _ h => h) (Or.inl ⟨by rfl, ?_⟩) C0 ?_
                  rotate_left
                  · intro W' hSw
                    clear hSw
                    go_simp <;> with_reducible rfl
                  try simp only [Act.put, List.setIfInBounds_toArray, List.set_cons_zero, List.set_cons_succ]
                  refine wpAnyH_take (i := 4) (oi := { dst := some 121, op := Op.load 35 (Operand.tmp 120), type := 35, pos := "law.go:85", after := #[{ on := 3, ground := Ground.data }], guard := none }) (v := ?_) rfl (by kernel_rfl) (by kernel_rfl) (by kernel_rfl) (fun _ _ _ h => h) (Or.inl ⟨by rfl, ?_⟩) C0 ?_
                  rotate_left
                  · intro W' hSw
                    have y := hSw.cell_at 2 (.slice d.a d.m d.c) rfl
                    clear hSw
                    go_simp <;> with_reducible rfl
                  try simp only [Act.put, List.setIfInBounds_toArray, List.set_cons_zero, List.set_cons_succ]
                  refine wpAnyH_take (i := 6) (oi := { dst := some 123, op := Op.move (Operand.tmp 9), type := 32, pos := "law.go:85", after := #[], guard := none }) (v := ?_) rfl (by kernel_rfl) (by kernel_rfl) (by kernel_rfl) (fun _ _ _ h => h) (Or.inl ⟨by rfl, ?_⟩) C0 ?_
                  rotate_left
                  · intro W' hSw
                    clear hSw
                    go_simp <;> with_reducible rfl
                  try simp only [Act.put, List.setIfInBounds_toArray, List.set_cons_zero, List.set_cons_succ]
                  refine wpAnyH_take (i := 7) (oi := { dst := some 124, op := Op.fieldAddr 37 (Operand.tmp 11) 1, type := 0, pos := "law.go:85", after := #[], guard := none }) (v := ?_) rfl (by kernel_rfl) (by kernel_rfl) (by kernel_rfl) (fun _ _ _ h => h) (Or.inl ⟨by rfl, ?_⟩) C0 ?_
                  rotate_left
                  · intro W' hSw
                    clear hSw
                    go_simp <;> with_reducible rfl
                  try simp only [Act.put, List.setIfInBounds_toArray, List.set_cons_zero, List.set_cons_succ]
                  refine wpAnyH_take (i := 8) (oi := { dst := some 125, op := Op.load 3 (Operand.tmp 124), type := 3, pos := "law.go:85", after := #[{ on := 7, ground := Ground.data }], guard := none }) (v := ?_) rfl (by kernel_rfl) (by kernel_rfl) (by kernel_rfl) (fun _ _ _ h => h) (Or.inl ⟨by rfl, ?_⟩) C0 ?_
                  rotate_left
                  · intro W' hSw
                    have y := hSw.cell_at 1 (.int .i64 d.at_) rfl
                    clear hSw
                    go_simp <;> with_reducible rfl
                  try simp only [Act.put, List.setIfInBounds_toArray, List.set_cons_zero, List.set_cons_succ]
                  refine wpAnyH_take (i := 9) (oi := { dst := some 126, op := Op.fieldAddr 37 (Operand.tmp 11) 2, type := 0, pos := "law.go:85", after := #[], guard := none }) (v := ?_) rfl (by kernel_rfl) (by kernel_rfl) (by kernel_rfl) (fun _ _ _ h => h) (Or.inl ⟨by rfl, ?_⟩) C0 ?_
                  rotate_left
                  · intro W' hSw
                    clear hSw
                    go_simp <;> with_reducible rfl
                  try simp only [Act.put, List.setIfInBounds_toArray, List.set_cons_zero, List.set_cons_succ]
                  refine wpAnyH_take (i := 10) (oi := { dst := some 127, op := Op.load 35 (Operand.tmp 126), type := 35, pos := "law.go:85", after := #[{ on := 9, ground := Ground.data }], guard := none }) (v := ?_) rfl (by kernel_rfl) (by kernel_rfl) (by kernel_rfl) (fun _ _ _ h => h) (Or.inl ⟨by rfl, ?_⟩) C0 ?_
                  rotate_left
                  · intro W' hSw
                    have y := hSw.cell_at 2 (.slice d.a d.m d.c) rfl
                    clear hSw
                    go_simp <;> with_reducible rfl
                  try simp only [Act.put, List.setIfInBounds_toArray, List.set_cons_zero, List.set_cons_succ]
                  refine wpAnyH_ready (rs := [5]) (by kernel_rfl) (by simp) ?_
                  refine AllReadyH.cons (o := { dst := some 122, op := Op.call { callee := Callee.value (Operand.func 18), args := #[Operand.tmp 117, Operand.tmp 119, Operand.tmp 121], argTypes := #[28, 3, 35] }, type := 29, pos := "law.go:85", after := #[{ on := 0, ground := Ground.data }, { on := 2, ground := Ground.data }, { on := 4, ground := Ground.data }], guard := none }) rfl (fun K hK => ?_) AllReadyH.nil
                  go_simp
                  refine (HB1.out _ (HA5.out.below ((Below.refl _ _).drew)) ⟨((RD5.out.btw0 (Btw.of_below (I := fun _ => False) ((Below.refl _ _).drew)) (fun _ _ _ _ h => h))), HNI.out⟩).mono ?_
                  rintro _ w7 ⟨rfl, h7, b7⟩
                  have HA7 := Lib.hid h7
                  have HW7 := Lib.hid ((HW5.out.below ((Below.refl _ _).drew)).btw b7 (fun j hj => HDis.out j hj))
                  have CD7 := Lib.hid (CD.out.drew.btw b7 (fun hj => Nat.lt_irrefl _ (HLT.out _ (HIJ.out _ hj))))
                  have B7 := Lib.hid (B5.out.drew.trans (b7.below (S := w.heap.size) (fun j hj => HLow.out j (HIJ.out j hj)) B5.out.drew.size))
                  have T7 := Lib.hid (show Btw I WD w7 from (Btw.of_below ((Below.refl _ _).drew)).trans b7 (fun j _ hj => HIJ.out j hj))
                  clear h7 b7
                  go_wp2_with fail
                  refine hK.out _ _ CD7.out (fun C1 => ?_)
                  clear hK K
                  try simp only [Act.put, List.setIfInBounds_toArray, List.set_cons_zero, List.set_cons_succ]
                  refine wpAnyH_ready (rs := [11]) (by kernel_rfl) (by simp) ?_
                  refine AllReadyH.cons (o := { dst := some 128, op := Op.call { callee := Callee.value (Operand.func 19), args := #[Operand.tmp 123, Operand.tmp 125, Operand.tmp 127], argTypes := #[32, 3, 35] }, type := 3, pos := "law.go:85", after := #[{ on := 6, ground := Ground.data }, { on := 8, ground := Ground.data }, { on := 10, ground := Ground.data }, { on := 5, ground := Ground.chain }], guard := none }) rfl (fun K hK => ?_) AllReadyH.nil
                  go_simp
                  refine (HB2.out _ HW7.out ⟨(RD5.out.btw0 T7.out HNI.out), HNI.out⟩).mono ?_
                  rintro _ w8 ⟨rfl, h8, b8⟩
                  have HW8 := Lib.hid h8
                  have HA8 := Lib.hid (HA7.out.btw b8 (fun j hj => HDis2.out j hj))
                  have CD8 := Lib.hid (CD7.out.btw b8 (fun hj => Nat.lt_irrefl _ (HLT.out _ (HKJ.out _ hj))))
                  have B8 := Lib.hid (B7.out.trans (b8.below (S := w.heap.size) (fun j hj => HLow.out j (HKJ.out j hj)) B7.out.size))
                  clear h8 b8
                  go_wp2_with fail
                  refine hK.out _ _ CD8.out (fun C2 => ?_)
                  clear hK K
                  try simp only [Act.put, List.setIfInBounds_toArray, List.set_cons_zero, List.set_cons_succ]
                  refine wpAnyH_take (i := 12) (oi := { dst := some 129, op := Op.binOp BinOp.eql 3 (Operand.tmp 122) (Operand.tmp 128) 3, type := 4, pos := "law.go:85", after := #[{ on := 5, ground := Ground.data }, { on := 11, ground := Ground.data }], guard := none }) (v := ?_) rfl (by kernel_rfl) (by kernel_rfl) (by kernel_rfl) (fun _ _ _ h => h) (Or.inl ⟨by rfl, ?_⟩) C2 ?_
                  rotate_left
                  · intro W' hSw
                    clear hSw
                    go_simp <;> with_reducible rfl
                  try simp only [Act.put, List.setIfInBounds_toArray, List.set_cons_zero, List.set_cons_succ]
                  refine wpAnyH_take (i := 13) (oi := { dst := some 12, op := Op.assign (Operand.tmp 129), type := 4, pos := "law.go:85", after := #[{ on := 12, ground := Ground.data }, { on := 11, ground := Ground.chain }, { on := 0, ground := Ground.phase }, { on := 1, ground := Ground.phase }, { on := 2, ground := Ground.phase }, { on := 3, ground := Ground.phase }, { on := 4, ground := Ground.phase }, { on := 5, ground := Ground.phase }, { on := 6, ground := Ground.phase }, { on := 7, ground := Ground.phase }, { on := 8, ground := Ground.phase }, { on := 9, ground := Ground.phase }, { on := 10, ground := Ground.phase }, { on := 11, ground := Ground.phase }, { on := 12, ground := Ground.phase }], guard := none }) (v := ?_) rfl (by kernel_rfl) (by kernel_rfl) (by kernel_rfl) (fun _ _ _ h => h) (Or.inl ⟨by rfl, ?_⟩) C2 ?_
                  rotate_left
                  · intro W' hSw
                    clear hSw
                    go_simp <;> with_reducible rfl
                  try simp only [Act.put, List.setIfInBounds_toArray, List.set_cons_zero, List.set_cons_succ]
                  refine wpAnyH_done (by kernel_rfl) ?_ _
                  refine NoPanic.normal ?_
                  go_wp2
                  go_roundw
                  case rel => first | exact ⟨f + 1, s', by omega, by go_num, HA8, HW8, B8⟩ | exact ⟨f + 1, s', by omega, by go_num, HA8, HW8⟩
                  case measure => simp [intOf]; omega
                have e1 : (d.kind == 1) = false := by rw [beq_eq_false_iff_ne]; exact hk1
                have e2 : (d.kind == 2) = false := by rw [beq_eq_false_iff_ne]; exact hk2
                have e3 : (d.kind == 3) = false := by rw [beq_eq_false_iff_ne]; exact hk3
                have e4 : (d.kind == 4) = false := by rw [beq_eq_false_iff_ne]; exact hk4
                clear hk1 hk2 hk3 hk4
                go_wp2_with (with_reducible refine (?_ : wpList _ _ _ ({ dst := _, op := Op.store 37 _ _, type := _, pos := _, after := _, guard := _ } :: _) _ _); refine wpList_store_at rfl 37 _ _ rfl 3 size_do _ wr.heap.size ?hx rfl _ T0.out.row ?hn ?ho ?h1 ?_; (case hx => simp [Act.eval]); (case hn => simp); (case ho => simp); (case h1 => simp [Value.oneCell']))
                go_wp2
                go_roundw
                case rel => first | exact ⟨f + 1, s, by omega, by go_num, HA5, HW5, B5⟩ | exact ⟨f + 1, s, by omega, by go_num, HA5, HW5⟩
                case measure => simp [intOf]; omega
            · obtain rfl : f = n := by omega
              have d3 : decide ((f : Int) < (f : Int)) = false := decide_eq_false (by omega)
              go_wp2_with fail
              refine (Same13_any HA.out HW.out).mono ?_
              rintro _ w7 ⟨rfl, h7⟩
              have B7 := Lib.hid (below_step HB.out h7)
              clear h7
              go_wp2
              go_ret
              exact ⟨rfl, B7.out⟩
        · exact absurd HGood.out hbad
      · have Y3 := Lib.hid (Y2.out.below b3)
        have B3 := Lib.hid (below_step B2.out b3)
        have M3 := Lib.hid (M2.out.below b3)
        have HBad := Lib.hid hbad
        clear b3 hbad
        obtain ⟨_, g0, g1, g2, g3, g4, g5, g6⟩ := Y3.out
        have hRt := RefRight_any g w3
        rw [HO.out] at hRt
        unfold Gm.val at hRt
        go_wp2_with fail
        clear g0 g1 g2 g3 g4 g5 g6
        refine hRt.mono ?_
        rintro _ w4 ⟨rfl, h4⟩
        have Y4 := Lib.hid (Y3.out.below h4)
        have B4 := Lib.hid (below_step B3.out h4)
        have M4 := Lib.hid (M3.out.below h4)
        clear h4 hRt Y3 M3
        obtain ⟨_, g0, g1, g2, g3, g4, g5, g6⟩ := Y4.out
        have hRN := RNew_any g MA mn mc ms w4 HO.out HRaw.out M4.out (by omega) (fun _ => False) (fun j hj => hj.elim)
        unfold Gm.val at hRN
        go_wp2_with fail
        clear g0 g1 g2 g3 g4 g5 g6
        refine hRN.mono ?_
        clear hRN
        rintro e5 w5 (⟨hgood, _⟩ | ⟨_, rfl, b5⟩)
        · exact absurd hgood HBad.out
        · have B5 := Lib.hid (below_step B4.out b5)
          clear b5
          go_wp2
          go_ret
          exact ⟨rfl, B5.out⟩
end Go.Proofs.Ytlmdhlogmfdokaa
