/-
  Contract of array.New, over the landed code.
-/
import Derived.Test.YtipmjmbkknlcfaaArE
import Derived.Test.YtipmjmbkknlcfaaInv
namespace Go.Proofs.Ytipmjmbkknlcfaa
open Go.RowKit
set_option maxRecDepth 100000

theorem crow_ne {w : World} {a b : Nat} {u u' : TypeId} {cs cs' : Array Value} (h : CRow w a u cs) (h' : CRow w b u' cs') (hu : u ≠ u') : a ≠ b := by
  rintro rfl
  have e := h.row.symm.trans h'.row
  injection e with e
  injection e with _ e
  exact hu e
theorem made_get (z : Array Value) (n j : Nat) (h : j < n) : (madeCells z n)[j]? = some z[j % z.size]! := by
  unfold madeCells
  rw [Array.getElem?_map, Array.getElem?_range, if_pos h]
  rfl
theorem info_row3 : ∃ i, Try.prog.info? 64 = some i ∧ i.zero = some (.agg #[.slice none 0 0, .int .i64 0, .bool false]) ∧ i.size = 3 ∧ i.bytes ≤ 64 := by
  have h : ((Try.prog.info? 64).map fun i => (i.zero, i.size, decide (i.bytes ≤ 64))) = some (some (.agg #[.slice none 0 0, .int .i64 0, .bool false]), 3, true) := by kernel_rfl
  rcases e : Try.prog.info? 64 with _ | i
  · rw [e] at h; cases h
  · rw [e] at h
    injection h with h
    injection h with h1 h
    injection h with h2 h3
    exact ⟨i, rfl, h1, h2, of_decide_eq_true h3⟩
/-- A new array, ahead of its marks. -/
theorem AR.init {w : World} {p q r : Nat} {g : Gm} {R B : Nat} (P : Nat) (ho : g.ok = true) (hl : g.raw ≤ 1000) (hB : g.b = (B : Int)) (hR : (g.b * g.s).toNat = R)
    (hcp : CRow w p 59 #[.int .i64 g.p, .int .i64 g.b, .int .i64 g.s, .int .i64 g.c, .int .i64 g.k, .int .i64 g.r, .int .i64 g.q, .slice (some ⟨q, 0, none⟩) R R, .slice (some ⟨r, 0, none⟩) B B])
    (hcq : CRow w q 64 (madeCells #[.slice none 0 0, .int .i64 0, .bool false] (R * 3))) (hcr : CRow w r 3 (madeCells #[.int .i64 0] B)) (h1 : p ≠ q) (h2 : p ≠ r) (h3 : q ≠ r) :
    AR (fun j => j = p ∨ j = q ∨ j = r) w p q r g ⟨newR g.raw.toNat R P [], List.replicate B 0⟩ where
  ok := ho
  low := hl
  ip := .inl rfl
  iq := .inr (.inl rfl)
  ir := .inr (.inr rfl)
  pq := h1
  pr := h2
  qr := h3
  lt := by
    rintro j (rfl | rfl | rfl)
    · exact hcp.lt
    · exact hcq.lt
    · exact hcr.lt
  blk := by rw [hR, show g.b.toNat = B by omega]; exact hcp
  rows := ⟨List.replicate R ⟨none, 0, 0, ersd g.raw.toNat⟩, by rw [newR_nil, List.map_replicate], (Cells.of_row hcq).sub (fun j v hv => by
      unfold rowF at hv
      rw [List.getElem?_replicate] at hv
      split at hv
      · rename_i hj
        show (madeCells _ _)[j]? = _
        rw [made_get _ _ _ (by omega)]
        have h4 : j % 3 = 0 ∨ j % 3 = 1 ∨ j % 3 = 2 := by omega
        rcases h4 with h4 | h4 | h4 <;> (simp [Rc.cells, h4, ersd] at hv ⊢; exact hv)
      · cases hv), fun x hx => by
    rw [(List.mem_replicate.1 hx).2]
    exact ⟨ersd_well _, .inl ⟨rfl, rfl, rfl, rfl⟩⟩⟩
  er := (Cells.of_row hcr).sub fun j v hv => by
    rw [List.getElem?_replicate] at hv
    split at hv
    · rename_i hj
      show (madeCells _ _)[j]? = _
      rw [made_get _ _ _ hj]
      simpa [Nat.mod_one] using hv
    · cases hv
  nr := by rw [newR_len, hR]
  ne := by rw [List.length_replicate]; omega
theorem GBox.btw6 {w w' : World} {n q : Nat} {g : Gm} (h : GBox w n g) (hb : Btw (fun j => j = q) w w') (hn : n ≠ q) : GBox w' n g := by
  obtain ⟨h0, h1, h2, h3, h4, h5, h6, h7⟩ := h
  have hc := fun j => World.cell?_of_block (a := ⟨n, j, none⟩) (hb.block n h0 hn)
  exact ⟨Nat.lt_of_lt_of_le h0 hb.size, (hc 0).trans h1, (hc 1).trans h2, (hc 2).trans h3, (hc 3).trans h4, (hc 4).trans h5, (hc 5).trans h6, (hc 6).trans h7⟩
theorem take_succ {α : Type} {l : List α} {f : Nat} {x : α} (h : l[f]? = some x) : l.take (f + 1) = l.take f ++ [x] := by
  rw [List.take_add_one, h]; rfl

def NewD (lo gs : Nat) (g : Gm) (R B P : Nat) : Nat → Value → World → Prop
  | 0, v, _ => v = g.val
  | 1, v, _ => v = .pointer (some ⟨gs, 1, none⟩)
  | 2, v, _ => v = .int .i64 (B : Int)
  | 3, v, _ => v = .pointer (some ⟨gs, 2, none⟩)
  | 4, v, _ => v = .int .i64 (P : Int)
  | 5, v, _ => v = .int .i64 (R : Int)
  | 6, v, w => ∃ q, v = .slice (some ⟨q, 0, none⟩) R R ∧ lo ≤ q ∧ CRow w q 64 (madeCells #[.slice none 0 0, .int .i64 0, .bool false] (R * 3))
  | 7, v, _ => v = .pointer (some ⟨gs, 1, none⟩)
  | 8, v, _ => v = .int .i64 (B : Int)
  | 9, v, w => ∃ r, v = .slice (some ⟨r, 0, none⟩) B B ∧ lo ≤ r ∧ CRow w r 3 (madeCells #[.int .i64 0] B)
  | 10, v, w => ∃ q r, v = .agg #[.int .i64 g.p, .int .i64 g.b, .int .i64 g.s, .int .i64 g.c, .int .i64 g.k, .int .i64 g.r, .int .i64 g.q, .slice (some ⟨q, 0, none⟩) R R, .slice (some ⟨r, 0, none⟩) B B] ∧ CRow w q 64 (madeCells #[.slice none 0 0, .int .i64 0, .bool false] (R * 3)) ∧ CRow w r 3 (madeCells #[.int .i64 0] B) ∧ lo ≤ q ∧ lo ≤ r
  | 11, v, w => ∃ p q r, v = .pointer (some ⟨p, 0, none⟩) ∧ CRow w p 59 #[.int .i64 g.p, .int .i64 g.b, .int .i64 g.s, .int .i64 g.c, .int .i64 g.k, .int .i64 g.r, .int .i64 g.q, .slice (some ⟨q, 0, none⟩) R R, .slice (some ⟨r, 0, none⟩) B B] ∧ CRow w q 64 (madeCells #[.slice none 0 0, .int .i64 0, .bool false] (R * 3)) ∧ CRow w r 3 (madeCells #[.int .i64 0] B) ∧ lo ≤ p ∧ lo ≤ q ∧ lo ≤ r
  | 12, v, w => ∃ p q r, v = .pointer (some ⟨p, 0, none⟩) ∧ CRow w p 59 #[.int .i64 g.p, .int .i64 g.b, .int .i64 g.s, .int .i64 g.c, .int .i64 g.k, .int .i64 g.r, .int .i64 g.q, .slice (some ⟨q, 0, none⟩) R R, .slice (some ⟨r, 0, none⟩) B B] ∧ CRow w q 64 (madeCells #[.slice none 0 0, .int .i64 0, .bool false] (R * 3)) ∧ CRow w r 3 (madeCells #[.int .i64 0] B) ∧ lo ≤ p ∧ lo ≤ q ∧ lo ≤ r
  | _, _, _ => True
theorem NewD_below (lo gs : Nat) (g : Gm) (R B P : Nat) : ∀ i v w w', NewD lo gs g R B P i v w → Below w.heap.size w w' → NewD lo gs g R B P i v w' := by
  intro i v w w' h hb
  match i, h with
  | 0, h => exact h
  | 1, h => exact h
  | 2, h => exact h
  | 3, h => exact h
  | 4, h => exact h
  | 5, h => exact h
  | 6, h => obtain ⟨q, e, h1, h2⟩ := h; exact ⟨q, e, h1, h2.below hb⟩
  | 7, h => exact h
  | 8, h => exact h
  | 9, h => obtain ⟨q, e, h1, h2⟩ := h; exact ⟨q, e, h1, h2.below hb⟩
  | 10, h => obtain ⟨q, r, e, h1, h2, h3⟩ := h; exact ⟨q, r, e, h1.below hb, h2.below hb, h3⟩
  | 11, h => obtain ⟨p, q, r, e, h1, h2, h3, h4⟩ := h; exact ⟨p, q, r, e, h1.below hb, h2.below hb, h3.below hb, h4⟩
  | 12, h => obtain ⟨p, q, r, e, h1, h2, h3, h4⟩ := h; exact ⟨p, q, r, e, h1.below hb, h2.below hb, h3.below hb, h4⟩
  | _ + 13, _ => trivial

theorem NewBad_any (g : Gm) (A : Option Addr) (n c : Nat) (w : World) (ho : g.ok = false) :
    Calls Try.prog 8 #[g.val, .slice A n c] w (Gives (.tuple #[.pointer none, .int .i64 2]) w) := by
  have HC := Lib.hid (fun w' => Check_no g ho w')
  clear ho
  obtain ⟨p0, b, sz, gc, k, rr, u⟩ := g
  simp only [Gm.val] at HC ⊢
  have Y0 := Lib.hid (GBox.new w ⟨p0, b, sz, gc, k, rr, u⟩ 23)
  have B0 := Lib.hid (below_new w (.cells #[.int .i64 p0, .int .i64 b, .int .i64 sz, .int .i64 gc, .int .i64 k, .int .i64 rr, .int .i64 u] 23))
  go_enter Try.func8, Try.ntmps8
  obtain ⟨_, g0, g1, g2, g3, g4, g5, g6⟩ := Y0.out
  simp only at g0 g1 g2 g3 g4 g5 g6
  go_wp2_with fail
  clear g0 g1 g2 g3 g4 g5 g6
  refine (HC.out _).mono ?_
  rintro _ w1 ⟨rfl, h1⟩
  have B1 := Lib.hid (below_step B0.out h1)
  clear h1
  go_wp2
  go_ret2
  exact ⟨rfl, B1.out⟩
set_option maxHeartbeats 4000000 in
theorem New_any (g : Gm) (A : Option Addr) (n c : Nat) (ms : List Int) (w : World) (ho : g.ok = true) (hlow : g.raw ≤ 1000) (hms : R64 w A n ms) (hn : n ≤ 1099511627776) :
    Calls Try.prog 8 #[g.val, .slice A n c] w fun e w' =>
      ((∀ x ∈ ms, 0 ≤ x ∧ x < (g.b.toNat : Int)) ∧ ∃ p q r, e = .returned (.tuple #[.pointer (some ⟨p, 0, none⟩), .int .i64 0]) ∧ AR (fun j => j = p ∨ j = q ∨ j = r) w' p q r g (St.new g.raw.toNat (g.b * g.s).toNat g.s.toNat g.b.toNat ms) ∧ Below w.heap.size w w' ∧ w.heap.size ≤ p ∧ w.heap.size ≤ q ∧ w.heap.size ≤ r) ∨
      ((¬ ∀ x ∈ ms, 0 ≤ x ∧ x < (g.b.toNat : Int)) ∧ e = .returned (.tuple #[.pointer none, .int .i64 2]) ∧ Below w.heap.size w w') := by
  have hbd := Gm.bounds_of ho
  have hraw : g.raw = g.c * (g.k + 2) + 31 := by unfold Gm.raw; rw [if_pos ho]
  have hck : 0 ≤ g.c * (g.k + 2) := Int.mul_nonneg (by omega) (by omega)
  obtain ⟨N, hNN⟩ : ∃ N, N = g.raw.toNat := ⟨_, rfl⟩
  obtain ⟨B, hBB⟩ : ∃ B, B = g.b.toNat := ⟨_, rfl⟩
  obtain ⟨P, hPP⟩ : ∃ P, P = g.s.toNat := ⟨_, rfl⟩
  obtain ⟨R, hRR⟩ : ∃ R, R = (g.b * g.s).toNat := ⟨_, rfl⟩
  have HB0 := Lib.hid (show g.b = (B : Int) by omega)
  have HP0 := Lib.hid (show g.s = (P : Int) by omega)
  have HN := Lib.hid (show g.raw = (N : Int) by omega)
  have hN2 := Lib.hid hNN.symm
  have HR0 := Lib.hid hRR.symm
  have HRB := Lib.hid (show R = B * P by
    have e : g.b * g.s = ((B * P : Nat) : Int) := by rw [HB0.out, HP0.out]; push_cast; rfl
    rw [hRR, e, Int.toNat_natCast])
  have hB1 : 2 ≤ B ∧ B ≤ 256 := by omega
  have hP1 : 4 ≤ P ∧ P ≤ 64 := by omega
  have hN0 : 0 < N := by omega
  have hN3 : N ≤ 1000 := by omega
  have hR6 : R ≤ 1000000 := by
    have h1 : B * P ≤ 256 * 64 := Nat.mul_le_mul hB1.2 hP1.2
    have := HRB.out
    omega
  have HR6 := Lib.hid hR6
  have HW5 := Lib.hid (show IntKind.i64.wrap ((B : Int) * (P : Int)) = (R : Int) by
    have e : ((B : Int) * (P : Int)) = (R : Int) := by rw [HRB.out]; push_cast; rfl
    rw [e]
    exact IntWalk.i64_in _ (by omega))
  have HOK := Lib.hid ho
  have HLOW := Lib.hid hlow
  have HC := Lib.hid (fun w' => Check_yes g ho w')
  obtain ⟨iR, hiR, hzR, hsR, hbR⟩ := info_row3
  obtain ⟨iI, hiI, hzI0, hzI1, hzI2⟩ := info_parts info_int
  have hmkR := Lib.hid (fun w' : World => by
    have h := run_make (P := Try.prog) w' 57 64 iR _ Try.underlying57 hiR hzR .i64 .i64 (R : Int) (R : Int) (by omega) (Int.le_refl _) (by
      have h1 : (iR.bytes : Int) * (R : Int) ≤ 64 * 1000000 := (mul_le (by omega) (by omega) (by omega) (by omega)).2
      omega) (by omega)
    rw [hsR, Int.toNat_natCast, show (Value.agg #[.slice none 0 0, .int .i64 0, .bool false]).cells = #[.slice none 0 0, .int .i64 0, .bool false] from rfl] at h
    exact h)
  have hmkB := Lib.hid (fun w' : World => by
    have h := run_make (P := Try.prog) w' 24 3 iI (.int .i64 0) Try.underlying24 hiI hzI0 .i64 .i64 (B : Int) (B : Int) (by omega) (Int.le_refl _) (by rw [hzI2]; omega) (by omega)
    rw [hzI1, Int.toNat_natCast, Nat.mul_one, show (Value.int .i64 0).cells = #[.int .i64 0] from rfl] at h
    exact h)
  have AM := Lib.hid hms
  rw [← hNN, ← hBB, ← hPP, ← hRR]
  clear ho hlow hbd hraw hck hNN hBB hPP hRR hiR hzR hsR hbR hiI hzI0 hzI1 hzI2 hms hR6
  obtain ⟨p0, b, sz, gc, k, rr, u⟩ := g
  simp only [Gm.val] at HC ⊢
  have Y0 := Lib.hid (GBox.new w ⟨p0, b, sz, gc, k, rr, u⟩ 23)
  have B0 := Lib.hid (below_new w (.cells #[.int .i64 p0, .int .i64 b, .int .i64 sz, .int .i64 gc, .int .i64 k, .int .i64 rr, .int .i64 u] 23))
  go_enter Try.func8, Try.ntmps8
  obtain ⟨_, g0, g1, g2, g3, g4, g5, g6⟩ := Y0.out
  simp only at g0 g1 g2 g3 g4 g5 g6
  go_wp2_with fail
  clear g0 g1 g2 g3 g4 g5 g6
  refine (HC.out _).mono ?_
  rintro _ w2 ⟨rfl, h1⟩
  have Y2 := Lib.hid (Y0.out.below h1)
  have B1 := Lib.hid (below_step B0.out h1)
  have A2 := Lib.hid (AM.out.below B1.out)
  have L2 : Hid (w.heap.size + 1 ≤ w2.heap.size) := Lib.hid Y2.out.1
  clear h1
  go_wp2
  refine wp_region_inv (by kernel_rfl) [some 14, some 15, some 16, some 17, some 18, some 19, some 20, some 21, some 22, some 23, some 24, some 25, some 6] (by kernel_rfl) (by kernel_rfl) (by kernel_rfl) (NewD (w.heap.size + 1) (w.heap.size) ((⟨p0, b, sz, gc, k, rr, u⟩ : Gm)) (R) (B) (P)) (NewD_below (w.heap.size + 1) (w.heap.size) ((⟨p0, b, sz, gc, k, rr, u⟩ : Gm)) (R) (B) (P)) ?_ ?_
  · intro i o f w' ho hbw hdep K hK
    match i, ho, hdep, hK with
    | 0, ho, hdep, hK =>
      obtain rfl : { dst := some 14, op := Op.load 23 (Operand.tmp 2), type := 23, pos := "array.go:41", after := #[], guard := none } = o := Option.some.inj ho
      rw [if_pos (by rfl)]
      simp only [frFrom, Act.put, Nat.reduceAdd, List.setIfInBounds_toArray, List.set_cons_zero, List.set_cons_succ] at hK ⊢
      clear hdep ho
      obtain ⟨_, y0, y1, y2, y3, y4, y5, y6⟩ := Y2.out.below hbw
      simp only at y0 y1 y2 y3 y4 y5 y6
      go_simp
      exact hK.out _ _ rfl (Below.refl _ _)
    | 1, ho, hdep, hK =>
      obtain rfl : { dst := some 15, op := Op.fieldAddr 23 (Operand.tmp 2) 1, type := 0, pos := "array.go:41", after := #[], guard := none } = o := Option.some.inj ho
      rw [if_pos (by rfl)]
      simp only [frFrom, Act.put, Nat.reduceAdd, List.setIfInBounds_toArray, List.set_cons_zero, List.set_cons_succ] at hK ⊢
      clear hdep ho
      go_simp
      exact hK.out _ _ rfl (Below.refl _ _)
    | 2, ho, hdep, hK =>
      obtain rfl : { dst := some 16, op := Op.load 3 (Operand.tmp 15), type := 3, pos := "array.go:41", after := #[{ on := 1, ground := Ground.data }], guard := none } = o := Option.some.inj ho
      have d1 := (show NewD (w.heap.size + 1) (w.heap.size) ((⟨p0, b, sz, gc, k, rr, u⟩ : Gm)) (R) (B) (P) 1 (f 1) w' from hdep ⟨1, .data⟩ (by simp) rfl)
      simp only [NewD] at d1
      rw [if_pos (by rfl)]
      simp only [frFrom, Act.put, Nat.reduceAdd, List.setIfInBounds_toArray, List.set_cons_zero, List.set_cons_succ, d1] at hK ⊢
      clear hdep ho d1
      obtain ⟨_, y0, y1, y2, y3, y4, y5, y6⟩ := Y2.out.below hbw
      simp only at y0 y1 y2 y3 y4 y5 y6
      have e1 := HB0.out
      try simp only at e1
      rw [e1] at y1
      clear e1
      go_simp
      exact hK.out _ _ rfl (Below.refl _ _)
    | 3, ho, hdep, hK =>
      obtain rfl : { dst := some 17, op := Op.fieldAddr 23 (Operand.tmp 2) 2, type := 0, pos := "array.go:41", after := #[], guard := none } = o := Option.some.inj ho
      rw [if_pos (by rfl)]
      simp only [frFrom, Act.put, Nat.reduceAdd, List.setIfInBounds_toArray, List.set_cons_zero, List.set_cons_succ] at hK ⊢
      clear hdep ho
      go_simp
      exact hK.out _ _ rfl (Below.refl _ _)
    | 4, ho, hdep, hK =>
      obtain rfl : { dst := some 18, op := Op.load 3 (Operand.tmp 17), type := 3, pos := "array.go:41", after := #[{ on := 3, ground := Ground.data }], guard := none } = o := Option.some.inj ho
      have d3 := (show NewD (w.heap.size + 1) (w.heap.size) ((⟨p0, b, sz, gc, k, rr, u⟩ : Gm)) (R) (B) (P) 3 (f 3) w' from hdep ⟨3, .data⟩ (by simp) rfl)
      simp only [NewD] at d3
      rw [if_pos (by rfl)]
      simp only [frFrom, Act.put, Nat.reduceAdd, List.setIfInBounds_toArray, List.set_cons_zero, List.set_cons_succ, d3] at hK ⊢
      clear hdep ho d3
      obtain ⟨_, y0, y1, y2, y3, y4, y5, y6⟩ := Y2.out.below hbw
      simp only at y0 y1 y2 y3 y4 y5 y6
      have e1 := HP0.out
      try simp only at e1
      rw [e1] at y2
      clear e1
      go_simp
      exact hK.out _ _ rfl (Below.refl _ _)
    | 5, ho, hdep, hK =>
      obtain rfl : { dst := some 19, op := Op.binOp BinOp.mul 3 (Operand.tmp 16) (Operand.tmp 18) 3, type := 3, pos := "array.go:41", after := #[{ on := 2, ground := Ground.data }, { on := 4, ground := Ground.data }], guard := none } = o := Option.some.inj ho
      have d2 := (show NewD (w.heap.size + 1) (w.heap.size) ((⟨p0, b, sz, gc, k, rr, u⟩ : Gm)) (R) (B) (P) 2 (f 2) w' from hdep ⟨2, .data⟩ (by simp) rfl)
      simp only [NewD] at d2
      have d4 := (show NewD (w.heap.size + 1) (w.heap.size) ((⟨p0, b, sz, gc, k, rr, u⟩ : Gm)) (R) (B) (P) 4 (f 4) w' from hdep ⟨4, .data⟩ (by simp) rfl)
      simp only [NewD] at d4
      rw [if_pos (by rfl)]
      simp only [frFrom, Act.put, Nat.reduceAdd, List.setIfInBounds_toArray, List.set_cons_zero, List.set_cons_succ, d2, d4] at hK ⊢
      clear hdep ho d2 d4
      have q5 : IntKind.i64.wrap ((B : Int) * (P : Int)) = (R : Int) := HW5.out
      go_simp
      exact hK.out _ _ rfl (Below.refl _ _)
    | 6, ho, hdep, hK =>
      obtain rfl : { dst := some 20, op := Op.makeSlice 57 (Operand.tmp 19) (Operand.tmp 19), type := 57, pos := "array.go:41", after := #[{ on := 5, ground := Ground.data }, { on := 5, ground := Ground.data }], guard := none } = o := Option.some.inj ho
      have d5 := (show NewD (w.heap.size + 1) (w.heap.size) ((⟨p0, b, sz, gc, k, rr, u⟩ : Gm)) (R) (B) (P) 5 (f 5) w' from hdep ⟨5, .data⟩ (by simp) rfl)
      simp only [NewD] at d5
      rw [if_pos (by rfl)]
      simp only [frFrom, Act.put, Nat.reduceAdd, List.setIfInBounds_toArray, List.set_cons_zero, List.set_cons_succ, d5] at hK ⊢
      clear hdep ho d5
      have hmk := hmkR.out w'
      go_simp
      exact hK.out _ _ ⟨w'.heap.size, rfl, Nat.le_trans L2.out hbw.size, CRow.new w' _ _⟩ (below_new _ _)
    | 7, ho, hdep, hK =>
      obtain rfl : { dst := some 21, op := Op.fieldAddr 23 (Operand.tmp 2) 1, type := 0, pos := "array.go:41", after := #[], guard := none } = o := Option.some.inj ho
      rw [if_pos (by rfl)]
      simp only [frFrom, Act.put, Nat.reduceAdd, List.setIfInBounds_toArray, List.set_cons_zero, List.set_cons_succ] at hK ⊢
      clear hdep ho
      go_simp
      exact hK.out _ _ rfl (Below.refl _ _)
    | 8, ho, hdep, hK =>
      obtain rfl : { dst := some 22, op := Op.load 3 (Operand.tmp 21), type := 3, pos := "array.go:41", after := #[{ on := 7, ground := Ground.data }], guard := none } = o := Option.some.inj ho
      have d7 := (show NewD (w.heap.size + 1) (w.heap.size) ((⟨p0, b, sz, gc, k, rr, u⟩ : Gm)) (R) (B) (P) 7 (f 7) w' from hdep ⟨7, .data⟩ (by simp) rfl)
      simp only [NewD] at d7
      rw [if_pos (by rfl)]
      simp only [frFrom, Act.put, Nat.reduceAdd, List.setIfInBounds_toArray, List.set_cons_zero, List.set_cons_succ, d7] at hK ⊢
      clear hdep ho d7
      obtain ⟨_, y0, y1, y2, y3, y4, y5, y6⟩ := Y2.out.below hbw
      simp only at y0 y1 y2 y3 y4 y5 y6
      have e1 := HB0.out
      try simp only at e1
      rw [e1] at y1
      clear e1
      go_simp
      exact hK.out _ _ rfl (Below.refl _ _)
    | 9, ho, hdep, hK =>
      obtain rfl : { dst := some 23, op := Op.makeSlice 24 (Operand.tmp 22) (Operand.tmp 22), type := 24, pos := "array.go:41", after := #[{ on := 8, ground := Ground.data }, { on := 8, ground := Ground.data }], guard := none } = o := Option.some.inj ho
      have d8 := (show NewD (w.heap.size + 1) (w.heap.size) ((⟨p0, b, sz, gc, k, rr, u⟩ : Gm)) (R) (B) (P) 8 (f 8) w' from hdep ⟨8, .data⟩ (by simp) rfl)
      simp only [NewD] at d8
      rw [if_pos (by rfl)]
      simp only [frFrom, Act.put, Nat.reduceAdd, List.setIfInBounds_toArray, List.set_cons_zero, List.set_cons_succ, d8] at hK ⊢
      clear hdep ho d8
      have hmk := hmkB.out w'
      go_simp
      exact hK.out _ _ ⟨w'.heap.size, rfl, Nat.le_trans L2.out hbw.size, CRow.new w' _ _⟩ (below_new _ _)
    | 10, ho, hdep, hK =>
      obtain rfl : { dst := some 24, op := Op.build 59 #[(0, Operand.tmp 14), (1, Operand.tmp 20), (2, Operand.tmp 23)], type := 59, pos := "array.go:41", after := #[{ on := 0, ground := Ground.data }, { on := 6, ground := Ground.data }, { on := 9, ground := Ground.data }], guard := none } = o := Option.some.inj ho
      have d0 := (show NewD (w.heap.size + 1) (w.heap.size) ((⟨p0, b, sz, gc, k, rr, u⟩ : Gm)) (R) (B) (P) 0 (f 0) w' from hdep ⟨0, .data⟩ (by simp) rfl)
      simp only [NewD] at d0
      obtain ⟨q, d6, hq, hcq⟩ := (show NewD (w.heap.size + 1) (w.heap.size) ((⟨p0, b, sz, gc, k, rr, u⟩ : Gm)) (R) (B) (P) 6 (f 6) w' from hdep ⟨6, .data⟩ (by simp) rfl)
      obtain ⟨r, d9, hr, hcr⟩ := (show NewD (w.heap.size + 1) (w.heap.size) ((⟨p0, b, sz, gc, k, rr, u⟩ : Gm)) (R) (B) (P) 9 (f 9) w' from hdep ⟨9, .data⟩ (by simp) rfl)
      rw [if_pos (by rfl)]
      simp only [frFrom, Act.put, Nat.reduceAdd, List.setIfInBounds_toArray, List.set_cons_zero, List.set_cons_succ, d0, d6, d9] at hK ⊢
      clear hdep ho d0 d6 d9
      simp only [Gm.val] at hK ⊢
      go_simp
      exact hK.out _ _ ⟨q, r, rfl, hcq, hcr, hq, hr⟩ (Below.refl _ _)
    | 11, ho, hdep, hK =>
      obtain rfl : { dst := some 25, op := Op.box 59 (Operand.tmp 24), type := 28, pos := "array.go:41", after := #[{ on := 10, ground := Ground.data }], guard := none } = o := Option.some.inj ho
      obtain ⟨q, r, d10, hcq, hcr, hq, hr⟩ := (show NewD (w.heap.size + 1) (w.heap.size) ((⟨p0, b, sz, gc, k, rr, u⟩ : Gm)) (R) (B) (P) 10 (f 10) w' from hdep ⟨10, .data⟩ (by simp) rfl)
      rw [if_pos (by rfl)]
      simp only [frFrom, Act.put, Nat.reduceAdd, List.setIfInBounds_toArray, List.set_cons_zero, List.set_cons_succ, d10] at hK ⊢
      clear hdep ho d10
      go_simp
      exact hK.out _ _ ⟨w'.heap.size, q, r, rfl, CRow.new w' _ _, hcq.below (below_new _ _), hcr.below (below_new _ _), Nat.le_trans L2.out hbw.size, hq, hr⟩ (below_new _ _)
    | 12, ho, hdep, hK =>
      obtain rfl : { dst := some 6, op := Op.assign (Operand.tmp 25), type := 28, pos := "array.go:41", after := #[{ on := 11, ground := Ground.data }, { on := 0, ground := Ground.phase }, { on := 1, ground := Ground.phase }, { on := 2, ground := Ground.phase }, { on := 3, ground := Ground.phase }, { on := 4, ground := Ground.phase }, { on := 5, ground := Ground.phase }, { on := 6, ground := Ground.phase }, { on := 7, ground := Ground.phase }, { on := 8, ground := Ground.phase }, { on := 9, ground := Ground.phase }, { on := 10, ground := Ground.phase }, { on := 11, ground := Ground.phase }], guard := none } = o := Option.some.inj ho
      obtain ⟨p, q, r, d11, hcp, hcq, hcr, hp, hq, hr⟩ := (show NewD (w.heap.size + 1) (w.heap.size) ((⟨p0, b, sz, gc, k, rr, u⟩ : Gm)) (R) (B) (P) 11 (f 11) w' from hdep ⟨11, .data⟩ (by simp) rfl)
      rw [if_pos (by rfl)]
      simp only [frFrom, Act.put, Nat.reduceAdd, List.setIfInBounds_toArray, List.set_cons_zero, List.set_cons_succ, d11] at hK ⊢
      clear hdep ho d11
      go_simp
      exact hK.out _ _ ⟨p, q, r, rfl, hcp, hcq, hcr, hp, hq, hr⟩ (Below.refl _ _)
    | _ + 13, ho, _, _ => simp at ho
  · intro f w' hbw hall
    simp only [frFrom, Act.put, Nat.reduceAdd, List.setIfInBounds_toArray, List.set_cons_zero, List.set_cons_succ]
    obtain ⟨p, q, r, d12, hcp, hcq, hcr, hp, hq, hr⟩ := (show NewD (w.heap.size + 1) (w.heap.size) (⟨p0, b, sz, gc, k, rr, u⟩ : Gm) R B P 12 (f 12) w' from hall 12 (by simp))
    rw [d12]
    clear hall d12
    rename World => w3
    have hpq := crow_ne hcp hcq (by decide)
    have hpr := crow_ne hcp hcr (by decide)
    have hqr := crow_ne hcq hcr (by decide)
    have H3 := Lib.hid (AR.init (g := ⟨p0, b, sz, gc, k, rr, u⟩) P HOK.out HLOW.out HB0.out HR0.out hcp hcq hcr hpq hpr hqr)
    have B3 := Lib.hid (below_step B1.out hbw)
    have Y3 := Lib.hid (Y2.out.below hbw)
    clear hcp hcq hcr hbw hmkR hmkB
    go_wp2
    go_loopw [8, 9, 10, 28] (fun _ _ _ i wr => ∃ f : Nat, f ≤ n ∧ i = .int .i64 (f : Int) ∧ Hid (∀ x ∈ ms.take f, 0 ≤ x ∧ x < (B : Int)) ∧ Hid (AR (fun j => j = p ∨ j = q ∨ j = r) wr p q r ⟨p0, b, sz, gc, k, rr, u⟩ ⟨newR N R P (ms.take f), List.replicate B 0⟩) ∧ Hid (GBox wr w.heap.size ⟨p0, b, sz, gc, k, rr, u⟩) ∧ Hid (Below w.heap.size w wr)) (fun _ _ _ i _ => n - (intOf i).toNat)
    case atStart => exact ⟨0, Nat.zero_le _, rfl, Lib.hid (by simp), Lib.hid (by rw [List.take_zero]; exact hN2.out ▸ H3.out), Y3, B3⟩
    case round =>
      obtain ⟨f, hf, rfl, HGd, HA, HY4, HBl⟩ := hrel
      rename World => wr
      by_cases hlt : f < n
      · obtain ⟨b9, o9, x, rfl, hb9, HX, hx1, hx2, hx3⟩ := (AM.out.below HBl.out).at_ hlt
        have i0 : (0 : Int) ≤ (f : Int) := by omega
        have i1 : (f : Int) < (n : Int) := by omega
        have HT' := take_succ HX.out
        clear HX
        by_cases hx : 0 ≤ x ∧ x < (B : Int)
        · obtain ⟨m, rfl⟩ : ∃ m : Nat, x = (m : Int) := ⟨x.toNat, by omega⟩
          have hm : m < B := by omega
          have HT := Lib.hid HT'
          have HG2 := Lib.hid (show ∀ x ∈ ms.take (f + 1), 0 ≤ x ∧ x < (B : Int) by
            rw [HT']
            intro x hx
            rcases List.mem_append.1 hx with h1 | h1
            · exact HGd.out x h1
            · rw [List.mem_singleton.1 h1]; omega)
          have hfit := Nat.mul_le_mul_right P (show m + 1 ≤ B from hm)
          rw [Nat.succ_mul, ← HRB.out] at hfit
          have HBy := Lib.hid (fun w' h1 h2 => block_yes p q R P (m * P) m ⟨p0, b, sz, gc, k, rr, u⟩ w' h1 h2 HOK.out (by have := HB0.out; simp only at *; omega) HP0.out rfl hfit HR6.out)
          clear hx HT' hm
          go_wp2_with fail
          refine (HBy.out _ HA.out.box (HR0.out ▸ HA.out.c7)).mono ?_
          rintro _ w5 h5
          obtain ⟨rfl, h5⟩ := h5
          have H5 := Lib.hid (HA.out.below h5)
          have Y5 := Lib.hid (HY4.out.below h5)
          have B5 := Lib.hid (below_step HBl.out h5)
          clear h5 HBy
          obtain ⟨y, hy⟩ : ∃ y, (newR N R P (ms.take f))[m * P]? = some y := ⟨_, newR_get _ _ _ _ _ (by omega)⟩
          obtain ⟨F, A9, m9, c9, hF, hF0, _⟩ := H5.out.row hy
          have F0 := Lib.hid hF
          have T0 := Lib.hid hF0
          have HY := Lib.hid hy
          have hP0 : 0 < P := by omega
          clear hF hF0 hy hfit
          go_wp2
          refine wp_region_noPanic ?_
          refine wp_region_held_drew (S := fun w' => GBox w' (w.heap.size) ⟨p0, b, sz, gc, k, rr, u⟩) (by kernel_rfl) (Y5.out.below ((Below.refl _ _).drew)) (fun C0 => ?_)
          refine wpAnyH_take (i := 0) (oi := { dst := some 40, op := Op.move (Operand.tmp 9), type := 57, pos := "array.go:47", after := #[], guard := none }) (v := ?_) rfl (by kernel_rfl) (by kernel_rfl) (by kernel_rfl) (fun _ _ _ h => h) (Or.inl ⟨by rfl, ?_⟩) C0 ?_
          rotate_left
          · intro W' hSw
            clear hSw
            go_simp <;> with_reducible rfl
          try simp only [Act.put, List.setIfInBounds_toArray, List.set_cons_zero, List.set_cons_succ]
          refine wpAnyH_take (i := 1) (oi := { dst := some 41, op := Op.indexAddr 57 (Operand.tmp 40) (Operand.const (Value.int IntKind.i64 0)), type := 0, pos := "array.go:47", after := #[{ on := 0, ground := Ground.data }], guard := none }) (v := ?_) rfl (by kernel_rfl) (by kernel_rfl) (by kernel_rfl) (fun _ _ _ h => h) (Or.inl ⟨by rfl, ?_⟩) C0 ?_
          rotate_left
          · intro W' hSw
            clear hSw
            go_simp <;> with_reducible rfl
          try simp only [Act.put, List.setIfInBounds_toArray, List.set_cons_zero, List.set_cons_succ]
          refine wpAnyH_take (i := 2) (oi := { dst := some 42, op := Op.fieldAddr 64 (Operand.tmp 41) 0, type := 0, pos := "array.go:47", after := #[{ on := 1, ground := Ground.data }], guard := none }) (v := ?_) rfl (by kernel_rfl) (by kernel_rfl) (by kernel_rfl) (fun _ _ _ h => h) (Or.inl ⟨by rfl, ?_⟩) C0 ?_
          rotate_left
          · intro W' hSw
            clear hSw
            go_simp <;> with_reducible rfl
          try simp only [Act.put, List.setIfInBounds_toArray, List.set_cons_zero, List.set_cons_succ]
          refine wpAnyH_take (i := 3) (oi := { dst := some 43, op := Op.load 23 (Operand.tmp 2), type := 23, pos := "array.go:47", after := #[], guard := none }) (v := ?_) rfl (by kernel_rfl) (by kernel_rfl) (by kernel_rfl) (fun _ _ _ h => h) (Or.inl ⟨by rfl, ?_⟩) C0 ?_
          rotate_left
          · intro W' hSw
            have hS9 := hSw
            obtain ⟨_, y0, y1, y2, y3, y4, y5, y6⟩ := hS9
            simp only at y0 y1 y2 y3 y4 y5 y6
            clear hSw
            go_simp <;> with_reducible rfl
          try simp only [Act.put, List.setIfInBounds_toArray, List.set_cons_zero, List.set_cons_succ]
          refine wpAnyH_ready (rs := [4]) (by kernel_rfl) (by simp) ?_
          refine AllReadyH.cons (o := { dst := some 44, op := Op.call { callee := Callee.value (Operand.func 33), args := #[Operand.tmp 42, Operand.tmp 43], argTypes := #[62, 23] }, type := 0, pos := "array.go:47", after := #[{ on := 2, ground := Ground.data }, { on := 3, ground := Ground.data }], guard := none }) rfl (fun K hK => ?_) AllReadyH.nil
          go_simp
          refine (mark_any q (m * P * 3) F _ ⟨p0, b, sz, gc, k, rr, u⟩ N HN.out hN0 (by omega) _ (F0.out.below ((Below.refl _ _).drew)) T0.out).mono ?_
          rintro _ w6 hS
          obtain ⟨rfl, h6, b6⟩ := (H5.out.below ((Below.refl _ _).drew)).stored HY.out (hN2.out ▸ hS)
          have H6 := Lib.hid (show AR (fun j => j = p ∨ j = q ∨ j = r) w6 p q r ⟨p0, b, sz, gc, k, rr, u⟩ ⟨newR N R P (ms.take (f + 1)), List.replicate B 0⟩ by
            rw [HT.out, newR_snoc N R P _ m (fun y => ⟨mrk N, y.n, y.t⟩) rfl rfl, sec_one HY.out]
            have h7 := h6
            rw [hN2.out] at h7
            exact h7)
          have Y6 := Lib.hid ((Y5.out.below ((Below.refl _ _).drew)).btw6 b6 (by omega))
          have B6 := Lib.hid ((B5.out.drew).trans (b6.below (fun j e => by subst e; omega) B5.out.drew.size))
          clear hS h6 b6
          go_wp2_with fail
          refine hK.out _ _ Y6.out (fun C1 => ?_)
          clear hK K
          try simp only [Act.put, List.setIfInBounds_toArray, List.set_cons_zero, List.set_cons_succ]
          refine wpAnyH_done (by kernel_rfl) ?_ _
          refine NoPanic.normal ?_
          go_wp2
          go_roundw
          case rel => exact ⟨f + 1, by omega, by go_num, HG2, H6, Y6, B6⟩
          case measure => simp [intOf]; omega
        · have HBn := Lib.hid (fun w' h1 h2 => block_no p q R R ⟨p0, b, sz, gc, k, rr, u⟩ x w' h1 h2 (by have := HP0.out; simp only at *; omega) (by have := HB0.out; simp only at *; rw [this]; exact hx))
          have HBad := Lib.hid (show ¬ ∀ x ∈ ms, 0 ≤ x ∧ x < (B : Int) from fun h => hx (h x (List.mem_of_mem_take (by rw [HT']; simp))))
          clear hx HT'
          go_wp2_with fail
          refine (HBn.out _ HA.out.box (HR0.out ▸ HA.out.c7)).mono ?_
          rintro _ w5 h5
          obtain ⟨rfl, h5⟩ := h5
          have B5 := Lib.hid (below_step HBl.out h5)
          clear h5 HBn
          go_wp2
          go_ret2
          exact .inr ⟨HBad.out, rfl, B5.out⟩
      · obtain rfl : f = n := by omega
        have d1 : decide ((f : Int) < (f : Int)) = false := decide_eq_false (by omega)
        have e := AM.out.len
        go_wp2
        go_ret2
        exact .inl ⟨by have := HGd.out; rw [List.take_of_length_le (by omega)] at this; exact this, p, q, r, rfl, by have := HA.out; rw [List.take_of_length_le (by omega)] at this; exact this, HBl.out, by omega, by omega, by omega⟩
end Go.Proofs.Ytipmjmbkknlcfaa
