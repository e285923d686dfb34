/-
  Contracts of stage 12's plain, awake, Few, over the landed code.
-/
import Derived.Test.YtodljocbimgeoaaChT
namespace Go.Proofs.Ytodljocbimgeoaa
open Go.RowKit
set_option maxRecDepth 100000

theorem New_yes (m : Sa) (s : Sc) (w : World) (h : SIn w m s) (hf : s.short) (hk : s.ok) :
    Calls Try.prog 12 #[.agg #[.int .i64 1, .int .i64 4, .int .i64 4, .int .i64 1, .int .i64 4, .int .i64 2, .int .i64 1], .agg (m.cells s)] w
      fun e w' => ∃ p, e = .returned (.tuple #[.pointer (some ⟨p, 0, none⟩), .int .i64 0]) ∧ Below w.heap.size w w' ∧ Tel w' p w.heap.size w'.heap.size s 0 0 :=
  Calls.mono (New_any m s w h hf) fun e w' h => by
    rcases h with ⟨_, h⟩ | ⟨h, _⟩
    · exact h
    · exact absurd hk h
theorem New_no (m : Sa) (s : Sc) (w : World) (h : SIn w m s) (hf : s.short) (hk : ¬ s.ok) :
    Calls Try.prog 12 #[.agg #[.int .i64 1, .int .i64 4, .int .i64 4, .int .i64 1, .int .i64 4, .int .i64 2, .int .i64 1], .agg (m.cells s)] w (Gives (.tuple #[.pointer none, .int .i64 2]) w) :=
  Calls.mono (New_any m s w h hf) fun e w' h => by
    rcases h with ⟨h, _⟩ | ⟨_, h⟩
    · exact absurd h hk
    · exact h
theorem r64_row {w : World} {g : Nat} {u : TypeId} {l : List Int} {n : Nat} (h : CRow w g u (I64 l).toArray) (hs : ∀ x ∈ l, -9223372036854775808 ≤ x ∧ x ≤ 9223372036854775807) (hl : l.length = n) : R64 w (some ⟨g, 0, none⟩) n l := by
  refine ⟨⟨by rw [I64_length, hl], fun _ => ⟨g, 0, rfl, h.lt, fun j _ => ?_⟩⟩, hs⟩
  rw [h.cell]
  simp
theorem eg_busy (s : Sc) (h : s = ⟨[3, 1], [], [], -1, [], []⟩) : s.short ∧ s.ok := by
  subst h
  refine ⟨⟨by simp, by simp, by simp, by simp, by simp⟩, ⟨fun i hi => ?_, fun i hi => absurd hi (by simp), fun i t hi => absurd hi (by simp), by simp, fun i hi => absurd hi (by simp)⟩⟩
  have h2 : i = 0 ∨ i = 1 := by simp at hi; omega
  rcases h2 with rfl | rfl <;> simp
theorem New_eg (w : World) (g : Nat) (h : CRow w g 3 #[.int .i64 3, .int .i64 1]) :
    Calls Try.prog 12 #[.agg #[.int .i64 1, .int .i64 4, .int .i64 4, .int .i64 1, .int .i64 4, .int .i64 2, .int .i64 1], .agg #[.slice (some ⟨g, 0, none⟩) 2 2, .slice none 0 0, .slice none 0 0, .int .i64 (-1), .slice none 0 0, .slice none 0 0]] w
      fun e w' => ∃ p, e = .returned (.tuple #[.pointer (some ⟨p, 0, none⟩), .int .i64 0]) ∧ Below w.heap.size w w' ∧ Tel w' p w.heap.size w'.heap.size ⟨[3, 1], [], [], -1, [], []⟩ 0 0 :=
  New_yes ⟨some ⟨g, 0, none⟩, 2, none, 0, none, 0, none, 0, none, 0⟩ ⟨[3, 1], [], [], -1, [], []⟩ w
    ⟨r64_row (l := [3, 1]) (by simpa [I64] using h) (by simp) rfl, ⟨Rd.nil_, by simp⟩, RN.nil_ _ _, ⟨Rd.nil_, by simp⟩, ⟨Rd.nil_, by simp⟩⟩ (eg_busy _ rfl).1 (eg_busy _ rfl).2

set_option maxHeartbeats 400000 in
theorem plain12_any (w : World) : Calls Try.prog 13 #[] w (Gives (.agg #[.int .i64 1, .int .i64 4, .int .i64 4, .int .i64 1, .int .i64 4, .int .i64 2, .int .i64 1]) w) := by
  go_enter Try.func13, Try.ntmps13
  have T0 := Lib.hid (CRow.new w #[.int .i64 0, .int .i64 0, .int .i64 0, .int .i64 0, .int .i64 0, .int .i64 0, .int .i64 0] 39)
  have B0 := Lib.hid (below_new w (.cells #[.int .i64 0, .int .i64 0, .int .i64 0, .int .i64 0, .int .i64 0, .int .i64 0, .int .i64 0] 39))
  go_wp2_with (with_reducible refine (?_ : wpList _ _ _ ({ dst := _, op := Op.store 39 _ _, type := _, pos := _, after := _, guard := _ } :: _) _ _); refine wpList_store_at rfl 39 _ _ rfl 7 size_geom _ w.heap.size ?hx rfl _ T0.out.row rfl rfl (by simp [Value.oneCell']) ?_; (case hx => simp [Act.eval]))
  have B9 := Lib.hid (below_setRow B0.out (Nat.le_refl _) #[.int .i64 1, .int .i64 4, .int .i64 4, .int .i64 1, .int .i64 4, .int .i64 2, .int .i64 1])
  have T9 := Lib.hid (T0.out.set #[.int .i64 1, .int .i64 4, .int .i64 4, .int .i64 1, .int .i64 4, .int .i64 2, .int .i64 1])
  go_wp2
  refine bodyPost_ret (results_cell_row rfl _ _ w.heap.size 39 _ (0, 0) _ rfl T9.out.row Try.underlying39 rfl size_geom) rfl ?_
  exact ⟨rfl, B9.out⟩

set_option maxHeartbeats 4000000 in
theorem awake12_any (w : World) : Calls Try.prog 5 #[] w (Gives (.bool true) w) := by
  have HS := Lib.hid (eg_busy ⟨[3, 1], [], [], -1, [], []⟩ rfl)
  go_enter Try.func5, Try.ntmps5
  go_wp2_with fail
  refine (plain12_any _).mono ?_
  rintro _ w1 ⟨rfl, h1⟩
  have B1 := Lib.hid h1
  have C1 := Lib.hid (CRow.new w1 #[.int .i64 3, .int .i64 1] 3)
  have N1 := Lib.hid (below_new w1 (.cells #[.int .i64 3, .int .i64 1] 3))
  clear h1
  go_wp2_with fail
  refine (New_eg _ _ C1.out).mono ?_
  rintro _ w2 ⟨p, rfl, h2, t2⟩
  have T2 := Lib.hid t2
  have L2 := Lib.hid (Nat.le_trans (Nat.le_trans B1.out.size N1.out.size) t2.1)
  have B2 := Lib.hid (below_step (below_step B1.out N1.out) h2)
  clear h2 t2 B1 C1 N1
  go_wp2_with fail
  refine (Busy_any p _ _ _ 0 0 _ T2.out HS.out.1 HS.out.2 (by omega)).mono ?_
  rintro _ w3 ⟨rfl, g3, t3⟩
  have T3 := Lib.hid t3
  have B3 := Lib.hid (B2.out.trans (g3.below (fun j hj => hj ▸ L2.out) B2.out.size))
  clear g3 t3 T2 B2
  simp only [List.getD, List.getElem?_cons_zero, Option.getD_some]
  go_wp2_with fail
  refine (Busy_any p _ _ _ 1 0 _ T3.out HS.out.1 HS.out.2 (by omega)).mono ?_
  rintro _ w4 ⟨rfl, g4, t4⟩
  have T4 := Lib.hid t4
  have B4 := Lib.hid (B3.out.trans (g4.below (fun j hj => hj ▸ L2.out) B3.out.size))
  clear g4 t4 T3 B3
  simp only [List.getD, List.getElem?_cons_zero, List.getElem?_cons_succ, Option.getD_some]
  go_wp2_with fail
  refine (Busy_any p _ _ _ 2 0 _ T4.out HS.out.1 HS.out.2 (by omega)).mono ?_
  rintro _ w5 ⟨rfl, g5, t5⟩
  have T5 := Lib.hid t5
  have B5 := Lib.hid (B4.out.trans (g5.below (fun j hj => hj ▸ L2.out) B4.out.size))
  clear g5 t5 T4 B4
  simp only [List.getD, List.getElem?_cons_succ, List.getElem?_nil, Option.getD_none]
  go_wp2_with fail
  refine (Busy_any p _ _ _ 3 0 _ T5.out HS.out.1 HS.out.2 (by omega)).mono ?_
  rintro _ w6 ⟨rfl, g6, t6⟩
  have B6 := Lib.hid (B5.out.trans (g6.below (fun j hj => hj ▸ L2.out) B5.out.size))
  clear g6 t6 T5 B5
  simp only [List.getD, List.getElem?_cons_succ, List.getElem?_nil, Option.getD_none]
  go_wp2
  go_ret
  exact ⟨rfl, B6.out⟩

/-- A script that a play goes through with. -/
structure Sc.few (s : Sc) : Prop where
  busy : s.busy.length ≤ 200
  fails : s.fails.length ≤ 50
  turns : s.turns.length ≤ 100
  torn : s.torn.length ≤ 200
  marked : s.marked.length ≤ 50
theorem Sc.few.short {s : Sc} (h : s.few) : s.short := ⟨by have := h.busy; omega, by have := h.fails; omega, by have := h.turns; omega, by have := h.torn; omega, by have := h.marked; omega⟩

set_option maxHeartbeats 4000000 in
theorem Few_any (m : Sa) (s : Sc) (w : World) : Calls Try.prog 11 #[.agg (m.cells s)] w (Checks s.few w) := by
  have S0 := Lib.hid (CRow.new w (m.cells s) 26)
  have B0 := Lib.hid (below_new w (.cells (m.cells s) 26))
  have y0 := S0.out.cell_at 0 (.slice m.a1 s.busy.length m.c1) rfl
  have y1 := S0.out.cell_at 1 (.slice m.a2 s.fails.length m.c2) rfl
  have y2 := S0.out.cell_at 2 (.slice m.a3 s.turns.length m.c3) rfl
  have y4 := S0.out.cell_at 4 (.slice m.a4 s.torn.length m.c4) rfl
  have y5 := S0.out.cell_at 5 (.slice m.a5 s.marked.length m.c5) rfl
  unfold Sa.cells at *
  go_enter Try.func11, Try.ntmps11
  by_cases h0 : s.busy.length ≤ 200
  · by_cases h1 : s.fails.length ≤ 50
    · by_cases h2 : s.turns.length ≤ 100
      · by_cases h4 : s.torn.length ≤ 200
        · go_wp2
          go_ret
          exact ⟨_, rfl, ⟨fun h => ⟨h0, h1, h2, h4, by have := of_decide_eq_true h; omega⟩, fun h => decide_eq_true (by have := h.marked; omega)⟩, B0.out⟩
        · go_wp2
          go_ret
          exact checks_no (fun h => h4 h.torn) B0.out
      · go_wp2
        go_ret
        exact checks_no (fun h => h2 h.turns) B0.out
    · go_wp2
      go_ret
      exact checks_no (fun h => h1 h.fails) B0.out
  · go_wp2
    go_ret
    exact checks_no (fun h => h0 h.busy) B0.out
end Go.Proofs.Ytodljocbimgeoaa
