/-
  Contract of choice.New, over the landed code.
-/
import Derived.Test.YtodljocbimgeoaaChRight
import Derived.Test.YtodljocbimgeoaaCloneI
import Derived.Test.YtodljocbimgeoaaClone
import Derived.Maps.AppendAt
import Derived.Maps.Own
namespace Go.Proofs.Ytodljocbimgeoaa
open Go.RowKit
set_option maxRecDepth 100000

theorem own_rebase {w : World} {base base' : Nat} {e : TypeId} {v : Value} {n : Nat} {xs : List Value} (h : w.ownsRow base e 1 v n xs) (hb : base' ≤ base) : w.ownsRow base' e 1 v n xs := by
  refine ⟨h.1, ?_⟩
  rcases h.2 with h1 | ⟨g, cap, cur, hv, hg, hr⟩
  · exact .inl h1
  · exact .inr ⟨g, cap, cur, hv, Nat.le_trans hb hg, hr⟩
theorem own_btw1 {w w' : World} {J : Nat → Prop} {base : Nat} {e : TypeId} {v : Value} {n : Nat} {xs : List Value} (h : w.ownsRow base e 1 v n xs) (hb : Btw J w w') (hn : ∀ g, v.ownBlock = some g → ¬ J g) : w'.ownsRow base e 1 v n xs :=
  own_keep h fun g hg hl => hb.block g hl (hn g hg)
theorem own_row {w : World} {base : Nat} {e : TypeId} {v : Value} {n : Nat} {xs : List Value} (h : w.ownsRow base e 1 v n xs) {g : Nat} (hg : v.ownBlock = some g) : ∃ cur : Array Value, w.heap[g]? = some (.cells cur e (0, 0)) := by
  rcases h.2 with ⟨rfl, _⟩ | ⟨g', cap, cur, rfl, _, hh, _⟩
  · cases hg
  · simp only [Value.ownBlock, Option.some.injEq] at hg
    subst hg
    exact ⟨cur, hh⟩
/-- A row of another type lies elsewhere. -/
theorem own_ne {w : World} {base : Nat} {e u : TypeId} {v : Value} {n g' : Nat} {xs : List Value} {cs : Array Value} (h : w.ownsRow base e 1 v n xs) (hc : CRow w g' u cs) (hu : u ≠ e) : ∀ g, v.ownBlock = some g → g ≠ g' := by
  rintro g hg rfl
  obtain ⟨cur, hh⟩ := own_row h hg
  rw [hc.row] at hh
  simp only [Option.some.injEq, Obj.cells.injEq] at hh
  exact hu hh.2.1
theorem own_map {w : World} {base : Nat} {e : TypeId} {v : Value} {n : Nat} {xs : List Value} {κ : Type} {key : κ → Value} {ok : κ → Prop} {e' : TypeId} {b base' m : Nat} {G : κ → List Value} (h : w.ownsRow base e 1 v n xs) (hm : Grp key ok e' w b base' m G) : ∀ g, v.ownBlock = some g → g ≠ b := by
  rintro g hg rfl
  obtain ⟨cur, hh⟩ := own_row h hg
  obtain ⟨_, es, clock, hb, _⟩ := hm
  rw [hb] at hh
  cases hh
theorem r64_btw {w w' : World} {J : Nat → Prop} {ad : Addr} {n : Nat} {l : List Int} (h : R64 w (some ad) n l) (hb : Btw J w w') (hn : ¬ J ad.block) : R64 w' (some ad) n l := by
  refine ⟨⟨h.1.1, fun h0 => ?_⟩, h.2⟩
  obtain ⟨b, off, e, hl, hc⟩ := h.1.2 h0
  injection e with e
  subst e
  refine ⟨b, off, rfl, Nat.lt_of_lt_of_le hl hb.size, fun j hj => ?_⟩
  rw [← hc j hj]
  have := hb.block b hl hn
  unfold World.cell?
  simp only [this]

theorem zero_ints (u : World) : (zeroValue 22).run Try.prog u = .ok (.slice none 0 0) u := by kernel_rfl
theorem wp_mapEntry {P : Program} (w : World) {o : Oper} {a : Act} {K : Act → World → Prop} {Q : Exit → Act → World → Prop} (m x : Operand) (t : TypeId) (hop : o.op = Op.mapEntry t m x) (b : Nat) (key : Value) (hm : a.eval m = .map (some b)) (hx : a.eval x = key)
    {v : Value} {w' : World} (hrun : (Instr.mapEntry t (.map (some b)) key).run P w = .ok v w') (h : K (a.put o.dst v) w') : o.wp P a w K Q := by
  unfold Oper.wp
  simp [execOp, hop, hm, hx, hrun, Result.andThen]
  exact h
theorem wp_entryStore {P : Program} (w : World) {o : Oper} {a : Act} {K : Act → World → Prop} {Q : Exit → Act → World → Prop} (m x y : Operand) (t : TypeId) (hop : o.op = Op.entryStore t m x y) (b : Nat) (st v : Value) (hm : a.eval m = .map (some b)) (hx : a.eval x = st) (hy : a.eval y = v)
    {w' : World} (hrun : (Instr.entryStore t (.map (some b)) st v).run P w = .ok () w') (h : K (a.put o.dst undef) w') : o.wp P a w K Q := by
  unfold Oper.wp
  simp [execOp, hop, hm, hx, hy, hrun, Result.andThen]
  exact h
theorem r64_one {w : World} {g : Nat} {x : Int} (h : w.cell? ⟨g, 0, none⟩ = some (.int .i64 x)) (h1 : -9223372036854775808 ≤ x) (h2 : x ≤ 9223372036854775807) : R64 w (some ⟨g, 0, none⟩) 1 [x] := by
  refine ⟨⟨rfl, fun _ => ⟨g, 0, rfl, World.block_lt_of_cell? w _ h, fun j hj => ?_⟩⟩, by intro y hy; simp at hy; subst hy; exact ⟨h1, h2⟩⟩
  match j, hj with
  | 0, _ => simpa [I64] using h
/-- append onto a row of numbers of one's own, at the operation. -/
theorem wp_appendJ (w : World) {o : Oper} {a : Act} {K : Act → World → Prop} {Q : Exit → Act → World → Prop} (s x : Operand)
    (ho : o.op = .call { callee := .builtin .append, args := #[s, x], argTypes := #[22, 22] }) (base : Nat) (v : Value) (l : List Int) (hs : a.eval s = v) (hown : w.ownsRow base 3 1 v (I64 l).length (I64 l))
    (ad : Addr) (m c : Nat) (k : List Int) (hx : a.eval x = .slice (some ad) m c) (hr : R64 w (some ad) m k) (h63 : l.length + m ≤ 1099511627776) (hbase : base ≤ w.heap.size)
    (h : ∀ v' w', w'.ownsRow base 3 1 v' (I64 (l ++ k)).length (I64 (l ++ k)) → w.grownBy w' v.ownBlock → (v'.ownBlock = v.ownBlock ∨ ∃ g, v'.ownBlock = some g ∧ w.heap.size ≤ g) → K (a.put o.dst v') w') : o.wp Try.prog a w K Q := by
  obtain ⟨i0, hi, hz0, hz1, hz2⟩ := info_parts info_int
  obtain ⟨v', w', hrun, h2, h3, _, h4⟩ := run_append_own_at (P := Try.prog) (w := w) base 22 o.type 3 i0 _ 1 8 Try.underlying22 hi hz0 hz1 hz2 rfl (by decide) v (I64 l).length (I64 l) hown ad m c (I64 k) (by rw [I64_length, hr.len]; omega) (by
      intro j u hu
      have hj : j < m := by
        have := (List.getElem?_eq_some_iff.1 hu).1
        rw [I64_length, hr.len] at this
        exact this
      obtain ⟨b, off, e, hb, hc⟩ := hr.1.2 (by omega)
      injection e with e
      subst e
      exact Rd.news hc hr.1.1 j u hu) (I64_one k) (by rw [I64_length]; unfold maxLen; omega) (by rw [I64_length]; omega) hbase
  unfold Oper.wp execOp
  simp only [ho, resolve, invoke, builtin, Sem.run_bind, Sem.run_pure, Result.andThen_ok, List.map_toArray, List.map_cons, List.map_nil, hs, hx, hrun]
  refine h v' w' (by rw [I64_append, List.length_append, I64_length k, hr.len]; exact h2) h3 (h4.imp id fun h => ⟨_, h, Nat.le_refl _⟩)

def NewD (lo gs : Nat) (m : Sa) (s : Sc) : Nat → Value → World → Prop
  | 0, v, _ => v = .pointer (some ⟨gs, 0, none⟩)
  | 1, v, _ => v = .slice m.a1 s.busy.length m.c1
  | 2, v, w => ∃ A c, v = .slice A s.busy.length c ∧ w.ownsRow lo 3 1 (.slice A s.busy.length c) s.busy.length (I64 s.busy)
  | 3, v, _ => v = .pointer (some ⟨gs, 1, none⟩)
  | 4, v, _ => v = .slice m.a2 s.fails.length m.c2
  | 5, v, w => ∃ A c, v = .slice A s.fails.length c ∧ w.ownsRow lo 3 1 (.slice A s.fails.length c) s.fails.length (I64 s.fails)
  | 6, v, w => ∃ b, v = .map (some b) ∧ lo ≤ b ∧ Grp pkey pin 3 w b (b + 1) 0 (fun _ => [])
  | 7, v, _ => v = .pointer (some ⟨gs, 4, none⟩)
  | 8, v, _ => v = .slice m.a4 s.torn.length m.c4
  | 9, v, w => ∃ A c, v = .slice A s.torn.length c ∧ w.ownsRow lo 5 1 (.slice A s.torn.length c) s.torn.length (U8 s.torn)
  | 10, v, w => ∃ (A1 : Option Addr) (c1 : Nat) (A2 : Option Addr) (c2 b : Nat) (A3 : Option Addr) (c3 : Nat), v = .agg #[.slice A1 s.busy.length c1, .slice A2 s.fails.length c2, .map (some b), .slice A3 s.torn.length c3, .int .i64 0, .int .i64 0] ∧
      w.ownsRow lo 3 1 (.slice A1 s.busy.length c1) s.busy.length (I64 s.busy) ∧ w.ownsRow lo 3 1 (.slice A2 s.fails.length c2) s.fails.length (I64 s.fails) ∧ w.ownsRow lo 5 1 (.slice A3 s.torn.length c3) s.torn.length (U8 s.torn) ∧
      Grp pkey pin 3 w b (b + 1) 0 (fun _ => []) ∧ lo ≤ b
  | 11, v, w => ∃ (A1 : Option Addr) (c1 : Nat) (A2 : Option Addr) (c2 b : Nat) (A3 : Option Addr) (c3 p : Nat), v = .pointer (some ⟨p, 0, none⟩) ∧ lo ≤ p ∧ CRow w p 48 #[.slice A1 s.busy.length c1, .slice A2 s.fails.length c2, .map (some b), .slice A3 s.torn.length c3, .int .i64 0, .int .i64 0] ∧
      w.ownsRow lo 3 1 (.slice A1 s.busy.length c1) s.busy.length (I64 s.busy) ∧ w.ownsRow lo 3 1 (.slice A2 s.fails.length c2) s.fails.length (I64 s.fails) ∧ w.ownsRow lo 5 1 (.slice A3 s.torn.length c3) s.torn.length (U8 s.torn) ∧
      Grp pkey pin 3 w b (b + 1) 0 (fun _ => []) ∧ lo ≤ b ∧ b ≠ p ∧ (∀ g, (Value.slice A1 s.busy.length c1).ownBlock = some g ∨ (Value.slice A2 s.fails.length c2).ownBlock = some g ∨ (Value.slice A3 s.torn.length c3).ownBlock = some g → g ≠ p)
  | 12, v, w => ∃ (A1 : Option Addr) (c1 : Nat) (A2 : Option Addr) (c2 b : Nat) (A3 : Option Addr) (c3 p : Nat), v = .pointer (some ⟨p, 0, none⟩) ∧ lo ≤ p ∧ CRow w p 48 #[.slice A1 s.busy.length c1, .slice A2 s.fails.length c2, .map (some b), .slice A3 s.torn.length c3, .int .i64 0, .int .i64 0] ∧
      w.ownsRow lo 3 1 (.slice A1 s.busy.length c1) s.busy.length (I64 s.busy) ∧ w.ownsRow lo 3 1 (.slice A2 s.fails.length c2) s.fails.length (I64 s.fails) ∧ w.ownsRow lo 5 1 (.slice A3 s.torn.length c3) s.torn.length (U8 s.torn) ∧
      Grp pkey pin 3 w b (b + 1) 0 (fun _ => []) ∧ lo ≤ b ∧ b ≠ p ∧ (∀ g, (Value.slice A1 s.busy.length c1).ownBlock = some g ∨ (Value.slice A2 s.fails.length c2).ownBlock = some g ∨ (Value.slice A3 s.torn.length c3).ownBlock = some g → g ≠ p)
  | _, _, _ => True
theorem NewD_below (lo gs : Nat) (m : Sa) (s : Sc) : ∀ i v w w', NewD lo gs m s i v w → Below w.heap.size w w' → NewD lo gs m s i v w' := by
  intro i v w w' h hb
  match i, h with
  | 0, h => exact h
  | 1, h => exact h
  | 2, h => obtain ⟨A, c, e, h1⟩ := h; exact ⟨A, c, e, own_below h1 hb⟩
  | 3, h => exact h
  | 4, h => exact h
  | 5, h => obtain ⟨A, c, e, h1⟩ := h; exact ⟨A, c, e, own_below h1 hb⟩
  | 6, h => obtain ⟨b, e, h1, h2⟩ := h; exact ⟨b, e, h1, h2.below hb⟩
  | 7, h => exact h
  | 8, h => exact h
  | 9, h => obtain ⟨A, c, e, h1⟩ := h; exact ⟨A, c, e, own_below h1 hb⟩
  | 10, h => obtain ⟨A1, c1, A2, c2, b, A3, c3, e, o1, o2, o3, hg, hr⟩ := h; exact ⟨A1, c1, A2, c2, b, A3, c3, e, own_below o1 hb, own_below o2 hb, own_below o3 hb, hg.below hb, hr⟩
  | 11, h => obtain ⟨A1, c1, A2, c2, b, A3, c3, p, e, hp, hc, o1, o2, o3, hg, hr⟩ := h; exact ⟨A1, c1, A2, c2, b, A3, c3, p, e, hp, hc.below hb, own_below o1 hb, own_below o2 hb, own_below o3 hb, hg.below hb, hr⟩
  | 12, h => obtain ⟨A1, c1, A2, c2, b, A3, c3, p, e, hp, hc, o1, o2, o3, hg, hr⟩ := h; exact ⟨A1, c1, A2, c2, b, A3, c3, p, e, hp, hc.below hb, own_below o1 hb, own_below o2 hb, own_below o3 hb, hg.below hb, hr⟩
  | _ + 13, _ => trivial

/-- A teller that begins, or none. -/
def NewIs (s : Sc) (w : World) (e : Ending) (w' : World) : Prop :=
  (s.ok ∧ ∃ p, e = .returned (.tuple #[.pointer (some ⟨p, 0, none⟩), .int .i64 0]) ∧ Below w.heap.size w w' ∧ Tel w' p w.heap.size w'.heap.size s 0 0) ∨
  (¬ s.ok ∧ e = .returned (.tuple #[.pointer none, .int .i64 2]) ∧ Below w.heap.size w w')

theorem Right12 (m : Sa) (s : Sc) (w : World) (h : SIn w m s) (hf : s.short) : Calls Try.prog 20 #[.agg #[.int .i64 1, .int .i64 4, .int .i64 4, .int .i64 1, .int .i64 4, .int .i64 2, .int .i64 1], .agg (m.cells s)] w (Checks s.ok w) := Right_any m s w h hf

set_option maxHeartbeats 8000000 in
theorem New_any (m : Sa) (s : Sc) (w : World) (h : SIn w m s) (hf : s.short) : Calls Try.prog 12 #[geo12.val, m.val s] w (NewIs s w) := by
  have HI := Lib.hid h
  have HF := Lib.hid hf
  have HRI := Lib.hid (Right12 m s)
  clear h hf
  simp only [Gm.val, geo12, Sa.val]
  have S0 := Lib.hid (CRow.new (w.alloc (.cells #[.int .i64 1, .int .i64 4, .int .i64 4, .int .i64 1, .int .i64 4, .int .i64 2, .int .i64 1] 39)) (m.cells s) 26)
  have B0 := Lib.hid ((below_new w (.cells #[.int .i64 1, .int .i64 4, .int .i64 4, .int .i64 1, .int .i64 4, .int .i64 2, .int .i64 1] 39)).alloc (by simp) (.cells (m.cells s) 26))
  have L0 : w.heap.size ≤ ((w.alloc (.cells #[.int .i64 1, .int .i64 4, .int .i64 4, .int .i64 1, .int .i64 4, .int .i64 2, .int .i64 1] 39)).alloc (.cells (m.cells s) 26)).heap.size := B0.out.size
  unfold Sa.cells at *
  go_enter Try.func12, Try.ntmps12
  go_wp2_with fail
  refine (HRI.out _ (HI.out.below B0.out) HF.out).mono ?_
  rintro _ w2 ⟨v, rfl, hv, h2⟩
  have S2 := Lib.hid (S0.out.below h2)
  rw [show (w.alloc (.cells #[.int .i64 1, .int .i64 4, .int .i64 4, .int .i64 1, .int .i64 4, .int .i64 2, .int .i64 1] 39)).heap.size = w.heap.size + 1 by simp] at S2
  have B2 := Lib.hid (B0.out.trans (h2.mono L0))
  have L2 := Lib.hid (Nat.le_trans L0 h2.size)
  have I2 := Lib.hid (HI.out.below B2.out)
  clear S0 B0 L0 h2 HRI
  cases v
  · have HNO := Lib.hid (show ¬ s.ok from fun h => Bool.noConfusion (hv.2 h))
    clear hv S2 L2 I2
    go_wp2
    go_ret2
    exact .inr ⟨HNO.out, rfl, B2.out⟩
  · have HOK := Lib.hid (hv.1 rfl)
    clear hv
    go_wp2_with fail
    refine wp_region_inv (by kernel_rfl) [some 14, some 15, some 16, some 17, some 18, some 19, some 20, some 21, some 22, some 23, some 24, some 25, some 6] (by kernel_rfl) (by kernel_rfl) (by kernel_rfl) (NewD (w.heap.size) (w.heap.size + 1) (m) (s)) (NewD_below (w.heap.size) (w.heap.size + 1) (m) (s)) ?_ ?_
    · intro i o f w' ho hbw hdep K hK
      match i, ho, hdep, hK with
      | 0, ho, hdep, hK =>
        obtain rfl : { dst := some 14, op := Op.fieldAddr 26 (Operand.tmp 3) 0, type := 0, pos := "choice.go:55", after := #[], guard := none } = o := Option.some.inj ho
        rw [if_pos (by rfl)]
        simp only [frFrom, Act.put, Nat.reduceAdd, List.setIfInBounds_toArray, List.set_cons_zero, List.set_cons_succ] at hK ⊢
        clear hdep ho
        go_simp
        exact hK.out _ _ rfl (Below.refl _ _)
      | 1, ho, hdep, hK =>
        obtain rfl : { dst := some 15, op := Op.load 22 (Operand.tmp 14), type := 22, pos := "choice.go:55", after := #[{ on := 0, ground := Ground.data }], guard := none } = o := Option.some.inj ho
        have d0 := (show NewD (w.heap.size) (w.heap.size + 1) (m) (s) 0 (f 0) w' from hdep ⟨0, .data⟩ (by simp) rfl)
        simp only [NewD] at d0
        rw [if_pos (by rfl)]
        simp only [frFrom, Act.put, Nat.reduceAdd, List.setIfInBounds_toArray, List.set_cons_zero, List.set_cons_succ, d0] at hK ⊢
        clear hdep ho d0
        have y := (S2.out.below hbw).cell_at 0 _ rfl
        go_simp
        exact hK.out _ _ rfl (Below.refl _ _)
      | 2, ho, hdep, hK =>
        obtain rfl : { dst := some 16, op := Op.call { callee := Callee.value (Operand.func 18), args := #[Operand.tmp 15], argTypes := #[22] }, type := 22, pos := "choice.go:56", after := #[{ on := 1, ground := Ground.data }], guard := none } = o := Option.some.inj ho
        have d1 := (show NewD (w.heap.size) (w.heap.size + 1) (m) (s) 1 (f 1) w' from hdep ⟨1, .data⟩ (by simp) rfl)
        simp only [NewD] at d1
        rw [if_pos (by rfl)]
        simp only [frFrom, Act.put, Nat.reduceAdd, List.setIfInBounds_toArray, List.set_cons_zero, List.set_cons_succ, d1] at hK ⊢
        clear hdep ho d1
        go_simp
        refine (CloneI_any m.a1 s.busy.length m.c1 s.busy _ (I2.out.busy.below hbw) (by have := HF.out.busy; omega)).mono ?_
        rintro _ w'' ⟨A', c', rfl, ho', hB⟩
        have HO' := Lib.hid (own_rebase ho' (Nat.le_trans L2.out hbw.size))
        clear ho'
        go_wp2_with fail
        exact hK.out _ _ ⟨A', c', rfl, HO'.out⟩ hB
      | 3, ho, hdep, hK =>
        obtain rfl : { dst := some 17, op := Op.fieldAddr 26 (Operand.tmp 3) 1, type := 0, pos := "choice.go:55", after := #[], guard := none } = o := Option.some.inj ho
        rw [if_pos (by rfl)]
        simp only [frFrom, Act.put, Nat.reduceAdd, List.setIfInBounds_toArray, List.set_cons_zero, List.set_cons_succ] at hK ⊢
        clear hdep ho
        go_simp
        exact hK.out _ _ rfl (Below.refl _ _)
      | 4, ho, hdep, hK =>
        obtain rfl : { dst := some 18, op := Op.load 22 (Operand.tmp 17), type := 22, pos := "choice.go:55", after := #[{ on := 3, ground := Ground.data }], guard := none } = o := Option.some.inj ho
        have d3 := (show NewD (w.heap.size) (w.heap.size + 1) (m) (s) 3 (f 3) w' from hdep ⟨3, .data⟩ (by simp) rfl)
        simp only [NewD] at d3
        rw [if_pos (by rfl)]
        simp only [frFrom, Act.put, Nat.reduceAdd, List.setIfInBounds_toArray, List.set_cons_zero, List.set_cons_succ, d3] at hK ⊢
        clear hdep ho d3
        have y := (S2.out.below hbw).cell_at 1 _ rfl
        go_simp
        exact hK.out _ _ rfl (Below.refl _ _)
      | 5, ho, hdep, hK =>
        obtain rfl : { dst := some 19, op := Op.call { callee := Callee.value (Operand.func 18), args := #[Operand.tmp 18], argTypes := #[22] }, type := 22, pos := "choice.go:57", after := #[{ on := 4, ground := Ground.data }, { on := 2, ground := Ground.chain }], guard := none } = o := Option.some.inj ho
        have d4 := (show NewD (w.heap.size) (w.heap.size + 1) (m) (s) 4 (f 4) w' from hdep ⟨4, .data⟩ (by simp) rfl)
        simp only [NewD] at d4
        rw [if_pos (by rfl)]
        simp only [frFrom, Act.put, Nat.reduceAdd, List.setIfInBounds_toArray, List.set_cons_zero, List.set_cons_succ, d4] at hK ⊢
        clear hdep ho d4
        go_simp
        refine (CloneI_any m.a2 s.fails.length m.c2 s.fails _ (I2.out.fails.below hbw) (by have := HF.out.fails; omega)).mono ?_
        rintro _ w'' ⟨A', c', rfl, ho', hB⟩
        have HO' := Lib.hid (own_rebase ho' (Nat.le_trans L2.out hbw.size))
        clear ho'
        go_wp2_with fail
        exact hK.out _ _ ⟨A', c', rfl, HO'.out⟩ hB
      | 6, ho, hdep, hK =>
        obtain rfl : { dst := some 20, op := Op.makeMap 46 none, type := 46, pos := "choice.go:55", after := #[], guard := none } = o := Option.some.inj ho
        rw [if_pos (by rfl)]
        simp only [frFrom, Act.put, Nat.reduceAdd, List.setIfInBounds_toArray, List.set_cons_zero, List.set_cons_succ] at hK ⊢
        clear hdep ho
        have hmm := @run_makeMap Try.prog
        go_simp
        exact hK.out _ _ ⟨w'.heap.size, rfl, Nat.le_trans L2.out hbw.size, Grp.made w' _ _ _ _ (Nat.lt_succ_self _)⟩ (below_new _ _)
      | 7, ho, hdep, hK =>
        obtain rfl : { dst := some 21, op := Op.fieldAddr 26 (Operand.tmp 3) 4, type := 0, pos := "choice.go:55", after := #[], guard := none } = o := Option.some.inj ho
        rw [if_pos (by rfl)]
        simp only [frFrom, Act.put, Nat.reduceAdd, List.setIfInBounds_toArray, List.set_cons_zero, List.set_cons_succ] at hK ⊢
        clear hdep ho
        go_simp
        exact hK.out _ _ rfl (Below.refl _ _)
      | 8, ho, hdep, hK =>
        obtain rfl : { dst := some 22, op := Op.load 24 (Operand.tmp 21), type := 24, pos := "choice.go:55", after := #[{ on := 7, ground := Ground.data }], guard := none } = o := Option.some.inj ho
        have d7 := (show NewD (w.heap.size) (w.heap.size + 1) (m) (s) 7 (f 7) w' from hdep ⟨7, .data⟩ (by simp) rfl)
        simp only [NewD] at d7
        rw [if_pos (by rfl)]
        simp only [frFrom, Act.put, Nat.reduceAdd, List.setIfInBounds_toArray, List.set_cons_zero, List.set_cons_succ, d7] at hK ⊢
        clear hdep ho d7
        have y := (S2.out.below hbw).cell_at 4 _ rfl
        go_simp
        exact hK.out _ _ rfl (Below.refl _ _)
      | 9, ho, hdep, hK =>
        obtain rfl : { dst := some 23, op := Op.call { callee := Callee.value (Operand.func 21), args := #[Operand.tmp 22], argTypes := #[24] }, type := 24, pos := "choice.go:59", after := #[{ on := 8, ground := Ground.data }, { on := 5, ground := Ground.chain }], guard := none } = o := Option.some.inj ho
        have d8 := (show NewD (w.heap.size) (w.heap.size + 1) (m) (s) 8 (f 8) w' from hdep ⟨8, .data⟩ (by simp) rfl)
        simp only [NewD] at d8
        rw [if_pos (by rfl)]
        simp only [frFrom, Act.put, Nat.reduceAdd, List.setIfInBounds_toArray, List.set_cons_zero, List.set_cons_succ, d8] at hK ⊢
        clear hdep ho d8
        go_simp
        refine (Clone_any m.a4 s.torn.length m.c4 s.torn _ (I2.out.torn.below hbw) (by have := HF.out.torn; omega)).mono ?_
        rintro _ w'' ⟨A', c', rfl, ho', hB⟩
        have HO' := Lib.hid (own_rebase ho' (Nat.le_trans L2.out hbw.size))
        clear ho'
        go_wp2_with fail
        exact hK.out _ _ ⟨A', c', rfl, HO'.out⟩ hB
      | 10, ho, hdep, hK =>
        obtain rfl : { dst := some 24, op := Op.build 48 #[(0, Operand.tmp 16), (1, Operand.tmp 19), (2, Operand.tmp 20), (3, Operand.tmp 23)], type := 48, pos := "choice.go:55", after := #[{ on := 2, ground := Ground.data }, { on := 5, ground := Ground.data }, { on := 6, ground := Ground.data }, { on := 9, ground := Ground.data }], guard := none } = o := Option.some.inj ho
        obtain ⟨A1, c1, d2, o1⟩ := (show NewD (w.heap.size) (w.heap.size + 1) (m) (s) 2 (f 2) w' from hdep ⟨2, .data⟩ (by simp) rfl)
        obtain ⟨A2, c2, d5, o2⟩ := (show NewD (w.heap.size) (w.heap.size + 1) (m) (s) 5 (f 5) w' from hdep ⟨5, .data⟩ (by simp) rfl)
        obtain ⟨b, d6, hb, hg⟩ := (show NewD (w.heap.size) (w.heap.size + 1) (m) (s) 6 (f 6) w' from hdep ⟨6, .data⟩ (by simp) rfl)
        obtain ⟨A3, c3, d9, o3⟩ := (show NewD (w.heap.size) (w.heap.size + 1) (m) (s) 9 (f 9) w' from hdep ⟨9, .data⟩ (by simp) rfl)
        rw [if_pos (by rfl)]
        simp only [frFrom, Act.put, Nat.reduceAdd, List.setIfInBounds_toArray, List.set_cons_zero, List.set_cons_succ, d2, d5, d6, d9] at hK ⊢
        clear hdep ho d2 d5 d6 d9
        go_simp
        exact hK.out _ _ ⟨A1, c1, A2, c2, b, A3, c3, rfl, o1, o2, o3, hg, hb⟩ (Below.refl _ _)
      | 11, ho, hdep, hK =>
        obtain rfl : { dst := some 25, op := Op.box 48 (Operand.tmp 24), type := 28, pos := "choice.go:55", after := #[{ on := 10, ground := Ground.data }], guard := none } = o := Option.some.inj ho
        obtain ⟨A1, c1, A2, c2, b, A3, c3, d10, o1, o2, o3, hg, hb⟩ := (show NewD (w.heap.size) (w.heap.size + 1) (m) (s) 10 (f 10) w' from hdep ⟨10, .data⟩ (by simp) rfl)
        rw [if_pos (by rfl)]
        simp only [frFrom, Act.put, Nat.reduceAdd, List.setIfInBounds_toArray, List.set_cons_zero, List.set_cons_succ, d10] at hK ⊢
        clear hdep ho d10
        go_simp
        refine hK.out _ _ ⟨A1, c1, A2, c2, b, A3, c3, w'.heap.size, rfl, Nat.le_trans L2.out hbw.size, CRow.new w' _ _, o1.alloc _, o2.alloc _, o3.alloc _, hg.below (below_new _ _), hb, Nat.ne_of_lt hg.lt, ?_⟩ (below_new _ _)
        rintro g (e | e | e)
        · exact Nat.ne_of_lt (o1.lt g e).2
        · exact Nat.ne_of_lt (o2.lt g e).2
        · exact Nat.ne_of_lt (o3.lt g e).2
      | 12, ho, hdep, hK =>
        obtain rfl : { dst := some 6, op := Op.assign (Operand.tmp 25), type := 28, pos := "choice.go:55", after := #[{ on := 11, ground := Ground.data }, { on := 9, ground := Ground.chain }, { on := 0, ground := Ground.phase }, { on := 1, ground := Ground.phase }, { on := 2, ground := Ground.phase }, { on := 3, ground := Ground.phase }, { on := 4, ground := Ground.phase }, { on := 5, ground := Ground.phase }, { on := 6, ground := Ground.phase }, { on := 7, ground := Ground.phase }, { on := 8, ground := Ground.phase }, { on := 9, ground := Ground.phase }, { on := 10, ground := Ground.phase }, { on := 11, ground := Ground.phase }], guard := none } = o := Option.some.inj ho
        obtain ⟨A1, c1, A2, c2, b, A3, c3, p, d11, hp, hc, o1, o2, o3, hg, hr⟩ := (show NewD (w.heap.size) (w.heap.size + 1) (m) (s) 11 (f 11) w' from hdep ⟨11, .data⟩ (by simp) rfl)
        rw [if_pos (by rfl)]
        simp only [frFrom, Act.put, Nat.reduceAdd, List.setIfInBounds_toArray, List.set_cons_zero, List.set_cons_succ, d11] at hK ⊢
        clear hdep ho d11
        go_simp
        exact hK.out _ _ ⟨A1, c1, A2, c2, b, A3, c3, p, rfl, hp, hc, o1, o2, o3, hg, hr⟩ (Below.refl _ _)
      | _ + 13, ho, _, _ => simp at ho
    · intro f w' hbw hall
      simp only [frFrom, Act.put, Nat.reduceAdd, List.setIfInBounds_toArray, List.set_cons_zero, List.set_cons_succ]
      obtain ⟨A1, c1, A2, c2, b, A3, c3, p, d12, hp, hc, o1, o2, o3, hg, hb, hbp, hr⟩ := (show NewD (w.heap.size) (w.heap.size + 1) m s 12 (f 12) w' from hall 12 (by simp))
      rw [d12]
      clear hall
      rename World => w3
      have C3 := Lib.hid hc
      have O1 := Lib.hid o1
      have O2 := Lib.hid o2
      have O3 := Lib.hid o3
      have hpl := hc.lt
      have hbl := hg.lt
      have M3 := Lib.hid (hg.rebase w3.heap.size hbl)
      have HA := Lib.hid hr
      have BW3 := Lib.hid (B2.out.trans (hbw.mono B2.out.size))
      have S3 := Lib.hid (S2.out.below hbw)
      have I3 := Lib.hid (I2.out.below hbw)
      have y := S3.out.cell_at 2 _ rfl
      clear hc o1 o2 o3 hg hr hbw B2 S2 I2 L2
      go_wp2
      clear y
      go_loopw [29] (fun i wr => ∃ k : Nat, k ≤ s.turns.length ∧ i = .int .i64 (k : Int) ∧ Hid (Btw (fun j => j = b) w3 wr) ∧ Hid (Grp pkey pin 3 wr b w3.heap.size k (fun x => I64 (grp (s.turns.take k) x)))) (fun i _ => s.turns.length - (intOf i).toNat)
      case atStart => exact ⟨0, Nat.zero_le _, rfl, Btw.refl _, by simpa [grp_nil, I64, Hid] using M3.out⟩
      case round =>
        obtain ⟨k, hk, rfl, N4, M4⟩ := hrel
        rename World => wr
        have hsz := N4.out.size
        have htl : s.turns.length ≤ 4096 := HF.out.turns
        by_cases hlt : k < s.turns.length
        · have B4 : Below w.heap.size w wr := BW3.out.trans (N4.out.below (fun j h => h ▸ hb) BW3.out.size)
          obtain ⟨b0, off, t, ha3, hb0, HX, hx1, hx2, hx3, hin1, hin2, hx7⟩ := (HI.out.turns.below B4).at_ hlt
          have hkin : pin (t.r, t.g) := ⟨hin1, hin2⟩
          have P4 := C3.out.btw N4.out (Ne.symm hbp)
          have E4 := (below_new wr (.cells #[.int .i64 t.r, .int .i64 t.g, .int .i64 t.b] 45))
          have T4 := CRow.new wr #[.int .i64 t.r, .int .i64 t.g, .int .i64 t.b] 45
          have Q4 := CRow.new (wr.alloc (.cells #[.int .i64 t.r, .int .i64 t.g, .int .i64 t.b] 45)) #[.int .i64 t.r, .int .i64 t.g] 53
          have F4 := below_new (wr.alloc (.cells #[.int .i64 t.r, .int .i64 t.g, .int .i64 t.b] 45)) (.cells #[.int .i64 t.r, .int .i64 t.g] 53)
          have es : (wr.alloc (.cells #[.int .i64 t.r, .int .i64 t.g, .int .i64 t.b] 45)).heap.size = wr.heap.size + 1 := by simp
          rw [es] at Q4
          have P5 := Lib.hid ((P4.below E4).below F4)
          have T5 := Lib.hid (T4.below F4)
          have Q5 := Lib.hid Q4
          have M5 := Lib.hid ((M4.out.below E4).below F4)
          have N5 := Lib.hid (Btw.trans (J := fun j => j = b) (Btw.trans (J := fun j => j = b) N4.out (Btw.of_below E4) (fun _ _ h => h)) (Btw.of_below F4) (fun _ _ h => h))
          have h5 : ((wr.alloc (.cells #[.int .i64 t.r, .int .i64 t.g, .int .i64 t.b] 45)).alloc (.cells #[.int .i64 t.r, .int .i64 t.g] 53)).heap.size = wr.heap.size + 2 := by simp
          have hpb : ¬ p = b := Ne.symm hbp
          have htb : ¬ wr.heap.size = b := by omega
          have hqb : ¬ wr.heap.size + 1 = b := by omega
          clear P4 E4 T4 Q4 F4 es M4
          rw [ha3]
          go_wp2
          generalize HW5 : ((wr.alloc (.cells #[.int .i64 t.r, .int .i64 t.g, .int .i64 t.b] 45)).alloc (.cells #[.int .i64 t.r, .int .i64 t.g] 53)) = W5
          rw [HW5] at P5 T5 Q5 M5 N5 h5
          clear HW5
          refine wp_region_noPanic ?_
          refine wp_region_held_drew (S := fun w' => CRow w' p 48 #[.slice A1 s.busy.length c1, .slice A2 s.fails.length c2, .map (some b), .slice A3 s.torn.length c3, .int .i64 0, .int .i64 0] ∧ CRow w' wr.heap.size 45 #[.int .i64 t.r, .int .i64 t.g, .int .i64 t.b] ∧ CRow w' (wr.heap.size + 1) 53 #[.int .i64 t.r, .int .i64 t.g]) (by kernel_rfl) ⟨P5.out.drew, T5.out.drew, Q5.out.drew⟩ (fun C0 => ?_)
          refine wpAnyH_take (i := 0) (oi := { dst := some 38, op := Op.move (Operand.tmp 6), type := 28, pos := "choice.go:63", after := #[], guard := none }) (v := ?_) rfl (by kernel_rfl) (by kernel_rfl) (by kernel_rfl) (fun _ _ _ h => h) (Or.inl ⟨by rfl, ?_⟩) C0 ?_
          rotate_left
          · intro W' hSw
            clear hSw
            go_simp <;> with_reducible rfl
          try simp only [Act.put, List.setIfInBounds_toArray, List.set_cons_zero, List.set_cons_succ]
          refine wpAnyH_take (i := 1) (oi := { dst := some 39, op := Op.nilCheck (Operand.tmp 38), type := 0, pos := "choice.go:63", after := #[{ on := 0, ground := Ground.data }], guard := none }) (v := ?_) rfl (by kernel_rfl) (by kernel_rfl) (by kernel_rfl) (fun _ _ _ h => h) (Or.inl ⟨by rfl, ?_⟩) C0 ?_
          rotate_left
          · intro W' hSw
            clear hSw
            go_simp <;> with_reducible rfl
          try simp only [Act.put, List.setIfInBounds_toArray, List.set_cons_zero, List.set_cons_succ]
          refine wpAnyH_take (i := 2) (oi := { dst := some 40, op := Op.fieldAddr 48 (Operand.tmp 39) 2, type := 0, pos := "choice.go:63", after := #[{ on := 1, ground := Ground.data }], guard := none }) (v := ?_) rfl (by kernel_rfl) (by kernel_rfl) (by kernel_rfl) (fun _ _ _ h => h) (Or.inl ⟨by rfl, ?_⟩) C0 ?_
          rotate_left
          · intro W' hSw
            clear hSw
            go_simp <;> with_reducible rfl
          try simp only [Act.put, List.setIfInBounds_toArray, List.set_cons_zero, List.set_cons_succ]
          refine wpAnyH_take (i := 3) (oi := { dst := some 41, op := Op.load 46 (Operand.tmp 40), type := 46, pos := "choice.go:63", after := #[{ on := 2, ground := Ground.data }], guard := none }) (v := ?_) rfl (by kernel_rfl) (by kernel_rfl) (by kernel_rfl) (fun _ _ _ h => h) (Or.inl ⟨by rfl, ?_⟩) C0 ?_
          rotate_left
          · intro W' hSw
            have y := hSw.1.cell_at 2 _ rfl
            clear hSw
            go_simp <;> with_reducible rfl
          try simp only [Act.put, List.setIfInBounds_toArray, List.set_cons_zero, List.set_cons_succ]
          refine wpAnyH_take (i := 4) (oi := { dst := some 42, op := Op.load 53 (Operand.tmp 9), type := 53, pos := "choice.go:63", after := #[], guard := none }) (v := ?_) rfl (by kernel_rfl) (by kernel_rfl) (by kernel_rfl) (fun _ _ _ h => h) (Or.inl ⟨by rfl, ?_⟩) C0 ?_
          rotate_left
          · intro W' hSw
            have y0 := hSw.2.2.cell_at 0 _ rfl
            have y1 := hSw.2.2.cell_at 1 _ rfl
            clear hSw
            go_simp <;> with_reducible rfl
          try simp only [Act.put, List.setIfInBounds_toArray, List.set_cons_zero, List.set_cons_succ]
          refine wpAnyH_take (i := 5) (oi := { dst := some 44, op := Op.fieldAddr 45 (Operand.tmp 8) 2, type := 0, pos := "choice.go:63", after := #[], guard := none }) (v := ?_) rfl (by kernel_rfl) (by kernel_rfl) (by kernel_rfl) (fun _ _ _ h => h) (Or.inl ⟨by rfl, ?_⟩) C0 ?_
          rotate_left
          · intro W' hSw
            clear hSw
            go_simp <;> with_reducible rfl
          try simp only [Act.put, List.setIfInBounds_toArray, List.set_cons_zero, List.set_cons_succ]
          refine wpAnyH_take (i := 6) (oi := { dst := some 45, op := Op.load 3 (Operand.tmp 44), type := 3, pos := "choice.go:63", after := #[{ on := 5, ground := Ground.data }], guard := none }) (v := ?_) rfl (by kernel_rfl) (by kernel_rfl) (by kernel_rfl) (fun _ _ _ h => h) (Or.inl ⟨by rfl, ?_⟩) C0 ?_
          rotate_left
          · intro W' hSw
            have y := hSw.2.1.cell_at 2 _ rfl
            clear hSw
            go_simp <;> with_reducible rfl
          try simp only [Act.put, List.setIfInBounds_toArray, List.set_cons_zero, List.set_cons_succ]
          refine wpAnyH_ready (rs := [7]) (by kernel_rfl) (by simp) ?_
          refine AllReadyH.cons (o := { dst := some 46, op := Op.buildSlice 22 1 #[(0, Operand.tmp 45)], type := 22, pos := "choice.go:63", after := #[{ on := 6, ground := Ground.data }], guard := none }) rfl (fun K hK => ?_) AllReadyH.nil
          go_simp
          have P6 := Lib.hid (P5.out.drew.below (below_new W5.drew (.cells #[.int .i64 t.b] 3)))
          have T6 := Lib.hid (T5.out.drew.below (below_new W5.drew (.cells #[.int .i64 t.b] 3)))
          have Q6 := Lib.hid (Q5.out.drew.below (below_new W5.drew (.cells #[.int .i64 t.b] 3)))
          have M6 := Lib.hid ((M5.out.below ((Below.refl _ _).drew)).below (below_new W5.drew (.cells #[.int .i64 t.b] 3)))
          have N6 := Lib.hid (Btw.trans (J := fun j => j = b) N5.out.drew (Btw.of_below (below_new W5.drew (.cells #[.int .i64 t.b] 3))) (fun _ _ h => h))
          have D6 := Lib.hid (r64_one (w := (W5.drew.alloc (.cells #[.int .i64 t.b] 3))) (g := wr.heap.size + 2) (x := t.b) (by rw [← h5]; exact (CRow.new W5.drew #[.int .i64 t.b] 3).cell_at 0 _ rfl) hx7.1 hx7.2)
          refine hK.out _ _ ⟨P6.out, T6.out, Q6.out⟩ (fun C1 => ?_)
          clear P5 T5 Q5 M5 N5
          clear hK K
          try simp only [Act.put, List.setIfInBounds_toArray, List.set_cons_zero, List.set_cons_succ]
          refine wpAnyH_ready (rs := [8]) (by kernel_rfl) (by simp) ?_
          refine AllReadyH.cons (o := { dst := some 47, op := Op.mapEntry 46 (Operand.tmp 41) (Operand.tmp 42), type := 0, pos := "choice.go:63", after := #[{ on := 3, ground := Ground.data }, { on := 4, ground := Ground.data }, { on := 0, ground := Ground.phase }, { on := 1, ground := Ground.phase }, { on := 2, ground := Ground.phase }, { on := 3, ground := Ground.phase }, { on := 4, ground := Ground.phase }, { on := 5, ground := Ground.phase }, { on := 6, ground := Ground.phase }, { on := 7, ground := Ground.phase }], guard := none }) rfl (fun K hK => ?_) AllReadyH.nil
          rw [if_pos (by rfl)]
          obtain ⟨v0, st, w7, hrun, hg7, hs7, ho7, hback⟩ := M6.out.entry pkeys Try.underlying46 zero_ints (t.r, t.g) hkin
          refine wp_mapEntry _ (.tmp 41) (.tmp 42) 46 rfl b (pkey (t.r, t.g)) rfl rfl hrun ?_
          have HO7 := Lib.hid ho7
          have HK7 := Lib.hid hback
          have K7 := Lib.hid (Btw.of_grown (I := fun j => j = b) hg7 (fun _ h => (Option.some.inj h).symm))
          have P7 := Lib.hid (P6.out.btw K7.out hpb)
          have T7 := Lib.hid (T6.out.btw K7.out htb)
          have Q7 := Lib.hid (Q6.out.btw K7.out hqb)
          have D7 := Lib.hid (r64_btw D6.out K7.out (fun h => by simp only at h; omega))
          have N7 := Lib.hid (Btw.trans N6.out K7.out (fun _ _ h => h))
          clear hrun hg7 ho7 hback P6 T6 Q6 M6 N6 D6 K7
          refine hK.out _ _ ⟨P7.out, T7.out, Q7.out⟩ (fun C2 => ?_)
          clear hK K
          try simp only [Act.put, List.setIfInBounds_toArray, List.set_cons_zero, List.set_cons_succ]
          refine wpAnyH_take (i := 9) (oi := { dst := some 43, op := Op.extract (Operand.tmp 47) 0, type := 22, pos := "choice.go:63", after := #[{ on := 8, ground := Ground.data }], guard := none }) (v := ?_) rfl (by kernel_rfl) (by kernel_rfl) (by kernel_rfl) (fun _ _ _ h => h) (Or.inl ⟨by rfl, ?_⟩) C2 ?_
          rotate_left
          · intro W' hSw
            clear hSw
            go_simp <;> with_reducible rfl
          try simp only [Act.put, List.setIfInBounds_toArray, List.set_cons_zero, List.set_cons_succ]
          refine wpAnyH_take (i := 11) (oi := { dst := some 49, op := Op.extract (Operand.tmp 47) 1, type := 3, pos := "choice.go:63", after := #[{ on := 8, ground := Ground.data }], guard := none }) (v := ?_) rfl (by kernel_rfl) (by kernel_rfl) (by kernel_rfl) (fun _ _ _ h => h) (Or.inl ⟨by rfl, ?_⟩) C2 ?_
          rotate_left
          · intro W' hSw
            clear hSw
            go_simp <;> with_reducible rfl
          try simp only [Act.put, List.setIfInBounds_toArray, List.set_cons_zero, List.set_cons_succ]
          refine wpAnyH_ready (rs := [10]) (by kernel_rfl) (by simp) ?_
          refine AllReadyH.cons (o := { dst := some 48, op := Op.call { callee := Callee.builtin Builtin.append, args := #[Operand.tmp 43, Operand.tmp 46], argTypes := #[22, 22] }, type := 22, pos := "choice.go:63", after := #[{ on := 9, ground := Ground.data }, { on := 7, ground := Ground.data }, { on := 8, ground := Ground.chain }], guard := none }) rfl (fun K hK => ?_) AllReadyH.nil
          rw [if_pos (by rfl)]
          have hl0 := grp_len (s.turns.take k) (t.r, t.g)
          have hl1 : (s.turns.take k).length ≤ k := by rw [List.length_take]; omega
          refine wp_appendJ w7 (.tmp 43) (.tmp 46) rfl w3.heap.size v0 (grp (s.turns.take k) (t.r, t.g)) rfl HO7.out ⟨wr.heap.size + 2, 0, none⟩ 1 1 [t.b] rfl D7.out (by have := HF.out.turns; omega) N7.out.size ?_
          intro v8 w8 hown hg hwh
          have HO8 := Lib.hid hown
          have HG8 := Lib.hid hg
          have HW8 := Lib.hid hwh
          have K8 := Lib.hid (Btw.of_grown (I := fun j => v0.ownBlock = some j) hg (fun _ h => h))
          have P8 := Lib.hid (P7.out.btw K8.out (fun h => own_ne HO7.out P7.out (by decide) _ h rfl))
          have T8 := Lib.hid (T7.out.btw K8.out (fun h => own_ne HO7.out T7.out (by decide) _ h rfl))
          have Q8 := Lib.hid (Q7.out.btw K8.out (fun h => own_ne HO7.out Q7.out (by decide) _ h rfl))
          have N8 := Lib.hid (Btw.trans N7.out K8.out (fun j hj h => absurd (HO7.out.lt j h).1 (by omega)))
          clear hown hg hwh P7 T7 Q7 D7 N7 K8
          refine hK.out _ _ ⟨P8.out, T8.out, Q8.out⟩ (fun C3 => ?_)
          clear hK K
          try simp only [Act.put, List.setIfInBounds_toArray, List.set_cons_zero, List.set_cons_succ]
          refine wpAnyH_ready (rs := [12]) (by kernel_rfl) (by simp) ?_
          refine AllReadyH.cons (o := { dst := none, op := Op.entryStore 46 (Operand.tmp 41) (Operand.tmp 49) (Operand.tmp 48), type := 0, pos := "choice.go:63", after := #[{ on := 3, ground := Ground.data }, { on := 11, ground := Ground.data }, { on := 10, ground := Ground.data }, { on := 10, ground := Ground.chain }, { on := 0, ground := Ground.phase }, { on := 1, ground := Ground.phase }, { on := 2, ground := Ground.phase }, { on := 3, ground := Ground.phase }, { on := 4, ground := Ground.phase }, { on := 5, ground := Ground.phase }, { on := 6, ground := Ground.phase }, { on := 7, ground := Ground.phase }, { on := 8, ground := Ground.phase }, { on := 9, ground := Ground.phase }, { on := 10, ground := Ground.phase }, { on := 11, ground := Ground.phase }], guard := none }) rfl (fun K hK => ?_) AllReadyH.nil
          rw [if_pos (by rfl)]
          obtain ⟨w9, hrun, hg9, hM9⟩ := HK7.out w8 v8 _ HG8.out HO8.out HW8.out
          refine wp_entryStore _ (.tmp 41) (.tmp 49) (.tmp 48) 46 rfl b (goInt st) v8 rfl rfl rfl hrun ?_
          have K9 := Lib.hid (Btw.of_grown (I := fun j => j = b) hg9 (fun _ h => (Option.some.inj h).symm))
          have M9 := Lib.hid hM9
          have N9 := Lib.hid (Btw.trans N8.out K9.out (fun _ _ h => h))
          have P9 := Lib.hid (P8.out.btw K9.out hpb)
          have T9 := Lib.hid (T8.out.btw K9.out htb)
          have Q9 := Lib.hid (Q8.out.btw K9.out hqb)
          clear hrun hg9 hM9 HK7 HG8 HO8 HW8 HO7 P8 T8 Q8 N8 K9
          refine hK.out _ _ ⟨P9.out, T9.out, Q9.out⟩ (fun C4 => ?_)
          clear hK K
          try simp only [Act.put]
          refine wpAnyH_done (by kernel_rfl) ?_ _
          refine NoPanic.normal ?_
          go_wp2
          go_roundw
          case rel =>
            refine ⟨k + 1, by omega, by go_num, N9.out, ?_⟩
            have e : (fun x => if x = (t.r, t.g) then I64 (grp (s.turns.take k) (t.r, t.g) ++ [t.b]) else I64 (grp (s.turns.take k) x)) = fun x => I64 (grp (s.turns.take (k + 1)) x) := by
              funext x
              rw [take_snoc HX.out, grp_snoc]
              show _ = I64 (if x = (t.r, t.g) then grp (s.turns.take k) (t.r, t.g) ++ [t.b] else _)
              by_cases h : x = (t.r, t.g)
              · rw [if_pos h, if_pos h]
              · rw [if_neg h, if_neg h]
            rw [← e]
            exact M9.out
          case measure => simp [intOf]; omega
        · obtain rfl : k = s.turns.length := by omega
          go_wp2
          go_ret2
          refine .inl ⟨HOK.out, p, rfl, BW3.out.trans (N4.out.below (fun j h => h ▸ hb) BW3.out.size), hp, by omega, Nat.le_refl _, wr, rfl, fun _ _ _ _ => rfl, A1, c1, A2, c2, b, A3, c3, w3.heap.size, s.turns.length, C3.out.btw N4.out (Ne.symm hbp), ?_, ?_, ?_, ?_, HA.out, hb, hbp, by omega⟩
          · exact own_btw1 O1.out N4.out fun g h e => own_map O1.out M3.out g h e
          · exact own_btw1 O2.out N4.out fun g h e => own_map O2.out M3.out g h e
          · exact own_btw1 O3.out N4.out fun g h e => own_map O3.out M3.out g h e
          · have := M4.out
            rwa [List.take_length] at this
end Go.Proofs.Ytodljocbimgeoaa
