/-
  The judge's Step, Power.
-/
import Derived.Laws.MakeOwn
import Derived.Laws.ResultCell
import Derived.Test.YtmgaenfimhdlpaaJudgeErasesJ9
import Derived.Test.YtmgaenfimhdlpaaJudgeErasesJCycMem
import Derived.Test.YtmgaenfimhdlpaaJudgeErasesJ6
import Derived.Test.YtmgaenfimhdlpaaJudgeErasesJ4
namespace Go.Proofs.Ytmgaenfimhdlpaa
open Go.RowKit
set_option maxRecDepth 100000

section
variable {I K : Nat → Prop} {w w' : World} {p : Nat} {g : Gm} {j : Jd} {m : Jm}
theorem JH.widen {I' : Nat → Prop} (h : JH I w p g j) (hI : ∀ k, I k → I' k) : JH I' w p g j := by
  obtain ⟨m, hc, hr⟩ := h
  exact ⟨m, hc, { hr with
    ip := hI _ hr.ip
    ir := hI _ hr.ir
    iL := fun k hk => hI _ (hr.iL k hk)
    iR := fun k hk => hI _ (hr.iR k hk)
    iB := fun k hk => hI _ (hr.iB k hk)
    iE := fun k hk => hI _ (hr.iE k hk)
    new := fun k hk => hI _ (hr.new k hk) }⟩
/-- A cycle. -/
def Jd.step (g : Gm) (j : Jd) (k : Int) (b : Nat) : Bool × Jd :=
  if j.rej = true then (false, j)
  else if (j.acc g k b).1 = false then (false, { (j.acc g k b).2 with rej := true })
  else (true, if k = 4 then (j.acc g k b).2 else { (j.acc g k b).2 with pol := decide (k = 1 ∧ b = 112) })
theorem jStep_nil (k : Int) (b : Nat) (w : World) : Calls Try.prog 15 #[.pointer none, .agg #[.int .i64 k, .int .u8 (b : Int)]] w (Gives (.bool false) w) := by
  have B0 := Lib.hid (below_new w (.cells #[.int .i64 k, .int .u8 (b : Int)] 36))
  go_enter Try.func15, Try.ntmps15
  go_wp2_with fail
  refine (jmade_nil _).mono ?_
  rintro _ w1 ⟨rfl, h1⟩
  have B1 := Lib.hid (below_step B0.out h1)
  clear h1
  go_wp2
  go_ret
  exact ⟨rfl, B1.out⟩
set_option maxHeartbeats 2000000 in
theorem jStep {q : Nat} (k : Int) (b : Nat) (hb : b < 256) (hq : q ≤ 100000) (hf : Jf g q j) (h : JH I w p g j) : Calls Try.prog 15 #[.pointer (some ⟨p, 0, none⟩), .agg #[.int .i64 k, .int .u8 (b : Int)]] w (ActsJ I p g (.bool (j.step g k b).1) (j.step g k b).2 w) := by
  have B0 := Lib.hid (below_new w (.cells #[.int .i64 k, .int .u8 (b : Int)] 36))
  have Z0 := Lib.hid (CRow.new w #[.int .i64 k, .int .u8 (b : Int)] 36)
  have HS0 := Lib.hid (h.shrink B0.out)
  have H0 := Lib.hid (h.below B0.out)
  have HAC := Lib.hid (fun W (hh : JH (fun q => I q ∧ (q < w.heap.size ∨ (w.alloc (.cells #[.int .i64 k, .int .u8 (b : Int)] 36)).heap.size ≤ q)) W p g j) => jaccepts k b hb hq hf hh)
  obtain ⟨m, hc, hr⟩ := HS0.out
  have C0 := Lib.hid hc
  clear h hc hr hf hq hb
  cases hrj : j.rej with
  | true =>
    have HE := Lib.hid (show j.step g k b = (false, j) by unfold Jd.step; rw [if_pos hrj])
    have HRJ := Lib.hid hrj
    clear hrj
    go_enter Try.func15, Try.ntmps15
    go_wp2_with fail
    refine (jmade_row C0.out).mono ?_
    rintro _ w1 ⟨rfl, h1⟩
    have C1 := Lib.hid (C0.out.below h1)
    have H1 := Lib.hid (H0.out.below h1)
    have B1 := Lib.hid (below_step B0.out h1)
    clear h1
    have x20 : w1.cell? ⟨p, 20, none⟩ = some (.bool true) := by
      have h0 := C1.out.cell_at 20 (.bool j.rej) rfl
      rw [HRJ.out] at h0
      exact h0
    go_wp2
    go_ret
    rw [HE.out]
    exact ⟨rfl, H1.out, Btw.of_below B1.out⟩
  | false =>
    have HRJ := Lib.hid hrj
    cases ha : (j.acc g k b).1 with
    | false =>
      have HE := Lib.hid (show j.step g k b = (false, { (j.acc g k b).2 with rej := true }) by unfold Jd.step; rw [if_neg (by rw [hrj]; decide), if_pos ha])
      have HA := Lib.hid ha
      clear hrj ha
      go_enter Try.func15, Try.ntmps15
      go_wp2_with fail
      refine (jmade_row C0.out).mono ?_
      rintro _ w1 ⟨rfl, h1⟩
      have C1 := Lib.hid (C0.out.below h1)
      have H1 := Lib.hid (HS0.out.below h1)
      have Z1 := Lib.hid (Z0.out.below h1)
      have B1 := Lib.hid (below_step B0.out h1)
      clear h1
      have x20 : w1.cell? ⟨p, 20, none⟩ = some (.bool false) := by
        have h0 := C1.out.cell_at 20 (.bool j.rej) rfl
        rw [HRJ.out] at h0
        exact h0
      have z0 := Z1.out.cell_at 0 _ rfl
      have z1 := Z1.out.cell_at 1 _ rfl
      go_wp2_with fail
      clear z0 z1 x20
      refine (HAC.out _ H1.out).mono ?_
      rintro e w2 ⟨he, h2, b2⟩

      obtain ⟨j2, hj⟩ : ∃ j2, j2 = (j.acc g k b).2 := ⟨_, rfl⟩
      rw [HA.out] at he
      rw [← hj] at h2
      have HJ2 := Lib.hid hj
      subst he
      have NZ : ¬ (fun q => I q ∧ (q < w.heap.size ∨ (w.alloc (.cells #[.int .i64 k, .int .u8 (b : Int)] 36)).heap.size ≤ q)) w.heap.size := fun h => by
        have e : (w.alloc (.cells #[.int .i64 k, .int .u8 (b : Int)] 36)).heap.size = w.heap.size + 1 := by simp
        rcases h.2 with h | h
        · exact absurd h (Nat.lt_irrefl _)
        · have h : (w.alloc (.cells #[.int .i64 k, .int .u8 (b : Int)] 36)).heap.size ≤ w.heap.size := h
          omega
      have Z2 := Lib.hid (Z1.out.btw b2 NZ)
      have H2 := Lib.hid h2
      have B2 := Lib.hid ((Btw.of_below (I := I) B1.out).trans b2 fun q _ h => h.1)
      obtain ⟨m2, hc2, hr2⟩ := H2.out
      have C2 := Lib.hid hc2
      have R2 := Lib.hid hr2
      clear hj h2 b2 NZ hc2 hr2
      have x20 := C2.out.cell_at 20 (.bool (j2).rej) rfl
      have f20 := C2.out.frozen 20
      have S1 := Lib.hid (C2.out.setCell 20 (.bool true))
      have K1 := Lib.hid (((Btw.refl w2)).setCell (I := fun k => k = p) (p := ⟨p, 20, none⟩) (v := .bool true) rfl)
      go_wp2
      go_ret
      have HJ := JH.of (j' := { j2 with rej := true }) (m' := m2) C2.out R2.out S1.out K1.out fun W h => { h with }
      rw [HE.out, ← HJ2.out]
      exact ⟨rfl, HJ.1.widen (fun q h => h.1), B2.out.trans HJ.2 fun q _ h => h.1⟩
    | true =>
      by_cases hk : k = 4
      · have HE := Lib.hid (show j.step g k b = (true, (j.acc g k b).2) by unfold Jd.step; rw [if_neg (by rw [hrj]; decide), if_neg (by rw [ha]; decide), if_pos hk])
        have HA := Lib.hid ha
        have HK := Lib.hid hk
        clear hrj ha hk
        go_enter Try.func15, Try.ntmps15
        go_wp2_with fail
        refine (jmade_row C0.out).mono ?_
        rintro _ w1 ⟨rfl, h1⟩
        have C1 := Lib.hid (C0.out.below h1)
        have H1 := Lib.hid (HS0.out.below h1)
        have Z1 := Lib.hid (Z0.out.below h1)
        have B1 := Lib.hid (below_step B0.out h1)
        clear h1
        have x20 : w1.cell? ⟨p, 20, none⟩ = some (.bool false) := by
          have h0 := C1.out.cell_at 20 (.bool j.rej) rfl
          rw [HRJ.out] at h0
          exact h0
        have z0 := Z1.out.cell_at 0 _ rfl
        have z1 := Z1.out.cell_at 1 _ rfl
        go_wp2_with fail
        clear z0 z1 x20
        refine (HAC.out _ H1.out).mono ?_
        rintro e w2 ⟨he, h2, b2⟩

        obtain ⟨j2, hj⟩ : ∃ j2, j2 = (j.acc g k b).2 := ⟨_, rfl⟩
        rw [HA.out] at he
        rw [← hj] at h2
        have HJ2 := Lib.hid hj
        subst he
        have NZ : ¬ (fun q => I q ∧ (q < w.heap.size ∨ (w.alloc (.cells #[.int .i64 k, .int .u8 (b : Int)] 36)).heap.size ≤ q)) w.heap.size := fun h => by
          have e : (w.alloc (.cells #[.int .i64 k, .int .u8 (b : Int)] 36)).heap.size = w.heap.size + 1 := by simp
          rcases h.2 with h | h
          · exact absurd h (Nat.lt_irrefl _)
          · have h : (w.alloc (.cells #[.int .i64 k, .int .u8 (b : Int)] 36)).heap.size ≤ w.heap.size := h
            omega
        have Z2 := Lib.hid (Z1.out.btw b2 NZ)
        have H2 := Lib.hid h2
        have B2 := Lib.hid ((Btw.of_below (I := I) B1.out).trans b2 fun q _ h => h.1)
        obtain ⟨m2, hc2, hr2⟩ := H2.out
        have C2 := Lib.hid hc2
        have R2 := Lib.hid hr2
        clear hj h2 b2 NZ hc2 hr2
        have z0 : w2.cell? ⟨w.heap.size, 0, none⟩ = some (.int .i64 4) := by
          have h0 := Z2.out.cell_at 0 (.int .i64 k) rfl
          rw [h0, HK.out]
        go_wp2
        go_ret
        rw [HE.out, ← HJ2.out]
        exact ⟨rfl, H2.out.widen (fun q h => h.1), B2.out⟩
      · have HE := Lib.hid (show j.step g k b = (true, { (j.acc g k b).2 with pol := decide (k = 1 ∧ b = 112) }) by unfold Jd.step; rw [if_neg (by rw [hrj]; decide), if_neg (by rw [ha]; decide), if_neg hk])
        have HA := Lib.hid ha
        have e4 : (k == 4) = false := by rw [beq_eq_false_iff_ne]; exact hk
        have f4 : decide (k = 4) = false := decide_eq_false hk
        have HIS := Lib.hid (fun W => isC k b 112 (decide (k = 1 ∧ b = 112)) rfl 112 rfl W)
        generalize decide (k = 1 ∧ b = 112) = v2 at *
        clear hrj ha hk
        go_enter Try.func15, Try.ntmps15
        go_wp2_with fail
        refine (jmade_row C0.out).mono ?_
        rintro _ w1 ⟨rfl, h1⟩
        have C1 := Lib.hid (C0.out.below h1)
        have H1 := Lib.hid (HS0.out.below h1)
        have Z1 := Lib.hid (Z0.out.below h1)
        have B1 := Lib.hid (below_step B0.out h1)
        clear h1
        have x20 : w1.cell? ⟨p, 20, none⟩ = some (.bool false) := by
          have h0 := C1.out.cell_at 20 (.bool j.rej) rfl
          rw [HRJ.out] at h0
          exact h0
        have z0 := Z1.out.cell_at 0 _ rfl
        have z1 := Z1.out.cell_at 1 _ rfl
        go_wp2_with fail
        clear z0 z1 x20
        refine (HAC.out _ H1.out).mono ?_
        rintro e w2 ⟨he, h2, b2⟩

        obtain ⟨j2, hj⟩ : ∃ j2, j2 = (j.acc g k b).2 := ⟨_, rfl⟩
        rw [HA.out] at he
        rw [← hj] at h2
        have HJ2 := Lib.hid hj
        subst he
        have NZ : ¬ (fun q => I q ∧ (q < w.heap.size ∨ (w.alloc (.cells #[.int .i64 k, .int .u8 (b : Int)] 36)).heap.size ≤ q)) w.heap.size := fun h => by
          have e : (w.alloc (.cells #[.int .i64 k, .int .u8 (b : Int)] 36)).heap.size = w.heap.size + 1 := by simp
          rcases h.2 with h | h
          · exact absurd h (Nat.lt_irrefl _)
          · have h : (w.alloc (.cells #[.int .i64 k, .int .u8 (b : Int)] 36)).heap.size ≤ w.heap.size := h
            omega
        have Z2 := Lib.hid (Z1.out.btw b2 NZ)
        have H2 := Lib.hid h2
        have B2 := Lib.hid ((Btw.of_below (I := I) B1.out).trans b2 fun q _ h => h.1)
        obtain ⟨m2, hc2, hr2⟩ := H2.out
        have C2 := Lib.hid hc2
        have R2 := Lib.hid hr2
        clear hj h2 b2 NZ hc2 hr2
        have z0 := Z2.out.cell_at 0 _ rfl
        have z1 := Z2.out.cell_at 1 _ rfl
        go_wp2_with fail
        refine (HIS.out _).mono ?_
        rintro _ w3 ⟨rfl, h3⟩
        have C3 := Lib.hid (C2.out.below h3)
        have R3 := Lib.hid (R2.out.below h3)
        have B3 := Lib.hid (B2.out.trans (Btw.of_below (I := I) h3) fun _ _ h => h)
        clear h3 z0 z1
        have x4 := C3.out.cell_at 4 (.bool (j2).pol) rfl
        have f4 := C3.out.frozen 4
        have S1 := Lib.hid (C3.out.setCell 4 (.bool v2))
        have K1 := Lib.hid (((Btw.refl w3)).setCell (I := fun k => k = p) (p := ⟨p, 4, none⟩) (v := .bool v2) rfl)
        go_wp2
        go_ret
        have HJ := JH.of (j' := { j2 with pol := v2 }) (m' := m2) C3.out R3.out S1.out K1.out fun W h => { h with }
        rw [HE.out, ← HJ2.out]
        exact ⟨rfl, HJ.1.widen (fun q h => h.1), B3.out.trans HJ.2 fun q _ h => h.1⟩
/-- The power goes. -/
def Jd.power (j : Jd) : Jd := { j.stop with rej := false }
theorem jPower_nil (w : World) : Calls Try.prog 13 #[.pointer none] w (Gives (.tuple #[]) w) := by
  go_enter Try.func13, Try.ntmps13
  go_wp2_with fail
  refine (jmade_nil _).mono ?_
  rintro _ w1 ⟨rfl, h1⟩
  have B1 := Lib.hid h1
  clear h1
  go_wp2
  go_end0
  exact ⟨rfl, B1.out⟩
theorem jPower {q : Nat} (hq : q ≤ 100000) (hf : Jf g q j) (h : JH I w p g j) : Calls Try.prog 13 #[.pointer (some ⟨p, 0, none⟩)] w (ActsJ I p g (.tuple #[]) j.power w) := by
  have hen := hf.en
  have HST := Lib.hid (fun W (hh : JH I W p g j) => jstop hf.eb (by omega) hh)
  have H0 := Lib.hid h
  obtain ⟨m, hc, hr⟩ := h
  have C0 := Lib.hid hc
  clear hc hr hf hq hen
  go_enter Try.func13, Try.ntmps13
  go_wp2_with fail
  refine (jmade_row C0.out).mono ?_
  rintro _ w1 ⟨rfl, h1⟩
  have H1 := Lib.hid (H0.out.below h1)
  have B1 := Lib.hid h1
  clear h1
  go_wp2_with fail
  refine (HST.out _ H1.out).mono ?_
  rintro _ w2 ⟨rfl, h2, b2⟩
  have B2 := Lib.hid ((Btw.of_below (I := I) B1.out).trans b2 fun _ _ h => h)
  obtain ⟨m2, hc2, hr2⟩ := h2
  have C2 := Lib.hid hc2
  have R2 := Lib.hid hr2
  clear b2 hc2 hr2
  have x20 := C2.out.cell_at 20 (.bool (j.stop).rej) rfl
  have f20 := C2.out.frozen 20
  have S1 := Lib.hid (C2.out.setCell 20 (.bool false))
  have K1 := Lib.hid (((Btw.refl w2)).setCell (I := fun k => k = p) (p := ⟨p, 20, none⟩) (v := .bool false) rfl)
  go_wp2
  go_end0
  have HJ := JH.of (j' := j.power) (m' := m2) C2.out R2.out S1.out K1.out fun W h => { h with }
  exact ⟨rfl, HJ.1, B2.out.trans HJ.2 fun _ _ h => h⟩
end
end Go.Proofs.Ytmgaenfimhdlpaa

/-
  What a step keeps.
-/
namespace Go.Proofs.Ytmgaenfimhdlpaa
open Go.RowKit
set_option maxRecDepth 100000

section
variable {I K : Nat → Prop} {w w' : World} {p : Nat} {g : Gm} {j : Jd} {m : Jm}
theorem Jf.more {q q' : Nat} (h : Jf g q j) (hq : q ≤ q') : Jf g q' j :=
  { h with ct := Nat.le_trans h.ct hq, cl := Nat.le_trans h.cl (by omega), pr := fun r => Nat.le_trans (h.pr r) hq, rn := Nat.le_trans h.rn hq, bn := Nat.le_trans h.bn hq, en := Nat.le_trans h.en hq }
theorem Jf.enter {q : Nat} (h : Jf g q j) (n : Nat) (hn : n ≤ 9) : Jf g q (j.enter n) := { h with op := hn, ls := Nat.zero_le _, ct := Nat.zero_le _ }
theorem Jf.start {q : Nat} (h : Jf g q j) : Jf g q j.start := { h with op := (by show 1 ≤ 9; omega), ls := Nat.zero_le _, ct := Nat.zero_le _ }
theorem Jf.spoil {q : Nat} (h : Jf g q j) : Jf g q j.spoil := { h with }
theorem Jf.stop {q : Nat} (h : Jf g q j) : Jf g q j.stop :=
  ⟨Nat.zero_le _, Nat.zero_le _, Nat.zero_le _, Nat.zero_le _, h.pr, Nat.zero_le _, Nat.zero_le _, Nat.zero_le _, fun x hx => absurd (show x ∈ ([] : List Nat) from hx) (by simp), fun x hx => absurd (show x ∈ ([] : List Nat) from hx) (by simp)⟩
theorem Jf.poll {q : Nat} (h : Jf g q j) (b : Nat) : Jf g q (j.poll b) := by
  unfold Jd.poll
  split
  · exact h
  · by_cases h1 : b % 2 = 1
    · rw [if_pos h1]
      exact { h with en := Nat.zero_le _, eb := fun x hx => absurd (show x ∈ ([] : List Nat) from hx) (by simp) }
    · rw [if_neg h1]
      exact { h with en := Nat.zero_le _, eb := fun x hx => absurd (show x ∈ ([] : List Nat) from hx) (by simp) }
theorem Jf.begin {q : Nat} (h : Jf g q j) (b : Nat) : Jf g q (j.begin b).2 := by
  unfold Jd.begin
  split
  · exact h
  · show Jf g q (Jd.enter (if _ then _ else _) _)
    split
    · exact Jf.enter (j := { j with data := false }) { h with } _ (jopen_le b)
    · exact h.enter _ (jopen_le b)
theorem jaddr2_le (h8 : ∀ x ∈ j.listed, x < 256) (k : Nat) : j.addr2 k ≤ 65535 := by
  have K : ∀ i, j.listed.getD i 0 ≤ 255 := fun i => by
    rw [List.getD_eq_getElem?_getD]
    cases e : j.listed[i]? with
    | none => simp
    | some x =>
      have := h8 x (List.mem_of_getElem? e)
      simp only [Option.getD_some]
      omega
  unfold Jd.addr2
  have := K k
  have := K (k + 1)
  omega
theorem Jf.endFetch {q : Nat} (h : Jf g q j) (b : Nat) : Jf g q (j.endFetch b).2 := by
  unfold Jd.endFetch
  split
  · exact Jf.start (j := { j with data := true }) { h with }
  · exact h
theorem Jf.endMove {q : Nat} (h : Jf g q j) (h8 : ∀ x ∈ j.listed, x < 256) (b : Nat) : Jf g q (j.endMove b).2 := by
  unfold Jd.endMove
  split
  · have := jaddr2_le h8 0
    exact Jf.enter (j := { j with col := j.addr2 0 }) { h with cl := (by show j.addr2 0 ≤ 65536 + q; omega) } 6 (by omega)
  · exact h
theorem Jf.prog {q : Nat} (h : Jf g (q + 1) j) (hp : ∀ r, j.pr r ≤ q) (b r : Nat) : Jf g (q + 1) (j.prog g b r) :=
  have h1 : ∀ x, (j.prog g b r).pr x ≤ q + 1 := fun x => by
    show (if x = b * g.s.toNat + r then j.pr x + 1 else j.pr x) ≤ q + 1
    have := hp x
    split <;> omega
  { h with pr := h1 }
theorem Jf.endLoad {q : Nat} (h : Jf g q j) (b : Nat) : Jf g (q + 1) (j.endLoad g b).2 := by
  have h1 := h.more (Nat.le_succ q)
  have hrn : (j.rows ++ [j.addr2 2]).length ≤ q + 1 := by rw [List.length_append]; have := h.rn; show _ + 1 ≤ q + 1; omega
  unfold Jd.endLoad
  split
  · exact h1
  · split
    · exact h1
    · split
      · exact (Jf.prog (j := { j with rows := [] }) { h1 with rn := Nat.zero_le _ } h.pr _ _).start
      · split
        · split
          · exact h1
          · exact (Jf.prog (j := { j with bg := true, bgb := spB g (j.addr2 2) }) { h1 with } h.pr _ _).start
        · split
          · split
            · exact h1
            · exact (Jf.prog (j := { j with rows := j.rows ++ [j.addr2 2] }) { h1 with rn := hrn } h.pr _ _).start
          · exact h1
theorem Jf.endErase {q : Nat} (hg : g.ok = true) (h : Jf g q j) (b : Nat) : Jf g (q + 1) (j.endErase g b).2 := by
  have h1 := h.more (Nat.le_succ q)
  have hbb : ∀ x ∈ j.blocks ++ [spB g (j.addr2 (j.listed.length - 2))], x < g.b.toNat := fun x hx => by
    rcases List.mem_append.1 hx with h2 | h2
    · exact h.bb x h2
    · rw [List.mem_singleton.1 h2]; exact spB_lt hg _
  have hbn : (j.blocks ++ [spB g (j.addr2 (j.listed.length - 2))]).length ≤ q + 1 := by rw [List.length_append]; have := h.bn; show _ + 1 ≤ q + 1; omega
  unfold Jd.endErase
  split
  · exact h1
  · split
    · exact h1
    · split
      · refine Jf.start ⟨h1.op, h1.ls, h1.ct, h1.cl, fun r => ?_, h1.rn, Nat.zero_le _, hbn, fun x hx => absurd (show x ∈ ([] : List Nat) from hx) (by simp), hbb⟩
        show (if _ then 0 else j.pr r) ≤ q + 1
        have := h1.pr r
        split <;> omega
      · exact Jf.start (j := { j with blocks := j.blocks ++ [spB g (j.addr2 (j.listed.length - 2))] }) { h1 with bn := hbn, bb := hbb }
theorem Jf.command {q : Nat} (hg : g.ok = true) (h : Jf g q j) (h8 : ∀ x ∈ j.listed, x < 256) (b : Nat) : Jf g (q + 1) (j.command g b).2 := by
  have h1 := h.more (Nat.le_succ q)
  unfold Jd.command
  split
  · exact h.endLoad b
  · split
    · exact h.endErase hg b
    · split
      · exact h1.endMove h8 b
      · split
        · split
          · exact h1.begin b
          · exact h1
        · split
          · split
            · exact h1.endFetch b
            · split
              · exact h1
              · exact h1.begin b
          · split
            · exact h1.begin b
            · exact h1
theorem Jf.addr4 {q : Nat} (h : Jf g q j) (h8 : ∀ x ∈ j.listed, x < 256) : Jf g q (j.addr4 g).2 := by
  unfold Jd.addr4
  split
  · have := jaddr2_le h8 0
    exact { h with cl := (by show j.addr2 0 ≤ 65536 + q; omega) }
  · exact h
theorem Jf.addr {q : Nat} (h : Jf g q j) (h8 : ∀ x ∈ j.listed, x < 256) (b : Nat) (hb : b < 256) : Jf g q (j.addr g b).2 := by
  have hp : ∀ x ∈ (j.push b).listed, x < 256 := fun x hx => by
    rcases List.mem_append.1 hx with h1 | h1
    · exact h8 x h1
    · rw [List.mem_singleton.1 h1]; exact hb
  unfold Jd.addr
  split
  · exact h
  · rename_i hli
    have hl := lists_what (b := b) (by simpa using hli)
    have hpl : (j.push b).listed.length ≤ 4 := by show (j.listed ++ [b]).length ≤ 4; rw [List.length_append]; show _ + 1 ≤ 4; omega
    have h1 : Jf g q (j.push b) := { h with ls := hpl }
    split
    · exact Jf.start (j := { j.push b with data := true, col := 0 }) { h1 with cl := Nat.zero_le _ }
    · split
      · exact Jf.addr4 (j := { j.push b with data := false }) { h1 with } hp
      · split
        · exact h1.addr4 hp
        · split
          · exact h1
          · split
            · exact h1
            · exact h1
theorem Jf.write {q : Nat} (h : Jf g q j) : Jf g (q + 1) (j.write g).2 := by
  have h1 := h.more (Nat.le_succ q)
  have hc : j.count + 1 ≤ q + 1 := by have := h.ct; omega
  unfold Jd.write
  split
  · show Jf g (q + 1) (if _ then _ else _)
    split
    · exact Jf.start (j := { j with count := j.count + 1 }) { h1 with ct := hc }
    · exact { h1 with ct := hc }
  · split
    · exact { h1 with ct := hc }
    · exact h1
theorem Jf.read {q : Nat} (h : Jf g q j) : Jf g (q + 1) (j.read g).2 := by
  have h1 := h.more (Nat.le_succ q)
  have hc : j.count + 1 ≤ q + 1 := by have := h.ct; omega
  have hl : j.col + 1 ≤ 65536 + (q + 1) := by have := h.cl; omega
  unfold Jd.read
  split
  · exact { h1 with ct := hc }
  · split
    · split
      · exact h1
      · exact { h1 with op := (by show 6 ≤ 9; omega), cl := hl }
    · split
      · exact { h1 with cl := hl }
      · exact h1
theorem Jf.acc {q : Nat} (hg : g.ok = true) (h : Jf g q j) (h8 : ∀ x ∈ j.listed, x < 256) (k : Int) (b : Nat) (hb : b < 256) : Jf g (q + 1) (j.acc g k b).2 := by
  have h1 := h.more (Nat.le_succ q)
  unfold Jd.acc
  split
  · exact h1.stop.start
  · split
    · exact h1
    · split
      · exact h1.enter 1 (by omega)
      · split
        · exact h1.poll b
        · split
          · exact h1
          · unfold Jd.cont
            split
            · exact h.command hg h8 b
            · split
              · exact h1.addr h8 b hb
              · split
                · exact h.write
                · split
                  · exact h.read
                  · exact h1
theorem Jf.step {q : Nat} (hg : g.ok = true) (h : Jf g q j) (h8 : ∀ x ∈ j.listed, x < 256) (k : Int) (b : Nat) (hb : b < 256) : Jf g (q + 1) (j.step g k b).2 := by
  have h1 := h.acc hg h8 k b hb
  unfold Jd.step
  split
  · exact h.more (Nat.le_succ q)
  · split
    · exact { h1 with }
    · show Jf g (q + 1) (if _ then _ else _)
      split
      · exact h1
      · exact { h1 with }
theorem JH.l8 (h : JH I w p g j) : ∀ x ∈ j.listed, x < 256 := by
  obtain ⟨_, _, hr⟩ := h
  exact hr.l8
/-- A new judge; of k blocks the last page is set. -/
def Jd.newK (k : Nat) : Jd := { op := 0, listed := [], count := 0, busy := false, pol := false, bg := false, bgb := 0, data := false, col := 0, rows := [], blocks := [], erases := [], er := fun _ => false, la := fun b => if b < k then -1 else 0, pr := fun _ => 0, rej := false }
def Jd.new : Jd := { Jd.newK 0 with la := fun _ => -1 }
theorem Jf.new (g : Gm) : Jf g 0 Jd.new :=
  ⟨Nat.zero_le _, Nat.zero_le _, Nat.zero_le _, Nat.zero_le _, fun _ => Nat.zero_le _, Nat.zero_le _, Nat.zero_le _, Nat.zero_le _, fun x hx => absurd (show x ∈ ([] : List Nat) from hx) (by simp), fun x hx => absurd (show x ∈ ([] : List Nat) from hx) (by simp)⟩
end
end Go.Proofs.Ytmgaenfimhdlpaa

/-
  The judge's New.
-/
namespace Go.Proofs.Ytmgaenfimhdlpaa
open Go.RowKit
set_option maxRecDepth 100000

section
variable {I K : Nat → Prop} {w w' : World} {p : Nat} {g : Gm} {j : Jd} {m : Jm}
theorem jmade_get (z : Array Value) (n j : Nat) (h : j < n) : (madeCells z n)[j]? = some z[j % z.size]! := by
  unfold madeCells
  rw [Array.getElem?_map, Array.getElem?_range, if_pos h]
  rfl
def Z66 : Array Value := (Value.bool false :: Value.int .i64 0 :: List.replicate 64 (Value.int .i64 0)).toArray
theorem Z66_at (o : Nat) (ho : o < 66) : Z66[o]! = if o = 0 then .bool false else .int .i64 0 := by
  have h : ∀ x : Fin 66, (Z66[x.val]? = some (if x.val = 0 then .bool false else .int .i64 0)) := by
    intro x
    unfold Z66
    rw [List.getElem?_toArray]
    obtain ⟨x, hx⟩ := x
    match x with
    | 0 => rfl
    | 1 => rfl
    | x + 2 =>
      simp only [List.getElem?_cons_succ, List.getElem?_replicate]
      rw [if_pos (by omega), if_neg (by omega)]
  have h1 := h ⟨o, ho⟩
  rw [getElem!_def, h1]
theorem info_rec : ∃ i, Try.prog.info? 60 = some i ∧ i.zero = some (.agg Z66) ∧ i.size = 66 ∧ i.bytes ≤ 1000 := by
  have h : ((Try.prog.info? 60).map fun i => (i.zero, i.size, decide (i.bytes ≤ 1000))) = some (some (.agg Z66), 66, true) := by kernel_rfl
  rcases e : Try.prog.info? 60 with _ | i
  · rw [e] at h; cases h
  · rw [e] at h
    injection h with h
    injection h with h1 h
    injection h with h2 h3
    exact ⟨i, rfl, h1, h2, of_decide_eq_true h3⟩
/-- A new judge at p. -/
def NewIs (g : Gm) (w : World) (e : Ending) (w' : World) : Prop := ∃ p, e = .returned (.tuple #[.pointer (some ⟨p, 0, none⟩), .int .i64 0]) ∧ Below w.heap.size w w' ∧ JH (fun k => w.heap.size ≤ k) w' p g Jd.new
theorem jNew_no (g : Gm) (h : g.ok = false) (w : World) : Calls Try.prog 8 #[g.val] w (Gives (.tuple #[.pointer none, .int .i64 2]) w) := by
  have B0 := Lib.hid (below_new w (.cells #[.int .i64 g.p, .int .i64 g.b, .int .i64 g.s, .int .i64 g.c, .int .i64 g.k, .int .i64 g.r, .int .i64 g.q] 23))
  have Y0 := Lib.hid (GBox.new w g 23)
  have HC := Lib.hid (fun W => Check_no g h W)
  simp only [Gm.val] at HC ⊢
  clear h
  go_enter Try.func8, Try.ntmps8
  obtain ⟨_, g0, g1, g2, g3, g4, g5, g6⟩ := Y0.out
  go_wp2_with fail
  clear g0 g1 g2 g3 g4 g5 g6
  refine (HC.out _).mono ?_
  rintro _ w1 ⟨rfl, h1⟩
  have B1 := Lib.hid (below_step B0.out h1)
  clear h1
  go_wp2
  go_ret2
  exact ⟨rfl, B1.out⟩
set_option maxHeartbeats 2000000 in
theorem jNew (g : Gm) (h : g.ok = true) (w : World) : Calls Try.prog 8 #[g.val] w (NewIs g w) := by
  have B0 := Lib.hid (below_new w (.cells #[.int .i64 g.p, .int .i64 g.b, .int .i64 g.s, .int .i64 g.c, .int .i64 g.k, .int .i64 g.r, .int .i64 g.q] 23))
  have Y0 := Lib.hid (GBox.new w g 23)
  have HC := Lib.hid (fun W => Check_yes g h W)
  have hbd := Gm.bounds_of h
  obtain ⟨B, hB⟩ : ∃ B, B = g.b.toNat := ⟨_, rfl⟩
  have HB := Lib.hid (show g.b = (B : Int) by omega)
  have HBN := Lib.hid hB
  have hb5 : 2 ≤ B ∧ B ≤ 256 := by omega
  obtain ⟨iR, hiR, hzR, hsR, hbR⟩ := info_rec
  have hmkR := Lib.hid (fun w' : World => by
    have h := run_make (P := Try.prog) w' 52 60 iR _ Try.underlying52 hiR hzR .i64 .i64 (B : Int) (B : Int) (by omega) (Int.le_refl _) (by
      have h1 : (iR.bytes : Int) * (B : Int) ≤ 1000 * 256 := (mul_le (by omega) (by omega) (by omega) (by omega)).2
      omega) (by omega)
    rw [hsR, Int.toNat_natCast, show (Value.agg Z66).cells = Z66 from rfl] at h
    exact h)
  have HOK := Lib.hid h
  simp only [Gm.val] at HC ⊢
  clear h hbd hB hiR hzR hsR hbR
  go_enter Try.func8, Try.ntmps8
  obtain ⟨_, g0, g1, g2, g3, g4, g5, g6⟩ := Y0.out
  go_wp2_with fail
  clear g0 g1 g2 g3 g4 g5 g6
  refine (HC.out _).mono ?_
  rintro _ w1 ⟨rfl, h1⟩
  have B1 := Lib.hid (below_step B0.out h1)
  have Y1 := Lib.hid (Y0.out.below h1)
  have L1 := Lib.hid B1.out.size
  clear h1 HC B0 Y0
  go_wp2
  refine wp_region_noPanic ?_
  refine wp_region_held_drew (S := fun w' => Below w1.heap.size w1 w') (by kernel_rfl) ((Below.refl _ _).drew) (fun C9 => ?_)
  refine wpAnyH_take (i := 0) (oi := { dst := some 9, op := Op.load 23 (Operand.tmp 1), type := 23, pos := "judge.go:58", after := #[], guard := none }) (v := ?_) rfl (by kernel_rfl) (by kernel_rfl) (by kernel_rfl) (fun _ _ _ h => h) (Or.inl ⟨by rfl, ?_⟩) C9 ?_
  rotate_left
  · intro W' hSw
    obtain ⟨_, y0, y1, y2, y3, y4, y5, y6⟩ := Y1.out.below hSw
    clear hSw
    go_simp <;> with_reducible rfl
  try simp only [Act.put, List.setIfInBounds_toArray, List.set_cons_zero, List.set_cons_succ]
  refine wpAnyH_take (i := 1) (oi := { dst := some 10, op := Op.fieldAddr 23 (Operand.tmp 1) 1, type := 0, pos := "judge.go:58", after := #[], guard := none }) (v := ?_) rfl (by kernel_rfl) (by kernel_rfl) (by kernel_rfl) (fun _ _ _ h => h) (Or.inl ⟨by rfl, ?_⟩) C9 ?_
  rotate_left
  · intro W' hSw
    clear hSw
    go_simp <;> with_reducible rfl
  try simp only [Act.put, List.setIfInBounds_toArray, List.set_cons_zero, List.set_cons_succ]
  refine wpAnyH_take (i := 2) (oi := { dst := some 11, op := Op.load 3 (Operand.tmp 10), type := 3, pos := "judge.go:58", after := #[{ on := 1, ground := Ground.data }], guard := none }) (v := ?_) rfl (by kernel_rfl) (by kernel_rfl) (by kernel_rfl) (fun _ _ _ h => h) (Or.inl ⟨by rfl, ?_⟩) C9 ?_
  rotate_left
  · intro W' hSw
    obtain ⟨_, y0, y1, y2, y3, y4, y5, y6⟩ := Y1.out.below hSw
    rw [HB.out] at y1
    clear hSw
    go_simp <;> with_reducible rfl
  try simp only [Act.put, List.setIfInBounds_toArray, List.set_cons_zero, List.set_cons_succ]
  refine wpAnyH_ready (rs := [3]) (by kernel_rfl) (by simp) ?_
  refine AllReadyH.cons (o := { dst := some 12, op := Op.makeSlice 52 (Operand.tmp 11) (Operand.tmp 11), type := 52, pos := "judge.go:58", after := #[{ on := 2, ground := Ground.data }, { on := 2, ground := Ground.data }], guard := none }) rfl (fun K hK => ?_) AllReadyH.nil
  have hmk := hmkR.out w1.drew
  go_simp
  refine hK.out _ _ (show Below w1.heap.size w1 _ from ((Below.refl _ _).drew).alloc (Nat.le_refl _) _) (fun C10 => ?_)
  clear hK K
  try simp only [Act.put, List.setIfInBounds_toArray, List.set_cons_zero, List.set_cons_succ]
  refine wpAnyH_take (i := 4) (oi := { dst := some 13, op := Op.build 57 #[(1, Operand.tmp 9), (2, Operand.tmp 12)], type := 57, pos := "judge.go:58", after := #[{ on := 0, ground := Ground.data }, { on := 3, ground := Ground.data }], guard := none }) (v := ?_) rfl (by kernel_rfl) (by kernel_rfl) (by kernel_rfl) (fun _ _ _ h => h) (Or.inl ⟨by rfl, ?_⟩) C10 ?_
  rotate_left
  · intro W' hSw
    clear hSw
    go_simp <;> with_reducible rfl
  try simp only [Act.put, List.setIfInBounds_toArray, List.set_cons_zero, List.set_cons_succ]
  refine wpAnyH_ready (rs := [5]) (by kernel_rfl) (by simp) ?_
  refine AllReadyH.cons (o := { dst := some 14, op := Op.box 57 (Operand.tmp 13), type := 27, pos := "judge.go:58", after := #[{ on := 4, ground := Ground.data }], guard := none }) rfl (fun K hK => ?_) AllReadyH.nil
  go_simp
  refine hK.out _ _ (show Below w1.heap.size w1 _ from (((Below.refl _ _).drew).alloc (Nat.le_refl _) _).alloc (by simp) _) (fun C11 => ?_)
  clear hK K
  try simp only [Act.put, List.setIfInBounds_toArray, List.set_cons_zero, List.set_cons_succ]
  refine wpAnyH_take (i := 6) (oi := { dst := some 4, op := Op.assign (Operand.tmp 14), type := 27, pos := "judge.go:58", after := #[{ on := 5, ground := Ground.data }, { on := 0, ground := Ground.phase }, { on := 1, ground := Ground.phase }, { on := 2, ground := Ground.phase }, { on := 3, ground := Ground.phase }, { on := 4, ground := Ground.phase }, { on := 5, ground := Ground.phase }], guard := none }) (v := ?_) rfl (by kernel_rfl) (by kernel_rfl) (by kernel_rfl) (fun _ _ _ h => h) (Or.inl ⟨by rfl, ?_⟩) C11 ?_
  rotate_left
  · intro W' hSw
    clear hSw
    go_simp <;> with_reducible rfl
  try simp only [Act.put, List.setIfInBounds_toArray, List.set_cons_zero, List.set_cons_succ]
  refine wpAnyH_done (by kernel_rfl) ?_ _
  refine NoPanic.normal ?_
  obtain ⟨w3, hw3⟩ : ∃ w3, w3 = ((w1.alloc (.cells (madeCells Z66 (B * 66)) 60)).alloc (.cells #[.int .i64 0, .slice none 0 0, .int .i64 0, .bool false, .bool false, .bool false, .int .i64 0, .bool false, .int .i64 0, .slice none 0 0, .slice none 0 0, .slice none 0 0, .int .i64 g.p, .int .i64 g.b, .int .i64 g.s, .int .i64 g.c, .int .i64 g.k, .int .i64 g.r, .int .i64 g.q, .slice (some ⟨w1.heap.size, 0, none⟩) B B, .bool false] 57)).drew := ⟨_, rfl⟩
  have K3 := Lib.hid (show CRow w3 (w1.heap.size + 1) 57 #[.int .i64 0, .slice none 0 0, .int .i64 0, .bool false, .bool false, .bool false, .int .i64 0, .bool false, .int .i64 0, .slice none 0 0, .slice none 0 0, .slice none 0 0, .int .i64 g.p, .int .i64 g.b, .int .i64 g.s, .int .i64 g.c, .int .i64 g.k, .int .i64 g.r, .int .i64 g.q, .slice (some ⟨w1.heap.size, 0, none⟩) B B, .bool false] by
    rw [hw3]
    have h0 := (CRow.new (w1.alloc (.cells (madeCells Z66 (B * 66)) 60)) #[.int .i64 0, .slice none 0 0, .int .i64 0, .bool false, .bool false, .bool false, .int .i64 0, .bool false, .int .i64 0, .slice none 0 0, .slice none 0 0, .slice none 0 0, .int .i64 g.p, .int .i64 g.b, .int .i64 g.s, .int .i64 g.c, .int .i64 g.k, .int .i64 g.r, .int .i64 g.q, .slice (some ⟨w1.heap.size, 0, none⟩) B B, .bool false] 57).drew
    simpa using h0)
  have X3 := Lib.hid (show Cells w3 w1.heap.size 60 (recF g (Jd.newK 0)) by
    rw [hw3]
    refine ⟨madeCells Z66 (B * 66), ((CRow.new w1 _ _).alloc _).drew, fun i v hv => ?_⟩
    unfold recF at hv
    rw [← HBN.out] at hv
    by_cases hi : i / 66 < B
    · rw [if_pos hi] at hv
      injection hv with hv
      rw [jmade_get _ _ _ (by omega), show Z66.size = 66 by simp [Z66], Z66_at _ (by omega), ← hv]
      unfold recV Jd.newK
      by_cases e0 : i % 66 = 0
      · rw [if_pos e0, if_pos e0]
      · rw [if_neg e0, if_neg e0]
        by_cases e1 : i % 66 = 1
        · rw [if_pos e1]; rfl
        · rw [if_neg e1]
          split <;> rfl
    · rw [if_neg hi] at hv; cases hv)
  have B3 := Lib.hid (show Below w.heap.size w w3 by
    rw [hw3]
    exact ((B1.out.alloc L1.out _).alloc (by have := L1.out; simp; omega) _).drew)
  have S3 := Lib.hid (show w3.heap.size = w1.heap.size + 2 by rw [hw3]; simp)
  have N9 := Lib.hid (show ∀ W, CRow W (w1.heap.size + 1) 57 #[.int .i64 0, .slice none 0 0, .int .i64 0, .bool false, .bool false, .bool false, .int .i64 0, .bool false, .int .i64 0, .slice none 0 0, .slice none 0 0, .slice none 0 0, .int .i64 g.p, .int .i64 g.b, .int .i64 g.s, .int .i64 g.c, .int .i64 g.k, .int .i64 g.r, .int .i64 g.q, .slice (some ⟨w1.heap.size, 0, none⟩) B B, .bool false] → W.cell? ⟨w1.heap.size + 1, 19, none⟩ = some (.slice (some ⟨w1.heap.size, 0, none⟩) B B) from fun W hW => hW.cell_at 19 _ rfl)
  rw [← hw3]
  clear hw3 hmkR
  have x19 := N9.out _ K3.out
  go_wp2
  clear x19
  go_loopw [20] (fun i wr => ∃ k : Nat, k ≤ B ∧ i = .int .i64 (k : Int) ∧ Hid (CRow wr (w1.heap.size + 1) 57 #[.int .i64 0, .slice none 0 0, .int .i64 0, .bool false, .bool false, .bool false, .int .i64 0, .bool false, .int .i64 0, .slice none 0 0, .slice none 0 0, .slice none 0 0, .int .i64 g.p, .int .i64 g.b, .int .i64 g.s, .int .i64 g.c, .int .i64 g.k, .int .i64 g.r, .int .i64 g.q, .slice (some ⟨w1.heap.size, 0, none⟩) B B, .bool false]) ∧ Hid (Cells wr w1.heap.size 60 (recF g (Jd.newK k))) ∧ Hid (Below w.heap.size w wr) ∧ Hid (w1.heap.size + 2 ≤ wr.heap.size)) (fun i _ => B - (intOf i).toNat)
  case atStart => exact ⟨0, Nat.zero_le _, rfl, K3, X3, B3, Lib.hid (by rw [S3.out]; exact Nat.le_refl _)⟩
  case round =>
    obtain ⟨k, hk, rfl, K4, X4, B4, S4⟩ := hrel
    rename World => wr
    clear K3 X3 B3 S3
    by_cases hlt : k < B
    · have x19 := N9.out _ K4.out
      have E1 := Lib.hid (rec_la (g := g) (j := Jd.newK k) (b := k) (by rw [← HBN.out]; exact hlt))
      have e1 := X4.out.cell E1.out
      have f1 := X4.out.frozen (k * 66 + 1)
      have d1 : decide ((k : Int) < (B : Int)) = true := decide_eq_true (by omega)
      have i0 : (0 : Int) ≤ (k : Int) := by omega
      have i1 : (k : Int) < (B : Int) := by omega
      have HLT := Lib.hid hlt
      go_wp2
      go_roundw
      case rel =>
        have hset := (X4.out.set E1.out (.int .i64 (-1))).sub (f' := recF g (Jd.newK (k + 1))) (fun i v h => by
          have h1 := rec_set_la (g := g) (j := Jd.newK k) (la' := (Jd.newK (k + 1)).la) (x := k) (by rw [← HBN.out]; exact HLT.out) (fun b hne => by
            show (if b < k + 1 then (-1 : Int) else 0) = (if b < k then -1 else 0)
            by_cases h2 : b < k
            · rw [if_pos h2, if_pos (by omega)]
            · rw [if_neg h2, if_neg (by omega)]) i v h
          rw [show (Jd.newK (k + 1)).la k = -1 from if_pos (Nat.lt_succ_self k)] at h1
          exact h1)
        have KB := (Btw.refl (I := fun q => q = w1.heap.size) wr).setCell (p := ⟨w1.heap.size, k * 66 + 1, none⟩) (v := .int .i64 (-1)) rfl
        exact ⟨k + 1, by omega, by go_num, Lib.hid (K4.out.btw KB (by omega)), Lib.hid hset, Lib.hid (B4.out.trans (KB.below (S := w.heap.size) (fun q hq => by rw [hq]; exact L1.out) B4.out.size)), Lib.hid (Nat.le_trans S4.out KB.size)⟩
      case measure => simp [intOf]; omega
    · obtain rfl : k = B := by omega
      have d1 : decide ((k : Int) < (k : Int)) = false := decide_eq_false (by omega)
      go_wp2
      go_ret2
      have hrec := X4.out.sub (f' := recF g Jd.new) (fun i v h => by
        rw [← h]
        unfold recF
        rw [← HBN.out]
        by_cases hi : i / 66 < k
        · rw [if_pos hi, if_pos hi]
          unfold recV
          rw [show (Jd.newK k).la (i / 66) = -1 from if_pos hi]
          rfl
        · rw [if_neg hi, if_neg hi])
      have hs := S4.out
      have hl := L1.out
      exact ⟨w1.heap.size + 1, rfl, B4.out, { aL := none, cL := 0, aR := none, cR := 0, aB := none, cB := 0, aE := none, cE := 0, r := w1.heap.size }, (by
        have h0 := K4.out
        rw [HBN.out] at h0
        exact h0), {
          ok := HOK.out
          rcs := hrec
          lis := ⟨rfl, .inl ⟨rfl, rfl⟩⟩
          l8 := fun x hx => absurd (show x ∈ ([] : List Nat) from hx) (by simp)
          row := ⟨rfl, .inl ⟨rfl, rfl⟩⟩
          blk := ⟨rfl, .inl ⟨rfl, rfl⟩⟩
          ers := ⟨rfl, .inl ⟨rfl, rfl⟩⟩
          ab := fun k hk => (by cases hk)
          ae := fun k hk => (by cases hk)
          be := fun k hk => (by cases hk)
          ip := by show w.heap.size ≤ w1.heap.size + 1; omega
          ir := by show w.heap.size ≤ w1.heap.size; omega
          iL := fun k hk => (by cases hk)
          iR := fun k hk => (by cases hk)
          iB := fun k hk => (by cases hk)
          iE := fun k hk => (by cases hk)
          new := fun k hk => by show w.heap.size ≤ k; have := B4.out.size; omega }⟩
end
end Go.Proofs.Ytmgaenfimhdlpaa

/-
  Run, plain, awake.
-/
namespace Go.Proofs.Ytmgaenfimhdlpaa
open Go.RowKit
set_option maxRecDepth 100000

section
variable {I K : Nat → Prop} {w w' : World} {p : Nat} {g : Gm} {j : Jd} {m : Jm}
/-- The judge behind k cycles of l; whether it accepts the k-th. -/
def stJ (g : Gm) (l : List Cy) : Nat → Jd
  | 0 => Jd.new
  | k + 1 => match l[k]? with
    | some t => ((stJ g l k).step g t.k t.b).2
    | none => stJ g l k
def okJ (g : Gm) (l : List Cy) (k : Nat) : Bool := match l[k]? with
  | some t => ((stJ g l k).step g t.k t.b).1
  | none => false
theorem stJ_succ {l : List Cy} {k : Nat} {t : Cy} (h : l[k]? = some t) : stJ g l (k + 1) = ((stJ g l k).step g t.k t.b).2 := by
  show (match l[k]? with | some t => ((stJ g l k).step g t.k t.b).2 | none => stJ g l k) = _
  rw [h]
theorem okJ_is {l : List Cy} {k : Nat} {t : Cy} (h : l[k]? = some t) : okJ g l k = ((stJ g l k).step g t.k t.b).1 := by
  unfold okJ
  rw [h]
/-- What Run tells: c cycles of n ahead of the first one that is rejected. -/
def RunIs (g : Gm) (l : List Cy) (n c : Nat) : Prop := c ≤ n ∧ (∀ k, k < c → okJ g l k = true) ∧ (c < n → okJ g l c = false)
theorem jRun_no (h : g.ok = false) (A : Option Addr) (n d : Nat) (w : World) : Calls Try.prog 9 #[g.val, .slice A n d] w (Gives (.tuple #[.int .i64 0, .bool false]) w) := by
  have B0 := Lib.hid (below_new w (.cells #[.int .i64 g.p, .int .i64 g.b, .int .i64 g.s, .int .i64 g.c, .int .i64 g.k, .int .i64 g.r, .int .i64 g.q] 23))
  have Y0 := Lib.hid (GBox.new w g 23)
  have HC := Lib.hid (fun W => jNew_no g h W)
  simp only [Gm.val] at HC ⊢
  clear h
  go_enter Try.func9, Try.ntmps9
  obtain ⟨_, g0, g1, g2, g3, g4, g5, g6⟩ := Y0.out
  go_wp2_with fail
  clear g0 g1 g2 g3 g4 g5 g6
  refine (HC.out _).mono ?_
  rintro _ w1 ⟨rfl, h1⟩
  have B1 := Lib.hid (below_step B0.out h1)
  clear h1
  go_wp2
  go_ret2
  exact ⟨rfl, B1.out⟩
set_option maxHeartbeats 2000000 in
theorem jRun (h : g.ok = true) (A : Option Addr) (n d : Nat) (l : List Cy) (hn : n ≤ 50000) (w : World) (hl : RC w A n l) : Calls Try.prog 9 #[g.val, .slice A n d] w fun e w' => ∃ c, RunIs g l n c ∧ e = .returned (.tuple #[.int .i64 (c : Int), .bool (decide (c = n))]) ∧ Below w.heap.size w w' := by
  have B0 := Lib.hid (below_new w (.cells #[.int .i64 g.p, .int .i64 g.b, .int .i64 g.s, .int .i64 g.c, .int .i64 g.k, .int .i64 g.r, .int .i64 g.q] 23))
  have Y0 := Lib.hid (GBox.new w g 23)
  have HC := Lib.hid (fun W => jNew g h W)
  have HR := Lib.hid hl
  have HOK := Lib.hid h
  simp only [Gm.val] at HC ⊢
  clear h hl
  go_enter Try.func9, Try.ntmps9
  obtain ⟨_, g0, g1, g2, g3, g4, g5, g6⟩ := Y0.out
  go_wp2_with fail
  clear g0 g1 g2 g3 g4 g5 g6
  refine (HC.out _).mono ?_
  rintro _ w1 ⟨p, rfl, h1, hj⟩
  have B1 := Lib.hid (below_step B0.out h1)
  have J1 := Lib.hid (show JH _ w1 p g (stJ g l 0) from hj)
  have F1 := Lib.hid (show Jf g 0 (stJ g l 0) from Jf.new g)
  obtain ⟨I, hI⟩ : ∃ I, I = fun k => (w.alloc (.cells #[.int .i64 g.p, .int .i64 g.b, .int .i64 g.s, .int .i64 g.c, .int .i64 g.k, .int .i64 g.r, .int .i64 g.q] 23)).heap.size ≤ k := ⟨_, rfl⟩
  have HI := Lib.hid (show ∀ k, I k → w.heap.size ≤ k from fun k hk => by
    rw [hI] at hk
    have e : (w.alloc (.cells #[.int .i64 g.p, .int .i64 g.b, .int .i64 g.s, .int .i64 g.c, .int .i64 g.k, .int .i64 g.r, .int .i64 g.q] 23)).heap.size = w.heap.size + 1 := by simp
    have hk : (w.alloc (.cells #[.int .i64 g.p, .int .i64 g.b, .int .i64 g.s, .int .i64 g.c, .int .i64 g.k, .int .i64 g.r, .int .i64 g.q] 23)).heap.size ≤ k := hk
    omega)
  rw [← hI] at J1
  clear h1 hj HC B0 Y0 hI
  go_wp2
  go_loopw [19] (fun i wr => ∃ k : Nat, k ≤ n ∧ i = .int .i64 (k : Int) ∧ Hid (∀ q, q < k → okJ g l q = true) ∧ Hid (Jf g k (stJ g l k)) ∧ Hid (JH I wr p g (stJ g l k)) ∧ Hid (Below w.heap.size w wr)) (fun i _ => n - (intOf i).toNat)
  case atStart => exact ⟨0, Nat.zero_le _, rfl, Lib.hid (fun q hq => absurd hq (by omega)), F1, J1, B1⟩
  case round =>
    obtain ⟨k, hk, rfl, HO, HF, HJ, HB⟩ := hrel
    rename World => wr
    clear J1 F1 B1
    by_cases hlt : k < n
    · obtain ⟨b9, o9, t, rfl, hb9, HX, hin, x0, x1⟩ := (HR.out.below HB.out).at_ hlt
      have d1 : decide ((k : Int) < (n : Int)) = true := decide_eq_true (by omega)
      have i0 : (0 : Int) ≤ (k : Int) := by omega
      have N1 := Lib.hid (below_new wr (.cells #[.int .i64 t.k, .int .u8 (t.b : Int)] 36))
      have HA1 := Lib.hid (HJ.out.below N1.out)
      have B1 := Lib.hid (below_step HB.out N1.out)
      have HS := Lib.hid (jStep (q := k) t.k t.b hin.2.2 (by omega) HF.out HA1.out)
      have HL := Lib.hid (HF.out.step HOK.out HJ.out.l8 t.k t.b hin.2.2)
      rw [← stJ_succ HX.out] at HL
      rw [← stJ_succ HX.out, ← okJ_is HX.out] at HS
      clear HJ HB HF hb9 hin
      go_wp2_with fail
      clear x0 x1
      refine HS.out.mono ?_
      rintro e w2 ⟨he, hj2, hb2⟩
      have J2 := Lib.hid hj2
      have B2 := Lib.hid (B1.out.trans (hb2.below (S := w.heap.size) HI.out B1.out.size))
      cases hv : okJ g l k with
      | false =>
        rw [hv] at he
        subst he
        have HV := Lib.hid hv
        have HKN := Lib.hid hlt
        clear hv hj2 hb2 HS N1
        go_wp2
        go_ret2
        exact ⟨k, ⟨hk, HO.out, fun _ => HV.out⟩, by rw [decide_eq_false (by have := HKN.out; omega)]; rfl, B2.out⟩
      | true =>
        rw [hv] at he
        subst he
        have HV := Lib.hid hv
        clear hv hj2 hb2 HS N1
        go_wp2
        go_roundw
        case rel => exact ⟨k + 1, by omega, by go_num, Lib.hid (fun q hq => by
          by_cases e : q = k
          · rw [e]; exact HV.out
          · exact HO.out q (by omega)), HL, J2, B2⟩
        case measure => simp [intOf]; omega
    · obtain rfl : k = n := by omega
      have d1 : decide ((k : Int) < (k : Int)) = false := decide_eq_false (by omega)
      go_wp2
      go_ret2
      exact ⟨k, ⟨Nat.le_refl _, HO.out, fun h => absurd h (by omega)⟩, by rw [decide_eq_true rfl]; rfl, HB.out⟩
def geo15 : Gm := ⟨1, 2, 4, 1, 4, 1, 1⟩
theorem geo15_ok : geo15.ok = true := by decide +kernel
theorem size_geom15 : (Try.prog.info? 23).map (·.size) = some 7 := by kernel_rfl
set_option maxHeartbeats 400000 in
theorem plain15_any (w : World) : Calls Try.prog 20 #[] w (Gives geo15.val w) := by
  go_enter Try.func20, Try.ntmps20
  have T0 := Lib.hid (CRow.new w #[.int .i64 0, .int .i64 0, .int .i64 0, .int .i64 0, .int .i64 0, .int .i64 0, .int .i64 0] 23)
  have B0 := Lib.hid (below_new w (.cells #[.int .i64 0, .int .i64 0, .int .i64 0, .int .i64 0, .int .i64 0, .int .i64 0, .int .i64 0] 23))
  go_wp2_with (with_reducible refine (?_ : wpList _ _ _ ({ dst := _, op := Op.store 23 _ _, type := _, pos := _, after := _, guard := _ } :: _) _ _); refine wpList_store_at rfl 23 _ _ rfl 7 size_geom15 _ w.heap.size ?hx rfl _ T0.out.row ?hn ?ho ?h1 ?_; (case hx => simp [Act.eval]); (case hn => simp); (case ho => simp); (case h1 => simp [Value.oneCell']))
  have B9 := Lib.hid (below_setRow B0.out (Nat.le_refl _) #[.int .i64 1, .int .i64 2, .int .i64 4, .int .i64 1, .int .i64 4, .int .i64 1, .int .i64 1])
  have T9 := Lib.hid (T0.out.set #[.int .i64 1, .int .i64 2, .int .i64 4, .int .i64 1, .int .i64 4, .int .i64 1, .int .i64 1])
  go_wp2
  refine bodyPost_ret (results_cell_row rfl _ _ w.heap.size 23 _ (0, 0) _ rfl T9.out.row Try.underlying23 rfl size_geom15) rfl ?_
  exact ⟨rfl, B9.out⟩
theorem RC_new (w : World) (l : List Cy) (hi : ∀ t ∈ l, inC t) (t : TypeId) : RC (w.alloc (.cells (CyC l).toArray t)) (some ⟨w.heap.size, 0, none⟩) l.length l := by
  refine ⟨rfl, hi, fun _ => ⟨w.heap.size, 0, rfl, by simp, fun j hj => ?_⟩⟩
  rw [Nat.zero_add, (CRow.new w (CyC l).toArray t).cell j]
  simp
theorem run_2 (c : Nat) (h : RunIs geo15 [⟨1, 255⟩, ⟨1, 112⟩] 2 c) : c = 2 := by
  obtain ⟨h1, h2, h3⟩ := h
  have k0 : okJ geo15 [⟨1, 255⟩, ⟨1, 112⟩] 0 = true := by rfl
  have k1 : okJ geo15 [⟨1, 255⟩, ⟨1, 112⟩] 1 = true := by rfl
  have hd : c = 0 ∨ c = 1 ∨ c = 2 := by omega
  rcases hd with rfl | rfl | rfl
  · have := h3 (by omega); rw [k0] at this; cases this
  · have := h3 (by omega); rw [k1] at this; cases this
  · rfl
theorem run_1 (c : Nat) (h : RunIs geo15 [⟨1, 112⟩] 1 c) : c = 0 := by
  obtain ⟨h1, h2, h3⟩ := h
  have k0 : okJ geo15 [⟨1, 112⟩] 0 = false := by rfl
  have hd : c = 0 ∨ c = 1 := by omega
  rcases hd with rfl | rfl
  · rfl
  · have := h2 0 (by omega); rw [k0] at this; cases this
set_option maxHeartbeats 2000000 in
theorem awake15_any (w : World) : Calls Try.prog 6 #[] w (Gives (.bool true) w) := by
  have HR2 := Lib.hid (fun W (A : Option Addr) (hl : RC W A 2 [⟨1, 255⟩, ⟨1, 112⟩]) => jRun geo15_ok A 2 2 _ (by omega) W hl)
  have HR1 := Lib.hid (fun W (A : Option Addr) (hl : RC W A 1 [⟨1, 112⟩]) => jRun geo15_ok A 1 1 _ (by omega) W hl)
  simp only [Gm.val, geo15] at HR2 HR1
  have HP := Lib.hid (fun W => plain15_any W)
  simp only [Gm.val, geo15] at HP
  go_enter Try.func6, Try.ntmps6
  go_wp2_with fail
  refine (HP.out _).mono ?_
  rintro _ w1 ⟨rfl, h1⟩
  have B1 := Lib.hid h1
  clear h1
  have L2 := Lib.hid (RC_new w1 [⟨1, 255⟩, ⟨1, 112⟩] (by intro t ht; simp at ht; rcases ht with rfl | rfl <;> simp [inC]) 36)
  have N2 := Lib.hid (below_new w1 (.cells (CyC [⟨1, 255⟩, ⟨1, 112⟩]).toArray 36))
  simp only [CyC, List.flatMap_cons, List.flatMap_nil, List.append_nil, List.cons_append, List.nil_append, List.length_cons, List.length_nil] at L2 N2
  go_wp2_with fail
  refine (HR2.out _ _ L2.out).mono ?_
  rintro _ w2 ⟨c, hc, rfl, h2⟩
  obtain rfl := run_2 c hc
  have B2 := Lib.hid (below_step (below_step B1.out N2.out) h2)
  clear h2 hc L2 N2
  go_wp2_with fail
  refine (HP.out _).mono ?_
  rintro _ w3 ⟨rfl, h3⟩
  have B3 := Lib.hid (below_step B2.out h3)
  clear h3
  have L4 := Lib.hid (RC_new w3 [⟨1, 112⟩] (by intro t ht; simp at ht; rcases ht with rfl; simp [inC]) 36)
  have N4 := Lib.hid (below_new w3 (.cells (CyC [⟨1, 112⟩]).toArray 36))
  simp only [CyC, List.flatMap_cons, List.flatMap_nil, List.append_nil, List.length_cons, List.length_nil] at L4 N4
  go_wp2_with fail
  refine (HR1.out _ _ L4.out).mono ?_
  rintro _ w4 ⟨c, hc, rfl, h4⟩
  obtain rfl := run_1 c hc
  have B4 := Lib.hid (below_step (below_step B3.out N4.out) h4)
  clear h4 hc L4 N4
  go_wp2
  go_ret
  exact ⟨rfl, B4.out⟩
end
end Go.Proofs.Ytmgaenfimhdlpaa

/-
  Words for the judge's laws.
-/
namespace Go.Proofs.Ytmgaenfimhdlpaa
open Go.RowKit
set_option maxRecDepth 100000

/-- Small enough for a play. -/
def jsmall (g : Gm) : Prop := smallG g ∧ g.b ≤ 16 ∧ g.s ≤ 12
set_option maxHeartbeats 1000000 in
theorem jSmall_any (g : Gm) (w : World) : ∃ v, (v = true ↔ jsmall g) ∧ Calls Try.prog 7 #[g.val] w (Gives (.bool v) w) := by
  have Y0 := Lib.hid (GBox.new w g 23)
  have B0 := Lib.hid (below_new w (.cells #[.int .i64 g.p, .int .i64 g.b, .int .i64 g.s, .int .i64 g.c, .int .i64 g.k, .int .i64 g.r, .int .i64 g.q] 23))
  by_cases hs : smallG g
  · have HS := Lib.hid (fun w' => Small_yes g hs w')
    unfold Gm.val at HS ⊢
    by_cases h1 : g.b ≤ 16
    · have d1 : decide (g.b ≤ 16) = true := decide_eq_true h1
      by_cases h2 : g.s ≤ 12
      · have d2 : decide (g.s ≤ 12) = true := decide_eq_true h2
        refine ⟨true, ⟨fun _ => ⟨hs, h1, h2⟩, fun _ => rfl⟩, ?_⟩
        clear hs
        go_enter Try.func7, Try.ntmps7
        obtain ⟨_, g0, g1, g2, g3, g4, g5, g6⟩ := Y0.out
        go_wp2_with fail
        refine (HS.out _).mono ?_
        rintro _ w1 ⟨rfl, h3⟩
        have B1 := Lib.hid (below_step B0.out h3)
        clear g0 g1 g2 g3 g4 g5 g6
        obtain ⟨_, g0, g1, g2, g3, g4, g5, g6⟩ := Y0.out.below h3
        clear h3
        go_wp2
        go_ret
        exact ⟨rfl, B1.out⟩
      · have d2 : decide (g.s ≤ 12) = false := decide_eq_false h2
        refine ⟨false, ⟨(by intro h; cases h), fun h => absurd h.2.2 h2⟩, ?_⟩
        clear hs
        go_enter Try.func7, Try.ntmps7
        obtain ⟨_, g0, g1, g2, g3, g4, g5, g6⟩ := Y0.out
        go_wp2_with fail
        refine (HS.out _).mono ?_
        rintro _ w1 ⟨rfl, h3⟩
        have B1 := Lib.hid (below_step B0.out h3)
        clear g0 g1 g2 g3 g4 g5 g6
        obtain ⟨_, g0, g1, g2, g3, g4, g5, g6⟩ := Y0.out.below h3
        clear h3
        go_wp2
        go_ret
        exact ⟨rfl, B1.out⟩
    · have d1 : decide (g.b ≤ 16) = false := decide_eq_false h1
      refine ⟨false, ⟨(by intro h; cases h), fun h => absurd h.2.1 h1⟩, ?_⟩
      clear hs
      go_enter Try.func7, Try.ntmps7
      obtain ⟨_, g0, g1, g2, g3, g4, g5, g6⟩ := Y0.out
      go_wp2_with fail
      refine (HS.out _).mono ?_
      rintro _ w1 ⟨rfl, h3⟩
      have B1 := Lib.hid (below_step B0.out h3)
      clear g0 g1 g2 g3 g4 g5 g6
      obtain ⟨_, g0, g1, g2, g3, g4, g5, g6⟩ := Y0.out.below h3
      clear h3
      go_wp2
      go_ret
      exact ⟨rfl, B1.out⟩
  · have HS := Lib.hid (fun w' => Small_no g hs w')
    unfold Gm.val at HS ⊢
    refine ⟨false, ⟨(by intro h; cases h), fun h => absurd h.1 hs⟩, ?_⟩
    clear hs
    go_enter Try.func7, Try.ntmps7
    obtain ⟨_, g0, g1, g2, g3, g4, g5, g6⟩ := Y0.out
    go_wp2_with fail
    refine (HS.out _).mono ?_
    rintro _ w1 ⟨rfl, h3⟩
    have B1 := Lib.hid (below_step B0.out h3)
    clear g0 g1 g2 g3 g4 g5 g6 h3
    go_wp2
    go_ret
    exact ⟨rfl, B1.out⟩
section
variable {I K : Nat → Prop} {w w' : World} {p : Nat} {g : Gm} {j : Jd} {m : Jm}
theorem rej_begin (b : Nat) : (j.begin b).2.rej = j.rej := by
  unfold Jd.begin
  split
  · rfl
  · show (Jd.enter (if _ then _ else _) _).rej = _
    split <;> rfl
theorem rej_endFetch (b : Nat) : (j.endFetch b).2.rej = j.rej := by unfold Jd.endFetch; split <;> rfl
theorem rej_endMove (b : Nat) : (j.endMove b).2.rej = j.rej := by unfold Jd.endMove; split <;> rfl
theorem rej_endLoad (b : Nat) : (j.endLoad g b).2.rej = j.rej := by
  unfold Jd.endLoad
  split
  · rfl
  · split
    · rfl
    · split
      · rfl
      · split
        · split <;> rfl
        · split
          · split <;> rfl
          · rfl
theorem rej_endErase (b : Nat) : (j.endErase g b).2.rej = j.rej := by
  unfold Jd.endErase
  split
  · rfl
  · split
    · rfl
    · split <;> rfl
theorem rej_command (b : Nat) : (j.command g b).2.rej = j.rej := by
  unfold Jd.command
  split
  · exact rej_endLoad b
  · split
    · exact rej_endErase b
    · split
      · exact rej_endMove b
      · split
        · split
          · exact rej_begin b
          · rfl
        · split
          · split
            · exact rej_endFetch b
            · split
              · rfl
              · exact rej_begin b
          · split
            · exact rej_begin b
            · rfl
theorem rej_addr (b : Nat) : (j.addr g b).2.rej = j.rej := by
  unfold Jd.addr Jd.addr4
  split
  · rfl
  · split
    · rfl
    · split
      · split <;> rfl
      · split
        · split <;> rfl
        · split
          · rfl
          · split <;> rfl
theorem rej_write : (j.write g).2.rej = j.rej := by
  unfold Jd.write
  split
  · show (if _ then _ else _ : Jd).rej = _
    split <;> rfl
  · split <;> rfl
theorem rej_read : (j.read g).2.rej = j.rej := by
  unfold Jd.read
  split
  · rfl
  · split
    · split <;> rfl
    · split <;> rfl
theorem rej_acc (k : Int) (b : Nat) : (j.acc g k b).2.rej = j.rej := by
  unfold Jd.acc
  split
  · rfl
  · split
    · rfl
    · split
      · rfl
      · split
        · show (j.poll b).rej = _
          unfold Jd.poll
          split
          · rfl
          · by_cases h1 : b % 2 = 1
            · rw [if_pos h1]; rfl
            · rw [if_neg h1]
        · split
          · rfl
          · unfold Jd.cont
            split
            · exact rej_command b
            · split
              · exact rej_addr b
              · split
                · exact rej_write
                · split
                  · exact rej_read
                  · rfl
theorem step_rej (h : j.rej = true) (k : Int) (b : Nat) : j.step g k b = (false, j) := by unfold Jd.step; rw [if_pos h]
theorem step_no {k : Int} {b : Nat} (h : j.rej = false) (hv : (j.step g k b).1 = false) : (j.step g k b).2.rej = true := by
  unfold Jd.step at hv ⊢
  rw [if_neg (by rw [h]; decide)] at hv ⊢
  split
  · rfl
  · rename_i h1
    rw [if_neg h1] at hv
    cases hv
/-- What is accepted leaves; and what is accepted while the chip is busy. -/
theorem step_yes {k : Int} {b : Nat} (h : j.rej = false) (hv : (j.step g k b).1 = true) : (j.step g k b).2.rej = false ∧ (k ≠ 4 → (j.step g k b).2.pol = decide (k = 1 ∧ b = 112)) ∧ (j.busy = true → (k = 1 ∧ (b = 112 ∨ b = 255)) ∨ (k = 4 ∧ j.pol = true)) := by
  unfold Jd.step at hv ⊢
  rw [if_neg (by rw [h]; decide)] at hv ⊢
  by_cases ha : (j.acc g k b).1 = false
  · rw [if_pos ha] at hv
    cases hv
  · rw [if_neg ha]
    refine ⟨?_, fun hk => ?_, fun hb => ?_⟩
    · show (if _ then _ else _ : Jd).rej = _
      split
      · rw [rej_acc]; exact h
      · show (j.acc g k b).2.rej = false
        rw [rej_acc]; exact h
    · show (if _ then _ else _ : Jd).pol = _
      rw [if_neg hk]
    · unfold Jd.acc at ha
      split at ha
      · rename_i h1; exact .inl ⟨h1.1, .inr h1.2⟩
      · split at ha
        · exact absurd rfl ha
        · split at ha
          · rename_i h1; exact .inl ⟨h1.1, .inl h1.2⟩
          · split at ha
            · rename_i h1; exact .inr h1
            · exact absurd rfl ha
theorem RC.take_ {A : Option Addr} {n q : Nat} {l : List Cy} (h : RC w A n l) (hq : q ≤ n) : RC w A q (l.take q) := by
  obtain ⟨hl, hi, hc⟩ := h
  refine ⟨by rw [List.length_take]; omega, fun t ht => hi t (List.mem_of_mem_take ht), fun h0 => ?_⟩
  obtain ⟨b, off, e, hb, hcell⟩ := hc (by omega)
  refine ⟨b, off, e, hb, fun x hx => ?_⟩
  rw [hcell x (by omega)]
  have hk : x / 2 < l.length := by omega
  have ht : l[x / 2]? = some l[x / 2] := List.getElem?_eq_getElem hk
  have ht2 : (l.take q)[x / 2]? = some l[x / 2] := by rw [List.getElem?_take, if_pos (by omega)]; exact ht
  have e1 := CyC_at ht (x % 2) (by omega)
  have e2 := CyC_at ht2 (x % 2) (by omega)
  rw [show x / 2 * 2 + x % 2 = x by omega] at e1 e2
  rw [e1, e2]
theorem stJ_take (l : List Cy) (q : Nat) : ∀ k, k ≤ q → stJ g (l.take q) k = stJ g l k
  | 0, _ => rfl
  | k + 1, h => by
    have ih := stJ_take l q k (by omega)
    show (match (l.take q)[k]? with | some t => ((stJ g (l.take q) k).step g t.k t.b).2 | none => stJ g (l.take q) k) = (match l[k]? with | some t => ((stJ g l k).step g t.k t.b).2 | none => stJ g l k)
    rw [List.getElem?_take, if_pos (by omega), ih]
theorem okJ_take (l : List Cy) (q k : Nat) (h : k < q) : okJ g (l.take q) k = okJ g l k := by
  unfold okJ
  rw [List.getElem?_take, if_pos h, stJ_take l q k (by omega)]
/-- A prefix of what is accepted is accepted. -/
theorem run_take {l : List Cy} {n c q x : Nat} (h : RunIs g l n c) (hq : q ≤ c) (hx : RunIs g (l.take q) q x) : x = q := by
  obtain ⟨h1, h2, h3⟩ := hx
  by_cases e : x = q
  · exact e
  · have h4 := h3 (by omega)
    rw [okJ_take l q x (by omega), h.2.1 x (by omega)] at h4
    cases h4
theorem run_slice_to2 {P : Program} {t e : TypeId} {i : TypeInfo} (h1 : P.underlying t = some (.slice e)) (h2 : P.info? e = some i) (h4 : P.cellsOf e = 2) (A : Option Addr) (n c k : Nat) (hk : k ≤ c) (W : World) :
    (Instr.slice t (.slice A n c) none (some (.int .i64 (k : Int))) none).run P W = .ok (.slice A k c) W := by
  have hb : (Instr.sliceBound (.int .i64 (k : Int)) c .sliceAcap).run P W = .ok k W := by
    rw [run_sliceBound W .i64 _ _ _ (by omega) (by omega)]; simp
  simp [Instr.slice, run_underlying h1, Instr.sliceBounds, hb, run_sizeOf W h2, h4]
  intro _
  cases A <;> simp [Addr.add]
end
end Go.Proofs.Ytmgaenfimhdlpaa

/-
  The closure of JudgeErases; a judge's states, call by call.
-/
namespace Go.Proofs.Ytmgaenfimhdlpaa
open Go.RowKit
set_option maxRecDepth 100000

section
variable {I K : Nat → Prop} {w w' : World} {p : Nat} {g : Gm} {j : Jd} {m : Jm}
/-- Bytes of a kind, one behind the other: the judge behind them; all are accepted. -/
def stepsJ (g : Gm) (k : Int) (j : Jd) : List Nat → Jd
  | [] => j
  | b :: r => stepsJ g k (j.step g k b).2 r
def Acc (g : Gm) (k : Int) (j : Jd) : List Nat → Prop
  | [] => True
  | b :: r => (j.step g k b).1 = true ∧ Acc g k (j.step g k b).2 r
theorem stepsJ_take {k : Int} : ∀ (bs : List Nat) (j : Jd) (i b : Nat), bs[i]? = some b → stepsJ g k j (bs.take (i + 1)) = ((stepsJ g k j (bs.take i)).step g k b).2
  | [], _, _, _, h => by simp at h
  | x :: r, j, 0, b, h => by
    simp at h
    subst h
    rfl
  | x :: r, j, i + 1, b, h => stepsJ_take r (j.step g k x).2 i b (by simpa using h)
theorem Acc_at {k : Int} : ∀ (bs : List Nat) (j : Jd) (i b : Nat), Acc g k j bs → bs[i]? = some b → ((stepsJ g k j (bs.take i)).step g k b).1 = true
  | [], _, _, _, _, h => by simp at h
  | x :: r, j, 0, b, ha, h => by
    simp at h
    subst h
    exact ha.1
  | x :: r, j, i + 1, b, ha, h => Acc_at r (j.step g k x).2 i b ha.2 (by simpa using h)
theorem CRow.kept {u : TypeId} {q : Nat} {cs : Array Value} (h : CRow w q u cs) (hb : Btw I w w') (hq : ¬ I q) : CRow w' q u cs := h.btw hb hq
theorem jBox_btw {x : Nat} (h : GBox w x g) (hb : Btw I w w') (hn : ¬ I x) : GBox w' x g := by
  obtain ⟨hl, g0, g1, g2, g3, g4, g5, g6⟩ := h
  have K : ∀ i v, w.cell? ⟨x, i, none⟩ = some v → w'.cell? ⟨x, i, none⟩ = some v := fun i v hv => by
    have e := hb.block x hl hn
    unfold World.cell? at hv ⊢
    rw [e]
    exact hv
  exact ⟨Nat.lt_of_lt_of_le hl hb.size, K _ _ g0, K _ _ g1, K _ _ g2, K _ _ g3, K _ _ g4, K _ _ g5, K _ _ g6⟩
set_option maxHeartbeats 2000000 in
theorem jclo {q cb n d : Nat} {A : Option Addr} (k : Int) (bs : List Nat) (hq : q + n ≤ 100000) (hf : Jf g q j) (ha : Acc g k j bs) (hr : R8 w A n bs) (hA : ∀ b off, A = some ⟨b, off, none⟩ → ¬ I b) (hc : CRow w cb 27 #[.pointer (some ⟨p, 0, none⟩)]) (hI : ¬ I cb) (h : JH I w p g j) :
    Calls Try.prog 19 #[.int .i64 k, .slice A n d, .pointer (some ⟨cb, 0, none⟩)] w fun e w' => e = .returned (.bool true) ∧ JH I w' p g (stepsJ g k j bs) ∧ Btw I w w' ∧ Jf g (q + n) (stepsJ g k j bs) := by
  have HOK := Lib.hid h.ok
  have HR := Lib.hid hr
  have HA := Lib.hid hA
  have HAC := Lib.hid (fun i b hb => Acc_at bs j i b ha hb)
  have C0 := Lib.hid hc
  have HI := Lib.hid hI
  have H0 := Lib.hid (show JH I w p g (stepsJ g k j (bs.take 0)) from h)
  have F0 := Lib.hid (show Jf g (q + 0) (stepsJ g k j (bs.take 0)) from hf)
  have B0 := Lib.hid (Btw.refl (I := I) w)
  have hlen := hr.len
  have HLE := Lib.hid hlen
  clear h hf ha hr hA hc hI hlen
  go_enter Try.func19, Try.ntmps19
  go_wp2
  go_loopw [6, 11] (fun v i wr => ∃ x : Nat, x ≤ n ∧ v = .bool true ∧ i = .int .i64 (x : Int) ∧ Hid (JH I wr p g (stepsJ g k j (bs.take x))) ∧ Hid (Jf g (q + x) (stepsJ g k j (bs.take x))) ∧ Hid (Btw I w wr)) (fun _ i _ => n - (intOf i).toNat)
  case atStart => exact ⟨0, Nat.zero_le _, rfl, rfl, H0, F0, B0⟩
  case round =>
    obtain ⟨x, hx, rfl, rfl, HJ, HF, HB⟩ := hrel
    rename World => wr
    clear H0 F0 B0
    by_cases hlt : x < n
    · obtain ⟨b9, o9, u, rfl, hb9, HU, hu8, y0⟩ := (show R8 wr A n bs from by
        have h0 := HR.out
        refine ⟨⟨h0.1.1, fun hn => ?_⟩, h0.2⟩
        obtain ⟨b', off', e', hlt', hcell⟩ := h0.1.2 hn
        refine ⟨b', off', e', Nat.lt_of_lt_of_le hlt' HB.out.size, fun i hi => ?_⟩
        rw [← hcell i hi]
        have e := HB.out.block b' hlt' (HA.out b' off' e')
        unfold World.cell?
        rw [e]).at_ hlt
      have d1 : decide ((x : Int) < (n : Int)) = true := decide_eq_true (by omega)
      have i0 : (0 : Int) ≤ (x : Int) := by omega
      have i1 : (x : Int) < (n : Int) := by omega
      have HAU := HAC.out x u HU.out
      have HST := jStep (q := q + x) k u hu8 (by omega) HF.out HJ.out
      rw [HAU] at HST
      rw [← stepsJ_take bs j x u HU.out] at HST
      have HS := Lib.hid HST
      have HL := HF.out.step HOK.out HJ.out.l8 k u hu8
      rw [← stepsJ_take bs j x u HU.out] at HL
      have HL := Lib.hid HL
      have C1 := Lib.hid (C0.out.btw HB.out HI.out)
      have z0 := C1.out.cell_at 0 _ rfl
      clear HJ HF hb9 hu8 HAU HST
      go_wp2_with fail
      clear y0 z0
      refine HS.out.mono ?_
      rintro _ w2 ⟨rfl, h2, b2⟩
      have J2 := Lib.hid h2
      have B2 := Lib.hid (HB.out.trans b2 fun _ _ h => h)
      clear h2 b2 HS HB
      go_wp2
      go_roundw
      case rel => exact ⟨x + 1, by omega, rfl, by go_num, J2, HL, B2⟩
      case measure => simp [intOf]; omega
    · obtain rfl : x = n := by omega
      have d1 : decide ((x : Int) < (x : Int)) = false := decide_eq_false (by omega)
      have e : bs.take x = bs := by rw [← HLE.out, List.take_length]
      have HT := Lib.hid e
      go_wp2
      go_ret
      rw [HT.out] at HJ HF
      exact ⟨rfl, HJ.out, HB.out, HF.out⟩
/-- The closure, called with bytes in a slice of their own. -/
theorem jclo_new {q cb n : Nat} {w0 : World} {cs : Array Value} (k : Int) (bs : List Nat) (hcs : cs = (U8 bs).toArray) (hn : bs.length = n) (h8 : ∀ x ∈ bs, x < 256) (hq : q + n ≤ 100000) (hf : Jf g q j) {j2 : Jd} (hs : Acc g k j bs ∧ stepsJ g k j bs = j2) (hc : CRow w0 cb 27 #[.pointer (some ⟨p, 0, none⟩)]) (hI : ¬ I cb) (h : JH I w0 p g j) :
    Calls Try.prog 19 #[.int .i64 k, .slice (some ⟨w0.heap.size, 0, none⟩) n n, .pointer (some ⟨cb, 0, none⟩)] (w0.alloc (.cells cs 5)) fun e w' => e = .returned (.bool true) ∧ JH I w' p g j2 ∧ Btw I w0 w' ∧ Jf g (q + n) j2 := by
  obtain ⟨ha, rfl⟩ := hs
  subst hcs hn
  have N := below_new w0 (.cells (U8 bs).toArray 5)
  have hr : R8 (w0.alloc (.cells (U8 bs).toArray 5)) (some ⟨w0.heap.size, 0, none⟩) bs.length bs := by
    refine ⟨⟨by rw [U8_length], fun _ => ⟨w0.heap.size, 0, rfl, by simp, fun i hi => ?_⟩⟩, h8⟩
    rw [Nat.zero_add, (CRow.new w0 (U8 bs).toArray _).cell i]
    simp
  have e : (w0.alloc (.cells (U8 bs).toArray 5)).heap.size = w0.heap.size + 1 := by simp
  refine (jclo (I := fun x => I x ∧ (x < w0.heap.size ∨ (w0.alloc (.cells (U8 bs).toArray 5)).heap.size ≤ x)) k bs hq hf ha hr (fun b off hb hi => ?_) (hc.below N) (fun hi => hI hi.1) (h.shrink N)).mono ?_
  · injection hb with hb
    injection hb with hb _
    have h2 := hi.2
    rw [e] at h2
    omega
  · rintro e' w' ⟨h1, h2, h3, h4⟩
    exact ⟨h1, h2.widen (fun x hx => hx.1), (Btw.of_below N).trans h3 fun x _ hx => hx.1, h4⟩
def jIdle (E : Nat → Bool) (L : Nat → Int) (P : Nat → Nat) : Jd := { op := 1, listed := [], count := 0, busy := false, pol := true, bg := false, bgb := 0, data := false, col := 0, rows := [], blocks := [], erases := [], er := E, la := L, pr := P, rej := false }
variable {E : Nat → Bool} {L : Nat → Int} {P : Nat → Nat} {lo hi b q : Nat}
theorem c_ff : Acc g 1 Jd.new [255, 112] ∧ stepsJ g 1 Jd.new [255, 112] = { jIdle (fun _ => false) (fun _ => -1) (fun _ => 0) with busy := true } := ⟨⟨rfl, rfl, trivial⟩, rfl⟩
theorem c_e0 : Acc g 4 { jIdle E L P with busy := true } [224] ∧ stepsJ g 4 { jIdle E L P with busy := true } [224] = jIdle E L P := ⟨⟨rfl, trivial⟩, rfl⟩
theorem c_60 : Acc g 1 (jIdle E L P) [96] ∧ stepsJ g 1 (jIdle E L P) [96] = { jIdle E L P with op := 9, pol := false } := ⟨⟨rfl, trivial⟩, rfl⟩
theorem c_row (hr : lo + 256 * hi < g.rows_) : Acc g 2 { jIdle E L P with op := 9, pol := false } [lo, hi] ∧ stepsJ g 2 { jIdle E L P with op := 9, pol := false } [lo, hi] = { jIdle E L P with op := 9, pol := false, listed := [lo, hi] } := by
  have h1 : (Jd.step g { jIdle E L P with op := 9, pol := false } 2 lo) = (true, { jIdle E L P with op := 9, pol := false, listed := [lo] }) := rfl
  have h2 : (Jd.step g { jIdle E L P with op := 9, pol := false, listed := [lo] } 2 hi) = (true, { jIdle E L P with op := 9, pol := false, listed := [lo, hi] }) := by
    have ha : (Jd.acc g { jIdle E L P with op := 9, pol := false, listed := [lo] } 2 hi) = (decide (lo + 256 * hi < g.rows_), { jIdle E L P with op := 9, pol := false, listed := [lo, hi] }) := by
      show (false || decide (lo + 256 * hi < g.rows_), _) = _
      rw [Bool.false_or]
      rfl
    unfold Jd.step
    rw [ha, decide_eq_true hr]
    rfl
  refine ⟨?_, ?_⟩
  · show (Jd.step g _ 2 lo).1 = true ∧ (Jd.step g (Jd.step g _ 2 lo).2 2 hi).1 = true ∧ True
    rw [h1]
    refine ⟨rfl, ?_, trivial⟩
    rw [h2]
  · show (Jd.step g (Jd.step g _ 2 lo).2 2 hi).2 = _
    rw [h1, h2]
def ersE (E : Nat → Bool) (b : Nat) (x : Nat) : Bool := if x ∈ [b] then true else E x
def ersL (L : Nat → Int) (b : Nat) (x : Nat) : Int := if x ∈ [b] then -1 else L x
def ersP (g : Gm) (P : Nat → Nat) (b : Nat) (r : Nat) : Nat := if r / g.s.toNat ∈ [b] then 0 else P r
theorem c_d0 (hb : spB g (lo + 256 * hi) = b) : Acc g 1 { jIdle E L P with op := 9, pol := false, listed := [lo, hi] } [208] ∧ stepsJ g 1 { jIdle E L P with op := 9, pol := false, listed := [lo, hi] } [208] = { jIdle (ersE E b) (ersL L b) (ersP g P b) with busy := true, pol := false, erases := [b] } := by
  subst hb
  exact ⟨⟨rfl, trivial⟩, rfl⟩
theorem c_70 : Acc g 1 { jIdle E L P with busy := true, pol := false, erases := [b] } [112] ∧ stepsJ g 1 { jIdle E L P with busy := true, pol := false, erases := [b] } [112] = { jIdle E L P with busy := true, erases := [b] } := ⟨⟨rfl, trivial⟩, rfl⟩
theorem c_80 : Acc g 4 { jIdle E L P with busy := true, erases := [b] } [128] ∧ stepsJ g 4 { jIdle E L P with busy := true, erases := [b] } [128] = { jIdle E L P with busy := true, erases := [b] } := ⟨⟨rfl, trivial⟩, rfl⟩
def spE (E : Nat → Bool) (b : Nat) (x : Nat) : Bool := if x ∈ [b] then false else E x
theorem c_ok : Acc g 4 { jIdle E L P with busy := true, erases := [b] } [224] ∧ stepsJ g 4 { jIdle E L P with busy := true, erases := [b] } [224] = jIdle E L P := ⟨⟨rfl, trivial⟩, rfl⟩
theorem c_bad : Acc g 4 { jIdle E L P with busy := true, erases := [b] } [225] ∧ stepsJ g 4 { jIdle E L P with busy := true, erases := [b] } [225] = jIdle (spE E b) L P := ⟨⟨rfl, trivial⟩, rfl⟩
theorem c_load : Acc g 1 (jIdle E L P) [128] ∧ stepsJ g 1 (jIdle E L P) [128] = { jIdle E L P with op := 8, pol := false } := ⟨⟨rfl, trivial⟩, rfl⟩
theorem c_four (hg : g.ok = true) (hr : lo + 256 * hi < g.rows_) : Acc g 2 { jIdle E L P with op := 8, pol := false } [0, 0, lo, hi] ∧ stepsJ g 2 { jIdle E L P with op := 8, pol := false } [0, 0, lo, hi] = { jIdle E L P with op := 8, pol := false, listed := [0, 0, lo, hi] } := by
  have hraw := (Gm.raw_nat hg).2.1
  have h1 : (Jd.step g { jIdle E L P with op := 8, pol := false } 2 0) = (true, { jIdle E L P with op := 8, pol := false, listed := [0] }) := rfl
  have h2 : (Jd.step g { jIdle E L P with op := 8, pol := false, listed := [0] } 2 0) = (true, { jIdle E L P with op := 8, pol := false, listed := [0, 0] }) := rfl
  have h3 : (Jd.step g { jIdle E L P with op := 8, pol := false, listed := [0, 0] } 2 lo) = (true, { jIdle E L P with op := 8, pol := false, listed := [0, 0, lo] }) := rfl
  have h4 : (Jd.step g { jIdle E L P with op := 8, pol := false, listed := [0, 0, lo] } 2 hi) = (true, { jIdle E L P with op := 8, pol := false, listed := [0, 0, lo, hi] }) := by
    have ha : (Jd.acc g { jIdle E L P with op := 8, pol := false, listed := [0, 0, lo] } 2 hi) = (decide (0 < g.raw.toNat) && decide (lo + 256 * hi < g.rows_), { jIdle E L P with op := 8, pol := false, listed := [0, 0, lo, hi] }) := rfl
    unfold Jd.step
    rw [ha, decide_eq_true hr, decide_eq_true (by omega)]
    rfl
  refine ⟨?_, ?_⟩
  · show (Jd.step g _ 2 0).1 = true ∧ (Jd.step g (Jd.step g _ 2 0).2 2 0).1 = true ∧ (Jd.step g (Jd.step g (Jd.step g _ 2 0).2 2 0).2 2 lo).1 = true ∧ (Jd.step g (Jd.step g (Jd.step g (Jd.step g _ 2 0).2 2 0).2 2 lo).2 2 hi).1 = true ∧ True
    rw [h1]
    refine ⟨rfl, ?_⟩
    rw [h2]
    refine ⟨rfl, ?_⟩
    rw [h3]
    refine ⟨rfl, ?_⟩
    rw [h4]
    exact ⟨rfl, trivial⟩
  · show (Jd.step g (Jd.step g (Jd.step g (Jd.step g _ 2 0).2 2 0).2 2 lo).2 2 hi).2 = _
    rw [h1, h2, h3, h4]
theorem c_write (hg : g.ok = true) (st : Nat) : Acc g 3 { jIdle E L P with op := 8, pol := false, listed := [0, 0, lo, hi] } [st] ∧ stepsJ g 3 { jIdle E L P with op := 8, pol := false, listed := [0, 0, lo, hi] } [st] = { jIdle E L P with op := 8, pol := false, listed := [0, 0, lo, hi], count := 1 } := by
  have hraw := (Gm.raw_nat hg).2.1
  have h1 : (Jd.step g { jIdle E L P with op := 8, pol := false, listed := [0, 0, lo, hi] } 3 st) = (true, { jIdle E L P with op := 8, pol := false, listed := [0, 0, lo, hi], count := 1 }) := by
    have ha : (Jd.acc g { jIdle E L P with op := 8, pol := false, listed := [0, 0, lo, hi] } 3 st) = (decide (0 + (0 + 1) ≤ g.raw.toNat), { jIdle E L P with op := 8, pol := false, listed := [0, 0, lo, hi], count := 1 }) := rfl
    unfold Jd.step
    rw [ha, decide_eq_true (by omega)]
    rfl
  refine ⟨?_, ?_⟩
  · show (Jd.step g _ 3 st).1 = true ∧ True
    rw [h1]
    exact ⟨rfl, trivial⟩
  · show (Jd.step g _ 3 st).2 = _
    rw [h1]
def prgL (L : Nat → Int) (b q : Nat) (x : Nat) : Int := if x = b then (q : Int) else L x
def prgP (g : Gm) (P : Nat → Nat) (b q : Nat) (r : Nat) : Nat := if r = b * g.s.toNat + q then P r + 1 else P r
theorem c_prog (hb : spB g (lo + 256 * hi) = b) (hq : spP g (lo + 256 * hi) = q) (hcan : Jd.can g { jIdle E L P with op := 8, pol := false, listed := [0, 0, lo, hi], count := 1 } (lo + 256 * hi) = true) :
    Acc g 1 { jIdle E L P with op := 8, pol := false, listed := [0, 0, lo, hi], count := 1 } [16, 112] ∧ stepsJ g 1 { jIdle E L P with op := 8, pol := false, listed := [0, 0, lo, hi], count := 1 } [16, 112] = { jIdle E (prgL L b q) (prgP g P b q) with busy := true } := by
  have h1 : (Jd.step g { jIdle E L P with op := 8, pol := false, listed := [0, 0, lo, hi], count := 1 } 1 16) = (true, { jIdle E (prgL L b q) (prgP g P b q) with busy := true, pol := false }) := by
    have ha : (Jd.acc g { jIdle E L P with op := 8, pol := false, listed := [0, 0, lo, hi], count := 1 } 1 16) = (true, { jIdle E (prgL L b q) (prgP g P b q) with busy := true, pol := false }) := by
      show Jd.endLoad g { jIdle E L P with op := 8, pol := false, listed := [0, 0, lo, hi], count := 1 } 16 = _
      unfold Jd.endLoad
      rw [if_neg (by show ¬ (4 < 4 ∨ 1 = 0); omega)]
      rw [show ({ jIdle E L P with op := 8, pol := false, listed := [0, 0, lo, hi], count := 1 } : Jd).addr2 2 = lo + 256 * hi from rfl, hcan, if_neg (by
        intro h
        rcases h with h | h
        · cases h
        · have : Jd.joins g { jIdle E L P with op := 8, pol := false, listed := [0, 0, lo, hi], count := 1 } (spB g (lo + 256 * hi)) (spP g (lo + 256 * hi)) = true := rfl
          rw [this] at h
          cases h), if_pos rfl, hb, hq]
      rfl
    unfold Jd.step
    rw [ha]
    rfl
  have h2 : (Jd.step g { jIdle E (prgL L b q) (prgP g P b q) with busy := true, pol := false } 1 112) = (true, { jIdle E (prgL L b q) (prgP g P b q) with busy := true }) := rfl
  refine ⟨?_, ?_⟩
  · show (Jd.step g _ 1 16).1 = true ∧ (Jd.step g (Jd.step g _ 1 16).2 1 112).1 = true ∧ True
    rw [h1]
    refine ⟨rfl, ?_, trivial⟩
    rw [h2]
  · show (Jd.step g (Jd.step g _ 1 16).2 1 112).2 = _
    rw [h1, h2]
theorem c_done : Acc g 4 { jIdle E L P with busy := true } [128, 224] ∧ stepsJ g 4 { jIdle E L P with busy := true } [128, 224] = jIdle E L P := ⟨⟨rfl, rfl, trivial⟩, rfl⟩
end
end Go.Proofs.Ytmgaenfimhdlpaa

/-
  What JudgeErases keeps in one; a judge's calls over it; Can of a state.
-/
namespace Go.Proofs.Ytmgaenfimhdlpaa
open Go.RowKit
set_option maxRecDepth 100000

section
variable {I K : Nat → Prop} {w w' : World} {p : Nat} {g : Gm} {j : Jd} {m : Jm}
/-- A judge's world of the law: its state, the box of its pointer, the box of the geometry. -/
def Ja (w0 : World) (cb : Nat) (I : Nat → Prop) (p : Nat) (g : Gm) (q : Nat) (j : Jd) (w : World) : Prop :=
  JH I w p g j ∧ Jf g q j ∧ CRow w cb 27 #[.pointer (some ⟨p, 0, none⟩)] ∧ GBox w w0.heap.size g ∧ Below w0.heap.size w0 w ∧ ∀ x, I x → w0.heap.size < x ∧ x ≠ cb
variable {w0 : World} {cb q : Nat}
theorem Ja.box (h : Ja w0 cb I p g q j w) : w.cell? ⟨cb, 0, none⟩ = some (.pointer (some ⟨p, 0, none⟩)) := h.2.2.1.cell_at 0 _ rfl
theorem Ja.geo (h : Ja w0 cb I p g q j w) : GBox w w0.heap.size g := h.2.2.2.1
theorem Ja.btw {j' : Jd} {q' : Nat} (h : Ja w0 cb I p g q j w) (hj : JH I w' p g j') (hf : Jf g q' j') (hb : Btw I w w') : Ja w0 cb I p g q' j' w' := by
  obtain ⟨_, _, c, y, b, hI⟩ := h
  refine ⟨hj, hf, c.btw hb (fun e => (hI _ e).2 rfl), jBox_btw y hb (fun e => Nat.lt_irrefl _ (hI _ e).1), b.trans (hb.below (S := w0.heap.size) (fun q hq => Nat.le_of_lt (hI q hq).1) b.size), hI⟩
theorem Ja.below (h : Ja w0 cb I p g q j w) (hb : Below w.heap.size w w') : Ja w0 cb I p g q j w' := by
  obtain ⟨hj, hf, c, y, b, hI⟩ := h
  exact ⟨hj.below hb, hf, c.below hb, y.below hb, below_step b hb, hI⟩
theorem Ja.at {q' : Nat} (h : Ja w0 cb I p g q j w) (e : q = q') : Ja w0 cb I p g q' j w := e ▸ h
theorem Ja.to {j' : Jd} (h : Ja w0 cb I p g q j w) (e : j = j') : Ja w0 cb I p g q j' w := e ▸ h
theorem jcl {n : Nat} {cs : Array Value} {j2 : Jd} (k : Int) (bs : List Nat) (hcs : cs = (U8 bs).toArray) (hn : bs.length = n) (h8 : ∀ x ∈ bs, x < 256) (hq : q + n ≤ 100000) (hs : Acc g k j bs ∧ stepsJ g k j bs = j2) (h : Ja w0 cb I p g q j w) :
    Calls Try.prog 19 #[.int .i64 k, .slice (some ⟨w.heap.size, 0, none⟩) n n, .pointer (some ⟨cb, 0, none⟩)] (w.alloc (.cells cs 5)) fun e w' => e = .returned (.bool true) ∧ Ja w0 cb I p g (q + n) j2 w' := by
  refine (jclo_new (I := I) k bs hcs hn h8 hq h.2.1 hs h.2.2.1 (fun e => (h.2.2.2.2.2 _ e).2 rfl) h.1).mono ?_
  rintro e w' ⟨h1, h2, h3, h4⟩
  exact ⟨h1, h.btw h2 h4 h3⟩
theorem jbz (h : Ja w0 cb I p g q j w) : Calls Try.prog 16 #[.pointer (some ⟨p, 0, none⟩)] w fun e w' => e = .returned (.bool j.busy) ∧ Ja w0 cb I p g q j w' := by
  refine (jBusy h.1).mono ?_
  rintro e w' ⟨h1, h2⟩
  exact ⟨h1, h.below h2⟩
theorem jcn (x : Nat) {v : Bool} (hv : j.can g x = v) (h : Ja w0 cb I p g q j w) : Calls Try.prog 17 #[.pointer (some ⟨p, 0, none⟩), .int .i64 (x : Int)] w (Gives (.bool v) w) := by
  rw [← hv]
  exact jCanN x h.1
/-- The pointer in a box of its own. -/
theorem Ja.start {W W1 : World} (hs : GBox W w0.heap.size g) (hb : Below w0.heap.size w0 W) (hj : JH (fun k => W.heap.size ≤ k) W1 p g Jd.new) (h1 : Below W.heap.size W W1) :
    ∃ I, Ja w0 W1.heap.size I p g 0 Jd.new (W1.alloc (.cells #[.pointer (some ⟨p, 0, none⟩)] 27)) := by
  have N := below_new W1 (.cells #[.pointer (some ⟨p, 0, none⟩)] 27)
  have C := CRow.new W1 #[.pointer (some ⟨p, 0, none⟩)] 27
  have J1 := hj.shrink N
  have e : (W1.alloc (.cells #[.pointer (some ⟨p, 0, none⟩)] 27)).heap.size = W1.heap.size + 1 := by simp
  have hw : w0.heap.size < W.heap.size := hs.1
  have hw1 : W.heap.size ≤ W1.heap.size := h1.size
  refine ⟨_, J1, Jf.new g, C, (hs.below h1).below N, below_step (below_step hb h1) N, fun x hx => ?_⟩
  have h2 := hx.2
  rw [e] at h2
  have h3 : W.heap.size ≤ x := hx.1
  omega
theorem spB_at {b r : Nat} (hb : b < g.b.toNat) (hr : r < g.s.toNat) : b * g.s.toNat + r < g.rows_ ∧ spB g (b * g.s.toNat + r) = b ∧ spP g (b * g.s.toNat + r) = r := by
  have h1 : b * g.s.toNat + r < g.rows_ := by
    have h2 : (b + 1) * g.s.toNat ≤ g.b.toNat * g.s.toNat := Nat.mul_le_mul_right _ (by omega)
    rw [Nat.succ_mul] at h2
    show b * g.s.toNat + r < g.b.toNat * g.s.toNat
    omega
  refine ⟨h1, ?_, ?_⟩
  · unfold spB
    rw [if_pos h1, Nat.mul_comm, Nat.mul_add_div (by omega), Nat.div_eq_of_lt hr, Nat.add_zero]
  · unfold spP
    rw [if_pos h1, Nat.mul_comm, Nat.mul_add_mod, Nat.mod_eq_of_lt hr]
theorem can_at {b r : Nat} (hb : b < g.b.toNat) (hr : r < g.s.toNat) : Jd.can g j (b * g.s.toNat + r) = (j.er b && decide (j.la b ≤ (r : Int)) && decide ((j.pr (b * g.s.toNat + r) : Int) < g.q)) := by
  obtain ⟨h1, h2, h3⟩ := spB_at hb hr
  unfold Jd.can
  rw [h2, h3, decide_eq_true h1, Bool.true_and]
/-- What stands behind an erase, and behind each program. -/
structure Ers (g : Gm) (b x : Nat) (E : Nat → Bool) (L : Nat → Int) (P : Nat → Nat) : Prop where
  e : E b = true
  l : L b < (x : Int)
  p : ∀ r, x ≤ r → P (b * g.s.toNat + r) = 0
theorem Ers.start (b : Nat) : Ers g b 0 (ersE (fun _ => false) b) (ersL (fun _ => -1) b) (ersP g (fun _ => 0) b) := by
  refine ⟨by simp [ersE], by simp [ersL], fun r _ => by simp [ersP]⟩
theorem Ers.can {b x r : Nat} {E : Nat → Bool} {L : Nat → Int} {P : Nat → Nat} (h : Ers g b x E L P) (ho : g.ok = true) (hb : b < g.b.toNat) (hr : r < g.s.toNat) (hx : x ≤ r) : Jd.can g (jIdle E L P) (b * g.s.toNat + r) = true := by
  have hbd := Gm.bounds_of ho
  rw [can_at hb hr]
  show (E b && decide (L b ≤ (r : Int)) && decide ((P (b * g.s.toNat + r) : Int) < g.q)) = true
  have h1 := h.l
  rw [h.e, h.p r hx, decide_eq_true (show L b ≤ (r : Int) by omega), decide_eq_true (by omega)]
  rfl
theorem Ers.bad {b r : Nat} {E : Nat → Bool} {L : Nat → Int} {P : Nat → Nat} (hb : b < g.b.toNat) (hr : r < g.s.toNat) : Jd.can g (jIdle (spE E b) L P) (b * g.s.toNat + r) = false := by
  rw [can_at hb hr]
  show (spE E b b && _ && _) = false
  have : spE E b b = false := by simp [spE]
  rw [this]
  rfl
theorem Ers.next {b x : Nat} {E : Nat → Bool} {L : Nat → Int} {P : Nat → Nat} (h : Ers g b x E L P) : Ers g b (x + 1) E (prgL L b x) (prgP g P b x) := by
  refine ⟨h.e, by unfold prgL; rw [if_pos rfl]; omega, fun r hr => ?_⟩
  unfold prgP
  rw [if_neg (by omega)]
  exact h.p r (by omega)
theorem Ers.below {b x r : Nat} {E : Nat → Bool} {L : Nat → Int} {P : Nat → Nat} (hb : b < g.b.toNat) (hr : r < g.s.toNat) (hx : r < x) : Jd.can g (jIdle E (prgL L b x) (prgP g P b x)) (b * g.s.toNat + r) = false := by
  rw [can_at hb hr]
  show (E b && decide (prgL L b x b ≤ (r : Int)) && _) = false
  have : prgL L b x b = (x : Int) := by unfold prgL; rw [if_pos rfl]
  rw [this, decide_eq_false (by omega), Bool.and_false]
  rfl
theorem Ers.self {b x : Nat} {E : Nat → Bool} {L : Nat → Int} {P : Nat → Nat} (h : Ers g b x E L P) (hb : b < g.b.toNat) (hr : x < g.s.toNat) : Jd.can g (jIdle E (prgL L b x) (prgP g P b x)) (b * g.s.toNat + x) = decide (1 < g.q) := by
  rw [can_at hb hr]
  show (E b && decide (prgL L b x b ≤ (x : Int)) && decide ((prgP g P b x (b * g.s.toNat + x) : Int) < g.q)) = _
  have h1 : prgL L b x b = (x : Int) := by unfold prgL; rw [if_pos rfl]
  have h2 : prgP g P b x (b * g.s.toNat + x) = 1 := by unfold prgP; rw [if_pos rfl, h.p x (Nat.le_refl _)]
  rw [h1, h2, h.e, decide_eq_true (Int.le_refl _)]
  rfl
end
end Go.Proofs.Ytmgaenfimhdlpaa

/-
  The walk of JudgeErases.
-/
namespace Go.Proofs.Ytmgaenfimhdlpaa
open Go.RowKit
set_option maxRecDepth 100000

section
variable {I K : Nat → Prop} {w w' : World} {p : Nat} {g : Gm} {j : Jd} {m : Jm}
theorem AND1 (b t : Nat) (h : b < 256) (ht : b % 2 = t) : bits .and .u8 (b : Int) 1 = (t : Int) := by
  have : ∀ x : Fin 256, bits .and .u8 ((x.val : Nat) : Int) 1 = ((x.val % 2 : Nat) : Int) := by decide +kernel
  rw [this ⟨b, h⟩, ← ht]
set_option maxRecDepth 1000000 in
set_option maxHeartbeats 8000000 in
theorem JudgeErases_walk (g : Gm) (bl st : Nat) (hbl : bl < 256) (hst : st < 256) (w : World) :
    Calls Try.prog 5 #[g.val, .int .u8 (bl : Int), .int .u8 (st : Int)] w (Gives (.bool true) w) := by
  have HS := Lib.hid (fun W => jSmall_any g W)
  have HBL := Lib.hid hbl
  have HST := Lib.hid hst
  have B1 := Lib.hid (below_new w (.cells #[.int .i64 g.p, .int .i64 g.b, .int .i64 g.s, .int .i64 g.c, .int .i64 g.k, .int .i64 g.r, .int .i64 g.q] 23))
  have Y1 := Lib.hid (GBox.new w g 23)
  clear hbl hst
  simp only [Gm.val] at HS ⊢
  go_enter Try.func5, Try.ntmps5
  go_wp2_with fail
  refine (awake15_any _).mono ?_
  rintro _ w2 ⟨rfl, hB⟩
  have B2 := Lib.hid (below_step B1.out hB)
  have Y2 := Lib.hid (Y1.out.below hB)
  clear hB B1 Y1
  obtain ⟨_, g0, g1, g2, g3, g4, g5, g6⟩ := Y2.out
  go_wp2_with fail
  clear g0 g1 g2 g3 g4 g5 g6
  obtain ⟨v, hv, hc⟩ := HS.out w2
  refine hc.mono ?_
  rintro _ w3 ⟨rfl, hB⟩
  have B3 := Lib.hid (below_step B2.out hB)
  have Y3 := Lib.hid (Y2.out.below hB)
  clear hB B2 Y2 HS hc
  cases v
  · go_wp2
    go_ret
    exact ⟨rfl, B3.out⟩
  have hsm := hv.1 rfl
  have HRG := Lib.hid (fun W => RefRight_any g W)
  by_cases hok : g.ok = true
  rotate_left
  · have hno : g.ok = false := by simpa using hok
    rw [hno] at HRG
    simp only [Gm.val] at HRG
    clear hv hsm hok hno
    obtain ⟨_, g0, g1, g2, g3, g4, g5, g6⟩ := Y3.out
    go_wp2_with fail
    clear g0 g1 g2 g3 g4 g5 g6
    refine (HRG.out _).mono ?_
    rintro _ w4 ⟨rfl, hB⟩
    have B4 := Lib.hid (below_step B3.out hB)
    clear hB
    go_wp2
    go_ret
    exact ⟨rfl, B4.out⟩
  have HOK := Lib.hid hok
  rw [hok] at HRG
  have HNW := Lib.hid (fun W => jNew g hok W)
  simp only [Gm.val] at HRG HNW
  have hbd := Gm.bounds_of hok
  have hb16 : g.b ≤ 16 := hsm.2.1
  have hs12 : g.s ≤ 12 := hsm.2.2
  clear hok hv hsm
  obtain ⟨_, g0, g1, g2, g3, g4, g5, g6⟩ := Y3.out
  go_wp2_with fail
  clear g0 g1 g2 g3 g4 g5 g6
  refine (HRG.out _).mono ?_
  rintro _ w4 ⟨rfl, hB⟩
  have B4 := Lib.hid (below_step B3.out hB)
  have Y4 := Lib.hid (Y3.out.below hB)
  clear hB B3 Y3 HRG
  obtain ⟨_, g0, g1, g2, g3, g4, g5, g6⟩ := Y4.out
  go_wp2_with fail
  clear g0 g1 g2 g3 g4 g5 g6
  refine (HNW.out _).mono ?_
  rintro _ w5 ⟨p, rfl, hB, hJ⟩
  obtain ⟨I, hA⟩ := Ja.start Y4.out B4.out hJ hB
  obtain ⟨cb, hcb⟩ : ∃ cb, cb = w5.heap.size := ⟨_, rfl⟩
  rw [← hcb] at hA
  have A5 := Lib.hid hA
  have HCB := Lib.hid hcb
  have y0 := (CRow.new w5 #[.pointer none] 27).cell_at 0 _ rfl
  have f0 := (CRow.new w5 #[.pointer none] 27).frozen 0
  clear hB hJ hA HNW B4 Y4 hcb
  obtain ⟨b, hb⟩ : ∃ b, b = bl % g.b.toNat := ⟨_, rfl⟩
  have hbb : b < g.b.toNat := by rw [hb]; exact Nat.mod_lt _ (by omega)
  have HB := Lib.hid hbb
  obtain ⟨R, hR⟩ : ∃ R, R = b * g.s.toNat := ⟨_, rfl⟩
  have HR := Lib.hid hR
  have hR2 : R + 12 ≤ 192 ∧ 4 ≤ g.s.toNat ∧ g.s = (g.s.toNat : Int) := by
    have h1 : b * g.s.toNat ≤ 15 * 12 := Nat.mul_le_mul (by omega) (by omega)
    refine ⟨by omega, by omega, by omega⟩
  have HRW := Lib.hid hR2
  have HS12 := Lib.hid (show g.s.toNat ≤ 12 ∧ 4 ≤ g.s.toNat ∧ g.s = (g.s.toNat : Int) by omega)
  have m1 : IntKind.i64.wrap (bl : Int) = (bl : Int) := IntWalk.i64_in _ (by have := HBL.out; omega)
  have m2 : (bl : Int).tmod g.b = (b : Int) := by
    rw [Int.tmod_eq_emod_of_nonneg (by omega), hb, show g.b = ((g.b.toNat : Nat) : Int) by omega]
    push_cast
    rfl
  have m3 : (bl : Int) % g.b = (b : Int) := by rw [hb, show g.b = ((g.b.toNat : Nat) : Int) by omega]; push_cast; rfl
  have m4 : IntKind.i64.wrap (b : Int) = (b : Int) := IntWalk.i64_in _ (by omega)
  have m5 : (b : Int) * g.s = (R : Int) := by rw [hR, hR2.2.2]; push_cast; rfl
  have m6 : IntKind.i64.wrap (R : Int) = (R : Int) := IntWalk.i64_in _ (by omega)
  have m7 : IntKind.u8.wrap (R : Int) = (R : Int) := IntWalk.u8_in _ (by omega)
  have m8 : (R : Int) / 256 % 256 = 0 := by omega
  have m9 : ¬ (g.b = 0) := by omega
  clear hb hbb hR hR2 hbd hb16 hs12
  have z0 := A5.out.box
  obtain ⟨_, g0, g1, g2, g3, g4, g5, g6⟩ := A5.out.geo
  rw [HCB.out] at z0
  go_wp2_with fail
  clear z0 y0 f0 g0 g1 g2 g3 g4 g5 g6
  rw [← HCB.out]
  obtain ⟨wa, hwa⟩ : ∃ wa, wa = w5.alloc (.cells #[.pointer (some ⟨p, 0, none⟩)] 27) := ⟨_, rfl⟩
  have hsz : cb + 1 = wa.heap.size := by rw [hwa, HCB.out]; simp
  rw [← hwa] at A5
  rw [hsz, ← hwa]
  clear HCB hwa hsz
  refine (jcl (n := 2) 1 [255, 112] rfl rfl (by decide) (by simp) c_ff A5.out).mono ?_
  rintro _ w6 ⟨rfl, hA⟩
  have A6 := Lib.hid hA
  clear hA A5
  have z0 := A6.out.box
  obtain ⟨_, g0, g1, g2, g3, g4, g5, g6⟩ := A6.out.geo
  go_wp2_with fail
  clear z0 g0 g1 g2 g3 g4 g5 g6
  refine (jcl (n := 1) 4 [224] rfl rfl (by decide) (by simp <;> omega) c_e0 A6.out).mono ?_
  rintro _ w7 ⟨rfl, hA⟩
  have A7 := Lib.hid hA
  clear hA A6
  have z0 := A7.out.box
  obtain ⟨_, g0, g1, g2, g3, g4, g5, g6⟩ := A7.out.geo
  go_wp2_with fail
  clear z0 g0 g1 g2 g3 g4 g5 g6
  refine (jcl (n := 1) 1 [96] rfl rfl (by decide) (by simp <;> omega) c_60 A7.out).mono ?_
  rintro _ w8 ⟨rfl, hA⟩
  have A8 := Lib.hid hA
  clear hA A7
  have z0 := A8.out.box
  obtain ⟨_, g0, g1, g2, g3, g4, g5, g6⟩ := A8.out.geo
  go_wp2_with fail
  clear z0 g0 g1 g2 g3 g4 g5 g6
  refine (jcl (n := 2) 2 [R, 0] rfl rfl (by have := HRW.out; simp; omega) (by simp <;> omega) (c_row (by have := (spB_at (g := g) HB.out (r := 0) (by have := HS12.out; omega)).1; rw [← HR.out] at this; omega)) A8.out).mono ?_
  rintro _ w9 ⟨rfl, hA⟩
  have A9 := Lib.hid hA
  clear hA A8
  have z0 := A9.out.box
  obtain ⟨_, g0, g1, g2, g3, g4, g5, g6⟩ := A9.out.geo
  go_wp2_with fail
  clear z0 g0 g1 g2 g3 g4 g5 g6
  refine (jcl (n := 1) 1 [208] rfl rfl (by decide) (by simp <;> omega) (c_d0 (b := b) (by have := (spB_at (g := g) HB.out (r := 0) (by have := HS12.out; omega)).2.1; rw [← HR.out] at this; exact this)) A9.out).mono ?_
  rintro _ w10 ⟨rfl, hA⟩
  have A10 := Lib.hid hA
  clear hA A9
  have z0 := A10.out.box
  obtain ⟨_, g0, g1, g2, g3, g4, g5, g6⟩ := A10.out.geo
  go_wp2_with fail
  clear z0 g0 g1 g2 g3 g4 g5 g6
  refine (jbz A10.out).mono ?_
  rintro _ w11 ⟨rfl, hA⟩
  have A11 := Lib.hid hA
  clear hA A10
  have z0 := A11.out.box
  obtain ⟨_, g0, g1, g2, g3, g4, g5, g6⟩ := A11.out.geo
  go_wp2_with fail
  clear z0 g0 g1 g2 g3 g4 g5 g6
  refine (jcl (n := 1) 1 [112] rfl rfl (by decide) (by simp <;> omega) c_70 A11.out).mono ?_
  rintro _ w12 ⟨rfl, hA⟩
  have A12 := Lib.hid hA
  clear hA A11
  have z0 := A12.out.box
  obtain ⟨_, g0, g1, g2, g3, g4, g5, g6⟩ := A12.out.geo
  go_wp2_with fail
  clear z0 g0 g1 g2 g3 g4 g5 g6
  refine (jcl (n := 1) 4 [128] rfl rfl (by decide) (by simp <;> omega) c_80 A12.out).mono ?_
  rintro _ w13 ⟨rfl, hA⟩
  have A13 := Lib.hid hA
  clear hA A12
  have z0 := A13.out.box
  obtain ⟨_, g0, g1, g2, g3, g4, g5, g6⟩ := A13.out.geo
  go_wp2_with fail
  clear z0 g0 g1 g2 g3 g4 g5 g6
  refine (jbz A13.out).mono ?_
  rintro _ w14 ⟨rfl, hA⟩
  have A14 := Lib.hid hA
  clear hA A13
  clear m1 m2 m3 m4 m5 m7 m8 m9
  rcases (show st % 2 = 0 ∨ st % 2 = 1 by omega) with ht | ht
  · have k1 : bits .and .u8 (st : Int) 1 = 0 := AND1 st 0 HST.out ht
    have k2 : bits .or .u8 224 0 = 224 := by decide +kernel
    clear ht
    have z0 := A14.out.box
    obtain ⟨_, g0, g1, g2, g3, g4, g5, g6⟩ := A14.out.geo
    go_wp2_with fail
    clear z0 g0 g1 g2 g3 g4 g5 g6
    refine (jcl (n := 1) 4 [224] rfl rfl (by decide) (by simp <;> omega) c_ok A14.out).mono ?_
    rintro _ w15 ⟨rfl, hA⟩
    have A15 := Lib.hid hA
    clear hA A14
    have z0 := A15.out.box
    obtain ⟨_, g0, g1, g2, g3, g4, g5, g6⟩ := A15.out.geo
    go_wp2_with fail
    clear z0 g0 g1 g2 g3 g4 g5 g6
    refine (jbz A15.out).mono ?_
    rintro _ w16 ⟨rfl, hA⟩
    have A16 := Lib.hid hA
    clear hA A15
    have z0 := A16.out.box
    obtain ⟨_, g0, g1, g2, g3, g4, g5, g6⟩ := A16.out.geo
    go_wp2
    clear z0 g0 g1 g2 g3 g4 g5 g6
    go_loopw [6, 13, 107] (fun _ _ i wr => ∃ x : Nat, x ≤ g.s.toNat ∧ i = .int .i64 (x : Int) ∧ Hid (Ja w cb I p g 10 (jIdle (ersE (fun _ => false) b) (ersL (fun _ => -1) b) (ersP g (fun _ => 0) b)) wr)) (fun _ _ i _ => g.s.toNat - (intOf i).toNat)
    case atStart => exact ⟨0, Nat.zero_le _, rfl, A16⟩
    case round =>
      obtain ⟨x, hx, rfl, A15⟩ := hrel
      rename World => w15
      clear A16
      have hs12 := HS12.out
      by_cases hlt : x < g.s.toNat
      · have d1 : decide ((x : Int) < g.s) = true := decide_eq_true (by omega)
        have hx12 : x < 12 := by omega
        have WX := Lib.hid (show wrap64 ((x : Int) + 1) = (x : Int) + 1 from IntWalk.wrap64_in _ (by omega))
        have hR := HRW.out
        obtain ⟨kk, hkk⟩ : ∃ kk, kk = R + x := ⟨_, rfl⟩
        have e1 : IntKind.i64.wrap ((R : Int) + (x : Int)) = (kk : Int) := by rw [IntWalk.i64_in _ (by omega)]; omega
        have HKK := Lib.hid hkk
        clear hkk hR hs12
        have z0 := A15.out.box
        obtain ⟨_, g0, g1, g2, g3, g4, g5, g6⟩ := A15.out.geo
        go_wp2_with fail
        clear z0 g0 g1 g2 g3 g4 g5 g6
        refine (jcn kk (v := true) (by rw [HKK.out, HR.out]; exact (Ers.start b).can HOK.out HB.out hlt (Nat.zero_le _)) A15.out).mono ?_
        rintro _ w16 ⟨rfl, hb⟩
        have A16 := Lib.hid (A15.out.below hb)
        clear hb A15
        go_wp2
        have hs12 := HS12.out
        refine ⟨⟨_, _, _, _, _, _, _, _, _, _, _, _, _, _, _, ?rel1, rfl⟩, ?measure1⟩
        case rel1 => exact ⟨x + 1, by omega, by go_num, A16⟩
        case measure1 => simp [intOf]; omega
      · have d1 : decide ((x : Int) < g.s) = false := decide_eq_false (by omega)
        have h0s := Lib.hid (show 0 < g.s.toNat by omega)
        clear hs12 hlt hx
        have z0 := A15.out.box
        obtain ⟨_, g0, g1, g2, g3, g4, g5, g6⟩ := A15.out.geo
        go_wp2
        clear z0 g0 g1 g2 g3 g4 g5 g6
        go_loopw [6, 14, 15, 16, 129] (fun _ _ _ _ i wr => ∃ (x : Nat) (E : Nat → Bool) (Lb : Nat → Int) (P : Nat → Nat), x ≤ g.s.toNat ∧ i = .int .i64 (x : Int) ∧ Hid (Ers g b x E Lb P) ∧ Hid (Ja w cb I p g (10 + 10 * x) (jIdle E Lb P) wr)) (fun _ _ _ _ i _ => g.s.toNat - (intOf i).toNat)
        case atStart => exact ⟨0, _, _, _, Nat.zero_le _, rfl, Lib.hid (Ers.start b), A15⟩
        case round =>
          obtain ⟨x, E, Lb, P, hx, rfl, HE, A20⟩ := hrel
          rename World => w20
          clear A15
          have hs12 := HS12.out
          by_cases hlt : x < g.s.toNat
          · have d1 : decide ((x : Int) < g.s) = true := decide_eq_true (by omega)
            have hx12 : x < 12 := by omega
            have WX := Lib.hid (show wrap64 ((x : Int) + 1) = (x : Int) + 1 from IntWalk.wrap64_in _ (by omega))
            have hR := HRW.out
            have HLT := Lib.hid hlt
            obtain ⟨kk, hkk⟩ : ∃ kk, kk = R + x := ⟨_, rfl⟩
            have e1 : IntKind.i64.wrap ((R : Int) + (x : Int)) = (kk : Int) := by rw [IntWalk.i64_in _ (by omega)]; omega
            have e2 : IntKind.u8.wrap (kk : Int) = (kk : Int) := IntWalk.u8_in _ (by omega)
            have e3 : (kk : Int) / 256 % 256 = 0 := by omega
            have HKK := Lib.hid (show kk = b * g.s.toNat + x by rw [hkk, HR.out])
            have HK8 := Lib.hid (show kk < 256 by omega)
            clear hkk
            have hrow : kk + 256 * 0 < g.rows_ := by rw [Nat.mul_zero, Nat.add_zero, HKK.out]; exact (spB_at HB.out hlt).1
            have HROW := Lib.hid hrow
            have HSB := Lib.hid (show spB g (kk + 256 * 0) = b by rw [Nat.mul_zero, Nat.add_zero, HKK.out]; exact (spB_at HB.out hlt).2.1)
            have HSP := Lib.hid (show spP g (kk + 256 * 0) = x by rw [Nat.mul_zero, Nat.add_zero, HKK.out]; exact (spB_at HB.out hlt).2.2)
            have HCAN := Lib.hid (show Jd.can g { jIdle E Lb P with op := 8, pol := false, listed := [0, 0, kk, 0], count := 1 } (kk + 256 * 0) = true by
              rw [Nat.mul_zero, Nat.add_zero, HKK.out]
              exact HE.out.can HOK.out HB.out hlt (Nat.le_refl _))
            clear hrow hR hs12
            have z0 := A20.out.box
            obtain ⟨_, g0, g1, g2, g3, g4, g5, g6⟩ := A20.out.geo
            go_wp2_with fail
            clear z0 g0 g1 g2 g3 g4 g5 g6
            refine (jcl (n := 1) 1 [128] rfl rfl (by decide) (by simp <;> omega) c_load A20.out).mono ?_
            rintro _ w21 ⟨rfl, hA⟩
            have A21 := Lib.hid hA
            clear hA A20
            have z0 := A21.out.box
            obtain ⟨_, g0, g1, g2, g3, g4, g5, g6⟩ := A21.out.geo
            go_wp2_with fail
            clear z0 g0 g1 g2 g3 g4 g5 g6
            refine (jcl (n := 4) 2 [0, 0, kk, 0] rfl rfl (by have := HK8.out; simp; omega) (by simp <;> omega) (c_four HOK.out HROW.out) A21.out).mono ?_
            rintro _ w22 ⟨rfl, hA⟩
            have A22 := Lib.hid hA
            clear hA A21
            have z0 := A22.out.box
            obtain ⟨_, g0, g1, g2, g3, g4, g5, g6⟩ := A22.out.geo
            go_wp2_with fail
            clear z0 g0 g1 g2 g3 g4 g5 g6
            refine (jcl (n := 1) 3 [st] rfl rfl (by have := HST.out; simp; omega) (by simp <;> omega) (c_write HOK.out st) A22.out).mono ?_
            rintro _ w23 ⟨rfl, hA⟩
            have A23 := Lib.hid hA
            clear hA A22
            have z0 := A23.out.box
            obtain ⟨_, g0, g1, g2, g3, g4, g5, g6⟩ := A23.out.geo
            go_wp2_with fail
            clear z0 g0 g1 g2 g3 g4 g5 g6
            refine (jcl (n := 2) 1 [16, 112] rfl rfl (by decide) (by simp <;> omega) (c_prog HSB.out HSP.out HCAN.out) A23.out).mono ?_
            rintro _ w24 ⟨rfl, hA⟩
            have A24 := Lib.hid hA
            clear hA A23
            have z0 := A24.out.box
            obtain ⟨_, g0, g1, g2, g3, g4, g5, g6⟩ := A24.out.geo
            go_wp2_with fail
            clear z0 g0 g1 g2 g3 g4 g5 g6
            refine (jcl (n := 2) 4 [128, 224] rfl rfl (by decide) (by simp <;> omega) c_done A24.out).mono ?_
            rintro _ w25 ⟨rfl, hA⟩
            have A25 := Lib.hid hA
            clear hA A24
            clear HROW HSB HSP HCAN
            have z0 := A25.out.box
            obtain ⟨_, g0, g1, g2, g3, g4, g5, g6⟩ := A25.out.geo
            go_wp2
            clear z0 g0 g1 g2 g3 g4 g5 g6
            go_loopw [6, 16, 170] (fun _ _ i wr => ∃ y : Nat, y ≤ x ∧ i = .int .i64 (y : Int) ∧ Hid (Ja w cb I p g (10 + 10 * x + 1 + 4 + 1 + 2 + 2) (jIdle E (prgL Lb b x) (prgP g P b x)) wr)) (fun _ _ i _ => x - (intOf i).toNat)
            case atStart => exact ⟨0, Nat.zero_le _, rfl, A25⟩
            case round =>
              obtain ⟨y, hy, rfl, A30⟩ := hrel
              rename World => w30
              clear A25
              by_cases hly : y < x
              · have d2 : decide ((y : Int) < (x : Int)) = true := decide_eq_true (by omega)
                have WY := Lib.hid (show wrap64 ((y : Int) + 1) = (y : Int) + 1 from IntWalk.wrap64_in _ (by omega))
                obtain ⟨kj, hkj⟩ : ∃ kj, kj = R + y := ⟨_, rfl⟩
                have e4 : IntKind.i64.wrap ((R : Int) + (y : Int)) = (kj : Int) := by have := HRW.out; have := HS12.out; rw [IntWalk.i64_in _ (by omega)]; omega
                have HKJ := Lib.hid hkj
                clear hkj
                have z0 := A30.out.box
                obtain ⟨_, g0, g1, g2, g3, g4, g5, g6⟩ := A30.out.geo
                go_wp2_with fail
                clear z0 g0 g1 g2 g3 g4 g5 g6
                refine (jcn kj (v := false) (by rw [HKJ.out, HR.out]; exact Ers.below HB.out (by omega) hly) A30.out).mono ?_
                rintro _ w31 ⟨rfl, hb⟩
                have A31 := Lib.hid (A30.out.below hb)
                clear hb A30
                go_wp2
                have hs12 := HS12.out
                refine ⟨?rel2, ?measure2⟩
                case rel2 => exact ⟨y + 1, by omega, by go_num, A31⟩
                case measure2 => simp [intOf]; omega
              · obtain rfl : y = x := by omega
                have d2 : decide ((y : Int) < (y : Int)) = false := decide_eq_false (by omega)
                obtain ⟨v, hv⟩ : ∃ v, v = decide (1 < g.q) := ⟨_, rfl⟩
                have CSELF := Lib.hid (show Jd.can g (jIdle E (prgL Lb b y) (prgP g P b y)) kk = v by rw [HKK.out, hv]; exact HE.out.self HB.out HLT.out)
                have d3 : decide (1 < g.q) = v := hv.symm
                have d4 : decide (g.q > 1) = v := hv.symm
                clear hv
                go_wp2
                refine wp_region_noPanic ?_
                refine wp_region_held_drew (S := fun w' => Below w30.heap.size w30 w') (by kernel_rfl) ((Below.refl _ _).drew) (fun C9 => ?_)
                refine wpAnyH_take (i := 0) (oi := { dst := some 179, op := Op.load 27 (Operand.tmp 7), type := 27, pos := "outright.go:53", after := #[], guard := none }) (v := ?_) rfl (by kernel_rfl) (by kernel_rfl) (by kernel_rfl) (fun _ _ _ h => h) (Or.inl ⟨by rfl, ?_⟩) C9 ?_
                rotate_left
                · intro W' hSw
                  have z0 := (A30.out.below hSw).box
                  clear hSw
                  go_simp <;> with_reducible rfl
                try simp only [Act.put, List.setIfInBounds_toArray, List.set_cons_zero, List.set_cons_succ]
                refine wpAnyH_take (i := 1) (oi := { dst := some 180, op := Op.move (Operand.tmp 15), type := 3, pos := "outright.go:53", after := #[], guard := none }) (v := ?_) rfl (by kernel_rfl) (by kernel_rfl) (by kernel_rfl) (fun _ _ _ h => h) (Or.inl ⟨by rfl, ?_⟩) C9 ?_
                rotate_left
                · intro W' hSw
                  clear hSw
                  go_simp <;> with_reducible rfl
                try simp only [Act.put, List.setIfInBounds_toArray, List.set_cons_zero, List.set_cons_succ]
                refine wpAnyH_take (i := 3) (oi := { dst := some 182, op := Op.fieldAddr 23 (Operand.tmp 3) 6, type := 0, pos := "outright.go:53", after := #[], guard := none }) (v := ?_) rfl (by kernel_rfl) (by kernel_rfl) (by kernel_rfl) (fun _ _ _ h => h) (Or.inl ⟨by rfl, ?_⟩) C9 ?_
                rotate_left
                · intro W' hSw
                  clear hSw
                  go_simp <;> with_reducible rfl
                try simp only [Act.put, List.setIfInBounds_toArray, List.set_cons_zero, List.set_cons_succ]
                refine wpAnyH_take (i := 4) (oi := { dst := some 183, op := Op.load 3 (Operand.tmp 182), type := 3, pos := "outright.go:53", after := #[{ on := 3, ground := Ground.data }], guard := none }) (v := ?_) rfl (by kernel_rfl) (by kernel_rfl) (by kernel_rfl) (fun _ _ _ h => h) (Or.inl ⟨by rfl, ?_⟩) C9 ?_
                rotate_left
                · intro W' hSw
                  obtain ⟨_, y0, y1, y2, y3, y4, y5, y6⟩ := (A30.out.below hSw).geo
                  clear hSw
                  go_simp <;> with_reducible rfl
                try simp only [Act.put, List.setIfInBounds_toArray, List.set_cons_zero, List.set_cons_succ]
                refine wpAnyH_take (i := 5) (oi := { dst := some 184, op := Op.binOp BinOp.gtr 3 (Operand.tmp 183) (Operand.const (Value.int IntKind.i64 1)) 3, type := 4, pos := "outright.go:53", after := #[{ on := 4, ground := Ground.data }], guard := none }) (v := ?_) rfl (by kernel_rfl) (by kernel_rfl) (by kernel_rfl) (fun _ _ _ h => h) (Or.inl ⟨by rfl, ?_⟩) C9 ?_
                rotate_left
                · intro W' hSw
                  clear hSw
                  go_simp <;> with_reducible rfl
                try simp only [Act.put, List.setIfInBounds_toArray, List.set_cons_zero, List.set_cons_succ]
                refine wpAnyH_ready (rs := [2]) (by kernel_rfl) (by simp) ?_
                refine AllReadyH.cons (o := { dst := some 181, op := Op.call { callee := Callee.value (Operand.func 17), args := #[Operand.tmp 179, Operand.tmp 180], argTypes := #[27, 3] }, type := 4, pos := "outright.go:53", after := #[{ on := 0, ground := Ground.data }, { on := 1, ground := Ground.data }], guard := none }) rfl (fun K hK => ?_) AllReadyH.nil
                go_simp
                refine (jcn kk CSELF.out (A30.out.below C9)).mono ?_
                rintro _ w39 ⟨rfl, hb⟩
                have BD := Lib.hid (show Below w30.heap.size w30 w39 from C9.trans (hb.mono C9.size))
                clear hb
                go_wp2_with fail
                refine hK.out _ _ BD.out (fun C10 => ?_)
                clear hK K
                try simp only [Act.put, List.setIfInBounds_toArray, List.set_cons_zero, List.set_cons_succ]
                refine wpAnyH_take (i := 6) (oi := { dst := some 185, op := Op.binOp BinOp.neq 4 (Operand.tmp 181) (Operand.tmp 184) 4, type := 4, pos := "outright.go:53", after := #[{ on := 2, ground := Ground.data }, { on := 5, ground := Ground.data }], guard := none }) (v := ?_) rfl (by kernel_rfl) (by kernel_rfl) (by kernel_rfl) (fun _ _ _ h => h) (Or.inl ⟨by rfl, ?_⟩) C10 ?_
                rotate_left
                · intro W' hSw
                  clear hSw
                  go_simp <;> with_reducible rfl
                try simp only [Act.put, List.setIfInBounds_toArray, List.set_cons_zero, List.set_cons_succ]
                refine wpAnyH_done (by kernel_rfl) ?_ _
                refine NoPanic.normal ?_
                have A40 := Lib.hid (A30.out.below BD.out)
                clear A30 BD
                clear d3 d4
                cases v
                · go_wp2
                  have hs12 := HS12.out
                  refine ⟨⟨_, _, _, _, _, _, _, _, _, _, _, _, _, _, _, _, _, _, _, _, _, _, _, _, _, _, _, _, _, _, _, _, _, _, _, _, _, _, _, _, _, _, _, _, _, _, _, _, _, _, _, _, _, _, _, _, _, _, _, _, _, _, ?rel3, rfl⟩, ?measure3⟩
                  case rel3 => exact ⟨y + 1, _, _, _, by have := HLT.out; omega, by go_num, Lib.hid HE.out.next, Lib.hid (A40.out.at (by omega))⟩
                  case measure3 => have := HLT.out; simp [intOf]; omega
                · go_wp2
                  have hs12 := HS12.out
                  refine ⟨⟨_, _, _, _, _, _, _, _, _, _, _, _, _, _, _, _, _, _, _, _, _, _, _, _, _, _, _, _, _, _, _, _, _, _, _, _, _, _, _, _, _, _, _, _, _, _, _, _, _, _, _, _, _, _, _, _, _, _, _, _, _, _, ?rel4, rfl⟩, ?measure4⟩
                  case rel4 => exact ⟨y + 1, _, _, _, by have := HLT.out; omega, by go_num, Lib.hid HE.out.next, Lib.hid (A40.out.at (by omega))⟩
                  case measure4 => have := HLT.out; simp [intOf]; omega
          · obtain rfl : x = g.s.toNat := by omega
            have d1 : decide (((g.s.toNat : Nat) : Int) < g.s) = false := decide_eq_false (by omega)
            clear hs12
            go_wp2
            go_ret
            exact ⟨rfl, A20.out.2.2.2.2.1⟩
  · have k1 : bits .and .u8 (st : Int) 1 = 1 := AND1 st 1 HST.out ht
    have k2 : bits .or .u8 224 1 = 225 := by decide +kernel
    clear ht
    have z0 := A14.out.box
    obtain ⟨_, g0, g1, g2, g3, g4, g5, g6⟩ := A14.out.geo
    go_wp2_with fail
    clear z0 g0 g1 g2 g3 g4 g5 g6
    refine (jcl (n := 1) 4 [225] rfl rfl (by decide) (by simp <;> omega) c_bad A14.out).mono ?_
    rintro _ w15 ⟨rfl, hA⟩
    have A15 := Lib.hid hA
    clear hA A14
    have z0 := A15.out.box
    obtain ⟨_, g0, g1, g2, g3, g4, g5, g6⟩ := A15.out.geo
    go_wp2_with fail
    clear z0 g0 g1 g2 g3 g4 g5 g6
    refine (jbz A15.out).mono ?_
    rintro _ w16 ⟨rfl, hA⟩
    have A16 := Lib.hid hA
    clear hA A15
    have z0 := A16.out.box
    obtain ⟨_, g0, g1, g2, g3, g4, g5, g6⟩ := A16.out.geo
    go_wp2
    clear z0 g0 g1 g2 g3 g4 g5 g6
    go_loopw [6, 13, 107] (fun _ _ i wr => ∃ x : Nat, x ≤ g.s.toNat ∧ i = .int .i64 (x : Int) ∧ Hid (Ja w cb I p g 10 (jIdle (spE (ersE (fun _ => false) b) b) (ersL (fun _ => -1) b) (ersP g (fun _ => 0) b)) wr)) (fun _ _ i _ => g.s.toNat - (intOf i).toNat)
    case atStart => exact ⟨0, Nat.zero_le _, rfl, A16⟩
    case round =>
      obtain ⟨x, hx, rfl, A15⟩ := hrel
      rename World => w15
      clear A16
      have hs12 := HS12.out
      by_cases hlt : x < g.s.toNat
      · have d1 : decide ((x : Int) < g.s) = true := decide_eq_true (by omega)
        have hx12 : x < 12 := by omega
        have WX := Lib.hid (show wrap64 ((x : Int) + 1) = (x : Int) + 1 from IntWalk.wrap64_in _ (by omega))
        have hR := HRW.out
        obtain ⟨kk, hkk⟩ : ∃ kk, kk = R + x := ⟨_, rfl⟩
        have e1 : IntKind.i64.wrap ((R : Int) + (x : Int)) = (kk : Int) := by rw [IntWalk.i64_in _ (by omega)]; omega
        have HKK := Lib.hid hkk
        clear hkk hR hs12
        have z0 := A15.out.box
        obtain ⟨_, g0, g1, g2, g3, g4, g5, g6⟩ := A15.out.geo
        go_wp2_with fail
        clear z0 g0 g1 g2 g3 g4 g5 g6
        refine (jcn kk (v := false) (by rw [HKK.out, HR.out]; exact Ers.bad HB.out hlt) A15.out).mono ?_
        rintro _ w16 ⟨rfl, hb⟩
        have A16 := Lib.hid (A15.out.below hb)
        clear hb A15
        go_wp2
        have hs12 := HS12.out
        refine ⟨⟨_, _, _, _, _, _, _, _, _, _, _, _, _, _, _, ?rel5, rfl⟩, ?measure5⟩
        case rel5 => exact ⟨x + 1, by omega, by go_num, A16⟩
        case measure5 => simp [intOf]; omega
      · have d1 : decide ((x : Int) < g.s) = false := decide_eq_false (by omega)
        have h0s := Lib.hid (show 0 < g.s.toNat by omega)
        clear hs12 hlt hx
        have z0 := A15.out.box
        obtain ⟨_, g0, g1, g2, g3, g4, g5, g6⟩ := A15.out.geo
        go_wp2_with fail
        clear z0 g0 g1 g2 g3 g4 g5 g6
        refine (jcn R (v := false) (by have := Ers.bad (g := g) (E := ersE (fun _ => false) b) (L := ersL (fun _ => -1) b) (P := ersP g (fun _ => 0) b) HB.out (r := 0) h0s.out; rw [HR.out]; exact this) A15.out).mono ?_
        rintro _ w16 ⟨rfl, hb⟩
        have A16 := Lib.hid (A15.out.below hb)
        clear hb A15
        go_wp2
        go_ret
        exact ⟨rfl, A16.out.2.2.2.2.1⟩
end
end Go.Proofs.Ytmgaenfimhdlpaa
