/-
  The judge's Step, Power.
-/
import Derived.Laws.MakeOwn
import Derived.Laws.ResultCell
import Derived.Test.YtlalghhaibknfaaJudgeFitsJ9
import Derived.Test.YtlalghhaibknfaaJudgeFitsJCycMem
import Derived.Test.YtlalghhaibknfaaJudgeFitsJ6
import Derived.Test.YtlalghhaibknfaaJudgeFitsJ4
namespace Go.Proofs.Ytlalghhaibknfaa
open Go.RowKit
set_option maxRecDepth 100000

section
variable {I K : Nat → Prop} {w w' : World} {p : Nat} {g : Gm} {j : Jd} {m : Jm}
theorem JH.widen {I' : Nat → Prop} (h : JH I w p g j) (hI : ∀ k, I k → I' k) : JH I' w p g j := by
  obtain ⟨m, hc, hr⟩ := h
  exact ⟨m, hc, { hr with
    ip := hI _ hr.ip
    ir := hI _ hr.ir
    iL := fun k hk => hI _ (hr.iL k hk)
    iR := fun k hk => hI _ (hr.iR k hk)
    iB := fun k hk => hI _ (hr.iB k hk)
    iE := fun k hk => hI _ (hr.iE k hk)
    new := fun k hk => hI _ (hr.new k hk) }⟩
/-- A cycle. -/
def Jd.step (g : Gm) (j : Jd) (k : Int) (b : Nat) : Bool × Jd :=
  if j.rej = true then (false, j)
  else if (j.acc g k b).1 = false then (false, { (j.acc g k b).2 with rej := true })
  else (true, if k = 4 then (j.acc g k b).2 else { (j.acc g k b).2 with pol := decide (k = 1 ∧ b = 112) })
theorem jStep_nil (k : Int) (b : Nat) (w : World) : Calls Try.prog 15 #[.pointer none, .agg #[.int .i64 k, .int .u8 (b : Int)]] w (Gives (.bool false) w) := by
  have B0 := Lib.hid (below_new w (.cells #[.int .i64 k, .int .u8 (b : Int)] 36))
  go_enter Try.func15, Try.ntmps15
  go_wp2_with fail
  refine (jmade_nil _).mono ?_
  rintro _ w1 ⟨rfl, h1⟩
  have B1 := Lib.hid (below_step B0.out h1)
  clear h1
  go_wp2
  go_ret
  exact ⟨rfl, B1.out⟩
set_option maxHeartbeats 2000000 in
theorem jStep {q : Nat} (k : Int) (b : Nat) (hb : b < 256) (hq : q ≤ 100000) (hf : Jf g q j) (h : JH I w p g j) : Calls Try.prog 15 #[.pointer (some ⟨p, 0, none⟩), .agg #[.int .i64 k, .int .u8 (b : Int)]] w (ActsJ I p g (.bool (j.step g k b).1) (j.step g k b).2 w) := by
  have B0 := Lib.hid (below_new w (.cells #[.int .i64 k, .int .u8 (b : Int)] 36))
  have Z0 := Lib.hid (CRow.new w #[.int .i64 k, .int .u8 (b : Int)] 36)
  have HS0 := Lib.hid (h.shrink B0.out)
  have H0 := Lib.hid (h.below B0.out)
  have HAC := Lib.hid (fun W (hh : JH (fun q => I q ∧ (q < w.heap.size ∨ (w.alloc (.cells #[.int .i64 k, .int .u8 (b : Int)] 36)).heap.size ≤ q)) W p g j) => jaccepts k b hb hq hf hh)
  obtain ⟨m, hc, hr⟩ := HS0.out
  have C0 := Lib.hid hc
  clear h hc hr hf hq hb
  cases hrj : j.rej with
  | true =>
    have HE := Lib.hid (show j.step g k b = (false, j) by unfold Jd.step; rw [if_pos hrj])
    have HRJ := Lib.hid hrj
    clear hrj
    go_enter Try.func15, Try.ntmps15
    go_wp2_with fail
    refine (jmade_row C0.out).mono ?_
    rintro _ w1 ⟨rfl, h1⟩
    have C1 := Lib.hid (C0.out.below h1)
    have H1 := Lib.hid (H0.out.below h1)
    have B1 := Lib.hid (below_step B0.out h1)
    clear h1
    have x20 : w1.cell? ⟨p, 20, none⟩ = some (.bool true) := by
      have h0 := C1.out.cell_at 20 (.bool j.rej) rfl
      rw [HRJ.out] at h0
      exact h0
    go_wp2
    go_ret
    rw [HE.out]
    exact ⟨rfl, H1.out, Btw.of_below B1.out⟩
  | false =>
    have HRJ := Lib.hid hrj
    cases ha : (j.acc g k b).1 with
    | false =>
      have HE := Lib.hid (show j.step g k b = (false, { (j.acc g k b).2 with rej := true }) by unfold Jd.step; rw [if_neg (by rw [hrj]; decide), if_pos ha])
      have HA := Lib.hid ha
      clear hrj ha
      go_enter Try.func15, Try.ntmps15
      go_wp2_with fail
      refine (jmade_row C0.out).mono ?_
      rintro _ w1 ⟨rfl, h1⟩
      have C1 := Lib.hid (C0.out.below h1)
      have H1 := Lib.hid (HS0.out.below h1)
      have Z1 := Lib.hid (Z0.out.below h1)
      have B1 := Lib.hid (below_step B0.out h1)
      clear h1
      have x20 : w1.cell? ⟨p, 20, none⟩ = some (.bool false) := by
        have h0 := C1.out.cell_at 20 (.bool j.rej) rfl
        rw [HRJ.out] at h0
        exact h0
      have z0 := Z1.out.cell_at 0 _ rfl
      have z1 := Z1.out.cell_at 1 _ rfl
      go_wp2_with fail
      clear z0 z1 x20
      refine (HAC.out _ H1.out).mono ?_
      rintro e w2 ⟨he, h2, b2⟩

      obtain ⟨j2, hj⟩ : ∃ j2, j2 = (j.acc g k b).2 := ⟨_, rfl⟩
      rw [HA.out] at he
      rw [← hj] at h2
      have HJ2 := Lib.hid hj
      subst he
      have NZ : ¬ (fun q => I q ∧ (q < w.heap.size ∨ (w.alloc (.cells #[.int .i64 k, .int .u8 (b : Int)] 36)).heap.size ≤ q)) w.heap.size := fun h => by
        have e : (w.alloc (.cells #[.int .i64 k, .int .u8 (b : Int)] 36)).heap.size = w.heap.size + 1 := by simp
        rcases h.2 with h | h
        · exact absurd h (Nat.lt_irrefl _)
        · have h : (w.alloc (.cells #[.int .i64 k, .int .u8 (b : Int)] 36)).heap.size ≤ w.heap.size := h
          omega
      have Z2 := Lib.hid (Z1.out.btw b2 NZ)
      have H2 := Lib.hid h2
      have B2 := Lib.hid ((Btw.of_below (I := I) B1.out).trans b2 fun q _ h => h.1)
      obtain ⟨m2, hc2, hr2⟩ := H2.out
      have C2 := Lib.hid hc2
      have R2 := Lib.hid hr2
      clear hj h2 b2 NZ hc2 hr2
      have x20 := C2.out.cell_at 20 (.bool (j2).rej) rfl
      have f20 := C2.out.frozen 20
      have S1 := Lib.hid (C2.out.setCell 20 (.bool true))
      have K1 := Lib.hid (((Btw.refl w2)).setCell (I := fun k => k = p) (p := ⟨p, 20, none⟩) (v := .bool true) rfl)
      go_wp2
      go_ret
      have HJ := JH.of (j' := { j2 with rej := true }) (m' := m2) C2.out R2.out S1.out K1.out fun W h => { h with }
      rw [HE.out, ← HJ2.out]
      exact ⟨rfl, HJ.1.widen (fun q h => h.1), B2.out.trans HJ.2 fun q _ h => h.1⟩
    | true =>
      by_cases hk : k = 4
      · have HE := Lib.hid (show j.step g k b = (true, (j.acc g k b).2) by unfold Jd.step; rw [if_neg (by rw [hrj]; decide), if_neg (by rw [ha]; decide), if_pos hk])
        have HA := Lib.hid ha
        have HK := Lib.hid hk
        clear hrj ha hk
        go_enter Try.func15, Try.ntmps15
        go_wp2_with fail
        refine (jmade_row C0.out).mono ?_
        rintro _ w1 ⟨rfl, h1⟩
        have C1 := Lib.hid (C0.out.below h1)
        have H1 := Lib.hid (HS0.out.below h1)
        have Z1 := Lib.hid (Z0.out.below h1)
        have B1 := Lib.hid (below_step B0.out h1)
        clear h1
        have x20 : w1.cell? ⟨p, 20, none⟩ = some (.bool false) := by
          have h0 := C1.out.cell_at 20 (.bool j.rej) rfl
          rw [HRJ.out] at h0
          exact h0
        have z0 := Z1.out.cell_at 0 _ rfl
        have z1 := Z1.out.cell_at 1 _ rfl
        go_wp2_with fail
        clear z0 z1 x20
        refine (HAC.out _ H1.out).mono ?_
        rintro e w2 ⟨he, h2, b2⟩

        obtain ⟨j2, hj⟩ : ∃ j2, j2 = (j.acc g k b).2 := ⟨_, rfl⟩
        rw [HA.out] at he
        rw [← hj] at h2
        have HJ2 := Lib.hid hj
        subst he
        have NZ : ¬ (fun q => I q ∧ (q < w.heap.size ∨ (w.alloc (.cells #[.int .i64 k, .int .u8 (b : Int)] 36)).heap.size ≤ q)) w.heap.size := fun h => by
          have e : (w.alloc (.cells #[.int .i64 k, .int .u8 (b : Int)] 36)).heap.size = w.heap.size + 1 := by simp
          rcases h.2 with h | h
          · exact absurd h (Nat.lt_irrefl _)
          · have h : (w.alloc (.cells #[.int .i64 k, .int .u8 (b : Int)] 36)).heap.size ≤ w.heap.size := h
            omega
        have Z2 := Lib.hid (Z1.out.btw b2 NZ)
        have H2 := Lib.hid h2
        have B2 := Lib.hid ((Btw.of_below (I := I) B1.out).trans b2 fun q _ h => h.1)
        obtain ⟨m2, hc2, hr2⟩ := H2.out
        have C2 := Lib.hid hc2
        have R2 := Lib.hid hr2
        clear hj h2 b2 NZ hc2 hr2
        have z0 : w2.cell? ⟨w.heap.size, 0, none⟩ = some (.int .i64 4) := by
          have h0 := Z2.out.cell_at 0 (.int .i64 k) rfl
          rw [h0, HK.out]
        go_wp2
        go_ret
        rw [HE.out, ← HJ2.out]
        exact ⟨rfl, H2.out.widen (fun q h => h.1), B2.out⟩
      · have HE := Lib.hid (show j.step g k b = (true, { (j.acc g k b).2 with pol := decide (k = 1 ∧ b = 112) }) by unfold Jd.step; rw [if_neg (by rw [hrj]; decide), if_neg (by rw [ha]; decide), if_neg hk])
        have HA := Lib.hid ha
        have e4 : (k == 4) = false := by rw [beq_eq_false_iff_ne]; exact hk
        have f4 : decide (k = 4) = false := decide_eq_false hk
        have HIS := Lib.hid (fun W => isC k b 112 (decide (k = 1 ∧ b = 112)) rfl 112 rfl W)
        generalize decide (k = 1 ∧ b = 112) = v2 at *
        clear hrj ha hk
        go_enter Try.func15, Try.ntmps15
        go_wp2_with fail
        refine (jmade_row C0.out).mono ?_
        rintro _ w1 ⟨rfl, h1⟩
        have C1 := Lib.hid (C0.out.below h1)
        have H1 := Lib.hid (HS0.out.below h1)
        have Z1 := Lib.hid (Z0.out.below h1)
        have B1 := Lib.hid (below_step B0.out h1)
        clear h1
        have x20 : w1.cell? ⟨p, 20, none⟩ = some (.bool false) := by
          have h0 := C1.out.cell_at 20 (.bool j.rej) rfl
          rw [HRJ.out] at h0
          exact h0
        have z0 := Z1.out.cell_at 0 _ rfl
        have z1 := Z1.out.cell_at 1 _ rfl
        go_wp2_with fail
        clear z0 z1 x20
        refine (HAC.out _ H1.out).mono ?_
        rintro e w2 ⟨he, h2, b2⟩

        obtain ⟨j2, hj⟩ : ∃ j2, j2 = (j.acc g k b).2 := ⟨_, rfl⟩
        rw [HA.out] at he
        rw [← hj] at h2
        have HJ2 := Lib.hid hj
        subst he
        have NZ : ¬ (fun q => I q ∧ (q < w.heap.size ∨ (w.alloc (.cells #[.int .i64 k, .int .u8 (b : Int)] 36)).heap.size ≤ q)) w.heap.size := fun h => by
          have e : (w.alloc (.cells #[.int .i64 k, .int .u8 (b : Int)] 36)).heap.size = w.heap.size + 1 := by simp
          rcases h.2 with h | h
          · exact absurd h (Nat.lt_irrefl _)
          · have h : (w.alloc (.cells #[.int .i64 k, .int .u8 (b : Int)] 36)).heap.size ≤ w.heap.size := h
            omega
        have Z2 := Lib.hid (Z1.out.btw b2 NZ)
        have H2 := Lib.hid h2
        have B2 := Lib.hid ((Btw.of_below (I := I) B1.out).trans b2 fun q _ h => h.1)
        obtain ⟨m2, hc2, hr2⟩ := H2.out
        have C2 := Lib.hid hc2
        have R2 := Lib.hid hr2
        clear hj h2 b2 NZ hc2 hr2
        have z0 := Z2.out.cell_at 0 _ rfl
        have z1 := Z2.out.cell_at 1 _ rfl
        go_wp2_with fail
        refine (HIS.out _).mono ?_
        rintro _ w3 ⟨rfl, h3⟩
        have C3 := Lib.hid (C2.out.below h3)
        have R3 := Lib.hid (R2.out.below h3)
        have B3 := Lib.hid (B2.out.trans (Btw.of_below (I := I) h3) fun _ _ h => h)
        clear h3 z0 z1
        have x4 := C3.out.cell_at 4 (.bool (j2).pol) rfl
        have f4 := C3.out.frozen 4
        have S1 := Lib.hid (C3.out.setCell 4 (.bool v2))
        have K1 := Lib.hid (((Btw.refl w3)).setCell (I := fun k => k = p) (p := ⟨p, 4, none⟩) (v := .bool v2) rfl)
        go_wp2
        go_ret
        have HJ := JH.of (j' := { j2 with pol := v2 }) (m' := m2) C3.out R3.out S1.out K1.out fun W h => { h with }
        rw [HE.out, ← HJ2.out]
        exact ⟨rfl, HJ.1.widen (fun q h => h.1), B3.out.trans HJ.2 fun q _ h => h.1⟩
/-- The power goes. -/
def Jd.power (j : Jd) : Jd := { j.stop with rej := false }
theorem jPower_nil (w : World) : Calls Try.prog 13 #[.pointer none] w (Gives (.tuple #[]) w) := by
  go_enter Try.func13, Try.ntmps13
  go_wp2_with fail
  refine (jmade_nil _).mono ?_
  rintro _ w1 ⟨rfl, h1⟩
  have B1 := Lib.hid h1
  clear h1
  go_wp2
  go_end0
  exact ⟨rfl, B1.out⟩
theorem jPower {q : Nat} (hq : q ≤ 100000) (hf : Jf g q j) (h : JH I w p g j) : Calls Try.prog 13 #[.pointer (some ⟨p, 0, none⟩)] w (ActsJ I p g (.tuple #[]) j.power w) := by
  have hen := hf.en
  have HST := Lib.hid (fun W (hh : JH I W p g j) => jstop hf.eb (by omega) hh)
  have H0 := Lib.hid h
  obtain ⟨m, hc, hr⟩ := h
  have C0 := Lib.hid hc
  clear hc hr hf hq hen
  go_enter Try.func13, Try.ntmps13
  go_wp2_with fail
  refine (jmade_row C0.out).mono ?_
  rintro _ w1 ⟨rfl, h1⟩
  have H1 := Lib.hid (H0.out.below h1)
  have B1 := Lib.hid h1
  clear h1
  go_wp2_with fail
  refine (HST.out _ H1.out).mono ?_
  rintro _ w2 ⟨rfl, h2, b2⟩
  have B2 := Lib.hid ((Btw.of_below (I := I) B1.out).trans b2 fun _ _ h => h)
  obtain ⟨m2, hc2, hr2⟩ := h2
  have C2 := Lib.hid hc2
  have R2 := Lib.hid hr2
  clear b2 hc2 hr2
  have x20 := C2.out.cell_at 20 (.bool (j.stop).rej) rfl
  have f20 := C2.out.frozen 20
  have S1 := Lib.hid (C2.out.setCell 20 (.bool false))
  have K1 := Lib.hid (((Btw.refl w2)).setCell (I := fun k => k = p) (p := ⟨p, 20, none⟩) (v := .bool false) rfl)
  go_wp2
  go_end0
  have HJ := JH.of (j' := j.power) (m' := m2) C2.out R2.out S1.out K1.out fun W h => { h with }
  exact ⟨rfl, HJ.1, B2.out.trans HJ.2 fun _ _ h => h⟩
end
end Go.Proofs.Ytlalghhaibknfaa

/-
  What a step keeps.
-/
namespace Go.Proofs.Ytlalghhaibknfaa
open Go.RowKit
set_option maxRecDepth 100000

section
variable {I K : Nat → Prop} {w w' : World} {p : Nat} {g : Gm} {j : Jd} {m : Jm}
theorem Jf.more {q q' : Nat} (h : Jf g q j) (hq : q ≤ q') : Jf g q' j :=
  { h with ct := Nat.le_trans h.ct hq, cl := Nat.le_trans h.cl (by omega), pr := fun r => Nat.le_trans (h.pr r) hq, rn := Nat.le_trans h.rn hq, bn := Nat.le_trans h.bn hq, en := Nat.le_trans h.en hq }
theorem Jf.enter {q : Nat} (h : Jf g q j) (n : Nat) (hn : n ≤ 9) : Jf g q (j.enter n) := { h with op := hn, ls := Nat.zero_le _, ct := Nat.zero_le _ }
theorem Jf.start {q : Nat} (h : Jf g q j) : Jf g q j.start := { h with op := (by show 1 ≤ 9; omega), ls := Nat.zero_le _, ct := Nat.zero_le _ }
theorem Jf.spoil {q : Nat} (h : Jf g q j) : Jf g q j.spoil := { h with }
theorem Jf.stop {q : Nat} (h : Jf g q j) : Jf g q j.stop :=
  ⟨Nat.zero_le _, Nat.zero_le _, Nat.zero_le _, Nat.zero_le _, h.pr, Nat.zero_le _, Nat.zero_le _, Nat.zero_le _, fun x hx => absurd (show x ∈ ([] : List Nat) from hx) (by simp), fun x hx => absurd (show x ∈ ([] : List Nat) from hx) (by simp)⟩
theorem Jf.poll {q : Nat} (h : Jf g q j) (b : Nat) : Jf g q (j.poll b) := by
  unfold Jd.poll
  split
  · exact h
  · by_cases h1 : b % 2 = 1
    · rw [if_pos h1]
      exact { h with en := Nat.zero_le _, eb := fun x hx => absurd (show x ∈ ([] : List Nat) from hx) (by simp) }
    · rw [if_neg h1]
      exact { h with en := Nat.zero_le _, eb := fun x hx => absurd (show x ∈ ([] : List Nat) from hx) (by simp) }
theorem Jf.begin {q : Nat} (h : Jf g q j) (b : Nat) : Jf g q (j.begin b).2 := by
  unfold Jd.begin
  split
  · exact h
  · show Jf g q (Jd.enter (if _ then _ else _) _)
    split
    · exact Jf.enter (j := { j with data := false }) { h with } _ (jopen_le b)
    · exact h.enter _ (jopen_le b)
theorem jaddr2_le (h8 : ∀ x ∈ j.listed, x < 256) (k : Nat) : j.addr2 k ≤ 65535 := by
  have K : ∀ i, j.listed.getD i 0 ≤ 255 := fun i => by
    rw [List.getD_eq_getElem?_getD]
    cases e : j.listed[i]? with
    | none => simp
    | some x =>
      have := h8 x (List.mem_of_getElem? e)
      simp only [Option.getD_some]
      omega
  unfold Jd.addr2
  have := K k
  have := K (k + 1)
  omega
theorem Jf.endFetch {q : Nat} (h : Jf g q j) (b : Nat) : Jf g q (j.endFetch b).2 := by
  unfold Jd.endFetch
  split
  · exact Jf.start (j := { j with data := true }) { h with }
  · exact h
theorem Jf.endMove {q : Nat} (h : Jf g q j) (h8 : ∀ x ∈ j.listed, x < 256) (b : Nat) : Jf g q (j.endMove b).2 := by
  unfold Jd.endMove
  split
  · have := jaddr2_le h8 0
    exact Jf.enter (j := { j with col := j.addr2 0 }) { h with cl := (by show j.addr2 0 ≤ 65536 + q; omega) } 6 (by omega)
  · exact h
theorem Jf.prog {q : Nat} (h : Jf g (q + 1) j) (hp : ∀ r, j.pr r ≤ q) (b r : Nat) : Jf g (q + 1) (j.prog g b r) :=
  have h1 : ∀ x, (j.prog g b r).pr x ≤ q + 1 := fun x => by
    show (if x = b * g.s.toNat + r then j.pr x + 1 else j.pr x) ≤ q + 1
    have := hp x
    split <;> omega
  { h with pr := h1 }
theorem Jf.endLoad {q : Nat} (h : Jf g q j) (b : Nat) : Jf g (q + 1) (j.endLoad g b).2 := by
  have h1 := h.more (Nat.le_succ q)
  have hrn : (j.rows ++ [j.addr2 2]).length ≤ q + 1 := by rw [List.length_append]; have := h.rn; show _ + 1 ≤ q + 1; omega
  unfold Jd.endLoad
  split
  · exact h1
  · split
    · exact h1
    · split
      · exact (Jf.prog (j := { j with rows := [] }) { h1 with rn := Nat.zero_le _ } h.pr _ _).start
      · split
        · split
          · exact h1
          · exact (Jf.prog (j := { j with bg := true, bgb := spB g (j.addr2 2) }) { h1 with } h.pr _ _).start
        · split
          · split
            · exact h1
            · exact (Jf.prog (j := { j with rows := j.rows ++ [j.addr2 2] }) { h1 with rn := hrn } h.pr _ _).start
          · exact h1
theorem Jf.endErase {q : Nat} (hg : g.ok = true) (h : Jf g q j) (b : Nat) : Jf g (q + 1) (j.endErase g b).2 := by
  have h1 := h.more (Nat.le_succ q)
  have hbb : ∀ x ∈ j.blocks ++ [spB g (j.addr2 (j.listed.length - 2))], x < g.b.toNat := fun x hx => by
    rcases List.mem_append.1 hx with h2 | h2
    · exact h.bb x h2
    · rw [List.mem_singleton.1 h2]; exact spB_lt hg _
  have hbn : (j.blocks ++ [spB g (j.addr2 (j.listed.length - 2))]).length ≤ q + 1 := by rw [List.length_append]; have := h.bn; show _ + 1 ≤ q + 1; omega
  unfold Jd.endErase
  split
  · exact h1
  · split
    · exact h1
    · split
      · refine Jf.start ⟨h1.op, h1.ls, h1.ct, h1.cl, fun r => ?_, h1.rn, Nat.zero_le _, hbn, fun x hx => absurd (show x ∈ ([] : List Nat) from hx) (by simp), hbb⟩
        show (if _ then 0 else j.pr r) ≤ q + 1
        have := h1.pr r
        split <;> omega
      · exact Jf.start (j := { j with blocks := j.blocks ++ [spB g (j.addr2 (j.listed.length - 2))] }) { h1 with bn := hbn, bb := hbb }
theorem Jf.command {q : Nat} (hg : g.ok = true) (h : Jf g q j) (h8 : ∀ x ∈ j.listed, x < 256) (b : Nat) : Jf g (q + 1) (j.command g b).2 := by
  have h1 := h.more (Nat.le_succ q)
  unfold Jd.command
  split
  · exact h.endLoad b
  · split
    · exact h.endErase hg b
    · split
      · exact h1.endMove h8 b
      · split
        · split
          · exact h1.begin b
          · exact h1
        · split
          · split
            · exact h1.endFetch b
            · split
              · exact h1
              · exact h1.begin b
          · split
            · exact h1.begin b
            · exact h1
theorem Jf.addr4 {q : Nat} (h : Jf g q j) (h8 : ∀ x ∈ j.listed, x < 256) : Jf g q (j.addr4 g).2 := by
  unfold Jd.addr4
  split
  · have := jaddr2_le h8 0
    exact { h with cl := (by show j.addr2 0 ≤ 65536 + q; omega) }
  · exact h
theorem Jf.addr {q : Nat} (h : Jf g q j) (h8 : ∀ x ∈ j.listed, x < 256) (b : Nat) (hb : b < 256) : Jf g q (j.addr g b).2 := by
  have hp : ∀ x ∈ (j.push b).listed, x < 256 := fun x hx => by
    rcases List.mem_append.1 hx with h1 | h1
    · exact h8 x h1
    · rw [List.mem_singleton.1 h1]; exact hb
  unfold Jd.addr
  split
  · exact h
  · rename_i hli
    have hl := lists_what (b := b) (by simpa using hli)
    have hpl : (j.push b).listed.length ≤ 4 := by show (j.listed ++ [b]).length ≤ 4; rw [List.length_append]; show _ + 1 ≤ 4; omega
    have h1 : Jf g q (j.push b) := { h with ls := hpl }
    split
    · exact Jf.start (j := { j.push b with data := true, col := 0 }) { h1 with cl := Nat.zero_le _ }
    · split
      · exact Jf.addr4 (j := { j.push b with data := false }) { h1 with } hp
      · split
        · exact h1.addr4 hp
        · split
          · exact h1
          · split
            · exact h1
            · exact h1
theorem Jf.write {q : Nat} (h : Jf g q j) : Jf g (q + 1) (j.write g).2 := by
  have h1 := h.more (Nat.le_succ q)
  have hc : j.count + 1 ≤ q + 1 := by have := h.ct; omega
  unfold Jd.write
  split
  · show Jf g (q + 1) (if _ then _ else _)
    split
    · exact Jf.start (j := { j with count := j.count + 1 }) { h1 with ct := hc }
    · exact { h1 with ct := hc }
  · split
    · exact { h1 with ct := hc }
    · exact h1
theorem Jf.read {q : Nat} (h : Jf g q j) : Jf g (q + 1) (j.read g).2 := by
  have h1 := h.more (Nat.le_succ q)
  have hc : j.count + 1 ≤ q + 1 := by have := h.ct; omega
  have hl : j.col + 1 ≤ 65536 + (q + 1) := by have := h.cl; omega
  unfold Jd.read
  split
  · exact { h1 with ct := hc }
  · split
    · split
      · exact h1
      · exact { h1 with op := (by show 6 ≤ 9; omega), cl := hl }
    · split
      · exact { h1 with cl := hl }
      · exact h1
theorem Jf.acc {q : Nat} (hg : g.ok = true) (h : Jf g q j) (h8 : ∀ x ∈ j.listed, x < 256) (k : Int) (b : Nat) (hb : b < 256) : Jf g (q + 1) (j.acc g k b).2 := by
  have h1 := h.more (Nat.le_succ q)
  unfold Jd.acc
  split
  · exact h1.stop.start
  · split
    · exact h1
    · split
      · exact h1.enter 1 (by omega)
      · split
        · exact h1.poll b
        · split
          · exact h1
          · unfold Jd.cont
            split
            · exact h.command hg h8 b
            · split
              · exact h1.addr h8 b hb
              · split
                · exact h.write
                · split
                  · exact h.read
                  · exact h1
theorem Jf.step {q : Nat} (hg : g.ok = true) (h : Jf g q j) (h8 : ∀ x ∈ j.listed, x < 256) (k : Int) (b : Nat) (hb : b < 256) : Jf g (q + 1) (j.step g k b).2 := by
  have h1 := h.acc hg h8 k b hb
  unfold Jd.step
  split
  · exact h.more (Nat.le_succ q)
  · split
    · exact { h1 with }
    · show Jf g (q + 1) (if _ then _ else _)
      split
      · exact h1
      · exact { h1 with }
theorem JH.l8 (h : JH I w p g j) : ∀ x ∈ j.listed, x < 256 := by
  obtain ⟨_, _, hr⟩ := h
  exact hr.l8
/-- A new judge; of k blocks the last page is set. -/
def Jd.newK (k : Nat) : Jd := { op := 0, listed := [], count := 0, busy := false, pol := false, bg := false, bgb := 0, data := false, col := 0, rows := [], blocks := [], erases := [], er := fun _ => false, la := fun b => if b < k then -1 else 0, pr := fun _ => 0, rej := false }
def Jd.new : Jd := { Jd.newK 0 with la := fun _ => -1 }
theorem Jf.new (g : Gm) : Jf g 0 Jd.new :=
  ⟨Nat.zero_le _, Nat.zero_le _, Nat.zero_le _, Nat.zero_le _, fun _ => Nat.zero_le _, Nat.zero_le _, Nat.zero_le _, Nat.zero_le _, fun x hx => absurd (show x ∈ ([] : List Nat) from hx) (by simp), fun x hx => absurd (show x ∈ ([] : List Nat) from hx) (by simp)⟩
end
end Go.Proofs.Ytlalghhaibknfaa

/-
  The judge's New.
-/
namespace Go.Proofs.Ytlalghhaibknfaa
open Go.RowKit
set_option maxRecDepth 100000

section
variable {I K : Nat → Prop} {w w' : World} {p : Nat} {g : Gm} {j : Jd} {m : Jm}
theorem jmade_get (z : Array Value) (n j : Nat) (h : j < n) : (madeCells z n)[j]? = some z[j % z.size]! := by
  unfold madeCells
  rw [Array.getElem?_map, Array.getElem?_range, if_pos h]
  rfl
def Z66 : Array Value := (Value.bool false :: Value.int .i64 0 :: List.replicate 64 (Value.int .i64 0)).toArray
theorem Z66_at (o : Nat) (ho : o < 66) : Z66[o]! = if o = 0 then .bool false else .int .i64 0 := by
  have h : ∀ x : Fin 66, (Z66[x.val]? = some (if x.val = 0 then .bool false else .int .i64 0)) := by
    intro x
    unfold Z66
    rw [List.getElem?_toArray]
    obtain ⟨x, hx⟩ := x
    match x with
    | 0 => rfl
    | 1 => rfl
    | x + 2 =>
      simp only [List.getElem?_cons_succ, List.getElem?_replicate]
      rw [if_pos (by omega), if_neg (by omega)]
  have h1 := h ⟨o, ho⟩
  rw [getElem!_def, h1]
theorem info_rec : ∃ i, Try.prog.info? 60 = some i ∧ i.zero = some (.agg Z66) ∧ i.size = 66 ∧ i.bytes ≤ 1000 := by
  have h : ((Try.prog.info? 60).map fun i => (i.zero, i.size, decide (i.bytes ≤ 1000))) = some (some (.agg Z66), 66, true) := by kernel_rfl
  rcases e : Try.prog.info? 60 with _ | i
  · rw [e] at h; cases h
  · rw [e] at h
    injection h with h
    injection h with h1 h
    injection h with h2 h3
    exact ⟨i, rfl, h1, h2, of_decide_eq_true h3⟩
/-- A new judge at p. -/
def NewIs (g : Gm) (w : World) (e : Ending) (w' : World) : Prop := ∃ p, e = .returned (.tuple #[.pointer (some ⟨p, 0, none⟩), .int .i64 0]) ∧ Below w.heap.size w w' ∧ JH (fun k => w.heap.size ≤ k) w' p g Jd.new
theorem jNew_no (g : Gm) (h : g.ok = false) (w : World) : Calls Try.prog 8 #[g.val] w (Gives (.tuple #[.pointer none, .int .i64 2]) w) := by
  have B0 := Lib.hid (below_new w (.cells #[.int .i64 g.p, .int .i64 g.b, .int .i64 g.s, .int .i64 g.c, .int .i64 g.k, .int .i64 g.r, .int .i64 g.q] 23))
  have Y0 := Lib.hid (GBox.new w g 23)
  have HC := Lib.hid (fun W => Check_no g h W)
  simp only [Gm.val] at HC ⊢
  clear h
  go_enter Try.func8, Try.ntmps8
  obtain ⟨_, g0, g1, g2, g3, g4, g5, g6⟩ := Y0.out
  go_wp2_with fail
  clear g0 g1 g2 g3 g4 g5 g6
  refine (HC.out _).mono ?_
  rintro _ w1 ⟨rfl, h1⟩
  have B1 := Lib.hid (below_step B0.out h1)
  clear h1
  go_wp2
  go_ret2
  exact ⟨rfl, B1.out⟩
set_option maxHeartbeats 2000000 in
theorem jNew (g : Gm) (h : g.ok = true) (w : World) : Calls Try.prog 8 #[g.val] w (NewIs g w) := by
  have B0 := Lib.hid (below_new w (.cells #[.int .i64 g.p, .int .i64 g.b, .int .i64 g.s, .int .i64 g.c, .int .i64 g.k, .int .i64 g.r, .int .i64 g.q] 23))
  have Y0 := Lib.hid (GBox.new w g 23)
  have HC := Lib.hid (fun W => Check_yes g h W)
  have hbd := Gm.bounds_of h
  obtain ⟨B, hB⟩ : ∃ B, B = g.b.toNat := ⟨_, rfl⟩
  have HB := Lib.hid (show g.b = (B : Int) by omega)
  have HBN := Lib.hid hB
  have hb5 : 2 ≤ B ∧ B ≤ 256 := by omega
  obtain ⟨iR, hiR, hzR, hsR, hbR⟩ := info_rec
  have hmkR := Lib.hid (fun w' : World => by
    have h := run_make (P := Try.prog) w' 52 60 iR _ Try.underlying52 hiR hzR .i64 .i64 (B : Int) (B : Int) (by omega) (Int.le_refl _) (by
      have h1 : (iR.bytes : Int) * (B : Int) ≤ 1000 * 256 := (mul_le (by omega) (by omega) (by omega) (by omega)).2
      omega) (by omega)
    rw [hsR, Int.toNat_natCast, show (Value.agg Z66).cells = Z66 from rfl] at h
    exact h)
  have HOK := Lib.hid h
  simp only [Gm.val] at HC ⊢
  clear h hbd hB hiR hzR hsR hbR
  go_enter Try.func8, Try.ntmps8
  obtain ⟨_, g0, g1, g2, g3, g4, g5, g6⟩ := Y0.out
  go_wp2_with fail
  clear g0 g1 g2 g3 g4 g5 g6
  refine (HC.out _).mono ?_
  rintro _ w1 ⟨rfl, h1⟩
  have B1 := Lib.hid (below_step B0.out h1)
  have Y1 := Lib.hid (Y0.out.below h1)
  have L1 := Lib.hid B1.out.size
  clear h1 HC B0 Y0
  go_wp2
  refine wp_region_noPanic ?_
  refine wp_region_held_drew (S := fun w' => Below w1.heap.size w1 w') (by kernel_rfl) ((Below.refl _ _).drew) (fun C9 => ?_)
  refine wpAnyH_take (i := 0) (oi := { dst := some 9, op := Op.load 23 (Operand.tmp 1), type := 23, pos := "judge.go:58", after := #[], guard := none }) (v := ?_) rfl (by kernel_rfl) (by kernel_rfl) (by kernel_rfl) (fun _ _ _ h => h) (Or.inl ⟨by rfl, ?_⟩) C9 ?_
  rotate_left
  · intro W' hSw
    obtain ⟨_, y0, y1, y2, y3, y4, y5, y6⟩ := Y1.out.below hSw
    clear hSw
    go_simp <;> with_reducible rfl
  try simp only [Act.put, List.setIfInBounds_toArray, List.set_cons_zero, List.set_cons_succ]
  refine wpAnyH_take (i := 1) (oi := { dst := some 10, op := Op.fieldAddr 23 (Operand.tmp 1) 1, type := 0, pos := "judge.go:58", after := #[], guard := none }) (v := ?_) rfl (by kernel_rfl) (by kernel_rfl) (by kernel_rfl) (fun _ _ _ h => h) (Or.inl ⟨by rfl, ?_⟩) C9 ?_
  rotate_left
  · intro W' hSw
    clear hSw
    go_simp <;> with_reducible rfl
  try simp only [Act.put, List.setIfInBounds_toArray, List.set_cons_zero, List.set_cons_succ]
  refine wpAnyH_take (i := 2) (oi := { dst := some 11, op := Op.load 3 (Operand.tmp 10), type := 3, pos := "judge.go:58", after := #[{ on := 1, ground := Ground.data }], guard := none }) (v := ?_) rfl (by kernel_rfl) (by kernel_rfl) (by kernel_rfl) (fun _ _ _ h => h) (Or.inl ⟨by rfl, ?_⟩) C9 ?_
  rotate_left
  · intro W' hSw
    obtain ⟨_, y0, y1, y2, y3, y4, y5, y6⟩ := Y1.out.below hSw
    rw [HB.out] at y1
    clear hSw
    go_simp <;> with_reducible rfl
  try simp only [Act.put, List.setIfInBounds_toArray, List.set_cons_zero, List.set_cons_succ]
  refine wpAnyH_ready (rs := [3]) (by kernel_rfl) (by simp) ?_
  refine AllReadyH.cons (o := { dst := some 12, op := Op.makeSlice 52 (Operand.tmp 11) (Operand.tmp 11), type := 52, pos := "judge.go:58", after := #[{ on := 2, ground := Ground.data }, { on := 2, ground := Ground.data }], guard := none }) rfl (fun K hK => ?_) AllReadyH.nil
  have hmk := hmkR.out w1.drew
  go_simp
  refine hK.out _ _ (show Below w1.heap.size w1 _ from ((Below.refl _ _).drew).alloc (Nat.le_refl _) _) (fun C10 => ?_)
  clear hK K
  try simp only [Act.put, List.setIfInBounds_toArray, List.set_cons_zero, List.set_cons_succ]
  refine wpAnyH_take (i := 4) (oi := { dst := some 13, op := Op.build 57 #[(1, Operand.tmp 9), (2, Operand.tmp 12)], type := 57, pos := "judge.go:58", after := #[{ on := 0, ground := Ground.data }, { on := 3, ground := Ground.data }], guard := none }) (v := ?_) rfl (by kernel_rfl) (by kernel_rfl) (by kernel_rfl) (fun _ _ _ h => h) (Or.inl ⟨by rfl, ?_⟩) C10 ?_
  rotate_left
  · intro W' hSw
    clear hSw
    go_simp <;> with_reducible rfl
  try simp only [Act.put, List.setIfInBounds_toArray, List.set_cons_zero, List.set_cons_succ]
  refine wpAnyH_ready (rs := [5]) (by kernel_rfl) (by simp) ?_
  refine AllReadyH.cons (o := { dst := some 14, op := Op.box 57 (Operand.tmp 13), type := 27, pos := "judge.go:58", after := #[{ on := 4, ground := Ground.data }], guard := none }) rfl (fun K hK => ?_) AllReadyH.nil
  go_simp
  refine hK.out _ _ (show Below w1.heap.size w1 _ from (((Below.refl _ _).drew).alloc (Nat.le_refl _) _).alloc (by simp) _) (fun C11 => ?_)
  clear hK K
  try simp only [Act.put, List.setIfInBounds_toArray, List.set_cons_zero, List.set_cons_succ]
  refine wpAnyH_take (i := 6) (oi := { dst := some 4, op := Op.assign (Operand.tmp 14), type := 27, pos := "judge.go:58", after := #[{ on := 5, ground := Ground.data }, { on := 0, ground := Ground.phase }, { on := 1, ground := Ground.phase }, { on := 2, ground := Ground.phase }, { on := 3, ground := Ground.phase }, { on := 4, ground := Ground.phase }, { on := 5, ground := Ground.phase }], guard := none }) (v := ?_) rfl (by kernel_rfl) (by kernel_rfl) (by kernel_rfl) (fun _ _ _ h => h) (Or.inl ⟨by rfl, ?_⟩) C11 ?_
  rotate_left
  · intro W' hSw
    clear hSw
    go_simp <;> with_reducible rfl
  try simp only [Act.put, List.setIfInBounds_toArray, List.set_cons_zero, List.set_cons_succ]
  refine wpAnyH_done (by kernel_rfl) ?_ _
  refine NoPanic.normal ?_
  obtain ⟨w3, hw3⟩ : ∃ w3, w3 = ((w1.alloc (.cells (madeCells Z66 (B * 66)) 60)).alloc (.cells #[.int .i64 0, .slice none 0 0, .int .i64 0, .bool false, .bool false, .bool false, .int .i64 0, .bool false, .int .i64 0, .slice none 0 0, .slice none 0 0, .slice none 0 0, .int .i64 g.p, .int .i64 g.b, .int .i64 g.s, .int .i64 g.c, .int .i64 g.k, .int .i64 g.r, .int .i64 g.q, .slice (some ⟨w1.heap.size, 0, none⟩) B B, .bool false] 57)).drew := ⟨_, rfl⟩
  have K3 := Lib.hid (show CRow w3 (w1.heap.size + 1) 57 #[.int .i64 0, .slice none 0 0, .int .i64 0, .bool false, .bool false, .bool false, .int .i64 0, .bool false, .int .i64 0, .slice none 0 0, .slice none 0 0, .slice none 0 0, .int .i64 g.p, .int .i64 g.b, .int .i64 g.s, .int .i64 g.c, .int .i64 g.k, .int .i64 g.r, .int .i64 g.q, .slice (some ⟨w1.heap.size, 0, none⟩) B B, .bool false] by
    rw [hw3]
    have h0 := (CRow.new (w1.alloc (.cells (madeCells Z66 (B * 66)) 60)) #[.int .i64 0, .slice none 0 0, .int .i64 0, .bool false, .bool false, .bool false, .int .i64 0, .bool false, .int .i64 0, .slice none 0 0, .slice none 0 0, .slice none 0 0, .int .i64 g.p, .int .i64 g.b, .int .i64 g.s, .int .i64 g.c, .int .i64 g.k, .int .i64 g.r, .int .i64 g.q, .slice (some ⟨w1.heap.size, 0, none⟩) B B, .bool false] 57).drew
    simpa using h0)
  have X3 := Lib.hid (show Cells w3 w1.heap.size 60 (recF g (Jd.newK 0)) by
    rw [hw3]
    refine ⟨madeCells Z66 (B * 66), ((CRow.new w1 _ _).alloc _).drew, fun i v hv => ?_⟩
    unfold recF at hv
    rw [← HBN.out] at hv
    by_cases hi : i / 66 < B
    · rw [if_pos hi] at hv
      injection hv with hv
      rw [jmade_get _ _ _ (by omega), show Z66.size = 66 by simp [Z66], Z66_at _ (by omega), ← hv]
      unfold recV Jd.newK
      by_cases e0 : i % 66 = 0
      · rw [if_pos e0, if_pos e0]
      · rw [if_neg e0, if_neg e0]
        by_cases e1 : i % 66 = 1
        · rw [if_pos e1]; rfl
        · rw [if_neg e1]
          split <;> rfl
    · rw [if_neg hi] at hv; cases hv)
  have B3 := Lib.hid (show Below w.heap.size w w3 by
    rw [hw3]
    exact ((B1.out.alloc L1.out _).alloc (by have := L1.out; simp; omega) _).drew)
  have S3 := Lib.hid (show w3.heap.size = w1.heap.size + 2 by rw [hw3]; simp)
  have N9 := Lib.hid (show ∀ W, CRow W (w1.heap.size + 1) 57 #[.int .i64 0, .slice none 0 0, .int .i64 0, .bool false, .bool false, .bool false, .int .i64 0, .bool false, .int .i64 0, .slice none 0 0, .slice none 0 0, .slice none 0 0, .int .i64 g.p, .int .i64 g.b, .int .i64 g.s, .int .i64 g.c, .int .i64 g.k, .int .i64 g.r, .int .i64 g.q, .slice (some ⟨w1.heap.size, 0, none⟩) B B, .bool false] → W.cell? ⟨w1.heap.size + 1, 19, none⟩ = some (.slice (some ⟨w1.heap.size, 0, none⟩) B B) from fun W hW => hW.cell_at 19 _ rfl)
  rw [← hw3]
  clear hw3 hmkR
  have x19 := N9.out _ K3.out
  go_wp2
  clear x19
  go_loopw [20] (fun i wr => ∃ k : Nat, k ≤ B ∧ i = .int .i64 (k : Int) ∧ Hid (CRow wr (w1.heap.size + 1) 57 #[.int .i64 0, .slice none 0 0, .int .i64 0, .bool false, .bool false, .bool false, .int .i64 0, .bool false, .int .i64 0, .slice none 0 0, .slice none 0 0, .slice none 0 0, .int .i64 g.p, .int .i64 g.b, .int .i64 g.s, .int .i64 g.c, .int .i64 g.k, .int .i64 g.r, .int .i64 g.q, .slice (some ⟨w1.heap.size, 0, none⟩) B B, .bool false]) ∧ Hid (Cells wr w1.heap.size 60 (recF g (Jd.newK k))) ∧ Hid (Below w.heap.size w wr) ∧ Hid (w1.heap.size + 2 ≤ wr.heap.size)) (fun i _ => B - (intOf i).toNat)
  case atStart => exact ⟨0, Nat.zero_le _, rfl, K3, X3, B3, Lib.hid (by rw [S3.out]; exact Nat.le_refl _)⟩
  case round =>
    obtain ⟨k, hk, rfl, K4, X4, B4, S4⟩ := hrel
    rename World => wr
    clear K3 X3 B3 S3
    by_cases hlt : k < B
    · have x19 := N9.out _ K4.out
      have E1 := Lib.hid (rec_la (g := g) (j := Jd.newK k) (b := k) (by rw [← HBN.out]; exact hlt))
      have e1 := X4.out.cell E1.out
      have f1 := X4.out.frozen (k * 66 + 1)
      have d1 : decide ((k : Int) < (B : Int)) = true := decide_eq_true (by omega)
      have i0 : (0 : Int) ≤ (k : Int) := by omega
      have i1 : (k : Int) < (B : Int) := by omega
      have HLT := Lib.hid hlt
      go_wp2
      go_roundw
      case rel =>
        have hset := (X4.out.set E1.out (.int .i64 (-1))).sub (f' := recF g (Jd.newK (k + 1))) (fun i v h => by
          have h1 := rec_set_la (g := g) (j := Jd.newK k) (la' := (Jd.newK (k + 1)).la) (x := k) (by rw [← HBN.out]; exact HLT.out) (fun b hne => by
            show (if b < k + 1 then (-1 : Int) else 0) = (if b < k then -1 else 0)
            by_cases h2 : b < k
            · rw [if_pos h2, if_pos (by omega)]
            · rw [if_neg h2, if_neg (by omega)]) i v h
          rw [show (Jd.newK (k + 1)).la k = -1 from if_pos (Nat.lt_succ_self k)] at h1
          exact h1)
        have KB := (Btw.refl (I := fun q => q = w1.heap.size) wr).setCell (p := ⟨w1.heap.size, k * 66 + 1, none⟩) (v := .int .i64 (-1)) rfl
        exact ⟨k + 1, by omega, by go_num, Lib.hid (K4.out.btw KB (by omega)), Lib.hid hset, Lib.hid (B4.out.trans (KB.below (S := w.heap.size) (fun q hq => by rw [hq]; exact L1.out) B4.out.size)), Lib.hid (Nat.le_trans S4.out KB.size)⟩
      case measure => simp [intOf]; omega
    · obtain rfl : k = B := by omega
      have d1 : decide ((k : Int) < (k : Int)) = false := decide_eq_false (by omega)
      go_wp2
      go_ret2
      have hrec := X4.out.sub (f' := recF g Jd.new) (fun i v h => by
        rw [← h]
        unfold recF
        rw [← HBN.out]
        by_cases hi : i / 66 < k
        · rw [if_pos hi, if_pos hi]
          unfold recV
          rw [show (Jd.newK k).la (i / 66) = -1 from if_pos hi]
          rfl
        · rw [if_neg hi, if_neg hi])
      have hs := S4.out
      have hl := L1.out
      exact ⟨w1.heap.size + 1, rfl, B4.out, { aL := none, cL := 0, aR := none, cR := 0, aB := none, cB := 0, aE := none, cE := 0, r := w1.heap.size }, (by
        have h0 := K4.out
        rw [HBN.out] at h0
        exact h0), {
          ok := HOK.out
          rcs := hrec
          lis := ⟨rfl, .inl ⟨rfl, rfl⟩⟩
          l8 := fun x hx => absurd (show x ∈ ([] : List Nat) from hx) (by simp)
          row := ⟨rfl, .inl ⟨rfl, rfl⟩⟩
          blk := ⟨rfl, .inl ⟨rfl, rfl⟩⟩
          ers := ⟨rfl, .inl ⟨rfl, rfl⟩⟩
          ab := fun k hk => (by cases hk)
          ae := fun k hk => (by cases hk)
          be := fun k hk => (by cases hk)
          ip := by show w.heap.size ≤ w1.heap.size + 1; omega
          ir := by show w.heap.size ≤ w1.heap.size; omega
          iL := fun k hk => (by cases hk)
          iR := fun k hk => (by cases hk)
          iB := fun k hk => (by cases hk)
          iE := fun k hk => (by cases hk)
          new := fun k hk => by show w.heap.size ≤ k; have := B4.out.size; omega }⟩
end
end Go.Proofs.Ytlalghhaibknfaa

/-
  Run, plain, awake.
-/
namespace Go.Proofs.Ytlalghhaibknfaa
open Go.RowKit
set_option maxRecDepth 100000

section
variable {I K : Nat → Prop} {w w' : World} {p : Nat} {g : Gm} {j : Jd} {m : Jm}
/-- The judge behind k cycles of l; whether it accepts the k-th. -/
def stJ (g : Gm) (l : List Cy) : Nat → Jd
  | 0 => Jd.new
  | k + 1 => match l[k]? with
    | some t => ((stJ g l k).step g t.k t.b).2
    | none => stJ g l k
def okJ (g : Gm) (l : List Cy) (k : Nat) : Bool := match l[k]? with
  | some t => ((stJ g l k).step g t.k t.b).1
  | none => false
theorem stJ_succ {l : List Cy} {k : Nat} {t : Cy} (h : l[k]? = some t) : stJ g l (k + 1) = ((stJ g l k).step g t.k t.b).2 := by
  show (match l[k]? with | some t => ((stJ g l k).step g t.k t.b).2 | none => stJ g l k) = _
  rw [h]
theorem okJ_is {l : List Cy} {k : Nat} {t : Cy} (h : l[k]? = some t) : okJ g l k = ((stJ g l k).step g t.k t.b).1 := by
  unfold okJ
  rw [h]
/-- What Run tells: c cycles of n ahead of the first one that is rejected. -/
def RunIs (g : Gm) (l : List Cy) (n c : Nat) : Prop := c ≤ n ∧ (∀ k, k < c → okJ g l k = true) ∧ (c < n → okJ g l c = false)
theorem jRun_no (h : g.ok = false) (A : Option Addr) (n d : Nat) (w : World) : Calls Try.prog 9 #[g.val, .slice A n d] w (Gives (.tuple #[.int .i64 0, .bool false]) w) := by
  have B0 := Lib.hid (below_new w (.cells #[.int .i64 g.p, .int .i64 g.b, .int .i64 g.s, .int .i64 g.c, .int .i64 g.k, .int .i64 g.r, .int .i64 g.q] 23))
  have Y0 := Lib.hid (GBox.new w g 23)
  have HC := Lib.hid (fun W => jNew_no g h W)
  simp only [Gm.val] at HC ⊢
  clear h
  go_enter Try.func9, Try.ntmps9
  obtain ⟨_, g0, g1, g2, g3, g4, g5, g6⟩ := Y0.out
  go_wp2_with fail
  clear g0 g1 g2 g3 g4 g5 g6
  refine (HC.out _).mono ?_
  rintro _ w1 ⟨rfl, h1⟩
  have B1 := Lib.hid (below_step B0.out h1)
  clear h1
  go_wp2
  go_ret2
  exact ⟨rfl, B1.out⟩
set_option maxHeartbeats 2000000 in
theorem jRun (h : g.ok = true) (A : Option Addr) (n d : Nat) (l : List Cy) (hn : n ≤ 50000) (w : World) (hl : RC w A n l) : Calls Try.prog 9 #[g.val, .slice A n d] w fun e w' => ∃ c, RunIs g l n c ∧ e = .returned (.tuple #[.int .i64 (c : Int), .bool (decide (c = n))]) ∧ Below w.heap.size w w' := by
  have B0 := Lib.hid (below_new w (.cells #[.int .i64 g.p, .int .i64 g.b, .int .i64 g.s, .int .i64 g.c, .int .i64 g.k, .int .i64 g.r, .int .i64 g.q] 23))
  have Y0 := Lib.hid (GBox.new w g 23)
  have HC := Lib.hid (fun W => jNew g h W)
  have HR := Lib.hid hl
  have HOK := Lib.hid h
  simp only [Gm.val] at HC ⊢
  clear h hl
  go_enter Try.func9, Try.ntmps9
  obtain ⟨_, g0, g1, g2, g3, g4, g5, g6⟩ := Y0.out
  go_wp2_with fail
  clear g0 g1 g2 g3 g4 g5 g6
  refine (HC.out _).mono ?_
  rintro _ w1 ⟨p, rfl, h1, hj⟩
  have B1 := Lib.hid (below_step B0.out h1)
  have J1 := Lib.hid (show JH _ w1 p g (stJ g l 0) from hj)
  have F1 := Lib.hid (show Jf g 0 (stJ g l 0) from Jf.new g)
  obtain ⟨I, hI⟩ : ∃ I, I = fun k => (w.alloc (.cells #[.int .i64 g.p, .int .i64 g.b, .int .i64 g.s, .int .i64 g.c, .int .i64 g.k, .int .i64 g.r, .int .i64 g.q] 23)).heap.size ≤ k := ⟨_, rfl⟩
  have HI := Lib.hid (show ∀ k, I k → w.heap.size ≤ k from fun k hk => by
    rw [hI] at hk
    have e : (w.alloc (.cells #[.int .i64 g.p, .int .i64 g.b, .int .i64 g.s, .int .i64 g.c, .int .i64 g.k, .int .i64 g.r, .int .i64 g.q] 23)).heap.size = w.heap.size + 1 := by simp
    have hk : (w.alloc (.cells #[.int .i64 g.p, .int .i64 g.b, .int .i64 g.s, .int .i64 g.c, .int .i64 g.k, .int .i64 g.r, .int .i64 g.q] 23)).heap.size ≤ k := hk
    omega)
  rw [← hI] at J1
  clear h1 hj HC B0 Y0 hI
  go_wp2
  go_loopw [19] (fun i wr => ∃ k : Nat, k ≤ n ∧ i = .int .i64 (k : Int) ∧ Hid (∀ q, q < k → okJ g l q = true) ∧ Hid (Jf g k (stJ g l k)) ∧ Hid (JH I wr p g (stJ g l k)) ∧ Hid (Below w.heap.size w wr)) (fun i _ => n - (intOf i).toNat)
  case atStart => exact ⟨0, Nat.zero_le _, rfl, Lib.hid (fun q hq => absurd hq (by omega)), F1, J1, B1⟩
  case round =>
    obtain ⟨k, hk, rfl, HO, HF, HJ, HB⟩ := hrel
    rename World => wr
    clear J1 F1 B1
    by_cases hlt : k < n
    · obtain ⟨b9, o9, t, rfl, hb9, HX, hin, x0, x1⟩ := (HR.out.below HB.out).at_ hlt
      have d1 : decide ((k : Int) < (n : Int)) = true := decide_eq_true (by omega)
      have i0 : (0 : Int) ≤ (k : Int) := by omega
      have N1 := Lib.hid (below_new wr (.cells #[.int .i64 t.k, .int .u8 (t.b : Int)] 36))
      have HA1 := Lib.hid (HJ.out.below N1.out)
      have B1 := Lib.hid (below_step HB.out N1.out)
      have HS := Lib.hid (jStep (q := k) t.k t.b hin.2.2 (by omega) HF.out HA1.out)
      have HL := Lib.hid (HF.out.step HOK.out HJ.out.l8 t.k t.b hin.2.2)
      rw [← stJ_succ HX.out] at HL
      rw [← stJ_succ HX.out, ← okJ_is HX.out] at HS
      clear HJ HB HF hb9 hin
      go_wp2_with fail
      clear x0 x1
      refine HS.out.mono ?_
      rintro e w2 ⟨he, hj2, hb2⟩
      have J2 := Lib.hid hj2
      have B2 := Lib.hid (B1.out.trans (hb2.below (S := w.heap.size) HI.out B1.out.size))
      cases hv : okJ g l k with
      | false =>
        rw [hv] at he
        subst he
        have HV := Lib.hid hv
        have HKN := Lib.hid hlt
        clear hv hj2 hb2 HS N1
        go_wp2
        go_ret2
        exact ⟨k, ⟨hk, HO.out, fun _ => HV.out⟩, by rw [decide_eq_false (by have := HKN.out; omega)]; rfl, B2.out⟩
      | true =>
        rw [hv] at he
        subst he
        have HV := Lib.hid hv
        clear hv hj2 hb2 HS N1
        go_wp2
        go_roundw
        case rel => exact ⟨k + 1, by omega, by go_num, Lib.hid (fun q hq => by
          by_cases e : q = k
          · rw [e]; exact HV.out
          · exact HO.out q (by omega)), HL, J2, B2⟩
        case measure => simp [intOf]; omega
    · obtain rfl : k = n := by omega
      have d1 : decide ((k : Int) < (k : Int)) = false := decide_eq_false (by omega)
      go_wp2
      go_ret2
      exact ⟨k, ⟨Nat.le_refl _, HO.out, fun h => absurd h (by omega)⟩, by rw [decide_eq_true rfl]; rfl, HB.out⟩
def geo15 : Gm := ⟨1, 2, 4, 1, 4, 1, 1⟩
theorem geo15_ok : geo15.ok = true := by decide +kernel
theorem size_geom15 : (Try.prog.info? 23).map (·.size) = some 7 := by kernel_rfl
set_option maxHeartbeats 400000 in
theorem plain15_any (w : World) : Calls Try.prog 20 #[] w (Gives geo15.val w) := by
  go_enter Try.func20, Try.ntmps20
  have T0 := Lib.hid (CRow.new w #[.int .i64 0, .int .i64 0, .int .i64 0, .int .i64 0, .int .i64 0, .int .i64 0, .int .i64 0] 23)
  have B0 := Lib.hid (below_new w (.cells #[.int .i64 0, .int .i64 0, .int .i64 0, .int .i64 0, .int .i64 0, .int .i64 0, .int .i64 0] 23))
  go_wp2_with (with_reducible refine (?_ : wpList _ _ _ ({ dst := _, op := Op.store 23 _ _, type := _, pos := _, after := _, guard := _ } :: _) _ _); refine wpList_store_at rfl 23 _ _ rfl 7 size_geom15 _ w.heap.size ?hx rfl _ T0.out.row ?hn ?ho ?h1 ?_; (case hx => simp [Act.eval]); (case hn => simp); (case ho => simp); (case h1 => simp [Value.oneCell']))
  have B9 := Lib.hid (below_setRow B0.out (Nat.le_refl _) #[.int .i64 1, .int .i64 2, .int .i64 4, .int .i64 1, .int .i64 4, .int .i64 1, .int .i64 1])
  have T9 := Lib.hid (T0.out.set #[.int .i64 1, .int .i64 2, .int .i64 4, .int .i64 1, .int .i64 4, .int .i64 1, .int .i64 1])
  go_wp2
  refine bodyPost_ret (results_cell_row rfl _ _ w.heap.size 23 _ (0, 0) _ rfl T9.out.row Try.underlying23 rfl size_geom15) rfl ?_
  exact ⟨rfl, B9.out⟩
theorem RC_new (w : World) (l : List Cy) (hi : ∀ t ∈ l, inC t) (t : TypeId) : RC (w.alloc (.cells (CyC l).toArray t)) (some ⟨w.heap.size, 0, none⟩) l.length l := by
  refine ⟨rfl, hi, fun _ => ⟨w.heap.size, 0, rfl, by simp, fun j hj => ?_⟩⟩
  rw [Nat.zero_add, (CRow.new w (CyC l).toArray t).cell j]
  simp
theorem run_2 (c : Nat) (h : RunIs geo15 [⟨1, 255⟩, ⟨1, 112⟩] 2 c) : c = 2 := by
  obtain ⟨h1, h2, h3⟩ := h
  have k0 : okJ geo15 [⟨1, 255⟩, ⟨1, 112⟩] 0 = true := by rfl
  have k1 : okJ geo15 [⟨1, 255⟩, ⟨1, 112⟩] 1 = true := by rfl
  have hd : c = 0 ∨ c = 1 ∨ c = 2 := by omega
  rcases hd with rfl | rfl | rfl
  · have := h3 (by omega); rw [k0] at this; cases this
  · have := h3 (by omega); rw [k1] at this; cases this
  · rfl
theorem run_1 (c : Nat) (h : RunIs geo15 [⟨1, 112⟩] 1 c) : c = 0 := by
  obtain ⟨h1, h2, h3⟩ := h
  have k0 : okJ geo15 [⟨1, 112⟩] 0 = false := by rfl
  have hd : c = 0 ∨ c = 1 := by omega
  rcases hd with rfl | rfl
  · rfl
  · have := h2 0 (by omega); rw [k0] at this; cases this
set_option maxHeartbeats 2000000 in
theorem awake15_any (w : World) : Calls Try.prog 6 #[] w (Gives (.bool true) w) := by
  have HR2 := Lib.hid (fun W (A : Option Addr) (hl : RC W A 2 [⟨1, 255⟩, ⟨1, 112⟩]) => jRun geo15_ok A 2 2 _ (by omega) W hl)
  have HR1 := Lib.hid (fun W (A : Option Addr) (hl : RC W A 1 [⟨1, 112⟩]) => jRun geo15_ok A 1 1 _ (by omega) W hl)
  simp only [Gm.val, geo15] at HR2 HR1
  have HP := Lib.hid (fun W => plain15_any W)
  simp only [Gm.val, geo15] at HP
  go_enter Try.func6, Try.ntmps6
  go_wp2_with fail
  refine (HP.out _).mono ?_
  rintro _ w1 ⟨rfl, h1⟩
  have B1 := Lib.hid h1
  clear h1
  have L2 := Lib.hid (RC_new w1 [⟨1, 255⟩, ⟨1, 112⟩] (by intro t ht; simp at ht; rcases ht with rfl | rfl <;> simp [inC]) 36)
  have N2 := Lib.hid (below_new w1 (.cells (CyC [⟨1, 255⟩, ⟨1, 112⟩]).toArray 36))
  simp only [CyC, List.flatMap_cons, List.flatMap_nil, List.append_nil, List.cons_append, List.nil_append, List.length_cons, List.length_nil] at L2 N2
  go_wp2_with fail
  refine (HR2.out _ _ L2.out).mono ?_
  rintro _ w2 ⟨c, hc, rfl, h2⟩
  obtain rfl := run_2 c hc
  have B2 := Lib.hid (below_step (below_step B1.out N2.out) h2)
  clear h2 hc L2 N2
  go_wp2_with fail
  refine (HP.out _).mono ?_
  rintro _ w3 ⟨rfl, h3⟩
  have B3 := Lib.hid (below_step B2.out h3)
  clear h3
  have L4 := Lib.hid (RC_new w3 [⟨1, 112⟩] (by intro t ht; simp at ht; rcases ht with rfl; simp [inC]) 36)
  have N4 := Lib.hid (below_new w3 (.cells (CyC [⟨1, 112⟩]).toArray 36))
  simp only [CyC, List.flatMap_cons, List.flatMap_nil, List.append_nil, List.length_cons, List.length_nil] at L4 N4
  go_wp2_with fail
  refine (HR1.out _ _ L4.out).mono ?_
  rintro _ w4 ⟨c, hc, rfl, h4⟩
  obtain rfl := run_1 c hc
  have B4 := Lib.hid (below_step (below_step B3.out N4.out) h4)
  clear h4 hc L4 N4
  go_wp2
  go_ret
  exact ⟨rfl, B4.out⟩
end
end Go.Proofs.Ytlalghhaibknfaa

/-
  Words for the judge's laws.
-/
namespace Go.Proofs.Ytlalghhaibknfaa
open Go.RowKit
set_option maxRecDepth 100000

/-- Small enough for a play. -/
def jsmall (g : Gm) : Prop := smallG g ∧ g.b ≤ 16 ∧ g.s ≤ 12
set_option maxHeartbeats 1000000 in
theorem jSmall_any (g : Gm) (w : World) : ∃ v, (v = true ↔ jsmall g) ∧ Calls Try.prog 7 #[g.val] w (Gives (.bool v) w) := by
  have Y0 := Lib.hid (GBox.new w g 23)
  have B0 := Lib.hid (below_new w (.cells #[.int .i64 g.p, .int .i64 g.b, .int .i64 g.s, .int .i64 g.c, .int .i64 g.k, .int .i64 g.r, .int .i64 g.q] 23))
  by_cases hs : smallG g
  · have HS := Lib.hid (fun w' => Small_yes g hs w')
    unfold Gm.val at HS ⊢
    by_cases h1 : g.b ≤ 16
    · have d1 : decide (g.b ≤ 16) = true := decide_eq_true h1
      by_cases h2 : g.s ≤ 12
      · have d2 : decide (g.s ≤ 12) = true := decide_eq_true h2
        refine ⟨true, ⟨fun _ => ⟨hs, h1, h2⟩, fun _ => rfl⟩, ?_⟩
        clear hs
        go_enter Try.func7, Try.ntmps7
        obtain ⟨_, g0, g1, g2, g3, g4, g5, g6⟩ := Y0.out
        go_wp2_with fail
        refine (HS.out _).mono ?_
        rintro _ w1 ⟨rfl, h3⟩
        have B1 := Lib.hid (below_step B0.out h3)
        clear g0 g1 g2 g3 g4 g5 g6
        obtain ⟨_, g0, g1, g2, g3, g4, g5, g6⟩ := Y0.out.below h3
        clear h3
        go_wp2
        go_ret
        exact ⟨rfl, B1.out⟩
      · have d2 : decide (g.s ≤ 12) = false := decide_eq_false h2
        refine ⟨false, ⟨(by intro h; cases h), fun h => absurd h.2.2 h2⟩, ?_⟩
        clear hs
        go_enter Try.func7, Try.ntmps7
        obtain ⟨_, g0, g1, g2, g3, g4, g5, g6⟩ := Y0.out
        go_wp2_with fail
        refine (HS.out _).mono ?_
        rintro _ w1 ⟨rfl, h3⟩
        have B1 := Lib.hid (below_step B0.out h3)
        clear g0 g1 g2 g3 g4 g5 g6
        obtain ⟨_, g0, g1, g2, g3, g4, g5, g6⟩ := Y0.out.below h3
        clear h3
        go_wp2
        go_ret
        exact ⟨rfl, B1.out⟩
    · have d1 : decide (g.b ≤ 16) = false := decide_eq_false h1
      refine ⟨false, ⟨(by intro h; cases h), fun h => absurd h.2.1 h1⟩, ?_⟩
      clear hs
      go_enter Try.func7, Try.ntmps7
      obtain ⟨_, g0, g1, g2, g3, g4, g5, g6⟩ := Y0.out
      go_wp2_with fail
      refine (HS.out _).mono ?_
      rintro _ w1 ⟨rfl, h3⟩
      have B1 := Lib.hid (below_step B0.out h3)
      clear g0 g1 g2 g3 g4 g5 g6
      obtain ⟨_, g0, g1, g2, g3, g4, g5, g6⟩ := Y0.out.below h3
      clear h3
      go_wp2
      go_ret
      exact ⟨rfl, B1.out⟩
  · have HS := Lib.hid (fun w' => Small_no g hs w')
    unfold Gm.val at HS ⊢
    refine ⟨false, ⟨(by intro h; cases h), fun h => absurd h.1 hs⟩, ?_⟩
    clear hs
    go_enter Try.func7, Try.ntmps7
    obtain ⟨_, g0, g1, g2, g3, g4, g5, g6⟩ := Y0.out
    go_wp2_with fail
    refine (HS.out _).mono ?_
    rintro _ w1 ⟨rfl, h3⟩
    have B1 := Lib.hid (below_step B0.out h3)
    clear g0 g1 g2 g3 g4 g5 g6 h3
    go_wp2
    go_ret
    exact ⟨rfl, B1.out⟩
section
variable {I K : Nat → Prop} {w w' : World} {p : Nat} {g : Gm} {j : Jd} {m : Jm}
theorem rej_begin (b : Nat) : (j.begin b).2.rej = j.rej := by
  unfold Jd.begin
  split
  · rfl
  · show (Jd.enter (if _ then _ else _) _).rej = _
    split <;> rfl
theorem rej_endFetch (b : Nat) : (j.endFetch b).2.rej = j.rej := by unfold Jd.endFetch; split <;> rfl
theorem rej_endMove (b : Nat) : (j.endMove b).2.rej = j.rej := by unfold Jd.endMove; split <;> rfl
theorem rej_endLoad (b : Nat) : (j.endLoad g b).2.rej = j.rej := by
  unfold Jd.endLoad
  split
  · rfl
  · split
    · rfl
    · split
      · rfl
      · split
        · split <;> rfl
        · split
          · split <;> rfl
          · rfl
theorem rej_endErase (b : Nat) : (j.endErase g b).2.rej = j.rej := by
  unfold Jd.endErase
  split
  · rfl
  · split
    · rfl
    · split <;> rfl
theorem rej_command (b : Nat) : (j.command g b).2.rej = j.rej := by
  unfold Jd.command
  split
  · exact rej_endLoad b
  · split
    · exact rej_endErase b
    · split
      · exact rej_endMove b
      · split
        · split
          · exact rej_begin b
          · rfl
        · split
          · split
            · exact rej_endFetch b
            · split
              · rfl
              · exact rej_begin b
          · split
            · exact rej_begin b
            · rfl
theorem rej_addr (b : Nat) : (j.addr g b).2.rej = j.rej := by
  unfold Jd.addr Jd.addr4
  split
  · rfl
  · split
    · rfl
    · split
      · split <;> rfl
      · split
        · split <;> rfl
        · split
          · rfl
          · split <;> rfl
theorem rej_write : (j.write g).2.rej = j.rej := by
  unfold Jd.write
  split
  · show (if _ then _ else _ : Jd).rej = _
    split <;> rfl
  · split <;> rfl
theorem rej_read : (j.read g).2.rej = j.rej := by
  unfold Jd.read
  split
  · rfl
  · split
    · split <;> rfl
    · split <;> rfl
theorem rej_acc (k : Int) (b : Nat) : (j.acc g k b).2.rej = j.rej := by
  unfold Jd.acc
  split
  · rfl
  · split
    · rfl
    · split
      · rfl
      · split
        · show (j.poll b).rej = _
          unfold Jd.poll
          split
          · rfl
          · by_cases h1 : b % 2 = 1
            · rw [if_pos h1]; rfl
            · rw [if_neg h1]
        · split
          · rfl
          · unfold Jd.cont
            split
            · exact rej_command b
            · split
              · exact rej_addr b
              · split
                · exact rej_write
                · split
                  · exact rej_read
                  · rfl
theorem step_rej (h : j.rej = true) (k : Int) (b : Nat) : j.step g k b = (false, j) := by unfold Jd.step; rw [if_pos h]
theorem step_no {k : Int} {b : Nat} (h : j.rej = false) (hv : (j.step g k b).1 = false) : (j.step g k b).2.rej = true := by
  unfold Jd.step at hv ⊢
  rw [if_neg (by rw [h]; decide)] at hv ⊢
  split
  · rfl
  · rename_i h1
    rw [if_neg h1] at hv
    cases hv
/-- What is accepted leaves; and what is accepted while the chip is busy. -/
theorem step_yes {k : Int} {b : Nat} (h : j.rej = false) (hv : (j.step g k b).1 = true) : (j.step g k b).2.rej = false ∧ (k ≠ 4 → (j.step g k b).2.pol = decide (k = 1 ∧ b = 112)) ∧ (j.busy = true → (k = 1 ∧ (b = 112 ∨ b = 255)) ∨ (k = 4 ∧ j.pol = true)) := by
  unfold Jd.step at hv ⊢
  rw [if_neg (by rw [h]; decide)] at hv ⊢
  by_cases ha : (j.acc g k b).1 = false
  · rw [if_pos ha] at hv
    cases hv
  · rw [if_neg ha]
    refine ⟨?_, fun hk => ?_, fun hb => ?_⟩
    · show (if _ then _ else _ : Jd).rej = _
      split
      · rw [rej_acc]; exact h
      · show (j.acc g k b).2.rej = false
        rw [rej_acc]; exact h
    · show (if _ then _ else _ : Jd).pol = _
      rw [if_neg hk]
    · unfold Jd.acc at ha
      split at ha
      · rename_i h1; exact .inl ⟨h1.1, .inr h1.2⟩
      · split at ha
        · exact absurd rfl ha
        · split at ha
          · rename_i h1; exact .inl ⟨h1.1, .inl h1.2⟩
          · split at ha
            · rename_i h1; exact .inr h1
            · exact absurd rfl ha
theorem RC.take_ {A : Option Addr} {n q : Nat} {l : List Cy} (h : RC w A n l) (hq : q ≤ n) : RC w A q (l.take q) := by
  obtain ⟨hl, hi, hc⟩ := h
  refine ⟨by rw [List.length_take]; omega, fun t ht => hi t (List.mem_of_mem_take ht), fun h0 => ?_⟩
  obtain ⟨b, off, e, hb, hcell⟩ := hc (by omega)
  refine ⟨b, off, e, hb, fun x hx => ?_⟩
  rw [hcell x (by omega)]
  have hk : x / 2 < l.length := by omega
  have ht : l[x / 2]? = some l[x / 2] := List.getElem?_eq_getElem hk
  have ht2 : (l.take q)[x / 2]? = some l[x / 2] := by rw [List.getElem?_take, if_pos (by omega)]; exact ht
  have e1 := CyC_at ht (x % 2) (by omega)
  have e2 := CyC_at ht2 (x % 2) (by omega)
  rw [show x / 2 * 2 + x % 2 = x by omega] at e1 e2
  rw [e1, e2]
theorem stJ_take (l : List Cy) (q : Nat) : ∀ k, k ≤ q → stJ g (l.take q) k = stJ g l k
  | 0, _ => rfl
  | k + 1, h => by
    have ih := stJ_take l q k (by omega)
    show (match (l.take q)[k]? with | some t => ((stJ g (l.take q) k).step g t.k t.b).2 | none => stJ g (l.take q) k) = (match l[k]? with | some t => ((stJ g l k).step g t.k t.b).2 | none => stJ g l k)
    rw [List.getElem?_take, if_pos (by omega), ih]
theorem okJ_take (l : List Cy) (q k : Nat) (h : k < q) : okJ g (l.take q) k = okJ g l k := by
  unfold okJ
  rw [List.getElem?_take, if_pos h, stJ_take l q k (by omega)]
/-- A prefix of what is accepted is accepted. -/
theorem run_take {l : List Cy} {n c q x : Nat} (h : RunIs g l n c) (hq : q ≤ c) (hx : RunIs g (l.take q) q x) : x = q := by
  obtain ⟨h1, h2, h3⟩ := hx
  by_cases e : x = q
  · exact e
  · have h4 := h3 (by omega)
    rw [okJ_take l q x (by omega), h.2.1 x (by omega)] at h4
    cases h4
theorem run_slice_to2 {P : Program} {t e : TypeId} {i : TypeInfo} (h1 : P.underlying t = some (.slice e)) (h2 : P.info? e = some i) (h4 : P.cellsOf e = 2) (A : Option Addr) (n c k : Nat) (hk : k ≤ c) (W : World) :
    (Instr.slice t (.slice A n c) none (some (.int .i64 (k : Int))) none).run P W = .ok (.slice A k c) W := by
  have hb : (Instr.sliceBound (.int .i64 (k : Int)) c .sliceAcap).run P W = .ok k W := by
    rw [run_sliceBound W .i64 _ _ _ (by omega) (by omega)]; simp
  simp [Instr.slice, run_underlying h1, Instr.sliceBounds, hb, run_sizeOf W h2, h4]
  intro _
  cases A <;> simp [Addr.add]
end
end Go.Proofs.Ytlalghhaibknfaa

/-
  The walk of JudgeFits.
-/
namespace Go.Proofs.Ytlalghhaibknfaa
open Go.RowKit
set_option maxRecDepth 100000

section
variable {I K : Nat → Prop} {w w' : World} {p : Nat} {g : Gm} {j : Jd} {m : Jm}
set_option maxHeartbeats 8000000 in
theorem JudgeFits_walk (g : Gm) (A : Option Addr) (n d : Nat) (l : List Cy) (ku : Nat) (w : World) (hl : RC w A n l) (hd : n ≤ d) (hn : n ≤ 9223372036854775807) (hku : ku < 65536) :
    Calls Try.prog 4 #[g.val, .slice A n d, .int .u16 (ku : Int)] w (Gives (.bool true) w) := by
  have HR := Lib.hid hl
  have HD := Lib.hid hd
  have HS := Lib.hid (fun W => jSmall_any g W)
  obtain ⟨ti, hti⟩ := Option.isSome_iff_exists.1 (show (Try.prog.info? 36).isSome = true by kernel_rfl)
  have B1 := Lib.hid (below_new w (.cells #[.int .i64 g.p, .int .i64 g.b, .int .i64 g.s, .int .i64 g.c, .int .i64 g.k, .int .i64 g.r, .int .i64 g.q] 23))
  have Y1 := Lib.hid (GBox.new w g 23)
  have HSN := Lib.hid (fun W => show Calls Try.prog 15 #[.pointer none, .agg #[.int .i64 1, .int .u8 255]] W (Gives (.bool false) W) from jStep_nil 1 255 W)
  clear hl hd
  simp only [Gm.val] at HS ⊢
  go_enter Try.func4, Try.ntmps4
  go_wp2_with fail
  refine (awake15_any _).mono ?_
  rintro _ w2 ⟨rfl, hB⟩
  have B2 := Lib.hid (below_step B1.out hB)
  have Y2 := Lib.hid (Y1.out.below hB)
  clear hB B1 Y1
  go_wp2_with fail
  refine (jPower_nil _).mono ?_
  rintro _ w3 ⟨rfl, hB⟩
  have B3 := Lib.hid (below_step B2.out hB)
  have Y3 := Lib.hid (Y2.out.below hB)
  clear hB B2 Y2
  go_wp2_with fail
  refine (HSN.out _).mono ?_
  rintro _ w4 ⟨rfl, hB⟩
  have B4 := Lib.hid (below_step B3.out hB)
  have Y4 := Lib.hid (Y3.out.below hB)
  clear hB B3 Y3
  go_wp2_with fail
  refine (jBusy_nil _).mono ?_
  rintro _ w5 ⟨rfl, hB⟩
  have B5 := Lib.hid (below_step B4.out hB)
  have Y5 := Lib.hid (Y4.out.below hB)
  clear hB B4 Y4
  go_wp2_with fail
  refine (jCan_nil 0 _).mono ?_
  rintro _ w6 ⟨rfl, hB⟩
  have B6 := Lib.hid (below_step B5.out hB)
  have Y6 := Lib.hid (Y5.out.below hB)
  clear hB B5 Y5
  obtain ⟨_, g0, g1, g2, g3, g4, g5, g6⟩ := Y6.out
  go_wp2_with fail
  clear g0 g1 g2 g3 g4 g5 g6
  obtain ⟨v, hv, hc⟩ := HS.out w6
  refine hc.mono ?_
  rintro _ w7 ⟨rfl, hB⟩
  have B7 := Lib.hid (below_step B6.out hB)
  have Y7 := Lib.hid (Y6.out.below hB)
  clear hB B6 Y6 HS hc hv HSN
  cases v
  · go_wp2
    go_ret
    exact ⟨rfl, B7.out⟩
  by_cases h8 : n ≤ 800
  rotate_left
  · have d1 : decide (800 < (n : Int)) = true := decide_eq_true (by omega)
    go_wp2
    go_ret
    exact ⟨rfl, B7.out⟩
  have d1 : decide (800 < (n : Int)) = false := decide_eq_false (by omega)
  have h800 := Lib.hid h8
  by_cases hok : g.ok = true
  rotate_left
  · have hno : g.ok = false := by simpa using hok
    have HRN := Lib.hid (fun W q => jRun_no hno A q d W)
    have HRG := Lib.hid (fun W => RefRight_any g W)
    rw [hno] at HRG
    have HNW := Lib.hid (fun W => jNew_no g hno W)
    simp only [Gm.val] at HRN HRG HNW
    have HSL := run_slice_to2 (P := Try.prog) Try.underlying24 hti (by kernel_rfl) A n d 0 (by omega)
    rw [show ((0 : Nat) : Int) = 0 from rfl] at HSL
    clear hok hno
    obtain ⟨_, g0, g1, g2, g3, g4, g5, g6⟩ := Y7.out
    go_wp2_with fail
    clear g0 g1 g2 g3 g4 g5 g6
    refine (HRN.out _ n).mono ?_
    rintro _ w8 ⟨rfl, hB⟩
    have B8 := Lib.hid (below_step B7.out hB)
    have Y8 := Lib.hid (Y7.out.below hB)
    clear hB B7 Y7
    by_cases h0 : n = 0
    · subst h0
      obtain ⟨_, g0, g1, g2, g3, g4, g5, g6⟩ := Y8.out
      go_wp2_with fail
      clear g0 g1 g2 g3 g4 g5 g6
      refine (HRG.out _).mono ?_
      rintro _ w9 ⟨rfl, hB⟩
      have B9 := Lib.hid (below_step B8.out hB)
      have Y9 := Lib.hid (Y8.out.below hB)
      clear hB B8 Y8
      go_wp2
      refine wp_region_noPanic ?_
      refine wp_region_held_drew (S := fun w' => Below w9.heap.size w9 w') (by kernel_rfl) ((Below.refl _ _).drew) (fun C9 => ?_)
      refine wpAnyH_take (i := 0) (oi := { dst := some 68, op := Op.load 23 (Operand.tmp 3), type := 23, pos := "law.go:85", after := #[], guard := none }) (v := ?_) rfl (by kernel_rfl) (by kernel_rfl) (by kernel_rfl) (fun _ _ _ h => h) (Or.inl ⟨by rfl, ?_⟩) C9 ?_
      rotate_left
      · intro W' hSw
        obtain ⟨_, y0, y1, y2, y3, y4, y5, y6⟩ := Y9.out.below hSw
        clear hSw
        go_simp <;> with_reducible rfl
      try simp only [Act.put, List.setIfInBounds_toArray, List.set_cons_zero, List.set_cons_succ]
      refine wpAnyH_take (i := 1) (oi := { dst := some 69, op := Op.move (Operand.tmp 1), type := 24, pos := "law.go:85", after := #[], guard := none }) (v := ?_) rfl (by kernel_rfl) (by kernel_rfl) (by kernel_rfl) (fun _ _ _ h => h) (Or.inl ⟨by rfl, ?_⟩) C9 ?_
      rotate_left
      · intro W' hSw
        clear hSw
        go_simp <;> with_reducible rfl
      try simp only [Act.put, List.setIfInBounds_toArray, List.set_cons_zero, List.set_cons_succ]
      refine wpAnyH_take (i := 2) (oi := { dst := some 70, op := Op.move (Operand.tmp 10), type := 3, pos := "law.go:85", after := #[], guard := none }) (v := ?_) rfl (by kernel_rfl) (by kernel_rfl) (by kernel_rfl) (fun _ _ _ h => h) (Or.inl ⟨by rfl, ?_⟩) C9 ?_
      rotate_left
      · intro W' hSw
        clear hSw
        go_simp <;> with_reducible rfl
      try simp only [Act.put, List.setIfInBounds_toArray, List.set_cons_zero, List.set_cons_succ]
      refine wpAnyH_take (i := 3) (oi := { dst := some 71, op := Op.slice 24 (Operand.tmp 69) none (some (Operand.tmp 70)) none, type := 24, pos := "law.go:85", after := #[{ on := 1, ground := Ground.data }, { on := 2, ground := Ground.data }], guard := none }) (v := ?_) rfl (by kernel_rfl) (by kernel_rfl) (by kernel_rfl) (fun _ _ _ h => h) (Or.inl ⟨by rfl, ?_⟩) C9 ?_
      rotate_left
      · intro W' hSw
        clear hSw
        go_simp <;> with_reducible rfl
      try simp only [Act.put, List.setIfInBounds_toArray, List.set_cons_zero, List.set_cons_succ]
      refine wpAnyH_ready (rs := [4]) (by kernel_rfl) (by simp) ?_
      refine AllReadyH.cons (o := { dst := some 72, op := Op.call { callee := Callee.value (Operand.func 9), args := #[Operand.tmp 68, Operand.tmp 71], argTypes := #[23, 24] }, type := 31, pos := "law.go:85", after := #[{ on := 0, ground := Ground.data }, { on := 3, ground := Ground.data }], guard := none }) rfl (fun K hK => ?_) AllReadyH.nil
      go_simp
      refine (HRN.out _ 0).mono ?_
      rintro _ w14 ⟨rfl, hb⟩
      have B14 := Lib.hid (show Below w9.heap.size w9 w14 from C9.trans (hb.mono C9.size))
      clear hb
      go_wp2_with fail
      refine hK.out _ _ B14.out (fun C10 => ?_)
      clear hK K
      try simp only [Act.put, List.setIfInBounds_toArray, List.set_cons_zero, List.set_cons_succ]
      refine wpAnyH_take (i := 5) (oi := { dst := some 67, op := Op.move (Operand.tmp 72), type := 31, pos := "law.go:85", after := #[{ on := 4, ground := Ground.data }], guard := none }) (v := ?_) rfl (by kernel_rfl) (by kernel_rfl) (by kernel_rfl) (fun _ _ _ h => h) (Or.inl ⟨by rfl, ?_⟩) C10 ?_
      rotate_left
      · intro W' hSw
        clear hSw
        go_simp <;> with_reducible rfl
      try simp only [Act.put, List.setIfInBounds_toArray, List.set_cons_zero, List.set_cons_succ]
      refine wpAnyH_take (i := 6) (oi := { dst := some 73, op := Op.extract (Operand.tmp 67) 0, type := 3, pos := "law.go:85", after := #[{ on := 5, ground := Ground.data }], guard := none }) (v := ?_) rfl (by kernel_rfl) (by kernel_rfl) (by kernel_rfl) (fun _ _ _ h => h) (Or.inl ⟨by rfl, ?_⟩) C10 ?_
      rotate_left
      · intro W' hSw
        clear hSw
        go_simp <;> with_reducible rfl
      try simp only [Act.put, List.setIfInBounds_toArray, List.set_cons_zero, List.set_cons_succ]
      refine wpAnyH_take (i := 7) (oi := { dst := some 74, op := Op.extract (Operand.tmp 67) 1, type := 4, pos := "law.go:85", after := #[{ on := 5, ground := Ground.data }, { on := 8, ground := Ground.gcOnly Departure.lateStores }], guard := none }) (v := ?_) rfl (by kernel_rfl) (by kernel_rfl) (by kernel_rfl) (fun _ _ _ h => h) (Or.inl ⟨by rfl, ?_⟩) C10 ?_
      rotate_left
      · intro W' hSw
        clear hSw
        go_simp <;> with_reducible rfl
      try simp only [Act.put, List.setIfInBounds_toArray, List.set_cons_zero, List.set_cons_succ]
      refine wpAnyH_take (i := 8) (oi := { dst := some 11, op := Op.assign (Operand.tmp 73), type := 3, pos := "law.go:85", after := #[{ on := 6, ground := Ground.data }, { on := 4, ground := Ground.chain }, { on := 0, ground := Ground.phase }, { on := 1, ground := Ground.phase }, { on := 2, ground := Ground.phase }, { on := 3, ground := Ground.phase }, { on := 4, ground := Ground.phase }, { on := 5, ground := Ground.phase }, { on := 6, ground := Ground.phase }, { on := 7, ground := Ground.textOnly Departure.lateStores }], guard := none }) (v := ?_) rfl (by kernel_rfl) (by kernel_rfl) (by kernel_rfl) (fun _ _ _ h => h) (Or.inl ⟨by rfl, ?_⟩) C10 ?_
      rotate_left
      · intro W' hSw
        clear hSw
        go_simp <;> with_reducible rfl
      try simp only [Act.put, List.setIfInBounds_toArray, List.set_cons_zero, List.set_cons_succ]
      refine wpAnyH_take (i := 9) (oi := { dst := some 12, op := Op.assign (Operand.tmp 74), type := 4, pos := "law.go:85", after := #[{ on := 7, ground := Ground.data }, { on := 8, ground := Ground.chain }, { on := 0, ground := Ground.phase }, { on := 1, ground := Ground.phase }, { on := 2, ground := Ground.phase }, { on := 3, ground := Ground.phase }, { on := 4, ground := Ground.phase }, { on := 5, ground := Ground.phase }, { on := 6, ground := Ground.phase }, { on := 7, ground := Ground.phase }, { on := 8, ground := Ground.phase }], guard := none }) (v := ?_) rfl (by kernel_rfl) (by kernel_rfl) (by kernel_rfl) (fun _ _ _ h => h) (Or.inl ⟨by rfl, ?_⟩) C10 ?_
      rotate_left
      · intro W' hSw
        clear hSw
        go_simp <;> with_reducible rfl
      try simp only [Act.put, List.setIfInBounds_toArray, List.set_cons_zero, List.set_cons_succ]
      refine wpAnyH_done (by kernel_rfl) ?_ _
      refine NoPanic.normal ?_
      have Y14 := Lib.hid (Y9.out.below B14.out)
      have B15 := Lib.hid (below_step B9.out B14.out)
      obtain ⟨_, g0, g1, g2, g3, g4, g5, g6⟩ := Y14.out
      go_wp2_with fail
      clear g0 g1 g2 g3 g4 g5 g6
      refine (HRG.out _).mono ?_
      rintro _ w16 ⟨rfl, hB⟩
      have B16 := Lib.hid (below_step B15.out hB)
      have Y16 := Lib.hid (Y14.out.below hB)
      clear hB
      obtain ⟨_, g0, g1, g2, g3, g4, g5, g6⟩ := Y16.out
      go_wp2_with fail
      clear g0 g1 g2 g3 g4 g5 g6
      refine (HNW.out _).mono ?_
      rintro _ w17 ⟨rfl, hB⟩
      have B17 := Lib.hid (below_step B16.out hB)
      clear hB
      go_wp2
      go_ret
      exact ⟨rfl, B17.out⟩
    · have e1 : decide ((0 : Int) = (n : Int)) = false := decide_eq_false (by omega)
      have e2 : ((0 : Int) == (n : Int)) = false := by rw [beq_eq_false_iff_ne]; omega
      have e3 : decide (0 = n) = false := decide_eq_false (by omega)
      have e4 : ¬ ((0 : Int) = (n : Int)) := by omega
      have e5 : decide (n = 0) = false := decide_eq_false h0
      have e6 : decide ((n : Int) = 0) = false := decide_eq_false (by omega)
      go_wp2
      refine wp_region_noPanic ?_
      refine wp_region_held_drew (S := fun w' => Below w8.heap.size w8 w') (by kernel_rfl) ((Below.refl _ _).drew) (fun C9 => ?_)
      refine wpAnyH_take (i := 0) (oi := { dst := some 68, op := Op.load 23 (Operand.tmp 3), type := 23, pos := "law.go:85", after := #[], guard := none }) (v := ?_) rfl (by kernel_rfl) (by kernel_rfl) (by kernel_rfl) (fun _ _ _ h => h) (Or.inl ⟨by rfl, ?_⟩) C9 ?_
      rotate_left
      · intro W' hSw
        obtain ⟨_, y0, y1, y2, y3, y4, y5, y6⟩ := Y8.out.below hSw
        clear hSw
        go_simp <;> with_reducible rfl
      try simp only [Act.put, List.setIfInBounds_toArray, List.set_cons_zero, List.set_cons_succ]
      refine wpAnyH_take (i := 1) (oi := { dst := some 69, op := Op.move (Operand.tmp 1), type := 24, pos := "law.go:85", after := #[], guard := none }) (v := ?_) rfl (by kernel_rfl) (by kernel_rfl) (by kernel_rfl) (fun _ _ _ h => h) (Or.inl ⟨by rfl, ?_⟩) C9 ?_
      rotate_left
      · intro W' hSw
        clear hSw
        go_simp <;> with_reducible rfl
      try simp only [Act.put, List.setIfInBounds_toArray, List.set_cons_zero, List.set_cons_succ]
      refine wpAnyH_take (i := 2) (oi := { dst := some 70, op := Op.move (Operand.tmp 10), type := 3, pos := "law.go:85", after := #[], guard := none }) (v := ?_) rfl (by kernel_rfl) (by kernel_rfl) (by kernel_rfl) (fun _ _ _ h => h) (Or.inl ⟨by rfl, ?_⟩) C9 ?_
      rotate_left
      · intro W' hSw
        clear hSw
        go_simp <;> with_reducible rfl
      try simp only [Act.put, List.setIfInBounds_toArray, List.set_cons_zero, List.set_cons_succ]
      refine wpAnyH_take (i := 3) (oi := { dst := some 71, op := Op.slice 24 (Operand.tmp 69) none (some (Operand.tmp 70)) none, type := 24, pos := "law.go:85", after := #[{ on := 1, ground := Ground.data }, { on := 2, ground := Ground.data }], guard := none }) (v := ?_) rfl (by kernel_rfl) (by kernel_rfl) (by kernel_rfl) (fun _ _ _ h => h) (Or.inl ⟨by rfl, ?_⟩) C9 ?_
      rotate_left
      · intro W' hSw
        clear hSw
        go_simp <;> with_reducible rfl
      try simp only [Act.put, List.setIfInBounds_toArray, List.set_cons_zero, List.set_cons_succ]
      refine wpAnyH_ready (rs := [4]) (by kernel_rfl) (by simp) ?_
      refine AllReadyH.cons (o := { dst := some 72, op := Op.call { callee := Callee.value (Operand.func 9), args := #[Operand.tmp 68, Operand.tmp 71], argTypes := #[23, 24] }, type := 31, pos := "law.go:85", after := #[{ on := 0, ground := Ground.data }, { on := 3, ground := Ground.data }], guard := none }) rfl (fun K hK => ?_) AllReadyH.nil
      go_simp
      refine (HRN.out _ 0).mono ?_
      rintro _ w14 ⟨rfl, hb⟩
      have B14 := Lib.hid (show Below w8.heap.size w8 w14 from C9.trans (hb.mono C9.size))
      clear hb
      go_wp2_with fail
      refine hK.out _ _ B14.out (fun C10 => ?_)
      clear hK K
      try simp only [Act.put, List.setIfInBounds_toArray, List.set_cons_zero, List.set_cons_succ]
      refine wpAnyH_take (i := 5) (oi := { dst := some 67, op := Op.move (Operand.tmp 72), type := 31, pos := "law.go:85", after := #[{ on := 4, ground := Ground.data }], guard := none }) (v := ?_) rfl (by kernel_rfl) (by kernel_rfl) (by kernel_rfl) (fun _ _ _ h => h) (Or.inl ⟨by rfl, ?_⟩) C10 ?_
      rotate_left
      · intro W' hSw
        clear hSw
        go_simp <;> with_reducible rfl
      try simp only [Act.put, List.setIfInBounds_toArray, List.set_cons_zero, List.set_cons_succ]
      refine wpAnyH_take (i := 6) (oi := { dst := some 73, op := Op.extract (Operand.tmp 67) 0, type := 3, pos := "law.go:85", after := #[{ on := 5, ground := Ground.data }], guard := none }) (v := ?_) rfl (by kernel_rfl) (by kernel_rfl) (by kernel_rfl) (fun _ _ _ h => h) (Or.inl ⟨by rfl, ?_⟩) C10 ?_
      rotate_left
      · intro W' hSw
        clear hSw
        go_simp <;> with_reducible rfl
      try simp only [Act.put, List.setIfInBounds_toArray, List.set_cons_zero, List.set_cons_succ]
      refine wpAnyH_take (i := 7) (oi := { dst := some 74, op := Op.extract (Operand.tmp 67) 1, type := 4, pos := "law.go:85", after := #[{ on := 5, ground := Ground.data }, { on := 8, ground := Ground.gcOnly Departure.lateStores }], guard := none }) (v := ?_) rfl (by kernel_rfl) (by kernel_rfl) (by kernel_rfl) (fun _ _ _ h => h) (Or.inl ⟨by rfl, ?_⟩) C10 ?_
      rotate_left
      · intro W' hSw
        clear hSw
        go_simp <;> with_reducible rfl
      try simp only [Act.put, List.setIfInBounds_toArray, List.set_cons_zero, List.set_cons_succ]
      refine wpAnyH_take (i := 8) (oi := { dst := some 11, op := Op.assign (Operand.tmp 73), type := 3, pos := "law.go:85", after := #[{ on := 6, ground := Ground.data }, { on := 4, ground := Ground.chain }, { on := 0, ground := Ground.phase }, { on := 1, ground := Ground.phase }, { on := 2, ground := Ground.phase }, { on := 3, ground := Ground.phase }, { on := 4, ground := Ground.phase }, { on := 5, ground := Ground.phase }, { on := 6, ground := Ground.phase }, { on := 7, ground := Ground.textOnly Departure.lateStores }], guard := none }) (v := ?_) rfl (by kernel_rfl) (by kernel_rfl) (by kernel_rfl) (fun _ _ _ h => h) (Or.inl ⟨by rfl, ?_⟩) C10 ?_
      rotate_left
      · intro W' hSw
        clear hSw
        go_simp <;> with_reducible rfl
      try simp only [Act.put, List.setIfInBounds_toArray, List.set_cons_zero, List.set_cons_succ]
      refine wpAnyH_take (i := 9) (oi := { dst := some 12, op := Op.assign (Operand.tmp 74), type := 4, pos := "law.go:85", after := #[{ on := 7, ground := Ground.data }, { on := 8, ground := Ground.chain }, { on := 0, ground := Ground.phase }, { on := 1, ground := Ground.phase }, { on := 2, ground := Ground.phase }, { on := 3, ground := Ground.phase }, { on := 4, ground := Ground.phase }, { on := 5, ground := Ground.phase }, { on := 6, ground := Ground.phase }, { on := 7, ground := Ground.phase }, { on := 8, ground := Ground.phase }], guard := none }) (v := ?_) rfl (by kernel_rfl) (by kernel_rfl) (by kernel_rfl) (fun _ _ _ h => h) (Or.inl ⟨by rfl, ?_⟩) C10 ?_
      rotate_left
      · intro W' hSw
        clear hSw
        go_simp <;> with_reducible rfl
      try simp only [Act.put, List.setIfInBounds_toArray, List.set_cons_zero, List.set_cons_succ]
      refine wpAnyH_done (by kernel_rfl) ?_ _
      refine NoPanic.normal ?_
      have Y14 := Lib.hid (Y8.out.below B14.out)
      have B15 := Lib.hid (below_step B8.out B14.out)
      obtain ⟨_, g0, g1, g2, g3, g4, g5, g6⟩ := Y14.out
      go_wp2_with fail
      clear g0 g1 g2 g3 g4 g5 g6
      refine (HRG.out _).mono ?_
      rintro _ w16 ⟨rfl, hB⟩
      have B16 := Lib.hid (below_step B15.out hB)
      have Y16 := Lib.hid (Y14.out.below hB)
      clear hB
      obtain ⟨_, g0, g1, g2, g3, g4, g5, g6⟩ := Y16.out
      go_wp2_with fail
      clear g0 g1 g2 g3 g4 g5 g6
      refine (HNW.out _).mono ?_
      rintro _ w17 ⟨rfl, hB⟩
      have B17 := Lib.hid (below_step B16.out hB)
      clear hB
      go_wp2
      go_ret
      exact ⟨rfl, B17.out⟩

  have HOK := Lib.hid hok
  have HRN := Lib.hid (jRun hok A n d l (by omega) w7 (HR.out.below B7.out))
  have HRG := Lib.hid (fun W => RefRight_any g W)
  rw [hok] at HRG
  have HNW := Lib.hid (fun W => jNew g hok W)
  simp only [Gm.val] at HRN HRG HNW
  clear hok h8
  obtain ⟨_, g0, g1, g2, g3, g4, g5, g6⟩ := Y7.out
  go_wp2_with fail
  clear g0 g1 g2 g3 g4 g5 g6
  refine HRN.out.mono ?_
  rintro e w8 ⟨c, hc, he, hB⟩
  have HRI := Lib.hid hc
  have hcn := hc.1
  obtain ⟨v, hv⟩ : ∃ v, v = decide (c = n) := ⟨_, rfl⟩
  rw [← hv] at he
  subst he
  have e1 : decide (c = n) = v := hv.symm
  have e2 : ((c : Int) == (n : Int)) = v := by rw [hv, Bool.eq_iff_iff]; simp only [beq_iff_eq, decide_eq_true_eq]; omega
  have e3 : decide ((c : Int) = (n : Int)) = v := by rw [hv]; exact decide_eq_decide.2 (by omega)
  have B8 := Lib.hid (below_step B7.out hB)
  have Y8 := Lib.hid (Y7.out.below hB)
  clear hc hB B7 Y7 HRN hv
  have B13 := B8
  have Y13 := Y8
  by_cases h0 : 0 < c
  · have c1 : decide ((0 : Int) < (c : Int)) = true := decide_eq_true (by omega)
    have c2 : decide (0 < c) = true := decide_eq_true h0
    have wk : IntKind.i64.wrap (ku : Int) = (ku : Int) := IntWalk.i64_in _ (by omega)
    have wc : IntKind.i64.wrap ((c : Int) + 1) = (c : Int) + 1 := IntWalk.i64_in _ (by have := h800.out; omega)
    obtain ⟨q, hq⟩ : ∃ q, q = ku % (c + 1) := ⟨_, rfl⟩
    have hmod : (ku : Int) % ((c : Int) + 1) = (q : Int) := by rw [hq]; push_cast; rfl
    have htm : (ku : Int).tmod ((c : Int) + 1) = (q : Int) := by rw [Int.tmod_eq_emod_of_nonneg (by omega)]; exact hmod
    have HQC := Lib.hid (show q ≤ c by have := Nat.mod_lt ku (show 0 < c + 1 by omega); omega)
    clear hq h0
    go_wp2
    clear c1 c2 wk wc hmod htm e1 e2 e3
    obtain ⟨w13, hw13⟩ : ∃ w13, w13 = w8 := ⟨_, rfl⟩
    rw [← hw13] at B13 Y13 ⊢
    clear hw13 B8 Y8 d1
    have HRT := Lib.hid (fun W hr => jRun HOK.out A q d (l.take q) (by have := HQC.out; have := HRI.out.1; have := h800.out; have := HD.out; omega) W hr)
    simp only [Gm.val] at HRT
    have HRQ := Lib.hid (fun W (hB : Below w13.heap.size w13 W) => ((HR.out.below B13.out).below hB).take_ (q := q) (by have := HQC.out; have := HRI.out.1; have := h800.out; have := HD.out; omega))
    have HSL := run_slice_to2 (P := Try.prog) Try.underlying24 hti (by kernel_rfl) A n d q (by have := HQC.out; have := HRI.out.1; have := h800.out; have := HD.out; omega)
    refine wp_region_noPanic ?_
    refine wp_region_held_drew (S := fun w' => Below w13.heap.size w13 w') (by kernel_rfl) ((Below.refl _ _).drew) (fun C9 => ?_)
    refine wpAnyH_take (i := 0) (oi := { dst := some 68, op := Op.load 23 (Operand.tmp 3), type := 23, pos := "law.go:85", after := #[], guard := none }) (v := ?_) rfl (by kernel_rfl) (by kernel_rfl) (by kernel_rfl) (fun _ _ _ h => h) (Or.inl ⟨by rfl, ?_⟩) C9 ?_
    rotate_left
    · intro W' hSw
      obtain ⟨_, y0, y1, y2, y3, y4, y5, y6⟩ := Y13.out.below hSw
      clear hSw
      go_simp <;> with_reducible rfl
    try simp only [Act.put, List.setIfInBounds_toArray, List.set_cons_zero, List.set_cons_succ]
    refine wpAnyH_take (i := 1) (oi := { dst := some 69, op := Op.move (Operand.tmp 1), type := 24, pos := "law.go:85", after := #[], guard := none }) (v := ?_) rfl (by kernel_rfl) (by kernel_rfl) (by kernel_rfl) (fun _ _ _ h => h) (Or.inl ⟨by rfl, ?_⟩) C9 ?_
    rotate_left
    · intro W' hSw
      clear hSw
      go_simp <;> with_reducible rfl
    try simp only [Act.put, List.setIfInBounds_toArray, List.set_cons_zero, List.set_cons_succ]
    refine wpAnyH_take (i := 2) (oi := { dst := some 70, op := Op.move (Operand.tmp 10), type := 3, pos := "law.go:85", after := #[], guard := none }) (v := ?_) rfl (by kernel_rfl) (by kernel_rfl) (by kernel_rfl) (fun _ _ _ h => h) (Or.inl ⟨by rfl, ?_⟩) C9 ?_
    rotate_left
    · intro W' hSw
      clear hSw
      go_simp <;> with_reducible rfl
    try simp only [Act.put, List.setIfInBounds_toArray, List.set_cons_zero, List.set_cons_succ]
    refine wpAnyH_take (i := 3) (oi := { dst := some 71, op := Op.slice 24 (Operand.tmp 69) none (some (Operand.tmp 70)) none, type := 24, pos := "law.go:85", after := #[{ on := 1, ground := Ground.data }, { on := 2, ground := Ground.data }], guard := none }) (v := ?_) rfl (by kernel_rfl) (by kernel_rfl) (by kernel_rfl) (fun _ _ _ h => h) (Or.inl ⟨by rfl, ?_⟩) C9 ?_
    rotate_left
    · intro W' hSw
      clear hSw
      go_simp <;> with_reducible rfl
    try simp only [Act.put, List.setIfInBounds_toArray, List.set_cons_zero, List.set_cons_succ]
    refine wpAnyH_ready (rs := [4]) (by kernel_rfl) (by simp) ?_
    refine AllReadyH.cons (o := { dst := some 72, op := Op.call { callee := Callee.value (Operand.func 9), args := #[Operand.tmp 68, Operand.tmp 71], argTypes := #[23, 24] }, type := 31, pos := "law.go:85", after := #[{ on := 0, ground := Ground.data }, { on := 3, ground := Ground.data }], guard := none }) rfl (fun K hK => ?_) AllReadyH.nil
    go_simp
    refine (HRT.out _ (HRQ.out _ C9)).mono ?_
    rintro _ w14 ⟨x, hx, rfl, hb⟩
    obtain rfl := run_take HRI.out HQC.out hx
    have B14 := Lib.hid (show Below w13.heap.size w13 w14 from C9.trans (hb.mono C9.size))
    clear hb hx
    go_wp2_with fail
    refine hK.out _ _ B14.out (fun C10 => ?_)
    clear hK K
    try simp only [Act.put, List.setIfInBounds_toArray, List.set_cons_zero, List.set_cons_succ]
    refine wpAnyH_take (i := 5) (oi := { dst := some 67, op := Op.move (Operand.tmp 72), type := 31, pos := "law.go:85", after := #[{ on := 4, ground := Ground.data }], guard := none }) (v := ?_) rfl (by kernel_rfl) (by kernel_rfl) (by kernel_rfl) (fun _ _ _ h => h) (Or.inl ⟨by rfl, ?_⟩) C10 ?_
    rotate_left
    · intro W' hSw
      clear hSw
      go_simp <;> with_reducible rfl
    try simp only [Act.put, List.setIfInBounds_toArray, List.set_cons_zero, List.set_cons_succ]
    refine wpAnyH_take (i := 6) (oi := { dst := some 73, op := Op.extract (Operand.tmp 67) 0, type := 3, pos := "law.go:85", after := #[{ on := 5, ground := Ground.data }], guard := none }) (v := ?_) rfl (by kernel_rfl) (by kernel_rfl) (by kernel_rfl) (fun _ _ _ h => h) (Or.inl ⟨by rfl, ?_⟩) C10 ?_
    rotate_left
    · intro W' hSw
      clear hSw
      go_simp <;> with_reducible rfl
    try simp only [Act.put, List.setIfInBounds_toArray, List.set_cons_zero, List.set_cons_succ]
    refine wpAnyH_take (i := 7) (oi := { dst := some 74, op := Op.extract (Operand.tmp 67) 1, type := 4, pos := "law.go:85", after := #[{ on := 5, ground := Ground.data }, { on := 8, ground := Ground.gcOnly Departure.lateStores }], guard := none }) (v := ?_) rfl (by kernel_rfl) (by kernel_rfl) (by kernel_rfl) (fun _ _ _ h => h) (Or.inl ⟨by rfl, ?_⟩) C10 ?_
    rotate_left
    · intro W' hSw
      clear hSw
      go_simp <;> with_reducible rfl
    try simp only [Act.put, List.setIfInBounds_toArray, List.set_cons_zero, List.set_cons_succ]
    refine wpAnyH_take (i := 8) (oi := { dst := some 11, op := Op.assign (Operand.tmp 73), type := 3, pos := "law.go:85", after := #[{ on := 6, ground := Ground.data }, { on := 4, ground := Ground.chain }, { on := 0, ground := Ground.phase }, { on := 1, ground := Ground.phase }, { on := 2, ground := Ground.phase }, { on := 3, ground := Ground.phase }, { on := 4, ground := Ground.phase }, { on := 5, ground := Ground.phase }, { on := 6, ground := Ground.phase }, { on := 7, ground := Ground.textOnly Departure.lateStores }], guard := none }) (v := ?_) rfl (by kernel_rfl) (by kernel_rfl) (by kernel_rfl) (fun _ _ _ h => h) (Or.inl ⟨by rfl, ?_⟩) C10 ?_
    rotate_left
    · intro W' hSw
      clear hSw
      go_simp <;> with_reducible rfl
    try simp only [Act.put, List.setIfInBounds_toArray, List.set_cons_zero, List.set_cons_succ]
    refine wpAnyH_take (i := 9) (oi := { dst := some 12, op := Op.assign (Operand.tmp 74), type := 4, pos := "law.go:85", after := #[{ on := 7, ground := Ground.data }, { on := 8, ground := Ground.chain }, { on := 0, ground := Ground.phase }, { on := 1, ground := Ground.phase }, { on := 2, ground := Ground.phase }, { on := 3, ground := Ground.phase }, { on := 4, ground := Ground.phase }, { on := 5, ground := Ground.phase }, { on := 6, ground := Ground.phase }, { on := 7, ground := Ground.phase }, { on := 8, ground := Ground.phase }], guard := none }) (v := ?_) rfl (by kernel_rfl) (by kernel_rfl) (by kernel_rfl) (fun _ _ _ h => h) (Or.inl ⟨by rfl, ?_⟩) C10 ?_
    rotate_left
    · intro W' hSw
      clear hSw
      go_simp <;> with_reducible rfl
    try simp only [Act.put, List.setIfInBounds_toArray, List.set_cons_zero, List.set_cons_succ]
    refine wpAnyH_done (by kernel_rfl) ?_ _
    refine NoPanic.normal ?_
    have Y14 := Lib.hid (Y13.out.below B14.out)
    have B15 := Lib.hid (below_step B13.out B14.out)
    clear HRT HRQ HSL B13 Y13
    obtain ⟨_, g0, g1, g2, g3, g4, g5, g6⟩ := Y14.out
    go_wp2_with fail
    clear g0 g1 g2 g3 g4 g5 g6
    refine (HRG.out _).mono ?_
    rintro _ w16 ⟨rfl, hB⟩
    have B16 := Lib.hid (below_step B15.out hB)
    have Y16 := Lib.hid (Y14.out.below hB)
    clear hB B15 Y14 B14
    obtain ⟨_, g0, g1, g2, g3, g4, g5, g6⟩ := Y16.out
    go_wp2_with fail
    clear g0 g1 g2 g3 g4 g5 g6
    refine (HNW.out _).mono ?_
    rintro _ w17 ⟨p, rfl, hB, hJ⟩
    have B17 := Lib.hid (below_step B16.out hB)
    have L16 := Lib.hid B16.out.size
    have LB := Lib.hid (below_new w17 (.cells #[.int .i64 0, .int .u8 0] 36))
    have J18 := Lib.hid (hJ.shrink LB.out)
    have X18 := Lib.hid (CRow.new w17 #[.int .i64 0, .int .u8 0] 36)
    have B18 := Lib.hid (below_step B17.out LB.out)
    have F18 := Lib.hid (Jf.new g)
    obtain ⟨lb, hlb⟩ : ∃ lb, lb = w17.heap.size := ⟨_, rfl⟩
    rw [← hlb] at X18
    have I18 := Lib.hid (show ∀ k, ((fun k => w16.heap.size ≤ k) k ∧ (k < w17.heap.size ∨ (w17.alloc (.cells #[.int .i64 0, .int .u8 0] 36)).heap.size ≤ k)) → w.heap.size ≤ k ∧ k ≠ lb from fun k hk => by
      have e : (w17.alloc (.cells #[.int .i64 0, .int .u8 0] 36)).heap.size = w17.heap.size + 1 := by simp
      have h1 : w16.heap.size ≤ k := hk.1
      have h2 := L16.out
      rcases hk.2 with h | h
      · exact ⟨by omega, by omega⟩
      · have h : (w17.alloc (.cells #[.int .i64 0, .int .u8 0] 36)).heap.size ≤ k := h
        exact ⟨by omega, by omega⟩)
    have HLB := Lib.hid (show lb < w17.heap.size + 1 ∧ w.heap.size ≤ lb by rw [hlb]; have := B17.out.size; omega)
    have HLE := Lib.hid hlb
    clear hB hJ HNW HRG B16 Y16 hlb
    go_wp2
    rw [← HLE.out]
    clear HLE
    go_loopw [16, 102] (fun v i wr => ∃ (k : Nat) (I : Nat → Prop) (t : Cy) (y : Bool), k ≤ n ∧ v = .bool y ∧ i = .int .i64 (k : Int) ∧ Hid (Jf g k (stJ g l k)) ∧ Hid (JH I wr p g (stJ g l k)) ∧ Hid (CRow wr lb 36 #[.int .i64 t.k, .int .u8 (t.b : Int)]) ∧ Hid (y = (stJ g l k).rej) ∧
      Hid ((stJ g l k).rej = false → (stJ g l k).pol = true → t.k = 4 ∨ (t.k = 1 ∧ t.b = 112)) ∧ Hid (∀ q, I q → w.heap.size ≤ q ∧ q ≠ lb) ∧ Hid (Below w.heap.size w wr)) (fun _ i _ => n - (intOf i).toNat)
    case atStart => exact ⟨0, _, ⟨0, 0⟩, false, Nat.zero_le _, rfl, rfl, F18, J18, X18, Lib.hid rfl, Lib.hid (fun _ h => by cases h), I18, B18⟩
    case round =>
      obtain ⟨k, I, t, y, hk, rfl, rfl, HF, HJ, HX, HY, HRU, HI, HB⟩ := hrel
      clear F18 J18 X18 I18 B18 B17 LB
      rename World => wr
      by_cases hlt : k < n
      · obtain ⟨b9, o9, u, rfl, hb9, HU, hin, x0, x1⟩ := (HR.out.below HB.out).at_ hlt
        have d1 : decide ((k : Int) < (n : Int)) = true := decide_eq_true (by omega)
        have i0 : (0 : Int) ≤ (k : Int) := by omega
        have N1 := Lib.hid (below_new wr (.cells #[.int .i64 u.k, .int .u8 (u.b : Int)] 36))
        have XB := Lib.hid (CRow.new wr #[.int .i64 u.k, .int .u8 (u.b : Int)] 36)
        have HA1 := Lib.hid (HJ.out.shrink N1.out)
        obtain ⟨I2, hI2⟩ : ∃ I2, I2 = fun q => I q ∧ (q < wr.heap.size ∨ (wr.alloc (.cells #[.int .i64 u.k, .int .u8 (u.b : Int)] 36)).heap.size ≤ q) := ⟨_, rfl⟩
        have HI2 := Lib.hid (show ∀ q, I2 q → w.heap.size ≤ q ∧ q ≠ lb ∧ q ≠ wr.heap.size from fun q hq => by
          rw [hI2] at hq
          have e : (wr.alloc (.cells #[.int .i64 u.k, .int .u8 (u.b : Int)] 36)).heap.size = wr.heap.size + 1 := by simp
          have h1 := HI.out q hq.1
          rcases hq.2 with h | h
          · exact ⟨h1.1, h1.2, by omega⟩
          · have h : (wr.alloc (.cells #[.int .i64 u.k, .int .u8 (u.b : Int)] 36)).heap.size ≤ q := h
            exact ⟨h1.1, h1.2, by omega⟩)
        rw [← hI2] at HA1
        have HX1 := Lib.hid (HX.out.below N1.out)
        have NE := Lib.hid (show lb ≠ wr.heap.size from fun e => by have := HX.out.lt; omega)
        have B1 := Lib.hid (below_step HB.out N1.out)
        have HS := Lib.hid (fun W (hh : JH I2 W p g (stJ g l k)) => jStep (q := k) u.k u.b hin.2.2 (by have := h800.out; omega) HF.out hh)
        have HL := Lib.hid (HF.out.step HOK.out HJ.out.l8 u.k u.b hin.2.2)
        have HBU := Lib.hid (jBusy HA1.out)
        have SR := Lib.hid (fun h => step_rej (g := g) (j := stJ g l k) h u.k u.b)
        have SN := Lib.hid (fun h hv => step_no (g := g) (j := stJ g l k) (k := u.k) (b := u.b) h hv)
        have SY := Lib.hid (fun h hv => step_yes (g := g) (j := stJ g l k) (k := u.k) (b := u.b) h hv)
        rw [← stJ_succ HU.out] at HL SN SY
        rw [← stJ_succ HU.out] at HS
        obtain ⟨uk, huk⟩ : ∃ uk, uk = u.k := ⟨_, rfl⟩
        obtain ⟨ub, hub⟩ : ∃ ub, ub = u.b := ⟨_, rfl⟩
        obtain ⟨v, hv⟩ : ∃ v, v = ((stJ g l k).step g u.k u.b).1 := ⟨_, rfl⟩
        rw [← hv] at HS SN SY
        obtain ⟨j1, hj1⟩ : ∃ j1, j1 = stJ g l k := ⟨_, rfl⟩
        obtain ⟨j2, hj2⟩ : ∃ j2, j2 = stJ g l (k + 1) := ⟨_, rfl⟩
        have HJ2 := Lib.hid hj2
        have HV := Lib.hid (show j1.rej = true → v = false ∧ j2 = j1 from fun h => by
          rw [hj1] at h
          have h1 := SR.out h
          refine ⟨by rw [hv, h1], ?_⟩
          rw [hj2, stJ_succ HU.out, h1, hj1])
        rw [← hj1] at HA1 HS HBU SN SY HRU HY
        rw [← hj2] at HS HL SN SY
        try rw [← huk] at x0
        try rw [← hub] at x0
        try rw [← huk] at x1
        try rw [← hub] at x1
        try rw [← huk] at XB
        try rw [← hub] at XB
        try rw [← huk] at HS
        try rw [← hub] at HS
        try rw [← huk] at N1
        try rw [← hub] at N1
        try rw [← huk] at HA1
        try rw [← hub] at HA1
        try rw [← huk] at HX1
        try rw [← hub] at HX1
        try rw [← huk] at B1
        try rw [← hub] at B1
        try rw [← huk] at SY
        try rw [← hub] at SY
        try rw [← huk] at HI2
        try rw [← hub] at HI2
        try rw [← huk] at HBU
        try rw [← hub] at HBU
        try rw [← huk] at SN
        try rw [← hub] at SN
        have HUK := Lib.hid huk
        have HUB := Lib.hid hub
        have HIN := Lib.hid hin
        clear HJ HB hb9 hin HX HF SR huk hub hv hj1 hj2 hI2 HI
        go_wp2_with fail
        clear x0 x1
        refine HBU.out.mono ?_
        rintro _ w2 ⟨rfl, hb2⟩
        have J2 := Lib.hid (HA1.out.below hb2)
        have X2 := Lib.hid (HX1.out.below hb2)
        have Z2 := Lib.hid (XB.out.below hb2)
        have B2 := Lib.hid (below_step B1.out hb2)
        have z0 := Z2.out.cell_at 0 _ rfl
        have z1 := Z2.out.cell_at 1 _ rfl
        clear hb2 HBU HA1 HX1 XB B1
        go_wp2_with fail
        clear z0 z1
        refine (HS.out _ J2.out).mono ?_
        rintro _ w3 ⟨rfl, h3, b3⟩
        have J3 := Lib.hid h3
        have X3 := Lib.hid (X2.out.btw b3 (fun e => (HI2.out _ e).2.1 rfl))
        have Z3 := Lib.hid (Z2.out.btw b3 (fun e => (HI2.out _ e).2.2 rfl))
        have B3 := Lib.hid (B2.out.trans (b3.below (S := w.heap.size) (fun q hq => (HI2.out q hq).1) B2.out.size))
        clear h3 b3 HS J2 X2 Z2 B2
        have z0 := Z3.out.cell_at 0 _ rfl
        have z1 := Z3.out.cell_at 1 _ rfl
        have y0 := X3.out.cell_at 0 _ rfl
        have y1 := X3.out.cell_at 1 _ rfl
        have f0 := X3.out.frozen 0
        have f1 := X3.out.frozen 1
        have X4 := Lib.hid (show CRow ((w3.setCell ⟨lb, 0, none⟩ (.int .i64 uk)).setCell ⟨lb, 1, none⟩ (.int .u8 (ub : Int))) lb 36 #[.int .i64 uk, .int .u8 (ub : Int)] from (X3.out.setCell 0 (.int .i64 uk)).setCell 1 (.int .u8 (ub : Int)))
        have K4 := Lib.hid (((Btw.refl (I := fun q => q = lb) w3).setCell (p := ⟨lb, 0, none⟩) (v := .int .i64 uk) rfl).setCell (p := ⟨lb, 1, none⟩) (v := .int .u8 (ub : Int)) rfl)
        have J4 := Lib.hid (J3.out.away K4.out (fun q hq e => (HI2.out q e).2.1 hq))
        have B4 := Lib.hid (B3.out.trans (K4.out.below (S := w.heap.size) (fun q hq => by rw [hq]; exact HLB.out.2) B3.out.size))
        have I4 := Lib.hid (fun q (hq : I2 q ∧ (q < w3.heap.size ∨ ((w3.setCell ⟨lb, 0, none⟩ (.int .i64 uk)).setCell ⟨lb, 1, none⟩ (.int .u8 (ub : Int))).heap.size ≤ q)) => show w.heap.size ≤ q ∧ q ≠ lb from ⟨(HI2.out q hq.1).1, (HI2.out q hq.1).2.1⟩)
        cases hr : j1.rej with
        | true =>
          have h1 := HV.out hr
          obtain rfl := h1.1
          have hy : y = true := by rw [HY.out, hr]
          have REJ := Lib.hid (show true = j2.rej by rw [h1.2, hr])
          subst hy
          clear h1 hr HV SN SY
          cases hbu : j1.busy with
          | false =>
            clear hbu
            go_wp2
            go_roundw
            case rel => exact ⟨k + 1, _, u, true, by omega, rfl, by go_num, by rw [← HJ2.out]; exact HL, by rw [← HJ2.out]; exact J4, by rw [← HUK.out, ← HUB.out]; exact X4, Lib.hid (by rw [← HJ2.out]; exact REJ.out), Lib.hid (by rw [← HJ2.out]; exact (fun h => by rw [← REJ.out] at h; cases h)), I4, B4⟩
            case measure => simp [intOf]; omega
          | true =>
            clear hbu
            go_wp2
            go_roundw
            case rel => exact ⟨k + 1, _, u, true, by omega, rfl, by go_num, by rw [← HJ2.out]; exact HL, by rw [← HJ2.out]; exact J4, by rw [← HUK.out, ← HUB.out]; exact X4, Lib.hid (by rw [← HJ2.out]; exact REJ.out), Lib.hid (by rw [← HJ2.out]; exact (fun h => by rw [← REJ.out] at h; cases h)), I4, B4⟩
            case measure => simp [intOf]; omega
        | false =>
          have hy : y = false := by rw [HY.out, hr]
          subst hy
          cases hvv : v with
          | false =>
            have REJ := Lib.hid (show true = j2.rej from (SN.out hr hvv).symm)
            subst hvv
            clear hr HV SN SY
            cases hbu : j1.busy with
            | false =>
              clear hbu
              go_wp2
              go_roundw
              case rel => exact ⟨k + 1, _, u, true, by omega, rfl, by go_num, by rw [← HJ2.out]; exact HL, by rw [← HJ2.out]; exact J4, by rw [← HUK.out, ← HUB.out]; exact X4, Lib.hid (by rw [← HJ2.out]; exact REJ.out), Lib.hid (by rw [← HJ2.out]; exact (fun h => by rw [← REJ.out] at h; cases h)), I4, B4⟩
              case measure => simp [intOf]; omega
            | true =>
              clear hbu
              go_wp2
              go_roundw
              case rel => exact ⟨k + 1, _, u, true, by omega, rfl, by go_num, by rw [← HJ2.out]; exact HL, by rw [← HJ2.out]; exact J4, by rw [← HUK.out, ← HUB.out]; exact X4, Lib.hid (by rw [← HJ2.out]; exact REJ.out), Lib.hid (by rw [← HJ2.out]; exact (fun h => by rw [← REJ.out] at h; cases h)), I4, B4⟩
              case measure => simp [intOf]; omega
          | true =>
            have hsy := SY.out hr hvv
            have REJ := Lib.hid (show false = j2.rej from hsy.1.symm)
            have RUL := Lib.hid (show j2.rej = false → j2.pol = true → u.k = 4 ∨ (u.k = 1 ∧ u.b = 112) from fun _ hp => by
              by_cases e : uk = 4
              · exact .inl (by rw [← HUK.out]; exact e)
              · rw [hsy.2.1 e] at hp
                have := of_decide_eq_true hp
                exact .inr (by rw [← HUK.out, ← HUB.out]; exact this))
            have HRX := Lib.hid (HRU.out hr)
            subst hvv
            cases hbu : j1.busy with
            | false =>
              clear hr HV SN SY hsy hbu
              go_wp2
              go_roundw
              case rel => exact ⟨k + 1, _, u, false, by omega, rfl, by go_num, by rw [← HJ2.out]; exact HL, by rw [← HJ2.out]; exact J4, by rw [← HUK.out, ← HUB.out]; exact X4, Lib.hid (by rw [← HJ2.out]; exact REJ.out), Lib.hid (by rw [← HJ2.out]; exact RUL.out), I4, B4⟩
              case measure => simp [intOf]; omega
            | true =>
              have hcase := hsy.2.2 hbu
              clear hr HV SN SY hsy hbu
              rcases hcase with ⟨hk1, hb1 | hb1⟩ | ⟨hk4, hp⟩
              · subst hk1 hb1
                go_wp2
                go_roundw
                case rel => exact ⟨k + 1, _, u, false, by omega, rfl, by go_num, by rw [← HJ2.out]; exact HL, by rw [← HJ2.out]; exact J4, by rw [← HUK.out, ← HUB.out]; exact X4, Lib.hid (by rw [← HJ2.out]; exact REJ.out), Lib.hid (by rw [← HJ2.out]; exact RUL.out), I4, B4⟩
                case measure => simp [intOf]; omega
              · subst hk1 hb1
                go_wp2
                go_roundw
                case rel => exact ⟨k + 1, _, u, false, by omega, rfl, by go_num, by rw [← HJ2.out]; exact HL, by rw [← HJ2.out]; exact J4, by rw [← HUK.out, ← HUB.out]; exact X4, Lib.hid (by rw [← HJ2.out]; exact REJ.out), Lib.hid (by rw [← HJ2.out]; exact RUL.out), I4, B4⟩
                case measure => simp [intOf]; omega
              · subst hk4
                obtain ⟨tk, htk⟩ : ∃ tk, tk = t.k := ⟨_, rfl⟩
                obtain ⟨tb, htb⟩ : ∃ tb, tb = t.b := ⟨_, rfl⟩
                have hrx := HRX.out hp
                rw [← htk] at y0 hrx
                rw [← htb] at y1 hrx
                clear htk htb hp
                rcases hrx with hrx | ⟨hrx, hrb⟩
                · subst hrx
                  go_wp2
                  go_roundw
                  case rel => exact ⟨k + 1, _, u, false, by omega, rfl, by go_num, by rw [← HJ2.out]; exact HL, by rw [← HJ2.out]; exact J4, by rw [← HUK.out, ← HUB.out]; exact X4, Lib.hid (by rw [← HJ2.out]; exact REJ.out), Lib.hid (by rw [← HJ2.out]; exact RUL.out), I4, B4⟩
                  case measure => simp [intOf]; omega
                · subst hrx hrb
                  go_wp2
                  go_roundw
                  case rel => exact ⟨k + 1, _, u, false, by omega, rfl, by go_num, by rw [← HJ2.out]; exact HL, by rw [← HJ2.out]; exact J4, by rw [← HUK.out, ← HUB.out]; exact X4, Lib.hid (by rw [← HJ2.out]; exact REJ.out), Lib.hid (by rw [← HJ2.out]; exact RUL.out), I4, B4⟩
                  case measure => simp [intOf]; omega
      · obtain rfl : k = n := by omega
        have d1 : decide ((k : Int) < (k : Int)) = false := decide_eq_false (by omega)
        have HPW := Lib.hid (jPower (q := k) (by have := h800.out; omega) HF.out HJ.out)
        have HFP := Lib.hid (show Jf g k (stJ g l k).power from { HF.out.stop with })
        clear hk hlt HX HY HRU HF
        go_wp2_with fail
        refine HPW.out.mono ?_
        rintro _ w20 ⟨rfl, h, hb⟩
        have J20 := Lib.hid h
        have B20 := Lib.hid (HB.out.trans (hb.below (S := w.heap.size) (fun q hq => (HI.out q hq).1) HB.out.size))
        have HBU := Lib.hid (show Calls Try.prog 16 #[.pointer (some ⟨p, 0, none⟩)] w20 (Gives (.bool false) w20) from jBusy J20.out)
        clear h hb HPW HB HJ
        go_wp2_with fail
        refine HBU.out.mono ?_
        rintro _ w21 ⟨rfl, hb⟩
        have J21 := Lib.hid (J20.out.below hb)
        have B21 := Lib.hid (below_step B20.out hb)
        have HST := Lib.hid (show Calls Try.prog 15 #[.pointer (some ⟨p, 0, none⟩), .agg #[.int .i64 1, .int .u8 255]] w21 (ActsJ I p g (.bool true) ((stJ g l k).power.step g 1 255).2 w21) from jStep (q := k) 1 255 (by omega) (by have := h800.out; omega) HFP.out J21.out)
        clear hb HBU J20 B20
        go_wp2_with fail
        refine HST.out.mono ?_
        rintro _ w22 ⟨rfl, h, hb⟩
        have HBU := Lib.hid (show Calls Try.prog 16 #[.pointer (some ⟨p, 0, none⟩)] w22 (Gives (.bool true) w22) from jBusy h)
        have B22 := Lib.hid (B21.out.trans (hb.below (S := w.heap.size) (fun q hq => (HI.out q hq).1) B21.out.size))
        clear h hb HST J21 B21
        go_wp2_with fail
        refine HBU.out.mono ?_
        rintro _ w23 ⟨rfl, hb⟩
        have B23 := Lib.hid (below_step B22.out hb)
        clear hb HBU B22
        go_wp2
        go_ret
        exact ⟨rfl, B23.out⟩
  · have c1 : decide ((0 : Int) < (c : Int)) = false := decide_eq_false (by omega)
    have c2 : decide (0 < c) = false := decide_eq_false h0
    obtain ⟨q, hq⟩ : ∃ q : Nat, q = 0 := ⟨_, rfl⟩
    have HQC := Lib.hid (show q ≤ c by omega)
    go_wp2
    rw [show (Value.int .i64 0) = Value.int .i64 ((q : Nat) : Int) by rw [hq]; rfl]
    clear c1 c2 e1 e2 e3 hq
    obtain ⟨w13, hw13⟩ : ∃ w13, w13 = w8 := ⟨_, rfl⟩
    rw [← hw13] at B13 Y13 ⊢
    clear hw13 B8 Y8 d1
    have HRT := Lib.hid (fun W hr => jRun HOK.out A q d (l.take q) (by have := HQC.out; have := HRI.out.1; have := h800.out; have := HD.out; omega) W hr)
    simp only [Gm.val] at HRT
    have HRQ := Lib.hid (fun W (hB : Below w13.heap.size w13 W) => ((HR.out.below B13.out).below hB).take_ (q := q) (by have := HQC.out; have := HRI.out.1; have := h800.out; have := HD.out; omega))
    have HSL := run_slice_to2 (P := Try.prog) Try.underlying24 hti (by kernel_rfl) A n d q (by have := HQC.out; have := HRI.out.1; have := h800.out; have := HD.out; omega)
    refine wp_region_noPanic ?_
    refine wp_region_held_drew (S := fun w' => Below w13.heap.size w13 w') (by kernel_rfl) ((Below.refl _ _).drew) (fun C9 => ?_)
    refine wpAnyH_take (i := 0) (oi := { dst := some 68, op := Op.load 23 (Operand.tmp 3), type := 23, pos := "law.go:85", after := #[], guard := none }) (v := ?_) rfl (by kernel_rfl) (by kernel_rfl) (by kernel_rfl) (fun _ _ _ h => h) (Or.inl ⟨by rfl, ?_⟩) C9 ?_
    rotate_left
    · intro W' hSw
      obtain ⟨_, y0, y1, y2, y3, y4, y5, y6⟩ := Y13.out.below hSw
      clear hSw
      go_simp <;> with_reducible rfl
    try simp only [Act.put, List.setIfInBounds_toArray, List.set_cons_zero, List.set_cons_succ]
    refine wpAnyH_take (i := 1) (oi := { dst := some 69, op := Op.move (Operand.tmp 1), type := 24, pos := "law.go:85", after := #[], guard := none }) (v := ?_) rfl (by kernel_rfl) (by kernel_rfl) (by kernel_rfl) (fun _ _ _ h => h) (Or.inl ⟨by rfl, ?_⟩) C9 ?_
    rotate_left
    · intro W' hSw
      clear hSw
      go_simp <;> with_reducible rfl
    try simp only [Act.put, List.setIfInBounds_toArray, List.set_cons_zero, List.set_cons_succ]
    refine wpAnyH_take (i := 2) (oi := { dst := some 70, op := Op.move (Operand.tmp 10), type := 3, pos := "law.go:85", after := #[], guard := none }) (v := ?_) rfl (by kernel_rfl) (by kernel_rfl) (by kernel_rfl) (fun _ _ _ h => h) (Or.inl ⟨by rfl, ?_⟩) C9 ?_
    rotate_left
    · intro W' hSw
      clear hSw
      go_simp <;> with_reducible rfl
    try simp only [Act.put, List.setIfInBounds_toArray, List.set_cons_zero, List.set_cons_succ]
    refine wpAnyH_take (i := 3) (oi := { dst := some 71, op := Op.slice 24 (Operand.tmp 69) none (some (Operand.tmp 70)) none, type := 24, pos := "law.go:85", after := #[{ on := 1, ground := Ground.data }, { on := 2, ground := Ground.data }], guard := none }) (v := ?_) rfl (by kernel_rfl) (by kernel_rfl) (by kernel_rfl) (fun _ _ _ h => h) (Or.inl ⟨by rfl, ?_⟩) C9 ?_
    rotate_left
    · intro W' hSw
      clear hSw
      go_simp <;> with_reducible rfl
    try simp only [Act.put, List.setIfInBounds_toArray, List.set_cons_zero, List.set_cons_succ]
    refine wpAnyH_ready (rs := [4]) (by kernel_rfl) (by simp) ?_
    refine AllReadyH.cons (o := { dst := some 72, op := Op.call { callee := Callee.value (Operand.func 9), args := #[Operand.tmp 68, Operand.tmp 71], argTypes := #[23, 24] }, type := 31, pos := "law.go:85", after := #[{ on := 0, ground := Ground.data }, { on := 3, ground := Ground.data }], guard := none }) rfl (fun K hK => ?_) AllReadyH.nil
    go_simp
    refine (HRT.out _ (HRQ.out _ C9)).mono ?_
    rintro _ w14 ⟨x, hx, rfl, hb⟩
    obtain rfl := run_take HRI.out HQC.out hx
    have B14 := Lib.hid (show Below w13.heap.size w13 w14 from C9.trans (hb.mono C9.size))
    clear hb hx
    go_wp2_with fail
    refine hK.out _ _ B14.out (fun C10 => ?_)
    clear hK K
    try simp only [Act.put, List.setIfInBounds_toArray, List.set_cons_zero, List.set_cons_succ]
    refine wpAnyH_take (i := 5) (oi := { dst := some 67, op := Op.move (Operand.tmp 72), type := 31, pos := "law.go:85", after := #[{ on := 4, ground := Ground.data }], guard := none }) (v := ?_) rfl (by kernel_rfl) (by kernel_rfl) (by kernel_rfl) (fun _ _ _ h => h) (Or.inl ⟨by rfl, ?_⟩) C10 ?_
    rotate_left
    · intro W' hSw
      clear hSw
      go_simp <;> with_reducible rfl
    try simp only [Act.put, List.setIfInBounds_toArray, List.set_cons_zero, List.set_cons_succ]
    refine wpAnyH_take (i := 6) (oi := { dst := some 73, op := Op.extract (Operand.tmp 67) 0, type := 3, pos := "law.go:85", after := #[{ on := 5, ground := Ground.data }], guard := none }) (v := ?_) rfl (by kernel_rfl) (by kernel_rfl) (by kernel_rfl) (fun _ _ _ h => h) (Or.inl ⟨by rfl, ?_⟩) C10 ?_
    rotate_left
    · intro W' hSw
      clear hSw
      go_simp <;> with_reducible rfl
    try simp only [Act.put, List.setIfInBounds_toArray, List.set_cons_zero, List.set_cons_succ]
    refine wpAnyH_take (i := 7) (oi := { dst := some 74, op := Op.extract (Operand.tmp 67) 1, type := 4, pos := "law.go:85", after := #[{ on := 5, ground := Ground.data }, { on := 8, ground := Ground.gcOnly Departure.lateStores }], guard := none }) (v := ?_) rfl (by kernel_rfl) (by kernel_rfl) (by kernel_rfl) (fun _ _ _ h => h) (Or.inl ⟨by rfl, ?_⟩) C10 ?_
    rotate_left
    · intro W' hSw
      clear hSw
      go_simp <;> with_reducible rfl
    try simp only [Act.put, List.setIfInBounds_toArray, List.set_cons_zero, List.set_cons_succ]
    refine wpAnyH_take (i := 8) (oi := { dst := some 11, op := Op.assign (Operand.tmp 73), type := 3, pos := "law.go:85", after := #[{ on := 6, ground := Ground.data }, { on := 4, ground := Ground.chain }, { on := 0, ground := Ground.phase }, { on := 1, ground := Ground.phase }, { on := 2, ground := Ground.phase }, { on := 3, ground := Ground.phase }, { on := 4, ground := Ground.phase }, { on := 5, ground := Ground.phase }, { on := 6, ground := Ground.phase }, { on := 7, ground := Ground.textOnly Departure.lateStores }], guard := none }) (v := ?_) rfl (by kernel_rfl) (by kernel_rfl) (by kernel_rfl) (fun _ _ _ h => h) (Or.inl ⟨by rfl, ?_⟩) C10 ?_
    rotate_left
    · intro W' hSw
      clear hSw
      go_simp <;> with_reducible rfl
    try simp only [Act.put, List.setIfInBounds_toArray, List.set_cons_zero, List.set_cons_succ]
    refine wpAnyH_take (i := 9) (oi := { dst := some 12, op := Op.assign (Operand.tmp 74), type := 4, pos := "law.go:85", after := #[{ on := 7, ground := Ground.data }, { on := 8, ground := Ground.chain }, { on := 0, ground := Ground.phase }, { on := 1, ground := Ground.phase }, { on := 2, ground := Ground.phase }, { on := 3, ground := Ground.phase }, { on := 4, ground := Ground.phase }, { on := 5, ground := Ground.phase }, { on := 6, ground := Ground.phase }, { on := 7, ground := Ground.phase }, { on := 8, ground := Ground.phase }], guard := none }) (v := ?_) rfl (by kernel_rfl) (by kernel_rfl) (by kernel_rfl) (fun _ _ _ h => h) (Or.inl ⟨by rfl, ?_⟩) C10 ?_
    rotate_left
    · intro W' hSw
      clear hSw
      go_simp <;> with_reducible rfl
    try simp only [Act.put, List.setIfInBounds_toArray, List.set_cons_zero, List.set_cons_succ]
    refine wpAnyH_done (by kernel_rfl) ?_ _
    refine NoPanic.normal ?_
    have Y14 := Lib.hid (Y13.out.below B14.out)
    have B15 := Lib.hid (below_step B13.out B14.out)
    clear HRT HRQ HSL B13 Y13
    obtain ⟨_, g0, g1, g2, g3, g4, g5, g6⟩ := Y14.out
    go_wp2_with fail
    clear g0 g1 g2 g3 g4 g5 g6
    refine (HRG.out _).mono ?_
    rintro _ w16 ⟨rfl, hB⟩
    have B16 := Lib.hid (below_step B15.out hB)
    have Y16 := Lib.hid (Y14.out.below hB)
    clear hB B15 Y14 B14
    obtain ⟨_, g0, g1, g2, g3, g4, g5, g6⟩ := Y16.out
    go_wp2_with fail
    clear g0 g1 g2 g3 g4 g5 g6
    refine (HNW.out _).mono ?_
    rintro _ w17 ⟨p, rfl, hB, hJ⟩
    have B17 := Lib.hid (below_step B16.out hB)
    have L16 := Lib.hid B16.out.size
    have LB := Lib.hid (below_new w17 (.cells #[.int .i64 0, .int .u8 0] 36))
    have J18 := Lib.hid (hJ.shrink LB.out)
    have X18 := Lib.hid (CRow.new w17 #[.int .i64 0, .int .u8 0] 36)
    have B18 := Lib.hid (below_step B17.out LB.out)
    have F18 := Lib.hid (Jf.new g)
    obtain ⟨lb, hlb⟩ : ∃ lb, lb = w17.heap.size := ⟨_, rfl⟩
    rw [← hlb] at X18
    have I18 := Lib.hid (show ∀ k, ((fun k => w16.heap.size ≤ k) k ∧ (k < w17.heap.size ∨ (w17.alloc (.cells #[.int .i64 0, .int .u8 0] 36)).heap.size ≤ k)) → w.heap.size ≤ k ∧ k ≠ lb from fun k hk => by
      have e : (w17.alloc (.cells #[.int .i64 0, .int .u8 0] 36)).heap.size = w17.heap.size + 1 := by simp
      have h1 : w16.heap.size ≤ k := hk.1
      have h2 := L16.out
      rcases hk.2 with h | h
      · exact ⟨by omega, by omega⟩
      · have h : (w17.alloc (.cells #[.int .i64 0, .int .u8 0] 36)).heap.size ≤ k := h
        exact ⟨by omega, by omega⟩)
    have HLB := Lib.hid (show lb < w17.heap.size + 1 ∧ w.heap.size ≤ lb by rw [hlb]; have := B17.out.size; omega)
    have HLE := Lib.hid hlb
    clear hB hJ HNW HRG B16 Y16 hlb
    go_wp2
    rw [← HLE.out]
    clear HLE
    go_loopw [16, 102] (fun v i wr => ∃ (k : Nat) (I : Nat → Prop) (t : Cy) (y : Bool), k ≤ n ∧ v = .bool y ∧ i = .int .i64 (k : Int) ∧ Hid (Jf g k (stJ g l k)) ∧ Hid (JH I wr p g (stJ g l k)) ∧ Hid (CRow wr lb 36 #[.int .i64 t.k, .int .u8 (t.b : Int)]) ∧ Hid (y = (stJ g l k).rej) ∧
      Hid ((stJ g l k).rej = false → (stJ g l k).pol = true → t.k = 4 ∨ (t.k = 1 ∧ t.b = 112)) ∧ Hid (∀ q, I q → w.heap.size ≤ q ∧ q ≠ lb) ∧ Hid (Below w.heap.size w wr)) (fun _ i _ => n - (intOf i).toNat)
    case atStart => exact ⟨0, _, ⟨0, 0⟩, false, Nat.zero_le _, rfl, rfl, F18, J18, X18, Lib.hid rfl, Lib.hid (fun _ h => by cases h), I18, B18⟩
    case round =>
      obtain ⟨k, I, t, y, hk, rfl, rfl, HF, HJ, HX, HY, HRU, HI, HB⟩ := hrel
      clear F18 J18 X18 I18 B18 B17 LB
      rename World => wr
      by_cases hlt : k < n
      · obtain ⟨b9, o9, u, rfl, hb9, HU, hin, x0, x1⟩ := (HR.out.below HB.out).at_ hlt
        have d1 : decide ((k : Int) < (n : Int)) = true := decide_eq_true (by omega)
        have i0 : (0 : Int) ≤ (k : Int) := by omega
        have N1 := Lib.hid (below_new wr (.cells #[.int .i64 u.k, .int .u8 (u.b : Int)] 36))
        have XB := Lib.hid (CRow.new wr #[.int .i64 u.k, .int .u8 (u.b : Int)] 36)
        have HA1 := Lib.hid (HJ.out.shrink N1.out)
        obtain ⟨I2, hI2⟩ : ∃ I2, I2 = fun q => I q ∧ (q < wr.heap.size ∨ (wr.alloc (.cells #[.int .i64 u.k, .int .u8 (u.b : Int)] 36)).heap.size ≤ q) := ⟨_, rfl⟩
        have HI2 := Lib.hid (show ∀ q, I2 q → w.heap.size ≤ q ∧ q ≠ lb ∧ q ≠ wr.heap.size from fun q hq => by
          rw [hI2] at hq
          have e : (wr.alloc (.cells #[.int .i64 u.k, .int .u8 (u.b : Int)] 36)).heap.size = wr.heap.size + 1 := by simp
          have h1 := HI.out q hq.1
          rcases hq.2 with h | h
          · exact ⟨h1.1, h1.2, by omega⟩
          · have h : (wr.alloc (.cells #[.int .i64 u.k, .int .u8 (u.b : Int)] 36)).heap.size ≤ q := h
            exact ⟨h1.1, h1.2, by omega⟩)
        rw [← hI2] at HA1
        have HX1 := Lib.hid (HX.out.below N1.out)
        have NE := Lib.hid (show lb ≠ wr.heap.size from fun e => by have := HX.out.lt; omega)
        have B1 := Lib.hid (below_step HB.out N1.out)
        have HS := Lib.hid (fun W (hh : JH I2 W p g (stJ g l k)) => jStep (q := k) u.k u.b hin.2.2 (by have := h800.out; omega) HF.out hh)
        have HL := Lib.hid (HF.out.step HOK.out HJ.out.l8 u.k u.b hin.2.2)
        have HBU := Lib.hid (jBusy HA1.out)
        have SR := Lib.hid (fun h => step_rej (g := g) (j := stJ g l k) h u.k u.b)
        have SN := Lib.hid (fun h hv => step_no (g := g) (j := stJ g l k) (k := u.k) (b := u.b) h hv)
        have SY := Lib.hid (fun h hv => step_yes (g := g) (j := stJ g l k) (k := u.k) (b := u.b) h hv)
        rw [← stJ_succ HU.out] at HL SN SY
        rw [← stJ_succ HU.out] at HS
        obtain ⟨uk, huk⟩ : ∃ uk, uk = u.k := ⟨_, rfl⟩
        obtain ⟨ub, hub⟩ : ∃ ub, ub = u.b := ⟨_, rfl⟩
        obtain ⟨v, hv⟩ : ∃ v, v = ((stJ g l k).step g u.k u.b).1 := ⟨_, rfl⟩
        rw [← hv] at HS SN SY
        obtain ⟨j1, hj1⟩ : ∃ j1, j1 = stJ g l k := ⟨_, rfl⟩
        obtain ⟨j2, hj2⟩ : ∃ j2, j2 = stJ g l (k + 1) := ⟨_, rfl⟩
        have HJ2 := Lib.hid hj2
        have HV := Lib.hid (show j1.rej = true → v = false ∧ j2 = j1 from fun h => by
          rw [hj1] at h
          have h1 := SR.out h
          refine ⟨by rw [hv, h1], ?_⟩
          rw [hj2, stJ_succ HU.out, h1, hj1])
        rw [← hj1] at HA1 HS HBU SN SY HRU HY
        rw [← hj2] at HS HL SN SY
        try rw [← huk] at x0
        try rw [← hub] at x0
        try rw [← huk] at x1
        try rw [← hub] at x1
        try rw [← huk] at XB
        try rw [← hub] at XB
        try rw [← huk] at HS
        try rw [← hub] at HS
        try rw [← huk] at N1
        try rw [← hub] at N1
        try rw [← huk] at HA1
        try rw [← hub] at HA1
        try rw [← huk] at HX1
        try rw [← hub] at HX1
        try rw [← huk] at B1
        try rw [← hub] at B1
        try rw [← huk] at SY
        try rw [← hub] at SY
        try rw [← huk] at HI2
        try rw [← hub] at HI2
        try rw [← huk] at HBU
        try rw [← hub] at HBU
        try rw [← huk] at SN
        try rw [← hub] at SN
        have HUK := Lib.hid huk
        have HUB := Lib.hid hub
        have HIN := Lib.hid hin
        clear HJ HB hb9 hin HX HF SR huk hub hv hj1 hj2 hI2 HI
        go_wp2_with fail
        clear x0 x1
        refine HBU.out.mono ?_
        rintro _ w2 ⟨rfl, hb2⟩
        have J2 := Lib.hid (HA1.out.below hb2)
        have X2 := Lib.hid (HX1.out.below hb2)
        have Z2 := Lib.hid (XB.out.below hb2)
        have B2 := Lib.hid (below_step B1.out hb2)
        have z0 := Z2.out.cell_at 0 _ rfl
        have z1 := Z2.out.cell_at 1 _ rfl
        clear hb2 HBU HA1 HX1 XB B1
        go_wp2_with fail
        clear z0 z1
        refine (HS.out _ J2.out).mono ?_
        rintro _ w3 ⟨rfl, h3, b3⟩
        have J3 := Lib.hid h3
        have X3 := Lib.hid (X2.out.btw b3 (fun e => (HI2.out _ e).2.1 rfl))
        have Z3 := Lib.hid (Z2.out.btw b3 (fun e => (HI2.out _ e).2.2 rfl))
        have B3 := Lib.hid (B2.out.trans (b3.below (S := w.heap.size) (fun q hq => (HI2.out q hq).1) B2.out.size))
        clear h3 b3 HS J2 X2 Z2 B2
        have z0 := Z3.out.cell_at 0 _ rfl
        have z1 := Z3.out.cell_at 1 _ rfl
        have y0 := X3.out.cell_at 0 _ rfl
        have y1 := X3.out.cell_at 1 _ rfl
        have f0 := X3.out.frozen 0
        have f1 := X3.out.frozen 1
        have X4 := Lib.hid (show CRow ((w3.setCell ⟨lb, 0, none⟩ (.int .i64 uk)).setCell ⟨lb, 1, none⟩ (.int .u8 (ub : Int))) lb 36 #[.int .i64 uk, .int .u8 (ub : Int)] from (X3.out.setCell 0 (.int .i64 uk)).setCell 1 (.int .u8 (ub : Int)))
        have K4 := Lib.hid (((Btw.refl (I := fun q => q = lb) w3).setCell (p := ⟨lb, 0, none⟩) (v := .int .i64 uk) rfl).setCell (p := ⟨lb, 1, none⟩) (v := .int .u8 (ub : Int)) rfl)
        have J4 := Lib.hid (J3.out.away K4.out (fun q hq e => (HI2.out q e).2.1 hq))
        have B4 := Lib.hid (B3.out.trans (K4.out.below (S := w.heap.size) (fun q hq => by rw [hq]; exact HLB.out.2) B3.out.size))
        have I4 := Lib.hid (fun q (hq : I2 q ∧ (q < w3.heap.size ∨ ((w3.setCell ⟨lb, 0, none⟩ (.int .i64 uk)).setCell ⟨lb, 1, none⟩ (.int .u8 (ub : Int))).heap.size ≤ q)) => show w.heap.size ≤ q ∧ q ≠ lb from ⟨(HI2.out q hq.1).1, (HI2.out q hq.1).2.1⟩)
        cases hr : j1.rej with
        | true =>
          have h1 := HV.out hr
          obtain rfl := h1.1
          have hy : y = true := by rw [HY.out, hr]
          have REJ := Lib.hid (show true = j2.rej by rw [h1.2, hr])
          subst hy
          clear h1 hr HV SN SY
          cases hbu : j1.busy with
          | false =>
            clear hbu
            go_wp2
            go_roundw
            case rel => exact ⟨k + 1, _, u, true, by omega, rfl, by go_num, by rw [← HJ2.out]; exact HL, by rw [← HJ2.out]; exact J4, by rw [← HUK.out, ← HUB.out]; exact X4, Lib.hid (by rw [← HJ2.out]; exact REJ.out), Lib.hid (by rw [← HJ2.out]; exact (fun h => by rw [← REJ.out] at h; cases h)), I4, B4⟩
            case measure => simp [intOf]; omega
          | true =>
            clear hbu
            go_wp2
            go_roundw
            case rel => exact ⟨k + 1, _, u, true, by omega, rfl, by go_num, by rw [← HJ2.out]; exact HL, by rw [← HJ2.out]; exact J4, by rw [← HUK.out, ← HUB.out]; exact X4, Lib.hid (by rw [← HJ2.out]; exact REJ.out), Lib.hid (by rw [← HJ2.out]; exact (fun h => by rw [← REJ.out] at h; cases h)), I4, B4⟩
            case measure => simp [intOf]; omega
        | false =>
          have hy : y = false := by rw [HY.out, hr]
          subst hy
          cases hvv : v with
          | false =>
            have REJ := Lib.hid (show true = j2.rej from (SN.out hr hvv).symm)
            subst hvv
            clear hr HV SN SY
            cases hbu : j1.busy with
            | false =>
              clear hbu
              go_wp2
              go_roundw
              case rel => exact ⟨k + 1, _, u, true, by omega, rfl, by go_num, by rw [← HJ2.out]; exact HL, by rw [← HJ2.out]; exact J4, by rw [← HUK.out, ← HUB.out]; exact X4, Lib.hid (by rw [← HJ2.out]; exact REJ.out), Lib.hid (by rw [← HJ2.out]; exact (fun h => by rw [← REJ.out] at h; cases h)), I4, B4⟩
              case measure => simp [intOf]; omega
            | true =>
              clear hbu
              go_wp2
              go_roundw
              case rel => exact ⟨k + 1, _, u, true, by omega, rfl, by go_num, by rw [← HJ2.out]; exact HL, by rw [← HJ2.out]; exact J4, by rw [← HUK.out, ← HUB.out]; exact X4, Lib.hid (by rw [← HJ2.out]; exact REJ.out), Lib.hid (by rw [← HJ2.out]; exact (fun h => by rw [← REJ.out] at h; cases h)), I4, B4⟩
              case measure => simp [intOf]; omega
          | true =>
            have hsy := SY.out hr hvv
            have REJ := Lib.hid (show false = j2.rej from hsy.1.symm)
            have RUL := Lib.hid (show j2.rej = false → j2.pol = true → u.k = 4 ∨ (u.k = 1 ∧ u.b = 112) from fun _ hp => by
              by_cases e : uk = 4
              · exact .inl (by rw [← HUK.out]; exact e)
              · rw [hsy.2.1 e] at hp
                have := of_decide_eq_true hp
                exact .inr (by rw [← HUK.out, ← HUB.out]; exact this))
            have HRX := Lib.hid (HRU.out hr)
            subst hvv
            cases hbu : j1.busy with
            | false =>
              clear hr HV SN SY hsy hbu
              go_wp2
              go_roundw
              case rel => exact ⟨k + 1, _, u, false, by omega, rfl, by go_num, by rw [← HJ2.out]; exact HL, by rw [← HJ2.out]; exact J4, by rw [← HUK.out, ← HUB.out]; exact X4, Lib.hid (by rw [← HJ2.out]; exact REJ.out), Lib.hid (by rw [← HJ2.out]; exact RUL.out), I4, B4⟩
              case measure => simp [intOf]; omega
            | true =>
              have hcase := hsy.2.2 hbu
              clear hr HV SN SY hsy hbu
              rcases hcase with ⟨hk1, hb1 | hb1⟩ | ⟨hk4, hp⟩
              · subst hk1 hb1
                go_wp2
                go_roundw
                case rel => exact ⟨k + 1, _, u, false, by omega, rfl, by go_num, by rw [← HJ2.out]; exact HL, by rw [← HJ2.out]; exact J4, by rw [← HUK.out, ← HUB.out]; exact X4, Lib.hid (by rw [← HJ2.out]; exact REJ.out), Lib.hid (by rw [← HJ2.out]; exact RUL.out), I4, B4⟩
                case measure => simp [intOf]; omega
              · subst hk1 hb1
                go_wp2
                go_roundw
                case rel => exact ⟨k + 1, _, u, false, by omega, rfl, by go_num, by rw [← HJ2.out]; exact HL, by rw [← HJ2.out]; exact J4, by rw [← HUK.out, ← HUB.out]; exact X4, Lib.hid (by rw [← HJ2.out]; exact REJ.out), Lib.hid (by rw [← HJ2.out]; exact RUL.out), I4, B4⟩
                case measure => simp [intOf]; omega
              · subst hk4
                obtain ⟨tk, htk⟩ : ∃ tk, tk = t.k := ⟨_, rfl⟩
                obtain ⟨tb, htb⟩ : ∃ tb, tb = t.b := ⟨_, rfl⟩
                have hrx := HRX.out hp
                rw [← htk] at y0 hrx
                rw [← htb] at y1 hrx
                clear htk htb hp
                rcases hrx with hrx | ⟨hrx, hrb⟩
                · subst hrx
                  go_wp2
                  go_roundw
                  case rel => exact ⟨k + 1, _, u, false, by omega, rfl, by go_num, by rw [← HJ2.out]; exact HL, by rw [← HJ2.out]; exact J4, by rw [← HUK.out, ← HUB.out]; exact X4, Lib.hid (by rw [← HJ2.out]; exact REJ.out), Lib.hid (by rw [← HJ2.out]; exact RUL.out), I4, B4⟩
                  case measure => simp [intOf]; omega
                · subst hrx hrb
                  go_wp2
                  go_roundw
                  case rel => exact ⟨k + 1, _, u, false, by omega, rfl, by go_num, by rw [← HJ2.out]; exact HL, by rw [← HJ2.out]; exact J4, by rw [← HUK.out, ← HUB.out]; exact X4, Lib.hid (by rw [← HJ2.out]; exact REJ.out), Lib.hid (by rw [← HJ2.out]; exact RUL.out), I4, B4⟩
                  case measure => simp [intOf]; omega
      · obtain rfl : k = n := by omega
        have d1 : decide ((k : Int) < (k : Int)) = false := decide_eq_false (by omega)
        have HPW := Lib.hid (jPower (q := k) (by have := h800.out; omega) HF.out HJ.out)
        have HFP := Lib.hid (show Jf g k (stJ g l k).power from { HF.out.stop with })
        clear hk hlt HX HY HRU HF
        go_wp2_with fail
        refine HPW.out.mono ?_
        rintro _ w20 ⟨rfl, h, hb⟩
        have J20 := Lib.hid h
        have B20 := Lib.hid (HB.out.trans (hb.below (S := w.heap.size) (fun q hq => (HI.out q hq).1) HB.out.size))
        have HBU := Lib.hid (show Calls Try.prog 16 #[.pointer (some ⟨p, 0, none⟩)] w20 (Gives (.bool false) w20) from jBusy J20.out)
        clear h hb HPW HB HJ
        go_wp2_with fail
        refine HBU.out.mono ?_
        rintro _ w21 ⟨rfl, hb⟩
        have J21 := Lib.hid (J20.out.below hb)
        have B21 := Lib.hid (below_step B20.out hb)
        have HST := Lib.hid (show Calls Try.prog 15 #[.pointer (some ⟨p, 0, none⟩), .agg #[.int .i64 1, .int .u8 255]] w21 (ActsJ I p g (.bool true) ((stJ g l k).power.step g 1 255).2 w21) from jStep (q := k) 1 255 (by omega) (by have := h800.out; omega) HFP.out J21.out)
        clear hb HBU J20 B20
        go_wp2_with fail
        refine HST.out.mono ?_
        rintro _ w22 ⟨rfl, h, hb⟩
        have HBU := Lib.hid (show Calls Try.prog 16 #[.pointer (some ⟨p, 0, none⟩)] w22 (Gives (.bool true) w22) from jBusy h)
        have B22 := Lib.hid (B21.out.trans (hb.below (S := w.heap.size) (fun q hq => (HI.out q hq).1) B21.out.size))
        clear h hb HST J21 B21
        go_wp2_with fail
        refine HBU.out.mono ?_
        rintro _ w23 ⟨rfl, hb⟩
        have B23 := Lib.hid (below_step B22.out hb)
        clear hb HBU B22
        go_wp2
        go_ret
        exact ⟨rfl, B23.out⟩
end
end Go.Proofs.Ytlalghhaibknfaa
