/-
  The judge's Step, Power.
-/
import Derived.Test.YtmbgoopkpfhamaaGreatTk
import Derived.Test.YtmbgoopkpfhamaaGreatTkB
import Derived.Laws.MakeOwn
import Derived.Laws.ResultCell
import Derived.Test.YtmbgoopkpfhamaaGreatIdentChecksJ14
import Derived.Test.YtmbgoopkpfhamaaGreatIdentChecksJ11
import Derived.Test.YtmbgoopkpfhamaaGreatIdentChecksJ6
import Derived.Test.YtmbgoopkpfhamaaGreatIdentChecksJ4
namespace Go.Proofs.YtmbgoopkpfhamaaGreat
open Go.RowKit
set_option maxRecDepth 100000
section
variable {I K : Nat → Prop} {w w' : World} {p : Nat} {g : Gm} {j : Jd} {m : Jm}
theorem JH.widen {I' : Nat → Prop} (h : JH I w p g j) (hI : ∀ k, I k → I' k) : JH I' w p g j := by
 obtain ⟨m, hc, hr⟩ := h
 exact ⟨m, hc, { hr with
  ip := hI _ hr.ip
  ir := hI _ hr.ir
  iL := fun k hk => hI _ (hr.iL k hk)
  iR := fun k hk => hI _ (hr.iR k hk)
  iB := fun k hk => hI _ (hr.iB k hk)
  iE := fun k hk => hI _ (hr.iE k hk)
  new := fun k hk => hI _ (hr.new k hk) }⟩
def Jd.step (g : Gm) (j : Jd) (k : Int) (b : Nat) : Bool × Jd :=
 if j.rej = true then (false, j)
 else if (j.acc g k b).1 = false then (false, { (j.acc g k b).2 with rej := true })
 else (true, if k = 4 then (j.acc g k b).2 else { (j.acc g k b).2 with pol := decide (k = 1 ∧ b = 112) })
set_option maxHeartbeats 2000000 in
theorem jStep {q : Nat} (k : Int) (b : Nat) (hb : b < 256) (hq : q ≤ 100000) (hf : Jf g q j) (h : JH I w p g j) : Calls Tryz.prog 35 #[.pointer (some ⟨p, 0, none⟩), .agg #[.int .i64 k, .int .u8 (b : Int)]] w (ActsJ I p g (.bool (j.step g k b).1) (j.step g k b).2 w) := by
 have B0 := Lib.hid (below_new w (.cells #[.int .i64 k, .int .u8 (b : Int)] 93))
 have Z0 := Lib.hid (CRow.new w #[.int .i64 k, .int .u8 (b : Int)] 93)
 have HS0 := Lib.hid (h.shrink B0.out)
 have H0 := Lib.hid (h.below B0.out)
 have HAC := Lib.hid (fun W (hh : JH (fun q => I q ∧ (q < w.heap.size ∨ (w.alloc (.cells #[.int .i64 k, .int .u8 (b : Int)] 93)).heap.size ≤ q)) W p g j) => jaccepts k b hb hq hf hh)
 obtain ⟨m, hc, hr⟩ := HS0.out
 have C0 := Lib.hid hc
 clear h hc hr hf hq hb
 cases hrj : j.rej with
 | true =>
  have HE := Lib.hid (show j.step g k b = (false, j) by unfold Jd.step; rw [if_pos hrj])
  have HRJ := Lib.hid hrj
  clear hrj
  go_enter Tryz.func35, Tryz.ntmps35
  go_wp2_with fail
  refine (jmade_row C0.out).mono ?_
  rintro _ w1 ⟨rfl, h1⟩
  have C1 := Lib.hid (C0.out.below h1)
  have H1 := Lib.hid (H0.out.below h1)
  have B1 := Lib.hid (below_step B0.out h1)
  clear h1
  have x20 : w1.cell? ⟨p, 20, none⟩ = some (.bool true) := by
   have h0 := C1.out.cell_at 20 (.bool j.rej) rfl
   rw [HRJ.out] at h0
   exact h0
  go_wp2
  go_ret
  rw [HE.out]
  exact ⟨rfl, H1.out, Btw.of_below B1.out⟩
 | false =>
  have HRJ := Lib.hid hrj
  cases ha : (j.acc g k b).1 with
  | false =>
   have HE := Lib.hid (show j.step g k b = (false, { (j.acc g k b).2 with rej := true }) by unfold Jd.step; rw [if_neg (by rw [hrj]; decide), if_pos ha])
   have HA := Lib.hid ha
   clear hrj ha
   go_enter Tryz.func35, Tryz.ntmps35
   go_wp2_with fail
   refine (jmade_row C0.out).mono ?_
   rintro _ w1 ⟨rfl, h1⟩
   have C1 := Lib.hid (C0.out.below h1)
   have H1 := Lib.hid (HS0.out.below h1)
   have Z1 := Lib.hid (Z0.out.below h1)
   have B1 := Lib.hid (below_step B0.out h1)
   clear h1
   have x20 : w1.cell? ⟨p, 20, none⟩ = some (.bool false) := by
    have h0 := C1.out.cell_at 20 (.bool j.rej) rfl
    rw [HRJ.out] at h0
    exact h0
   have z0 := Z1.out.cell_at 0 _ rfl
   have z1 := Z1.out.cell_at 1 _ rfl
   go_wp2_with fail
   clear z0 z1 x20
   refine (HAC.out _ H1.out).mono ?_
   rintro e w2 ⟨he, h2, b2⟩
   obtain ⟨j2, hj⟩ : ∃ j2, j2 = (j.acc g k b).2 := ⟨_, rfl⟩
   rw [HA.out] at he
   rw [← hj] at h2
   have HJ2 := Lib.hid hj
   subst he
   have NZ : ¬ (fun q => I q ∧ (q < w.heap.size ∨ (w.alloc (.cells #[.int .i64 k, .int .u8 (b : Int)] 93)).heap.size ≤ q)) w.heap.size := fun h => by
    have e : (w.alloc (.cells #[.int .i64 k, .int .u8 (b : Int)] 93)).heap.size = w.heap.size + 1 := by simp
    rcases h.2 with h | h
    ·
     exact absurd h (Nat.lt_irrefl _)
    ·
     have h : (w.alloc (.cells #[.int .i64 k, .int .u8 (b : Int)] 93)).heap.size ≤ w.heap.size := h
     omega
   have Z2 := Lib.hid (Z1.out.btw b2 NZ)
   have H2 := Lib.hid h2
   have B2 := Lib.hid ((Btw.of_below (I := I) B1.out).trans b2 fun q _ h => h.1)
   obtain ⟨m2, hc2, hr2⟩ := H2.out
   have C2 := Lib.hid hc2
   have R2 := Lib.hid hr2
   clear hj h2 b2 NZ hc2 hr2
   have x20 := C2.out.cell_at 20 (.bool (j2).rej) rfl
   have f20 := C2.out.frozen 20
   have S1 := Lib.hid (C2.out.setCell 20 (.bool true))
   have K1 := Lib.hid (((Btw.refl w2)).setCell (I := fun k => k = p) (p := ⟨p, 20, none⟩) (v := .bool true) rfl)
   go_wp2
   go_ret
   have HJ := JH.of (j' := { j2 with rej := true }) (m' := m2) C2.out R2.out S1.out K1.out fun W h => { h with }
   rw [HE.out, ← HJ2.out]
   exact ⟨rfl, HJ.1.widen (fun q h => h.1), B2.out.trans HJ.2 fun q _ h => h.1⟩
  | true =>
   by_cases hk : k = 4
   ·
    have HE := Lib.hid (show j.step g k b = (true, (j.acc g k b).2) by unfold Jd.step; rw [if_neg (by rw [hrj]; decide), if_neg (by rw [ha]; decide), if_pos hk])
    have HA := Lib.hid ha
    have HK := Lib.hid hk
    clear hrj ha hk
    go_enter Tryz.func35, Tryz.ntmps35
    go_wp2_with fail
    refine (jmade_row C0.out).mono ?_
    rintro _ w1 ⟨rfl, h1⟩
    have C1 := Lib.hid (C0.out.below h1)
    have H1 := Lib.hid (HS0.out.below h1)
    have Z1 := Lib.hid (Z0.out.below h1)
    have B1 := Lib.hid (below_step B0.out h1)
    clear h1
    have x20 : w1.cell? ⟨p, 20, none⟩ = some (.bool false) := by
     have h0 := C1.out.cell_at 20 (.bool j.rej) rfl
     rw [HRJ.out] at h0
     exact h0
    have z0 := Z1.out.cell_at 0 _ rfl
    have z1 := Z1.out.cell_at 1 _ rfl
    go_wp2_with fail
    clear z0 z1 x20
    refine (HAC.out _ H1.out).mono ?_
    rintro e w2 ⟨he, h2, b2⟩
    obtain ⟨j2, hj⟩ : ∃ j2, j2 = (j.acc g k b).2 := ⟨_, rfl⟩
    rw [HA.out] at he
    rw [← hj] at h2
    have HJ2 := Lib.hid hj
    subst he
    have NZ : ¬ (fun q => I q ∧ (q < w.heap.size ∨ (w.alloc (.cells #[.int .i64 k, .int .u8 (b : Int)] 93)).heap.size ≤ q)) w.heap.size := fun h => by
     have e : (w.alloc (.cells #[.int .i64 k, .int .u8 (b : Int)] 93)).heap.size = w.heap.size + 1 := by simp
     rcases h.2 with h | h
     ·
      exact absurd h (Nat.lt_irrefl _)
     ·
      have h : (w.alloc (.cells #[.int .i64 k, .int .u8 (b : Int)] 93)).heap.size ≤ w.heap.size := h
      omega
    have Z2 := Lib.hid (Z1.out.btw b2 NZ)
    have H2 := Lib.hid h2
    have B2 := Lib.hid ((Btw.of_below (I := I) B1.out).trans b2 fun q _ h => h.1)
    obtain ⟨m2, hc2, hr2⟩ := H2.out
    have C2 := Lib.hid hc2
    have R2 := Lib.hid hr2
    clear hj h2 b2 NZ hc2 hr2
    have z0 : w2.cell? ⟨w.heap.size, 0, none⟩ = some (.int .i64 4) := by
     have h0 := Z2.out.cell_at 0 (.int .i64 k) rfl
     rw [h0, HK.out]
    go_wp2
    go_ret
    rw [HE.out, ← HJ2.out]
    exact ⟨rfl, H2.out.widen (fun q h => h.1), B2.out⟩
   ·
    have HE := Lib.hid (show j.step g k b = (true, { (j.acc g k b).2 with pol := decide (k = 1 ∧ b = 112) }) by unfold Jd.step; rw [if_neg (by rw [hrj]; decide), if_neg (by rw [ha]; decide), if_neg hk])
    have HA := Lib.hid ha
    have e4 : (k == 4) = false := by rw [beq_eq_false_iff_ne]; exact hk
    have f4 : decide (k = 4) = false := decide_eq_false hk
    have HIS := Lib.hid (fun W => isC k b 112 (decide (k = 1 ∧ b = 112)) rfl 112 rfl W)
    generalize decide (k = 1 ∧ b = 112) = v2 at *
    clear hrj ha hk
    go_enter Tryz.func35, Tryz.ntmps35
    go_wp2_with fail
    refine (jmade_row C0.out).mono ?_
    rintro _ w1 ⟨rfl, h1⟩
    have C1 := Lib.hid (C0.out.below h1)
    have H1 := Lib.hid (HS0.out.below h1)
    have Z1 := Lib.hid (Z0.out.below h1)
    have B1 := Lib.hid (below_step B0.out h1)
    clear h1
    have x20 : w1.cell? ⟨p, 20, none⟩ = some (.bool false) := by
     have h0 := C1.out.cell_at 20 (.bool j.rej) rfl
     rw [HRJ.out] at h0
     exact h0
    have z0 := Z1.out.cell_at 0 _ rfl
    have z1 := Z1.out.cell_at 1 _ rfl
    go_wp2_with fail
    clear z0 z1 x20
    refine (HAC.out _ H1.out).mono ?_
    rintro e w2 ⟨he, h2, b2⟩
    obtain ⟨j2, hj⟩ : ∃ j2, j2 = (j.acc g k b).2 := ⟨_, rfl⟩
    rw [HA.out] at he
    rw [← hj] at h2
    have HJ2 := Lib.hid hj
    subst he
    have NZ : ¬ (fun q => I q ∧ (q < w.heap.size ∨ (w.alloc (.cells #[.int .i64 k, .int .u8 (b : Int)] 93)).heap.size ≤ q)) w.heap.size := fun h => by
     have e : (w.alloc (.cells #[.int .i64 k, .int .u8 (b : Int)] 93)).heap.size = w.heap.size + 1 := by simp
     rcases h.2 with h | h
     ·
      exact absurd h (Nat.lt_irrefl _)
     ·
      have h : (w.alloc (.cells #[.int .i64 k, .int .u8 (b : Int)] 93)).heap.size ≤ w.heap.size := h
      omega
    have Z2 := Lib.hid (Z1.out.btw b2 NZ)
    have H2 := Lib.hid h2
    have B2 := Lib.hid ((Btw.of_below (I := I) B1.out).trans b2 fun q _ h => h.1)
    obtain ⟨m2, hc2, hr2⟩ := H2.out
    have C2 := Lib.hid hc2
    have R2 := Lib.hid hr2
    clear hj h2 b2 NZ hc2 hr2
    have z0 := Z2.out.cell_at 0 _ rfl
    have z1 := Z2.out.cell_at 1 _ rfl
    go_wp2_with fail
    refine (HIS.out _).mono ?_
    rintro _ w3 ⟨rfl, h3⟩
    have C3 := Lib.hid (C2.out.below h3)
    have R3 := Lib.hid (R2.out.below h3)
    have B3 := Lib.hid (B2.out.trans (Btw.of_below (I := I) h3) fun _ _ h => h)
    clear h3 z0 z1
    have x4 := C3.out.cell_at 4 (.bool (j2).pol) rfl
    have f4 := C3.out.frozen 4
    have S1 := Lib.hid (C3.out.setCell 4 (.bool v2))
    have K1 := Lib.hid (((Btw.refl w3)).setCell (I := fun k => k = p) (p := ⟨p, 4, none⟩) (v := .bool v2) rfl)
    go_wp2
    go_ret
    have HJ := JH.of (j' := { j2 with pol := v2 }) (m' := m2) C3.out R3.out S1.out K1.out fun W h => { h with }
    rw [HE.out, ← HJ2.out]
    exact ⟨rfl, HJ.1.widen (fun q h => h.1), B3.out.trans HJ.2 fun q _ h => h.1⟩
def Jd.power (j : Jd) : Jd := { j.stop with rej := false }
end
section
variable {I K : Nat → Prop} {w w' : World} {p : Nat} {g : Gm} {j : Jd} {m : Jm}
theorem Jf.more {q q' : Nat} (h : Jf g q j) (hq : q ≤ q') : Jf g q' j :=
 { h with ct := Nat.le_trans h.ct hq, cl := Nat.le_trans h.cl (by omega), pr := fun r => Nat.le_trans (h.pr r) hq, rn := Nat.le_trans h.rn hq, bn := Nat.le_trans h.bn hq, en := Nat.le_trans h.en hq }
theorem Jf.enter {q : Nat} (h : Jf g q j) (n : Nat) (hn : n ≤ 9) : Jf g q (j.enter n) := { h with op := hn, ls := Nat.zero_le _, ct := Nat.zero_le _ }
theorem Jf.start {q : Nat} (h : Jf g q j) : Jf g q j.start := { h with op := (by show 1 ≤ 9; omega), ls := Nat.zero_le _, ct := Nat.zero_le _ }
theorem Jf.stop {q : Nat} (h : Jf g q j) : Jf g q j.stop :=
 ⟨Nat.zero_le _, Nat.zero_le _, Nat.zero_le _, Nat.zero_le _, h.pr, Nat.zero_le _, Nat.zero_le _, Nat.zero_le _, fun x hx => absurd (show x ∈ ([] : List Nat) from hx) (by simp), fun x hx => absurd (show x ∈ ([] : List Nat) from hx) (by simp)⟩
theorem Jf.poll {q : Nat} (h : Jf g q j) (b : Nat) : Jf g q (j.poll b) := by
 unfold Jd.poll
 split
 ·
  exact h
 ·
  by_cases h1 : b % 2 = 1
  ·
   rw [if_pos h1]
   exact { h with en := Nat.zero_le _, eb := fun x hx => absurd (show x ∈ ([] : List Nat) from hx) (by simp) }
  ·
   rw [if_neg h1]
   exact { h with en := Nat.zero_le _, eb := fun x hx => absurd (show x ∈ ([] : List Nat) from hx) (by simp) }
theorem Jf.begin {q : Nat} (h : Jf g q j) (b : Nat) : Jf g q (j.begin b).2 := by
 unfold Jd.begin
 split
 ·
  exact h
 ·
  show Jf g q (Jd.enter (if _ then _ else _) _)
  split
  ·
   exact Jf.enter (j := { j with data := false }) { h with } _ (jopen_le b)
  ·
   exact h.enter _ (jopen_le b)
theorem jaddr2_le (h8 : ∀ x ∈ j.listed, x < 256) (k : Nat) : j.addr2 k ≤ 65535 := by
 have K : ∀ i, j.listed.getD i 0 ≤ 255 := fun i => by
  rw [List.getD_eq_getElem?_getD]
  cases e : j.listed[i]? with
  | none => simp
  | some x =>
   have := h8 x (List.mem_of_getElem? e)
   simp only [Option.getD_some]
   omega
 unfold Jd.addr2
 have := K k
 have := K (k + 1)
 omega
theorem Jf.endFetch {q : Nat} (h : Jf g q j) (b : Nat) : Jf g q (j.endFetch b).2 := by
 unfold Jd.endFetch
 split
 ·
  exact Jf.start (j := { j with data := true }) { h with }
 ·
  exact h
theorem Jf.endMove {q : Nat} (h : Jf g q j) (h8 : ∀ x ∈ j.listed, x < 256) (b : Nat) : Jf g q (j.endMove b).2 := by
 unfold Jd.endMove
 split
 ·
  have := jaddr2_le h8 0
  exact Jf.enter (j := { j with col := j.addr2 0 }) { h with cl := (by show j.addr2 0 ≤ 65536 + q; omega) } 6 (by omega)
 ·
  exact h
theorem Jf.prog {q : Nat} (h : Jf g (q + 1) j) (hp : ∀ r, j.pr r ≤ q) (b r : Nat) : Jf g (q + 1) (j.prog g b r) :=
 have h1 : ∀ x, (j.prog g b r).pr x ≤ q + 1 := fun x => by
  show (if x = b * g.s.toNat + r then j.pr x + 1 else j.pr x) ≤ q + 1
  have := hp x
  split <;> omega
 { h with pr := h1 }
theorem Jf.endLoad {q : Nat} (h : Jf g q j) (b : Nat) : Jf g (q + 1) (j.endLoad g b).2 := by
 have h1 := h.more (Nat.le_succ q)
 have hrn : (j.rows ++ [j.addr2 2]).length ≤ q + 1 := by rw [List.length_append]; have := h.rn; show _ + 1 ≤ q + 1; omega
 unfold Jd.endLoad
 split
 ·
  exact h1
 ·
  split
  ·
   exact h1
  ·
   split
   ·
    exact (Jf.prog (j := { j with rows := [] }) { h1 with rn := Nat.zero_le _ } h.pr _ _).start
   ·
    split
    ·
     split
     ·
      exact h1
     ·
      exact (Jf.prog (j := { j with bg := true, bgb := spB g (j.addr2 2) }) { h1 with } h.pr _ _).start
    ·
     split
     ·
      split
      ·
       exact h1
      ·
       exact (Jf.prog (j := { j with rows := j.rows ++ [j.addr2 2] }) { h1 with rn := hrn } h.pr _ _).start
     ·
      exact h1
theorem Jf.endErase {q : Nat} (hg : g.ok = true) (h : Jf g q j) (b : Nat) : Jf g (q + 1) (j.endErase g b).2 := by
 have h1 := h.more (Nat.le_succ q)
 have hbb : ∀ x ∈ j.blocks ++ [spB g (j.addr2 (j.listed.length - 2))], x < g.b.toNat := fun x hx => by
  rcases List.mem_append.1 hx with h2 | h2
  ·
   exact h.bb x h2
  ·
   rw [List.mem_singleton.1 h2]; exact spB_lt hg _
 have hbn : (j.blocks ++ [spB g (j.addr2 (j.listed.length - 2))]).length ≤ q + 1 := by rw [List.length_append]; have := h.bn; show _ + 1 ≤ q + 1; omega
 unfold Jd.endErase
 split
 ·
  exact h1
 ·
  split
  ·
   exact h1
  ·
   split
   ·
    refine Jf.start ⟨h1.op, h1.ls, h1.ct, h1.cl, fun r => ?_, h1.rn, Nat.zero_le _, hbn, fun x hx => absurd (show x ∈ ([] : List Nat) from hx) (by simp), hbb⟩
    show (if _ then 0 else j.pr r) ≤ q + 1
    have := h1.pr r
    split <;> omega
   ·
    exact Jf.start (j := { j with blocks := j.blocks ++ [spB g (j.addr2 (j.listed.length - 2))] }) { h1 with bn := hbn, bb := hbb }
theorem Jf.command {q : Nat} (hg : g.ok = true) (h : Jf g q j) (h8 : ∀ x ∈ j.listed, x < 256) (b : Nat) : Jf g (q + 1) (j.command g b).2 := by
 have h1 := h.more (Nat.le_succ q)
 unfold Jd.command
 split
 ·
  exact h.endLoad b
 ·
  split
  ·
   exact h.endErase hg b
  ·
   split
   ·
    exact h1.endMove h8 b
   ·
    split
    ·
     split
     ·
      exact h1.begin b
     ·
      exact h1
    ·
     split
     ·
      split
      ·
       exact h1.endFetch b
      ·
       split
       ·
        exact h1
       ·
        exact h1.begin b
     ·
      split
      ·
       exact h1.begin b
      ·
       exact h1
theorem Jf.addr4 {q : Nat} (h : Jf g q j) (h8 : ∀ x ∈ j.listed, x < 256) : Jf g q (j.addr4 g).2 := by
 unfold Jd.addr4
 split
 ·
  have := jaddr2_le h8 0
  exact { h with cl := (by show j.addr2 0 ≤ 65536 + q; omega) }
 ·
  exact h
theorem Jf.addr {q : Nat} (h : Jf g q j) (h8 : ∀ x ∈ j.listed, x < 256) (b : Nat) (hb : b < 256) : Jf g q (j.addr g b).2 := by
 have hp : ∀ x ∈ (j.push b).listed, x < 256 := fun x hx => by
  rcases List.mem_append.1 hx with h1 | h1
  ·
   exact h8 x h1
  ·
   rw [List.mem_singleton.1 h1]; exact hb
 unfold Jd.addr
 split
 ·
  exact h
 ·
  rename_i hli
  have hl := lists_what (b := b) (by simpa using hli)
  have hpl : (j.push b).listed.length ≤ 4 := by show (j.listed ++ [b]).length ≤ 4; rw [List.length_append]; show _ + 1 ≤ 4; omega
  have h1 : Jf g q (j.push b) := { h with ls := hpl }
  split
  ·
   exact Jf.start (j := { j.push b with data := true, col := 0 }) { h1 with cl := Nat.zero_le _ }
  ·
   split
   ·
    exact Jf.addr4 (j := { j.push b with data := false }) { h1 with } hp
   ·
    split
    ·
     exact h1.addr4 hp
    ·
     split
     ·
      exact h1
     ·
      split
      ·
       exact h1
      ·
       exact h1
theorem Jf.write {q : Nat} (h : Jf g q j) : Jf g (q + 1) (j.write g).2 := by
 have h1 := h.more (Nat.le_succ q)
 have hc : j.count + 1 ≤ q + 1 := by have := h.ct; omega
 unfold Jd.write
 split
 ·
  show Jf g (q + 1) (if _ then _ else _)
  split
  ·
   exact Jf.start (j := { j with count := j.count + 1 }) { h1 with ct := hc }
  ·
   exact { h1 with ct := hc }
 ·
  split
  ·
   exact { h1 with ct := hc }
  ·
   exact h1
theorem Jf.read {q : Nat} (h : Jf g q j) : Jf g (q + 1) (j.read g).2 := by
 have h1 := h.more (Nat.le_succ q)
 have hc : j.count + 1 ≤ q + 1 := by have := h.ct; omega
 have hl : j.col + 1 ≤ 65536 + (q + 1) := by have := h.cl; omega
 unfold Jd.read
 split
 ·
  exact { h1 with ct := hc }
 ·
  split
  ·
   split
   ·
    exact h1
   ·
    exact { h1 with op := (by show 6 ≤ 9; omega), cl := hl }
  ·
   split
   ·
    exact { h1 with cl := hl }
   ·
    exact h1
theorem Jf.acc {q : Nat} (hg : g.ok = true) (h : Jf g q j) (h8 : ∀ x ∈ j.listed, x < 256) (k : Int) (b : Nat) (hb : b < 256) : Jf g (q + 1) (j.acc g k b).2 := by
 have h1 := h.more (Nat.le_succ q)
 unfold Jd.acc
 split
 ·
  exact h1.stop.start
 ·
  split
  ·
   exact h1
  ·
   split
   ·
    exact h1.enter 1 (by omega)
   ·
    split
    ·
     exact h1.poll b
    ·
     split
     ·
      exact h1
     ·
      unfold Jd.cont
      split
      ·
       exact h.command hg h8 b
      ·
       split
       ·
        exact h1.addr h8 b hb
       ·
        split
        ·
         exact h.write
        ·
         split
         ·
          exact h.read
         ·
          exact h1
theorem Jf.step {q : Nat} (hg : g.ok = true) (h : Jf g q j) (h8 : ∀ x ∈ j.listed, x < 256) (k : Int) (b : Nat) (hb : b < 256) : Jf g (q + 1) (j.step g k b).2 := by
 have h1 := h.acc hg h8 k b hb
 unfold Jd.step
 split
 ·
  exact h.more (Nat.le_succ q)
 ·
  split
  ·
   exact { h1 with }
  ·
   show Jf g (q + 1) (if _ then _ else _)
   split
   ·
    exact h1
   ·
    exact { h1 with }
theorem JH.l8 (h : JH I w p g j) : ∀ x ∈ j.listed, x < 256 := by
 obtain ⟨_, _, hr⟩ := h
 exact hr.l8
def Jd.newK (k : Nat) : Jd := { op := 0, listed := [], count := 0, busy := false, pol := false, bg := false, bgb := 0, data := false, col := 0, rows := [], blocks := [], erases := [], er := fun _ => false, la := fun b => if b < k then -1 else 0, pr := fun _ => 0, rej := false }
def Jd.new : Jd := { Jd.newK 0 with la := fun _ => -1 }
theorem Jf.new (g : Gm) : Jf g 0 Jd.new :=
 ⟨Nat.zero_le _, Nat.zero_le _, Nat.zero_le _, Nat.zero_le _, fun _ => Nat.zero_le _, Nat.zero_le _, Nat.zero_le _, Nat.zero_le _, fun x hx => absurd (show x ∈ ([] : List Nat) from hx) (by simp), fun x hx => absurd (show x ∈ ([] : List Nat) from hx) (by simp)⟩
end
section
variable {I K : Nat → Prop} {w w' : World} {p : Nat} {g : Gm} {j : Jd} {m : Jm}
theorem jmade_get (z : Array Value) (n j : Nat) (h : j < n) : (madeCells z n)[j]? = some z[j % z.size]! := by
 unfold madeCells
 rw [Array.getElem?_map, Array.getElem?_range, if_pos h]
 rfl
def Z66 : Array Value := (Value.bool false :: Value.int .i64 0 :: List.replicate 64 (Value.int .i64 0)).toArray
theorem Z66_at (o : Nat) (ho : o < 66) : Z66[o]! = if o = 0 then .bool false else .int .i64 0 := by
 have h : ∀ x : Fin 66, (Z66[x.val]? = some (if x.val = 0 then .bool false else .int .i64 0)) := by
  intro x
  unfold Z66
  rw [List.getElem?_toArray]
  obtain ⟨x, hx⟩ := x
  match x with
  | 0 => rfl
  | 1 => rfl
  | x + 2 =>
   simp only [List.getElem?_cons_succ, List.getElem?_replicate]
   rw [if_pos (by omega), if_neg (by omega)]
 have h1 := h ⟨o, ho⟩
 rw [getElem!_def, h1]
theorem info_rec : ∃ i, Tryz.prog.info? 134 = some i ∧ i.zero = some (.agg Z66) ∧ i.size = 66 ∧ i.bytes ≤ 1000 := by
 have h : ((Tryz.prog.info? 134).map fun i => (i.zero, i.size, decide (i.bytes ≤ 1000))) = some (some (.agg Z66), 66, true) := by kernel_rfl
 rcases e : Tryz.prog.info? 134 with _ | i
 ·
  rw [e] at h; cases h
 ·
  rw [e] at h
  injection h with h
  injection h with h1 h
  injection h with h2 h3
  exact ⟨i, rfl, h1, h2, of_decide_eq_true h3⟩
def JNewIs (g : Gm) (w : World) (e : Ending) (w' : World) : Prop := ∃ p, e = .returned (.tuple #[.pointer (some ⟨p, 0, none⟩), .int .i64 0]) ∧ Below w.heap.size w w' ∧ JH (fun k => w.heap.size ≤ k) w' p g Jd.new
set_option maxHeartbeats 2000000 in
theorem jNew (g : Gm) (h : g.ok = true) (w : World) : Calls Tryz.prog 34 #[g.val] w (JNewIs g w) := by
 have B0 := Lib.hid (below_new w (.cells #[.int .i64 g.p, .int .i64 g.b, .int .i64 g.s, .int .i64 g.c, .int .i64 g.k, .int .i64 g.r, .int .i64 g.q] 23))
 have Y0 := Lib.hid (GBox.new w g 23)
 have HC := Lib.hid (fun W => Check_yes g h W)
 have hbd := Gm.bounds_of h
 obtain ⟨B, hB⟩ : ∃ B, B = g.b.toNat := ⟨_, rfl⟩
 have HB := Lib.hid (show g.b = (B : Int) by omega)
 have HBN := Lib.hid hB
 have hb5 : 2 ≤ B ∧ B ≤ 256 := by omega
 obtain ⟨iR, hiR, hzR, hsR, hbR⟩ := info_rec
 have hmkR := Lib.hid (fun w' : World => by
  have h := run_make (P := Tryz.prog) w' 126 134 iR _ Tryz.underlying126 hiR hzR .i64 .i64 (B : Int) (B : Int) (by omega) (Int.le_refl _) (by
   have h1 : (iR.bytes : Int) * (B : Int) ≤ 1000 * 256 := (mul_le (by omega) (by omega) (by omega) (by omega)).2
   omega) (by omega)
  rw [hsR, Int.toNat_natCast, show (Value.agg Z66).cells = Z66 from rfl] at h
  exact h)
 have HOK := Lib.hid h
 simp only [Gm.val] at HC ⊢
 clear h hbd hB hiR hzR hsR hbR
 go_enter Tryz.func34, Tryz.ntmps34
 obtain ⟨_, g0, g1, g2, g3, g4, g5, g6⟩ := Y0.out
 go_wp2_with fail
 clear g0 g1 g2 g3 g4 g5 g6
 refine (HC.out _).mono ?_
 rintro _ w1 ⟨rfl, h1⟩
 have B1 := Lib.hid (below_step B0.out h1)
 have Y1 := Lib.hid (Y0.out.below h1)
 have L1 := Lib.hid B1.out.size
 clear h1 HC B0 Y0
 go_wp2
 refine wp_region_noPanic ?_
 refine wp_region_held_drew (S := fun w' => Below w1.heap.size w1 w') (by kernel_rfl) ((Below.refl _ _).drew) (fun C9 => ?_)
 refine tkH4 0 C9 ?_ (hy := fun W' hSw => by obtain ⟨_, y0, y1, y2, y3, y4, y5, y6⟩ := Y1.out.below hSw; clear hSw; go_simp <;> with_reducible rfl)
 refine tkH4 1 C9 ?_
 refine tkH4 2 C9 ?_ (hy := fun W' hSw => by obtain ⟨_, y0, y1, y2, y3, y4, y5, y6⟩ := Y1.out.below hSw; rw [HB.out] at y1; clear hSw; go_simp <;> with_reducible rfl)
 refine wpAnyH_ready (rs := [3]) (by kernel_rfl) (by simp) ?_
 refine AllReadyH.cons (o := { dst := some 12, op := Op.makeSlice 126 (Operand.tmp 11) (Operand.tmp 11), type := 126, pos := "judge.go:58", after := #[{ on := 2, ground := Ground.data }, { on := 2, ground := Ground.data }], guard := none }) rfl (fun K hK => ?_) AllReadyH.nil
 have hmk := hmkR.out w1.drew
 go_simp
 refine hK.out _ _ (show Below w1.heap.size w1 _ from ((Below.refl _ _).drew).alloc (Nat.le_refl _) _) (fun C10 => ?_)
 clear hK K
 try simp only [Act.put, zzI, zzO, zzS]
 refine tkH4 4 C10 ?_
 refine wpAnyH_ready (rs := [5]) (by kernel_rfl) (by simp) ?_
 refine AllReadyH.cons (o := { dst := some 14, op := Op.box 131 (Operand.tmp 13), type := 89, pos := "judge.go:58", after := #[{ on := 4, ground := Ground.data }], guard := none }) rfl (fun K hK => ?_) AllReadyH.nil
 go_simp
 refine hK.out _ _ (show Below w1.heap.size w1 _ from (((Below.refl _ _).drew).alloc (Nat.le_refl _) _).alloc (by simp) _) (fun C11 => ?_)
 clear hK K
 try simp only [Act.put, zzI, zzO, zzS]
 refine tkH4 6 C11 ?_
 refine wpAnyH_done (by kernel_rfl) ?_ _
 refine NoPanic.normal ?_
 obtain ⟨w3, hw3⟩ : ∃ w3, w3 = ((w1.alloc (.cells (madeCells Z66 (B * 66)) 134)).alloc (.cells #[.int .i64 0, .slice none 0 0, .int .i64 0, .bool false, .bool false, .bool false, .int .i64 0, .bool false, .int .i64 0, .slice none 0 0, .slice none 0 0, .slice none 0 0, .int .i64 g.p, .int .i64 g.b, .int .i64 g.s, .int .i64 g.c, .int .i64 g.k, .int .i64 g.r, .int .i64 g.q, .slice (some ⟨w1.heap.size, 0, none⟩) B B, .bool false] 131)).drew := ⟨_, rfl⟩
 have K3 := Lib.hid (show CRow w3 (w1.heap.size + 1) 131 #[.int .i64 0, .slice none 0 0, .int .i64 0, .bool false, .bool false, .bool false, .int .i64 0, .bool false, .int .i64 0, .slice none 0 0, .slice none 0 0, .slice none 0 0, .int .i64 g.p, .int .i64 g.b, .int .i64 g.s, .int .i64 g.c, .int .i64 g.k, .int .i64 g.r, .int .i64 g.q, .slice (some ⟨w1.heap.size, 0, none⟩) B B, .bool false] by
  rw [hw3]
  have h0 := (CRow.new (w1.alloc (.cells (madeCells Z66 (B * 66)) 134)) #[.int .i64 0, .slice none 0 0, .int .i64 0, .bool false, .bool false, .bool false, .int .i64 0, .bool false, .int .i64 0, .slice none 0 0, .slice none 0 0, .slice none 0 0, .int .i64 g.p, .int .i64 g.b, .int .i64 g.s, .int .i64 g.c, .int .i64 g.k, .int .i64 g.r, .int .i64 g.q, .slice (some ⟨w1.heap.size, 0, none⟩) B B, .bool false] 131).drew
  simpa using h0)
 have X3 := Lib.hid (show Cells w3 w1.heap.size 134 (recF g (Jd.newK 0)) by
  rw [hw3]
  refine ⟨madeCells Z66 (B * 66), ((CRow.new w1 _ _).alloc _).drew, fun i v hv => ?_⟩
  unfold recF at hv
  rw [← HBN.out] at hv
  by_cases hi : i / 66 < B
  ·
   rw [if_pos hi] at hv
   injection hv with hv
   rw [jmade_get _ _ _ (by omega), show Z66.size = 66 by simp [Z66], Z66_at _ (by omega), ← hv]
   unfold recV Jd.newK
   by_cases e0 : i % 66 = 0
   ·
    rw [if_pos e0, if_pos e0]
   ·
    rw [if_neg e0, if_neg e0]
    by_cases e1 : i % 66 = 1
    ·
     rw [if_pos e1]; rfl
    ·
     rw [if_neg e1]
     split <;> rfl
  ·
   rw [if_neg hi] at hv; cases hv)
 have B3 := Lib.hid (show Below w.heap.size w w3 by
  rw [hw3]
  exact ((B1.out.alloc L1.out _).alloc (by have := L1.out; simp; omega) _).drew)
 have S3 := Lib.hid (show w3.heap.size = w1.heap.size + 2 by rw [hw3]; simp)
 have N9 := Lib.hid (show ∀ W, CRow W (w1.heap.size + 1) 131 #[.int .i64 0, .slice none 0 0, .int .i64 0, .bool false, .bool false, .bool false, .int .i64 0, .bool false, .int .i64 0, .slice none 0 0, .slice none 0 0, .slice none 0 0, .int .i64 g.p, .int .i64 g.b, .int .i64 g.s, .int .i64 g.c, .int .i64 g.k, .int .i64 g.r, .int .i64 g.q, .slice (some ⟨w1.heap.size, 0, none⟩) B B, .bool false] → W.cell? ⟨w1.heap.size + 1, 19, none⟩ = some (.slice (some ⟨w1.heap.size, 0, none⟩) B B) from fun W hW => hW.cell_at 19 _ rfl)
 rw [← hw3]
 clear hw3 hmkR
 have x19 := N9.out _ K3.out
 go_wp2
 clear x19
 go_loopw [20] (fun i wr => ∃ k : Nat, k ≤ B ∧ i = .int .i64 (k : Int) ∧ Hid (CRow wr (w1.heap.size + 1) 131 #[.int .i64 0, .slice none 0 0, .int .i64 0, .bool false, .bool false, .bool false, .int .i64 0, .bool false, .int .i64 0, .slice none 0 0, .slice none 0 0, .slice none 0 0, .int .i64 g.p, .int .i64 g.b, .int .i64 g.s, .int .i64 g.c, .int .i64 g.k, .int .i64 g.r, .int .i64 g.q, .slice (some ⟨w1.heap.size, 0, none⟩) B B, .bool false]) ∧ Hid (Cells wr w1.heap.size 134 (recF g (Jd.newK k))) ∧ Hid (Below w.heap.size w wr) ∧ Hid (w1.heap.size + 2 ≤ wr.heap.size)) (fun i _ => B - (intOf i).toNat)
 case atStart => exact ⟨0, Nat.zero_le _, rfl, K3, X3, B3, Lib.hid (by rw [S3.out]; exact Nat.le_refl _)⟩
 case round =>
  obtain ⟨k, hk, rfl, K4, X4, B4, S4⟩ := hrel
  rename World => wr
  clear K3 X3 B3 S3
  by_cases hlt : k < B
  ·
   have x19 := N9.out _ K4.out
   have E1 := Lib.hid (rec_la (g := g) (j := Jd.newK k) (b := k) (by rw [← HBN.out]; exact hlt))
   have e1 := X4.out.cell E1.out
   have f1 := X4.out.frozen (k * 66 + 1)
   have d1 : decide ((k : Int) < (B : Int)) = true := decide_eq_true (by omega)
   have i0 : (0 : Int) ≤ (k : Int) := by omega
   have i1 : (k : Int) < (B : Int) := by omega
   have HLT := Lib.hid hlt
   go_wp2
   go_roundw
   case rel =>
    have hset := (X4.out.set E1.out (.int .i64 (-1))).sub (f' := recF g (Jd.newK (k + 1))) (fun i v h => by
     have h1 := rec_set_la (g := g) (j := Jd.newK k) (la' := (Jd.newK (k + 1)).la) (x := k) (by rw [← HBN.out]; exact HLT.out) (fun b hne => by
      show (if b < k + 1 then (-1 : Int) else 0) = (if b < k then -1 else 0)
      by_cases h2 : b < k
      ·
       rw [if_pos h2, if_pos (by omega)]
      ·
       rw [if_neg h2, if_neg (by omega)]) i v h
     rw [show (Jd.newK (k + 1)).la k = -1 from if_pos (Nat.lt_succ_self k)] at h1
     exact h1)
    have KB := (Btw.refl (I := fun q => q = w1.heap.size) wr).setCell (p := ⟨w1.heap.size, k * 66 + 1, none⟩) (v := .int .i64 (-1)) rfl
    exact ⟨k + 1, by omega, by go_num, Lib.hid (K4.out.btw KB (by omega)), Lib.hid hset, Lib.hid (B4.out.trans (KB.below (S := w.heap.size) (fun q hq => by rw [hq]; exact L1.out) B4.out.size)), Lib.hid (Nat.le_trans S4.out KB.size)⟩
   case measure => simp [intOf]; omega
  ·
   obtain rfl : k = B := by omega
   have d1 : decide ((k : Int) < (k : Int)) = false := decide_eq_false (by omega)
   go_wp2
   go_ret2
   have hrec := X4.out.sub (f' := recF g Jd.new) (fun i v h => by
    rw [← h]
    unfold recF
    rw [← HBN.out]
    by_cases hi : i / 66 < k
    ·
     rw [if_pos hi, if_pos hi]
     unfold recV
     rw [show (Jd.newK k).la (i / 66) = -1 from if_pos hi]
     rfl
    ·
     rw [if_neg hi, if_neg hi])
   have hs := S4.out
   have hl := L1.out
   exact ⟨w1.heap.size + 1, rfl, B4.out, { aL := none, cL := 0, aR := none, cR := 0, aB := none, cB := 0, aE := none, cE := 0, r := w1.heap.size }, (by
    have h0 := K4.out
    rw [HBN.out] at h0
    exact h0), {
     ok := HOK.out
     rcs := hrec
     lis := ⟨rfl, .inl ⟨rfl, rfl⟩⟩
     l8 := fun x hx => absurd (show x ∈ ([] : List Nat) from hx) (by simp)
     row := ⟨rfl, .inl ⟨rfl, rfl⟩⟩
     blk := ⟨rfl, .inl ⟨rfl, rfl⟩⟩
     ers := ⟨rfl, .inl ⟨rfl, rfl⟩⟩
     ab := fun k hk => (by cases hk)
     ae := fun k hk => (by cases hk)
     be := fun k hk => (by cases hk)
     ip := by show w.heap.size ≤ w1.heap.size + 1; omega
     ir := by show w.heap.size ≤ w1.heap.size; omega
     iL := fun k hk => (by cases hk)
     iR := fun k hk => (by cases hk)
     iB := fun k hk => (by cases hk)
     iE := fun k hk => (by cases hk)
     new := fun k hk => by show w.heap.size ≤ k; have := B4.out.size; omega }⟩
end
section
variable {I K : Nat → Prop} {w w' : World} {p : Nat} {g : Gm} {j : Jd} {m : Jm}
def stJ (g : Gm) (l : List Cy) : Nat → Jd
 | 0 => Jd.new
 | k + 1 => match l[k]? with
  | some t => ((stJ g l k).step g t.k t.b).2
  | none => stJ g l k
def okJ (g : Gm) (l : List Cy) (k : Nat) : Bool := match l[k]? with
 | some t => ((stJ g l k).step g t.k t.b).1
 | none => false
theorem stJ_succ {l : List Cy} {k : Nat} {t : Cy} (h : l[k]? = some t) : stJ g l (k + 1) = ((stJ g l k).step g t.k t.b).2 := by
 show (match l[k]? with | some t => ((stJ g l k).step g t.k t.b).2 | none => stJ g l k) = _
 rw [h]
theorem okJ_is {l : List Cy} {k : Nat} {t : Cy} (h : l[k]? = some t) : okJ g l k = ((stJ g l k).step g t.k t.b).1 := by
 unfold okJ
 rw [h]
def RunIs (g : Gm) (l : List Cy) (n c : Nat) : Prop := c ≤ n ∧ (∀ k, k < c → okJ g l k = true) ∧ (c < n → okJ g l c = false)
set_option maxHeartbeats 2000000 in
theorem jRun (h : g.ok = true) (A : Option Addr) (n d : Nat) (l : List Cy) (hn : n ≤ 50000) (w : World) (hl : RC w A n l) : Calls Tryz.prog 14 #[g.val, .slice A n d] w fun e w' => ∃ c, RunIs g l n c ∧ e = .returned (.tuple #[.int .i64 (c : Int), .bool (decide (c = n))]) ∧ Below w.heap.size w w' := by
 have B0 := Lib.hid (below_new w (.cells #[.int .i64 g.p, .int .i64 g.b, .int .i64 g.s, .int .i64 g.c, .int .i64 g.k, .int .i64 g.r, .int .i64 g.q] 23))
 have Y0 := Lib.hid (GBox.new w g 23)
 have HC := Lib.hid (fun W => jNew g h W)
 have HR := Lib.hid hl
 have HOK := Lib.hid h
 simp only [Gm.val] at HC ⊢
 clear h hl
 go_enter Tryz.func14, Tryz.ntmps14
 obtain ⟨_, g0, g1, g2, g3, g4, g5, g6⟩ := Y0.out
 go_wp2_with fail
 clear g0 g1 g2 g3 g4 g5 g6
 refine (HC.out _).mono ?_
 rintro _ w1 ⟨p, rfl, h1, hj⟩
 have B1 := Lib.hid (below_step B0.out h1)
 have J1 := Lib.hid (show JH _ w1 p g (stJ g l 0) from hj)
 have F1 := Lib.hid (show Jf g 0 (stJ g l 0) from Jf.new g)
 obtain ⟨I, hI⟩ : ∃ I, I = fun k => (w.alloc (.cells #[.int .i64 g.p, .int .i64 g.b, .int .i64 g.s, .int .i64 g.c, .int .i64 g.k, .int .i64 g.r, .int .i64 g.q] 23)).heap.size ≤ k := ⟨_, rfl⟩
 have HI := Lib.hid (show ∀ k, I k → w.heap.size ≤ k from fun k hk => by
  rw [hI] at hk
  have e : (w.alloc (.cells #[.int .i64 g.p, .int .i64 g.b, .int .i64 g.s, .int .i64 g.c, .int .i64 g.k, .int .i64 g.r, .int .i64 g.q] 23)).heap.size = w.heap.size + 1 := by simp
  have hk : (w.alloc (.cells #[.int .i64 g.p, .int .i64 g.b, .int .i64 g.s, .int .i64 g.c, .int .i64 g.k, .int .i64 g.r, .int .i64 g.q] 23)).heap.size ≤ k := hk
  omega)
 rw [← hI] at J1
 clear h1 hj HC B0 Y0 hI
 go_wp2
 go_loopw [19] (fun i wr => ∃ k : Nat, k ≤ n ∧ i = .int .i64 (k : Int) ∧ Hid (∀ q, q < k → okJ g l q = true) ∧ Hid (Jf g k (stJ g l k)) ∧ Hid (JH I wr p g (stJ g l k)) ∧ Hid (Below w.heap.size w wr)) (fun i _ => n - (intOf i).toNat)
 case atStart => exact ⟨0, Nat.zero_le _, rfl, Lib.hid (fun q hq => absurd hq (by omega)), F1, J1, B1⟩
 case round =>
  obtain ⟨k, hk, rfl, HO, HF, HJ, HB⟩ := hrel
  rename World => wr
  clear J1 F1 B1
  by_cases hlt : k < n
  ·
   obtain ⟨b9, o9, t, rfl, hb9, HX, hin, x0, x1⟩ := (HR.out.below HB.out).at_ hlt
   have d1 : decide ((k : Int) < (n : Int)) = true := decide_eq_true (by omega)
   have i0 : (0 : Int) ≤ (k : Int) := by omega
   have N1 := Lib.hid (below_new wr (.cells #[.int .i64 t.k, .int .u8 (t.b : Int)] 93))
   have HA1 := Lib.hid (HJ.out.below N1.out)
   have B1 := Lib.hid (below_step HB.out N1.out)
   have HS := Lib.hid (jStep (q := k) t.k t.b hin.2.2 (by omega) HF.out HA1.out)
   have HL := Lib.hid (HF.out.step HOK.out HJ.out.l8 t.k t.b hin.2.2)
   rw [← stJ_succ HX.out] at HL
   rw [← stJ_succ HX.out, ← okJ_is HX.out] at HS
   clear HJ HB HF hb9 hin
   go_wp2_with fail
   clear x0 x1
   refine HS.out.mono ?_
   rintro e w2 ⟨he, hj2, hb2⟩
   have J2 := Lib.hid hj2
   have B2 := Lib.hid (B1.out.trans (hb2.below (S := w.heap.size) HI.out B1.out.size))
   cases hv : okJ g l k with
   | false =>
    rw [hv] at he
    subst he
    have HV := Lib.hid hv
    have HKN := Lib.hid hlt
    clear hv hj2 hb2 HS N1
    go_wp2
    go_ret2
    exact ⟨k, ⟨hk, HO.out, fun _ => HV.out⟩, by rw [decide_eq_false (by have := HKN.out; omega)]; rfl, B2.out⟩
   | true =>
    rw [hv] at he
    subst he
    have HV := Lib.hid hv
    clear hv hj2 hb2 HS N1
    go_wp2
    go_roundw
    case rel => exact ⟨k + 1, by omega, by go_num, Lib.hid (fun q hq => by
     by_cases e : q = k
     ·
      rw [e]; exact HV.out
     ·
      exact HO.out q (by omega)), HL, J2, B2⟩
    case measure => simp [intOf]; omega
  ·
   obtain rfl : k = n := by omega
   have d1 : decide ((k : Int) < (k : Int)) = false := decide_eq_false (by omega)
   go_wp2
   go_ret2
   exact ⟨k, ⟨Nat.le_refl _, HO.out, fun h => absurd h (by omega)⟩, by rw [decide_eq_true rfl]; rfl, HB.out⟩
def geo15 : Gm := ⟨1, 2, 4, 1, 4, 1, 1⟩
end
def jsmall (g : Gm) : Prop := smallG g ∧ g.b ≤ 16 ∧ g.s ≤ 12
section
variable {I K : Nat → Prop} {w w' : World} {p : Nat} {g : Gm} {j : Jd} {m : Jm}
end
def Lg (g : Gm) (j : Jd) : List Cy → Prop
 | [] => True
 | t :: ts => (j.step g t.k t.b).1 = true ∧ Lg g (j.step g t.k t.b).2 ts
def jx (g : Gm) (j : Jd) : List Cy → Jd
 | [] => j
 | t :: ts => jx g (j.step g t.k t.b).2 ts
section
variable {g : Gm} {j : Jd}
theorem jx_append (ts us : List Cy) : ∀ j, jx g j (ts ++ us) = jx g (jx g j ts) us := by
 induction ts with
 | nil => exact fun j => rfl
 | cons t ts ih => exact fun j => ih _
theorem Lg.append (ts us : List Cy) : ∀ j, Lg g j (ts ++ us) ↔ Lg g j ts ∧ Lg g (jx g j ts) us := by
 induction ts with
 | nil => exact fun j => ⟨fun h => ⟨trivial, h⟩, fun h => h.2⟩
 | cons t ts ih =>
  intro j
  have := ih (j.step g t.k t.b).2
  exact ⟨fun h => ⟨⟨h.1, (this.1 h.2).1⟩, (this.1 h.2).2⟩, fun h => ⟨h.1.1, this.2 ⟨h.1.2, h.2⟩⟩⟩
theorem Lg.and {ts us : List Cy} {j' : Jd} (h1 : Lg g j ts ∧ jx g j ts = j') (h2 : Lg g j' us) : Lg g j (ts ++ us) := (Lg.append ts us j).2 ⟨h1.1, by rw [h1.2]; exact h2⟩
theorem Lg.then_ {ts us : List Cy} {j' j'' : Jd} (h1 : Lg g j ts ∧ jx g j ts = j') (h2 : Lg g j' us ∧ jx g j' us = j'') : Lg g j (ts ++ us) ∧ jx g j (ts ++ us) = j'' := ⟨Lg.and h1 h2.1, by rw [jx_append, h1.2, h2.2]⟩
theorem Lg.pre {ts us : List Cy} (h : Lg g j (ts ++ us)) : Lg g j ts := ((Lg.append ts us j).1 h).1
theorem jx_take (l : List Cy) : ∀ k, k ≤ l.length → stJ g l k = jx g Jd.new (l.take k) := by
 intro k
 induction k with
 | zero => exact fun _ => rfl
 | succ k ih =>
  intro hk
  have ht : l[k]? = some l[k] := List.getElem?_eq_getElem (by omega)
  rw [stJ_succ ht, ih (by omega), List.take_add_one, ht, Option.toList_some, jx_append]
  rfl
theorem Lg.run {l : List Cy} {c : Nat} (h : Lg g Jd.new l) (hr : RunIs g l l.length c) : c = l.length := by
 rcases Nat.lt_or_ge c l.length with hlt | hge
 ·
  have h1 := hr.2.2 hlt
  have ht : l[c]? = some l[c] := List.getElem?_eq_getElem hlt
  rw [okJ_is ht, jx_take l c (by omega)] at h1
  have h2 : Lg g Jd.new (l.take c ++ l.drop c) := by rw [List.take_append_drop]; exact h
  have h3 := ((Lg.append _ _ _).1 h2).2
  rw [List.drop_eq_getElem_cons hlt] at h3
  rw [h3.1] at h1
  cases h1
 ·
  have := hr.1
  omega
def jW (o : Nat) (l : List Nat) (ct : Nat) (bu po da : Bool) (co : Nat) : Jd := { op := o, listed := l, count := ct, busy := bu, pol := po, bg := false, bgb := 0, data := da, col := co, rows := [], blocks := [], erases := [], er := fun _ => false, la := fun _ => -1, pr := fun _ => 0, rej := false }
theorem l_busy (n : Nat) {d : Bool} {co : Nat} : Lg g (jW 1 [] 0 true true d co) (List.replicate n ⟨4, 128⟩) ∧ jx g (jW 1 [] 0 true true d co) (List.replicate n ⟨4, 128⟩) = jW 1 [] 0 true true d co := by
 induction n with
 | zero => exact ⟨trivial, rfl⟩
 | succ n ih => exact ⟨⟨rfl, ih.1⟩, ih.2⟩
theorem l_done {d : Bool} {co : Nat} : Lg g (jW 1 [] 0 true true d co) [⟨4, 224⟩] ∧ jx g (jW 1 [] 0 true true d co) [⟨4, 224⟩] = jW 1 [] 0 false true d co := ⟨⟨rfl, trivial⟩, rfl⟩
theorem l_70 {bu d po : Bool} {co : Nat} : Lg g (jW 1 [] 0 bu po d co) [⟨1, 112⟩] ∧ jx g (jW 1 [] 0 bu po d co) [⟨1, 112⟩] = jW 1 [] 0 bu true d co := by
 cases bu <;> exact ⟨⟨rfl, trivial⟩, rfl⟩
theorem l_name {d : Bool} {co : Nat} : Lg g (jW 1 [] 0 false true d co) [⟨1, 144⟩, ⟨2, 0⟩] ∧ jx g (jW 1 [] 0 false true d co) [⟨1, 144⟩, ⟨2, 0⟩] = jW 2 [0] 0 false false false co := ⟨⟨rfl, rfl, trivial⟩, rfl⟩
theorem l_name2 {n co : Nat} : Lg g (jW 2 [0] n false false false co) [⟨1, 144⟩, ⟨2, 0⟩] ∧ jx g (jW 2 [0] n false false false co) [⟨1, 144⟩, ⟨2, 0⟩] = jW 2 [0] 0 false false false co := ⟨⟨rfl, rfl, trivial⟩, rfl⟩
theorem l_name6 {co : Nat} : Lg g (jW 6 [] 0 false false true co) [⟨1, 144⟩, ⟨2, 0⟩] ∧ jx g (jW 6 [] 0 false false true co) [⟨1, 144⟩, ⟨2, 0⟩] = jW 2 [0] 0 false false false co := ⟨⟨rfl, rfl, trivial⟩, rfl⟩
theorem l_told (ts : List Cy) : ∀ (n : Nat) {co : Nat}, (∀ t ∈ ts, t.k = 4) → n + ts.length ≤ 5 → Lg g (jW 2 [0] n false false false co) ts ∧ jx g (jW 2 [0] n false false false co) ts = jW 2 [0] (n + ts.length) false false false co := by
 induction ts with
 | nil => exact fun n _ _ _ => ⟨trivial, rfl⟩
 | cons t ts ih =>
  intro n co h hn
  rw [List.length_cons] at hn
  obtain ⟨k, b⟩ := t
  obtain rfl : k = 4 := h _ (List.mem_cons_self ..)
  have e : (jW 2 [0] n false false false co).step g 4 b = (decide (n + 1 ≤ 5), if decide (n + 1 ≤ 5) = false then { jW 2 [0] (n + 1) false false false co with rej := true } else jW 2 [0] (n + 1) false false false co) := by
   unfold Jd.step
   show (if false = true then _ else if (decide (0 < 1) && decide (n + 1 ≤ 5)) = false then _ else _) = _
   rw [if_neg (by decide), decide_eq_true (show n + 1 ≤ 5 by omega)]
   rfl
  have h1 : decide (n + 1 ≤ 5) = true := decide_eq_true (by omega)
  rw [h1, if_neg (by decide)] at e
  obtain ⟨i1, i2⟩ := ih (n + 1) (co := co) (fun t ht => h t (List.mem_cons_of_mem _ ht)) (by omega)
  refine ⟨⟨by show ((jW 2 [0] n false false false co).step g 4 b).1 = true; rw [e], by show Lg g ((jW 2 [0] n false false false co).step g 4 b).2 ts; rw [e]; exact i1⟩, ?_⟩
  show jx g ((jW 2 [0] n false false false co).step g 4 b).2 ts = _
  rw [e, i2, List.length_cons, show n + (ts.length + 1) = n + 1 + ts.length by omega]
theorem l_pars {n co : Nat} : Lg g (jW 2 [0] n false false false co) [⟨1, 236⟩, ⟨2, 0⟩] ∧ jx g (jW 2 [0] n false false false co) [⟨1, 236⟩, ⟨2, 0⟩] = jW 1 [] 0 true false true 0 := ⟨⟨rfl, rfl, trivial⟩, rfl⟩
theorem l_fetch {co : Nat} : Lg g (jW 1 [] 0 false true true co) [⟨1, 0⟩] ∧ jx g (jW 1 [] 0 false true true co) [⟨1, 0⟩] = jW 5 [] 0 false false true co := ⟨⟨rfl, trivial⟩, rfl⟩
theorem l_out (ts : List Cy) : ∀ (co : Nat), (∀ t ∈ ts, t.k = 4) → co + ts.length ≤ g.raw.toNat → Lg g (jW 6 [] 0 false false true co) ts ∧ jx g (jW 6 [] 0 false false true co) ts = jW 6 [] 0 false false true (co + ts.length) := by
 induction ts with
 | nil => exact fun co _ _ => ⟨trivial, rfl⟩
 | cons t ts ih =>
  intro co h hn
  rw [List.length_cons] at hn
  obtain ⟨k, b⟩ := t
  obtain rfl : k = 4 := h _ (List.mem_cons_self ..)
  have h1 : decide (co + 1 ≤ g.raw.toNat) = true := decide_eq_true (by omega)
  have e : (jW 6 [] 0 false false true co).step g 4 b = (true, jW 6 [] 0 false false true (co + 1)) := by
   unfold Jd.step
   show (if false = true then _ else if decide (co + 1 ≤ g.raw.toNat) = false then _ else _) = _
   rw [if_neg (by decide), h1]
   rfl
  obtain ⟨i1, i2⟩ := ih (co + 1) (fun t ht => h t (List.mem_cons_of_mem _ ht)) (by omega)
  refine ⟨⟨by show ((jW 6 [] 0 false false true co).step g 4 b).1 = true; rw [e], by show Lg g ((jW 6 [] 0 false false true co).step g 4 b).2 ts; rw [e]; exact i1⟩, ?_⟩
  show jx g ((jW 6 [] 0 false false true co).step g 4 b).2 ts = _
  rw [e, i2, List.length_cons, show co + (ts.length + 1) = co + 1 + ts.length by omega]
theorem l_first {co b : Nat} (h : co + 1 ≤ g.raw.toNat) : Lg g (jW 5 [] 0 false false true co) [⟨4, b⟩] ∧ jx g (jW 5 [] 0 false false true co) [⟨4, b⟩] = jW 6 [] 0 false false true (co + 1) := by
 have h1 : decide (co + 1 ≤ g.raw.toNat) = true := decide_eq_true h
 have e : (jW 5 [] 0 false false true co).step g 4 b = (true, jW 6 [] 0 false false true (co + 1)) := by
  unfold Jd.step
  show (if false = true then _ else if decide (co + 1 ≤ g.raw.toNat) = false then _ else _) = _
  rw [if_neg (by decide), h1]
  rfl
 exact ⟨⟨by show ((jW 5 [] 0 false false true co).step g 4 b).1 = true; rw [e], trivial⟩, by show ((jW 5 [] 0 false false true co).step g 4 b).2 = _; rw [e]⟩
end
end Go.Proofs.YtmbgoopkpfhamaaGreat
