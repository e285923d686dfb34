/-
  Contracts of the teller's made, Busy, Fails, Turns, Done, over the landed code.
-/
import Derived.Test.YtodljocbimgeoaaChB
namespace Go.Proofs.Ytodljocbimgeoaa
open Go.RowKit
set_option maxRecDepth 100000

theorem neqMap12 (b : Nat) (w : World) : (binOp .neq 46 (.map (some b)) (.map none)).run Try.prog w = .ok (.bool true) w := by kernel_rfl

theorem made_any (p b : Nat) (v1 v2 v3 v4 v5 : Value) (w : World) (h : CRow w p 48 #[v1, v2, .map (some b), v3, v4, v5]) :
    Calls Try.prog 16 #[.pointer (some ⟨p, 0, none⟩)] w (Gives (.bool true) w) := by
  have x2 := h.cell_at 2 _ rfl
  clear h
  have hne := neqMap12
  go_enter Try.func16, Try.ntmps16
  go_wp2
  go_ret
  exact ⟨rfl, Below.refl _ _⟩
theorem made_nil (w : World) : Calls Try.prog 16 #[.pointer none] w (Gives (.bool false) w) := by
  go_enter Try.func16, Try.ntmps16
  go_wp2
  go_ret
  exact ⟨rfl, Below.refl _ _⟩
theorem Busy_nil (w : World) : Calls Try.prog 7 #[.pointer none] w (Gives (.int .i64 0) w) := by
  go_enter Try.func7, Try.ntmps7
  go_wp2_with fail
  refine (made_nil _).mono ?_
  rintro _ w1 ⟨rfl, h1⟩
  have B1 := Lib.hid h1
  clear h1
  go_wp2
  go_ret
  exact ⟨rfl, B1.out⟩
theorem Fails_nil (w : World) : Calls Try.prog 8 #[.pointer none] w (Gives (.bool false) w) := by
  go_enter Try.func8, Try.ntmps8
  go_wp2_with fail
  refine (made_nil _).mono ?_
  rintro _ w1 ⟨rfl, h1⟩
  have B1 := Lib.hid h1
  clear h1
  go_wp2
  go_ret
  exact ⟨rfl, B1.out⟩
theorem Turns_nil (r g : Int) (w : World) : Calls Try.prog 9 #[.pointer none, .int .i64 r, .int .i64 g] w (Gives (.slice none 0 0) w) := by
  go_enter Try.func9, Try.ntmps9
  go_wp2_with fail
  refine (made_nil _).mono ?_
  rintro _ w1 ⟨rfl, h1⟩
  have B1 := Lib.hid h1
  clear h1
  go_wp2
  go_ret
  exact ⟨rfl, B1.out⟩
theorem Torn_nil (r : Int) (w : World) : Calls Try.prog 10 #[.pointer none, .int .i64 r] w (Gives (.slice none 0 0) w) := by
  go_enter Try.func10, Try.ntmps10
  go_wp2_with fail
  refine (made_nil _).mono ?_
  rintro _ w1 ⟨rfl, h1⟩
  have B1 := Lib.hid h1
  clear h1
  go_wp2
  go_ret
  exact ⟨rfl, B1.out⟩
theorem Done_nil (w : World) : Calls Try.prog 6 #[.pointer none] w (Gives (.tuple #[.int .i64 0, .int .i64 0]) w) := by
  go_enter Try.func6, Try.ntmps6
  go_wp2_with fail
  refine (made_nil _).mono ?_
  rintro _ w1 ⟨rfl, h1⟩
  have B1 := Lib.hid h1
  clear h1
  go_wp2
  go_ret2
  exact ⟨rfl, B1.out⟩

set_option maxHeartbeats 2000000 in
theorem Busy_any (p lo hi : Nat) (s : Sc) (n : Nat) (wk : Int) (w : World) (h : Tel w p lo hi s n wk) (hf : s.short) (hk : s.ok) (hn : n ≤ 1099511627776) :
    Calls Try.prog 7 #[.pointer (some ⟨p, 0, none⟩)] w fun e w' => e = .returned (.int .i64 (s.busy.getD n 0)) ∧ Btw (fun j => j = p) w w' ∧ Tel w' p lo hi s ((n : Int) + 1) wk := by
  have HT := Lib.hid h
  have HF := Lib.hid hf.busy
  have HK := Lib.hid hk.busy.all
  obtain ⟨A1, c1, A2, c2, b, A3, c3, base, m, hc, o1, o2, o3, hg⟩ := h.use
  have HC := Lib.hid hc
  have HO := Lib.hid o1
  clear h hf hk hc o1 o2 o3 hg
  go_enter Try.func7, Try.ntmps7
  go_wp2_with fail
  refine (made_any p b _ _ _ _ _ _ HC.out).mono ?_
  rintro _ w1 ⟨rfl, h1⟩
  have B1 := Lib.hid h1
  have C1 := Lib.hid (HC.out.below h1)
  have O1 := Lib.hid (own_below HO.out h1)
  have T2 := Lib.hid ((HT.out.below h1).busy_ ((n : Int) + 1))
  have x0 := C1.out.cell_at 0 _ rfl
  have x4 := C1.out.cell_at 4 _ rfl
  have f4 := C1.out.frozen 4
  have C2 := Lib.hid (C1.out.setCell 4 (.int .i64 ((n : Int) + 1)))
  have y0 := C2.out.cell_at 0 (.slice A1 s.busy.length c1) rfl
  have K2 := Lib.hid ((Btw.of_below (I := fun j => j = p) B1.out).setCell (p := ⟨p, 4, none⟩) (v := .int .i64 ((n : Int) + 1)) rfl)
  have O2 := Lib.hid (own_btw1 O1.out ((Btw.refl w1).setCell (I := fun j => j = p) (p := ⟨p, 4, none⟩) (v := .int .i64 ((n : Int) + 1)) rfl) (own_ne O1.out C1.out (by decide)))
  clear h1 HC HT HO
  by_cases hlt : n < s.busy.length
  · obtain ⟨b0, off, x, rfl, hb0, HX, hx1, hx2, hx3⟩ := (R64.own O2.out HK.out).at_ hlt
    have i0 : (0 : Int) ≤ (n : Int) := by omega
    have i1 : (n : Int) < (s.busy.length : Int) := by omega
    have e := getD_of HX.out
    have E := Lib.hid e
    clear e HX O1 O2
    go_wp2
    go_ret
    exact ⟨ret_int E.out.symm, K2.out, T2.out⟩
  · have i1 : (s.busy.length : Int) ≤ (n : Int) := by omega
    have E := Lib.hid (show s.busy.getD n 0 = 0 by rw [List.getD, List.getElem?_eq_none (by omega)]; rfl)
    clear O1 O2
    go_wp2
    go_ret
    exact ⟨ret_int E.out.symm, K2.out, T2.out⟩

theorem ret_pair {x : Value} {a b : Bool} (h : a = b) : Ending.returned (.tuple #[x, .bool a]) = .returned (.tuple #[x, .bool b]) := by rw [h]
theorem isNaN_any (x : Int) (w : World) : Calls Try.prog 23 #[.int .i64 x] w (Gives (.bool false) w) := by
  go_enter Try.func23, Try.ntmps23
  go_wp2
  go_ret
  exact ⟨rfl, Below.refl _ _⟩
theorem isNaNc_any (x : Int) (w : World) : Calls Try.prog 29 #[.int .i64 x] w (Gives (.bool false) w) := by
  go_enter Try.func29, Try.ntmps29
  go_wp2
  go_ret
  exact ⟨rfl, Below.refl _ _⟩
theorem Less_any (x y : Int) (w : World) : Calls Try.prog 22 #[.int .i64 x, .int .i64 y] w (Gives (.bool (decide (x < y))) w) := by
  go_enter Try.func22, Try.ntmps22
  go_wp2_with fail
  refine (isNaNc_any x _).mono ?_
  rintro _ w1 ⟨rfl, h1⟩
  have B1 := Lib.hid h1
  clear h1
  go_wp2
  go_ret
  exact ⟨rfl, B1.out⟩

/-- The place at which a search in an ascending list ends tells whether it is there. -/
theorem found_iff {l : List Int} {m t : Int} {a : Nat} (h : ascL l m l.length) (h1 : ∀ q, q < a → l.getD q 0 < t) (h2 : ∀ q, a ≤ q → q < l.length → t ≤ l.getD q 0) : t ∈ l ↔ a < l.length ∧ l.getD a 0 = t := by
  constructor
  · intro ht
    obtain ⟨q, hq⟩ := List.mem_iff_getElem?.1 ht
    have hl := (List.getElem?_eq_some_iff.1 hq).1
    have e := getD_of hq
    rcases Nat.lt_trichotomy q a with h3 | rfl | h3
    · have := h1 q h3; omega
    · exact ⟨hl, e⟩
    · have := h.lt h3 hl
      have := h2 a (Nat.le_refl _) (by omega)
      omega
  · rintro ⟨hl, rfl⟩
    rw [List.getD, List.getElem?_eq_getElem hl]
    exact List.getElem_mem hl

set_option maxHeartbeats 2000000 in
theorem BinarySearch_any (A : Option Addr) (n c : Nat) (l : List Int) (m t : Int) (w : World) (hr : R64 w A n l) (hn : n ≤ 4096) (ha : ascL l m l.length) :
    Calls Try.prog 17 #[.slice A n c, .int .i64 t] w fun e w' => (∃ i : Int, e = .returned (.tuple #[.int .i64 i, .bool (decide (t ∈ l))])) ∧ Below w.heap.size w w' := by
  have HR := Lib.hid hr
  have HA := Lib.hid ha
  have HL := Lib.hid hr.len
  clear hr ha
  go_enter Try.func17, Try.ntmps17
  go_wp2
  go_loopw [7, 8] (fun i j wr => ∃ a b : Nat, a ≤ b ∧ b ≤ n ∧ i = .int .i64 (a : Int) ∧ j = .int .i64 (b : Int) ∧ Hid (∀ q, q < a → l.getD q 0 < t) ∧ Hid (∀ q, b ≤ q → q < n → t ≤ l.getD q 0) ∧ Hid (Below w.heap.size w wr)) (fun i j _ => (intOf j).toNat - (intOf i).toNat)
  case atStart => exact ⟨0, n, Nat.zero_le _, Nat.le_refl _, rfl, rfl, fun q hq => (by omega), fun q h1 h2 => (by omega), Below.refl _ _⟩
  case round =>
    obtain ⟨a, b, hab, hbn, rfl, rfl, H1, H2, HB⟩ := hrel
    rename World => wr
    by_cases hlt : a < b
    · have hh1 : a ≤ (a + b) / 2 := by omega
      have hh2 : (a + b) / 2 < b := by omega
      obtain ⟨b0, off, x, rfl, hb0, HX, hx1, hx2, hx3⟩ := (HR.out.below HB.out).at_ (k := (a + b) / 2) (by omega)
      have E := Lib.hid (getD_of HX.out)
      have A1 : Hid (x < t → ∀ q, q < (a + b) / 2 + 1 → l.getD q 0 < t) := Lib.hid fun h q hq => by
        rcases Nat.lt_or_ge q ((a + b) / 2) with h3 | h3
        · have := HA.out.lt h3 (by have := HL.out; omega)
          rw [E.out] at this
          omega
        · obtain rfl : q = (a + b) / 2 := by omega
          rw [E.out]
          exact h
      have A2 : Hid (¬ x < t → ∀ q, (a + b) / 2 ≤ q → q < n → t ≤ l.getD q 0) := Lib.hid fun h q hq hqn => by
        rcases Nat.lt_or_ge ((a + b) / 2) q with h3 | h3
        · have := HA.out.lt h3 (by have := HL.out; omega)
          rw [E.out] at this
          omega
        · obtain rfl : q = (a + b) / 2 := by omega
          rw [E.out]
          omega
      clear HR HA HL HX E
      go_wp2_with fail
      refine (Less_any x t _).mono ?_
      rintro _ w1 ⟨rfl, h1⟩
      have B1 := Lib.hid (HB.out.trans (h1.mono HB.out.size))
      clear h1 HB
      by_cases hxt : x < t
      · go_wp2
        go_roundw
        case rel => exact ⟨(a + b) / 2 + 1, b, by omega, hbn, by go_num, rfl, A1.out hxt, H2, B1⟩
        case measure => simp [intOf]; omega
      · go_wp2
        go_roundw
        case rel => exact ⟨a, (a + b) / 2, hh1, by omega, rfl, by go_num, H1, A2.out hxt, B1⟩
        case measure => simp [intOf]; omega
    · obtain rfl : a = b := by omega
      have HF := Lib.hid (found_iff HA.out H1.out (by rw [HL.out]; exact H2.out))
      by_cases han : a < n
      · obtain ⟨b0, off, x, rfl, hb0, HX, hx1, hx2, hx3⟩ := (HR.out.below HB.out).at_ (k := a) han
        have E := Lib.hid (getD_of HX.out)
        by_cases hxt : x = t
        · have hd := Lib.hid (show decide (t ∈ l) = true from decide_eq_true (HF.out.2 ⟨by rw [HL.out]; exact han, by rw [E.out]; exact hxt⟩))
          subst hxt
          clear HR HA HL HX E HF H1 H2
          go_wp2
          go_ret2
          exact ⟨⟨a, ret_pair hd.out.symm⟩, HB.out⟩
        · have hd := Lib.hid (show decide (t ∈ l) = false from decide_eq_false (fun h => hxt (by rw [← E.out]; exact (HF.out.1 h).2)))
          have hne : (x == t) = false := by simpa using hxt
          clear HR HA HL HX E HF H1 H2 hxt
          go_wp2_with fail
          refine (isNaN_any x _).mono ?_
          rintro _ w1 ⟨rfl, h1⟩
          have B1 := Lib.hid (HB.out.trans (h1.mono HB.out.size))
          clear h1
          go_wp2
          go_ret2
          exact ⟨⟨a, ret_pair hd.out.symm⟩, B1.out⟩
      · have hd := Lib.hid (show decide (t ∈ l) = false from decide_eq_false (fun h => han (by have := (HF.out.1 h).1; rw [HL.out] at this; exact this)))
        clear HR HA HL HF H1 H2
        go_wp2
        go_ret2
        exact ⟨⟨a, ret_pair hd.out.symm⟩, HB.out⟩

set_option maxHeartbeats 2000000 in
theorem Fails_any (p lo hi : Nat) (s : Sc) (bz : Int) (n : Nat) (w : World) (h : Tel w p lo hi s bz n) (hf : s.short) (hk : s.ok) (hn : n ≤ 1099511627776) :
    Calls Try.prog 8 #[.pointer (some ⟨p, 0, none⟩)] w fun e w' => e = .returned (.bool (decide ((n : Int) ∈ s.fails))) ∧ Btw (fun j => j = p) w w' ∧ Tel w' p lo hi s bz ((n : Int) + 1) := by
  have HT := Lib.hid h
  have HF := Lib.hid hf.fails
  have HK := Lib.hid (hk.fails.all (by omega))
  have HA := Lib.hid hk.fails
  obtain ⟨A1, c1, A2, c2, b, A3, c3, base, m, hc, o1, o2, o3, hg⟩ := h.use
  have HC := Lib.hid hc
  have HO := Lib.hid o2
  clear h hf hk hc o1 o2 o3 hg
  go_enter Try.func8, Try.ntmps8
  go_wp2_with fail
  refine (made_any p b _ _ _ _ _ _ HC.out).mono ?_
  rintro _ w1 ⟨rfl, h1⟩
  have B1 := Lib.hid h1
  have C1 := Lib.hid (HC.out.below h1)
  have O1 := Lib.hid (own_below HO.out h1)
  have T2 := Lib.hid ((HT.out.below h1).work_ ((n : Int) + 1))
  have x5 := C1.out.cell_at 5 _ rfl
  have f5 := C1.out.frozen 5
  have C2 := Lib.hid (C1.out.setCell 5 (.int .i64 ((n : Int) + 1)))
  have y1 := C2.out.cell_at 1 (.slice A2 s.fails.length c2) rfl
  have K2 := Lib.hid ((Btw.of_below (I := fun j => j = p) B1.out).setCell (p := ⟨p, 5, none⟩) (v := .int .i64 ((n : Int) + 1)) rfl)
  have O2 := Lib.hid (own_btw1 O1.out ((Btw.refl w1).setCell (I := fun j => j = p) (p := ⟨p, 5, none⟩) (v := .int .i64 ((n : Int) + 1)) rfl) (own_ne O1.out C1.out (by decide)))
  have R2 := Lib.hid (R64.own O2.out HK.out)
  clear h1 HC HT HO O1 O2 C1 C2
  go_wp2_with fail
  refine (BinarySearch_any A2 s.fails.length c2 s.fails _ n _ R2.out HF.out HA.out).mono ?_
  rintro _ w3 ⟨⟨i, rfl⟩, h3⟩
  have T3 := Lib.hid (T2.out.below h3)
  have K3 := Lib.hid (K2.out.trans (Btw.of_below (I := fun j => j = p) h3) (fun _ _ h => h))
  clear h3 T2 K2 R2 y1 x5 f5
  go_wp2
  go_ret
  exact ⟨rfl, K3.out, T3.out⟩

set_option maxHeartbeats 2000000 in
theorem Turns_any (p lo hi : Nat) (s : Sc) (bz wk r g : Int) (w : World) (h : Tel w p lo hi s bz wk) (hf : s.short) (hk : s.ok) (hr : in64 r) (hg : in64 g) :
    Calls Try.prog 9 #[.pointer (some ⟨p, 0, none⟩), .int .i64 r, .int .i64 g] w (OwnsJ (grp s.turns (r, g)) w) := by
  have HP := Lib.hid (show pin (r, g) from ⟨hr, hg⟩)
  have HN := Lib.hid (show ∀ x ∈ grp s.turns (r, g), -9223372036854775808 ≤ x ∧ x ≤ 9223372036854775807 from fun x hx => by
    have := hk.turns.all _ (grp_mem hx)
    unfold Tn.ok at this
    simp only at this
    omega)
  have HL := Lib.hid (show (grp s.turns (r, g)).length ≤ 4096 from Nat.le_trans (grp_len _ _) hf.turns)
  clear hf hk hr hg
  obtain ⟨A1, c1, A2, c2, b, A3, c3, base, m, hc, o1, o2, o3, hg⟩ := h.use
  have HC := Lib.hid hc
  have HG := Lib.hid hg
  clear h hc o1 o2 o3 hg
  go_enter Try.func9, Try.ntmps9
  go_wp2_with fail
  refine (made_any p b _ _ _ _ _ _ HC.out).mono ?_
  rintro _ w1 ⟨rfl, h1⟩
  have B1 := Lib.hid h1
  have C1 := Lib.hid (HC.out.below h1)
  have G1 := Lib.hid (HG.out.below h1)
  have x2 := C1.out.cell_at 2 _ rfl
  obtain ⟨v, hrun, ho⟩ := G1.out.look pkeys Try.underlying46 (zero_ints w1) (r, g) HP.out
  obtain ⟨A, c, rfl⟩ := own_form ho
  rw [I64_length] at ho hrun
  have R1 := Lib.hid (R64.own ho HN.out)
  simp only [pkey] at hrun
  clear h1 HC HG ho C1 G1
  go_wp2_with fail
  refine (CloneI_any A _ c _ _ R1.out (by have := HL.out; omega)).mono ?_
  rintro _ w3 ⟨A', c', rfl, ho3, h3⟩
  have O3 := Lib.hid (own_rebase ho3 B1.out.size)
  have B3 := Lib.hid (below_step B1.out h3)
  clear ho3 h3
  go_wp2
  go_ret
  exact ⟨A', c', rfl, O3.out, B3.out⟩
end Go.Proofs.Ytodljocbimgeoaa
