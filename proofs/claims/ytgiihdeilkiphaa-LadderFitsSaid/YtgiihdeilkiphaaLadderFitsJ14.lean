/-
  Contracts of the laws' Same at two pages of the same contents, and of awake, over the landed code.
-/
import Derived.Deep.RegionHeld3
import Derived.Test.YtgiihdeilkiphaaLadderFitsJ13
import Derived.Test.YtgiihdeilkiphaaLadderFitsJPageH
import Derived.Test.YtgiihdeilkiphaaLadderFitsJ3
import Derived.Test.YtgiihdeilkiphaaLadderFitsJMat2
import Derived.Test.YtgiihdeilkiphaaLadderFitsJ1
namespace Go.Proofs.Ytgiihdeilkiphaa
open Go.RowKit
set_option maxRecDepth 100000

set_option maxHeartbeats 1000000 in
theorem SameP_yes (A B : Option Addr) (n c d : Nat) (l : List Nat) (tk ts tq te st : Int) (w : World) (ha : R8 w A n l) (hb : R8 w B n l) (hn : n ≤ 1099511627776) :
    Calls Try.prog 11 #[.agg #[.slice A n c, .int .i64 tk, .int .i64 ts, .int .i64 tq, .int .i64 te, .int .i64 st], .agg #[.slice B n d, .int .i64 tk, .int .i64 ts, .int .i64 tq, .int .i64 te, .int .i64 st]] w (Gives (.bool true) w) := by
  have BB := Lib.hid (below_step (below_new w (.cells #[.slice A n c, .int .i64 tk, .int .i64 ts, .int .i64 tq, .int .i64 te, .int .i64 st] 31)) (below_new _ (.cells #[.slice B n d, .int .i64 tk, .int .i64 ts, .int .i64 tq, .int .i64 te, .int .i64 st] 31)))
  have HA := Lib.hid (ha.below BB.out)
  have HB := Lib.hid (hb.below BB.out)
  clear ha hb
  go_enter Try.func11, Try.ntmps11
  go_wp2_with fail
  refine (Same_any A B n c n d l l _ HA.out HB.out hn hn).mono ?_
  rintro _ w1 ⟨rfl, n1, rfl⟩
  rw [decide_eq_true rfl]
  go_wp2
  go_ret
  exact ⟨rfl, below_drewN BB.out n1⟩

theorem raw2 : geo2.raw = ((37 : Nat) : Int) := by decide +kernel
theorem climb_erased : climbL geo2 [List.replicate 37 255] = (([], ⟨0, 0, 0, 0⟩, 2), 0, 0) := by
  have h1 := dec_erased 1 4 37 rfl [] (by simp)
  have h2 : decG geo2 (List.replicate 37 255) = ([], Tg.zero, 2, 0) := by
    unfold decG
    rw [List.length_replicate, okG_mk geo2_ok 1 4 rfl rfl rfl, if_pos rfl]
    exact h1
  have ho : climbOk geo2 [List.replicate 37 255] = true := climbOk_iff.2 ⟨geo2_ok, by simp, by decide, fun l hl => by
    rw [List.mem_singleton.1 hl, List.length_replicate]
    exact raw2.symm⟩
  rw [climbL_at (k := 0) (l := List.replicate 37 255) ho (NoneTo.zero _ _) rfl (by unfold rungE; rw [h2])]
  unfold rungP
  rw [h2]
  rfl
theorem RR.one (w : World) (b n c : Nat) (A : Option Addr) (l : List Nat) (hb : w.cell? ⟨b, 0, none⟩ = some (.slice A n c)) (hlt : b < w.heap.size) (hr : R8 w A n l) (hc : n ≤ c) (hn : A = none → c = 0) : RR w (some ⟨b, 0, none⟩) 1 (fun _ => A) (fun _ => c) [l] := by
  refine ⟨rfl, fun _ => ⟨b, 0, rfl, hlt, fun r l' hl => ?_⟩⟩
  match r with
  | 0 =>
    simp only [List.getElem?_cons_zero, Option.some.injEq] at hl
    subst hl
    exact ⟨by rw [hr.len]; exact hb, by rw [hr.len]; exact hr, by rw [hr.len]; exact hc, hn⟩
  | r + 1 => simp at hl
set_option maxHeartbeats 1000000 in
theorem awake9_any (w : World) : Calls Try.prog 7 #[] w (Gives (.bool true) w) := by
  have HP := Lib.hid plain_any
  have HE := Lib.hid (Erased_any geo2 37 raw2 (by omega))
  have HC := Lib.hid (fun A c PA PC w' h => Climb_any geo2 A 1 c PA PC [List.replicate 37 255] w' h (by omega))
  rw [climb_erased] at HC
  simp only [geo2, Gm.val] at HP HE HC
  go_enter Try.func7, Try.ntmps7
  go_wp2_with fail
  refine (HP.out _).mono ?_
  rintro _ w1 ⟨rfl, h1⟩
  have B1 := Lib.hid h1
  clear h1
  go_wp2_with fail
  refine (HP.out _).mono ?_
  rintro _ w2 ⟨rfl, h2⟩
  have B2 := Lib.hid (below_step B1.out h2)
  clear h2
  go_wp2_with fail
  refine (HE.out _).mono ?_
  intro _ w3 hM
  obtain ⟨A, c, rfl, R3, hc, D3⟩ := hM.at_ (n := 37) (by simp)
  have B3 := Lib.hid (below_step B2.out D3.out)
  have B4 := Lib.hid (below_step B3.out (below_new w3 (.cells #[.slice A 37 c] 27)))
  have R4 : Hid (RR (w3.alloc (.cells #[.slice A 37 c] 27)) (some ⟨w3.heap.size, 0, none⟩) 1 (fun _ => A) (fun _ => c) [List.replicate 37 255]) := Lib.hid (RR.one _ _ 37 c A _ (by simp) (by simp) (R3.out.alloc _) hc (R3.out.some_ (by omega)))
  clear hM D3
  go_wp2_with fail
  refine (HC.out _ _ _ _ _ R4.out).mono ?_
  rintro _ w5 ⟨hU, h5⟩
  obtain ⟨A5, c5, rfl, _⟩ := hU.at_ (n := 0) rfl
  have B5 := Lib.hid (below_step B4.out h5)
  have T5 := Lib.hid (CRow.new w5 #[.slice none 0 0, .int .i64 0, .int .i64 0, .int .i64 0, .int .i64 0, .int .i64 0] 31)
  have B6 := Lib.hid (below_setRow (below_step B5.out (below_new w5 (.cells #[.slice none 0 0, .int .i64 0, .int .i64 0, .int .i64 0, .int .i64 0, .int .i64 0] 31))) B5.out.size #[.slice A5 0 c5, .int .i64 0, .int .i64 0, .int .i64 0, .int .i64 0, .int .i64 2])
  have T6 := Lib.hid (T5.out.set #[.slice A5 0 c5, .int .i64 0, .int .i64 0, .int .i64 0, .int .i64 0, .int .i64 2])
  have z5 := T6.out.cell_at 5 _ rfl
  clear hU h5
  go_wp2_with (with_reducible refine (?_ : wpList _ _ _ ({ dst := _, op := Op.store 31 _ _, type := _, pos := _, after := _, guard := _ } :: _) _ _); refine wpList_store_at rfl 31 _ _ rfl 6 size_page _ w5.heap.size ?hx rfl _ T5.out.row ?hn ?ho ?h1 ?_; (case hx => simp [Act.eval]); (case hn => simp); (case ho => simp); (case h1 => simp [Value.oneCell']))
  go_ret
  exact ⟨rfl, B6.out⟩
/-- A page that is climbed to has 8224 bytes at most. -/
theorem climbL_len (g : Gm) (ls : List (List Nat)) (hb : ∀ l ∈ ls, ∀ x ∈ l, x < 256) : (climbL g ls).1.1.length ≤ 8224 := by
  rcases climbL_cases g ls with ⟨_, h⟩ | ⟨_, _, h⟩ | ⟨k, l, _, _, hl, _, _, h⟩
  · rw [h]; simp [noPage]
  · rw [h]; simp [noPage]
  · rw [h]
    exact decG_len g l (hb l (List.mem_of_getElem? hl))
end Go.Proofs.Ytgiihdeilkiphaa

/-
  Plain facts for the law LadderFits: what a climb says of its rungs; a row of slices with another one ahead.
-/
namespace Go.Proofs.Ytgiihdeilkiphaa
open Go.RowKit

theorem climb_facts {g : Gm} {ls : List (List Nat)} {vd : List Nat} {t : Tg} {vs rung : Nat} {er : Int} (h : climbL g ls = ((vd, t, vs), rung, er)) :
    (er ≠ 0 → vd = [] ∧ t = Tg.zero ∧ vs = 0 ∧ rung = 0) ∧
    (er = 0 → rung < ls.length ∧ ∃ l, ls[rung]? = some l ∧ decG g l = (vd, t, vs, 0) ∧ (∀ n, rung < n → climbL g (ls.take n) = ((vd, t, vs), rung, 0)) ∧ climbL g (l :: ls.drop 1) = ((vd, t, vs), 0, 0)) := by
  rcases climbL_cases g ls with ⟨_, h1⟩ | ⟨_, _, h1⟩ | ⟨k, l, ho, hn, hl, hk, he, h1⟩
  · rw [h1] at h
    simp only [noPage, Prod.mk.injEq] at h
    obtain ⟨⟨rfl, rfl, rfl⟩, rfl, rfl⟩ := h
    exact ⟨fun _ => ⟨rfl, rfl, rfl, rfl⟩, fun h => by cases h⟩
  · rw [h1] at h
    simp only [noPage, Prod.mk.injEq] at h
    obtain ⟨⟨rfl, rfl, rfl⟩, rfl, rfl⟩ := h
    exact ⟨fun _ => ⟨rfl, rfl, rfl, rfl⟩, fun h => by cases h⟩
  · rw [h1] at h
    simp only [Prod.mk.injEq] at h
    obtain ⟨hp, rfl, rfl⟩ := h
    refine ⟨fun h => absurd rfl h, fun _ => ⟨hk, l, hl, ?_, fun n hn2 => ?_, ?_⟩⟩
    · unfold rungP at hp
      unfold rungE at he
      simp only [Prod.mk.injEq] at hp
      obtain ⟨h2, h3, h4⟩ := hp
      rw [← h2, ← h3, ← h4, ← he]
    · rw [climb_take ho hn hl he hn2, hp]
    · rw [climb_ahead ho hl he, hp]

/-- The slices with the k-th one ahead, in place of the first. -/
def aheadA {α : Type} (P : Nat → α) (k r : Nat) : α := if r = 0 then P k else P r
section
variable {w : World} {A : Option Addr} {n c : Nat} {PA : Nat → Option Addr} {PC : Nat → Nat} {ls : List (List Nat)}
theorem ahead_get {k r : Nat} {l l' : List Nat} (hl : ls[k]? = some l) (h : (l :: ls.drop 1)[r]? = some l') : ∃ r', ls[r']? = some l' ∧ aheadA PA k r = PA r' ∧ aheadA PC k r = PC r' := by
  match r with
  | 0 =>
    simp only [List.getElem?_cons_zero, Option.some.injEq] at h
    subst h
    exact ⟨k, hl, by simp [aheadA], by simp [aheadA]⟩
  | r + 1 =>
    rw [List.getElem?_cons_succ, List.getElem?_drop] at h
    exact ⟨r + 1, by rw [Nat.add_comm]; exact h, by simp [aheadA], by simp [aheadA]⟩
theorem SV_ahead {k : Nat} {l : List Nat} (hn : ls.length = n) (h0 : 0 < n) : SV (aheadA PA k) (aheadA PC k) (l :: ls.drop 1) n = .slice (PA k) l.length (PC k) :: (SV PA PC ls n).drop 1 := by
  unfold SV
  obtain ⟨m, rfl⟩ : ∃ m, n = m + 1 := ⟨n - 1, by omega⟩
  rw [List.range_succ_eq_map, List.map_cons, List.map_cons, List.drop_succ_cons, List.drop_zero, List.map_map, List.map_map]
  congr 1
  apply List.map_congr_left
  intro r hr
  have hr2 := List.mem_range.1 hr
  have e1 : (l :: ls.drop 1).getD (r + 1) [] = ls.getD (r + 1) [] := by
    simp [List.getD]
  simp only [Function.comp, aheadA, Nat.succ_eq_add_one, if_neg (Nat.succ_ne_zero r)]
  rw [e1]
theorem RR.tail (h : RR w A n PA PC ls) (h0 : 0 < n) (hc : n ≤ c) : ∃ ad, cutA A c 1 = some ad ∧ ∀ j u, ((SV PA PC ls n).drop 1)[j]? = some u → w.cell? (ad.add j) = some u := by
  have hd := h.rd
  obtain ⟨b, off, rfl, hb, hcell⟩ := hd.2 h0
  have key : ∀ j u, ((SV PA PC ls n).drop 1)[j]? = some u → 1 + j < n ∧ w.cell? ⟨b, off + (1 + j), none⟩ = some u := by
    intro j u hj
    rw [List.getElem?_drop] at hj
    have hlt : 1 + j < n := by
      have := (List.getElem?_eq_some_iff.1 hj).1
      rw [SV_length] at this
      exact this
    exact ⟨hlt, (hcell _ hlt).trans hj⟩
  by_cases hc1 : c = 1
  · refine ⟨⟨b, off, none⟩, by simp [cutA, hc1], fun j u hj => ?_⟩
    have := (key j u hj).1
    omega
  · refine ⟨(⟨b, off, none⟩ : Addr).add 1, by simp [cutA, hc1], fun j u hj => ?_⟩
    have e : ((⟨b, off, none⟩ : Addr).add 1).add j = ⟨b, off + (1 + j), none⟩ := by
      unfold Addr.add
      split <;> simp_all <;> omega
    rw [e]
    exact (key j u hj).2
theorem RR.tail_lt (h : RR w A n PA PC ls) (h0 : 0 < n) {ad : Addr} (had : cutA A c 1 = some ad) {j : Nat} {u : Value} (_hj : ((SV PA PC ls n).drop 1)[j]? = some u) : (ad.add j).block < w.heap.size := by
  obtain ⟨b, off, rfl, hb, _⟩ := h.rd.2 h0
  have hab : ad.block = b := by
    unfold cutA at had
    split at had
    · injection had with e
      rw [← e]
    · simp only [Option.map_some, Option.some.injEq] at had
      rw [← had]
      unfold Addr.add
      split <;> rfl
  have e2 : (ad.add j).block = ad.block := by unfold Addr.add; split <;> rfl
  rw [e2, hab]
  exact hb
theorem own_one (w : World) (base : Nat) (v : Value) (e : TypeId) (hb : base ≤ w.heap.size) : (w.alloc (.cells #[v] e)).ownsRow base e 1 (.slice (some ⟨w.heap.size, 0, none⟩) 1 1) 1 [v] :=
  ⟨by simp, .inr ⟨w.heap.size, 1, #[v], rfl, hb, heap_alloc_new w _, Nat.le_refl _, by unfold maxLen; omega, rfl, by simp⟩⟩
theorem CRow.grown {w w' : World} {g : Nat} {u : TypeId} {cs : Array Value} {row : Option Nat} (h : CRow w g u cs) (hg : w.grownBy w' row) (hne : some g ≠ row) : CRow w' g u cs := (hg.block g h.lt hne).trans h
end
end Go.Proofs.Ytgiihdeilkiphaa

/-
  The walk of the law LadderFits over the landed code, out of its callees' contracts: for whatever geometry, rungs and number it returns true, and nothing that was there has turned.
-/
namespace Go.Proofs.Ytgiihdeilkiphaa
open Go.RowKit
set_option maxRecDepth 100000

set_option maxHeartbeats 8000000 in
theorem LadderFits_walk (g : Gm) (A : Option Addr) (n c : Nat) (PA : Nat → Option Addr) (PC : Nat → Nat) (ls : List (List Nat)) (kb : Nat) (w : World) (hr : RR w A n PA PC ls) (hn : n ≤ 9223372036854775807) (hnc : n ≤ c) (hkb : kb < 256) :
    Calls Try.prog 5 #[g.val, .slice A n c, .int .u8 (kb : Int)] w (Gives (.bool true) w) := by
  obtain ⟨i0, ti, tz0, tz1, tz2⟩ := info_parts info_sl24
  have HR := Lib.hid hr
  have HLL := Lib.hid hr.len
  have HFW := Lib.hid (fun w' h => few_any g A n c PA PC ls w' h hn)
  have HC := Lib.hid (fun w' h h2 => Climb_any g A n c PA PC ls w' h h2)
  have HC2 := Lib.hid (fun A n c PA PC l2 w' h h2 => Climb_any g A n c PA PC l2 w' h h2)
  have HDC := Lib.hid (fun A n c hc l w' h => PageDec_any g A n c hc l w' h)
  have hvl := climbL_len g ls (fun l hl => hr.lt hl)
  obtain ⟨⟨⟨vd, ⟨tk, ts, tq, te⟩, vs⟩, rung, er⟩, HX⟩ : ∃ z, Hid (climbL g ls = z) := ⟨_, rfl⟩
  have HF := Lib.hid (climb_facts HX.out)
  rw [HX.out] at HC hvl
  simp only at hvl
  obtain ⟨vn, HVN⟩ : ∃ vn, Hid (vd.length = vn) := ⟨_, rfl⟩
  rw [HVN.out] at hvl
  generalize hcl : climbL g = cl at *
  generalize hdec : decG g = dec at *
  clear hr hcl hdec HX
  obtain ⟨p, b, s, gc, kk, r, q⟩ := g
  simp only [Gm.val] at HFW HC HC2 HDC ⊢
  have B0 := Lib.hid (below_new w (.cells #[.int .i64 p, .int .i64 b, .int .i64 s, .int .i64 gc, .int .i64 kk, .int .i64 r, .int .i64 q] 23))
  have Y0 := Lib.hid (GBox.new w ⟨p, b, s, gc, kk, r, q⟩ 23)
  go_enter Try.func5, Try.ntmps5
  go_wp2_with fail
  refine (awake9_any _).mono ?_
  rintro _ w1 ⟨rfl, h1⟩
  have B1 := Lib.hid (below_step B0.out h1)
  have Y1 := Lib.hid (Y0.out.below h1)
  clear h1 B0 Y0
  obtain ⟨hltG, g0, g1, g2, g3, g4, g5, g6⟩ := Y1.out
  simp only at g0 g1 g2 g3 g4 g5 g6
  go_wp2_with fail
  refine (HFW.out _ (HR.out.below B1.out)).mono ?_
  rintro _ w2 ⟨v, rfl, hv, h2⟩
  have B2 := Lib.hid (below_step B1.out h2)
  have Y2 := Lib.hid (Y1.out.below h2)
  clear h2 B1 Y1 HFW hltG g0 g1 g2 g3 g4 g5 g6
  obtain ⟨hltG, g0, g1, g2, g3, g4, g5, g6⟩ := Y2.out
  simp only at g0 g1 g2 g3 g4 g5 g6
  cases v
  · go_wp2
    go_ret
    exact ⟨rfl, B2.out⟩
  · have h12 := hv rfl
    clear hv
    by_cases h0 : n = 0
    · subst h0
      go_wp2
      go_ret
      exact ⟨rfl, B2.out⟩
    · have hz : ((n : Int) == 0) = false := by simp; omega
      go_wp2_with fail
      refine (HC.out _ (HR.out.below B2.out) (by omega)).mono ?_
      rintro _ w3 ⟨hU, h3⟩
      obtain ⟨A3, c3, rfl, R3⟩ := hU.at_ HVN.out
      have B3 := Lib.hid (below_step B2.out h3)
      have Y3 := Lib.hid (Y2.out.below h3)
      clear hU h3 hz HC hltG g0 g1 g2 g3 g4 g5 g6
      have T3 := Lib.hid (CRow.new w3 #[.slice none 0 0, .int .i64 0, .int .i64 0, .int .i64 0, .int .i64 0, .int .i64 0] 31)
      have D4 := Lib.hid (below_setRow (below_new w3 (.cells #[.slice none 0 0, .int .i64 0, .int .i64 0, .int .i64 0, .int .i64 0, .int .i64 0] 31)) (Nat.le_refl _) #[.slice A3 vn c3, .int .i64 tk, .int .i64 ts, .int .i64 tq, .int .i64 te, .int .i64 (vs : Int)])
      have T4 := Lib.hid (T3.out.set #[.slice A3 vn c3, .int .i64 tk, .int .i64 ts, .int .i64 tq, .int .i64 te, .int .i64 (vs : Int)])
      have B4 := Lib.hid (below_step B3.out D4.out)
      have Y4 := Lib.hid (Y3.out.below D4.out)
      have R4 := Lib.hid (R3.out.below D4.out)
      clear B2 Y2 B3 Y3 R3
      by_cases he : er = 0
      rotate_left
      · have heb : (er != 0) = true := by simpa using he
        have x0 := T4.out.cell_at 0 _ rfl
        have x1 := T4.out.cell_at 1 _ rfl
        have x2 := T4.out.cell_at 2 _ rfl
        have x3 := T4.out.cell_at 3 _ rfl
        have x4 := T4.out.cell_at 4 _ rfl
        have x5 := T4.out.cell_at 5 _ rfl
        go_wp2_with (with_reducible refine (?_ : wpList _ _ _ ({ dst := _, op := Op.store 31 _ _, type := _, pos := _, after := _, guard := _ } :: _) _ _); refine wpList_store_at rfl 31 _ _ rfl 6 size_page _ w3.heap.size ?hx rfl _ T3.out.row ?hn ?ho ?h1 ?_; (case hx => simp [Act.eval]); (case hn => simp); (case ho => simp); (case h1 => simp [Value.oneCell']))
        obtain ⟨hq1, hq2, rfl, rfl⟩ := HF.out.1 he
        subst hq1
        simp only [Tg.zero, Tg.mk.injEq] at hq2
        obtain ⟨rfl, rfl, rfl, rfl⟩ := hq2
        obtain rfl : vn = 0 := HVN.out.symm
        refine (SameP_yes A3 none 0 c3 0 [] 0 0 0 0 0 _ R4.out ⟨Rd.nil_, fun x hx => by cases hx⟩ (by omega)).mono ?_
        rintro _ w5 ⟨rfl, h5⟩
        have B5 := Lib.hid (below_step B4.out h5)
        clear h5 x0 x1 x2 x3 x4 x5 he
        go_wp2
        go_ret
        exact ⟨rfl, B5.out⟩
      · subst he
        obtain ⟨hrl, l0, hl0, hd0, htk, hah⟩ := HF.out.2 rfl
        rw [HLL.out] at hrl
        obtain ⟨m, hm⟩ : ∃ m, n - rung = m := ⟨_, rfl⟩
        have hmI : (n : Int) - (rung : Int) = (m : Int) := by omega
        have hm0 : (m : Int) ≠ 0 := by omega
        obtain ⟨y, hy⟩ : ∃ y, kb % m = y := ⟨_, rfl⟩
        have hym : y < m := by rw [← hy]; exact Nat.mod_lt _ (by omega)
        have hmod : (kb : Int) % (m : Int) = (y : Int) := by rw [← hy]; exact (Int.natCast_emod _ _).symm
        obtain ⟨n1, hn1⟩ : ∃ n1, rung + 1 + y = n1 := ⟨_, rfl⟩
        have hsum : (rung : Int) + 1 + (y : Int) = (n1 : Int) := by omega
        have hn1n : n1 ≤ n := by omega
        have HTK := Lib.hid (htk n1 (by omega))
        have HAH := Lib.hid hah
        have HL0 := Lib.hid hl0
        have HD0 := Lib.hid hd0
        clear hy hn1 htk hah hl0 hd0 hm
        go_wp2_with (with_reducible refine (?_ : wpList _ _ _ ({ dst := _, op := Op.store 31 _ _, type := _, pos := _, after := _, guard := _ } :: _) _ _); refine wpList_store_at rfl 31 _ _ rfl 6 size_page _ w3.heap.size ?hx rfl _ T3.out.row ?hn ?ho ?h1 ?_; (case hx => simp [Act.eval]); (case hn => simp); (case ho => simp); (case h1 => simp [Value.oneCell']))
        generalize (w3.alloc (.cells #[.slice none 0 0, .int .i64 0, .int .i64 0, .int .i64 0, .int .i64 0, .int .i64 0] 31)).setRow w3.heap.size #[.slice A3 vn c3, .int .i64 tk, .int .i64 ts, .int .i64 tq, .int .i64 te, .int .i64 (vs : Int)] = w4 at *
        try rw [hmI]
        try rw [hmod]
        try rw [hsum]
        clear hmI hm0 hmod hsum hym T3 D4
        -- the rungs up to a place behind the one that counts
        have hsl1 := run_slice_to (P := Try.prog) Try.underlying24 ti (by kernel_rfl) A n c n1 (by omega)
        have hsl2 := run_sliceAt_to (P := Try.prog) Try.underlying24 ti (by kernel_rfl) A n c n1 (by omega)
        have HCT := Lib.hid (fun w' h => HC2.out A n1 c PA PC (ls.take n1) w' h (by omega))
        rw [HTK.out] at HCT
        apply cut_awb (F := fun A5 c5 blk W => Hid (R8 W A5 vn vd) ∧ Hid (CRow W blk 31 #[.slice A5 vn c5, .int .i64 tk, .int .i64 ts, .int .i64 tq, .int .i64 te, .int .i64 (vs : Int)]) ∧ Hid (Below w4.heap.size w4 W))
        · intro HREST
          obtain ⟨hltG, g0, g1, g2, g3, g4, g5, g6⟩ := Y4.out
          simp only at g0 g1 g2 g3 g4 g5 g6
          refine wp_region_noPanic ?_
          refine wp_region_held_drew (S := fun w' => Below w4.heap.size w4 w') (by kernel_rfl) ((Below.refl _ _).drew) (fun C0 => ?_)
          refine wpAnyH_take (i := 0) (oi := { dst := some 59, op := Op.load 23 (Operand.tmp 3), type := 23, pos := "law.go:104", after := #[], guard := none }) (v := ?_) rfl (by kernel_rfl) (by kernel_rfl) (by kernel_rfl) (fun _ _ _ h => h) (Or.inl ⟨by rfl, ?_⟩) C0 ?_
          rotate_left
          · intro W' hSw
            have q0 := (hSw.cell (p := ⟨w.heap.size, 0, none⟩) hltG).trans g0
            have q1 := (hSw.cell (p := ⟨w.heap.size, 1, none⟩) hltG).trans g1
            have q2 := (hSw.cell (p := ⟨w.heap.size, 2, none⟩) hltG).trans g2
            have q3 := (hSw.cell (p := ⟨w.heap.size, 3, none⟩) hltG).trans g3
            have q4 := (hSw.cell (p := ⟨w.heap.size, 4, none⟩) hltG).trans g4
            have q5 := (hSw.cell (p := ⟨w.heap.size, 5, none⟩) hltG).trans g5
            have q6 := (hSw.cell (p := ⟨w.heap.size, 6, none⟩) hltG).trans g6
            clear hSw
            go_simp <;> with_reducible rfl
          try simp only [Act.put, List.setIfInBounds_toArray, List.set_cons_zero, List.set_cons_succ]
          refine wpAnyH_take (i := 1) (oi := { dst := some 60, op := Op.move (Operand.tmp 1), type := 24, pos := "law.go:104", after := #[], guard := none }) (v := ?_) rfl (by kernel_rfl) (by kernel_rfl) (by kernel_rfl) (fun _ _ _ h => h) (Or.inl ⟨by rfl, ?_⟩) C0 ?_
          rotate_left
          · intro W' hSw
            clear hSw
            go_simp <;> with_reducible rfl
          try simp only [Act.put, List.setIfInBounds_toArray, List.set_cons_zero, List.set_cons_succ]
          refine wpAnyH_take (i := 2) (oi := { dst := some 61, op := Op.move (Operand.tmp 10), type := 3, pos := "law.go:104", after := #[], guard := none }) (v := ?_) rfl (by kernel_rfl) (by kernel_rfl) (by kernel_rfl) (fun _ _ _ h => h) (Or.inl ⟨by rfl, ?_⟩) C0 ?_
          rotate_left
          · intro W' hSw
            clear hSw
            go_simp <;> with_reducible rfl
          try simp only [Act.put, List.setIfInBounds_toArray, List.set_cons_zero, List.set_cons_succ]
          refine wpAnyH_take (i := 3) (oi := { dst := some 62, op := Op.slice 24 (Operand.tmp 60) none (some (Operand.tmp 61)) none, type := 24, pos := "law.go:104", after := #[{ on := 1, ground := Ground.data }, { on := 2, ground := Ground.data }], guard := none }) (v := ?_) rfl (by kernel_rfl) (by kernel_rfl) (by kernel_rfl) (fun _ _ _ h => h) (Or.inl ⟨by rfl, ?_⟩) C0 ?_
          rotate_left
          · intro W' hSw
            clear hSw
            go_simp <;> with_reducible rfl
          try simp only [Act.put, List.setIfInBounds_toArray, List.set_cons_zero, List.set_cons_succ]
          refine wpAnyH_ready (rs := [4, 9]) (by kernel_rfl) (by simp) ?_
          refine (AllReadyH.cons (o := { dst := some 63, op := Op.call { callee := Callee.value (Operand.func 9), args := #[Operand.tmp 59, Operand.tmp 62], argTypes := #[23, 24] }, type := 33, pos := "law.go:104", after := #[{ on := 0, ground := Ground.data }, { on := 3, ground := Ground.data }], guard := none }) rfl (fun K hK => ?_) (AllReadyH.cons (o := { dst := some 11, op := Op.alloc 31, type := 0, pos := "law.go:104", after := #[], guard := none }) rfl (fun K hK => ?_) AllReadyH.nil))
          · go_simp
            refine (HCT.out _ (((HR.out.below B4.out).below C0).take_ n1 hn1n)).mono ?_
            rintro _ w5 ⟨hU, hB⟩
            obtain ⟨A5, c5, rfl, R5⟩ := hU.at_ HVN.out
            have D5 := Lib.hid hB
            clear hU
            go_wp2_with fail
            refine hK.out _ _ (C0.trans (hB.mono C0.size)) (fun C1 => ?_)
            clear hK K hB
            try simp only [Act.put, List.setIfInBounds_toArray, List.set_cons_zero, List.set_cons_succ]
            refine wpAnyH_take (i := 5) (oi := { dst := some 58, op := Op.move (Operand.tmp 63), type := 33, pos := "law.go:104", after := #[{ on := 4, ground := Ground.data }], guard := none }) (v := ?_) rfl (by kernel_rfl) (by kernel_rfl) (by kernel_rfl) (fun _ _ _ h => h) (Or.inl ⟨by rfl, ?_⟩) C1 ?_
            rotate_left
            · intro W' hSw
              clear hSw
              go_simp <;> with_reducible rfl
            try simp only [Act.put, List.setIfInBounds_toArray, List.set_cons_zero, List.set_cons_succ]
            refine wpAnyH_take (i := 6) (oi := { dst := some 64, op := Op.extract (Operand.tmp 58) 0, type := 31, pos := "law.go:104", after := #[{ on := 5, ground := Ground.data }], guard := none }) (v := ?_) rfl (by kernel_rfl) (by kernel_rfl) (by kernel_rfl) (fun _ _ _ h => h) (Or.inl ⟨by rfl, ?_⟩) C1 ?_
            rotate_left
            · intro W' hSw
              clear hSw
              go_simp <;> with_reducible rfl
            try simp only [Act.put, List.setIfInBounds_toArray, List.set_cons_zero, List.set_cons_succ]
            refine wpAnyH_take (i := 7) (oi := { dst := some 65, op := Op.extract (Operand.tmp 58) 1, type := 3, pos := "law.go:104", after := #[{ on := 5, ground := Ground.data }, { on := 10, ground := Ground.gcOnly Departure.lateStores }], guard := none }) (v := ?_) rfl (by kernel_rfl) (by kernel_rfl) (by kernel_rfl) (fun _ _ _ h => h) (Or.inl ⟨by rfl, ?_⟩) C1 ?_
            rotate_left
            · intro W' hSw
              clear hSw
              go_simp <;> with_reducible rfl
            try simp only [Act.put, List.setIfInBounds_toArray, List.set_cons_zero, List.set_cons_succ]
            refine wpAnyH_take (i := 8) (oi := { dst := some 66, op := Op.extract (Operand.tmp 58) 2, type := 32, pos := "law.go:104", after := #[{ on := 5, ground := Ground.data }, { on := 11, ground := Ground.gcOnly Departure.lateStores }], guard := none }) (v := ?_) rfl (by kernel_rfl) (by kernel_rfl) (by kernel_rfl) (fun _ _ _ h => h) (Or.inl ⟨by rfl, ?_⟩) C1 ?_
            rotate_left
            · intro W' hSw
              clear hSw
              go_simp <;> with_reducible rfl
            try simp only [Act.put, List.setIfInBounds_toArray, List.set_cons_zero, List.set_cons_succ]
            refine wpAnyH_ready (rs := [9]) (by kernel_rfl) (by simp) ?_
            refine AllReadyH.cons (o := { dst := some 11, op := Op.alloc 31, type := 0, pos := "law.go:104", after := #[], guard := none }) rfl (fun K hK => ?_) AllReadyH.nil
            go_simp
            refine hK.out _ _ (C1.alloc C1.size _) (fun C2 => ?_)
            clear hK K
            try simp only [Act.put, List.setIfInBounds_toArray, List.set_cons_zero, List.set_cons_succ]
            have TA : Hid (CRow (w5.alloc (.cells #[.slice none 0 0, .int .i64 0, .int .i64 0, .int .i64 0, .int .i64 0, .int .i64 0] 31)) w5.heap.size 31 #[.slice none 0 0, .int .i64 0, .int .i64 0, .int .i64 0, .int .i64 0, .int .i64 0]) := Lib.hid (CRow.new w5 #[.slice none 0 0, .int .i64 0, .int .i64 0, .int .i64 0, .int .i64 0, .int .i64 0] 31)
            generalize HBLK : w5.heap.size = blk at *
            have hble : w4.heap.size ≤ blk := by have := D5.out.size; have := C0.size; simp at *; omega
            have RE : Hid (R8 (w5.alloc (.cells #[.slice none 0 0, .int .i64 0, .int .i64 0, .int .i64 0, .int .i64 0, .int .i64 0] 31)) A5 vn vd) := Lib.hid (R5.out.alloc _)
            have TB := Lib.hid TA.out
            refine wpAnyH_ready (rs := [10]) (by kernel_rfl) (by simp) ?_
            refine AllReadyH.cons (o := { dst := none, op := Op.store 31 (Operand.tmp 11) (Operand.tmp 64), type := 0, pos := "law.go:104", after := #[{ on := 9, ground := Ground.data }, { on := 6, ground := Ground.data }, { on := 4, ground := Ground.chain }, { on := 0, ground := Ground.phase }, { on := 1, ground := Ground.phase }, { on := 2, ground := Ground.phase }, { on := 3, ground := Ground.phase }, { on := 4, ground := Ground.phase }, { on := 5, ground := Ground.phase }, { on := 6, ground := Ground.phase }, { on := 7, ground := Ground.textOnly Departure.lateStores }, { on := 8, ground := Ground.textOnly Departure.lateStores }, { on := 9, ground := Ground.phase }], guard := none }) rfl (fun K hK => ?_) AllReadyH.nil
            rw [if_pos (by rfl)]
            refine wp_store_row 31 _ _ rfl blk #[.slice A5 vn c5, .int .i64 tk, .int .i64 ts, .int .i64 tq, .int .i64 te, .int .i64 (vs : Int)] (by simp [Act.eval]) rfl 31 _ TB.out size_page (by simp) (by simp [Value.oneCell']) ?_
            refine hK.out _ _ (below_setRow C2 hble _) (fun C3 => ?_)
            clear hK K
            try simp only [Act.put]
            have RF := Lib.hid (RE.out.setRow TB.out (by simp) #[.slice A5 vn c5, .int .i64 tk, .int .i64 ts, .int .i64 tq, .int .i64 te, .int .i64 (vs : Int)])
            have TF := Lib.hid (TB.out.set #[.slice A5 vn c5, .int .i64 tk, .int .i64 ts, .int .i64 tq, .int .i64 te, .int .i64 (vs : Int)])
            generalize World.setRow (w5.alloc (.cells #[.slice none 0 0, .int .i64 0, .int .i64 0, .int .i64 0, .int .i64 0, .int .i64 0] 31)) blk #[.slice A5 vn c5, .int .i64 tk, .int .i64 ts, .int .i64 tq, .int .i64 te, .int .i64 (vs : Int)] = W9 at *
            refine wpAnyH_take (i := 11) (oi := { dst := some 12, op := Op.assign (Operand.tmp 65), type := 3, pos := "law.go:104", after := #[{ on := 7, ground := Ground.data }, { on := 10, ground := Ground.chain }, { on := 0, ground := Ground.phase }, { on := 1, ground := Ground.phase }, { on := 2, ground := Ground.phase }, { on := 3, ground := Ground.phase }, { on := 4, ground := Ground.phase }, { on := 5, ground := Ground.phase }, { on := 6, ground := Ground.phase }, { on := 7, ground := Ground.phase }, { on := 8, ground := Ground.textOnly Departure.lateStores }, { on := 9, ground := Ground.phase }, { on := 10, ground := Ground.phase }], guard := none }) (v := ?_) rfl (by kernel_rfl) (by kernel_rfl) (by kernel_rfl) (fun _ _ _ h => h) (Or.inl ⟨by rfl, ?_⟩) C3 ?_
            rotate_left
            · intro W' hSw
              clear hSw
              go_simp <;> with_reducible rfl
            try simp only [Act.put, List.setIfInBounds_toArray, List.set_cons_zero, List.set_cons_succ]
            refine wpAnyH_take (i := 12) (oi := { dst := some 13, op := Op.assign (Operand.tmp 66), type := 32, pos := "law.go:104", after := #[{ on := 8, ground := Ground.data }, { on := 11, ground := Ground.chain }, { on := 0, ground := Ground.phase }, { on := 1, ground := Ground.phase }, { on := 2, ground := Ground.phase }, { on := 3, ground := Ground.phase }, { on := 4, ground := Ground.phase }, { on := 5, ground := Ground.phase }, { on := 6, ground := Ground.phase }, { on := 7, ground := Ground.phase }, { on := 8, ground := Ground.phase }, { on := 9, ground := Ground.phase }, { on := 10, ground := Ground.phase }, { on := 11, ground := Ground.phase }], guard := none }) (v := ?_) rfl (by kernel_rfl) (by kernel_rfl) (by kernel_rfl) (fun _ _ _ h => h) (Or.inl ⟨by rfl, ?_⟩) C3 ?_
            rotate_left
            · intro W' hSw
              clear hSw
              go_simp <;> with_reducible rfl
            try simp only [Act.put, List.setIfInBounds_toArray, List.set_cons_zero, List.set_cons_succ]
            refine wpAnyH_done (by kernel_rfl) ?_ _
            refine NoPanic.normal ?_
            exact HREST.out A5 c5 blk W9 ⟨RF, TF, C3⟩
          · go_simp
            refine hK.out _ _ (C0.alloc C0.size _) (fun C1 => ?_)
            clear hK K
            try simp only [Act.put, List.setIfInBounds_toArray, List.set_cons_zero, List.set_cons_succ]
            have TA : Hid (CRow (w4.drew.alloc (.cells #[.slice none 0 0, .int .i64 0, .int .i64 0, .int .i64 0, .int .i64 0, .int .i64 0] 31)) w4.heap.size 31 #[.slice none 0 0, .int .i64 0, .int .i64 0, .int .i64 0, .int .i64 0, .int .i64 0]) := Lib.hid (CRow.new w4.drew #[.slice none 0 0, .int .i64 0, .int .i64 0, .int .i64 0, .int .i64 0, .int .i64 0] 31)
            refine wpAnyH_ready (rs := [4]) (by kernel_rfl) (by simp) ?_
            refine AllReadyH.cons (o := { dst := some 63, op := Op.call { callee := Callee.value (Operand.func 9), args := #[Operand.tmp 59, Operand.tmp 62], argTypes := #[23, 24] }, type := 33, pos := "law.go:104", after := #[{ on := 0, ground := Ground.data }, { on := 3, ground := Ground.data }], guard := none }) rfl (fun K hK => ?_) AllReadyH.nil
            go_simp
            refine (HCT.out _ (((HR.out.below B4.out).below C1).take_ n1 hn1n)).mono ?_
            rintro _ w5 ⟨hU, hB⟩
            obtain ⟨A5, c5, rfl, R5⟩ := hU.at_ HVN.out
            have D5 := Lib.hid hB
            clear hU
            go_wp2_with fail
            refine hK.out _ _ (C1.trans (hB.mono C1.size)) (fun C2 => ?_)
            clear hK K hB
            try simp only [Act.put, List.setIfInBounds_toArray, List.set_cons_zero, List.set_cons_succ]
            refine wpAnyH_take (i := 5) (oi := { dst := some 58, op := Op.move (Operand.tmp 63), type := 33, pos := "law.go:104", after := #[{ on := 4, ground := Ground.data }], guard := none }) (v := ?_) rfl (by kernel_rfl) (by kernel_rfl) (by kernel_rfl) (fun _ _ _ h => h) (Or.inl ⟨by rfl, ?_⟩) C2 ?_
            rotate_left
            · intro W' hSw
              clear hSw
              go_simp <;> with_reducible rfl
            try simp only [Act.put, List.setIfInBounds_toArray, List.set_cons_zero, List.set_cons_succ]
            refine wpAnyH_take (i := 6) (oi := { dst := some 64, op := Op.extract (Operand.tmp 58) 0, type := 31, pos := "law.go:104", after := #[{ on := 5, ground := Ground.data }], guard := none }) (v := ?_) rfl (by kernel_rfl) (by kernel_rfl) (by kernel_rfl) (fun _ _ _ h => h) (Or.inl ⟨by rfl, ?_⟩) C2 ?_
            rotate_left
            · intro W' hSw
              clear hSw
              go_simp <;> with_reducible rfl
            try simp only [Act.put, List.setIfInBounds_toArray, List.set_cons_zero, List.set_cons_succ]
            refine wpAnyH_take (i := 7) (oi := { dst := some 65, op := Op.extract (Operand.tmp 58) 1, type := 3, pos := "law.go:104", after := #[{ on := 5, ground := Ground.data }, { on := 10, ground := Ground.gcOnly Departure.lateStores }], guard := none }) (v := ?_) rfl (by kernel_rfl) (by kernel_rfl) (by kernel_rfl) (fun _ _ _ h => h) (Or.inl ⟨by rfl, ?_⟩) C2 ?_
            rotate_left
            · intro W' hSw
              clear hSw
              go_simp <;> with_reducible rfl
            try simp only [Act.put, List.setIfInBounds_toArray, List.set_cons_zero, List.set_cons_succ]
            refine wpAnyH_take (i := 8) (oi := { dst := some 66, op := Op.extract (Operand.tmp 58) 2, type := 32, pos := "law.go:104", after := #[{ on := 5, ground := Ground.data }, { on := 11, ground := Ground.gcOnly Departure.lateStores }], guard := none }) (v := ?_) rfl (by kernel_rfl) (by kernel_rfl) (by kernel_rfl) (fun _ _ _ h => h) (Or.inl ⟨by rfl, ?_⟩) C2 ?_
            rotate_left
            · intro W' hSw
              clear hSw
              go_simp <;> with_reducible rfl
            try simp only [Act.put, List.setIfInBounds_toArray, List.set_cons_zero, List.set_cons_succ]
            have RE : Hid (R8 w5 A5 vn vd) := Lib.hid (R5.out)
            have TB := Lib.hid (TA.out.below D5.out)
            refine wpAnyH_ready (rs := [10]) (by kernel_rfl) (by simp) ?_
            refine AllReadyH.cons (o := { dst := none, op := Op.store 31 (Operand.tmp 11) (Operand.tmp 64), type := 0, pos := "law.go:104", after := #[{ on := 9, ground := Ground.data }, { on := 6, ground := Ground.data }, { on := 4, ground := Ground.chain }, { on := 0, ground := Ground.phase }, { on := 1, ground := Ground.phase }, { on := 2, ground := Ground.phase }, { on := 3, ground := Ground.phase }, { on := 4, ground := Ground.phase }, { on := 5, ground := Ground.phase }, { on := 6, ground := Ground.phase }, { on := 7, ground := Ground.textOnly Departure.lateStores }, { on := 8, ground := Ground.textOnly Departure.lateStores }, { on := 9, ground := Ground.phase }], guard := none }) rfl (fun K hK => ?_) AllReadyH.nil
            rw [if_pos (by rfl)]
            refine wp_store_row 31 _ _ rfl w4.heap.size #[.slice A5 vn c5, .int .i64 tk, .int .i64 ts, .int .i64 tq, .int .i64 te, .int .i64 (vs : Int)] (by simp [Act.eval]) rfl 31 _ TB.out size_page (by simp) (by simp [Value.oneCell']) ?_
            refine hK.out _ _ (below_setRow C2 (Nat.le_refl _) _) (fun C3 => ?_)
            clear hK K
            try simp only [Act.put]
            have RF := Lib.hid (RE.out.setRow TB.out (by simp) #[.slice A5 vn c5, .int .i64 tk, .int .i64 ts, .int .i64 tq, .int .i64 te, .int .i64 (vs : Int)])
            have TF := Lib.hid (TB.out.set #[.slice A5 vn c5, .int .i64 tk, .int .i64 ts, .int .i64 tq, .int .i64 te, .int .i64 (vs : Int)])
            generalize World.setRow w5 w4.heap.size #[.slice A5 vn c5, .int .i64 tk, .int .i64 ts, .int .i64 tq, .int .i64 te, .int .i64 (vs : Int)] = W9 at *
            refine wpAnyH_take (i := 11) (oi := { dst := some 12, op := Op.assign (Operand.tmp 65), type := 3, pos := "law.go:104", after := #[{ on := 7, ground := Ground.data }, { on := 10, ground := Ground.chain }, { on := 0, ground := Ground.phase }, { on := 1, ground := Ground.phase }, { on := 2, ground := Ground.phase }, { on := 3, ground := Ground.phase }, { on := 4, ground := Ground.phase }, { on := 5, ground := Ground.phase }, { on := 6, ground := Ground.phase }, { on := 7, ground := Ground.phase }, { on := 8, ground := Ground.textOnly Departure.lateStores }, { on := 9, ground := Ground.phase }, { on := 10, ground := Ground.phase }], guard := none }) (v := ?_) rfl (by kernel_rfl) (by kernel_rfl) (by kernel_rfl) (fun _ _ _ h => h) (Or.inl ⟨by rfl, ?_⟩) C3 ?_
            rotate_left
            · intro W' hSw
              clear hSw
              go_simp <;> with_reducible rfl
            try simp only [Act.put, List.setIfInBounds_toArray, List.set_cons_zero, List.set_cons_succ]
            refine wpAnyH_take (i := 12) (oi := { dst := some 13, op := Op.assign (Operand.tmp 66), type := 32, pos := "law.go:104", after := #[{ on := 8, ground := Ground.data }, { on := 11, ground := Ground.chain }, { on := 0, ground := Ground.phase }, { on := 1, ground := Ground.phase }, { on := 2, ground := Ground.phase }, { on := 3, ground := Ground.phase }, { on := 4, ground := Ground.phase }, { on := 5, ground := Ground.phase }, { on := 6, ground := Ground.phase }, { on := 7, ground := Ground.phase }, { on := 8, ground := Ground.phase }, { on := 9, ground := Ground.phase }, { on := 10, ground := Ground.phase }, { on := 11, ground := Ground.phase }], guard := none }) (v := ?_) rfl (by kernel_rfl) (by kernel_rfl) (by kernel_rfl) (fun _ _ _ h => h) (Or.inl ⟨by rfl, ?_⟩) C3 ?_
            rotate_left
            · intro W' hSw
              clear hSw
              go_simp <;> with_reducible rfl
            try simp only [Act.put, List.setIfInBounds_toArray, List.set_cons_zero, List.set_cons_succ]
            refine wpAnyH_done (by kernel_rfl) ?_ _
            refine NoPanic.normal ?_
            exact HREST.out A5 c5 w4.heap.size W9 ⟨RF, TF, C3⟩
        · intro A5 c5 blk5 W5 ⟨R5, T5, D5⟩
          have B5 := Lib.hid (below_step B4.out D5.out)
          have Y5 := Lib.hid (Y4.out.below D5.out)
          have T5a := Lib.hid (T4.out.below D5.out)
          have R5a := Lib.hid (R4.out.below D5.out)
          have x0 := T5.out.cell_at 0 _ rfl
          have y0 := T5a.out.cell_at 0 _ rfl
          have x1 := T5.out.cell_at 1 _ rfl
          have y1 := T5a.out.cell_at 1 _ rfl
          have x2 := T5.out.cell_at 2 _ rfl
          have y2 := T5a.out.cell_at 2 _ rfl
          have x3 := T5.out.cell_at 3 _ rfl
          have y3 := T5a.out.cell_at 3 _ rfl
          have x4 := T5.out.cell_at 4 _ rfl
          have y4 := T5a.out.cell_at 4 _ rfl
          have x5 := T5.out.cell_at 5 _ rfl
          have y5 := T5a.out.cell_at 5 _ rfl
          clear hsl1 hsl2 HCT
          go_wp2_with fail
          refine (SameP_yes A3 A5 vn c3 c5 vd tk ts tq te vs _ R5a.out R5.out (by omega)).mono ?_
          rintro _ w6 ⟨rfl, h6⟩
          have B6 := Lib.hid (below_step B5.out h6)
          have Y6 := Lib.hid (Y5.out.below h6)
          have T6 := Lib.hid (T5a.out.below h6)
          have R6 := Lib.hid (R5a.out.below h6)
          clear h6 x0 y0 x1 y1 x2 y2 x3 y3 x4 y4 x5 y5
          go_wp2
          -- the one that counts, ahead of all
          obtain ⟨b1, o1, l1, m1, hA, hb1, HLk, HLm, hcl, HRk, hmc, hnil⟩ := (HR.out.below B6.out).at_ hrl
          obtain rfl : l1 = l0 := by have := HLk.out; rw [HL0.out] at this; exact (Option.some.inj this).symm
          obtain ⟨ad, had, hnews⟩ := (HR.out.below B6.out).tail (c := c) (by omega) hnc
          have HNW := Lib.hid hnews
          have hsf1 := run_slice_from (P := Try.prog) Try.underlying24 ti (by kernel_rfl) A n c 1 (by omega)
          have hsf2 := run_sliceAt_from (P := Try.prog) Try.underlying24 ti (by kernel_rfl) A n c 1 (by omega)
          rw [had] at hsf1 hsf2
          rw [show ((1 : Nat) : Int) = 1 from rfl] at hsf1 hsf2
          obtain ⟨n8, hn8⟩ : ∃ n8, n - 1 = n8 := ⟨_, rfl⟩
          obtain ⟨c8, hc8⟩ : ∃ c8, c - 1 = c8 := ⟨_, rfl⟩
          rw [hn8, hc8] at hsf1 hsf2
          have hn8b : 1 + n8 = n := by omega
          have HSA := Lib.hid (SV_ahead (PA := PA) (PC := PC) (k := rung) (l := l1) HLL.out (by omega : 0 < n))
          have HAG := Lib.hid (fun x l' h => ahead_get (PA := PA) (PC := PC) (r := x) (l' := l') HL0.out h)
          have HCA := Lib.hid (fun A' c' w' h => HC2.out A' n c' (aheadA PA rung) (aheadA PC rung) (l1 :: ls.drop 1) w' h (by omega))
          rw [HAH.out] at HCA
          have HRW := Lib.hid (HR.out.below B6.out)
          rw [HLm.out] at HSA
          have HDC1 := Lib.hid (fun w' h => HDC.out (PA rung) m1 (PC rung) hmc l1 w' h)
          rw [HD0.out] at HDC1
          generalize hpa : PA rung = A1 at *
          generalize hpc : PC rung = Q1 at *
          have HCL := Lib.hid hcl
          clear hn8 hc8 hcl hnews
          subst hA
          apply cut_awb3 (F := fun A9 c9 blk W _ _ _ => Hid (R8 W A9 vn vd) ∧ Hid (CRow W blk 31 #[.slice A9 vn c9, .int .i64 tk, .int .i64 ts, .int .i64 tq, .int .i64 te, .int .i64 (vs : Int)]) ∧ Hid (Below w6.heap.size w6 W))
          · intro HREST2
            obtain ⟨hltG, g0, g1, g2, g3, g4, g5, g6⟩ := Y6.out
            simp only at g0 g1 g2 g3 g4 g5 g6
            have hcl := HCL.out
            refine wp_region_noPanic ?_
            refine wp_region_held_drew (S := fun w' => Below w6.heap.size w6 w') (by kernel_rfl) ((Below.refl _ _).drew) (fun C0 => ?_)
            refine wpAnyH_take (i := 0) (oi := { dst := some 81, op := Op.load 23 (Operand.tmp 3), type := 23, pos := "law.go:108", after := #[], guard := none }) (v := ?_) rfl (by kernel_rfl) (by kernel_rfl) (by kernel_rfl) (fun _ _ _ h => h) (Or.inl ⟨by rfl, ?_⟩) C0 ?_
            rotate_left
            · intro W' hSw
              have q0 := (hSw.cell (p := ⟨w.heap.size, 0, none⟩) hltG).trans g0
              have q1 := (hSw.cell (p := ⟨w.heap.size, 1, none⟩) hltG).trans g1
              have q2 := (hSw.cell (p := ⟨w.heap.size, 2, none⟩) hltG).trans g2
              have q3 := (hSw.cell (p := ⟨w.heap.size, 3, none⟩) hltG).trans g3
              have q4 := (hSw.cell (p := ⟨w.heap.size, 4, none⟩) hltG).trans g4
              have q5 := (hSw.cell (p := ⟨w.heap.size, 5, none⟩) hltG).trans g5
              have q6 := (hSw.cell (p := ⟨w.heap.size, 6, none⟩) hltG).trans g6
              clear hSw
              go_simp <;> with_reducible rfl
            try simp only [Act.put, List.setIfInBounds_toArray, List.set_cons_zero, List.set_cons_succ]
            refine wpAnyH_take (i := 1) (oi := { dst := some 82, op := Op.move (Operand.tmp 1), type := 24, pos := "law.go:108", after := #[], guard := none }) (v := ?_) rfl (by kernel_rfl) (by kernel_rfl) (by kernel_rfl) (fun _ _ _ h => h) (Or.inl ⟨by rfl, ?_⟩) C0 ?_
            rotate_left
            · intro W' hSw
              clear hSw
              go_simp <;> with_reducible rfl
            try simp only [Act.put, List.setIfInBounds_toArray, List.set_cons_zero, List.set_cons_succ]
            refine wpAnyH_take (i := 2) (oi := { dst := some 83, op := Op.move (Operand.tmp 8), type := 3, pos := "law.go:108", after := #[], guard := none }) (v := ?_) rfl (by kernel_rfl) (by kernel_rfl) (by kernel_rfl) (fun _ _ _ h => h) (Or.inl ⟨by rfl, ?_⟩) C0 ?_
            rotate_left
            · intro W' hSw
              clear hSw
              go_simp <;> with_reducible rfl
            try simp only [Act.put, List.setIfInBounds_toArray, List.set_cons_zero, List.set_cons_succ]
            refine wpAnyH_take (i := 3) (oi := { dst := some 84, op := Op.indexAddr 24 (Operand.tmp 82) (Operand.tmp 83), type := 0, pos := "law.go:108", after := #[{ on := 1, ground := Ground.data }, { on := 2, ground := Ground.data }], guard := none }) (v := ?_) rfl (by kernel_rfl) (by kernel_rfl) (by kernel_rfl) (fun _ _ _ h => h) (Or.inl ⟨by rfl, ?_⟩) C0 ?_
            rotate_left
            · intro W' hSw
              clear hSw
              go_simp <;> with_reducible rfl
            try simp only [Act.put, List.setIfInBounds_toArray, List.set_cons_zero, List.set_cons_succ]
            refine wpAnyH_take (i := 4) (oi := { dst := some 85, op := Op.load 27 (Operand.tmp 84), type := 27, pos := "law.go:108", after := #[{ on := 3, ground := Ground.data }], guard := none }) (v := ?_) rfl (by kernel_rfl) (by kernel_rfl) (by kernel_rfl) (fun _ _ _ h => h) (Or.inl ⟨by rfl, ?_⟩) C0 ?_
            rotate_left
            · intro W' hSw
              have qs := (hSw.cell (p := ⟨b1, o1 + rung, none⟩) hb1).trans hcl
              clear hSw
              go_simp <;> with_reducible rfl
            try simp only [Act.put, List.setIfInBounds_toArray, List.set_cons_zero, List.set_cons_succ]
            refine wpAnyH_take (i := 6) (oi := { dst := some 87, op := Op.move (Operand.tmp 1), type := 24, pos := "law.go:108", after := #[], guard := none }) (v := ?_) rfl (by kernel_rfl) (by kernel_rfl) (by kernel_rfl) (fun _ _ _ h => h) (Or.inl ⟨by rfl, ?_⟩) C0 ?_
            rotate_left
            · intro W' hSw
              clear hSw
              go_simp <;> with_reducible rfl
            try simp only [Act.put, List.setIfInBounds_toArray, List.set_cons_zero, List.set_cons_succ]
            refine wpAnyH_take (i := 7) (oi := { dst := some 88, op := Op.slice 24 (Operand.tmp 87) (some (Operand.const (Value.int IntKind.i64 1))) none none, type := 24, pos := "law.go:108", after := #[{ on := 6, ground := Ground.data }], guard := none }) (v := ?_) rfl (by kernel_rfl) (by kernel_rfl) (by kernel_rfl) (fun _ _ _ h => h) (Or.inl ⟨by rfl, ?_⟩) C0 ?_
            rotate_left
            · intro W' hSw
              clear hSw
              go_simp <;> with_reducible rfl
            try simp only [Act.put, List.setIfInBounds_toArray, List.set_cons_zero, List.set_cons_succ]
            refine wpAnyH_ready (rs := [5, 14]) (by kernel_rfl) (by simp) ?_
            refine (AllReadyH.cons (o := { dst := some 86, op := Op.buildSlice 24 1 #[(0, Operand.tmp 85)], type := 24, pos := "law.go:108", after := #[{ on := 4, ground := Ground.data }], guard := none }) rfl (fun K hK => ?_) (AllReadyH.cons (o := { dst := some 14, op := Op.alloc 31, type := 0, pos := "law.go:108", after := #[], guard := none }) rfl (fun K hK => ?_) AllReadyH.nil))
            · go_simp
              refine hK.out _ _ (C0.alloc C0.size _) (fun C1 => ?_)
              clear hK K
              try simp only [Act.put, List.setIfInBounds_toArray, List.set_cons_zero, List.set_cons_succ]
              refine wpAnyH_ready (rs := [8, 14]) (by kernel_rfl) (by simp) ?_
              refine (AllReadyH.cons (o := { dst := some 89, op := Op.call { callee := Callee.builtin Builtin.append, args := #[Operand.tmp 86, Operand.tmp 88], argTypes := #[24, 24] }, type := 24, pos := "law.go:108", after := #[{ on := 5, ground := Ground.data }, { on := 7, ground := Ground.data }], guard := none }) rfl (fun K hK => ?_) (AllReadyH.cons (o := { dst := some 14, op := Op.alloc 31, type := 0, pos := "law.go:108", after := #[], guard := none }) rfl (fun K hK => ?_) AllReadyH.nil))
              · have OWN : Hid (((w6.drew.alloc (.cells #[.slice A1 m1 Q1] 27))).ownsRow w6.heap.size 27 1 (.slice (some ⟨w6.heap.size, 0, none⟩) 1 1) 1 [.slice A1 m1 Q1]) := Lib.hid (own_one w6.drew w6.heap.size (.slice A1 m1 Q1) 27 (Nat.le_refl _))
                rw [if_pos (by rfl)]
                refine wp_append_own (w6.drew.alloc (.cells #[.slice A1 m1 Q1] 27)) (.tmp 86) (.tmp 88) _ rfl w6.heap.size 27 i0 _ 1 24 Try.underlying24 ti tz0 tz1 tz2 rfl (by decide) (.slice (some ⟨w6.heap.size, 0, none⟩) 1 1) 1 [.slice A1 m1 Q1] rfl OWN.out ad n8 c8 ((SV PA PC ls n).drop 1) rfl (by simp [SV_length]; omega) (fun j u h => (C1.cell (RR.tail_lt HRW.out (by omega) had h)).trans (HNW.out j u h)) (fun u h => SV_one n u (List.mem_of_mem_drop h)) (by unfold maxLen; omega) (by omega) C1.size ?_
                intro v4 w8 hown4 hg4 _
                obtain ⟨A8, c8w, rfl⟩ := own_form hown4
                have RA8 : Hid (RR w8 A8 n (aheadA PA rung) (aheadA PC rung) (l1 :: ls.drop 1)) := Lib.hid (RR.of_row (by rw [HSA.out, ← hn8b]; rw [hn8b]; exact (by simpa [hn8b] using Rd.own hown4)) (by simp [HLL.out]; omega) (fun x l' h => by obtain ⟨r', h1, h2, h3⟩ := HAG.out x l' h; rw [h2, h3]; exact (HRW.out.below ((C1.grown hg4 C1.size (fun j hj => (OWN.out.lt j hj).1)))).row h1))
                have hsz8 := Lib.hid (C1.grown hg4 C1.size (fun j hj => (OWN.out.lt j hj).1)).size
                refine hK.out _ _ (C1.grown hg4 C1.size (fun j hj => (OWN.out.lt j hj).1)) (fun C2 => ?_)
                clear hK K
                try simp only [Act.put, List.setIfInBounds_toArray, List.set_cons_zero, List.set_cons_succ]
                refine wpAnyH_ready (rs := [9, 14]) (by kernel_rfl) (by simp) ?_
                refine (AllReadyH.cons (o := { dst := some 90, op := Op.call { callee := Callee.value (Operand.func 9), args := #[Operand.tmp 81, Operand.tmp 89], argTypes := #[23, 24] }, type := 33, pos := "law.go:108", after := #[{ on := 0, ground := Ground.data }, { on := 8, ground := Ground.data }, { on := 8, ground := Ground.chain }], guard := none }) rfl (fun K hK => ?_) (AllReadyH.cons (o := { dst := some 14, op := Op.alloc 31, type := 0, pos := "law.go:108", after := #[], guard := none }) rfl (fun K hK => ?_) AllReadyH.nil))
                · go_simp
                  refine (HCA.out _ _ _ RA8.out).mono ?_
                  rintro _ w9 ⟨hU, hB⟩
                  obtain ⟨A9, c9, rfl, R9⟩ := hU.at_ HVN.out
                  have D9 := Lib.hid hB
                  clear hU
                  go_wp2_with fail
                  refine hK.out _ _ (C2.trans (hB.mono C2.size)) (fun C3 => ?_)
                  clear hK K hB
                  try simp only [Act.put, List.setIfInBounds_toArray, List.set_cons_zero, List.set_cons_succ]
                  refine wpAnyH_take (i := 10) (oi := { dst := some 80, op := Op.move (Operand.tmp 90), type := 33, pos := "law.go:108", after := #[{ on := 9, ground := Ground.data }], guard := none }) (v := ?_) rfl (by kernel_rfl) (by kernel_rfl) (by kernel_rfl) (fun _ _ _ h => h) (Or.inl ⟨by rfl, ?_⟩) C3 ?_
                  rotate_left
                  · intro W' hSw
                    clear hSw
                    go_simp <;> with_reducible rfl
                  try simp only [Act.put, List.setIfInBounds_toArray, List.set_cons_zero, List.set_cons_succ]
                  refine wpAnyH_take (i := 11) (oi := { dst := some 91, op := Op.extract (Operand.tmp 80) 0, type := 31, pos := "law.go:108", after := #[{ on := 10, ground := Ground.data }], guard := none }) (v := ?_) rfl (by kernel_rfl) (by kernel_rfl) (by kernel_rfl) (fun _ _ _ h => h) (Or.inl ⟨by rfl, ?_⟩) C3 ?_
                  rotate_left
                  · intro W' hSw
                    clear hSw
                    go_simp <;> with_reducible rfl
                  try simp only [Act.put, List.setIfInBounds_toArray, List.set_cons_zero, List.set_cons_succ]
                  refine wpAnyH_take (i := 12) (oi := { dst := some 92, op := Op.extract (Operand.tmp 80) 1, type := 3, pos := "law.go:108", after := #[{ on := 10, ground := Ground.data }, { on := 15, ground := Ground.gcOnly Departure.lateStores }], guard := none }) (v := ?_) rfl (by kernel_rfl) (by kernel_rfl) (by kernel_rfl) (fun _ _ _ h => h) (Or.inl ⟨by rfl, ?_⟩) C3 ?_
                  rotate_left
                  · intro W' hSw
                    clear hSw
                    go_simp <;> with_reducible rfl
                  try simp only [Act.put, List.setIfInBounds_toArray, List.set_cons_zero, List.set_cons_succ]
                  refine wpAnyH_take (i := 13) (oi := { dst := some 93, op := Op.extract (Operand.tmp 80) 2, type := 32, pos := "law.go:108", after := #[{ on := 10, ground := Ground.data }, { on := 16, ground := Ground.gcOnly Departure.lateStores }], guard := none }) (v := ?_) rfl (by kernel_rfl) (by kernel_rfl) (by kernel_rfl) (fun _ _ _ h => h) (Or.inl ⟨by rfl, ?_⟩) C3 ?_
                  rotate_left
                  · intro W' hSw
                    clear hSw
                    go_simp <;> with_reducible rfl
                  try simp only [Act.put, List.setIfInBounds_toArray, List.set_cons_zero, List.set_cons_succ]
                  refine wpAnyH_ready (rs := [14]) (by kernel_rfl) (by simp) ?_
                  refine AllReadyH.cons (o := { dst := some 14, op := Op.alloc 31, type := 0, pos := "law.go:108", after := #[], guard := none }) rfl (fun K hK => ?_) AllReadyH.nil
                  go_simp
                  refine hK.out _ _ (C3.alloc C3.size _) (fun C4 => ?_)
                  clear hK K
                  try simp only [Act.put, List.setIfInBounds_toArray, List.set_cons_zero, List.set_cons_succ]
                  have TA : Hid (CRow (w9.alloc (.cells #[.slice none 0 0, .int .i64 0, .int .i64 0, .int .i64 0, .int .i64 0, .int .i64 0] 31)) w9.heap.size 31 #[.slice none 0 0, .int .i64 0, .int .i64 0, .int .i64 0, .int .i64 0, .int .i64 0]) := Lib.hid (CRow.new w9 #[.slice none 0 0, .int .i64 0, .int .i64 0, .int .i64 0, .int .i64 0, .int .i64 0] 31)
                  have hszq := Lib.hid C3.size
                  generalize HBLK : w9.heap.size = blk at *
                  have hble : w6.heap.size ≤ blk := hszq.out
                  have RE : Hid (R8 (w9.alloc (.cells #[.slice none 0 0, .int .i64 0, .int .i64 0, .int .i64 0, .int .i64 0, .int .i64 0] 31)) A9 vn vd) := Lib.hid (R9.out.alloc _)
                  have TB := Lib.hid TA.out
                  refine wpAnyH_ready (rs := [15]) (by kernel_rfl) (by simp) ?_
                  refine AllReadyH.cons (o := { dst := none, op := Op.store 31 (Operand.tmp 14) (Operand.tmp 91), type := 0, pos := "law.go:108", after := #[{ on := 14, ground := Ground.data }, { on := 11, ground := Ground.data }, { on := 9, ground := Ground.chain }, { on := 0, ground := Ground.phase }, { on := 1, ground := Ground.phase }, { on := 2, ground := Ground.phase }, { on := 3, ground := Ground.phase }, { on := 4, ground := Ground.phase }, { on := 5, ground := Ground.phase }, { on := 6, ground := Ground.phase }, { on := 7, ground := Ground.phase }, { on := 8, ground := Ground.phase }, { on := 9, ground := Ground.phase }, { on := 10, ground := Ground.phase }, { on := 11, ground := Ground.phase }, { on := 12, ground := Ground.textOnly Departure.lateStores }, { on := 13, ground := Ground.textOnly Departure.lateStores }, { on := 14, ground := Ground.phase }], guard := none }) rfl (fun K hK => ?_) AllReadyH.nil
                  rw [if_pos (by rfl)]
                  refine wp_store_row 31 _ _ rfl blk #[.slice A9 vn c9, .int .i64 tk, .int .i64 ts, .int .i64 tq, .int .i64 te, .int .i64 (vs : Int)] (by simp [Act.eval]) rfl 31 _ TB.out size_page (by simp) (by simp [Value.oneCell']) ?_
                  refine hK.out _ _ (below_setRow C4 hble _) (fun C5 => ?_)
                  clear hK K
                  try simp only [Act.put]
                  have RF := Lib.hid (RE.out.setRow TB.out (by simp) #[.slice A9 vn c9, .int .i64 tk, .int .i64 ts, .int .i64 tq, .int .i64 te, .int .i64 (vs : Int)])
                  have TF := Lib.hid (TB.out.set #[.slice A9 vn c9, .int .i64 tk, .int .i64 ts, .int .i64 tq, .int .i64 te, .int .i64 (vs : Int)])
                  generalize World.setRow (w9.alloc (.cells #[.slice none 0 0, .int .i64 0, .int .i64 0, .int .i64 0, .int .i64 0, .int .i64 0] 31)) blk #[.slice A9 vn c9, .int .i64 tk, .int .i64 ts, .int .i64 tq, .int .i64 te, .int .i64 (vs : Int)] = W9 at *
                  refine wpAnyH_take (i := 16) (oi := { dst := some 15, op := Op.assign (Operand.tmp 92), type := 3, pos := "law.go:108", after := #[{ on := 12, ground := Ground.data }, { on := 15, ground := Ground.chain }, { on := 0, ground := Ground.phase }, { on := 1, ground := Ground.phase }, { on := 2, ground := Ground.phase }, { on := 3, ground := Ground.phase }, { on := 4, ground := Ground.phase }, { on := 5, ground := Ground.phase }, { on := 6, ground := Ground.phase }, { on := 7, ground := Ground.phase }, { on := 8, ground := Ground.phase }, { on := 9, ground := Ground.phase }, { on := 10, ground := Ground.phase }, { on := 11, ground := Ground.phase }, { on := 12, ground := Ground.phase }, { on := 13, ground := Ground.textOnly Departure.lateStores }, { on := 14, ground := Ground.phase }, { on := 15, ground := Ground.phase }], guard := none }) (v := ?_) rfl (by kernel_rfl) (by kernel_rfl) (by kernel_rfl) (fun _ _ _ h => h) (Or.inl ⟨by rfl, ?_⟩) C5 ?_
                  rotate_left
                  · intro W' hSw
                    clear hSw
                    go_simp <;> with_reducible rfl
                  try simp only [Act.put, List.setIfInBounds_toArray, List.set_cons_zero, List.set_cons_succ]
                  refine wpAnyH_take (i := 17) (oi := { dst := some 16, op := Op.assign (Operand.tmp 93), type := 32, pos := "law.go:108", after := #[{ on := 13, ground := Ground.data }, { on := 16, ground := Ground.chain }, { on := 0, ground := Ground.phase }, { on := 1, ground := Ground.phase }, { on := 2, ground := Ground.phase }, { on := 3, ground := Ground.phase }, { on := 4, ground := Ground.phase }, { on := 5, ground := Ground.phase }, { on := 6, ground := Ground.phase }, { on := 7, ground := Ground.phase }, { on := 8, ground := Ground.phase }, { on := 9, ground := Ground.phase }, { on := 10, ground := Ground.phase }, { on := 11, ground := Ground.phase }, { on := 12, ground := Ground.phase }, { on := 13, ground := Ground.phase }, { on := 14, ground := Ground.phase }, { on := 15, ground := Ground.phase }, { on := 16, ground := Ground.phase }], guard := none }) (v := ?_) rfl (by kernel_rfl) (by kernel_rfl) (by kernel_rfl) (fun _ _ _ h => h) (Or.inl ⟨by rfl, ?_⟩) C5 ?_
                  rotate_left
                  · intro W' hSw
                    clear hSw
                    go_simp <;> with_reducible rfl
                  try simp only [Act.put, List.setIfInBounds_toArray, List.set_cons_zero, List.set_cons_succ]
                  refine wpAnyH_done (by kernel_rfl) ?_ _
                  refine NoPanic.normal ?_
                  have HCC := C5
                  obtain ⟨b86, hb86⟩ : ∃ x, w6.heap.size = x := ⟨_, rfl⟩
                  rw [hb86]
                  exact HREST2.out A9 c9 blk W9 A8 c8w b86 ⟨RF, TF, HCC⟩
                · go_simp
                  refine hK.out _ _ (C2.alloc C2.size _) (fun C3 => ?_)
                  clear hK K
                  try simp only [Act.put, List.setIfInBounds_toArray, List.set_cons_zero, List.set_cons_succ]
                  have TA : Hid (CRow (w8.alloc (.cells #[.slice none 0 0, .int .i64 0, .int .i64 0, .int .i64 0, .int .i64 0, .int .i64 0] 31)) w8.heap.size 31 #[.slice none 0 0, .int .i64 0, .int .i64 0, .int .i64 0, .int .i64 0, .int .i64 0]) := Lib.hid (CRow.new w8 #[.slice none 0 0, .int .i64 0, .int .i64 0, .int .i64 0, .int .i64 0, .int .i64 0] 31)
                  refine wpAnyH_ready (rs := [9]) (by kernel_rfl) (by simp) ?_
                  refine AllReadyH.cons (o := { dst := some 90, op := Op.call { callee := Callee.value (Operand.func 9), args := #[Operand.tmp 81, Operand.tmp 89], argTypes := #[23, 24] }, type := 33, pos := "law.go:108", after := #[{ on := 0, ground := Ground.data }, { on := 8, ground := Ground.data }, { on := 8, ground := Ground.chain }], guard := none }) rfl (fun K hK => ?_) AllReadyH.nil
                  go_simp
                  refine (HCA.out _ _ _ (RA8.out.below (below_new w8 (.cells #[.slice none 0 0, .int .i64 0, .int .i64 0, .int .i64 0, .int .i64 0, .int .i64 0] 31)))).mono ?_
                  rintro _ w9 ⟨hU, hB⟩
                  obtain ⟨A9, c9, rfl, R9⟩ := hU.at_ HVN.out
                  have D9 := Lib.hid hB
                  clear hU
                  go_wp2_with fail
                  refine hK.out _ _ (C3.trans (hB.mono C3.size)) (fun C4 => ?_)
                  clear hK K hB
                  try simp only [Act.put, List.setIfInBounds_toArray, List.set_cons_zero, List.set_cons_succ]
                  refine wpAnyH_take (i := 10) (oi := { dst := some 80, op := Op.move (Operand.tmp 90), type := 33, pos := "law.go:108", after := #[{ on := 9, ground := Ground.data }], guard := none }) (v := ?_) rfl (by kernel_rfl) (by kernel_rfl) (by kernel_rfl) (fun _ _ _ h => h) (Or.inl ⟨by rfl, ?_⟩) C4 ?_
                  rotate_left
                  · intro W' hSw
                    clear hSw
                    go_simp <;> with_reducible rfl
                  try simp only [Act.put, List.setIfInBounds_toArray, List.set_cons_zero, List.set_cons_succ]
                  refine wpAnyH_take (i := 11) (oi := { dst := some 91, op := Op.extract (Operand.tmp 80) 0, type := 31, pos := "law.go:108", after := #[{ on := 10, ground := Ground.data }], guard := none }) (v := ?_) rfl (by kernel_rfl) (by kernel_rfl) (by kernel_rfl) (fun _ _ _ h => h) (Or.inl ⟨by rfl, ?_⟩) C4 ?_
                  rotate_left
                  · intro W' hSw
                    clear hSw
                    go_simp <;> with_reducible rfl
                  try simp only [Act.put, List.setIfInBounds_toArray, List.set_cons_zero, List.set_cons_succ]
                  refine wpAnyH_take (i := 12) (oi := { dst := some 92, op := Op.extract (Operand.tmp 80) 1, type := 3, pos := "law.go:108", after := #[{ on := 10, ground := Ground.data }, { on := 15, ground := Ground.gcOnly Departure.lateStores }], guard := none }) (v := ?_) rfl (by kernel_rfl) (by kernel_rfl) (by kernel_rfl) (fun _ _ _ h => h) (Or.inl ⟨by rfl, ?_⟩) C4 ?_
                  rotate_left
                  · intro W' hSw
                    clear hSw
                    go_simp <;> with_reducible rfl
                  try simp only [Act.put, List.setIfInBounds_toArray, List.set_cons_zero, List.set_cons_succ]
                  refine wpAnyH_take (i := 13) (oi := { dst := some 93, op := Op.extract (Operand.tmp 80) 2, type := 32, pos := "law.go:108", after := #[{ on := 10, ground := Ground.data }, { on := 16, ground := Ground.gcOnly Departure.lateStores }], guard := none }) (v := ?_) rfl (by kernel_rfl) (by kernel_rfl) (by kernel_rfl) (fun _ _ _ h => h) (Or.inl ⟨by rfl, ?_⟩) C4 ?_
                  rotate_left
                  · intro W' hSw
                    clear hSw
                    go_simp <;> with_reducible rfl
                  try simp only [Act.put, List.setIfInBounds_toArray, List.set_cons_zero, List.set_cons_succ]
                  have RE : Hid (R8 w9 A9 vn vd) := Lib.hid (R9.out)
                  have TB := Lib.hid (TA.out.below D9.out)
                  have hble : w6.heap.size ≤ w8.heap.size := hsz8.out
                  refine wpAnyH_ready (rs := [15]) (by kernel_rfl) (by simp) ?_
                  refine AllReadyH.cons (o := { dst := none, op := Op.store 31 (Operand.tmp 14) (Operand.tmp 91), type := 0, pos := "law.go:108", after := #[{ on := 14, ground := Ground.data }, { on := 11, ground := Ground.data }, { on := 9, ground := Ground.chain }, { on := 0, ground := Ground.phase }, { on := 1, ground := Ground.phase }, { on := 2, ground := Ground.phase }, { on := 3, ground := Ground.phase }, { on := 4, ground := Ground.phase }, { on := 5, ground := Ground.phase }, { on := 6, ground := Ground.phase }, { on := 7, ground := Ground.phase }, { on := 8, ground := Ground.phase }, { on := 9, ground := Ground.phase }, { on := 10, ground := Ground.phase }, { on := 11, ground := Ground.phase }, { on := 12, ground := Ground.textOnly Departure.lateStores }, { on := 13, ground := Ground.textOnly Departure.lateStores }, { on := 14, ground := Ground.phase }], guard := none }) rfl (fun K hK => ?_) AllReadyH.nil
                  rw [if_pos (by rfl)]
                  refine wp_store_row 31 _ _ rfl w8.heap.size #[.slice A9 vn c9, .int .i64 tk, .int .i64 ts, .int .i64 tq, .int .i64 te, .int .i64 (vs : Int)] (by simp [Act.eval]) rfl 31 _ TB.out size_page (by simp) (by simp [Value.oneCell']) ?_
                  refine hK.out _ _ (below_setRow C4 hble _) (fun C5 => ?_)
                  clear hK K
                  try simp only [Act.put]
                  have RF := Lib.hid (RE.out.setRow TB.out (by simp) #[.slice A9 vn c9, .int .i64 tk, .int .i64 ts, .int .i64 tq, .int .i64 te, .int .i64 (vs : Int)])
                  have TF := Lib.hid (TB.out.set #[.slice A9 vn c9, .int .i64 tk, .int .i64 ts, .int .i64 tq, .int .i64 te, .int .i64 (vs : Int)])
                  generalize World.setRow w9 w8.heap.size #[.slice A9 vn c9, .int .i64 tk, .int .i64 ts, .int .i64 tq, .int .i64 te, .int .i64 (vs : Int)] = W9 at *
                  refine wpAnyH_take (i := 16) (oi := { dst := some 15, op := Op.assign (Operand.tmp 92), type := 3, pos := "law.go:108", after := #[{ on := 12, ground := Ground.data }, { on := 15, ground := Ground.chain }, { on := 0, ground := Ground.phase }, { on := 1, ground := Ground.phase }, { on := 2, ground := Ground.phase }, { on := 3, ground := Ground.phase }, { on := 4, ground := Ground.phase }, { on := 5, ground := Ground.phase }, { on := 6, ground := Ground.phase }, { on := 7, ground := Ground.phase }, { on := 8, ground := Ground.phase }, { on := 9, ground := Ground.phase }, { on := 10, ground := Ground.phase }, { on := 11, ground := Ground.phase }, { on := 12, ground := Ground.phase }, { on := 13, ground := Ground.textOnly Departure.lateStores }, { on := 14, ground := Ground.phase }, { on := 15, ground := Ground.phase }], guard := none }) (v := ?_) rfl (by kernel_rfl) (by kernel_rfl) (by kernel_rfl) (fun _ _ _ h => h) (Or.inl ⟨by rfl, ?_⟩) C5 ?_
                  rotate_left
                  · intro W' hSw
                    clear hSw
                    go_simp <;> with_reducible rfl
                  try simp only [Act.put, List.setIfInBounds_toArray, List.set_cons_zero, List.set_cons_succ]
                  refine wpAnyH_take (i := 17) (oi := { dst := some 16, op := Op.assign (Operand.tmp 93), type := 32, pos := "law.go:108", after := #[{ on := 13, ground := Ground.data }, { on := 16, ground := Ground.chain }, { on := 0, ground := Ground.phase }, { on := 1, ground := Ground.phase }, { on := 2, ground := Ground.phase }, { on := 3, ground := Ground.phase }, { on := 4, ground := Ground.phase }, { on := 5, ground := Ground.phase }, { on := 6, ground := Ground.phase }, { on := 7, ground := Ground.phase }, { on := 8, ground := Ground.phase }, { on := 9, ground := Ground.phase }, { on := 10, ground := Ground.phase }, { on := 11, ground := Ground.phase }, { on := 12, ground := Ground.phase }, { on := 13, ground := Ground.phase }, { on := 14, ground := Ground.phase }, { on := 15, ground := Ground.phase }, { on := 16, ground := Ground.phase }], guard := none }) (v := ?_) rfl (by kernel_rfl) (by kernel_rfl) (by kernel_rfl) (fun _ _ _ h => h) (Or.inl ⟨by rfl, ?_⟩) C5 ?_
                  rotate_left
                  · intro W' hSw
                    clear hSw
                    go_simp <;> with_reducible rfl
                  try simp only [Act.put, List.setIfInBounds_toArray, List.set_cons_zero, List.set_cons_succ]
                  refine wpAnyH_done (by kernel_rfl) ?_ _
                  refine NoPanic.normal ?_
                  exact HREST2.out A9 c9 w8.heap.size W9 A8 c8w w6.heap.size ⟨RF, TF, C5⟩
              · go_simp
                refine hK.out _ _ (C1.alloc C1.size _) (fun C2 => ?_)
                clear hK K
                try simp only [Act.put, List.setIfInBounds_toArray, List.set_cons_zero, List.set_cons_succ]
                have TA : Hid (CRow ((w6.drew.alloc (.cells #[.slice A1 m1 Q1] 27)).alloc (.cells #[.slice none 0 0, .int .i64 0, .int .i64 0, .int .i64 0, .int .i64 0, .int .i64 0] 31)) (w6.heap.size + 1) 31 #[.slice none 0 0, .int .i64 0, .int .i64 0, .int .i64 0, .int .i64 0, .int .i64 0]) := Lib.hid (by simpa using CRow.new (w6.drew.alloc (.cells #[.slice A1 m1 Q1] 27)) #[.slice none 0 0, .int .i64 0, .int .i64 0, .int .i64 0, .int .i64 0, .int .i64 0] 31)
                refine wpAnyH_ready (rs := [8]) (by kernel_rfl) (by simp) ?_
                refine AllReadyH.cons (o := { dst := some 89, op := Op.call { callee := Callee.builtin Builtin.append, args := #[Operand.tmp 86, Operand.tmp 88], argTypes := #[24, 24] }, type := 24, pos := "law.go:108", after := #[{ on := 5, ground := Ground.data }, { on := 7, ground := Ground.data }], guard := none }) rfl (fun K hK => ?_) AllReadyH.nil
                have OWN : Hid ((((w6.drew.alloc (.cells #[.slice A1 m1 Q1] 27)).alloc (.cells #[.slice none 0 0, .int .i64 0, .int .i64 0, .int .i64 0, .int .i64 0, .int .i64 0] 31))).ownsRow w6.heap.size 27 1 (.slice (some ⟨w6.heap.size, 0, none⟩) 1 1) 1 [.slice A1 m1 Q1]) := Lib.hid ((own_one w6.drew w6.heap.size (.slice A1 m1 Q1) 27 (Nat.le_refl _)).alloc _)
                rw [if_pos (by rfl)]
                refine wp_append_own ((w6.drew.alloc (.cells #[.slice A1 m1 Q1] 27)).alloc (.cells #[.slice none 0 0, .int .i64 0, .int .i64 0, .int .i64 0, .int .i64 0, .int .i64 0] 31)) (.tmp 86) (.tmp 88) _ rfl w6.heap.size 27 i0 _ 1 24 Try.underlying24 ti tz0 tz1 tz2 rfl (by decide) (.slice (some ⟨w6.heap.size, 0, none⟩) 1 1) 1 [.slice A1 m1 Q1] rfl OWN.out ad n8 c8 ((SV PA PC ls n).drop 1) rfl (by simp [SV_length]; omega) (fun j u h => (C2.cell (RR.tail_lt HRW.out (by omega) had h)).trans (HNW.out j u h)) (fun u h => SV_one n u (List.mem_of_mem_drop h)) (by unfold maxLen; omega) (by omega) C2.size ?_
                intro v4 w8 hown4 hg4 _
                obtain ⟨A8, c8w, rfl⟩ := own_form hown4
                have RA8 : Hid (RR w8 A8 n (aheadA PA rung) (aheadA PC rung) (l1 :: ls.drop 1)) := Lib.hid (RR.of_row (by rw [HSA.out, ← hn8b]; rw [hn8b]; exact (by simpa [hn8b] using Rd.own hown4)) (by simp [HLL.out]; omega) (fun x l' h => by obtain ⟨r', h1, h2, h3⟩ := HAG.out x l' h; rw [h2, h3]; exact (HRW.out.below ((C2.grown hg4 C2.size (fun j hj => (OWN.out.lt j hj).1)))).row h1))
                have hsz8 := Lib.hid (C2.grown hg4 C2.size (fun j hj => (OWN.out.lt j hj).1)).size
                refine hK.out _ _ (C2.grown hg4 C2.size (fun j hj => (OWN.out.lt j hj).1)) (fun C3 => ?_)
                clear hK K
                try simp only [Act.put, List.setIfInBounds_toArray, List.set_cons_zero, List.set_cons_succ]
                refine wpAnyH_ready (rs := [9]) (by kernel_rfl) (by simp) ?_
                refine AllReadyH.cons (o := { dst := some 90, op := Op.call { callee := Callee.value (Operand.func 9), args := #[Operand.tmp 81, Operand.tmp 89], argTypes := #[23, 24] }, type := 33, pos := "law.go:108", after := #[{ on := 0, ground := Ground.data }, { on := 8, ground := Ground.data }, { on := 8, ground := Ground.chain }], guard := none }) rfl (fun K hK => ?_) AllReadyH.nil
                go_simp
                refine (HCA.out _ _ _ RA8.out).mono ?_
                rintro _ w9 ⟨hU, hB⟩
                obtain ⟨A9, c9, rfl, R9⟩ := hU.at_ HVN.out
                have D9 := Lib.hid hB
                clear hU
                go_wp2_with fail
                refine hK.out _ _ (C3.trans (hB.mono C3.size)) (fun C4 => ?_)
                clear hK K hB
                try simp only [Act.put, List.setIfInBounds_toArray, List.set_cons_zero, List.set_cons_succ]
                refine wpAnyH_take (i := 10) (oi := { dst := some 80, op := Op.move (Operand.tmp 90), type := 33, pos := "law.go:108", after := #[{ on := 9, ground := Ground.data }], guard := none }) (v := ?_) rfl (by kernel_rfl) (by kernel_rfl) (by kernel_rfl) (fun _ _ _ h => h) (Or.inl ⟨by rfl, ?_⟩) C4 ?_
                rotate_left
                · intro W' hSw
                  clear hSw
                  go_simp <;> with_reducible rfl
                try simp only [Act.put, List.setIfInBounds_toArray, List.set_cons_zero, List.set_cons_succ]
                refine wpAnyH_take (i := 11) (oi := { dst := some 91, op := Op.extract (Operand.tmp 80) 0, type := 31, pos := "law.go:108", after := #[{ on := 10, ground := Ground.data }], guard := none }) (v := ?_) rfl (by kernel_rfl) (by kernel_rfl) (by kernel_rfl) (fun _ _ _ h => h) (Or.inl ⟨by rfl, ?_⟩) C4 ?_
                rotate_left
                · intro W' hSw
                  clear hSw
                  go_simp <;> with_reducible rfl
                try simp only [Act.put, List.setIfInBounds_toArray, List.set_cons_zero, List.set_cons_succ]
                refine wpAnyH_take (i := 12) (oi := { dst := some 92, op := Op.extract (Operand.tmp 80) 1, type := 3, pos := "law.go:108", after := #[{ on := 10, ground := Ground.data }, { on := 15, ground := Ground.gcOnly Departure.lateStores }], guard := none }) (v := ?_) rfl (by kernel_rfl) (by kernel_rfl) (by kernel_rfl) (fun _ _ _ h => h) (Or.inl ⟨by rfl, ?_⟩) C4 ?_
                rotate_left
                · intro W' hSw
                  clear hSw
                  go_simp <;> with_reducible rfl
                try simp only [Act.put, List.setIfInBounds_toArray, List.set_cons_zero, List.set_cons_succ]
                refine wpAnyH_take (i := 13) (oi := { dst := some 93, op := Op.extract (Operand.tmp 80) 2, type := 32, pos := "law.go:108", after := #[{ on := 10, ground := Ground.data }, { on := 16, ground := Ground.gcOnly Departure.lateStores }], guard := none }) (v := ?_) rfl (by kernel_rfl) (by kernel_rfl) (by kernel_rfl) (fun _ _ _ h => h) (Or.inl ⟨by rfl, ?_⟩) C4 ?_
                rotate_left
                · intro W' hSw
                  clear hSw
                  go_simp <;> with_reducible rfl
                try simp only [Act.put, List.setIfInBounds_toArray, List.set_cons_zero, List.set_cons_succ]
                have RE : Hid (R8 w9 A9 vn vd) := Lib.hid (R9.out)
                have TB := Lib.hid ((TA.out.grown hg4 (by simp [Value.ownBlock])).below D9.out)
                refine wpAnyH_ready (rs := [15]) (by kernel_rfl) (by simp) ?_
                refine AllReadyH.cons (o := { dst := none, op := Op.store 31 (Operand.tmp 14) (Operand.tmp 91), type := 0, pos := "law.go:108", after := #[{ on := 14, ground := Ground.data }, { on := 11, ground := Ground.data }, { on := 9, ground := Ground.chain }, { on := 0, ground := Ground.phase }, { on := 1, ground := Ground.phase }, { on := 2, ground := Ground.phase }, { on := 3, ground := Ground.phase }, { on := 4, ground := Ground.phase }, { on := 5, ground := Ground.phase }, { on := 6, ground := Ground.phase }, { on := 7, ground := Ground.phase }, { on := 8, ground := Ground.phase }, { on := 9, ground := Ground.phase }, { on := 10, ground := Ground.phase }, { on := 11, ground := Ground.phase }, { on := 12, ground := Ground.textOnly Departure.lateStores }, { on := 13, ground := Ground.textOnly Departure.lateStores }, { on := 14, ground := Ground.phase }], guard := none }) rfl (fun K hK => ?_) AllReadyH.nil
                rw [if_pos (by rfl)]
                refine wp_store_row 31 _ _ rfl (w6.heap.size + 1) #[.slice A9 vn c9, .int .i64 tk, .int .i64 ts, .int .i64 tq, .int .i64 te, .int .i64 (vs : Int)] (by simp [Act.eval]) rfl 31 _ TB.out size_page (by simp) (by simp [Value.oneCell']) ?_
                refine hK.out _ _ (below_setRow C4 (Nat.le_succ _) _) (fun C5 => ?_)
                clear hK K
                try simp only [Act.put]
                have RF := Lib.hid (RE.out.setRow TB.out (by simp) #[.slice A9 vn c9, .int .i64 tk, .int .i64 ts, .int .i64 tq, .int .i64 te, .int .i64 (vs : Int)])
                have TF := Lib.hid (TB.out.set #[.slice A9 vn c9, .int .i64 tk, .int .i64 ts, .int .i64 tq, .int .i64 te, .int .i64 (vs : Int)])
                generalize World.setRow w9 (w6.heap.size + 1) #[.slice A9 vn c9, .int .i64 tk, .int .i64 ts, .int .i64 tq, .int .i64 te, .int .i64 (vs : Int)] = W9 at *
                refine wpAnyH_take (i := 16) (oi := { dst := some 15, op := Op.assign (Operand.tmp 92), type := 3, pos := "law.go:108", after := #[{ on := 12, ground := Ground.data }, { on := 15, ground := Ground.chain }, { on := 0, ground := Ground.phase }, { on := 1, ground := Ground.phase }, { on := 2, ground := Ground.phase }, { on := 3, ground := Ground.phase }, { on := 4, ground := Ground.phase }, { on := 5, ground := Ground.phase }, { on := 6, ground := Ground.phase }, { on := 7, ground := Ground.phase }, { on := 8, ground := Ground.phase }, { on := 9, ground := Ground.phase }, { on := 10, ground := Ground.phase }, { on := 11, ground := Ground.phase }, { on := 12, ground := Ground.phase }, { on := 13, ground := Ground.textOnly Departure.lateStores }, { on := 14, ground := Ground.phase }, { on := 15, ground := Ground.phase }], guard := none }) (v := ?_) rfl (by kernel_rfl) (by kernel_rfl) (by kernel_rfl) (fun _ _ _ h => h) (Or.inl ⟨by rfl, ?_⟩) C5 ?_
                rotate_left
                · intro W' hSw
                  clear hSw
                  go_simp <;> with_reducible rfl
                try simp only [Act.put, List.setIfInBounds_toArray, List.set_cons_zero, List.set_cons_succ]
                refine wpAnyH_take (i := 17) (oi := { dst := some 16, op := Op.assign (Operand.tmp 93), type := 32, pos := "law.go:108", after := #[{ on := 13, ground := Ground.data }, { on := 16, ground := Ground.chain }, { on := 0, ground := Ground.phase }, { on := 1, ground := Ground.phase }, { on := 2, ground := Ground.phase }, { on := 3, ground := Ground.phase }, { on := 4, ground := Ground.phase }, { on := 5, ground := Ground.phase }, { on := 6, ground := Ground.phase }, { on := 7, ground := Ground.phase }, { on := 8, ground := Ground.phase }, { on := 9, ground := Ground.phase }, { on := 10, ground := Ground.phase }, { on := 11, ground := Ground.phase }, { on := 12, ground := Ground.phase }, { on := 13, ground := Ground.phase }, { on := 14, ground := Ground.phase }, { on := 15, ground := Ground.phase }, { on := 16, ground := Ground.phase }], guard := none }) (v := ?_) rfl (by kernel_rfl) (by kernel_rfl) (by kernel_rfl) (fun _ _ _ h => h) (Or.inl ⟨by rfl, ?_⟩) C5 ?_
                rotate_left
                · intro W' hSw
                  clear hSw
                  go_simp <;> with_reducible rfl
                try simp only [Act.put, List.setIfInBounds_toArray, List.set_cons_zero, List.set_cons_succ]
                refine wpAnyH_done (by kernel_rfl) ?_ _
                refine NoPanic.normal ?_
                exact HREST2.out A9 c9 (w6.heap.size + 1) W9 A8 c8w w6.heap.size ⟨RF, TF, C5⟩
            · go_simp
              refine hK.out _ _ (C0.alloc C0.size _) (fun C1 => ?_)
              clear hK K
              try simp only [Act.put, List.setIfInBounds_toArray, List.set_cons_zero, List.set_cons_succ]
              have TA : Hid (CRow (w6.drew.alloc (.cells #[.slice none 0 0, .int .i64 0, .int .i64 0, .int .i64 0, .int .i64 0, .int .i64 0] 31)) w6.heap.size 31 #[.slice none 0 0, .int .i64 0, .int .i64 0, .int .i64 0, .int .i64 0, .int .i64 0]) := Lib.hid (CRow.new w6.drew #[.slice none 0 0, .int .i64 0, .int .i64 0, .int .i64 0, .int .i64 0, .int .i64 0] 31)
              refine wpAnyH_ready (rs := [5]) (by kernel_rfl) (by simp) ?_
              refine AllReadyH.cons (o := { dst := some 86, op := Op.buildSlice 24 1 #[(0, Operand.tmp 85)], type := 24, pos := "law.go:108", after := #[{ on := 4, ground := Ground.data }], guard := none }) rfl (fun K hK => ?_) AllReadyH.nil
              go_simp
              refine hK.out _ _ (C1.alloc C1.size _) (fun C2 => ?_)
              clear hK K
              try simp only [Act.put, List.setIfInBounds_toArray, List.set_cons_zero, List.set_cons_succ]
              refine wpAnyH_ready (rs := [8]) (by kernel_rfl) (by simp) ?_
              refine AllReadyH.cons (o := { dst := some 89, op := Op.call { callee := Callee.builtin Builtin.append, args := #[Operand.tmp 86, Operand.tmp 88], argTypes := #[24, 24] }, type := 24, pos := "law.go:108", after := #[{ on := 5, ground := Ground.data }, { on := 7, ground := Ground.data }], guard := none }) rfl (fun K hK => ?_) AllReadyH.nil
              have OWN : Hid ((((w6.drew.alloc (.cells #[.slice none 0 0, .int .i64 0, .int .i64 0, .int .i64 0, .int .i64 0, .int .i64 0] 31)).alloc (.cells #[.slice A1 m1 Q1] 27))).ownsRow w6.heap.size 27 1 (.slice (some ⟨w6.heap.size + 1, 0, none⟩) 1 1) 1 [.slice A1 m1 Q1]) := Lib.hid (by simpa using own_one (w6.drew.alloc (.cells #[.slice none 0 0, .int .i64 0, .int .i64 0, .int .i64 0, .int .i64 0, .int .i64 0] 31)) w6.heap.size (.slice A1 m1 Q1) 27 (by simp))
              rw [if_pos (by rfl)]
              refine wp_append_own ((w6.drew.alloc (.cells #[.slice none 0 0, .int .i64 0, .int .i64 0, .int .i64 0, .int .i64 0, .int .i64 0] 31)).alloc (.cells #[.slice A1 m1 Q1] 27)) (.tmp 86) (.tmp 88) _ rfl w6.heap.size 27 i0 _ 1 24 Try.underlying24 ti tz0 tz1 tz2 rfl (by decide) (.slice (some ⟨w6.heap.size + 1, 0, none⟩) 1 1) 1 [.slice A1 m1 Q1] rfl OWN.out ad n8 c8 ((SV PA PC ls n).drop 1) rfl (by simp [SV_length]; omega) (fun j u h => (C2.cell (RR.tail_lt HRW.out (by omega) had h)).trans (HNW.out j u h)) (fun u h => SV_one n u (List.mem_of_mem_drop h)) (by unfold maxLen; omega) (by omega) C2.size ?_
              intro v4 w8 hown4 hg4 _
              obtain ⟨A8, c8w, rfl⟩ := own_form hown4
              have RA8 : Hid (RR w8 A8 n (aheadA PA rung) (aheadA PC rung) (l1 :: ls.drop 1)) := Lib.hid (RR.of_row (by rw [HSA.out, ← hn8b]; rw [hn8b]; exact (by simpa [hn8b] using Rd.own hown4)) (by simp [HLL.out]; omega) (fun x l' h => by obtain ⟨r', h1, h2, h3⟩ := HAG.out x l' h; rw [h2, h3]; exact (HRW.out.below ((C2.grown hg4 C2.size (fun j hj => (OWN.out.lt j hj).1)))).row h1))
              have hsz8 := Lib.hid (C2.grown hg4 C2.size (fun j hj => (OWN.out.lt j hj).1)).size
              refine hK.out _ _ (C2.grown hg4 C2.size (fun j hj => (OWN.out.lt j hj).1)) (fun C3 => ?_)
              clear hK K
              try simp only [Act.put, List.setIfInBounds_toArray, List.set_cons_zero, List.set_cons_succ]
              refine wpAnyH_ready (rs := [9]) (by kernel_rfl) (by simp) ?_
              refine AllReadyH.cons (o := { dst := some 90, op := Op.call { callee := Callee.value (Operand.func 9), args := #[Operand.tmp 81, Operand.tmp 89], argTypes := #[23, 24] }, type := 33, pos := "law.go:108", after := #[{ on := 0, ground := Ground.data }, { on := 8, ground := Ground.data }, { on := 8, ground := Ground.chain }], guard := none }) rfl (fun K hK => ?_) AllReadyH.nil
              go_simp
              refine (HCA.out _ _ _ RA8.out).mono ?_
              rintro _ w9 ⟨hU, hB⟩
              obtain ⟨A9, c9, rfl, R9⟩ := hU.at_ HVN.out
              have D9 := Lib.hid hB
              clear hU
              go_wp2_with fail
              refine hK.out _ _ (C3.trans (hB.mono C3.size)) (fun C4 => ?_)
              clear hK K hB
              try simp only [Act.put, List.setIfInBounds_toArray, List.set_cons_zero, List.set_cons_succ]
              refine wpAnyH_take (i := 10) (oi := { dst := some 80, op := Op.move (Operand.tmp 90), type := 33, pos := "law.go:108", after := #[{ on := 9, ground := Ground.data }], guard := none }) (v := ?_) rfl (by kernel_rfl) (by kernel_rfl) (by kernel_rfl) (fun _ _ _ h => h) (Or.inl ⟨by rfl, ?_⟩) C4 ?_
              rotate_left
              · intro W' hSw
                clear hSw
                go_simp <;> with_reducible rfl
              try simp only [Act.put, List.setIfInBounds_toArray, List.set_cons_zero, List.set_cons_succ]
              refine wpAnyH_take (i := 11) (oi := { dst := some 91, op := Op.extract (Operand.tmp 80) 0, type := 31, pos := "law.go:108", after := #[{ on := 10, ground := Ground.data }], guard := none }) (v := ?_) rfl (by kernel_rfl) (by kernel_rfl) (by kernel_rfl) (fun _ _ _ h => h) (Or.inl ⟨by rfl, ?_⟩) C4 ?_
              rotate_left
              · intro W' hSw
                clear hSw
                go_simp <;> with_reducible rfl
              try simp only [Act.put, List.setIfInBounds_toArray, List.set_cons_zero, List.set_cons_succ]
              refine wpAnyH_take (i := 12) (oi := { dst := some 92, op := Op.extract (Operand.tmp 80) 1, type := 3, pos := "law.go:108", after := #[{ on := 10, ground := Ground.data }, { on := 15, ground := Ground.gcOnly Departure.lateStores }], guard := none }) (v := ?_) rfl (by kernel_rfl) (by kernel_rfl) (by kernel_rfl) (fun _ _ _ h => h) (Or.inl ⟨by rfl, ?_⟩) C4 ?_
              rotate_left
              · intro W' hSw
                clear hSw
                go_simp <;> with_reducible rfl
              try simp only [Act.put, List.setIfInBounds_toArray, List.set_cons_zero, List.set_cons_succ]
              refine wpAnyH_take (i := 13) (oi := { dst := some 93, op := Op.extract (Operand.tmp 80) 2, type := 32, pos := "law.go:108", after := #[{ on := 10, ground := Ground.data }, { on := 16, ground := Ground.gcOnly Departure.lateStores }], guard := none }) (v := ?_) rfl (by kernel_rfl) (by kernel_rfl) (by kernel_rfl) (fun _ _ _ h => h) (Or.inl ⟨by rfl, ?_⟩) C4 ?_
              rotate_left
              · intro W' hSw
                clear hSw
                go_simp <;> with_reducible rfl
              try simp only [Act.put, List.setIfInBounds_toArray, List.set_cons_zero, List.set_cons_succ]
              have RE : Hid (R8 w9 A9 vn vd) := Lib.hid (R9.out)
              have TB := Lib.hid (((TA.out.below (below_new (w6.drew.alloc (.cells #[.slice none 0 0, .int .i64 0, .int .i64 0, .int .i64 0, .int .i64 0, .int .i64 0] 31)) (.cells #[.slice A1 m1 Q1] 27))).grown hg4 (by simp [Value.ownBlock])).below D9.out)
              refine wpAnyH_ready (rs := [15]) (by kernel_rfl) (by simp) ?_
              refine AllReadyH.cons (o := { dst := none, op := Op.store 31 (Operand.tmp 14) (Operand.tmp 91), type := 0, pos := "law.go:108", after := #[{ on := 14, ground := Ground.data }, { on := 11, ground := Ground.data }, { on := 9, ground := Ground.chain }, { on := 0, ground := Ground.phase }, { on := 1, ground := Ground.phase }, { on := 2, ground := Ground.phase }, { on := 3, ground := Ground.phase }, { on := 4, ground := Ground.phase }, { on := 5, ground := Ground.phase }, { on := 6, ground := Ground.phase }, { on := 7, ground := Ground.phase }, { on := 8, ground := Ground.phase }, { on := 9, ground := Ground.phase }, { on := 10, ground := Ground.phase }, { on := 11, ground := Ground.phase }, { on := 12, ground := Ground.textOnly Departure.lateStores }, { on := 13, ground := Ground.textOnly Departure.lateStores }, { on := 14, ground := Ground.phase }], guard := none }) rfl (fun K hK => ?_) AllReadyH.nil
              rw [if_pos (by rfl)]
              refine wp_store_row 31 _ _ rfl w6.heap.size #[.slice A9 vn c9, .int .i64 tk, .int .i64 ts, .int .i64 tq, .int .i64 te, .int .i64 (vs : Int)] (by simp [Act.eval]) rfl 31 _ TB.out size_page (by simp) (by simp [Value.oneCell']) ?_
              refine hK.out _ _ (below_setRow C4 (Nat.le_refl _) _) (fun C5 => ?_)
              clear hK K
              try simp only [Act.put]
              have RF := Lib.hid (RE.out.setRow TB.out (by simp) #[.slice A9 vn c9, .int .i64 tk, .int .i64 ts, .int .i64 tq, .int .i64 te, .int .i64 (vs : Int)])
              have TF := Lib.hid (TB.out.set #[.slice A9 vn c9, .int .i64 tk, .int .i64 ts, .int .i64 tq, .int .i64 te, .int .i64 (vs : Int)])
              generalize World.setRow w9 w6.heap.size #[.slice A9 vn c9, .int .i64 tk, .int .i64 ts, .int .i64 tq, .int .i64 te, .int .i64 (vs : Int)] = W9 at *
              refine wpAnyH_take (i := 16) (oi := { dst := some 15, op := Op.assign (Operand.tmp 92), type := 3, pos := "law.go:108", after := #[{ on := 12, ground := Ground.data }, { on := 15, ground := Ground.chain }, { on := 0, ground := Ground.phase }, { on := 1, ground := Ground.phase }, { on := 2, ground := Ground.phase }, { on := 3, ground := Ground.phase }, { on := 4, ground := Ground.phase }, { on := 5, ground := Ground.phase }, { on := 6, ground := Ground.phase }, { on := 7, ground := Ground.phase }, { on := 8, ground := Ground.phase }, { on := 9, ground := Ground.phase }, { on := 10, ground := Ground.phase }, { on := 11, ground := Ground.phase }, { on := 12, ground := Ground.phase }, { on := 13, ground := Ground.textOnly Departure.lateStores }, { on := 14, ground := Ground.phase }, { on := 15, ground := Ground.phase }], guard := none }) (v := ?_) rfl (by kernel_rfl) (by kernel_rfl) (by kernel_rfl) (fun _ _ _ h => h) (Or.inl ⟨by rfl, ?_⟩) C5 ?_
              rotate_left
              · intro W' hSw
                clear hSw
                go_simp <;> with_reducible rfl
              try simp only [Act.put, List.setIfInBounds_toArray, List.set_cons_zero, List.set_cons_succ]
              refine wpAnyH_take (i := 17) (oi := { dst := some 16, op := Op.assign (Operand.tmp 93), type := 32, pos := "law.go:108", after := #[{ on := 13, ground := Ground.data }, { on := 16, ground := Ground.chain }, { on := 0, ground := Ground.phase }, { on := 1, ground := Ground.phase }, { on := 2, ground := Ground.phase }, { on := 3, ground := Ground.phase }, { on := 4, ground := Ground.phase }, { on := 5, ground := Ground.phase }, { on := 6, ground := Ground.phase }, { on := 7, ground := Ground.phase }, { on := 8, ground := Ground.phase }, { on := 9, ground := Ground.phase }, { on := 10, ground := Ground.phase }, { on := 11, ground := Ground.phase }, { on := 12, ground := Ground.phase }, { on := 13, ground := Ground.phase }, { on := 14, ground := Ground.phase }, { on := 15, ground := Ground.phase }, { on := 16, ground := Ground.phase }], guard := none }) (v := ?_) rfl (by kernel_rfl) (by kernel_rfl) (by kernel_rfl) (fun _ _ _ h => h) (Or.inl ⟨by rfl, ?_⟩) C5 ?_
              rotate_left
              · intro W' hSw
                clear hSw
                go_simp <;> with_reducible rfl
              try simp only [Act.put, List.setIfInBounds_toArray, List.set_cons_zero, List.set_cons_succ]
              refine wpAnyH_done (by kernel_rfl) ?_ _
              refine NoPanic.normal ?_
              exact HREST2.out A9 c9 w6.heap.size W9 A8 c8w (w6.heap.size + 1) ⟨RF, TF, C5⟩
          · intro A9 c9 blk9 W9 A8 c8w b86 ⟨R9, T9, D9⟩
            have B9 := Lib.hid (below_step B6.out D9.out)
            have Y9 := Lib.hid (Y6.out.below D9.out)
            have T9a := Lib.hid (T6.out.below D9.out)
            have R9a := Lib.hid (R6.out.below D9.out)
            have hcl2 := (D9.out.cell (p := ⟨b1, o1 + rung, none⟩) hb1).trans HCL.out
            have HCL2 := Lib.hid hcl2
            have hb2 : b1 < W9.heap.size := Nat.lt_of_lt_of_le hb1 D9.out.size
            have HRk2 := Lib.hid (HRk.out.below D9.out)
            clear hcl2
            go_wp2
            apply cut_awb (F := fun A5 c5 blk W => Hid (R8 W A5 vn vd) ∧ Hid (CRow W blk 29 #[.int .i64 tk, .int .i64 ts, .int .i64 tq, .int .i64 te]) ∧ Hid (Below W9.heap.size W9 W))
            · intro HREST3
              obtain ⟨hltG, g0, g1, g2, g3, g4, g5, g6⟩ := Y9.out
              simp only at g0 g1 g2 g3 g4 g5 g6
              have hcl := HCL2.out
              refine wp_region_noPanic ?_
              refine wp_region_held_drew (S := fun w' => Below W9.heap.size W9 w') (by kernel_rfl) ((Below.refl _ _).drew) (fun C0 => ?_)
              refine wpAnyH_take (i := 0) (oi := { dst := some 95, op := Op.load 23 (Operand.tmp 3), type := 23, pos := "law.go:109", after := #[], guard := none }) (v := ?_) rfl (by kernel_rfl) (by kernel_rfl) (by kernel_rfl) (fun _ _ _ h => h) (Or.inl ⟨by rfl, ?_⟩) C0 ?_
              rotate_left
              · intro W' hSw
                have q0 := (hSw.cell (p := ⟨w.heap.size, 0, none⟩) hltG).trans g0
                have q1 := (hSw.cell (p := ⟨w.heap.size, 1, none⟩) hltG).trans g1
                have q2 := (hSw.cell (p := ⟨w.heap.size, 2, none⟩) hltG).trans g2
                have q3 := (hSw.cell (p := ⟨w.heap.size, 3, none⟩) hltG).trans g3
                have q4 := (hSw.cell (p := ⟨w.heap.size, 4, none⟩) hltG).trans g4
                have q5 := (hSw.cell (p := ⟨w.heap.size, 5, none⟩) hltG).trans g5
                have q6 := (hSw.cell (p := ⟨w.heap.size, 6, none⟩) hltG).trans g6
                clear hSw
                go_simp <;> with_reducible rfl
              try simp only [Act.put, List.setIfInBounds_toArray, List.set_cons_zero, List.set_cons_succ]
              refine wpAnyH_take (i := 1) (oi := { dst := some 96, op := Op.move (Operand.tmp 1), type := 24, pos := "law.go:109", after := #[], guard := none }) (v := ?_) rfl (by kernel_rfl) (by kernel_rfl) (by kernel_rfl) (fun _ _ _ h => h) (Or.inl ⟨by rfl, ?_⟩) C0 ?_
              rotate_left
              · intro W' hSw
                clear hSw
                go_simp <;> with_reducible rfl
              try simp only [Act.put, List.setIfInBounds_toArray, List.set_cons_zero, List.set_cons_succ]
              refine wpAnyH_take (i := 2) (oi := { dst := some 97, op := Op.move (Operand.tmp 8), type := 3, pos := "law.go:109", after := #[], guard := none }) (v := ?_) rfl (by kernel_rfl) (by kernel_rfl) (by kernel_rfl) (fun _ _ _ h => h) (Or.inl ⟨by rfl, ?_⟩) C0 ?_
              rotate_left
              · intro W' hSw
                clear hSw
                go_simp <;> with_reducible rfl
              try simp only [Act.put, List.setIfInBounds_toArray, List.set_cons_zero, List.set_cons_succ]
              refine wpAnyH_take (i := 3) (oi := { dst := some 98, op := Op.indexAddr 24 (Operand.tmp 96) (Operand.tmp 97), type := 0, pos := "law.go:109", after := #[{ on := 1, ground := Ground.data }, { on := 2, ground := Ground.data }], guard := none }) (v := ?_) rfl (by kernel_rfl) (by kernel_rfl) (by kernel_rfl) (fun _ _ _ h => h) (Or.inl ⟨by rfl, ?_⟩) C0 ?_
              rotate_left
              · intro W' hSw
                clear hSw
                go_simp <;> with_reducible rfl
              try simp only [Act.put, List.setIfInBounds_toArray, List.set_cons_zero, List.set_cons_succ]
              refine wpAnyH_take (i := 4) (oi := { dst := some 99, op := Op.load 27 (Operand.tmp 98), type := 27, pos := "law.go:109", after := #[{ on := 3, ground := Ground.data }], guard := none }) (v := ?_) rfl (by kernel_rfl) (by kernel_rfl) (by kernel_rfl) (fun _ _ _ h => h) (Or.inl ⟨by rfl, ?_⟩) C0 ?_
              rotate_left
              · intro W' hSw
                have qs := (hSw.cell (p := ⟨b1, o1 + rung, none⟩) hb2).trans hcl
                clear hSw
                go_simp <;> with_reducible rfl
              try simp only [Act.put, List.setIfInBounds_toArray, List.set_cons_zero, List.set_cons_succ]
              refine wpAnyH_ready (rs := [5, 11]) (by kernel_rfl) (by simp) ?_
              refine (AllReadyH.cons (o := { dst := some 100, op := Op.call { callee := Callee.value (Operand.func 16), args := #[Operand.tmp 95, Operand.tmp 99], argTypes := #[23, 27] }, type := 44, pos := "law.go:109", after := #[{ on := 0, ground := Ground.data }, { on := 4, ground := Ground.data }], guard := none }) rfl (fun K hK => ?_) (AllReadyH.cons (o := { dst := some 18, op := Op.alloc 29, type := 0, pos := "law.go:109", after := #[], guard := none }) rfl (fun K hK => ?_) AllReadyH.nil))
              · go_simp
                refine (HDC1.out _ (HRk2.out.below C0)).mono ?_
                intro _ w10 hM
                obtain ⟨A10, c10, rfl, R10, D10⟩ := hM.tag vn HVN.out tk ts tq te rfl
                have hB := D10.out
                clear hM
                go_wp2_with fail
                refine hK.out _ _ (C0.trans (hB.mono C0.size)) (fun C1 => ?_)
                clear hK K hB
                try simp only [Act.put, List.setIfInBounds_toArray, List.set_cons_zero, List.set_cons_succ]
                refine wpAnyH_take (i := 6) (oi := { dst := some 94, op := Op.move (Operand.tmp 100), type := 44, pos := "law.go:109", after := #[{ on := 5, ground := Ground.data }], guard := none }) (v := ?_) rfl (by kernel_rfl) (by kernel_rfl) (by kernel_rfl) (fun _ _ _ h => h) (Or.inl ⟨by rfl, ?_⟩) C1 ?_
                rotate_left
                · intro W' hSw
                  clear hSw
                  go_simp <;> with_reducible rfl
                try simp only [Act.put, List.setIfInBounds_toArray, List.set_cons_zero, List.set_cons_succ]
                refine wpAnyH_take (i := 7) (oi := { dst := some 101, op := Op.extract (Operand.tmp 94) 0, type := 27, pos := "law.go:109", after := #[{ on := 6, ground := Ground.data }], guard := none }) (v := ?_) rfl (by kernel_rfl) (by kernel_rfl) (by kernel_rfl) (fun _ _ _ h => h) (Or.inl ⟨by rfl, ?_⟩) C1 ?_
                rotate_left
                · intro W' hSw
                  clear hSw
                  go_simp <;> with_reducible rfl
                try simp only [Act.put, List.setIfInBounds_toArray, List.set_cons_zero, List.set_cons_succ]
                refine wpAnyH_take (i := 8) (oi := { dst := some 102, op := Op.extract (Operand.tmp 94) 1, type := 29, pos := "law.go:109", after := #[{ on := 6, ground := Ground.data }, { on := 12, ground := Ground.gcOnly Departure.lateStores }], guard := none }) (v := ?_) rfl (by kernel_rfl) (by kernel_rfl) (by kernel_rfl) (fun _ _ _ h => h) (Or.inl ⟨by rfl, ?_⟩) C1 ?_
                rotate_left
                · intro W' hSw
                  clear hSw
                  go_simp <;> with_reducible rfl
                try simp only [Act.put, List.setIfInBounds_toArray, List.set_cons_zero, List.set_cons_succ]
                refine wpAnyH_take (i := 9) (oi := { dst := some 103, op := Op.extract (Operand.tmp 94) 2, type := 3, pos := "law.go:109", after := #[{ on := 6, ground := Ground.data }, { on := 13, ground := Ground.gcOnly Departure.lateStores }], guard := none }) (v := ?_) rfl (by kernel_rfl) (by kernel_rfl) (by kernel_rfl) (fun _ _ _ h => h) (Or.inl ⟨by rfl, ?_⟩) C1 ?_
                rotate_left
                · intro W' hSw
                  clear hSw
                  go_simp <;> with_reducible rfl
                try simp only [Act.put, List.setIfInBounds_toArray, List.set_cons_zero, List.set_cons_succ]
                refine wpAnyH_take (i := 10) (oi := { dst := some 104, op := Op.extract (Operand.tmp 94) 3, type := 32, pos := "law.go:109", after := #[{ on := 6, ground := Ground.data }, { on := 14, ground := Ground.gcOnly Departure.lateStores }], guard := none }) (v := ?_) rfl (by kernel_rfl) (by kernel_rfl) (by kernel_rfl) (fun _ _ _ h => h) (Or.inl ⟨by rfl, ?_⟩) C1 ?_
                rotate_left
                · intro W' hSw
                  clear hSw
                  go_simp <;> with_reducible rfl
                try simp only [Act.put, List.setIfInBounds_toArray, List.set_cons_zero, List.set_cons_succ]
                refine wpAnyH_ready (rs := [11]) (by kernel_rfl) (by simp) ?_
                refine AllReadyH.cons (o := { dst := some 18, op := Op.alloc 29, type := 0, pos := "law.go:109", after := #[], guard := none }) rfl (fun K hK => ?_) AllReadyH.nil
                go_simp
                refine hK.out _ _ (C1.alloc C1.size _) (fun C2 => ?_)
                clear hK K
                try simp only [Act.put, List.setIfInBounds_toArray, List.set_cons_zero, List.set_cons_succ]
                have TA : Hid (CRow (w10.alloc (.cells #[.int .i64 0, .int .i64 0, .int .i64 0, .int .i64 0] 29)) w10.heap.size 29 #[.int .i64 0, .int .i64 0, .int .i64 0, .int .i64 0]) := Lib.hid (CRow.new w10 #[.int .i64 0, .int .i64 0, .int .i64 0, .int .i64 0] 29)
                generalize HBLK : w10.heap.size = blk at *
                have hble : W9.heap.size ≤ blk := by have := D10.out.size; have := C0.size; simp at *; omega
                have RE : Hid (R8 (w10.alloc (.cells #[.int .i64 0, .int .i64 0, .int .i64 0, .int .i64 0] 29)) A10 vn vd) := Lib.hid (R10.out.alloc _)
                have TB := Lib.hid TA.out
                refine wpAnyH_take (i := 12) (oi := { dst := some 17, op := Op.assign (Operand.tmp 101), type := 27, pos := "law.go:109", after := #[{ on := 7, ground := Ground.data }, { on := 5, ground := Ground.chain }, { on := 0, ground := Ground.phase }, { on := 1, ground := Ground.phase }, { on := 2, ground := Ground.phase }, { on := 3, ground := Ground.phase }, { on := 4, ground := Ground.phase }, { on := 5, ground := Ground.phase }, { on := 6, ground := Ground.phase }, { on := 7, ground := Ground.phase }, { on := 8, ground := Ground.textOnly Departure.lateStores }, { on := 9, ground := Ground.textOnly Departure.lateStores }, { on := 10, ground := Ground.textOnly Departure.lateStores }, { on := 11, ground := Ground.phase }], guard := none }) (v := ?_) rfl (by kernel_rfl) (by kernel_rfl) (by kernel_rfl) (fun _ _ _ h => h) (Or.inl ⟨by rfl, ?_⟩) C2 ?_
                rotate_left
                · intro W' hSw
                  clear hSw
                  go_simp <;> with_reducible rfl
                try simp only [Act.put, List.setIfInBounds_toArray, List.set_cons_zero, List.set_cons_succ]
                refine wpAnyH_ready (rs := [13]) (by kernel_rfl) (by simp) ?_
                refine AllReadyH.cons (o := { dst := none, op := Op.store 29 (Operand.tmp 18) (Operand.tmp 102), type := 0, pos := "law.go:109", after := #[{ on := 11, ground := Ground.data }, { on := 8, ground := Ground.data }, { on := 12, ground := Ground.chain }, { on := 0, ground := Ground.phase }, { on := 1, ground := Ground.phase }, { on := 2, ground := Ground.phase }, { on := 3, ground := Ground.phase }, { on := 4, ground := Ground.phase }, { on := 5, ground := Ground.phase }, { on := 6, ground := Ground.phase }, { on := 7, ground := Ground.phase }, { on := 8, ground := Ground.phase }, { on := 9, ground := Ground.textOnly Departure.lateStores }, { on := 10, ground := Ground.textOnly Departure.lateStores }, { on := 11, ground := Ground.phase }, { on := 12, ground := Ground.phase }], guard := none }) rfl (fun K hK => ?_) AllReadyH.nil
                rw [if_pos (by rfl)]
                refine wp_store_row 29 _ _ rfl blk #[.int .i64 tk, .int .i64 ts, .int .i64 tq, .int .i64 te] (by simp [Act.eval]) rfl 29 _ TB.out size_tag (by simp) (by simp [Value.oneCell']) ?_
                refine hK.out _ _ (below_setRow C2 hble _) (fun C3 => ?_)
                clear hK K
                try simp only [Act.put]
                have RF := Lib.hid (RE.out.setRow TB.out (by simp) #[.int .i64 tk, .int .i64 ts, .int .i64 tq, .int .i64 te])
                have TF := Lib.hid (TB.out.set #[.int .i64 tk, .int .i64 ts, .int .i64 tq, .int .i64 te])
                generalize World.setRow (w10.alloc (.cells #[.int .i64 0, .int .i64 0, .int .i64 0, .int .i64 0] 29)) blk #[.int .i64 tk, .int .i64 ts, .int .i64 tq, .int .i64 te] = W11 at *
                refine wpAnyH_take (i := 14) (oi := { dst := some 19, op := Op.assign (Operand.tmp 103), type := 3, pos := "law.go:109", after := #[{ on := 9, ground := Ground.data }, { on := 13, ground := Ground.chain }, { on := 0, ground := Ground.phase }, { on := 1, ground := Ground.phase }, { on := 2, ground := Ground.phase }, { on := 3, ground := Ground.phase }, { on := 4, ground := Ground.phase }, { on := 5, ground := Ground.phase }, { on := 6, ground := Ground.phase }, { on := 7, ground := Ground.phase }, { on := 8, ground := Ground.phase }, { on := 9, ground := Ground.phase }, { on := 10, ground := Ground.textOnly Departure.lateStores }, { on := 11, ground := Ground.phase }, { on := 12, ground := Ground.phase }, { on := 13, ground := Ground.phase }], guard := none }) (v := ?_) rfl (by kernel_rfl) (by kernel_rfl) (by kernel_rfl) (fun _ _ _ h => h) (Or.inl ⟨by rfl, ?_⟩) C3 ?_
                rotate_left
                · intro W' hSw
                  clear hSw
                  go_simp <;> with_reducible rfl
                try simp only [Act.put, List.setIfInBounds_toArray, List.set_cons_zero, List.set_cons_succ]
                refine wpAnyH_take (i := 15) (oi := { dst := some 20, op := Op.assign (Operand.tmp 104), type := 32, pos := "law.go:109", after := #[{ on := 10, ground := Ground.data }, { on := 14, ground := Ground.chain }, { on := 0, ground := Ground.phase }, { on := 1, ground := Ground.phase }, { on := 2, ground := Ground.phase }, { on := 3, ground := Ground.phase }, { on := 4, ground := Ground.phase }, { on := 5, ground := Ground.phase }, { on := 6, ground := Ground.phase }, { on := 7, ground := Ground.phase }, { on := 8, ground := Ground.phase }, { on := 9, ground := Ground.phase }, { on := 10, ground := Ground.phase }, { on := 11, ground := Ground.phase }, { on := 12, ground := Ground.phase }, { on := 13, ground := Ground.phase }, { on := 14, ground := Ground.phase }], guard := none }) (v := ?_) rfl (by kernel_rfl) (by kernel_rfl) (by kernel_rfl) (fun _ _ _ h => h) (Or.inl ⟨by rfl, ?_⟩) C3 ?_
                rotate_left
                · intro W' hSw
                  clear hSw
                  go_simp <;> with_reducible rfl
                try simp only [Act.put, List.setIfInBounds_toArray, List.set_cons_zero, List.set_cons_succ]
                refine wpAnyH_done (by kernel_rfl) ?_ _
                refine NoPanic.normal ?_
                exact HREST3.out A10 c10 blk W11 ⟨RF, TF, C3⟩
              · go_simp
                refine hK.out _ _ (C0.alloc C0.size _) (fun C1 => ?_)
                clear hK K
                try simp only [Act.put, List.setIfInBounds_toArray, List.set_cons_zero, List.set_cons_succ]
                have TA : Hid (CRow (W9.drew.alloc (.cells #[.int .i64 0, .int .i64 0, .int .i64 0, .int .i64 0] 29)) W9.heap.size 29 #[.int .i64 0, .int .i64 0, .int .i64 0, .int .i64 0]) := Lib.hid (CRow.new W9.drew #[.int .i64 0, .int .i64 0, .int .i64 0, .int .i64 0] 29)
                refine wpAnyH_ready (rs := [5]) (by kernel_rfl) (by simp) ?_
                refine AllReadyH.cons (o := { dst := some 100, op := Op.call { callee := Callee.value (Operand.func 16), args := #[Operand.tmp 95, Operand.tmp 99], argTypes := #[23, 27] }, type := 44, pos := "law.go:109", after := #[{ on := 0, ground := Ground.data }, { on := 4, ground := Ground.data }], guard := none }) rfl (fun K hK => ?_) AllReadyH.nil
                go_simp
                refine (HDC1.out _ (HRk2.out.below C1)).mono ?_
                intro _ w10 hM
                obtain ⟨A10, c10, rfl, R10, D10⟩ := hM.tag vn HVN.out tk ts tq te rfl
                have hB := D10.out
                clear hM
                go_wp2_with fail
                refine hK.out _ _ (C1.trans (hB.mono C1.size)) (fun C2 => ?_)
                clear hK K hB
                try simp only [Act.put, List.setIfInBounds_toArray, List.set_cons_zero, List.set_cons_succ]
                refine wpAnyH_take (i := 6) (oi := { dst := some 94, op := Op.move (Operand.tmp 100), type := 44, pos := "law.go:109", after := #[{ on := 5, ground := Ground.data }], guard := none }) (v := ?_) rfl (by kernel_rfl) (by kernel_rfl) (by kernel_rfl) (fun _ _ _ h => h) (Or.inl ⟨by rfl, ?_⟩) C2 ?_
                rotate_left
                · intro W' hSw
                  clear hSw
                  go_simp <;> with_reducible rfl
                try simp only [Act.put, List.setIfInBounds_toArray, List.set_cons_zero, List.set_cons_succ]
                refine wpAnyH_take (i := 7) (oi := { dst := some 101, op := Op.extract (Operand.tmp 94) 0, type := 27, pos := "law.go:109", after := #[{ on := 6, ground := Ground.data }], guard := none }) (v := ?_) rfl (by kernel_rfl) (by kernel_rfl) (by kernel_rfl) (fun _ _ _ h => h) (Or.inl ⟨by rfl, ?_⟩) C2 ?_
                rotate_left
                · intro W' hSw
                  clear hSw
                  go_simp <;> with_reducible rfl
                try simp only [Act.put, List.setIfInBounds_toArray, List.set_cons_zero, List.set_cons_succ]
                refine wpAnyH_take (i := 8) (oi := { dst := some 102, op := Op.extract (Operand.tmp 94) 1, type := 29, pos := "law.go:109", after := #[{ on := 6, ground := Ground.data }, { on := 12, ground := Ground.gcOnly Departure.lateStores }], guard := none }) (v := ?_) rfl (by kernel_rfl) (by kernel_rfl) (by kernel_rfl) (fun _ _ _ h => h) (Or.inl ⟨by rfl, ?_⟩) C2 ?_
                rotate_left
                · intro W' hSw
                  clear hSw
                  go_simp <;> with_reducible rfl
                try simp only [Act.put, List.setIfInBounds_toArray, List.set_cons_zero, List.set_cons_succ]
                refine wpAnyH_take (i := 9) (oi := { dst := some 103, op := Op.extract (Operand.tmp 94) 2, type := 3, pos := "law.go:109", after := #[{ on := 6, ground := Ground.data }, { on := 13, ground := Ground.gcOnly Departure.lateStores }], guard := none }) (v := ?_) rfl (by kernel_rfl) (by kernel_rfl) (by kernel_rfl) (fun _ _ _ h => h) (Or.inl ⟨by rfl, ?_⟩) C2 ?_
                rotate_left
                · intro W' hSw
                  clear hSw
                  go_simp <;> with_reducible rfl
                try simp only [Act.put, List.setIfInBounds_toArray, List.set_cons_zero, List.set_cons_succ]
                refine wpAnyH_take (i := 10) (oi := { dst := some 104, op := Op.extract (Operand.tmp 94) 3, type := 32, pos := "law.go:109", after := #[{ on := 6, ground := Ground.data }, { on := 14, ground := Ground.gcOnly Departure.lateStores }], guard := none }) (v := ?_) rfl (by kernel_rfl) (by kernel_rfl) (by kernel_rfl) (fun _ _ _ h => h) (Or.inl ⟨by rfl, ?_⟩) C2 ?_
                rotate_left
                · intro W' hSw
                  clear hSw
                  go_simp <;> with_reducible rfl
                try simp only [Act.put, List.setIfInBounds_toArray, List.set_cons_zero, List.set_cons_succ]
                have RE : Hid (R8 w10 A10 vn vd) := Lib.hid (R10.out)
                have TB := Lib.hid (TA.out.below D10.out)
                refine wpAnyH_take (i := 12) (oi := { dst := some 17, op := Op.assign (Operand.tmp 101), type := 27, pos := "law.go:109", after := #[{ on := 7, ground := Ground.data }, { on := 5, ground := Ground.chain }, { on := 0, ground := Ground.phase }, { on := 1, ground := Ground.phase }, { on := 2, ground := Ground.phase }, { on := 3, ground := Ground.phase }, { on := 4, ground := Ground.phase }, { on := 5, ground := Ground.phase }, { on := 6, ground := Ground.phase }, { on := 7, ground := Ground.phase }, { on := 8, ground := Ground.textOnly Departure.lateStores }, { on := 9, ground := Ground.textOnly Departure.lateStores }, { on := 10, ground := Ground.textOnly Departure.lateStores }, { on := 11, ground := Ground.phase }], guard := none }) (v := ?_) rfl (by kernel_rfl) (by kernel_rfl) (by kernel_rfl) (fun _ _ _ h => h) (Or.inl ⟨by rfl, ?_⟩) C2 ?_
                rotate_left
                · intro W' hSw
                  clear hSw
                  go_simp <;> with_reducible rfl
                try simp only [Act.put, List.setIfInBounds_toArray, List.set_cons_zero, List.set_cons_succ]
                refine wpAnyH_ready (rs := [13]) (by kernel_rfl) (by simp) ?_
                refine AllReadyH.cons (o := { dst := none, op := Op.store 29 (Operand.tmp 18) (Operand.tmp 102), type := 0, pos := "law.go:109", after := #[{ on := 11, ground := Ground.data }, { on := 8, ground := Ground.data }, { on := 12, ground := Ground.chain }, { on := 0, ground := Ground.phase }, { on := 1, ground := Ground.phase }, { on := 2, ground := Ground.phase }, { on := 3, ground := Ground.phase }, { on := 4, ground := Ground.phase }, { on := 5, ground := Ground.phase }, { on := 6, ground := Ground.phase }, { on := 7, ground := Ground.phase }, { on := 8, ground := Ground.phase }, { on := 9, ground := Ground.textOnly Departure.lateStores }, { on := 10, ground := Ground.textOnly Departure.lateStores }, { on := 11, ground := Ground.phase }, { on := 12, ground := Ground.phase }], guard := none }) rfl (fun K hK => ?_) AllReadyH.nil
                rw [if_pos (by rfl)]
                refine wp_store_row 29 _ _ rfl W9.heap.size #[.int .i64 tk, .int .i64 ts, .int .i64 tq, .int .i64 te] (by simp [Act.eval]) rfl 29 _ TB.out size_tag (by simp) (by simp [Value.oneCell']) ?_
                refine hK.out _ _ (below_setRow C2 (Nat.le_refl _) _) (fun C3 => ?_)
                clear hK K
                try simp only [Act.put]
                have RF := Lib.hid (RE.out.setRow TB.out (by simp) #[.int .i64 tk, .int .i64 ts, .int .i64 tq, .int .i64 te])
                have TF := Lib.hid (TB.out.set #[.int .i64 tk, .int .i64 ts, .int .i64 tq, .int .i64 te])
                generalize World.setRow w10 W9.heap.size #[.int .i64 tk, .int .i64 ts, .int .i64 tq, .int .i64 te] = W11 at *
                refine wpAnyH_take (i := 14) (oi := { dst := some 19, op := Op.assign (Operand.tmp 103), type := 3, pos := "law.go:109", after := #[{ on := 9, ground := Ground.data }, { on := 13, ground := Ground.chain }, { on := 0, ground := Ground.phase }, { on := 1, ground := Ground.phase }, { on := 2, ground := Ground.phase }, { on := 3, ground := Ground.phase }, { on := 4, ground := Ground.phase }, { on := 5, ground := Ground.phase }, { on := 6, ground := Ground.phase }, { on := 7, ground := Ground.phase }, { on := 8, ground := Ground.phase }, { on := 9, ground := Ground.phase }, { on := 10, ground := Ground.textOnly Departure.lateStores }, { on := 11, ground := Ground.phase }, { on := 12, ground := Ground.phase }, { on := 13, ground := Ground.phase }], guard := none }) (v := ?_) rfl (by kernel_rfl) (by kernel_rfl) (by kernel_rfl) (fun _ _ _ h => h) (Or.inl ⟨by rfl, ?_⟩) C3 ?_
                rotate_left
                · intro W' hSw
                  clear hSw
                  go_simp <;> with_reducible rfl
                try simp only [Act.put, List.setIfInBounds_toArray, List.set_cons_zero, List.set_cons_succ]
                refine wpAnyH_take (i := 15) (oi := { dst := some 20, op := Op.assign (Operand.tmp 104), type := 32, pos := "law.go:109", after := #[{ on := 10, ground := Ground.data }, { on := 14, ground := Ground.chain }, { on := 0, ground := Ground.phase }, { on := 1, ground := Ground.phase }, { on := 2, ground := Ground.phase }, { on := 3, ground := Ground.phase }, { on := 4, ground := Ground.phase }, { on := 5, ground := Ground.phase }, { on := 6, ground := Ground.phase }, { on := 7, ground := Ground.phase }, { on := 8, ground := Ground.phase }, { on := 9, ground := Ground.phase }, { on := 10, ground := Ground.phase }, { on := 11, ground := Ground.phase }, { on := 12, ground := Ground.phase }, { on := 13, ground := Ground.phase }, { on := 14, ground := Ground.phase }], guard := none }) (v := ?_) rfl (by kernel_rfl) (by kernel_rfl) (by kernel_rfl) (fun _ _ _ h => h) (Or.inl ⟨by rfl, ?_⟩) C3 ?_
                rotate_left
                · intro W' hSw
                  clear hSw
                  go_simp <;> with_reducible rfl
                try simp only [Act.put, List.setIfInBounds_toArray, List.set_cons_zero, List.set_cons_succ]
                refine wpAnyH_done (by kernel_rfl) ?_ _
                refine NoPanic.normal ?_
                exact HREST3.out A10 c10 W9.heap.size W11 ⟨RF, TF, C3⟩
            · intro A10 c10 blk10 W11 ⟨R11, U11, D11⟩
              have B11 := Lib.hid (below_step B9.out D11.out)
              have T11 := Lib.hid (T9a.out.below D11.out)
              have R11a := Lib.hid (R9a.out.below D11.out)
              have z0 := U11.out.cell_at 0 _ rfl
              have z1 := U11.out.cell_at 1 _ rfl
              have z2 := U11.out.cell_at 2 _ rfl
              have z3 := U11.out.cell_at 3 _ rfl
              have y0 := T11.out.cell_at 0 _ rfl
              have y1 := T11.out.cell_at 1 _ rfl
              have y2 := T11.out.cell_at 2 _ rfl
              have y3 := T11.out.cell_at 3 _ rfl
              have y4 := T11.out.cell_at 4 _ rfl
              have y5 := T11.out.cell_at 5 _ rfl
              go_wp2_with fail
              refine (SameP_yes A3 A10 vn c3 c10 vd tk ts tq te vs _ R11a.out R11.out (by omega)).mono ?_
              rintro _ w12 ⟨rfl, h12b⟩
              have B12 := Lib.hid (below_step B11.out h12b)
              clear h12b z0 z1 z2 z3 y0 y1 y2 y3 y4 y5
              go_wp2
              go_ret
              exact ⟨rfl, B12.out⟩
end Go.Proofs.Ytgiihdeilkiphaa
