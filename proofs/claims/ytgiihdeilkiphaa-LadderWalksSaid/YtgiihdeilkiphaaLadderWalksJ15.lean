/-
  Contracts of the laws' Same at two pages of the same contents, and of awake, over the landed code.
-/
import Derived.Test.YtgiihdeilkiphaaLadderWalksJ14
import Derived.Test.YtgiihdeilkiphaaLadderWalksJPageH
import Derived.Test.YtgiihdeilkiphaaLadderWalksJ3
namespace Go.Proofs.Ytgiihdeilkiphaa
open Go.RowKit
set_option maxRecDepth 100000

set_option maxHeartbeats 1000000 in
theorem SameP_yes (A B : Option Addr) (n c d : Nat) (l : List Nat) (tk ts tq te st : Int) (w : World) (ha : R8 w A n l) (hb : R8 w B n l) (hn : n ≤ 1099511627776) :
    Calls Try.prog 11 #[.agg #[.slice A n c, .int .i64 tk, .int .i64 ts, .int .i64 tq, .int .i64 te, .int .i64 st], .agg #[.slice B n d, .int .i64 tk, .int .i64 ts, .int .i64 tq, .int .i64 te, .int .i64 st]] w (Gives (.bool true) w) := by
  have BB := Lib.hid (below_step (below_new w (.cells #[.slice A n c, .int .i64 tk, .int .i64 ts, .int .i64 tq, .int .i64 te, .int .i64 st] 31)) (below_new _ (.cells #[.slice B n d, .int .i64 tk, .int .i64 ts, .int .i64 tq, .int .i64 te, .int .i64 st] 31)))
  have HA := Lib.hid (ha.below BB.out)
  have HB := Lib.hid (hb.below BB.out)
  clear ha hb
  go_enter Try.func11, Try.ntmps11
  go_wp2_with fail
  refine (Same_any A B n c n d l l _ HA.out HB.out hn hn).mono ?_
  rintro _ w1 ⟨rfl, n1, rfl⟩
  rw [decide_eq_true rfl]
  go_wp2
  go_ret
  exact ⟨rfl, below_drewN BB.out n1⟩

theorem raw2 : geo2.raw = ((37 : Nat) : Int) := by decide +kernel
theorem climb_erased : climbL geo2 [List.replicate 37 255] = (([], ⟨0, 0, 0, 0⟩, 2), 0, 0) := by
  have h1 := dec_erased 1 4 37 rfl [] (by simp)
  have h2 : decG geo2 (List.replicate 37 255) = ([], Tg.zero, 2, 0) := by
    unfold decG
    rw [List.length_replicate, okG_mk geo2_ok 1 4 rfl rfl rfl, if_pos rfl]
    exact h1
  have ho : climbOk geo2 [List.replicate 37 255] = true := climbOk_iff.2 ⟨geo2_ok, by simp, by decide, fun l hl => by
    rw [List.mem_singleton.1 hl, List.length_replicate]
    exact raw2.symm⟩
  rw [climbL_at (k := 0) (l := List.replicate 37 255) ho (NoneTo.zero _ _) rfl (by unfold rungE; rw [h2])]
  unfold rungP
  rw [h2]
  rfl
theorem RR.one (w : World) (b n c : Nat) (A : Option Addr) (l : List Nat) (hb : w.cell? ⟨b, 0, none⟩ = some (.slice A n c)) (hlt : b < w.heap.size) (hr : R8 w A n l) (hc : n ≤ c) (hn : A = none → c = 0) : RR w (some ⟨b, 0, none⟩) 1 (fun _ => A) (fun _ => c) [l] := by
  refine ⟨rfl, fun _ => ⟨b, 0, rfl, hlt, fun r l' hl => ?_⟩⟩
  match r with
  | 0 =>
    simp only [List.getElem?_cons_zero, Option.some.injEq] at hl
    subst hl
    exact ⟨by rw [hr.len]; exact hb, by rw [hr.len]; exact hr, by rw [hr.len]; exact hc, hn⟩
  | r + 1 => simp at hl
set_option maxHeartbeats 1000000 in
theorem awake9_any (w : World) : Calls Try.prog 7 #[] w (Gives (.bool true) w) := by
  have HP := Lib.hid plain_any
  have HE := Lib.hid (Erased_any geo2 37 raw2 (by omega))
  have HC := Lib.hid (fun A c PA PC w' h => Climb_any geo2 A 1 c PA PC [List.replicate 37 255] w' h (by omega))
  rw [climb_erased] at HC
  simp only [geo2, Gm.val] at HP HE HC
  go_enter Try.func7, Try.ntmps7
  go_wp2_with fail
  refine (HP.out _).mono ?_
  rintro _ w1 ⟨rfl, h1⟩
  have B1 := Lib.hid h1
  clear h1
  go_wp2_with fail
  refine (HP.out _).mono ?_
  rintro _ w2 ⟨rfl, h2⟩
  have B2 := Lib.hid (below_step B1.out h2)
  clear h2
  go_wp2_with fail
  refine (HE.out _).mono ?_
  intro _ w3 hM
  obtain ⟨A, c, rfl, R3, hc, D3⟩ := hM.at_ (n := 37) (by simp)
  have B3 := Lib.hid (below_step B2.out D3.out)
  have B4 := Lib.hid (below_step B3.out (below_new w3 (.cells #[.slice A 37 c] 27)))
  have R4 : Hid (RR (w3.alloc (.cells #[.slice A 37 c] 27)) (some ⟨w3.heap.size, 0, none⟩) 1 (fun _ => A) (fun _ => c) [List.replicate 37 255]) := Lib.hid (RR.one _ _ 37 c A _ (by simp) (by simp) (R3.out.alloc _) hc (R3.out.some_ (by omega)))
  clear hM D3
  go_wp2_with fail
  refine (HC.out _ _ _ _ _ R4.out).mono ?_
  rintro _ w5 ⟨hU, h5⟩
  obtain ⟨A5, c5, rfl, _⟩ := hU.at_ (n := 0) rfl
  have B5 := Lib.hid (below_step B4.out h5)
  have T5 := Lib.hid (CRow.new w5 #[.slice none 0 0, .int .i64 0, .int .i64 0, .int .i64 0, .int .i64 0, .int .i64 0] 31)
  have B6 := Lib.hid (below_setRow (below_step B5.out (below_new w5 (.cells #[.slice none 0 0, .int .i64 0, .int .i64 0, .int .i64 0, .int .i64 0, .int .i64 0] 31))) B5.out.size #[.slice A5 0 c5, .int .i64 0, .int .i64 0, .int .i64 0, .int .i64 0, .int .i64 2])
  have T6 := Lib.hid (T5.out.set #[.slice A5 0 c5, .int .i64 0, .int .i64 0, .int .i64 0, .int .i64 0, .int .i64 2])
  have z5 := T6.out.cell_at 5 _ rfl
  clear hU h5
  go_wp2_with (with_reducible refine (?_ : wpList _ _ _ ({ dst := _, op := Op.store 31 _ _, type := _, pos := _, after := _, guard := _ } :: _) _ _); refine wpList_store_at rfl 31 _ _ rfl 6 size_page _ w5.heap.size ?hx rfl _ T5.out.row ?hn ?ho ?h1 ?_; (case hx => simp [Act.eval]); (case hn => simp); (case ho => simp); (case h1 => simp [Value.oneCell']))
  go_ret
  exact ⟨rfl, B6.out⟩
/-- A page that is climbed to has 8224 bytes at most. -/
theorem climbL_len (g : Gm) (ls : List (List Nat)) (hb : ∀ l ∈ ls, ∀ x ∈ l, x < 256) : (climbL g ls).1.1.length ≤ 8224 := by
  rcases climbL_cases g ls with ⟨_, h⟩ | ⟨_, _, h⟩ | ⟨k, l, _, _, hl, _, _, h⟩
  · rw [h]; simp [noPage]
  · rw [h]; simp [noPage]
  · rw [h]
    exact decG_len g l (hb l (List.mem_of_getElem? hl))
end Go.Proofs.Ytgiihdeilkiphaa

/-
  The walk of the law LadderWalks over the landed code, out of its callees' contracts: for whatever geometry, rungs and number it returns true, and nothing that was there has turned.
-/
namespace Go.Proofs.Ytgiihdeilkiphaa
open Go.RowKit
set_option maxRecDepth 100000

/-- The law's own state ahead of rung i: no rung has counted yet; or one has, or an error came. -/
def StW (N : Nat) (V : (List Nat × Tg × Nat) × Nat × Int) (M : Nat) (ul : Nat → Nat → (List Nat × Tg × Nat) × Nat × Int) (un : Nat → Nat → Nat) (i lv av : Nat) (wv : Int) (vd : List Nat) (tk ts tq te : Int) (vs : Nat) : Prop :=
  (wv = 30 ∧ av = 0 ∧ lv = i ∧ vd = [] ∧ tk = 0 ∧ ts = 0 ∧ tq = 0 ∧ te = 0 ∧ vs = 0 ∧ V = ul (N - i) i ∧ M = un (N - i) i) ∨ (wv ≠ 30 ∧ V = ((vd, ⟨tk, ts, tq, te⟩, vs), av, wv) ∧ M = lv)

set_option maxHeartbeats 8000000 in
theorem LadderWalks_walk (g : Gm) (A : Option Addr) (n c : Nat) (PA : Nat → Option Addr) (PC : Nat → Nat) (ls : List (List Nat)) (bad : Nat) (w : World) (hr : RR w A n PA PC ls) (hn : n ≤ 9223372036854775807) (hbad : bad < 256) :
    Calls Try.prog 4 #[g.val, .slice A n c, .int .u8 (bad : Int)] w (Gives (.bool true) w) := by
  have HR := Lib.hid hr
  have HLT := Lib.hid (fun l hl => hr.lt (l := l) hl)
  have HFW := Lib.hid (fun w' h => few_any g A n c PA PC ls w' h hn)
  have HW := Lib.hid (fun p0 p1 p2 p3 Y I w' => Walk_W g p0 p1 p2 p3 Y (rdW n bad ls) I w')
  have HRt := Lib.hid (RefRight_any g)
  have HDC := Lib.hid (fun A n c hc l w' h => RefPageDec_any g A n c hc l w' h)
  have HDL := Lib.hid (fun l h => decG_len g l h)
  have HRE := Lib.hid (show ∀ l, rungE g l = (decG g l).2.2.2 ∧ rungP g l = ((decG g l).1, (decG g l).2.1, (decG g l).2.2.1) from fun l => ⟨rfl, rfl⟩)
  have HTWO := Lib.hid (show g.ok = true → ∀ l, (∀ x ∈ l, x < 256) → ((decG g l).2.2.2 = 2 → (l.length : Int) ≠ g.raw) ∧ ((decG g l).2.2.2 ≠ 2 → (l.length : Int) = g.raw) from fun ho l hb => by
    have hk : okG g l.length = decide ((l.length : Int) = g.raw) := by unfold okG; rw [ho]; rfl
    refine ⟨fun h1 h2 => decG_two (by rw [hk]; exact decide_eq_true h2) hb h1, fun h1 => ?_⟩
    rcases Decidable.em ((l.length : Int) = g.raw) with h2 | h2
    · exact h2
    · exfalso
      apply h1
      unfold decG
      rw [hk, decide_eq_false h2]
      rfl)
  have HRK := Lib.hid (Gm.bounds_of (g := g))
  have HVL := Lib.hid (show (if g.ok then upL g (rdW n bad ls) g.r.toNat 0 else noPage 2).1.1.length ≤ 8224 from up_len_le g (rdW n bad ls) _ (fun k l er h x hx => by
    unfold rdW at h
    split at h
    · simp only [Prod.mk.injEq] at h
      rw [← h.1] at hx
      cases hx
    · simp only [Prod.mk.injEq] at h
      rw [← h.1] at hx
      by_cases hk : k < ls.length
      · rw [List.getD, List.getElem?_eq_getElem hk] at hx
        exact hr.lt (List.getElem_mem hk) x hx
      · rw [List.getD, List.getElem?_eq_none (by omega)] at hx
        cases hx))
  have HU := Lib.hid (show ∀ N k l er, k < N → rdW n bad ls k = (l, er) → er ≠ 0 → upL g (rdW n bad ls) (N - k) k = noPage er ∧ upN g (rdW n bad ls) (N - k) k = k + 1 from fun N k l er hk h he => by
    rw [show N - k = (N - (k + 1)) + 1 by omega]; exact up_err h he)
  have HUL := Lib.hid (show ∀ N k l, k < N → rdW n bad ls k = (l, 0) → (l.length : Int) ≠ g.raw → upL g (rdW n bad ls) (N - k) k = noPage 2 ∧ upN g (rdW n bad ls) (N - k) k = k + 1 from fun N k l hk h hl => by
    rw [show N - k = (N - (k + 1)) + 1 by omega]; exact up_len h hl)
  have HUA := Lib.hid (show ∀ N k l, k < N → rdW n bad ls k = (l, 0) → (l.length : Int) = g.raw → rungE g l = 0 → upL g (rdW n bad ls) (N - k) k = (rungP g l, k, 0) ∧ upN g (rdW n bad ls) (N - k) k = k + 1 from fun N k l hk h hl he => by
    rw [show N - k = (N - (k + 1)) + 1 by omega]; exact up_at h hl he)
  have HUN := Lib.hid (show ∀ N k l, k < N → rdW n bad ls k = (l, 0) → (l.length : Int) = g.raw → rungE g l ≠ 0 → upL g (rdW n bad ls) (N - k) k = upL g (rdW n bad ls) (N - (k + 1)) (k + 1) ∧ upN g (rdW n bad ls) (N - k) k = upN g (rdW n bad ls) (N - (k + 1)) (k + 1) from fun N k l hk h hl he => by
    rw [show N - k = (N - (k + 1)) + 1 by omega]; exact up_next h hl he)
  have HU0 := Lib.hid (show ∀ k, upL g (rdW n bad ls) 0 k = noPage 30 ∧ upN g (rdW n bad ls) 0 k = k from fun k => ⟨rfl, rfl⟩)
  have HR1 := Lib.hid (show ∀ k, n ≤ k ∨ k = bad → rdW n bad ls k = ([], 20) from fun k h => by unfold rdW; rw [if_pos h])
  have HR2 := Lib.hid (show ∀ k l, ¬ (n ≤ k ∨ k = bad) → ls[k]? = some l → rdW n bad ls k = (l, 0) from fun k l h hl => by unfold rdW; rw [if_neg h]; simp [List.getD, hl])
  have HW1 := Lib.hid (fun x4 x5 k w2 W h0 h1 h2 h3 h4 => walk1_any A n c PA PC ls bad x4 x5 k w2 W h0 h1 h2 h3 hbad h4)
  obtain ⟨ok, HO⟩ : ∃ ok, Hid (g.ok = ok) := ⟨_, rfl⟩
  rw [HO.out] at HW HRt HTWO HRK HVL
  generalize hgr : g.raw = gr at *
  generalize hul : upL g (rdW n bad ls) = ul at *
  generalize hun : upN g (rdW n bad ls) = un at *
  generalize hrd : rdW n bad ls = rd at *
  generalize hre : rungE g = re at *
  generalize hrp : rungP g = rp at *
  generalize hdec : decG g = dec at *
  clear hr hgr hul hun hrd hre hrp hdec HO
  obtain ⟨p, b, s, gc, kk, r, q⟩ := g
  simp only [Gm.val] at HFW HW HRt HDC HRK HVL ⊢
  obtain ⟨⟨⟨vd, ⟨tk, ts, tq, te⟩, vs⟩, rung, er⟩, HX⟩ : ∃ z, Hid ((if ok then ul r.toNat 0 else noPage 2) = z) := ⟨_, rfl⟩
  obtain ⟨M, HM⟩ : ∃ z, Hid ((if ok then un r.toNat 0 else 0) = z) := ⟨_, rfl⟩
  have hvl := HVL.out
  rw [HX.out] at HW hvl
  rw [HM.out] at HW
  simp only at hvl
  obtain ⟨vn, HVN⟩ : ∃ vn, Hid (vd.length = vn) := ⟨_, rfl⟩
  rw [HVN.out] at hvl
  clear HVL
  have W0 : ∃ w0, Hid (w0 = ((w.alloc (.cells #[.int .i64 p, .int .i64 b, .int .i64 s, .int .i64 gc, .int .i64 kk, .int .i64 r, .int .i64 q] 23)).alloc (.cells #[.slice A n c] 24)).alloc (.cells #[.int .u8 (bad : Int)] 5)) := ⟨_, rfl⟩
  obtain ⟨w0, HW0⟩ := W0
  have Y0 : Hid (GBox w0 w.heap.size ⟨p, b, s, gc, kk, r, q⟩) := Lib.hid (by rw [HW0.out]; exact ((GBox.new w ⟨p, b, s, gc, kk, r, q⟩ 23).below (below_new _ _)).below (below_new _ _))
  have X0 : Hid (CRow w0 (w.heap.size + 1) 24 #[.slice A n c]) := Lib.hid (by rw [HW0.out]; exact (show CRow ((w.alloc (.cells #[.int .i64 p, .int .i64 b, .int .i64 s, .int .i64 gc, .int .i64 kk, .int .i64 r, .int .i64 q] 23)).alloc (.cells #[.slice A n c] 24)) (w.heap.size + 1) 24 #[.slice A n c] by simpa using CRow.new (w.alloc (.cells #[.int .i64 p, .int .i64 b, .int .i64 s, .int .i64 gc, .int .i64 kk, .int .i64 r, .int .i64 q] 23)) #[.slice A n c] 24).alloc _)
  have Z0 : Hid (CRow w0 (w.heap.size + 2) 5 #[.int .u8 (bad : Int)]) := Lib.hid (by rw [HW0.out]; simpa using CRow.new ((w.alloc (.cells #[.int .i64 p, .int .i64 b, .int .i64 s, .int .i64 gc, .int .i64 kk, .int .i64 r, .int .i64 q] 23)).alloc (.cells #[.slice A n c] 24)) #[.int .u8 (bad : Int)] 5)
  have B0 : Hid (Below w.heap.size w w0) := Lib.hid (by rw [HW0.out]; exact below_step (below_step (below_new w _) (below_new _ _)) (below_new _ _))
  go_enter Try.func4, Try.ntmps4
  go_wp2_with fail
  rw [← HW0.out]
  refine (awake9_any _).mono ?_
  rintro _ w1 ⟨rfl, h1⟩
  have B1 := Lib.hid (below_step B0.out h1)
  have Y1 := Lib.hid (Y0.out.below h1)
  have X1 := Lib.hid (X0.out.below h1)
  have Z1 := Lib.hid (Z0.out.below h1)
  clear h1 B0 Y0 X0 Z0 HW0
  obtain ⟨hltG, g0, g1, g2, g3, g4, g5, g6⟩ := Y1.out
  simp only at g0 g1 g2 g3 g4 g5 g6
  have c4 := X1.out.cell_at 0 _ rfl
  go_wp2_with fail
  refine (HFW.out _ (HR.out.below B1.out)).mono ?_
  rintro _ w2 ⟨v, rfl, hv, h2⟩
  have B2 := Lib.hid (below_step B1.out h2)
  have Y2 := Lib.hid (Y1.out.below h2)
  have X2 := Lib.hid (X1.out.below h2)
  have Z2 := Lib.hid (Z1.out.below h2)
  clear h2 c4 hltG g0 g1 g2 g3 g4 g5 g6
  cases v
  · go_wp2
    go_ret
    exact ⟨rfl, B2.out⟩
  · have h12 := hv rfl
    have RR2 := Lib.hid (HR.out.below B2.out)
    have D3 := Lib.hid (below_step (below_new w2 (.cells #[.int .i64 0] 3)) (below_new _ (.cells #[.bool true] 4)))
    have I3 : Hid (IW w2 0 ((w2.alloc (.cells #[.int .i64 0] 3)).alloc (.cells #[.bool true] 4))) := Lib.hid ⟨D3.out, (CRow.new w2 #[.int .i64 0] 3).alloc _, by simpa using CRow.new (w2.alloc (.cells #[.int .i64 0] 3)) #[.bool true] 4⟩
    have hs3 : w2.heap.size + 2 ≤ ((w2.alloc (.cells #[.int .i64 0] 3)).alloc (.cells #[.bool true] 4)).heap.size := by simp
    have HS3 := Lib.hid hs3
    have Y3 := Lib.hid (Y2.out.below D3.out)
    clear hs3
    obtain ⟨hltG, g0, g1, g2, g3, g4, g5, g6⟩ := Y3.out
    simp only at g0 g1 g2 g3 g4 g5 g6
    have hfn := fun W : World => (fun fn first cap (W' : World) => (rfl : (Instr.makeFunc fn first cap).run Try.prog W' = .ok (.func fn first cap) W'))
    go_wp2_with fail
    generalize (w2.alloc (.cells #[.int .i64 0] 3)).alloc (.cells #[.bool true] 4) = w3 at *
    refine (HW.out _ _ _ _ (YW w2) (IW w2) w3 (fun k W W' h h2 => h.below h2 HS3.out) (fun k h => by have := HS3.out; rcases h with h | h <;> omega) (fun k W hk h _ => HW1.out (w.heap.size + 1) (w.heap.size + 2) k w2 W RR2.out X2.out Z2.out (by omega) h) I3.out).mono ?_
    rintro e w4 ⟨hU, hS, hI⟩
    obtain ⟨A3, c3, rfl, R4⟩ := hU.at_ HVN.out
    have I4 := Lib.hid hI
    have IWL4 := Lib.hid (show w2.heap.size + 2 ≤ w4.heap.size from hI.2.2.lt)
    have B4 := Lib.hid (below_step B2.out I4.out.1)
    have Y4 := Lib.hid (Y2.out.below I4.out.1)
    have X4 := Lib.hid (X2.out.below I4.out.1)
    have Z4 := Lib.hid (Z2.out.below I4.out.1)
    clear hU hS hI D3 I3 Y3 HS3 HW HW1 hfn hltG g0 g1 g2 g3 g4 g5 g6
    have U4 := Lib.hid (CRow.new w4 #[.slice none 0 0, .int .i64 0, .int .i64 0, .int .i64 0, .int .i64 0, .int .i64 0] 31)
    have D5 := Lib.hid (below_setRow (below_new w4 (.cells #[.slice none 0 0, .int .i64 0, .int .i64 0, .int .i64 0, .int .i64 0, .int .i64 0] 31)) (Nat.le_refl _) #[.slice A3 vn c3, .int .i64 tk, .int .i64 ts, .int .i64 tq, .int .i64 te, .int .i64 (vs : Int)])
    have T5 := Lib.hid (U4.out.set #[.slice A3 vn c3, .int .i64 tk, .int .i64 ts, .int .i64 tq, .int .i64 te, .int .i64 (vs : Int)])
    have B5 := Lib.hid (below_step B4.out D5.out)
    have Y5 := Lib.hid (Y4.out.below D5.out)
    have X5 := Lib.hid (X4.out.below D5.out)
    have Z5 := Lib.hid (Z4.out.below D5.out)
    have R5 := Lib.hid (R4.out.below D5.out)
    have I5 := Lib.hid (I4.out.below D5.out IWL4.out)
    obtain ⟨hltG, g0, g1, g2, g3, g4, g5, g6⟩ := Y5.out
    simp only at g0 g1 g2 g3 g4 g5 g6
    go_wp2_with (with_reducible refine (?_ : wpList _ _ _ ({ dst := _, op := Op.store 31 _ _, type := _, pos := _, after := _, guard := _ } :: _) _ _); refine wpList_store_at rfl 31 _ _ rfl 6 size_page _ w4.heap.size ?hx rfl _ U4.out.row ?hn ?ho ?h1 ?_; (case hx => simp [Act.eval]); (case hn => simp); (case ho => simp); (case h1 => simp [Value.oneCell']))
    generalize (w4.alloc (.cells #[.slice none 0 0, .int .i64 0, .int .i64 0, .int .i64 0, .int .i64 0, .int .i64 0] 31)).setRow w4.heap.size #[.slice A3 vn c3, .int .i64 tk, .int .i64 ts, .int .i64 tq, .int .i64 te, .int .i64 (vs : Int)] = w5 at *
    refine (HRt.out _).mono ?_
    rintro _ w6 ⟨rfl, h6⟩
    have B6 := Lib.hid (below_step B5.out h6)
    have Y6 := Lib.hid (Y5.out.below h6)
    have X6 := Lib.hid (X5.out.below h6)
    have Z6 := Lib.hid (Z5.out.below h6)
    have T6 := Lib.hid (T5.out.below h6)
    have R6 := Lib.hid (R5.out.below h6)
    have IWL5 := Lib.hid (show w2.heap.size + 2 ≤ w5.heap.size from I5.out.2.2.lt)
    have IW6 := Lib.hid (I5.out.below h6 IWL5.out)
    have RR6 := Lib.hid (RR2.out.below IW6.out.1)
    have IWL := Lib.hid (show w2.heap.size + 2 ≤ w6.heap.size from IW6.out.2.2.lt)
    clear h6 D5 U4 B5 Y5 X5 Z5 T5 R5 I5 B4 Y4 X4 Z4 R4 I4 IWL4 IWL5 hltG g0 g1 g2 g3 g4 g5 g6
    cases ok
    · have e1 := HX.out
      have e2 := HM.out
      simp only [Bool.false_eq_true, if_false, noPage, Tg.zero, Prod.mk.injEq, Tg.mk.injEq] at e1 e2
      obtain ⟨⟨rfl, ⟨rfl, rfl, rfl, rfl⟩, rfl⟩, rfl, rfl⟩ := e1
      subst e2
      obtain rfl : vn = 0 := HVN.out.symm
      have c7 := IW6.out.2.1.cell_at 0 _ rfl
      have x0 := T6.out.cell_at 0 _ rfl
      have x1 := T6.out.cell_at 1 _ rfl
      have x2 := T6.out.cell_at 2 _ rfl
      have x3 := T6.out.cell_at 3 _ rfl
      have x4 := T6.out.cell_at 4 _ rfl
      have x5 := T6.out.cell_at 5 _ rfl
      go_wp2_with fail
      refine (SameP_yes A3 none 0 c3 0 [] 0 0 0 0 0 _ R6.out ⟨Rd.nil_, fun x hx => by cases hx⟩ (by omega)).mono ?_
      rintro _ w9 ⟨rfl, h9⟩
      have B9 := Lib.hid (below_step B6.out h9)
      clear h9 c7 x0 x1 x2 x3 x4 x5
      go_wp2
      go_ret
      exact ⟨rfl, B9.out⟩
    · have hbd := HRK.out rfl
      try simp only at hbd
      obtain ⟨N, hN⟩ := Int.eq_ofNat_of_zero_le (show 0 ≤ r by omega)
      subst hN
      have hN8 : N ≤ 8 := by omega
      have e1 := HX.out
      have e2 := HM.out
      try simp only [if_true, Int.toNat_natCast] at e1
      try simp only [if_true, Int.toNat_natCast] at e2
      obtain ⟨V, HV⟩ : ∃ V, Hid (ul N 0 = V) := ⟨_, rfl⟩
      rw [HV.out] at e1
      clear HX HM hbd HRK HRt HFW
      have HX := Lib.hid e1
      have HM := Lib.hid e2
      clear e1 e2
      have HTW := Lib.hid (HTWO.out rfl)
      clear HTWO
      have U6 := Lib.hid (CRow.new w6 #[.slice none 0 0, .int .i64 0, .int .i64 0, .int .i64 0, .int .i64 0, .int .i64 0] 31)
      have D7 := Lib.hid (below_new w6 (.cells #[.slice none 0 0, .int .i64 0, .int .i64 0, .int .i64 0, .int .i64 0, .int .i64 0] 31))
      go_wp2
      generalize w6.alloc (.cells #[.slice none 0 0, .int .i64 0, .int .i64 0, .int .i64 0, .int .i64 0, .int .i64 0] 31) = w7 at *
      go_loopw [12, 13, 14, 16] (fun s12 s13 s14 s16 wr => ∃ (i lv av : Nat) (wv : Int) (A8 : Option Addr) (c8 vn8 : Nat) (vd8 : List Nat) (tk8 ts8 tq8 te8 : Int) (vs8 : Nat), i ≤ N ∧ s12 = .int .i64 wv ∧ s13 = .int .i64 (av : Int) ∧ s14 = .int .i64 (lv : Int) ∧ s16 = .int .i64 (i : Int) ∧
        Hid (StW N V M ul un i lv av wv vd8 tk8 ts8 tq8 te8 vs8) ∧ Hid (Below w6.heap.size w6 wr) ∧ Hid (CRow wr w6.heap.size 31 #[.slice A8 vn8 c8, .int .i64 tk8, .int .i64 ts8, .int .i64 tq8, .int .i64 te8, .int .i64 (vs8 : Int)]) ∧ Hid (vd8.length = vn8) ∧ Hid (R8 wr A8 vn8 vd8)) (fun _ _ _ i _ => N - (intOf i).toNat)
      case atStart => exact ⟨0, 0, 0, 30, none, 0, 0, [], 0, 0, 0, 0, 0, Nat.zero_le _, rfl, rfl, rfl, rfl, .inl ⟨rfl, rfl, rfl, rfl, rfl, rfl, rfl, rfl, rfl, HV.out.symm, HM.out.symm⟩, D7.out, U6.out, rfl, Rd.nil_, fun x hx => by cases hx⟩
      case round =>
        obtain ⟨i, lv, av, wv, A8, c8, vn8, vd8, tk8, ts8, tq8, te8, vs8, hi, rfl, rfl, rfl, rfl, HSt, HB, HT, HVN8, HR8⟩ := hrel
        have Yr := Lib.hid (Y6.out.below HB.out)
        have Xr := Lib.hid (X6.out.below HB.out)
        have Zr := Lib.hid (Z6.out.below HB.out)
        by_cases hlt : i < N
        · rcases HSt.out with ⟨rfl, rfl, rfl, rfl, rfl, rfl, rfl, rfl, rfl, hVe, hMe⟩ | ⟨hw3, hVe, hMe⟩
          · have HVe := Lib.hid hVe
            have HMe := Lib.hid hMe
            clear hVe hMe HSt
            have c5 := Zr.out.cell_at 0 _ rfl
            have c4 := Xr.out.cell_at 0 _ rfl
            obtain ⟨hltG, _, _, _, _, _, g5, _⟩ := Yr.out
            simp only at g5
            by_cases hge : n ≤ lv
            · have hd : decide (n ≤ lv) = true := decide_eq_true hge
              have HE := Lib.hid (HU.out N lv [] 20 hlt (HR1.out lv (.inl hge)) (by decide))
              have HS2 : Hid (StW N V M ul un (lv + 1) (lv + 1) 0 20 [] 0 0 0 0 0) := Lib.hid (.inr ⟨by decide, by rw [HVe.out, HE.out.1]; rfl, by rw [HMe.out, HE.out.2]⟩)
              clear hge HE
              go_wp2
              go_roundw
              case rel => exact ⟨lv + 1, lv + 1, 0, 20, A8, c8, vn8, [], 0, 0, 0, 0, 0, by omega, rfl, rfl, by go_num, by go_num, HS2, HB, HT, HVN8, HR8⟩
              case measure => simp [intOf]; omega
            · have hd : decide (n ≤ lv) = false := decide_eq_false hge
              by_cases hkb : lv = bad
              · have HE := Lib.hid (HU.out N lv [] 20 hlt (HR1.out lv (.inr hkb)) (by decide))
                have HS2 : Hid (StW N V M ul un (lv + 1) (lv + 1) 0 20 [] 0 0 0 0 0) := Lib.hid (.inr ⟨by decide, by rw [HVe.out, HE.out.1]; rfl, by rw [HMe.out, HE.out.2]⟩)
                have hkb2 : ((lv : Int) == (bad : Int)) = true := by simp; omega
                clear hge HE hkb
                go_wp2
                go_roundw
                case rel => exact ⟨lv + 1, lv + 1, 0, 20, A8, c8, vn8, [], 0, 0, 0, 0, 0, by omega, rfl, rfl, by go_num, by go_num, HS2, HB, HT, HVN8, HR8⟩
                case measure => simp [intOf]; omega
              · have hkb2 : ((lv : Int) == (bad : Int)) = false := by simp; omega
                have hln : lv < n := by omega
                obtain ⟨b1, o1, l, m1, rfl, hb1, HLk, HLm, hcl, HRk, hmc, _⟩ := ((RR6.out).below HB.out).at_ (k := lv) (by omega)
                have HRD := Lib.hid (HR2.out lv l (by omega) HLk.out)
                have HLB := Lib.hid (HLT.out l (List.mem_of_getElem? HLk.out))
                have hre := HRE.out l
                have htw := HTW.out l HLB.out
                have hul := HDL.out l HLB.out
                have hdc := fun w' h => HDC.out (PA lv) m1 (PC lv) hmc l w' h
                obtain ⟨⟨ud, ⟨uk, us, uq, ue⟩, us1, ue1⟩, HD⟩ : ∃ z, Hid (dec l = z) := ⟨_, rfl⟩
                rw [HD.out] at hre hdc htw hul
                simp only at hre hdc htw hul
                obtain ⟨un1, HUN1⟩ : ∃ un1, Hid (ud.length = un1) := ⟨_, rfl⟩
                rw [HUN1.out] at hul
                have HRE2 := Lib.hid hre
                have HTW2 := Lib.hid htw
                have HDC2 := Lib.hid hdc
                generalize PA lv = A1 at *
                generalize PC lv = C1 at *
                have HCL := Lib.hid hcl
                clear hre htw hdc hcl hge hkb
                go_wp2
                apply cut_awb (F := fun A5 c5 blk W => Hid (R8 W A5 un1 ud) ∧ Hid (CRow W blk 29 #[.int .i64 uk, .int .i64 us, .int .i64 uq, .int .i64 ue]) ∧ Hid (Below wr.heap.size wr W))
                · intro HREST
                  obtain ⟨hltG2, q0, q1, q2, q3, q4, q5, q6⟩ := Yr.out
                  simp only at q0 q1 q2 q3 q4 q5 q6
                  have hcl := HCL.out
                  have hX4 := Xr.out.lt
                  refine wp_region_noPanic ?_
                  refine wp_region_held_drew (S := fun w' => Below wr.heap.size wr w') (by kernel_rfl) ((Below.refl _ _).drew) (fun C0 => ?_)
                  refine wpAnyH_take (i := 0) (oi := { dst := some 75, op := Op.load 23 (Operand.tmp 3), type := 23, pos := "law.go:81", after := #[], guard := none }) (v := ?_) rfl (by kernel_rfl) (by kernel_rfl) (by kernel_rfl) (fun _ _ _ h => h) (Or.inl ⟨by rfl, ?_⟩) C0 ?_
                  rotate_left
                  · intro W' hSw
                    have r0 := (hSw.cell (p := ⟨w.heap.size, 0, none⟩) hltG2).trans q0
                    have r1 := (hSw.cell (p := ⟨w.heap.size, 1, none⟩) hltG2).trans q1
                    have r2 := (hSw.cell (p := ⟨w.heap.size, 2, none⟩) hltG2).trans q2
                    have r3 := (hSw.cell (p := ⟨w.heap.size, 3, none⟩) hltG2).trans q3
                    have r4 := (hSw.cell (p := ⟨w.heap.size, 4, none⟩) hltG2).trans q4
                    have r5 := (hSw.cell (p := ⟨w.heap.size, 5, none⟩) hltG2).trans q5
                    have r6 := (hSw.cell (p := ⟨w.heap.size, 6, none⟩) hltG2).trans q6
                    clear hSw
                    go_simp <;> with_reducible rfl
                  try simp only [Act.put, List.setIfInBounds_toArray, List.set_cons_zero, List.set_cons_succ]
                  refine wpAnyH_take (i := 1) (oi := { dst := some 76, op := Op.load 24 (Operand.tmp 4), type := 24, pos := "law.go:81", after := #[], guard := none }) (v := ?_) rfl (by kernel_rfl) (by kernel_rfl) (by kernel_rfl) (fun _ _ _ h => h) (Or.inl ⟨by rfl, ?_⟩) C0 ?_
                  rotate_left
                  · intro W' hSw
                    have r4c := (hSw.cell (p := ⟨w.heap.size + 1, 0, none⟩) hX4).trans c4
                    clear hSw
                    go_simp <;> with_reducible rfl
                  try simp only [Act.put, List.setIfInBounds_toArray, List.set_cons_zero, List.set_cons_succ]
                  refine wpAnyH_take (i := 2) (oi := { dst := some 77, op := Op.move (Operand.tmp 16), type := 3, pos := "law.go:81", after := #[], guard := none }) (v := ?_) rfl (by kernel_rfl) (by kernel_rfl) (by kernel_rfl) (fun _ _ _ h => h) (Or.inl ⟨by rfl, ?_⟩) C0 ?_
                  rotate_left
                  · intro W' hSw
                    clear hSw
                    go_simp <;> with_reducible rfl
                  try simp only [Act.put, List.setIfInBounds_toArray, List.set_cons_zero, List.set_cons_succ]
                  refine wpAnyH_take (i := 3) (oi := { dst := some 78, op := Op.indexAddr 24 (Operand.tmp 76) (Operand.tmp 77), type := 0, pos := "law.go:81", after := #[{ on := 1, ground := Ground.data }, { on := 2, ground := Ground.data }], guard := none }) (v := ?_) rfl (by kernel_rfl) (by kernel_rfl) (by kernel_rfl) (fun _ _ _ h => h) (Or.inl ⟨by rfl, ?_⟩) C0 ?_
                  rotate_left
                  · intro W' hSw
                    clear hSw
                    go_simp <;> with_reducible rfl
                  try simp only [Act.put, List.setIfInBounds_toArray, List.set_cons_zero, List.set_cons_succ]
                  refine wpAnyH_take (i := 4) (oi := { dst := some 79, op := Op.load 27 (Operand.tmp 78), type := 27, pos := "law.go:81", after := #[{ on := 3, ground := Ground.data }], guard := none }) (v := ?_) rfl (by kernel_rfl) (by kernel_rfl) (by kernel_rfl) (fun _ _ _ h => h) (Or.inl ⟨by rfl, ?_⟩) C0 ?_
                  rotate_left
                  · intro W' hSw
                    have rcl := (hSw.cell (p := ⟨b1, o1 + lv, none⟩) hb1).trans hcl
                    clear hSw
                    go_simp <;> with_reducible rfl
                  try simp only [Act.put, List.setIfInBounds_toArray, List.set_cons_zero, List.set_cons_succ]
                  refine wpAnyH_ready (rs := [5, 11]) (by kernel_rfl) (by simp) ?_
                  refine (AllReadyH.cons (o := { dst := some 80, op := Op.call { callee := Callee.value (Operand.func 15), args := #[Operand.tmp 75, Operand.tmp 79], argTypes := #[23, 27] }, type := 41, pos := "law.go:81", after := #[{ on := 0, ground := Ground.data }, { on := 4, ground := Ground.data }], guard := none }) rfl (fun K hK => ?_) (AllReadyH.cons (o := { dst := some 18, op := Op.alloc 29, type := 0, pos := "law.go:81", after := #[], guard := none }) rfl (fun K hK => ?_) AllReadyH.nil))
                  · go_simp
                    refine (HDC2.out _ (HRk.out.below C0)).mono ?_
                    intro _ w8 hM
                    obtain ⟨A5, c5, rfl, R8w, D8⟩ := hM.tag un1 HUN1.out uk us uq ue rfl
                    have hB := D8.out
                    clear hM
                    go_wp2_with fail
                    refine hK.out _ _ (C0.trans (hB.mono C0.size)) (fun C1 => ?_)
                    clear hK K hB
                    try simp only [Act.put, List.setIfInBounds_toArray, List.set_cons_zero, List.set_cons_succ]
                    refine wpAnyH_take (i := 6) (oi := { dst := some 74, op := Op.move (Operand.tmp 80), type := 41, pos := "law.go:81", after := #[{ on := 5, ground := Ground.data }], guard := none }) (v := ?_) rfl (by kernel_rfl) (by kernel_rfl) (by kernel_rfl) (fun _ _ _ h => h) (Or.inl ⟨by rfl, ?_⟩) C1 ?_
                    rotate_left
                    · intro W' hSw
                      clear hSw
                      go_simp <;> with_reducible rfl
                    try simp only [Act.put, List.setIfInBounds_toArray, List.set_cons_zero, List.set_cons_succ]
                    refine wpAnyH_take (i := 7) (oi := { dst := some 81, op := Op.extract (Operand.tmp 74) 0, type := 27, pos := "law.go:81", after := #[{ on := 6, ground := Ground.data }], guard := none }) (v := ?_) rfl (by kernel_rfl) (by kernel_rfl) (by kernel_rfl) (fun _ _ _ h => h) (Or.inl ⟨by rfl, ?_⟩) C1 ?_
                    rotate_left
                    · intro W' hSw
                      clear hSw
                      go_simp <;> with_reducible rfl
                    try simp only [Act.put, List.setIfInBounds_toArray, List.set_cons_zero, List.set_cons_succ]
                    refine wpAnyH_take (i := 8) (oi := { dst := some 82, op := Op.extract (Operand.tmp 74) 1, type := 29, pos := "law.go:81", after := #[{ on := 6, ground := Ground.data }, { on := 12, ground := Ground.gcOnly Departure.lateStores }], guard := none }) (v := ?_) rfl (by kernel_rfl) (by kernel_rfl) (by kernel_rfl) (fun _ _ _ h => h) (Or.inl ⟨by rfl, ?_⟩) C1 ?_
                    rotate_left
                    · intro W' hSw
                      clear hSw
                      go_simp <;> with_reducible rfl
                    try simp only [Act.put, List.setIfInBounds_toArray, List.set_cons_zero, List.set_cons_succ]
                    refine wpAnyH_take (i := 9) (oi := { dst := some 83, op := Op.extract (Operand.tmp 74) 2, type := 3, pos := "law.go:81", after := #[{ on := 6, ground := Ground.data }, { on := 13, ground := Ground.gcOnly Departure.lateStores }], guard := none }) (v := ?_) rfl (by kernel_rfl) (by kernel_rfl) (by kernel_rfl) (fun _ _ _ h => h) (Or.inl ⟨by rfl, ?_⟩) C1 ?_
                    rotate_left
                    · intro W' hSw
                      clear hSw
                      go_simp <;> with_reducible rfl
                    try simp only [Act.put, List.setIfInBounds_toArray, List.set_cons_zero, List.set_cons_succ]
                    refine wpAnyH_take (i := 10) (oi := { dst := some 84, op := Op.extract (Operand.tmp 74) 3, type := 3, pos := "law.go:81", after := #[{ on := 6, ground := Ground.data }, { on := 14, ground := Ground.gcOnly Departure.lateStores }], guard := none }) (v := ?_) rfl (by kernel_rfl) (by kernel_rfl) (by kernel_rfl) (fun _ _ _ h => h) (Or.inl ⟨by rfl, ?_⟩) C1 ?_
                    rotate_left
                    · intro W' hSw
                      clear hSw
                      go_simp <;> with_reducible rfl
                    try simp only [Act.put, List.setIfInBounds_toArray, List.set_cons_zero, List.set_cons_succ]
                    refine wpAnyH_ready (rs := [11]) (by kernel_rfl) (by simp) ?_
                    refine AllReadyH.cons (o := { dst := some 18, op := Op.alloc 29, type := 0, pos := "law.go:81", after := #[], guard := none }) rfl (fun K hK => ?_) AllReadyH.nil
                    go_simp
                    refine hK.out _ _ (C1.alloc C1.size _) (fun C2 => ?_)
                    clear hK K
                    try simp only [Act.put, List.setIfInBounds_toArray, List.set_cons_zero, List.set_cons_succ]
                    have TA : Hid (CRow (w8.alloc (.cells #[.int .i64 0, .int .i64 0, .int .i64 0, .int .i64 0] 29)) w8.heap.size 29 #[.int .i64 0, .int .i64 0, .int .i64 0, .int .i64 0]) := Lib.hid (CRow.new w8 #[.int .i64 0, .int .i64 0, .int .i64 0, .int .i64 0] 29)
                    generalize HBLK : w8.heap.size = blk at *
                    have hble : wr.heap.size ≤ blk := by have := D8.out.size; have := C0.size; simp at *; omega
                    have RE : Hid (R8 (w8.alloc (.cells #[.int .i64 0, .int .i64 0, .int .i64 0, .int .i64 0] 29)) A5 un1 ud) := Lib.hid (R8w.out.alloc _)
                    have TB := Lib.hid TA.out
                    refine wpAnyH_take (i := 12) (oi := { dst := some 17, op := Op.assign (Operand.tmp 81), type := 27, pos := "law.go:81", after := #[{ on := 7, ground := Ground.data }, { on := 5, ground := Ground.chain }, { on := 0, ground := Ground.phase }, { on := 1, ground := Ground.phase }, { on := 2, ground := Ground.phase }, { on := 3, ground := Ground.phase }, { on := 4, ground := Ground.phase }, { on := 5, ground := Ground.phase }, { on := 6, ground := Ground.phase }, { on := 7, ground := Ground.phase }, { on := 8, ground := Ground.textOnly Departure.lateStores }, { on := 9, ground := Ground.textOnly Departure.lateStores }, { on := 10, ground := Ground.textOnly Departure.lateStores }, { on := 11, ground := Ground.phase }], guard := none }) (v := ?_) rfl (by kernel_rfl) (by kernel_rfl) (by kernel_rfl) (fun _ _ _ h => h) (Or.inl ⟨by rfl, ?_⟩) C2 ?_
                    rotate_left
                    · intro W' hSw
                      clear hSw
                      go_simp <;> with_reducible rfl
                    try simp only [Act.put, List.setIfInBounds_toArray, List.set_cons_zero, List.set_cons_succ]
                    refine wpAnyH_ready (rs := [13]) (by kernel_rfl) (by simp) ?_
                    refine AllReadyH.cons (o := { dst := none, op := Op.store 29 (Operand.tmp 18) (Operand.tmp 82), type := 0, pos := "law.go:81", after := #[{ on := 11, ground := Ground.data }, { on := 8, ground := Ground.data }, { on := 12, ground := Ground.chain }, { on := 0, ground := Ground.phase }, { on := 1, ground := Ground.phase }, { on := 2, ground := Ground.phase }, { on := 3, ground := Ground.phase }, { on := 4, ground := Ground.phase }, { on := 5, ground := Ground.phase }, { on := 6, ground := Ground.phase }, { on := 7, ground := Ground.phase }, { on := 8, ground := Ground.phase }, { on := 9, ground := Ground.textOnly Departure.lateStores }, { on := 10, ground := Ground.textOnly Departure.lateStores }, { on := 11, ground := Ground.phase }, { on := 12, ground := Ground.phase }], guard := none }) rfl (fun K hK => ?_) AllReadyH.nil
                    rw [if_pos (by rfl)]
                    refine wp_store_row 29 _ _ rfl blk #[.int .i64 uk, .int .i64 us, .int .i64 uq, .int .i64 ue] (by simp [Act.eval]) rfl 29 _ TB.out size_tag (by simp) (by simp [Value.oneCell']) ?_
                    refine hK.out _ _ (below_setRow C2 hble _) (fun C3 => ?_)
                    clear hK K
                    try simp only [Act.put]
                    have RF := Lib.hid (RE.out.setRow TB.out (by simp) #[.int .i64 uk, .int .i64 us, .int .i64 uq, .int .i64 ue])
                    have TF := Lib.hid (TB.out.set #[.int .i64 uk, .int .i64 us, .int .i64 uq, .int .i64 ue])
                    generalize World.setRow (w8.alloc (.cells #[.int .i64 0, .int .i64 0, .int .i64 0, .int .i64 0] 29)) blk #[.int .i64 uk, .int .i64 us, .int .i64 uq, .int .i64 ue] = W9 at *
                    refine wpAnyH_take (i := 14) (oi := { dst := some 19, op := Op.assign (Operand.tmp 83), type := 3, pos := "law.go:81", after := #[{ on := 9, ground := Ground.data }, { on := 13, ground := Ground.chain }, { on := 0, ground := Ground.phase }, { on := 1, ground := Ground.phase }, { on := 2, ground := Ground.phase }, { on := 3, ground := Ground.phase }, { on := 4, ground := Ground.phase }, { on := 5, ground := Ground.phase }, { on := 6, ground := Ground.phase }, { on := 7, ground := Ground.phase }, { on := 8, ground := Ground.phase }, { on := 9, ground := Ground.phase }, { on := 10, ground := Ground.textOnly Departure.lateStores }, { on := 11, ground := Ground.phase }, { on := 12, ground := Ground.phase }, { on := 13, ground := Ground.phase }], guard := none }) (v := ?_) rfl (by kernel_rfl) (by kernel_rfl) (by kernel_rfl) (fun _ _ _ h => h) (Or.inl ⟨by rfl, ?_⟩) C3 ?_
                    rotate_left
                    · intro W' hSw
                      clear hSw
                      go_simp <;> with_reducible rfl
                    try simp only [Act.put, List.setIfInBounds_toArray, List.set_cons_zero, List.set_cons_succ]
                    refine wpAnyH_take (i := 15) (oi := { dst := some 20, op := Op.assign (Operand.tmp 84), type := 3, pos := "law.go:81", after := #[{ on := 10, ground := Ground.data }, { on := 14, ground := Ground.chain }, { on := 0, ground := Ground.phase }, { on := 1, ground := Ground.phase }, { on := 2, ground := Ground.phase }, { on := 3, ground := Ground.phase }, { on := 4, ground := Ground.phase }, { on := 5, ground := Ground.phase }, { on := 6, ground := Ground.phase }, { on := 7, ground := Ground.phase }, { on := 8, ground := Ground.phase }, { on := 9, ground := Ground.phase }, { on := 10, ground := Ground.phase }, { on := 11, ground := Ground.phase }, { on := 12, ground := Ground.phase }, { on := 13, ground := Ground.phase }, { on := 14, ground := Ground.phase }], guard := none }) (v := ?_) rfl (by kernel_rfl) (by kernel_rfl) (by kernel_rfl) (fun _ _ _ h => h) (Or.inl ⟨by rfl, ?_⟩) C3 ?_
                    rotate_left
                    · intro W' hSw
                      clear hSw
                      go_simp <;> with_reducible rfl
                    try simp only [Act.put, List.setIfInBounds_toArray, List.set_cons_zero, List.set_cons_succ]
                    refine wpAnyH_done (by kernel_rfl) ?_ _
                    refine NoPanic.normal ?_
                    exact HREST.out A5 c5 blk W9 ⟨RF, TF, C3⟩
                  · go_simp
                    refine hK.out _ _ (C0.alloc C0.size _) (fun C1 => ?_)
                    clear hK K
                    try simp only [Act.put, List.setIfInBounds_toArray, List.set_cons_zero, List.set_cons_succ]
                    have TA : Hid (CRow (wr.drew.alloc (.cells #[.int .i64 0, .int .i64 0, .int .i64 0, .int .i64 0] 29)) wr.heap.size 29 #[.int .i64 0, .int .i64 0, .int .i64 0, .int .i64 0]) := Lib.hid (CRow.new wr.drew #[.int .i64 0, .int .i64 0, .int .i64 0, .int .i64 0] 29)
                    refine wpAnyH_ready (rs := [5]) (by kernel_rfl) (by simp) ?_
                    refine AllReadyH.cons (o := { dst := some 80, op := Op.call { callee := Callee.value (Operand.func 15), args := #[Operand.tmp 75, Operand.tmp 79], argTypes := #[23, 27] }, type := 41, pos := "law.go:81", after := #[{ on := 0, ground := Ground.data }, { on := 4, ground := Ground.data }], guard := none }) rfl (fun K hK => ?_) AllReadyH.nil
                    go_simp
                    refine (HDC2.out _ (HRk.out.below C1)).mono ?_
                    intro _ w8 hM
                    obtain ⟨A5, c5, rfl, R8w, D8⟩ := hM.tag un1 HUN1.out uk us uq ue rfl
                    have hB := D8.out
                    clear hM
                    go_wp2_with fail
                    refine hK.out _ _ (C1.trans (hB.mono C1.size)) (fun C2 => ?_)
                    clear hK K hB
                    try simp only [Act.put, List.setIfInBounds_toArray, List.set_cons_zero, List.set_cons_succ]
                    refine wpAnyH_take (i := 6) (oi := { dst := some 74, op := Op.move (Operand.tmp 80), type := 41, pos := "law.go:81", after := #[{ on := 5, ground := Ground.data }], guard := none }) (v := ?_) rfl (by kernel_rfl) (by kernel_rfl) (by kernel_rfl) (fun _ _ _ h => h) (Or.inl ⟨by rfl, ?_⟩) C2 ?_
                    rotate_left
                    · intro W' hSw
                      clear hSw
                      go_simp <;> with_reducible rfl
                    try simp only [Act.put, List.setIfInBounds_toArray, List.set_cons_zero, List.set_cons_succ]
                    refine wpAnyH_take (i := 7) (oi := { dst := some 81, op := Op.extract (Operand.tmp 74) 0, type := 27, pos := "law.go:81", after := #[{ on := 6, ground := Ground.data }], guard := none }) (v := ?_) rfl (by kernel_rfl) (by kernel_rfl) (by kernel_rfl) (fun _ _ _ h => h) (Or.inl ⟨by rfl, ?_⟩) C2 ?_
                    rotate_left
                    · intro W' hSw
                      clear hSw
                      go_simp <;> with_reducible rfl
                    try simp only [Act.put, List.setIfInBounds_toArray, List.set_cons_zero, List.set_cons_succ]
                    refine wpAnyH_take (i := 8) (oi := { dst := some 82, op := Op.extract (Operand.tmp 74) 1, type := 29, pos := "law.go:81", after := #[{ on := 6, ground := Ground.data }, { on := 12, ground := Ground.gcOnly Departure.lateStores }], guard := none }) (v := ?_) rfl (by kernel_rfl) (by kernel_rfl) (by kernel_rfl) (fun _ _ _ h => h) (Or.inl ⟨by rfl, ?_⟩) C2 ?_
                    rotate_left
                    · intro W' hSw
                      clear hSw
                      go_simp <;> with_reducible rfl
                    try simp only [Act.put, List.setIfInBounds_toArray, List.set_cons_zero, List.set_cons_succ]
                    refine wpAnyH_take (i := 9) (oi := { dst := some 83, op := Op.extract (Operand.tmp 74) 2, type := 3, pos := "law.go:81", after := #[{ on := 6, ground := Ground.data }, { on := 13, ground := Ground.gcOnly Departure.lateStores }], guard := none }) (v := ?_) rfl (by kernel_rfl) (by kernel_rfl) (by kernel_rfl) (fun _ _ _ h => h) (Or.inl ⟨by rfl, ?_⟩) C2 ?_
                    rotate_left
                    · intro W' hSw
                      clear hSw
                      go_simp <;> with_reducible rfl
                    try simp only [Act.put, List.setIfInBounds_toArray, List.set_cons_zero, List.set_cons_succ]
                    refine wpAnyH_take (i := 10) (oi := { dst := some 84, op := Op.extract (Operand.tmp 74) 3, type := 3, pos := "law.go:81", after := #[{ on := 6, ground := Ground.data }, { on := 14, ground := Ground.gcOnly Departure.lateStores }], guard := none }) (v := ?_) rfl (by kernel_rfl) (by kernel_rfl) (by kernel_rfl) (fun _ _ _ h => h) (Or.inl ⟨by rfl, ?_⟩) C2 ?_
                    rotate_left
                    · intro W' hSw
                      clear hSw
                      go_simp <;> with_reducible rfl
                    try simp only [Act.put, List.setIfInBounds_toArray, List.set_cons_zero, List.set_cons_succ]
                    have RE : Hid (R8 w8 A5 un1 ud) := Lib.hid (R8w.out)
                    have TB := Lib.hid (TA.out.below D8.out)
                    refine wpAnyH_take (i := 12) (oi := { dst := some 17, op := Op.assign (Operand.tmp 81), type := 27, pos := "law.go:81", after := #[{ on := 7, ground := Ground.data }, { on := 5, ground := Ground.chain }, { on := 0, ground := Ground.phase }, { on := 1, ground := Ground.phase }, { on := 2, ground := Ground.phase }, { on := 3, ground := Ground.phase }, { on := 4, ground := Ground.phase }, { on := 5, ground := Ground.phase }, { on := 6, ground := Ground.phase }, { on := 7, ground := Ground.phase }, { on := 8, ground := Ground.textOnly Departure.lateStores }, { on := 9, ground := Ground.textOnly Departure.lateStores }, { on := 10, ground := Ground.textOnly Departure.lateStores }, { on := 11, ground := Ground.phase }], guard := none }) (v := ?_) rfl (by kernel_rfl) (by kernel_rfl) (by kernel_rfl) (fun _ _ _ h => h) (Or.inl ⟨by rfl, ?_⟩) C2 ?_
                    rotate_left
                    · intro W' hSw
                      clear hSw
                      go_simp <;> with_reducible rfl
                    try simp only [Act.put, List.setIfInBounds_toArray, List.set_cons_zero, List.set_cons_succ]
                    refine wpAnyH_ready (rs := [13]) (by kernel_rfl) (by simp) ?_
                    refine AllReadyH.cons (o := { dst := none, op := Op.store 29 (Operand.tmp 18) (Operand.tmp 82), type := 0, pos := "law.go:81", after := #[{ on := 11, ground := Ground.data }, { on := 8, ground := Ground.data }, { on := 12, ground := Ground.chain }, { on := 0, ground := Ground.phase }, { on := 1, ground := Ground.phase }, { on := 2, ground := Ground.phase }, { on := 3, ground := Ground.phase }, { on := 4, ground := Ground.phase }, { on := 5, ground := Ground.phase }, { on := 6, ground := Ground.phase }, { on := 7, ground := Ground.phase }, { on := 8, ground := Ground.phase }, { on := 9, ground := Ground.textOnly Departure.lateStores }, { on := 10, ground := Ground.textOnly Departure.lateStores }, { on := 11, ground := Ground.phase }, { on := 12, ground := Ground.phase }], guard := none }) rfl (fun K hK => ?_) AllReadyH.nil
                    rw [if_pos (by rfl)]
                    refine wp_store_row 29 _ _ rfl wr.heap.size #[.int .i64 uk, .int .i64 us, .int .i64 uq, .int .i64 ue] (by simp [Act.eval]) rfl 29 _ TB.out size_tag (by simp) (by simp [Value.oneCell']) ?_
                    refine hK.out _ _ (below_setRow C2 (Nat.le_refl _) _) (fun C3 => ?_)
                    clear hK K
                    try simp only [Act.put]
                    have RF := Lib.hid (RE.out.setRow TB.out (by simp) #[.int .i64 uk, .int .i64 us, .int .i64 uq, .int .i64 ue])
                    have TF := Lib.hid (TB.out.set #[.int .i64 uk, .int .i64 us, .int .i64 uq, .int .i64 ue])
                    generalize World.setRow w8 wr.heap.size #[.int .i64 uk, .int .i64 us, .int .i64 uq, .int .i64 ue] = W9 at *
                    refine wpAnyH_take (i := 14) (oi := { dst := some 19, op := Op.assign (Operand.tmp 83), type := 3, pos := "law.go:81", after := #[{ on := 9, ground := Ground.data }, { on := 13, ground := Ground.chain }, { on := 0, ground := Ground.phase }, { on := 1, ground := Ground.phase }, { on := 2, ground := Ground.phase }, { on := 3, ground := Ground.phase }, { on := 4, ground := Ground.phase }, { on := 5, ground := Ground.phase }, { on := 6, ground := Ground.phase }, { on := 7, ground := Ground.phase }, { on := 8, ground := Ground.phase }, { on := 9, ground := Ground.phase }, { on := 10, ground := Ground.textOnly Departure.lateStores }, { on := 11, ground := Ground.phase }, { on := 12, ground := Ground.phase }, { on := 13, ground := Ground.phase }], guard := none }) (v := ?_) rfl (by kernel_rfl) (by kernel_rfl) (by kernel_rfl) (fun _ _ _ h => h) (Or.inl ⟨by rfl, ?_⟩) C3 ?_
                    rotate_left
                    · intro W' hSw
                      clear hSw
                      go_simp <;> with_reducible rfl
                    try simp only [Act.put, List.setIfInBounds_toArray, List.set_cons_zero, List.set_cons_succ]
                    refine wpAnyH_take (i := 15) (oi := { dst := some 20, op := Op.assign (Operand.tmp 84), type := 3, pos := "law.go:81", after := #[{ on := 10, ground := Ground.data }, { on := 14, ground := Ground.chain }, { on := 0, ground := Ground.phase }, { on := 1, ground := Ground.phase }, { on := 2, ground := Ground.phase }, { on := 3, ground := Ground.phase }, { on := 4, ground := Ground.phase }, { on := 5, ground := Ground.phase }, { on := 6, ground := Ground.phase }, { on := 7, ground := Ground.phase }, { on := 8, ground := Ground.phase }, { on := 9, ground := Ground.phase }, { on := 10, ground := Ground.phase }, { on := 11, ground := Ground.phase }, { on := 12, ground := Ground.phase }, { on := 13, ground := Ground.phase }, { on := 14, ground := Ground.phase }], guard := none }) (v := ?_) rfl (by kernel_rfl) (by kernel_rfl) (by kernel_rfl) (fun _ _ _ h => h) (Or.inl ⟨by rfl, ?_⟩) C3 ?_
                    rotate_left
                    · intro W' hSw
                      clear hSw
                      go_simp <;> with_reducible rfl
                    try simp only [Act.put, List.setIfInBounds_toArray, List.set_cons_zero, List.set_cons_succ]
                    refine wpAnyH_done (by kernel_rfl) ?_ _
                    refine NoPanic.normal ?_
                    exact HREST.out A5 c5 wr.heap.size W9 ⟨RF, TF, C3⟩
                · intro A5 c5w blk W9 ⟨R9, U9, D9⟩
                  have HB9 := Lib.hid (below_step HB.out D9.out)
                  have T9 := Lib.hid (HT.out.below D9.out)
                  have R89 := Lib.hid (HR8.out.below D9.out)
                  by_cases hu0 : ue1 = 0
                  · subst hu0
                    have HE := Lib.hid (HUA.out N lv l hlt HRD.out (HTW2.out.2 (by decide)) HRE2.out.1)
                    have HS2 : Hid (StW N V M ul un (lv + 1) (lv + 1) lv 0 ud uk us uq ue us1) := Lib.hid (.inr ⟨by decide, by rw [HVe.out, HE.out.1, HRE2.out.2], by rw [HMe.out, HE.out.2]⟩)
                    have z0 := U9.out.cell_at 0 _ rfl
                    have z1 := U9.out.cell_at 1 _ rfl
                    have z2 := U9.out.cell_at 2 _ rfl
                    have z3 := U9.out.cell_at 3 _ rfl
                    have T10 := Lib.hid (T9.out.set #[.slice A5 un1 c5w, .int .i64 uk, .int .i64 us, .int .i64 uq, .int .i64 ue, .int .i64 (us1 : Int)])
                    have HB10 := Lib.hid (below_setRow HB9.out (Nat.le_refl _) #[.slice A5 un1 c5w, .int .i64 uk, .int .i64 us, .int .i64 uq, .int .i64 ue, .int .i64 (us1 : Int)])
                    have R10 := Lib.hid (R9.out.setRow T9.out (by simp) #[.slice A5 un1 c5w, .int .i64 uk, .int .i64 us, .int .i64 uq, .int .i64 ue, .int .i64 (us1 : Int)])
                    clear HE
                    go_wp2_with (with_reducible refine (?_ : wpList _ _ _ ({ dst := _, op := Op.store 31 _ _, type := _, pos := _, after := _, guard := _ } :: _) _ _); refine wpList_store_at rfl 31 _ _ rfl 6 size_page _ w6.heap.size ?hx rfl _ T9.out.row ?hn ?ho ?h1 ?_; (case hx => simp [Act.eval]); (case hn => simp); (case ho => simp); (case h1 => simp [Value.oneCell']))
                    go_roundw
                    case rel => exact ⟨lv + 1, lv + 1, lv, 0, A5, c5w, un1, ud, uk, us, uq, ue, us1, by omega, rfl, by go_num, by go_num, by go_num, HS2, HB10, T10, HUN1, R10⟩
                    case measure => simp [intOf]; omega
                  · have hu0b : (ue1 == 0) = false := beq_eq_false_iff_ne.2 hu0
                    by_cases hu2 : ue1 = 2
                    · subst hu2
                      have HE := Lib.hid (HUL.out N lv l hlt HRD.out (HTW2.out.1 rfl))
                      have HS2 : Hid (StW N V M ul un (lv + 1) (lv + 1) 0 2 [] 0 0 0 0 0) := Lib.hid (.inr ⟨by decide, by rw [HVe.out, HE.out.1]; rfl, by rw [HMe.out, HE.out.2]⟩)
                      clear HE hu0b
                      go_wp2
                      go_roundw
                      case rel => exact ⟨lv + 1, lv + 1, 0, 2, A8, c8, vn8, [], 0, 0, 0, 0, 0, by omega, rfl, rfl, by go_num, by go_num, HS2, HB9, T9, HVN8, R89⟩
                      case measure => simp [intOf]; omega
                    · have hu2b : (ue1 == 2) = false := beq_eq_false_iff_ne.2 hu2
                      have HE := Lib.hid (HUN.out N lv l hlt HRD.out (HTW2.out.2 hu2) (by rw [HRE2.out.1]; exact hu0))
                      have HS2 : Hid (StW N V M ul un (lv + 1) (lv + 1) 0 30 [] 0 0 0 0 0) := Lib.hid (.inl ⟨rfl, rfl, rfl, rfl, rfl, rfl, rfl, rfl, rfl, by rw [HVe.out, HE.out.1], by rw [HMe.out, HE.out.2]⟩)
                      clear HE
                      go_wp2
                      go_roundw
                      case rel => exact ⟨lv + 1, lv + 1, 0, 30, A8, c8, vn8, [], 0, 0, 0, 0, 0, by omega, rfl, rfl, by go_num, by go_num, HS2, HB9, T9, HVN8, R89⟩
                      case measure => simp [intOf]; omega
          · have HVV := Lib.hid hVe
            have HMM := Lib.hid hMe
            have hw3b : (wv == 30) = false := beq_eq_false_iff_ne.2 hw3
            clear hVe hMe HSt
            obtain ⟨hltG, _, _, _, _, _, g5, _⟩ := Yr.out
            simp only at g5
            have e1 := HX.out.symm.trans HVV.out
            simp only [Prod.mk.injEq, Tg.mk.injEq] at e1
            obtain ⟨⟨rfl, ⟨rfl, rfl, rfl, rfl⟩, rfl⟩, rfl, rfl⟩ := e1
            obtain rfl : vn = vn8 := HVN.out.symm.trans HVN8.out
            have e2 := HMM.out
            subst e2
            have IF := IW6.out.below HB.out IWL.out
            have c7 := IF.2.1.cell_at 0 _ rfl
            have c8w := IF.2.2.cell_at 0 _ rfl
            clear IF
            have TF := T6.out.below HB.out
            have x0 := TF.cell_at 0 _ rfl
            have y0 := HT.out.cell_at 0 _ rfl
            have x1 := TF.cell_at 1 _ rfl
            have y1 := HT.out.cell_at 1 _ rfl
            have x2 := TF.cell_at 2 _ rfl
            have y2 := HT.out.cell_at 2 _ rfl
            have x3 := TF.cell_at 3 _ rfl
            have y3 := HT.out.cell_at 3 _ rfl
            have x4 := TF.cell_at 4 _ rfl
            have y4 := HT.out.cell_at 4 _ rfl
            have x5 := TF.cell_at 5 _ rfl
            have y5 := HT.out.cell_at 5 _ rfl
            clear TF HVV HMM HX
            go_wp2_with fail
            refine (SameP_yes A3 A8 _ c3 c8 _ _ _ _ _ _ _ (R6.out.below HB.out) HR8.out (by omega)).mono ?_
            rintro _ w9 ⟨rfl, h9⟩
            have B9 := Lib.hid (below_step (below_step B6.out HB.out) h9)
            clear h9 c7 c8w x0 y0 x1 y1 x2 y2 x3 y3 x4 y4 x5 y5
            go_wp2
            go_ret
            exact ⟨by simp, B9.out⟩
        · obtain rfl : i = N := by omega
          obtain ⟨hltG, _, _, _, _, _, g5, _⟩ := Yr.out
          simp only at g5
          rcases HSt.out with ⟨rfl, rfl, rfl, rfl, rfl, rfl, rfl, rfl, rfl, hVe, hMe⟩ | ⟨hw3, hVe, hMe⟩
          · have HVV := Lib.hid (show V = (([], ⟨0, 0, 0, 0⟩, 0), 0, 30) by rw [hVe, Nat.sub_self, (HU0.out _).1]; rfl)
            have HMM := Lib.hid (show M = lv by rw [hMe, Nat.sub_self, (HU0.out _).2])
            clear hVe hMe HSt
            have e1 := HX.out.symm.trans HVV.out
            simp only [Prod.mk.injEq, Tg.mk.injEq] at e1
            obtain ⟨⟨rfl, ⟨rfl, rfl, rfl, rfl⟩, rfl⟩, rfl, rfl⟩ := e1
            obtain rfl : vn = vn8 := HVN.out.symm.trans HVN8.out
            have e2 := HMM.out
            subst e2
            have IF := IW6.out.below HB.out IWL.out
            have c7 := IF.2.1.cell_at 0 _ rfl
            have c8w := IF.2.2.cell_at 0 _ rfl
            clear IF
            have TF := T6.out.below HB.out
            have x0 := TF.cell_at 0 _ rfl
            have y0 := HT.out.cell_at 0 _ rfl
            have x1 := TF.cell_at 1 _ rfl
            have y1 := HT.out.cell_at 1 _ rfl
            have x2 := TF.cell_at 2 _ rfl
            have y2 := HT.out.cell_at 2 _ rfl
            have x3 := TF.cell_at 3 _ rfl
            have y3 := HT.out.cell_at 3 _ rfl
            have x4 := TF.cell_at 4 _ rfl
            have y4 := HT.out.cell_at 4 _ rfl
            have x5 := TF.cell_at 5 _ rfl
            have y5 := HT.out.cell_at 5 _ rfl
            clear TF HVV HMM HX
            go_wp2_with fail
            refine (SameP_yes A3 A8 _ c3 c8 _ _ _ _ _ _ _ (R6.out.below HB.out) HR8.out (by omega)).mono ?_
            rintro _ w9 ⟨rfl, h9⟩
            have B9 := Lib.hid (below_step (below_step B6.out HB.out) h9)
            clear h9 c7 c8w x0 y0 x1 y1 x2 y2 x3 y3 x4 y4 x5 y5
            go_wp2
            go_ret
            exact ⟨by simp, B9.out⟩
          · have HVV := Lib.hid hVe
            have HMM := Lib.hid hMe
            clear hVe hMe HSt
            have e1 := HX.out.symm.trans HVV.out
            simp only [Prod.mk.injEq, Tg.mk.injEq] at e1
            obtain ⟨⟨rfl, ⟨rfl, rfl, rfl, rfl⟩, rfl⟩, rfl, rfl⟩ := e1
            obtain rfl : vn = vn8 := HVN.out.symm.trans HVN8.out
            have e2 := HMM.out
            subst e2
            have IF := IW6.out.below HB.out IWL.out
            have c7 := IF.2.1.cell_at 0 _ rfl
            have c8w := IF.2.2.cell_at 0 _ rfl
            clear IF
            have TF := T6.out.below HB.out
            have x0 := TF.cell_at 0 _ rfl
            have y0 := HT.out.cell_at 0 _ rfl
            have x1 := TF.cell_at 1 _ rfl
            have y1 := HT.out.cell_at 1 _ rfl
            have x2 := TF.cell_at 2 _ rfl
            have y2 := HT.out.cell_at 2 _ rfl
            have x3 := TF.cell_at 3 _ rfl
            have y3 := HT.out.cell_at 3 _ rfl
            have x4 := TF.cell_at 4 _ rfl
            have y4 := HT.out.cell_at 4 _ rfl
            have x5 := TF.cell_at 5 _ rfl
            have y5 := HT.out.cell_at 5 _ rfl
            clear TF HVV HMM HX
            go_wp2_with fail
            refine (SameP_yes A3 A8 _ c3 c8 _ _ _ _ _ _ _ (R6.out.below HB.out) HR8.out (by omega)).mono ?_
            rintro _ w9 ⟨rfl, h9⟩
            have B9 := Lib.hid (below_step (below_step B6.out HB.out) h9)
            clear h9 c7 c8w x0 y0 x1 y1 x2 y2 x3 y3 x4 y4 x5 y5
            go_wp2
            go_ret
            exact ⟨by simp, B9.out⟩
end Go.Proofs.Ytgiihdeilkiphaa
