/-
  Contracts of the ladder's isRaw and isLadder, of the laws' plain and few, over the landed code.
-/
import Derived.Deep.RegionHeld3
import Derived.Test.YtgiihdeilkiphaaLadderWalksJ13
import Derived.Test.YtgiihdeilkiphaaLadderWalksJMat
import Derived.Test.YtgiihdeilkiphaaLadderWalksJ7
import Derived.Test.YtgiihdeilkiphaaLadderWalksJ1
namespace Go.Proofs.Ytgiihdeilkiphaa
open Go.RowKit
set_option maxRecDepth 100000

theorem size_page : (Try.prog.info? 31).map (·.size) = some 6 := by kernel_rfl
theorem size_geom : (Try.prog.info? 23).map (·.size) = some 7 := by kernel_rfl

set_option maxHeartbeats 400000 in
theorem isRaw_is (g : Gm) (A : Option Addr) (n c : Nat) (v : Bool) (hv : decide ((n : Int) = g.raw) = v) (w : World) :
    Calls Try.prog 41 #[g.val, .slice A n c] w (Gives (.bool v) w) := by
  obtain ⟨m, HR⟩ : ∃ m, Hid (g.raw = m) := ⟨_, rfl⟩
  have hb : ((n : Int) == m) = v := by rw [← hv, HR.out]; exact Bool.eq_iff_iff.2 (by simp)
  clear hv
  obtain ⟨p, b, s, gc, k, r, q⟩ := g
  simp only [Gm.val]
  go_enter Try.func41, Try.ntmps41
  go_wp2_with fail
  refine (Raw_is ⟨p, b, s, gc, k, r, q⟩ _ HR.out _).mono ?_
  rintro _ w1 ⟨rfl, h1⟩
  have B1 := Lib.hid (below_step (below_new w _) h1)
  clear h1
  go_wp2
  go_ret
  exact ⟨rfl, B1.out⟩

def geo2 : Gm := ⟨1, 2, 4, 1, 4, 2, 1⟩
theorem geo2_ok : geo2.ok = true := by decide +kernel
set_option maxHeartbeats 400000 in
theorem plain_any (w : World) : Calls Try.prog 17 #[] w (Gives geo2.val w) := by
  go_enter Try.func17, Try.ntmps17
  have T0 := Lib.hid (CRow.new w #[.int .i64 0, .int .i64 0, .int .i64 0, .int .i64 0, .int .i64 0, .int .i64 0, .int .i64 0] 23)
  have B0 := Lib.hid (below_new w (.cells #[.int .i64 0, .int .i64 0, .int .i64 0, .int .i64 0, .int .i64 0, .int .i64 0, .int .i64 0] 23))
  go_wp2_with (with_reducible refine (?_ : wpList _ _ _ ({ dst := _, op := Op.store 23 _ _, type := _, pos := _, after := _, guard := _ } :: _) _ _); refine wpList_store_at rfl 23 _ _ rfl 7 size_geom _ w.heap.size ?hx rfl _ T0.out.row ?hn ?ho ?h1 ?_; (case hx => simp [Act.eval]); (case hn => simp); (case ho => simp); (case h1 => simp [Value.oneCell']))
  have B9 := Lib.hid (below_setRow B0.out (Nat.le_refl _) #[.int .i64 1, .int .i64 2, .int .i64 4, .int .i64 1, .int .i64 4, .int .i64 2, .int .i64 1])
  have T9 := Lib.hid (T0.out.set #[.int .i64 1, .int .i64 2, .int .i64 4, .int .i64 1, .int .i64 4, .int .i64 2, .int .i64 1])
  go_wp2
  refine bodyPost_ret (results_cell_row rfl _ _ w.heap.size 23 _ (0, 0) _ rfl T9.out.row Try.underlying23 rfl size_geom) rfl ?_
  exact ⟨rfl, B9.out⟩

set_option maxHeartbeats 1000000 in
theorem isLadder_any (g : Gm) (A : Option Addr) (n c : Nat) (PA : Nat → Option Addr) (PC : Nat → Nat) (ls : List (List Nat)) (w : World) (hr : RR w A n PA PC ls) (hn : n ≤ 1099511627776) :
    Calls Try.prog 20 #[g.val, .slice A n c] w (Gives (.bool (climbOk g ls)) w) := by
  obtain ⟨v, HV⟩ : ∃ v, Hid (climbOk g ls = v) := ⟨_, rfl⟩
  have HL := Lib.hid hr.len
  have HR := Lib.hid hr
  clear hr
  rw [HV.out]
  cases hok : g.ok
  · have hv : v = false := by rw [← HV.out]; simp [climbOk, hok]
    have HO := Lib.hid hok
    subst hv
    clear HV hok
    obtain ⟨p, b, s, gc, k, r, q⟩ := g
    simp only [Gm.val]
    go_enter Try.func20, Try.ntmps20
    go_wp2_with fail
    refine (Check_no ⟨p, b, s, gc, k, r, q⟩ HO.out _).mono ?_
    rintro _ w1 ⟨rfl, h1⟩
    have B1 := Lib.hid (below_step (below_new w _) h1)
    clear h1
    go_wp2
    go_ret
    exact ⟨rfl, B1.out⟩
  · have HO := Lib.hid hok
    have HVI := Lib.hid (@climbOk_iff g ls)
    obtain ⟨m, HRW⟩ : ∃ m, Hid (g.raw = m) := ⟨_, rfl⟩
    have hiR := fun A n c v hv w => isRaw_is g A n c v hv w
    rw [HRW.out] at hiR
    have HIR := Lib.hid hiR
    clear hok hiR
    obtain ⟨p, b, s, gc, k, r, q⟩ := g
    simp only [Gm.val] at HIR ⊢
    go_enter Try.func20, Try.ntmps20
    go_wp2_with fail
    refine (Check_yes ⟨p, b, s, gc, k, r, q⟩ HO.out _).mono ?_
    rintro _ w1 ⟨rfl, h1⟩
    have Y1 := Lib.hid ((GBox.new w ⟨p, b, s, gc, k, r, q⟩ 23).below h1)
    have B1 := Lib.hid (below_step (below_new w _) h1)
    clear h1
    obtain ⟨_, g0, g1, g2, g3, g4, g5, g6⟩ := Y1.out
    simp only at g0 g1 g2 g3 g4 g5 g6
    by_cases h0 : n = 0
    · have hv : v = false := by
        rw [← HV.out]
        cases hc : climbOk ⟨p, b, s, gc, k, r, q⟩ ls
        · rfl
        · have := HVI.out.1 hc
          have := HL.out
          omega
      subst hv h0
      go_wp2
      go_ret
      exact ⟨rfl, B1.out⟩
    · have hz : ((n : Int) == 0) = false := by simp; omega
      by_cases hgt : r < (n : Int)
      · have hd : decide (r < (n : Int)) = true := decide_eq_true hgt
        have hv : v = false := by
          rw [← HV.out]
          cases hc : climbOk ⟨p, b, s, gc, k, r, q⟩ ls
          · rfl
          · have h1 := HVI.out.1 hc
            have := HL.out
            try simp only at h1
            omega
        subst hv
        clear hgt
        go_wp2
        go_ret
        exact ⟨rfl, B1.out⟩
      · have hd : decide (r < (n : Int)) = false := decide_eq_false hgt
        have HNR := Lib.hid (show 1 ≤ n ∧ (n : Int) ≤ r from ⟨by omega, by omega⟩)
        clear hgt
        go_wp2
        clear g0 g1 g2 g3 g4 g5 g6 hd hz h0
        go_loopw [24] (fun i wr => ∃ k' : Nat, k' ≤ n ∧ i = .int .i64 (k' : Int) ∧ Hid (∀ j l, j < k' → ls[j]? = some l → (l.length : Int) = m) ∧ Hid (Below w1.heap.size w1 wr)) (fun i _ => n - (intOf i).toNat)
        case atStart => exact ⟨0, Nat.zero_le _, rfl, fun j l h => absurd h (by omega), Below.refl _ _⟩
        case round =>
          obtain ⟨k', hk, rfl, HF, HB⟩ := hrel
          by_cases hlt : k' < n
          · have Yr := Lib.hid (Y1.out.below HB.out)
            obtain ⟨_, g0, g1, g2, g3, g4, g5, g6⟩ := Yr.out
            simp only at g0 g1 g2 g3 g4 g5 g6
            obtain ⟨b1, o1, l, m1, rfl, hb1, HLk, HLm, hcl, HRk, hmc, _⟩ := ((HR.out.below B1.out).below HB.out).at_ hlt
            generalize PA k' = A1 at *
            generalize PC k' = C1 at *
            go_wp2_with fail
            by_cases he : (m1 : Int) = m
            · refine (HIR.out _ _ _ true (decide_eq_true he) _).mono ?_
              rintro _ w2 ⟨rfl, h2⟩
              have B2 := Lib.hid (below_step HB.out h2)
              have HF2 : Hid (∀ j l, j < k' + 1 → ls[j]? = some l → (l.length : Int) = m) := by
                intro j l' hj hl'
                rcases Nat.lt_or_ge j k' with h3 | h3
                · exact HF.out j l' h3 hl'
                · obtain rfl : j = k' := by omega
                  rw [HLk.out] at hl'
                  injection hl' with e
                  rw [← e, HLm.out]
                  exact he
              clear h2 g0 g1 g2 g3 g4 g5 g6 he
              go_wp2
              go_roundw
              case rel => exact ⟨k' + 1, by omega, by go_num, HF2, B2⟩
              case measure => simp [intOf]; omega
            · refine (HIR.out _ _ _ false (decide_eq_false he) _).mono ?_
              rintro _ w2 ⟨rfl, h2⟩
              have B2 := Lib.hid (below_step HB.out h2)
              have hv : v = false := by
                rw [← HV.out]
                cases hc : climbOk ⟨p, b, s, gc, k, r, q⟩ ls
                · rfl
                · have h3 := (HVI.out.1 hc).2.2.2 l (List.mem_of_getElem? HLk.out)
                  rw [HLm.out, HRW.out] at h3
                  exact absurd h3 he
              subst hv
              clear h2 g0 g1 g2 g3 g4 g5 g6 he
              go_wp2
              go_ret
              exact ⟨rfl, below_step B1.out B2.out⟩
          · obtain rfl : k' = n := by omega
            have hv : v = true := by
              rw [← HV.out]
              refine HVI.out.2 ⟨HO.out, by have := HNR.out; have := HL.out; omega, by have h3 := HNR.out; have := HL.out; omega, fun l hl => ?_⟩
              obtain ⟨j, hj, rfl⟩ := List.getElem_of_mem hl
              rw [HRW.out]
              exact HF.out j _ (by have := HL.out; omega) (List.getElem?_eq_getElem hj)
            subst hv
            go_wp2
            go_ret
            exact ⟨rfl, below_step B1.out HB.out⟩

/-- It returns a bool; with true there are twelve rungs at most. -/
def Fews (n : Nat) (w : World) (e : Ending) (w' : World) : Prop := ∃ v : Bool, e = .returned (.bool v) ∧ (v = true → n ≤ 12) ∧ Below w.heap.size w w'
set_option maxHeartbeats 1000000 in
theorem few_any (g : Gm) (A : Option Addr) (n c : Nat) (PA : Nat → Option Addr) (PC : Nat → Nat) (ls : List (List Nat)) (w : World) (hr : RR w A n PA PC ls) (hn : n ≤ 9223372036854775807) :
    Calls Try.prog 8 #[g.val, .slice A n c] w (Fews n w) := by
  have hSm := fun w' => (Classical.em (smallG g)).elim (fun h => (⟨true, Small_yes g h w'⟩ : ∃ v, Calls Try.prog 19 #[g.val] w' (Gives (.bool v) w'))) (fun h => ⟨false, Small_no g h w'⟩)
  have HR := Lib.hid hr
  clear hr
  obtain ⟨p, b, s, gc, k, r, q⟩ := g
  simp only [Gm.val] at hSm ⊢
  have HS := Lib.hid hSm
  clear hSm
  have Y1 := Lib.hid (GBox.new w ⟨p, b, s, gc, k, r, q⟩ 23)
  have B1 := Lib.hid (below_new w (.cells #[.int .i64 p, .int .i64 b, .int .i64 s, .int .i64 gc, .int .i64 k, .int .i64 r, .int .i64 q] 23))
  go_enter Try.func8, Try.ntmps8
  go_wp2
  generalize w.alloc (.cells #[.int .i64 p, .int .i64 b, .int .i64 s, .int .i64 gc, .int .i64 k, .int .i64 r, .int .i64 q] 23) = w1 at *
  go_loop [9] (fun i => ∃ k' : Nat, k' ≤ n ∧ i = .int .i64 (k' : Int)) (fun i => n - (intOf i).toNat)
  case atStart => exact ⟨0, Nat.zero_le _, rfl⟩
  case round =>
    obtain ⟨k', hk, rfl⟩ := hrel
    by_cases hlt : k' < n
    · obtain ⟨b1, o1, l, m1, rfl, hb1, HLk, HLm, hcl, HRk, hmc, _⟩ := (HR.out.below B1.out).at_ hlt
      generalize PA k' = A1 at *
      generalize PC k' = C1 at *
      by_cases h4 : 400 < m1
      · have d4 : decide ((400 : Int) < (m1 : Int)) = true := decide_eq_true (by omega)
        go_wp2
        go_ret
        exact ⟨false, rfl, by simp, B1.out⟩
      · have d4 : decide ((400 : Int) < (m1 : Int)) = false := decide_eq_false (by omega)
        go_wp2
        go_round
        case rel => exact ⟨k' + 1, by omega, by go_num⟩
        case measure => simp [intOf]; omega
    · obtain rfl : k' = n := by omega
      obtain ⟨_, g0, g1, g2, g3, g4, g5, g6⟩ := Y1.out
      simp only at g0 g1 g2 g3 g4 g5 g6
      obtain ⟨v, hv⟩ := HS.out w1
      go_wp2_with fail
      refine hv.mono ?_
      rintro _ w2 ⟨rfl, h2⟩
      have B2 := Lib.hid (below_step B1.out h2)
      clear h2 g0 g1 g2 g3 g4 g5 g6
      cases v
      · go_wp2
        go_ret
        exact ⟨false, rfl, by simp, B2.out⟩
      · by_cases h12 : k' ≤ 12
        · have d12 : decide ((k' : Int) ≤ 12) = true := decide_eq_true (by omega)
          go_wp2
          go_ret
          exact ⟨true, rfl, fun _ => h12, B2.out⟩
        · have d12 : decide ((k' : Int) ≤ 12) = false := decide_eq_false (by omega)
          go_wp2
          go_ret
          exact ⟨false, rfl, by simp, B2.out⟩
end Go.Proofs.Ytgiihdeilkiphaa

/-
  Contract of ladder.readUp over the landed code, where what reads is the law's own function.
-/
namespace Go.Proofs.Ytgiihdeilkiphaa
open Go.RowKit
set_option maxRecDepth 100000

set_option maxHeartbeats 4000000 in
theorem readUp_W (g : Gm) (N : Nat) (hN : N ≤ 1099511627776) (p0 p1 p2 p3 : Option Addr) (Y : Nat → Prop) (rd : Nat → List Nat × Int) (I : Nat → World → Prop) (w : World)
    (hI : ∀ k W W', I k W → Below w.heap.size W W' → I k W')
    (hY : ∀ k, Y k → k < w.heap.size)
    (hrd : ∀ k W, k < N → I k W → w.heap.size ≤ W.heap.size → Calls Try.prog 13 #[.int .i64 (k : Int), .pointer p0, .pointer p1, .pointer p2, .pointer p3] W (RdE (rd k).1 (rd k).2 k Y I W))
    (h0 : I 0 w) :
    Calls Try.prog 21 #[g.val, .int .i64 (N : Int), .func (.func 13) #[] #[.pointer p0, .pointer p1, .pointer p2, .pointer p3]] w
      fun e w' => UpRet (upL g rd N 0) e w' ∧ Save Y w w' ∧ I (upN g rd N 0) w' := by
  have HI := Lib.hid hI
  have HRD := Lib.hid hrd
  have hRneY : ¬ Y (w.heap.size + 1) := fun h => by have := hY _ h; omega
  have hGneY : ¬ Y w.heap.size := fun h => by have := hY _ h; omega
  have HU := Lib.hid (show ∀ k l er, k < N → rd k = (l, er) → er ≠ 0 → upL g rd (N - k) k = noPage er ∧ upN g rd (N - k) k = k + 1 from fun k l er hk h he => by
    rw [show N - k = (N - (k + 1)) + 1 by omega]; exact up_err h he)
  have HUL := Lib.hid (show ∀ k l, k < N → rd k = (l, 0) → (l.length : Int) ≠ g.raw → upL g rd (N - k) k = noPage 2 ∧ upN g rd (N - k) k = k + 1 from fun k l hk h hl => by
    rw [show N - k = (N - (k + 1)) + 1 by omega]; exact up_len h hl)
  have HUA := Lib.hid (show ∀ k l, k < N → rd k = (l, 0) → (l.length : Int) = g.raw → rungE g l = 0 → upL g rd (N - k) k = (rungP g l, k, 0) ∧ upN g rd (N - k) k = k + 1 from fun k l hk h hl he => by
    rw [show N - k = (N - (k + 1)) + 1 by omega]; exact up_at h hl he)
  have HUN := Lib.hid (show ∀ k l, k < N → rd k = (l, 0) → (l.length : Int) = g.raw → rungE g l ≠ 0 → upL g rd (N - k) k = upL g rd (N - (k + 1)) (k + 1) ∧ upN g rd (N - k) k = upN g rd (N - (k + 1)) (k + 1) from fun k l hk h hl he => by
    rw [show N - k = (N - (k + 1)) + 1 by omega]; exact up_next h hl he)
  have HU0 := Lib.hid (show ∀ k, upL g rd 0 k = noPage 30 ∧ upN g rd 0 k = k from fun k => ⟨rfl, rfl⟩)
  obtain ⟨V, HV⟩ : ∃ V, Hid (V = upL g rd N 0) := ⟨_, rfl⟩
  obtain ⟨M, HM⟩ : ∃ M, Hid (M = upN g rd N 0) := ⟨_, rfl⟩
  rw [← HV.out, ← HM.out]
  have HNR := Lib.hid (show ∀ l, rungE g l = (decG g l).2.2.2 ∧ rungP g l = ((decG g l).1, (decG g l).2.1, (decG g l).2.2.1) from fun l => ⟨rfl, rfl⟩)
  have HDec := Lib.hid (fun A n c hc l w' h => PageDec_any g A n c hc l w' h)
  have HRaw := Lib.hid (fun A n c v hv w' => isRaw_is g A n c v hv w')
  generalize hgr : g.raw = gr at *
  generalize hdec : decG g = dec at *
  generalize hre : rungE g = re at *
  generalize hrp : rungP g = rp at *
  generalize hul : upL g rd = ul at *
  generalize hun : upN g rd = un at *
  clear hI hrd hgr hdec hre hrp hul hun
  obtain ⟨p, b, s, gc, kk, r, q⟩ := g
  simp only [Gm.val] at HDec HRaw ⊢
  have Y0 := Lib.hid ((GBox.new w ⟨p, b, s, gc, kk, r, q⟩ 23).below (below_new _ (.cells #[.slice none 0 0, .int .i64 0, .int .i64 0, .int .i64 0, .int .i64 0, .int .i64 0] 31)))
  have B0 := Lib.hid (below_step (below_new w (.cells #[.int .i64 p, .int .i64 b, .int .i64 s, .int .i64 gc, .int .i64 kk, .int .i64 r, .int .i64 q] 23)) (below_new _ (.cells #[.slice none 0 0, .int .i64 0, .int .i64 0, .int .i64 0, .int .i64 0, .int .i64 0] 31)))
  have T0 : Hid (CRow ((w.alloc (.cells #[.int .i64 p, .int .i64 b, .int .i64 s, .int .i64 gc, .int .i64 kk, .int .i64 r, .int .i64 q] 23)).alloc (.cells #[.slice none 0 0, .int .i64 0, .int .i64 0, .int .i64 0, .int .i64 0, .int .i64 0] 31)) (w.heap.size + 1) 31 #[.slice none 0 0, .int .i64 0, .int .i64 0, .int .i64 0, .int .i64 0, .int .i64 0]) := Lib.hid (by simpa using CRow.new (w.alloc (.cells #[.int .i64 p, .int .i64 b, .int .i64 s, .int .i64 gc, .int .i64 kk, .int .i64 r, .int .i64 q] 23)) #[.slice none 0 0, .int .i64 0, .int .i64 0, .int .i64 0, .int .i64 0, .int .i64 0] 31)
  have I0 := Lib.hid (HI.out 0 _ _ h0 B0.out)
  have hs0 : w.heap.size + 2 ≤ ((w.alloc (.cells #[.int .i64 p, .int .i64 b, .int .i64 s, .int .i64 gc, .int .i64 kk, .int .i64 r, .int .i64 q] 23)).alloc (.cells #[.slice none 0 0, .int .i64 0, .int .i64 0, .int .i64 0, .int .i64 0, .int .i64 0] 31)).heap.size := by simp
  have HS0 := Lib.hid hs0
  clear h0 hs0
  go_enter Try.func21, Try.ntmps21
  go_wp2
  generalize ((w.alloc (.cells #[.int .i64 p, .int .i64 b, .int .i64 s, .int .i64 gc, .int .i64 kk, .int .i64 r, .int .i64 q] 23)).alloc (.cells #[.slice none 0 0, .int .i64 0, .int .i64 0, .int .i64 0, .int .i64 0, .int .i64 0] 31)) = w0 at *
  have S0 := Lib.hid (Save.of (Y := Y) B0.out)
  clear B0
  go_loopw [16] (fun i wr => ∃ k : Nat, k ≤ N ∧ i = .int .i64 (k : Int) ∧ Hid (V = ul (N - k) k) ∧ Hid (M = un (N - k) k) ∧ Hid (I k wr) ∧ Hid (w.heap.size + 2 ≤ wr.heap.size) ∧ Hid (GBox wr w.heap.size ⟨p, b, s, gc, kk, r, q⟩) ∧ Hid (CRow wr (w.heap.size + 1) 31 #[.slice none 0 0, .int .i64 0, .int .i64 0, .int .i64 0, .int .i64 0, .int .i64 0]) ∧ Hid (Save Y w wr)) (fun i _ => N - (intOf i).toNat)
  case atStart => exact ⟨0, Nat.zero_le _, rfl, HV, HM, I0, HS0, Y0, T0, S0⟩
  case round =>
    obtain ⟨k, hk, rfl, Hul, Hun, HIk, HSz, HY, HT, HS⟩ := hrel
    by_cases hlt : k < N
    · obtain ⟨⟨l, er⟩, Hrd⟩ : ∃ z, Hid (rd k = z) := ⟨_, rfl⟩
      have hcall := HRD.out k wr hlt HIk.out (by have := HSz.out; omega)
      rw [Hrd.out] at hcall
      simp only at hcall
      go_wp2_with fail
      refine hcall.mono ?_
      rintro _ w1 ⟨A, n, c, rfl, hl, hS, hI1⟩
      have S1 := Lib.hid (HS.out.trans hS)
      have Y1 := Lib.hid (HY.out.save hS hGneY)
      have T1 := Lib.hid (HT.out.save hS hRneY)
      have I1 := Lib.hid hI1
      have Z1 := Lib.hid (show w.heap.size + 2 ≤ w1.heap.size from Nat.le_trans HSz.out hS.size)
      clear hcall hS hI1
      by_cases her : er = 0
      · subst her
        obtain ⟨hln, hR, hnc⟩ := hl rfl
        have HLN := Lib.hid hln
        have R1 := Lib.hid hR
        clear hl hln hR
        obtain ⟨_, g0, g1, g2, g3, g4, g5, g6⟩ := Y1.out
        simp only at g0 g1 g2 g3 g4 g5 g6
        go_wp2_with fail
        by_cases hraw : (n : Int) = gr
        · refine (HRaw.out A n c true (decide_eq_true hraw) _).mono ?_
          rintro _ w2 ⟨rfl, h2⟩
          have S2 := Lib.hid (S1.out.step h2)
          have Y2 := Lib.hid (Y1.out.below h2)
          have T2 := Lib.hid (T1.out.below h2)
          have R2 := Lib.hid (R1.out.below h2)
          have I2 := Lib.hid (HI.out _ _ _ I1.out (h2.mono (by have := Z1.out; omega)))
          have Z2 := Lib.hid (Nat.le_trans Z1.out h2.size)
          clear h2 g0 g1 g2 g3 g4 g5 g6
          obtain ⟨_, g0, g1, g2, g3, g4, g5, g6⟩ := Y2.out
          simp only at g0 g1 g2 g3 g4 g5 g6
          go_wp2_with fail
          refine (HDec.out A n c hnc l _ R2.out).mono ?_
          intro _ w3 hM
          obtain ⟨⟨vd, ⟨tk, ts, tq, te⟩, vs, ve⟩, HD⟩ : ∃ z, Hid (dec l = z) := ⟨_, rfl⟩
          rw [HD.out] at hM
          simp only at hM
          obtain ⟨vn, HVN⟩ : ∃ vn, Hid (vd.length = vn) := ⟨_, rfl⟩
          obtain ⟨A3, c3, rfl, R3, h3⟩ := hM.tag vn HVN.out tk ts tq te rfl
          have S3 := Lib.hid (S2.out.step h3.out)
          have Y3 := Lib.hid (Y2.out.below h3.out)
          have T3 := Lib.hid (T2.out.below h3.out)
          have I3 := Lib.hid (HI.out _ _ _ I2.out (h3.out.mono (by have := Z2.out; omega)))
          have Z3 := Lib.hid (Nat.le_trans Z2.out h3.out.size)
          clear hM h3 g0 g1 g2 g3 g4 g5 g6
          -- the tag's own block
          have D4 := Lib.hid (below_new w3 (.cells #[.int .i64 0, .int .i64 0, .int .i64 0, .int .i64 0] 29))
          have U4 := Lib.hid (CRow.new w3 #[.int .i64 0, .int .i64 0, .int .i64 0, .int .i64 0] 29)
          have U5 := Lib.hid (U4.out.set #[.int .i64 tk, .int .i64 ts, .int .i64 tq, .int .i64 te])
          have D5 := Lib.hid (below_setRow D4.out (Nat.le_refl _) #[.int .i64 tk, .int .i64 ts, .int .i64 tq, .int .i64 te])
          have S5 := Lib.hid (S3.out.step D5.out)
          have Y5 := Lib.hid (Y3.out.below D5.out)
          have T5 := Lib.hid (T3.out.below D5.out)
          have R5 := Lib.hid (R3.out.below D5.out)
          have I5 := Lib.hid (HI.out _ _ _ I3.out (D5.out.mono (by have := Z3.out; omega)))
          have Z5 := Lib.hid (Nat.le_trans Z3.out D5.out.size)
          by_cases hve : ve = 0
          · subst hve
            have HE := Lib.hid (HUA.out k l hlt Hrd.out (by rw [HLN.out]; exact hraw) (by rw [(HNR.out l).1, HD.out]))
            have HVV := Lib.hid (show V = ((vd, ⟨tk, ts, tq, te⟩, vs), k, 0) by rw [Hul.out, HE.out.1, (HNR.out l).2, HD.out])
            have HMM := Lib.hid (show M = k + 1 by rw [Hun.out, HE.out.2])
            clear HE Hul Hun hraw
            have z0 := U5.out.cell_at 0 _ rfl
            have z1 := U5.out.cell_at 1 _ rfl
            have z2 := U5.out.cell_at 2 _ rfl
            have z3 := U5.out.cell_at 3 _ rfl
            go_wp2_with (first | (with_reducible refine (?_ : wpList _ _ _ ({ dst := _, op := Op.store 29 _ _, type := _, pos := _, after := _, guard := _ } :: _) _ _); refine wpList_store_at rfl 29 _ _ rfl 4 size_tag _ w3.heap.size ?hx rfl _ U4.out.row ?hn ?ho ?h1 ?_; (case hx => simp [Act.eval]); (case hn => simp); (case ho => simp); (case h1 => simp [Value.oneCell'])) | (with_reducible refine (?_ : wpList _ _ _ ({ dst := _, op := Op.store 31 _ _, type := _, pos := _, after := _, guard := _ } :: _) _ _); refine wpList_store_at rfl 31 _ _ rfl 6 size_page _ (w.heap.size + 1) ?hx rfl _ T5.out.row ?hn ?ho ?h1 ?_; (case hx => simp [Act.eval]); (case hn => simp); (case ho => simp); (case h1 => simp [Value.oneCell'])))
            clear z0 z1 z2 z3
            generalize (w3.alloc (.cells #[.int .i64 0, .int .i64 0, .int .i64 0, .int .i64 0] 29)).setRow w3.heap.size #[.int .i64 tk, .int .i64 ts, .int .i64 tq, .int .i64 te] = w5 at *
            have T9 := Lib.hid (T5.out.set #[.slice A3 vn c3, .int .i64 tk, .int .i64 ts, .int .i64 tq, .int .i64 te, .int .i64 (vs : Int)])
            have D9 := Lib.hid (below_setRow (Below.refl w.heap.size w5) (Nat.le_succ _) #[.slice A3 vn c3, .int .i64 tk, .int .i64 ts, .int .i64 tq, .int .i64 te, .int .i64 (vs : Int)])
            have S9 := Lib.hid (S5.out.setRow (Nat.le_succ _) #[.slice A3 vn c3, .int .i64 tk, .int .i64 ts, .int .i64 tq, .int .i64 te, .int .i64 (vs : Int)])
            have R9 := Lib.hid (R5.out.setRow T5.out (by simp) #[.slice A3 vn c3, .int .i64 tk, .int .i64 ts, .int .i64 tq, .int .i64 te, .int .i64 (vs : Int)])
            have I9 := Lib.hid (HI.out _ _ _ I5.out D9.out)
            go_wp2
            refine bodyPost_ret (results_ctt_row rfl _ _ (w.heap.size + 1) 31 _ (0, 0) _ rfl T9.out.row Try.underlying31 rfl size_page) rfl ?_
            rw [HVV.out, HMM.out]
            refine ⟨⟨A3, c3, ?_, ?_⟩, S9.out, I9.out⟩
            · rw [HVN.out]
              rfl
            · rw [HVN.out]
              exact R9.out
          · have hvb : (ve == 0) = false := beq_eq_false_iff_ne.2 hve
            have HE := Lib.hid (HUN.out k l hlt Hrd.out (by rw [HLN.out]; exact hraw) (by rw [(HNR.out l).1, HD.out]; exact hve))
            have Hul2 := Lib.hid (Hul.out.trans HE.out.1)
            have Hun2 := Lib.hid (Hun.out.trans HE.out.2)
            clear HE Hul Hun hraw
            go_wp2_with (with_reducible refine (?_ : wpList _ _ _ ({ dst := _, op := Op.store 29 _ _, type := _, pos := _, after := _, guard := _ } :: _) _ _); refine wpList_store_at rfl 29 _ _ rfl 4 size_tag _ w3.heap.size ?hx rfl _ U4.out.row ?hn ?ho ?h1 ?_; (case hx => simp [Act.eval]); (case hn => simp); (case ho => simp); (case h1 => simp [Value.oneCell']))
            go_roundw
            case rel => exact ⟨k + 1, by omega, by go_num, Hul2, Hun2, I5, Z5, Y5, T5, S5⟩
            case measure => simp [intOf]; omega
        · refine (HRaw.out A n c false (decide_eq_false hraw) _).mono ?_
          rintro _ w2 ⟨rfl, h2⟩
          have S2 := Lib.hid (S1.out.step h2)
          have T2 := Lib.hid (T1.out.below h2)
          have I2 := Lib.hid (HI.out _ _ _ I1.out (h2.mono (by have := Z1.out; omega)))
          have HE := Lib.hid (HUL.out k l hlt Hrd.out (by rw [HLN.out]; exact hraw))
          have HVV := Lib.hid (show V = noPage 2 by rw [Hul.out, HE.out.1])
          have HMM := Lib.hid (show M = k + 1 by rw [Hun.out, HE.out.2])
          clear HE Hul Hun hraw h2 g0 g1 g2 g3 g4 g5 g6
          go_wp2_with (with_reducible refine (?_ : wpList _ _ _ ({ dst := _, op := Op.store 31 _ _, type := _, pos := _, after := _, guard := _ } :: _) _ _); refine wpList_store_at rfl 31 _ _ rfl 6 size_page _ (w.heap.size + 1) ?hx rfl _ T2.out.row ?hn ?ho ?h1 ?_; (case hx => simp [Act.eval]); (case hn => simp); (case ho => simp); (case h1 => simp [Value.oneCell']))
          have T9 := Lib.hid (T2.out.set #[.slice none 0 0, .int .i64 0, .int .i64 0, .int .i64 0, .int .i64 0, .int .i64 0])
          have D9 := Lib.hid (below_setRow (Below.refl w.heap.size w2) (Nat.le_succ _) #[.slice none 0 0, .int .i64 0, .int .i64 0, .int .i64 0, .int .i64 0, .int .i64 0])
          have S9 := Lib.hid (S2.out.setRow (Nat.le_succ _) #[.slice none 0 0, .int .i64 0, .int .i64 0, .int .i64 0, .int .i64 0, .int .i64 0])
          have I9 := Lib.hid (HI.out _ _ _ I2.out D9.out)
          go_wp2
          refine bodyPost_ret (results_ctt_row rfl _ _ (w.heap.size + 1) 31 _ (0, 0) _ rfl T9.out.row Try.underlying31 rfl size_page) rfl ?_
          rw [HVV.out, HMM.out]
          exact ⟨UpRet.no 2 _, S9.out, I9.out⟩
      · have heb : (er != 0) = true := by simpa using her
        have HE := Lib.hid (HU.out k l er hlt Hrd.out her)
        have HVV := Lib.hid (show V = noPage er by rw [Hul.out, HE.out.1])
        have HMM := Lib.hid (show M = k + 1 by rw [Hun.out, HE.out.2])
        clear HE Hul Hun hl
        go_wp2_with (with_reducible refine (?_ : wpList _ _ _ ({ dst := _, op := Op.store 31 _ _, type := _, pos := _, after := _, guard := _ } :: _) _ _); refine wpList_store_at rfl 31 _ _ rfl 6 size_page _ (w.heap.size + 1) ?hx rfl _ T1.out.row ?hn ?ho ?h1 ?_; (case hx => simp [Act.eval]); (case hn => simp); (case ho => simp); (case h1 => simp [Value.oneCell']))
        have T9 := Lib.hid (T1.out.set #[.slice none 0 0, .int .i64 0, .int .i64 0, .int .i64 0, .int .i64 0, .int .i64 0])
        have D9 := Lib.hid (below_setRow (Below.refl w.heap.size w1) (Nat.le_succ _) #[.slice none 0 0, .int .i64 0, .int .i64 0, .int .i64 0, .int .i64 0, .int .i64 0])
        have S9 := Lib.hid (S1.out.setRow (Nat.le_succ _) #[.slice none 0 0, .int .i64 0, .int .i64 0, .int .i64 0, .int .i64 0, .int .i64 0])
        have I9 := Lib.hid (HI.out _ _ _ I1.out D9.out)
        go_wp2
        refine bodyPost_ret (results_ctt_row rfl _ _ (w.heap.size + 1) 31 _ (0, 0) _ rfl T9.out.row Try.underlying31 rfl size_page) rfl ?_
        rw [HVV.out, HMM.out]
        exact ⟨UpRet.no er _, S9.out, I9.out⟩
    · obtain rfl : k = N := by omega
      have HVV := Lib.hid (show V = noPage 30 by rw [Hul.out, Nat.sub_self, (HU0.out k).1])
      have HMM := Lib.hid (show M = k by rw [Hun.out, Nat.sub_self, (HU0.out k).2])
      clear Hul Hun
      go_wp2_with (with_reducible refine (?_ : wpList _ _ _ ({ dst := _, op := Op.store 31 _ _, type := _, pos := _, after := _, guard := _ } :: _) _ _); refine wpList_store_at rfl 31 _ _ rfl 6 size_page _ (w.heap.size + 1) ?hx rfl _ HT.out.row ?hn ?ho ?h1 ?_; (case hx => simp [Act.eval]); (case hn => simp); (case ho => simp); (case h1 => simp [Value.oneCell']))
      have T9 := Lib.hid (HT.out.set #[.slice none 0 0, .int .i64 0, .int .i64 0, .int .i64 0, .int .i64 0, .int .i64 0])
      have D9 := Lib.hid (below_setRow (Below.refl w.heap.size wr) (Nat.le_succ _) #[.slice none 0 0, .int .i64 0, .int .i64 0, .int .i64 0, .int .i64 0, .int .i64 0])
      have S9 := Lib.hid (HS.out.setRow (Nat.le_succ _) #[.slice none 0 0, .int .i64 0, .int .i64 0, .int .i64 0, .int .i64 0, .int .i64 0])
      have I9 := Lib.hid (HI.out _ _ _ HIk.out D9.out)
      go_wp2
      refine bodyPost_ret (results_ctt_row rfl _ _ (w.heap.size + 1) 31 _ (0, 0) _ rfl T9.out.row Try.underlying31 rfl size_page) rfl ?_
      rw [HVV.out, HMM.out]
      exact ⟨UpRet.no 30 _, S9.out, I9.out⟩
end Go.Proofs.Ytgiihdeilkiphaa

/-
  Contract of ladder.readUp over the landed code, where what reads is Climb's own function over the rungs.
-/
namespace Go.Proofs.Ytgiihdeilkiphaa
open Go.RowKit
set_option maxRecDepth 100000

set_option maxHeartbeats 4000000 in
theorem readUp_C (g : Gm) (N : Nat) (hN : N ≤ 1099511627776) (p0 : Option Addr) (Y : Nat → Prop) (rd : Nat → List Nat × Int) (I : Nat → World → Prop) (w : World)
    (hI : ∀ k W W', I k W → Below w.heap.size W W' → I k W')
    (hY : ∀ k, Y k → k < w.heap.size)
    (hrd : ∀ k W, k < N → I k W → w.heap.size ≤ W.heap.size → Calls Try.prog 22 #[.int .i64 (k : Int), .pointer p0] W (RdE (rd k).1 (rd k).2 k Y I W))
    (h0 : I 0 w) :
    Calls Try.prog 21 #[g.val, .int .i64 (N : Int), .func (.func 22) #[] #[.pointer p0]] w
      fun e w' => UpRet (upL g rd N 0) e w' ∧ Save Y w w' ∧ I (upN g rd N 0) w' := by
  have HI := Lib.hid hI
  have HRD := Lib.hid hrd
  have hRneY : ¬ Y (w.heap.size + 1) := fun h => by have := hY _ h; omega
  have hGneY : ¬ Y w.heap.size := fun h => by have := hY _ h; omega
  have HU := Lib.hid (show ∀ k l er, k < N → rd k = (l, er) → er ≠ 0 → upL g rd (N - k) k = noPage er ∧ upN g rd (N - k) k = k + 1 from fun k l er hk h he => by
    rw [show N - k = (N - (k + 1)) + 1 by omega]; exact up_err h he)
  have HUL := Lib.hid (show ∀ k l, k < N → rd k = (l, 0) → (l.length : Int) ≠ g.raw → upL g rd (N - k) k = noPage 2 ∧ upN g rd (N - k) k = k + 1 from fun k l hk h hl => by
    rw [show N - k = (N - (k + 1)) + 1 by omega]; exact up_len h hl)
  have HUA := Lib.hid (show ∀ k l, k < N → rd k = (l, 0) → (l.length : Int) = g.raw → rungE g l = 0 → upL g rd (N - k) k = (rungP g l, k, 0) ∧ upN g rd (N - k) k = k + 1 from fun k l hk h hl he => by
    rw [show N - k = (N - (k + 1)) + 1 by omega]; exact up_at h hl he)
  have HUN := Lib.hid (show ∀ k l, k < N → rd k = (l, 0) → (l.length : Int) = g.raw → rungE g l ≠ 0 → upL g rd (N - k) k = upL g rd (N - (k + 1)) (k + 1) ∧ upN g rd (N - k) k = upN g rd (N - (k + 1)) (k + 1) from fun k l hk h hl he => by
    rw [show N - k = (N - (k + 1)) + 1 by omega]; exact up_next h hl he)
  have HU0 := Lib.hid (show ∀ k, upL g rd 0 k = noPage 30 ∧ upN g rd 0 k = k from fun k => ⟨rfl, rfl⟩)
  obtain ⟨V, HV⟩ : ∃ V, Hid (V = upL g rd N 0) := ⟨_, rfl⟩
  obtain ⟨M, HM⟩ : ∃ M, Hid (M = upN g rd N 0) := ⟨_, rfl⟩
  rw [← HV.out, ← HM.out]
  have HNR := Lib.hid (show ∀ l, rungE g l = (decG g l).2.2.2 ∧ rungP g l = ((decG g l).1, (decG g l).2.1, (decG g l).2.2.1) from fun l => ⟨rfl, rfl⟩)
  have HDec := Lib.hid (fun A n c hc l w' h => PageDec_any g A n c hc l w' h)
  have HRaw := Lib.hid (fun A n c v hv w' => isRaw_is g A n c v hv w')
  generalize hgr : g.raw = gr at *
  generalize hdec : decG g = dec at *
  generalize hre : rungE g = re at *
  generalize hrp : rungP g = rp at *
  generalize hul : upL g rd = ul at *
  generalize hun : upN g rd = un at *
  clear hI hrd hgr hdec hre hrp hul hun
  obtain ⟨p, b, s, gc, kk, r, q⟩ := g
  simp only [Gm.val] at HDec HRaw ⊢
  have Y0 := Lib.hid ((GBox.new w ⟨p, b, s, gc, kk, r, q⟩ 23).below (below_new _ (.cells #[.slice none 0 0, .int .i64 0, .int .i64 0, .int .i64 0, .int .i64 0, .int .i64 0] 31)))
  have B0 := Lib.hid (below_step (below_new w (.cells #[.int .i64 p, .int .i64 b, .int .i64 s, .int .i64 gc, .int .i64 kk, .int .i64 r, .int .i64 q] 23)) (below_new _ (.cells #[.slice none 0 0, .int .i64 0, .int .i64 0, .int .i64 0, .int .i64 0, .int .i64 0] 31)))
  have T0 : Hid (CRow ((w.alloc (.cells #[.int .i64 p, .int .i64 b, .int .i64 s, .int .i64 gc, .int .i64 kk, .int .i64 r, .int .i64 q] 23)).alloc (.cells #[.slice none 0 0, .int .i64 0, .int .i64 0, .int .i64 0, .int .i64 0, .int .i64 0] 31)) (w.heap.size + 1) 31 #[.slice none 0 0, .int .i64 0, .int .i64 0, .int .i64 0, .int .i64 0, .int .i64 0]) := Lib.hid (by simpa using CRow.new (w.alloc (.cells #[.int .i64 p, .int .i64 b, .int .i64 s, .int .i64 gc, .int .i64 kk, .int .i64 r, .int .i64 q] 23)) #[.slice none 0 0, .int .i64 0, .int .i64 0, .int .i64 0, .int .i64 0, .int .i64 0] 31)
  have I0 := Lib.hid (HI.out 0 _ _ h0 B0.out)
  have hs0 : w.heap.size + 2 ≤ ((w.alloc (.cells #[.int .i64 p, .int .i64 b, .int .i64 s, .int .i64 gc, .int .i64 kk, .int .i64 r, .int .i64 q] 23)).alloc (.cells #[.slice none 0 0, .int .i64 0, .int .i64 0, .int .i64 0, .int .i64 0, .int .i64 0] 31)).heap.size := by simp
  have HS0 := Lib.hid hs0
  clear h0 hs0
  go_enter Try.func21, Try.ntmps21
  go_wp2
  generalize ((w.alloc (.cells #[.int .i64 p, .int .i64 b, .int .i64 s, .int .i64 gc, .int .i64 kk, .int .i64 r, .int .i64 q] 23)).alloc (.cells #[.slice none 0 0, .int .i64 0, .int .i64 0, .int .i64 0, .int .i64 0, .int .i64 0] 31)) = w0 at *
  have S0 := Lib.hid (Save.of (Y := Y) B0.out)
  clear B0
  go_loopw [16] (fun i wr => ∃ k : Nat, k ≤ N ∧ i = .int .i64 (k : Int) ∧ Hid (V = ul (N - k) k) ∧ Hid (M = un (N - k) k) ∧ Hid (I k wr) ∧ Hid (w.heap.size + 2 ≤ wr.heap.size) ∧ Hid (GBox wr w.heap.size ⟨p, b, s, gc, kk, r, q⟩) ∧ Hid (CRow wr (w.heap.size + 1) 31 #[.slice none 0 0, .int .i64 0, .int .i64 0, .int .i64 0, .int .i64 0, .int .i64 0]) ∧ Hid (Save Y w wr)) (fun i _ => N - (intOf i).toNat)
  case atStart => exact ⟨0, Nat.zero_le _, rfl, HV, HM, I0, HS0, Y0, T0, S0⟩
  case round =>
    obtain ⟨k, hk, rfl, Hul, Hun, HIk, HSz, HY, HT, HS⟩ := hrel
    by_cases hlt : k < N
    · obtain ⟨⟨l, er⟩, Hrd⟩ : ∃ z, Hid (rd k = z) := ⟨_, rfl⟩
      have hcall := HRD.out k wr hlt HIk.out (by have := HSz.out; omega)
      rw [Hrd.out] at hcall
      simp only at hcall
      go_wp2_with fail
      refine hcall.mono ?_
      rintro _ w1 ⟨A, n, c, rfl, hl, hS, hI1⟩
      have S1 := Lib.hid (HS.out.trans hS)
      have Y1 := Lib.hid (HY.out.save hS hGneY)
      have T1 := Lib.hid (HT.out.save hS hRneY)
      have I1 := Lib.hid hI1
      have Z1 := Lib.hid (show w.heap.size + 2 ≤ w1.heap.size from Nat.le_trans HSz.out hS.size)
      clear hcall hS hI1
      by_cases her : er = 0
      · subst her
        obtain ⟨hln, hR, hnc⟩ := hl rfl
        have HLN := Lib.hid hln
        have R1 := Lib.hid hR
        clear hl hln hR
        obtain ⟨_, g0, g1, g2, g3, g4, g5, g6⟩ := Y1.out
        simp only at g0 g1 g2 g3 g4 g5 g6
        go_wp2_with fail
        by_cases hraw : (n : Int) = gr
        · refine (HRaw.out A n c true (decide_eq_true hraw) _).mono ?_
          rintro _ w2 ⟨rfl, h2⟩
          have S2 := Lib.hid (S1.out.step h2)
          have Y2 := Lib.hid (Y1.out.below h2)
          have T2 := Lib.hid (T1.out.below h2)
          have R2 := Lib.hid (R1.out.below h2)
          have I2 := Lib.hid (HI.out _ _ _ I1.out (h2.mono (by have := Z1.out; omega)))
          have Z2 := Lib.hid (Nat.le_trans Z1.out h2.size)
          clear h2 g0 g1 g2 g3 g4 g5 g6
          obtain ⟨_, g0, g1, g2, g3, g4, g5, g6⟩ := Y2.out
          simp only at g0 g1 g2 g3 g4 g5 g6
          go_wp2_with fail
          refine (HDec.out A n c hnc l _ R2.out).mono ?_
          intro _ w3 hM
          obtain ⟨⟨vd, ⟨tk, ts, tq, te⟩, vs, ve⟩, HD⟩ : ∃ z, Hid (dec l = z) := ⟨_, rfl⟩
          rw [HD.out] at hM
          simp only at hM
          obtain ⟨vn, HVN⟩ : ∃ vn, Hid (vd.length = vn) := ⟨_, rfl⟩
          obtain ⟨A3, c3, rfl, R3, h3⟩ := hM.tag vn HVN.out tk ts tq te rfl
          have S3 := Lib.hid (S2.out.step h3.out)
          have Y3 := Lib.hid (Y2.out.below h3.out)
          have T3 := Lib.hid (T2.out.below h3.out)
          have I3 := Lib.hid (HI.out _ _ _ I2.out (h3.out.mono (by have := Z2.out; omega)))
          have Z3 := Lib.hid (Nat.le_trans Z2.out h3.out.size)
          clear hM h3 g0 g1 g2 g3 g4 g5 g6
          -- the tag's own block
          have D4 := Lib.hid (below_new w3 (.cells #[.int .i64 0, .int .i64 0, .int .i64 0, .int .i64 0] 29))
          have U4 := Lib.hid (CRow.new w3 #[.int .i64 0, .int .i64 0, .int .i64 0, .int .i64 0] 29)
          have U5 := Lib.hid (U4.out.set #[.int .i64 tk, .int .i64 ts, .int .i64 tq, .int .i64 te])
          have D5 := Lib.hid (below_setRow D4.out (Nat.le_refl _) #[.int .i64 tk, .int .i64 ts, .int .i64 tq, .int .i64 te])
          have S5 := Lib.hid (S3.out.step D5.out)
          have Y5 := Lib.hid (Y3.out.below D5.out)
          have T5 := Lib.hid (T3.out.below D5.out)
          have R5 := Lib.hid (R3.out.below D5.out)
          have I5 := Lib.hid (HI.out _ _ _ I3.out (D5.out.mono (by have := Z3.out; omega)))
          have Z5 := Lib.hid (Nat.le_trans Z3.out D5.out.size)
          by_cases hve : ve = 0
          · subst hve
            have HE := Lib.hid (HUA.out k l hlt Hrd.out (by rw [HLN.out]; exact hraw) (by rw [(HNR.out l).1, HD.out]))
            have HVV := Lib.hid (show V = ((vd, ⟨tk, ts, tq, te⟩, vs), k, 0) by rw [Hul.out, HE.out.1, (HNR.out l).2, HD.out])
            have HMM := Lib.hid (show M = k + 1 by rw [Hun.out, HE.out.2])
            clear HE Hul Hun hraw
            have z0 := U5.out.cell_at 0 _ rfl
            have z1 := U5.out.cell_at 1 _ rfl
            have z2 := U5.out.cell_at 2 _ rfl
            have z3 := U5.out.cell_at 3 _ rfl
            go_wp2_with (first | (with_reducible refine (?_ : wpList _ _ _ ({ dst := _, op := Op.store 29 _ _, type := _, pos := _, after := _, guard := _ } :: _) _ _); refine wpList_store_at rfl 29 _ _ rfl 4 size_tag _ w3.heap.size ?hx rfl _ U4.out.row ?hn ?ho ?h1 ?_; (case hx => simp [Act.eval]); (case hn => simp); (case ho => simp); (case h1 => simp [Value.oneCell'])) | (with_reducible refine (?_ : wpList _ _ _ ({ dst := _, op := Op.store 31 _ _, type := _, pos := _, after := _, guard := _ } :: _) _ _); refine wpList_store_at rfl 31 _ _ rfl 6 size_page _ (w.heap.size + 1) ?hx rfl _ T5.out.row ?hn ?ho ?h1 ?_; (case hx => simp [Act.eval]); (case hn => simp); (case ho => simp); (case h1 => simp [Value.oneCell'])))
            clear z0 z1 z2 z3
            generalize (w3.alloc (.cells #[.int .i64 0, .int .i64 0, .int .i64 0, .int .i64 0] 29)).setRow w3.heap.size #[.int .i64 tk, .int .i64 ts, .int .i64 tq, .int .i64 te] = w5 at *
            have T9 := Lib.hid (T5.out.set #[.slice A3 vn c3, .int .i64 tk, .int .i64 ts, .int .i64 tq, .int .i64 te, .int .i64 (vs : Int)])
            have D9 := Lib.hid (below_setRow (Below.refl w.heap.size w5) (Nat.le_succ _) #[.slice A3 vn c3, .int .i64 tk, .int .i64 ts, .int .i64 tq, .int .i64 te, .int .i64 (vs : Int)])
            have S9 := Lib.hid (S5.out.setRow (Nat.le_succ _) #[.slice A3 vn c3, .int .i64 tk, .int .i64 ts, .int .i64 tq, .int .i64 te, .int .i64 (vs : Int)])
            have R9 := Lib.hid (R5.out.setRow T5.out (by simp) #[.slice A3 vn c3, .int .i64 tk, .int .i64 ts, .int .i64 tq, .int .i64 te, .int .i64 (vs : Int)])
            have I9 := Lib.hid (HI.out _ _ _ I5.out D9.out)
            go_wp2
            refine bodyPost_ret (results_ctt_row rfl _ _ (w.heap.size + 1) 31 _ (0, 0) _ rfl T9.out.row Try.underlying31 rfl size_page) rfl ?_
            rw [HVV.out, HMM.out]
            refine ⟨⟨A3, c3, ?_, ?_⟩, S9.out, I9.out⟩
            · rw [HVN.out]
              rfl
            · rw [HVN.out]
              exact R9.out
          · have hvb : (ve == 0) = false := beq_eq_false_iff_ne.2 hve
            have HE := Lib.hid (HUN.out k l hlt Hrd.out (by rw [HLN.out]; exact hraw) (by rw [(HNR.out l).1, HD.out]; exact hve))
            have Hul2 := Lib.hid (Hul.out.trans HE.out.1)
            have Hun2 := Lib.hid (Hun.out.trans HE.out.2)
            clear HE Hul Hun hraw
            go_wp2_with (with_reducible refine (?_ : wpList _ _ _ ({ dst := _, op := Op.store 29 _ _, type := _, pos := _, after := _, guard := _ } :: _) _ _); refine wpList_store_at rfl 29 _ _ rfl 4 size_tag _ w3.heap.size ?hx rfl _ U4.out.row ?hn ?ho ?h1 ?_; (case hx => simp [Act.eval]); (case hn => simp); (case ho => simp); (case h1 => simp [Value.oneCell']))
            go_roundw
            case rel => exact ⟨k + 1, by omega, by go_num, Hul2, Hun2, I5, Z5, Y5, T5, S5⟩
            case measure => simp [intOf]; omega
        · refine (HRaw.out A n c false (decide_eq_false hraw) _).mono ?_
          rintro _ w2 ⟨rfl, h2⟩
          have S2 := Lib.hid (S1.out.step h2)
          have T2 := Lib.hid (T1.out.below h2)
          have I2 := Lib.hid (HI.out _ _ _ I1.out (h2.mono (by have := Z1.out; omega)))
          have HE := Lib.hid (HUL.out k l hlt Hrd.out (by rw [HLN.out]; exact hraw))
          have HVV := Lib.hid (show V = noPage 2 by rw [Hul.out, HE.out.1])
          have HMM := Lib.hid (show M = k + 1 by rw [Hun.out, HE.out.2])
          clear HE Hul Hun hraw h2 g0 g1 g2 g3 g4 g5 g6
          go_wp2_with (with_reducible refine (?_ : wpList _ _ _ ({ dst := _, op := Op.store 31 _ _, type := _, pos := _, after := _, guard := _ } :: _) _ _); refine wpList_store_at rfl 31 _ _ rfl 6 size_page _ (w.heap.size + 1) ?hx rfl _ T2.out.row ?hn ?ho ?h1 ?_; (case hx => simp [Act.eval]); (case hn => simp); (case ho => simp); (case h1 => simp [Value.oneCell']))
          have T9 := Lib.hid (T2.out.set #[.slice none 0 0, .int .i64 0, .int .i64 0, .int .i64 0, .int .i64 0, .int .i64 0])
          have D9 := Lib.hid (below_setRow (Below.refl w.heap.size w2) (Nat.le_succ _) #[.slice none 0 0, .int .i64 0, .int .i64 0, .int .i64 0, .int .i64 0, .int .i64 0])
          have S9 := Lib.hid (S2.out.setRow (Nat.le_succ _) #[.slice none 0 0, .int .i64 0, .int .i64 0, .int .i64 0, .int .i64 0, .int .i64 0])
          have I9 := Lib.hid (HI.out _ _ _ I2.out D9.out)
          go_wp2
          refine bodyPost_ret (results_ctt_row rfl _ _ (w.heap.size + 1) 31 _ (0, 0) _ rfl T9.out.row Try.underlying31 rfl size_page) rfl ?_
          rw [HVV.out, HMM.out]
          exact ⟨UpRet.no 2 _, S9.out, I9.out⟩
      · have heb : (er != 0) = true := by simpa using her
        have HE := Lib.hid (HU.out k l er hlt Hrd.out her)
        have HVV := Lib.hid (show V = noPage er by rw [Hul.out, HE.out.1])
        have HMM := Lib.hid (show M = k + 1 by rw [Hun.out, HE.out.2])
        clear HE Hul Hun hl
        go_wp2_with (with_reducible refine (?_ : wpList _ _ _ ({ dst := _, op := Op.store 31 _ _, type := _, pos := _, after := _, guard := _ } :: _) _ _); refine wpList_store_at rfl 31 _ _ rfl 6 size_page _ (w.heap.size + 1) ?hx rfl _ T1.out.row ?hn ?ho ?h1 ?_; (case hx => simp [Act.eval]); (case hn => simp); (case ho => simp); (case h1 => simp [Value.oneCell']))
        have T9 := Lib.hid (T1.out.set #[.slice none 0 0, .int .i64 0, .int .i64 0, .int .i64 0, .int .i64 0, .int .i64 0])
        have D9 := Lib.hid (below_setRow (Below.refl w.heap.size w1) (Nat.le_succ _) #[.slice none 0 0, .int .i64 0, .int .i64 0, .int .i64 0, .int .i64 0, .int .i64 0])
        have S9 := Lib.hid (S1.out.setRow (Nat.le_succ _) #[.slice none 0 0, .int .i64 0, .int .i64 0, .int .i64 0, .int .i64 0, .int .i64 0])
        have I9 := Lib.hid (HI.out _ _ _ I1.out D9.out)
        go_wp2
        refine bodyPost_ret (results_ctt_row rfl _ _ (w.heap.size + 1) 31 _ (0, 0) _ rfl T9.out.row Try.underlying31 rfl size_page) rfl ?_
        rw [HVV.out, HMM.out]
        exact ⟨UpRet.no er _, S9.out, I9.out⟩
    · obtain rfl : k = N := by omega
      have HVV := Lib.hid (show V = noPage 30 by rw [Hul.out, Nat.sub_self, (HU0.out k).1])
      have HMM := Lib.hid (show M = k by rw [Hun.out, Nat.sub_self, (HU0.out k).2])
      clear Hul Hun
      go_wp2_with (with_reducible refine (?_ : wpList _ _ _ ({ dst := _, op := Op.store 31 _ _, type := _, pos := _, after := _, guard := _ } :: _) _ _); refine wpList_store_at rfl 31 _ _ rfl 6 size_page _ (w.heap.size + 1) ?hx rfl _ HT.out.row ?hn ?ho ?h1 ?_; (case hx => simp [Act.eval]); (case hn => simp); (case ho => simp); (case h1 => simp [Value.oneCell']))
      have T9 := Lib.hid (HT.out.set #[.slice none 0 0, .int .i64 0, .int .i64 0, .int .i64 0, .int .i64 0, .int .i64 0])
      have D9 := Lib.hid (below_setRow (Below.refl w.heap.size wr) (Nat.le_succ _) #[.slice none 0 0, .int .i64 0, .int .i64 0, .int .i64 0, .int .i64 0, .int .i64 0])
      have S9 := Lib.hid (HS.out.setRow (Nat.le_succ _) #[.slice none 0 0, .int .i64 0, .int .i64 0, .int .i64 0, .int .i64 0, .int .i64 0])
      have I9 := Lib.hid (HI.out _ _ _ HIk.out D9.out)
      go_wp2
      refine bodyPost_ret (results_ctt_row rfl _ _ (w.heap.size + 1) 31 _ (0, 0) _ rfl T9.out.row Try.underlying31 rfl size_page) rfl ?_
      rw [HVV.out, HMM.out]
      exact ⟨UpRet.no 30 _, S9.out, I9.out⟩
end Go.Proofs.Ytgiihdeilkiphaa

/-
  Contract of ladder.Climb over the landed code.
-/
namespace Go.Proofs.Ytgiihdeilkiphaa
open Go.RowKit
set_option maxRecDepth 100000

theorem RR.getD {w : World} {A : Option Addr} {n : Nat} {PA : Nat → Option Addr} {PC : Nat → Nat} {ls : List (List Nat)} (_h : RR w A n PA PC ls) {k : Nat} {l : List Nat} (hl : ls[k]? = some l) : ls.getD k [] = l := by
  simp [List.getD, hl]

set_option maxHeartbeats 400000 in
theorem climb1_any (A : Option Addr) (n c : Nat) (PA : Nat → Option Addr) (PC : Nat → Nat) (ls : List (List Nat)) (k q : Nat) (Y : Nat → Prop) (I : Nat → World → Prop) (w : World) (hk : k < n) (hr : RR w A n PA PC ls) (hb : CRow w q 24 #[.slice A n c]) (hI : I (k + 1) w) :
    Calls Try.prog 22 #[.int .i64 (k : Int), .pointer (some ⟨q, 0, none⟩)] w (RdE (ls.getD k []) 0 k Y I w) := by
  obtain ⟨b1, o1, l, m1, rfl, hb1, HLk, HLm, hcl, HRk, hmc, _⟩ := hr.at_ hk
  have e := hr.getD HLk.out
  rw [e]
  generalize PA k = A1 at *
  generalize PC k = C1 at *
  have c0 := hb.cell_at 0 _ rfl
  have HI := Lib.hid hI
  clear hI hr hb e
  go_enter Try.func22, Try.ntmps22
  go_wp2
  go_ret2
  exact ⟨A1, m1, C1, rfl, fun _ => ⟨HLm.out, HRk.out, hmc⟩, Save.refl _ _, HI.out⟩

/-- It returns a page, a rung and an error, and nothing that was there has turned. -/
def Climbs (V : (List Nat × Tg × Nat) × Nat × Int) (w : World) (e : Ending) (w' : World) : Prop := UpRet V e w' ∧ Below w.heap.size w w'

set_option maxHeartbeats 2000000 in
theorem Climb_any (g : Gm) (A : Option Addr) (n c : Nat) (PA : Nat → Option Addr) (PC : Nat → Nat) (ls : List (List Nat)) (w : World) (hr : RR w A n PA PC ls) (hn : n ≤ 1099511627776) :
    Calls Try.prog 9 #[g.val, .slice A n c] w (Climbs (climbL g ls) w) := by
  have HL := Lib.hid hr.len
  have HR := Lib.hid hr
  have HIL := Lib.hid (fun w' h => isLadder_any g A n c PA PC ls w' h hn)
  have HUP := Lib.hid (fun p0 rd I w' => readUp_C g n hn p0 (fun _ => False) rd I w')
  have HVN := Lib.hid (show climbOk g ls = false → climbL g ls = noPage 2 from climbL_no)
  have HVY := Lib.hid (show climbOk g ls = true → climbL g ls = upL g (fun j => (ls.getD j [], 0)) n 0 from fun h => by
    rw [up_climb g ls (climbOk_iff.1 h).2.2.2 n 0 (by rw [hr.len]; rfl), List.drop_zero]
    unfold climbL
    rw [if_pos h])
  obtain ⟨v, HV⟩ : ∃ v, Hid (climbOk g ls = v) := ⟨_, rfl⟩
  rw [HV.out] at HIL HVN HVY
  generalize climbL g ls = X at *
  clear hr HV
  obtain ⟨p, b, s, gc, k, r, q⟩ := g
  simp only [Gm.val] at HIL HUP ⊢
  have W0 : ∃ w0, Hid (w0 = ((w.alloc (.cells #[.int .i64 p, .int .i64 b, .int .i64 s, .int .i64 gc, .int .i64 k, .int .i64 r, .int .i64 q] 23)).alloc (.cells #[.slice A n c] 24)).alloc (.cells #[.slice none 0 0, .int .i64 0, .int .i64 0, .int .i64 0, .int .i64 0, .int .i64 0] 31)) := ⟨_, rfl⟩
  obtain ⟨w0, HW0⟩ := W0
  have Y0 : Hid (GBox w0 w.heap.size ⟨p, b, s, gc, k, r, q⟩) := Lib.hid (by rw [HW0.out]; exact ((GBox.new w ⟨p, b, s, gc, k, r, q⟩ 23).below (below_new _ _)).below (below_new _ _))
  have X0 : Hid (CRow w0 (w.heap.size + 1) 24 #[.slice A n c]) := Lib.hid (by rw [HW0.out]; exact (show CRow ((w.alloc (.cells #[.int .i64 p, .int .i64 b, .int .i64 s, .int .i64 gc, .int .i64 k, .int .i64 r, .int .i64 q] 23)).alloc (.cells #[.slice A n c] 24)) (w.heap.size + 1) 24 #[.slice A n c] by simpa using CRow.new (w.alloc (.cells #[.int .i64 p, .int .i64 b, .int .i64 s, .int .i64 gc, .int .i64 k, .int .i64 r, .int .i64 q] 23)) #[.slice A n c] 24).alloc _)
  have T0 : Hid (CRow w0 (w.heap.size + 2) 31 #[.slice none 0 0, .int .i64 0, .int .i64 0, .int .i64 0, .int .i64 0, .int .i64 0]) := Lib.hid (by rw [HW0.out]; simpa using CRow.new ((w.alloc (.cells #[.int .i64 p, .int .i64 b, .int .i64 s, .int .i64 gc, .int .i64 k, .int .i64 r, .int .i64 q] 23)).alloc (.cells #[.slice A n c] 24)) #[.slice none 0 0, .int .i64 0, .int .i64 0, .int .i64 0, .int .i64 0, .int .i64 0] 31)
  have B0 : Hid (Below w.heap.size w w0) := Lib.hid (by rw [HW0.out]; exact below_step (below_step (below_new w _) (below_new _ _)) (below_new _ _))
  have R0 := Lib.hid (HR.out.below B0.out)
  obtain ⟨_, g0, g1, g2, g3, g4, g5, g6⟩ := Y0.out
  simp only at g0 g1 g2 g3 g4 g5 g6
  have c0 := X0.out.cell_at 0 _ rfl
  go_enter Try.func9, Try.ntmps9
  go_wp2_with fail
  rw [← HW0.out]
  refine (HIL.out _ R0.out).mono ?_
  rintro _ w1 ⟨rfl, h1⟩
  have B1 := Lib.hid (below_step B0.out h1)
  have Y1 := Lib.hid (Y0.out.below h1)
  have X1 := Lib.hid (X0.out.below h1)
  have T1 := Lib.hid (T0.out.below h1)
  have R1 := Lib.hid (R0.out.below h1)
  clear h1 g0 g1 g2 g3 g4 g5 g6 c0 HW0 HIL
  cases v
  · have HX := Lib.hid (HVN.out rfl)
    go_wp2_with (with_reducible refine (?_ : wpList _ _ _ ({ dst := _, op := Op.store 31 _ _, type := _, pos := _, after := _, guard := _ } :: _) _ _); refine wpList_store_at rfl 31 _ _ rfl 6 size_page _ (w.heap.size + 2) ?hx rfl _ T1.out.row ?hn ?ho ?h1 ?_; (case hx => simp [Act.eval]); (case hn => simp); (case ho => simp); (case h1 => simp [Value.oneCell']))
    have T9 := Lib.hid (T1.out.set #[.slice none 0 0, .int .i64 0, .int .i64 0, .int .i64 0, .int .i64 0, .int .i64 0])
    have B9 := Lib.hid (below_setRow B1.out (Nat.le_add_right _ 2) #[.slice none 0 0, .int .i64 0, .int .i64 0, .int .i64 0, .int .i64 0, .int .i64 0])
    go_wp2
    refine bodyPost_ret (results_ctt_row rfl _ _ (w.heap.size + 2) 31 _ (0, 0) _ rfl T9.out.row Try.underlying31 rfl size_page) rfl ?_
    rw [HX.out]
    exact ⟨UpRet.no 2 _, B9.out⟩
  · have HX := Lib.hid (HVY.out rfl)
    obtain ⟨_, g0, g1, g2, g3, g4, g5, g6⟩ := Y1.out
    simp only at g0 g1 g2 g3 g4 g5 g6
    have c0 := X1.out.cell_at 0 _ rfl
    go_wp2_with fail
    refine (HUP.out (some ⟨w.heap.size + 1, 0, none⟩) (fun j => (ls.getD j [], 0)) (fun _ W => Below w1.heap.size w1 W) w1 (fun _ W W' h h2 => h.trans h2) (fun _ h => h.elim) (fun j W hj hI hs => climb1_any A n c PA PC ls j _ _ _ W hj (R1.out.below hI) (X1.out.below hI) hI) (Below.refl _ _)).mono ?_
    rintro e w2 ⟨hU, hS, hI⟩
    rw [← HX.out] at hU
    obtain ⟨⟨⟨vd, ⟨tk, ts, tq, te⟩, vs⟩, rung, er⟩, HXX⟩ : ∃ z, Hid (X = z) := ⟨_, rfl⟩
    rw [HXX.out] at hU
    obtain ⟨vn, HVN2⟩ : ∃ vn, Hid (vd.length = vn) := ⟨_, rfl⟩
    obtain ⟨A3, c3, rfl, R3⟩ := hU.at_ HVN2.out
    have B2 := Lib.hid (below_step B1.out hI)
    have T2 := Lib.hid (T1.out.below hI)
    clear hU hS hI g0 g1 g2 g3 g4 g5 g6 c0 HX HUP
    go_wp2_with (with_reducible refine (?_ : wpList _ _ _ ({ dst := _, op := Op.store 31 _ _, type := _, pos := _, after := _, guard := _ } :: _) _ _); refine wpList_store_at rfl 31 _ _ rfl 6 size_page _ (w.heap.size + 2) ?hx rfl _ T2.out.row ?hn ?ho ?h1 ?_; (case hx => simp [Act.eval]); (case hn => simp); (case ho => simp); (case h1 => simp [Value.oneCell']))
    have T9 := Lib.hid (T2.out.set #[.slice A3 vn c3, .int .i64 tk, .int .i64 ts, .int .i64 tq, .int .i64 te, .int .i64 (vs : Int)])
    have B9 := Lib.hid (below_setRow B2.out (Nat.le_add_right _ 2) #[.slice A3 vn c3, .int .i64 tk, .int .i64 ts, .int .i64 tq, .int .i64 te, .int .i64 (vs : Int)])
    have R9 := Lib.hid (R3.out.setRow T2.out (by simp) #[.slice A3 vn c3, .int .i64 tk, .int .i64 ts, .int .i64 tq, .int .i64 te, .int .i64 (vs : Int)])
    go_wp2
    refine bodyPost_ret (results_ctt_row rfl _ _ (w.heap.size + 2) 31 _ (0, 0) _ rfl T9.out.row Try.underlying31 rfl size_page) rfl ?_
    rw [HXX.out]
    refine ⟨⟨A3, c3, ?_, ?_⟩, B9.out⟩
    · rw [HVN2.out]
      rfl
    · rw [HVN2.out]
      exact R9.out
end Go.Proofs.Ytgiihdeilkiphaa

/-
  Contracts of the law LadderWalks' own function, and of ladder.Walk over it, over the landed code.
-/
namespace Go.Proofs.Ytgiihdeilkiphaa
open Go.RowKit
set_option maxRecDepth 100000

theorem Save.setCell {Y : Nat → Prop} {w w' : World} (h : Save Y w w') {p : Addr} (hp : Y p.block) (u : Value) : Save Y w (w'.setCell p u) :=
  ⟨h.os, h.tape, h.output, by simpa [World.setCell] using h.size, fun k hk hy => (Below.heap_setCell w' p u k (fun e => hy (e ▸ hp))).trans (h.block k hk hy)⟩
theorem CRow.under {w w' : World} {g B : Nat} {u : TypeId} {cs : Array Value} (h : CRow w g u cs) (hb : Below B w w') (hg : g < B) : CRow w' g u cs := (hb.block g hg).trans h

theorem up_len_le (g : Gm) (rd : Nat → List Nat × Int) (N : Nat) (hb : ∀ k l er, rd k = (l, er) → ∀ x ∈ l, x < 256) : (if g.ok then upL g rd N 0 else noPage 2).1.1.length ≤ 8224 := by
  have key : ∀ m k, (upL g rd m k).1.1.length ≤ 8224 := by
    intro m
    induction m with
    | zero => intro k; simp [upL, noPage]
    | succ m ih =>
      intro k
      unfold upL
      split
      · simp [noPage]
      · split
        · simp [noPage]
        · split
          · exact decG_len g _ (hb k _ _ rfl)
          · exact ih (k + 1)
  cases g.ok
  · simp [noPage]
  · exact key N 0
/-- What the law's function answers. -/
def rdW (n bad : Nat) (ls : List (List Nat)) (k : Nat) : List Nat × Int := if n ≤ k ∨ k = bad then ([], 20) else (ls.getD k [], 0)
/-- The law's two counters, after k calls, all in order. -/
def IW (w2 : World) (k : Nat) (W : World) : Prop := Below w2.heap.size w2 W ∧ CRow W w2.heap.size 3 #[.int .i64 (k : Int)] ∧ CRow W (w2.heap.size + 1) 4 #[.bool true]
def YW (w2 : World) (j : Nat) : Prop := j = w2.heap.size ∨ j = w2.heap.size + 1
theorem IW.below {w2 W W' : World} {k B : Nat} (h : IW w2 k W) (hb : Below B W W') (hB : w2.heap.size + 2 ≤ B) : IW w2 k W' :=
  ⟨h.1.trans (hb.mono (by omega)), h.2.1.under hb (by omega), h.2.2.under hb (by omega)⟩

set_option maxHeartbeats 1000000 in
theorem walk1_any (A : Option Addr) (n c : Nat) (PA : Nat → Option Addr) (PC : Nat → Nat) (ls : List (List Nat)) (bad x4 x5 k : Nat) (w2 W : World) (hr : RR w2 A n PA PC ls) (h4 : CRow w2 x4 24 #[.slice A n c]) (h5 : CRow w2 x5 5 #[.int .u8 (bad : Int)])
    (hk : k ≤ 1099511627776) (hbad : bad < 256) (hI : IW w2 k W) :
    Calls Try.prog 13 #[.int .i64 (k : Int), .pointer (some ⟨w2.heap.size + 1, 0, none⟩), .pointer (some ⟨w2.heap.size, 0, none⟩), .pointer (some ⟨x4, 0, none⟩), .pointer (some ⟨x5, 0, none⟩)] W (RdE (rdW n bad ls k).1 (rdW n bad ls k).2 k (YW w2) (IW w2) W) := by
  obtain ⟨hB, h7, h8⟩ := hI
  have ne78 : w2.heap.size ≠ (⟨w2.heap.size + 1, 0, none⟩ : Addr).block := by simp
  have ne87 : w2.heap.size + 1 ≠ (⟨w2.heap.size, 0, none⟩ : Addr).block := by simp
  -- the world behind both stores
  have c8 := h8.cell_at 0 _ rfl
  have f8 := h8.frozen 0
  have h7a := h7.setCell_other ne78 (.bool true)
  have h8a := h8.setCell 0 (.bool true)
  have c7w := h7.cell_at 0 _ rfl
  have c7 := h7a.cell_at 0 _ rfl
  have f7 := h7a.frozen 0
  have h7b := Lib.hid (h7a.setCell 0 (.int .i64 ((k : Int) + 1)))
  have h8b := Lib.hid (h8a.setCell_other ne87 (.int .i64 ((k : Int) + 1)))
  have B2 := Lib.hid ((hB.setCell (p := ⟨w2.heap.size + 1, 0, none⟩) (Nat.le_succ _) (.bool true)).setCell (p := ⟨w2.heap.size, 0, none⟩) (Nat.le_refl _) (.int .i64 ((k : Int) + 1)))
  have S2 := Lib.hid (((Save.refl (YW w2) W).setCell (p := ⟨w2.heap.size + 1, 0, none⟩) (.inr rfl) (.bool true)).setCell (p := ⟨w2.heap.size, 0, none⟩) (.inl rfl) (.int .i64 ((k : Int) + 1)))
  have c4 := (h4.below B2.out).cell_at 0 _ rfl
  have c5 := (h5.below B2.out).cell_at 0 _ rfl
  have R2 := Lib.hid (hr.below B2.out)
  have HN : Hid (∀ W', W' = (W.setCell ⟨w2.heap.size + 1, 0, none⟩ (.bool true)).setCell ⟨w2.heap.size, 0, none⟩ (.int .i64 ((k : Int) + 1)) → Save (YW w2) W W' ∧ IW w2 (k + 1) W') := Lib.hid (by
    rintro _ rfl
    refine ⟨S2.out, B2.out, ?_, ?_⟩
    · simpa using h7b.out
    · simpa using h8b.out)
  clear h7 h8 h7a h8a h7b h8b hB hr h4 h5 ne78 ne87 B2 S2
  by_cases hge : n ≤ k
  · have hrd : rdW n bad ls k = ([], 20) := by unfold rdW; rw [if_pos (.inl hge)]
    rw [hrd]
    simp only
    clear hrd R2
    have hd : decide ((n : Int) ≤ (k : Int)) = true := decide_eq_true (by omega)
    go_enter Try.func13, Try.ntmps13
    go_wp2
    go_ret2
    exact ⟨none, 0, 0, rfl, (fun h => by cases h), HN.out _ rfl⟩
  · have hd : decide ((n : Int) ≤ (k : Int)) = false := decide_eq_false (by omega)
    by_cases hkb : k = bad
    · have hrd : rdW n bad ls k = ([], 20) := by unfold rdW; rw [if_pos (.inr hkb)]
      rw [hrd]
      simp only
      subst hkb
      clear hrd R2
      go_enter Try.func13, Try.ntmps13
      go_wp2
      go_ret2
      exact ⟨none, 0, 0, rfl, (fun h => by cases h), HN.out _ rfl⟩
    · have hrd : rdW n bad ls k = (ls.getD k [], 0) := by unfold rdW; rw [if_neg (by omega)]
      rw [hrd]
      simp only
      obtain ⟨b1, o1, l, m1, rfl, hb1, HLk, HLm, hcl, HRk, hmc, _⟩ := R2.out.at_ (k := k) (by omega)
      have e := R2.out.getD HLk.out
      rw [e]
      have hkb2 : ((k : Int) == (bad : Int)) = false := by simp; omega
      generalize PA k = A1 at *
      generalize PC k = C1 at *
      clear hrd e R2
      go_enter Try.func13, Try.ntmps13
      go_wp2
      go_ret2
      exact ⟨A1, m1, C1, rfl, fun _ => ⟨HLm.out, HRk.out, hmc⟩, HN.out _ rfl⟩

set_option maxHeartbeats 2000000 in
theorem Walk_W (g : Gm) (p0 p1 p2 p3 : Option Addr) (Y : Nat → Prop) (rd : Nat → List Nat × Int) (I : Nat → World → Prop) (w : World)
    (hI : ∀ k W W', I k W → Below w.heap.size W W' → I k W')
    (hY : ∀ k, Y k → k < w.heap.size)
    (hrd : ∀ k W, k ≤ 8 → I k W → w.heap.size ≤ W.heap.size → Calls Try.prog 13 #[.int .i64 (k : Int), .pointer p0, .pointer p1, .pointer p2, .pointer p3] W (RdE (rd k).1 (rd k).2 k Y I W))
    (h0 : I 0 w) :
    Calls Try.prog 12 #[g.val, .func (.func 13) #[] #[.pointer p0, .pointer p1, .pointer p2, .pointer p3]] w
      fun e w' => UpRet (if g.ok then upL g rd g.r.toNat 0 else noPage 2) e w' ∧ Save Y w w' ∧ I (if g.ok then upN g rd g.r.toNat 0 else 0) w' := by
  have HI := Lib.hid hI
  have B0 := Lib.hid (below_step (below_new w (.cells #[.int .i64 g.p, .int .i64 g.b, .int .i64 g.s, .int .i64 g.c, .int .i64 g.k, .int .i64 g.r, .int .i64 g.q] 23)) (below_new _ (.cells #[.slice none 0 0, .int .i64 0, .int .i64 0, .int .i64 0, .int .i64 0, .int .i64 0] 31)))
  have Y0 := Lib.hid ((GBox.new w g 23).below (below_new _ (.cells #[.slice none 0 0, .int .i64 0, .int .i64 0, .int .i64 0, .int .i64 0, .int .i64 0] 31)))
  have T0 : Hid (CRow ((w.alloc (.cells #[.int .i64 g.p, .int .i64 g.b, .int .i64 g.s, .int .i64 g.c, .int .i64 g.k, .int .i64 g.r, .int .i64 g.q] 23)).alloc (.cells #[.slice none 0 0, .int .i64 0, .int .i64 0, .int .i64 0, .int .i64 0, .int .i64 0] 31)) (w.heap.size + 1) 31 #[.slice none 0 0, .int .i64 0, .int .i64 0, .int .i64 0, .int .i64 0, .int .i64 0]) := Lib.hid (by simpa using CRow.new (w.alloc (.cells #[.int .i64 g.p, .int .i64 g.b, .int .i64 g.s, .int .i64 g.c, .int .i64 g.k, .int .i64 g.r, .int .i64 g.q] 23)) #[.slice none 0 0, .int .i64 0, .int .i64 0, .int .i64 0, .int .i64 0, .int .i64 0] 31)
  cases ho : g.ok
  · have HCk := Lib.hid (Check_no g ho)
    simp only [Bool.false_eq_true, if_false]
    clear ho hrd
    obtain ⟨p, b, s, gc, kk, r, q⟩ := g
    simp only [Gm.val] at HCk B0 Y0 T0 ⊢
    go_enter Try.func12, Try.ntmps12
    go_wp2_with fail
    refine (HCk.out _).mono ?_
    rintro _ w1 ⟨rfl, h1⟩
    have B1 := Lib.hid (below_step B0.out h1)
    have T1 := Lib.hid (T0.out.below h1)
    clear h1
    go_wp2_with (with_reducible refine (?_ : wpList _ _ _ ({ dst := _, op := Op.store 31 _ _, type := _, pos := _, after := _, guard := _ } :: _) _ _); refine wpList_store_at rfl 31 _ _ rfl 6 size_page _ (w.heap.size + 1) ?hx rfl _ T1.out.row ?hn ?ho ?h1 ?_; (case hx => simp [Act.eval]); (case hn => simp); (case ho => simp); (case h1 => simp [Value.oneCell']))
    have T9 := Lib.hid (T1.out.set #[.slice none 0 0, .int .i64 0, .int .i64 0, .int .i64 0, .int .i64 0, .int .i64 0])
    have B9 := Lib.hid (below_setRow B1.out (Nat.le_add_right _ 1) #[.slice none 0 0, .int .i64 0, .int .i64 0, .int .i64 0, .int .i64 0, .int .i64 0])
    go_wp2
    refine bodyPost_ret (results_ctt_row rfl _ _ (w.heap.size + 1) 31 _ (0, 0) _ rfl T9.out.row Try.underlying31 rfl size_page) rfl ?_
    exact ⟨UpRet.no 2 _, Save.of B9.out, HI.out _ _ _ h0 B9.out⟩
  · have HCk := Lib.hid (Check_yes g ho)
    have hbd := Gm.bounds_of ho
    simp only [if_true]
    obtain ⟨N, hN⟩ := Int.eq_ofNat_of_zero_le (show 0 ≤ g.r by omega)
    have hN8 : N ≤ 8 := by omega
    rw [show g.r.toNat = N by omega]
    have HUP := Lib.hid (fun w' => readUp_W g N (by omega) p0 p1 p2 p3 Y rd I w')
    have HRD := Lib.hid hrd
    have HYY := Lib.hid hY
    generalize upL g rd N 0 = X at *
    generalize upN g rd N 0 = M at *
    clear ho hrd hY hbd
    obtain ⟨p, b, s, gc, kk, r, q⟩ := g
    simp only at hN
    subst hN
    simp only [Gm.val] at HCk HUP B0 Y0 T0 ⊢
    go_enter Try.func12, Try.ntmps12
    go_wp2_with fail
    refine (HCk.out _).mono ?_
    rintro _ w1 ⟨rfl, h1⟩
    have B1 := Lib.hid (below_step B0.out h1)
    have T1 := Lib.hid (T0.out.below h1)
    have Y1 := Lib.hid (Y0.out.below h1)
    have hT1 := T1.out.lt
    clear h1
    obtain ⟨_, g0, g1, g2, g3, g4, g5, g6⟩ := Y1.out
    simp only at g0 g1 g2 g3 g4 g5 g6
    have hfn := fun W : World => run_eql_func_nil (P := Try.prog) W 39 _ _ _ (Fn.func 13) #[] #[.pointer p0, .pointer p1, .pointer p2, .pointer p3] Try.underlying39
    go_wp2_with fail
    refine (HUP.out w1 (fun k W W' h h2 => HI.out k W W' h (h2.mono B1.out.size)) (fun k h => Nat.lt_of_lt_of_le (HYY.out k h) B1.out.size) (fun k W hk h hs => HRD.out k W (by omega) h (Nat.le_trans B1.out.size hs)) (HI.out _ _ _ h0 B1.out)).mono ?_
    rintro e w2 ⟨hU, hS, hI2⟩
    obtain ⟨⟨⟨vd, ⟨tk, ts, tq, te⟩, vs⟩, rung, er⟩, HXX⟩ : ∃ z, Hid (X = z) := ⟨_, rfl⟩
    rw [HXX.out] at hU
    obtain ⟨vn, HVN2⟩ : ∃ vn, Hid (vd.length = vn) := ⟨_, rfl⟩
    obtain ⟨A3, c3, rfl, R3⟩ := hU.at_ HVN2.out
    have S2 := Lib.hid ((Save.of (Y := Y) B1.out).trans hS)
    have T2 := Lib.hid (T1.out.save hS (fun h => by have := HYY.out _ h; omega))
    have I2 := Lib.hid hI2
    clear hU hS hI2 g0 g1 g2 g3 g4 g5 g6 HUP hT1
    go_wp2_with (with_reducible refine (?_ : wpList _ _ _ ({ dst := _, op := Op.store 31 _ _, type := _, pos := _, after := _, guard := _ } :: _) _ _); refine wpList_store_at rfl 31 _ _ rfl 6 size_page _ (w.heap.size + 1) ?hx rfl _ T2.out.row ?hn ?ho ?h1 ?_; (case hx => simp [Act.eval]); (case hn => simp); (case ho => simp); (case h1 => simp [Value.oneCell']))
    have T9 := Lib.hid (T2.out.set #[.slice A3 vn c3, .int .i64 tk, .int .i64 ts, .int .i64 tq, .int .i64 te, .int .i64 (vs : Int)])
    have D9 := Lib.hid (below_setRow (Below.refl w.heap.size w2) (Nat.le_add_right _ 1) #[.slice A3 vn c3, .int .i64 tk, .int .i64 ts, .int .i64 tq, .int .i64 te, .int .i64 (vs : Int)])
    have S9 := Lib.hid (S2.out.setRow (Nat.le_add_right _ 1) #[.slice A3 vn c3, .int .i64 tk, .int .i64 ts, .int .i64 tq, .int .i64 te, .int .i64 (vs : Int)])
    have R9 := Lib.hid (R3.out.setRow T2.out (by simp) #[.slice A3 vn c3, .int .i64 tk, .int .i64 ts, .int .i64 tq, .int .i64 te, .int .i64 (vs : Int)])
    have I9 := Lib.hid (HI.out _ _ _ I2.out D9.out)
    go_wp2
    refine bodyPost_ret (results_ctt_row rfl _ _ (w.heap.size + 1) 31 _ (0, 0) _ rfl T9.out.row Try.underlying31 rfl size_page) rfl ?_
    rw [HXX.out]
    refine ⟨⟨A3, c3, ?_, ?_⟩, S9.out, I9.out⟩
    · rw [HVN2.out]
      rfl
    · rw [HVN2.out]
      exact R9.out
end Go.Proofs.Ytgiihdeilkiphaa

/-
  Contract of the document's Climb over the landed code's translation.
-/
namespace Go.Proofs.Ytgiihdeilkiphaa
open Go.RowKit
set_option maxRecDepth 100000

set_option maxHeartbeats 4000000 in
theorem RefClimb_any (g : Gm) (A : Option Addr) (n c : Nat) (PA : Nat → Option Addr) (PC : Nat → Nat) (ls : List (List Nat)) (w : World) (hr : RR w A n PA PC ls) (hn : n ≤ 1099511627776) :
    Calls Try.prog 10 #[g.val, .slice A n c] w (Climbs (climbL g ls) w) := by
  have HL := Lib.hid hr.len
  have HR := Lib.hid hr
  have HRt := Lib.hid (RefRight_any g)
  have HRw := Lib.hid (fun w' h => RefRaw_any g w' h)
  have HOK := Lib.hid (@climbOk_iff g ls)
  have HNO := Lib.hid (@climbL_no g ls)
  have HAT := Lib.hid (fun k l h1 h2 h3 h4 => @climbL_at g ls k l h1 h2 h3 h4)
  have HNN := Lib.hid (@climbL_none g ls)
  have HDC := Lib.hid (fun A n c hc l w' h => RefPageDec_any g A n c hc l w' h)
  have HRE := Lib.hid (show ∀ l, rungE g l = (decG g l).2.2.2 ∧ rungP g l = ((decG g l).1, (decG g l).2.1, (decG g l).2.2.1) from fun l => ⟨rfl, rfl⟩)
  have HNT := Lib.hid (fun k l h1 h2 h3 => @NoneTo.succ g ls k l h1 h2 h3)
  have HN0 := Lib.hid (NoneTo.zero g ls)
  obtain ⟨ok, HO⟩ : ∃ ok, Hid (g.ok = ok) := ⟨_, rfl⟩
  obtain ⟨gr, HG⟩ : ∃ gr, Hid (g.raw = gr) := ⟨_, rfl⟩
  rw [HO.out] at HRt HOK HRw
  rw [HG.out] at HRw HOK
  obtain ⟨v, HV⟩ : ∃ v, Hid (climbOk g ls = v) := ⟨_, rfl⟩
  rw [HV.out] at HOK HNO HAT HNN
  generalize climbL g ls = X at *
  generalize rungE g = re at *
  generalize rungP g = rp at *
  generalize decG g = dec at *
  generalize hNT : NoneTo g ls = nt at *
  clear hr HV HO HG hNT
  obtain ⟨p, b, s, gc, kk, r, q⟩ := g
  simp only [Gm.val] at HRt HRw HDC HOK ⊢
  have B0 := Lib.hid (below_step (below_new w (.cells #[.int .i64 p, .int .i64 b, .int .i64 s, .int .i64 gc, .int .i64 kk, .int .i64 r, .int .i64 q] 23)) (below_new _ (.cells #[.slice none 0 0, .int .i64 0, .int .i64 0, .int .i64 0, .int .i64 0, .int .i64 0] 31)))
  have Y0 := Lib.hid ((GBox.new w ⟨p, b, s, gc, kk, r, q⟩ 23).below (below_new _ (.cells #[.slice none 0 0, .int .i64 0, .int .i64 0, .int .i64 0, .int .i64 0, .int .i64 0] 31)))
  have T0 : Hid (CRow ((w.alloc (.cells #[.int .i64 p, .int .i64 b, .int .i64 s, .int .i64 gc, .int .i64 kk, .int .i64 r, .int .i64 q] 23)).alloc (.cells #[.slice none 0 0, .int .i64 0, .int .i64 0, .int .i64 0, .int .i64 0, .int .i64 0] 31)) (w.heap.size + 1) 31 #[.slice none 0 0, .int .i64 0, .int .i64 0, .int .i64 0, .int .i64 0, .int .i64 0]) := Lib.hid (by simpa using CRow.new (w.alloc (.cells #[.int .i64 p, .int .i64 b, .int .i64 s, .int .i64 gc, .int .i64 kk, .int .i64 r, .int .i64 q] 23)) #[.slice none 0 0, .int .i64 0, .int .i64 0, .int .i64 0, .int .i64 0, .int .i64 0] 31)
  go_enter Try.func10, Try.ntmps10
  go_wp2_with fail
  refine (HRt.out _).mono ?_
  rintro _ w1 ⟨rfl, h1⟩
  have B1 := Lib.hid (below_step B0.out h1)
  have Y1 := Lib.hid (Y0.out.below h1)
  have T1 := Lib.hid (T0.out.below h1)
  clear h1 B0 Y0 T0
  obtain ⟨hltG, g0, g1, g2, g3, g4, g5, g6⟩ := Y1.out
  simp only at g0 g1 g2 g3 g4 g5 g6
  cases ok
  · have HX := Lib.hid (HNO.out (by cases v; rfl; exact absurd (HOK.out.1 rfl).1 (by simp)))
    go_wp2_with (with_reducible refine (?_ : wpList _ _ _ ({ dst := _, op := Op.store 31 _ _, type := _, pos := _, after := _, guard := _ } :: _) _ _); refine wpList_store_at rfl 31 _ _ rfl 6 size_page _ (w.heap.size + 1) ?hx rfl _ T1.out.row ?hn ?ho ?h1 ?_; (case hx => simp [Act.eval]); (case hn => simp); (case ho => simp); (case h1 => simp [Value.oneCell']))
    have T9 := Lib.hid (T1.out.set #[.slice none 0 0, .int .i64 0, .int .i64 0, .int .i64 0, .int .i64 0, .int .i64 0])
    have B9 := Lib.hid (below_setRow B1.out (Nat.le_succ _) #[.slice none 0 0, .int .i64 0, .int .i64 0, .int .i64 0, .int .i64 0, .int .i64 0])
    go_wp2
    refine bodyPost_ret (results_ctt_row rfl _ _ (w.heap.size + 1) 31 _ (0, 0) _ rfl T9.out.row Try.underlying31 rfl size_page) rfl ?_
    rw [HX.out]
    exact ⟨UpRet.no 2 _, B9.out⟩
  · by_cases h0 : n = 0
    · have HX := Lib.hid (HNO.out (by cases v; rfl; have := (HOK.out.1 rfl).2.1; have := HL.out; omega))
      subst h0
      go_wp2_with (with_reducible refine (?_ : wpList _ _ _ ({ dst := _, op := Op.store 31 _ _, type := _, pos := _, after := _, guard := _ } :: _) _ _); refine wpList_store_at rfl 31 _ _ rfl 6 size_page _ (w.heap.size + 1) ?hx rfl _ T1.out.row ?hn ?ho ?h1 ?_; (case hx => simp [Act.eval]); (case hn => simp); (case ho => simp); (case h1 => simp [Value.oneCell']))
      have T9 := Lib.hid (T1.out.set #[.slice none 0 0, .int .i64 0, .int .i64 0, .int .i64 0, .int .i64 0, .int .i64 0])
      have B9 := Lib.hid (below_setRow B1.out (Nat.le_succ _) #[.slice none 0 0, .int .i64 0, .int .i64 0, .int .i64 0, .int .i64 0, .int .i64 0])
      go_wp2
      refine bodyPost_ret (results_ctt_row rfl _ _ (w.heap.size + 1) 31 _ (0, 0) _ rfl T9.out.row Try.underlying31 rfl size_page) rfl ?_
      rw [HX.out]
      exact ⟨UpRet.no 2 _, B9.out⟩
    · have hz : ((n : Int) == 0) = false := by simp; omega
      by_cases hgt : r < (n : Int)
      · have hd : decide (r < (n : Int)) = true := decide_eq_true hgt
        have HX := Lib.hid (HNO.out (by cases v; rfl; have h3 := (HOK.out.1 rfl).2.2.1; have := HL.out; omega))
        clear hgt
        go_wp2_with (with_reducible refine (?_ : wpList _ _ _ ({ dst := _, op := Op.store 31 _ _, type := _, pos := _, after := _, guard := _ } :: _) _ _); refine wpList_store_at rfl 31 _ _ rfl 6 size_page _ (w.heap.size + 1) ?hx rfl _ T1.out.row ?hn ?ho ?h1 ?_; (case hx => simp [Act.eval]); (case hn => simp); (case ho => simp); (case h1 => simp [Value.oneCell']))
        have T9 := Lib.hid (T1.out.set #[.slice none 0 0, .int .i64 0, .int .i64 0, .int .i64 0, .int .i64 0, .int .i64 0])
        have B9 := Lib.hid (below_setRow B1.out (Nat.le_succ _) #[.slice none 0 0, .int .i64 0, .int .i64 0, .int .i64 0, .int .i64 0, .int .i64 0])
        go_wp2
        refine bodyPost_ret (results_ctt_row rfl _ _ (w.heap.size + 1) 31 _ (0, 0) _ rfl T9.out.row Try.underlying31 rfl size_page) rfl ?_
        rw [HX.out]
        exact ⟨UpRet.no 2 _, B9.out⟩
      · have hd : decide (r < (n : Int)) = false := decide_eq_false hgt
        have HNR := Lib.hid (show 1 ≤ n ∧ (n : Int) ≤ r from ⟨by omega, by omega⟩)
        clear hgt
        go_wp2
        clear hltG g0 g1 g2 g3 g4 g5 g6 hd hz h0
        go_loopw [7] (fun i wr => ∃ k : Nat, k ≤ n ∧ i = .int .i64 (k : Int) ∧ Hid (∀ j l, j < k → ls[j]? = some l → (l.length : Int) = gr) ∧ Hid (Below w1.heap.size w1 wr)) (fun i _ => n - (intOf i).toNat)
        case atStart => exact ⟨0, Nat.zero_le _, rfl, fun j l h => absurd h (by omega), Below.refl _ _⟩
        case round =>
          obtain ⟨k, hk, rfl, HF, HB⟩ := hrel
          by_cases hlt : k < n
          · have Yr := Lib.hid (Y1.out.below HB.out)
            obtain ⟨hltG, g0, g1, g2, g3, g4, g5, g6⟩ := Yr.out
            simp only at g0 g1 g2 g3 g4 g5 g6
            obtain ⟨b1, o1, l, m1, rfl, hb1, HLk, HLm, hcl, HRk, hmc, _⟩ := ((HR.out.below B1.out).below HB.out).at_ hlt
            generalize PA k = A1 at *
            generalize PC k = C1 at *
            go_wp2
            refine wp_region_noPanic ?_
            refine wp_region_held_drew (S := fun w' => Below wr.heap.size wr w') (by kernel_rfl) ((Below.refl _ _).drew) (fun C0 => ?_)
            refine wpAnyH_take (i := 0) (oi := { dst := some 35, op := Op.move (Operand.tmp 1), type := 24, pos := "ref.go:16", after := #[], guard := none }) (v := ?_) rfl (by kernel_rfl) (by kernel_rfl) (by kernel_rfl) (fun _ _ _ h => h) (Or.inl ⟨by rfl, ?_⟩) C0 ?_
            rotate_left
            · intro W' hSw
              clear hSw
              go_simp <;> with_reducible rfl
            try simp only [Act.put, List.setIfInBounds_toArray, List.set_cons_zero, List.set_cons_succ]
            refine wpAnyH_take (i := 1) (oi := { dst := some 36, op := Op.move (Operand.tmp 7), type := 3, pos := "ref.go:16", after := #[], guard := none }) (v := ?_) rfl (by kernel_rfl) (by kernel_rfl) (by kernel_rfl) (fun _ _ _ h => h) (Or.inl ⟨by rfl, ?_⟩) C0 ?_
            rotate_left
            · intro W' hSw
              clear hSw
              go_simp <;> with_reducible rfl
            try simp only [Act.put, List.setIfInBounds_toArray, List.set_cons_zero, List.set_cons_succ]
            refine wpAnyH_take (i := 2) (oi := { dst := some 37, op := Op.indexAddr 24 (Operand.tmp 35) (Operand.tmp 36), type := 0, pos := "ref.go:16", after := #[{ on := 0, ground := Ground.data }, { on := 1, ground := Ground.data }], guard := none }) (v := ?_) rfl (by kernel_rfl) (by kernel_rfl) (by kernel_rfl) (fun _ _ _ h => h) (Or.inl ⟨by rfl, ?_⟩) C0 ?_
            rotate_left
            · intro W' hSw
              clear hSw
              go_simp <;> with_reducible rfl
            try simp only [Act.put, List.setIfInBounds_toArray, List.set_cons_zero, List.set_cons_succ]
            refine wpAnyH_take (i := 3) (oi := { dst := some 38, op := Op.load 27 (Operand.tmp 37), type := 27, pos := "ref.go:16", after := #[{ on := 2, ground := Ground.data }], guard := none }) (v := ?_) rfl (by kernel_rfl) (by kernel_rfl) (by kernel_rfl) (fun _ _ _ h => h) (Or.inl ⟨by rfl, ?_⟩) C0 ?_
            rotate_left
            · intro W' hSw
              have qs := (hSw.cell (p := ⟨b1, o1 + k, none⟩) hb1).trans hcl
              clear hSw
              go_simp <;> with_reducible rfl
            try simp only [Act.put, List.setIfInBounds_toArray, List.set_cons_zero, List.set_cons_succ]
            refine wpAnyH_take (i := 4) (oi := { dst := some 39, op := Op.call { callee := Callee.builtin Builtin.len, args := #[Operand.tmp 38], argTypes := #[27] }, type := 3, pos := "ref.go:16", after := #[{ on := 3, ground := Ground.data }], guard := none }) (v := ?_) rfl (by kernel_rfl) (by kernel_rfl) (by kernel_rfl) (fun _ _ _ h => h) (Or.inl ⟨by rfl, ?_⟩) C0 ?_
            rotate_left
            · intro W' hSw
              clear hSw
              go_simp <;> with_reducible rfl
            try simp only [Act.put, List.setIfInBounds_toArray, List.set_cons_zero, List.set_cons_succ]
            refine wpAnyH_take (i := 5) (oi := { dst := some 40, op := Op.load 23 (Operand.tmp 2), type := 23, pos := "ref.go:16", after := #[], guard := none }) (v := ?_) rfl (by kernel_rfl) (by kernel_rfl) (by kernel_rfl) (fun _ _ _ h => h) (Or.inl ⟨by rfl, ?_⟩) C0 ?_
            rotate_left
            · intro W' hSw
              have q0 := (hSw.cell (p := ⟨w.heap.size, 0, none⟩) hltG).trans g0
              have q1 := (hSw.cell (p := ⟨w.heap.size, 1, none⟩) hltG).trans g1
              have q2 := (hSw.cell (p := ⟨w.heap.size, 2, none⟩) hltG).trans g2
              have q3 := (hSw.cell (p := ⟨w.heap.size, 3, none⟩) hltG).trans g3
              have q4 := (hSw.cell (p := ⟨w.heap.size, 4, none⟩) hltG).trans g4
              have q5 := (hSw.cell (p := ⟨w.heap.size, 5, none⟩) hltG).trans g5
              have q6 := (hSw.cell (p := ⟨w.heap.size, 6, none⟩) hltG).trans g6
              clear hSw
              go_simp <;> with_reducible rfl
            try simp only [Act.put, List.setIfInBounds_toArray, List.set_cons_zero, List.set_cons_succ]
            refine wpAnyH_ready (rs := [6]) (by kernel_rfl) (by simp) ?_
            refine AllReadyH.cons (o := { dst := some 41, op := Op.call { callee := Callee.value (Operand.func 23), args := #[Operand.tmp 40], argTypes := #[23] }, type := 3, pos := "ref.go:16", after := #[{ on := 5, ground := Ground.data }], guard := none }) rfl (fun K hK => ?_) AllReadyH.nil
            go_simp
            refine (HRw.out _ (by trivial)).mono ?_
            rintro _ w2 ⟨rfl, hB⟩
            go_wp2_with fail
            refine hK.out _ _ (C0.trans (hB.mono C0.size)) (fun C1 => ?_)
            clear hK K hB
            try simp only [Act.put, List.setIfInBounds_toArray, List.set_cons_zero, List.set_cons_succ]
            refine wpAnyH_take (i := 7) (oi := { dst := some 42, op := Op.binOp BinOp.neq 3 (Operand.tmp 39) (Operand.tmp 41) 3, type := 4, pos := "ref.go:16", after := #[{ on := 4, ground := Ground.data }, { on := 6, ground := Ground.data }], guard := none }) (v := ?_) rfl (by kernel_rfl) (by kernel_rfl) (by kernel_rfl) (fun _ _ _ h => h) (Or.inl ⟨by rfl, ?_⟩) C1 ?_
            rotate_left
            · intro W' hSw
              clear hSw
              go_simp <;> with_reducible rfl
            try simp only [Act.put, List.setIfInBounds_toArray, List.set_cons_zero, List.set_cons_succ]
            refine wpAnyH_done (by kernel_rfl) ?_ _
            refine NoPanic.normal ?_
            have B2 := Lib.hid (below_step HB.out C1)
            clear C0 C1 g0 g1 g2 g3 g4 g5 g6 hcl
            by_cases he : (m1 : Int) = gr
            · have HF2 : Hid (∀ j l, j < k + 1 → ls[j]? = some l → (l.length : Int) = gr) := by
                intro j l' hj hl'
                rcases Nat.lt_or_ge j k with h3 | h3
                · exact HF.out j l' h3 hl'
                · obtain rfl : j = k := by omega
                  rw [HLk.out] at hl'
                  injection hl' with e
                  rw [← e, HLm.out]
                  exact he
              have hne : ((m1 : Int) != gr) = false := by simpa using he
              clear he
              go_wp2
              go_roundw
              case rel => exact ⟨k + 1, by omega, by go_num, HF2, B2⟩
              case measure => simp [intOf]; omega
            · have hne : ((m1 : Int) != gr) = true := by simpa using he
              have HX := Lib.hid (HNO.out (by
                cases v
                · rfl
                · have h3 := (HOK.out.1 rfl).2.2.2 l (List.mem_of_getElem? HLk.out)
                  rw [HLm.out] at h3
                  exact absurd h3 he))
              have B3 := Lib.hid (below_step B1.out B2.out)
              have T3 := Lib.hid (T1.out.below B2.out)
              clear he
              go_wp2_with (with_reducible refine (?_ : wpList _ _ _ ({ dst := _, op := Op.store 31 _ _, type := _, pos := _, after := _, guard := _ } :: _) _ _); refine wpList_store_at rfl 31 _ _ rfl 6 size_page _ (w.heap.size + 1) ?hx rfl _ T3.out.row ?hn ?ho ?h1 ?_; (case hx => simp [Act.eval]); (case hn => simp); (case ho => simp); (case h1 => simp [Value.oneCell']))
              have T9 := Lib.hid (T3.out.set #[.slice none 0 0, .int .i64 0, .int .i64 0, .int .i64 0, .int .i64 0, .int .i64 0])
              have B9 := Lib.hid (below_setRow B3.out (Nat.le_succ _) #[.slice none 0 0, .int .i64 0, .int .i64 0, .int .i64 0, .int .i64 0, .int .i64 0])
              go_wp2
              refine bodyPost_ret (results_ctt_row rfl _ _ (w.heap.size + 1) 31 _ (0, 0) _ rfl T9.out.row Try.underlying31 rfl size_page) rfl ?_
              rw [HX.out]
              exact ⟨UpRet.no 2 _, B9.out⟩
          · obtain rfl : k = n := by omega
            have hv : v = true := by
              refine HOK.out.2 ⟨by trivial, by have := HNR.out; have := HL.out; omega, by have h3 := HNR.out; have := HL.out; omega, fun l hl => ?_⟩
              obtain ⟨j, hj, rfl⟩ := List.getElem_of_mem hl
              exact HF.out j _ (by have := HL.out; omega) (List.getElem?_eq_getElem hj)
            subst hv
            generalize hw9 : wr = wy at *
            clear hw9
            have B2 := Lib.hid (below_step B1.out HB.out)
            have Y2 := Lib.hid (Y1.out.below HB.out)
            have T2 := Lib.hid (T1.out.below HB.out)
            clear HF B1 Y1 T1 HB HNR HOK HNO HRw HRt
            go_wp2
            go_loopw [8] (fun i wr => ∃ j : Nat, j ≤ k ∧ i = .int .i64 (j : Int) ∧ Hid (nt j) ∧ Hid (Below wy.heap.size wy wr)) (fun i _ => k - (intOf i).toNat)
            case atStart => exact ⟨0, Nat.zero_le _, rfl, HN0, Below.refl _ _⟩
            case round =>
              obtain ⟨j, hj, rfl, HN, HZ⟩ := hrel
              by_cases hlt : j < k
              · have Yr := Lib.hid (Y2.out.below HZ.out)
                obtain ⟨hltG, g0, g1, g2, g3, g4, g5, g6⟩ := Yr.out
                simp only at g0 g1 g2 g3 g4 g5 g6
                obtain ⟨b1, o1, l, m1, rfl, hb1, HLk, HLm, hcl, HRk, hmc, _⟩ := ((HR.out.below B2.out).below HZ.out).at_ hlt
                have HAT2 := Lib.hid (fun (h : re l = 0) => HAT.out j l (by trivial) HN.out HLk.out h)
                have HNT2 := Lib.hid (fun (h : re l ≠ 0) => HNT.out j l HN.out HLk.out h)
                have hre := HRE.out l
                have hdc := fun w' h => HDC.out (PA j) m1 (PC j) hmc l w' h
                obtain ⟨⟨vd, ⟨tk, ts, tq, te⟩, vs, ve⟩, HD⟩ : ∃ z, Hid (dec l = z) := ⟨_, rfl⟩
                rw [HD.out] at hre hdc
                simp only at hre hdc
                obtain ⟨vn, HVN⟩ : ∃ vn, Hid (vd.length = vn) := ⟨_, rfl⟩
                rw [hre.1, hre.2] at HAT2
                rw [hre.1] at HNT2
                have HDC2 := Lib.hid hdc
                clear hdc hre HN
                generalize PA j = A1 at *
                generalize PC j = C1 at *
                have BZ := Lib.hid (below_step B2.out HZ.out)
                have TZ := Lib.hid (T2.out.below HZ.out)
                have HCL := Lib.hid hcl
                clear hcl
                go_wp2
                apply cut_awb (F := fun A3 c3 blk W => Hid (R8 W A3 vn vd) ∧ Hid (CRow W blk 29 #[.int .i64 tk, .int .i64 ts, .int .i64 tq, .int .i64 te]) ∧ Hid (Below wr.heap.size wr W))
                · intro HREST
                  obtain ⟨hltG, g0, g1, g2, g3, g4, g5, g6⟩ := Yr.out
                  simp only at g0 g1 g2 g3 g4 g5 g6
                  have hcl := HCL.out
                  refine wp_region_noPanic ?_
                  refine wp_region_held_drew (S := fun w' => Below wr.heap.size wr w') (by kernel_rfl) ((Below.refl _ _).drew) (fun C0 => ?_)
                  refine wpAnyH_take (i := 0) (oi := { dst := some 51, op := Op.load 23 (Operand.tmp 2), type := 23, pos := "ref.go:21", after := #[], guard := none }) (v := ?_) rfl (by kernel_rfl) (by kernel_rfl) (by kernel_rfl) (fun _ _ _ h => h) (Or.inl ⟨by rfl, ?_⟩) C0 ?_
                  rotate_left
                  · intro W' hSw
                    have q0 := (hSw.cell (p := ⟨w.heap.size, 0, none⟩) hltG).trans g0
                    have q1 := (hSw.cell (p := ⟨w.heap.size, 1, none⟩) hltG).trans g1
                    have q2 := (hSw.cell (p := ⟨w.heap.size, 2, none⟩) hltG).trans g2
                    have q3 := (hSw.cell (p := ⟨w.heap.size, 3, none⟩) hltG).trans g3
                    have q4 := (hSw.cell (p := ⟨w.heap.size, 4, none⟩) hltG).trans g4
                    have q5 := (hSw.cell (p := ⟨w.heap.size, 5, none⟩) hltG).trans g5
                    have q6 := (hSw.cell (p := ⟨w.heap.size, 6, none⟩) hltG).trans g6
                    clear hSw
                    go_simp <;> with_reducible rfl
                  try simp only [Act.put, List.setIfInBounds_toArray, List.set_cons_zero, List.set_cons_succ]
                  refine wpAnyH_take (i := 1) (oi := { dst := some 52, op := Op.move (Operand.tmp 1), type := 24, pos := "ref.go:21", after := #[], guard := none }) (v := ?_) rfl (by kernel_rfl) (by kernel_rfl) (by kernel_rfl) (fun _ _ _ h => h) (Or.inl ⟨by rfl, ?_⟩) C0 ?_
                  rotate_left
                  · intro W' hSw
                    clear hSw
                    go_simp <;> with_reducible rfl
                  try simp only [Act.put, List.setIfInBounds_toArray, List.set_cons_zero, List.set_cons_succ]
                  refine wpAnyH_take (i := 2) (oi := { dst := some 53, op := Op.move (Operand.tmp 8), type := 3, pos := "ref.go:21", after := #[], guard := none }) (v := ?_) rfl (by kernel_rfl) (by kernel_rfl) (by kernel_rfl) (fun _ _ _ h => h) (Or.inl ⟨by rfl, ?_⟩) C0 ?_
                  rotate_left
                  · intro W' hSw
                    clear hSw
                    go_simp <;> with_reducible rfl
                  try simp only [Act.put, List.setIfInBounds_toArray, List.set_cons_zero, List.set_cons_succ]
                  refine wpAnyH_take (i := 3) (oi := { dst := some 54, op := Op.indexAddr 24 (Operand.tmp 52) (Operand.tmp 53), type := 0, pos := "ref.go:21", after := #[{ on := 1, ground := Ground.data }, { on := 2, ground := Ground.data }], guard := none }) (v := ?_) rfl (by kernel_rfl) (by kernel_rfl) (by kernel_rfl) (fun _ _ _ h => h) (Or.inl ⟨by rfl, ?_⟩) C0 ?_
                  rotate_left
                  · intro W' hSw
                    clear hSw
                    go_simp <;> with_reducible rfl
                  try simp only [Act.put, List.setIfInBounds_toArray, List.set_cons_zero, List.set_cons_succ]
                  refine wpAnyH_take (i := 4) (oi := { dst := some 55, op := Op.load 27 (Operand.tmp 54), type := 27, pos := "ref.go:21", after := #[{ on := 3, ground := Ground.data }], guard := none }) (v := ?_) rfl (by kernel_rfl) (by kernel_rfl) (by kernel_rfl) (fun _ _ _ h => h) (Or.inl ⟨by rfl, ?_⟩) C0 ?_
                  rotate_left
                  · intro W' hSw
                    have qs := (hSw.cell (p := ⟨b1, o1 + j, none⟩) hb1).trans hcl
                    clear hSw
                    go_simp <;> with_reducible rfl
                  try simp only [Act.put, List.setIfInBounds_toArray, List.set_cons_zero, List.set_cons_succ]
                  clear hltG g0 g1 g2 g3 g4 g5 g6 hcl
                  refine wpAnyH_ready (rs := [5, 11]) (by kernel_rfl) (by simp) ?_
                  refine (AllReadyH.cons (o := { dst := some 56, op := Op.call { callee := Callee.value (Operand.func 15), args := #[Operand.tmp 51, Operand.tmp 55], argTypes := #[23, 27] }, type := 41, pos := "ref.go:21", after := #[{ on := 0, ground := Ground.data }, { on := 4, ground := Ground.data }], guard := none }) rfl (fun K hK => ?_) (AllReadyH.cons (o := { dst := some 10, op := Op.alloc 29, type := 0, pos := "ref.go:21", after := #[], guard := none }) rfl (fun K hK => ?_) AllReadyH.nil))
                  · go_simp
                    refine (HDC2.out _ (HRk.out.below C0)).mono ?_
                    intro _ w3 hM
                    obtain ⟨A3, c3, rfl, R3, D3⟩ := hM.tag vn HVN.out tk ts tq te rfl
                    have hB := D3.out
                    clear hM
                    go_wp2_with fail
                    refine hK.out _ _ (C0.trans (hB.mono C0.size)) (fun C1 => ?_)
                    clear hK K hB
                    try simp only [Act.put, List.setIfInBounds_toArray, List.set_cons_zero, List.set_cons_succ]
                    refine wpAnyH_take (i := 6) (oi := { dst := some 50, op := Op.move (Operand.tmp 56), type := 41, pos := "ref.go:21", after := #[{ on := 5, ground := Ground.data }], guard := none }) (v := ?_) rfl (by kernel_rfl) (by kernel_rfl) (by kernel_rfl) (fun _ _ _ h => h) (Or.inl ⟨by rfl, ?_⟩) C1 ?_
                    rotate_left
                    · intro W' hSw
                      clear hSw
                      go_simp <;> with_reducible rfl
                    try simp only [Act.put, List.setIfInBounds_toArray, List.set_cons_zero, List.set_cons_succ]
                    refine wpAnyH_take (i := 7) (oi := { dst := some 57, op := Op.extract (Operand.tmp 50) 0, type := 27, pos := "ref.go:21", after := #[{ on := 6, ground := Ground.data }], guard := none }) (v := ?_) rfl (by kernel_rfl) (by kernel_rfl) (by kernel_rfl) (fun _ _ _ h => h) (Or.inl ⟨by rfl, ?_⟩) C1 ?_
                    rotate_left
                    · intro W' hSw
                      clear hSw
                      go_simp <;> with_reducible rfl
                    try simp only [Act.put, List.setIfInBounds_toArray, List.set_cons_zero, List.set_cons_succ]
                    refine wpAnyH_take (i := 8) (oi := { dst := some 58, op := Op.extract (Operand.tmp 50) 1, type := 29, pos := "ref.go:21", after := #[{ on := 6, ground := Ground.data }, { on := 12, ground := Ground.gcOnly Departure.lateStores }], guard := none }) (v := ?_) rfl (by kernel_rfl) (by kernel_rfl) (by kernel_rfl) (fun _ _ _ h => h) (Or.inl ⟨by rfl, ?_⟩) C1 ?_
                    rotate_left
                    · intro W' hSw
                      clear hSw
                      go_simp <;> with_reducible rfl
                    try simp only [Act.put, List.setIfInBounds_toArray, List.set_cons_zero, List.set_cons_succ]
                    refine wpAnyH_take (i := 9) (oi := { dst := some 59, op := Op.extract (Operand.tmp 50) 2, type := 3, pos := "ref.go:21", after := #[{ on := 6, ground := Ground.data }, { on := 13, ground := Ground.gcOnly Departure.lateStores }], guard := none }) (v := ?_) rfl (by kernel_rfl) (by kernel_rfl) (by kernel_rfl) (fun _ _ _ h => h) (Or.inl ⟨by rfl, ?_⟩) C1 ?_
                    rotate_left
                    · intro W' hSw
                      clear hSw
                      go_simp <;> with_reducible rfl
                    try simp only [Act.put, List.setIfInBounds_toArray, List.set_cons_zero, List.set_cons_succ]
                    refine wpAnyH_take (i := 10) (oi := { dst := some 60, op := Op.extract (Operand.tmp 50) 3, type := 3, pos := "ref.go:21", after := #[{ on := 6, ground := Ground.data }, { on := 14, ground := Ground.gcOnly Departure.lateStores }], guard := none }) (v := ?_) rfl (by kernel_rfl) (by kernel_rfl) (by kernel_rfl) (fun _ _ _ h => h) (Or.inl ⟨by rfl, ?_⟩) C1 ?_
                    rotate_left
                    · intro W' hSw
                      clear hSw
                      go_simp <;> with_reducible rfl
                    try simp only [Act.put, List.setIfInBounds_toArray, List.set_cons_zero, List.set_cons_succ]
                    refine wpAnyH_ready (rs := [11]) (by kernel_rfl) (by simp) ?_
                    refine AllReadyH.cons (o := { dst := some 10, op := Op.alloc 29, type := 0, pos := "ref.go:21", after := #[], guard := none }) rfl (fun K hK => ?_) AllReadyH.nil
                    go_simp
                    refine hK.out _ _ (C1.alloc C1.size _) (fun C2 => ?_)
                    clear hK K
                    try simp only [Act.put, List.setIfInBounds_toArray, List.set_cons_zero, List.set_cons_succ]
                    have TA : Hid (CRow (w3.alloc (.cells #[.int .i64 0, .int .i64 0, .int .i64 0, .int .i64 0] 29)) w3.heap.size 29 #[.int .i64 0, .int .i64 0, .int .i64 0, .int .i64 0]) := Lib.hid (CRow.new w3 #[.int .i64 0, .int .i64 0, .int .i64 0, .int .i64 0] 29)
                    generalize HBLK : w3.heap.size = blk at *
                    have hble : wr.heap.size ≤ blk := by have := D3.out.size; have := C0.size; simp at *; omega
                    have RE : Hid (R8 (w3.alloc (.cells #[.int .i64 0, .int .i64 0, .int .i64 0, .int .i64 0] 29)) A3 vn vd) := Lib.hid (R3.out.alloc _)
                    have TB := Lib.hid TA.out
                    refine wpAnyH_take (i := 12) (oi := { dst := some 9, op := Op.assign (Operand.tmp 57), type := 27, pos := "ref.go:21", after := #[{ on := 7, ground := Ground.data }, { on := 5, ground := Ground.chain }, { on := 0, ground := Ground.phase }, { on := 1, ground := Ground.phase }, { on := 2, ground := Ground.phase }, { on := 3, ground := Ground.phase }, { on := 4, ground := Ground.phase }, { on := 5, ground := Ground.phase }, { on := 6, ground := Ground.phase }, { on := 7, ground := Ground.phase }, { on := 8, ground := Ground.textOnly Departure.lateStores }, { on := 9, ground := Ground.textOnly Departure.lateStores }, { on := 10, ground := Ground.textOnly Departure.lateStores }, { on := 11, ground := Ground.phase }], guard := none }) (v := ?_) rfl (by kernel_rfl) (by kernel_rfl) (by kernel_rfl) (fun _ _ _ h => h) (Or.inl ⟨by rfl, ?_⟩) C2 ?_
                    rotate_left
                    · intro W' hSw
                      clear hSw
                      go_simp <;> with_reducible rfl
                    try simp only [Act.put, List.setIfInBounds_toArray, List.set_cons_zero, List.set_cons_succ]
                    refine wpAnyH_ready (rs := [13]) (by kernel_rfl) (by simp) ?_
                    refine AllReadyH.cons (o := { dst := none, op := Op.store 29 (Operand.tmp 10) (Operand.tmp 58), type := 0, pos := "ref.go:21", after := #[{ on := 11, ground := Ground.data }, { on := 8, ground := Ground.data }, { on := 12, ground := Ground.chain }, { on := 0, ground := Ground.phase }, { on := 1, ground := Ground.phase }, { on := 2, ground := Ground.phase }, { on := 3, ground := Ground.phase }, { on := 4, ground := Ground.phase }, { on := 5, ground := Ground.phase }, { on := 6, ground := Ground.phase }, { on := 7, ground := Ground.phase }, { on := 8, ground := Ground.phase }, { on := 9, ground := Ground.textOnly Departure.lateStores }, { on := 10, ground := Ground.textOnly Departure.lateStores }, { on := 11, ground := Ground.phase }, { on := 12, ground := Ground.phase }], guard := none }) rfl (fun K hK => ?_) AllReadyH.nil
                    rw [if_pos (by rfl)]
                    refine wp_store_row 29 _ _ rfl blk #[.int .i64 tk, .int .i64 ts, .int .i64 tq, .int .i64 te] (by simp [Act.eval]) rfl 29 _ TB.out size_tag (by simp) (by simp [Value.oneCell']) ?_
                    refine hK.out _ _ (below_setRow C2 hble _) (fun C3 => ?_)
                    clear hK K
                    try simp only [Act.put]
                    have RF := Lib.hid (RE.out.setRow TB.out (by simp) #[.int .i64 tk, .int .i64 ts, .int .i64 tq, .int .i64 te])
                    have TF := Lib.hid (TB.out.set #[.int .i64 tk, .int .i64 ts, .int .i64 tq, .int .i64 te])
                    generalize World.setRow (w3.alloc (.cells #[.int .i64 0, .int .i64 0, .int .i64 0, .int .i64 0] 29)) blk #[.int .i64 tk, .int .i64 ts, .int .i64 tq, .int .i64 te] = W9 at *
                    refine wpAnyH_take (i := 14) (oi := { dst := some 11, op := Op.assign (Operand.tmp 59), type := 3, pos := "ref.go:21", after := #[{ on := 9, ground := Ground.data }, { on := 13, ground := Ground.chain }, { on := 0, ground := Ground.phase }, { on := 1, ground := Ground.phase }, { on := 2, ground := Ground.phase }, { on := 3, ground := Ground.phase }, { on := 4, ground := Ground.phase }, { on := 5, ground := Ground.phase }, { on := 6, ground := Ground.phase }, { on := 7, ground := Ground.phase }, { on := 8, ground := Ground.phase }, { on := 9, ground := Ground.phase }, { on := 10, ground := Ground.textOnly Departure.lateStores }, { on := 11, ground := Ground.phase }, { on := 12, ground := Ground.phase }, { on := 13, ground := Ground.phase }], guard := none }) (v := ?_) rfl (by kernel_rfl) (by kernel_rfl) (by kernel_rfl) (fun _ _ _ h => h) (Or.inl ⟨by rfl, ?_⟩) C3 ?_
                    rotate_left
                    · intro W' hSw
                      clear hSw
                      go_simp <;> with_reducible rfl
                    try simp only [Act.put, List.setIfInBounds_toArray, List.set_cons_zero, List.set_cons_succ]
                    refine wpAnyH_take (i := 15) (oi := { dst := some 12, op := Op.assign (Operand.tmp 60), type := 3, pos := "ref.go:21", after := #[{ on := 10, ground := Ground.data }, { on := 14, ground := Ground.chain }, { on := 0, ground := Ground.phase }, { on := 1, ground := Ground.phase }, { on := 2, ground := Ground.phase }, { on := 3, ground := Ground.phase }, { on := 4, ground := Ground.phase }, { on := 5, ground := Ground.phase }, { on := 6, ground := Ground.phase }, { on := 7, ground := Ground.phase }, { on := 8, ground := Ground.phase }, { on := 9, ground := Ground.phase }, { on := 10, ground := Ground.phase }, { on := 11, ground := Ground.phase }, { on := 12, ground := Ground.phase }, { on := 13, ground := Ground.phase }, { on := 14, ground := Ground.phase }], guard := none }) (v := ?_) rfl (by kernel_rfl) (by kernel_rfl) (by kernel_rfl) (fun _ _ _ h => h) (Or.inl ⟨by rfl, ?_⟩) C3 ?_
                    rotate_left
                    · intro W' hSw
                      clear hSw
                      go_simp <;> with_reducible rfl
                    try simp only [Act.put, List.setIfInBounds_toArray, List.set_cons_zero, List.set_cons_succ]
                    refine wpAnyH_done (by kernel_rfl) ?_ _
                    refine NoPanic.normal ?_
                    exact HREST.out A3 c3 blk W9 ⟨RF, TF, C3⟩
                  · go_simp
                    refine hK.out _ _ (C0.alloc C0.size _) (fun C1 => ?_)
                    clear hK K
                    try simp only [Act.put, List.setIfInBounds_toArray, List.set_cons_zero, List.set_cons_succ]
                    have TA : Hid (CRow (wr.drew.alloc (.cells #[.int .i64 0, .int .i64 0, .int .i64 0, .int .i64 0] 29)) wr.heap.size 29 #[.int .i64 0, .int .i64 0, .int .i64 0, .int .i64 0]) := Lib.hid (CRow.new wr.drew #[.int .i64 0, .int .i64 0, .int .i64 0, .int .i64 0] 29)
                    refine wpAnyH_ready (rs := [5]) (by kernel_rfl) (by simp) ?_
                    refine AllReadyH.cons (o := { dst := some 56, op := Op.call { callee := Callee.value (Operand.func 15), args := #[Operand.tmp 51, Operand.tmp 55], argTypes := #[23, 27] }, type := 41, pos := "ref.go:21", after := #[{ on := 0, ground := Ground.data }, { on := 4, ground := Ground.data }], guard := none }) rfl (fun K hK => ?_) AllReadyH.nil
                    go_simp
                    refine (HDC2.out _ (HRk.out.below C1)).mono ?_
                    intro _ w3 hM
                    obtain ⟨A3, c3, rfl, R3, D3⟩ := hM.tag vn HVN.out tk ts tq te rfl
                    have hB := D3.out
                    clear hM
                    go_wp2_with fail
                    refine hK.out _ _ (C1.trans (hB.mono C1.size)) (fun C2 => ?_)
                    clear hK K hB
                    try simp only [Act.put, List.setIfInBounds_toArray, List.set_cons_zero, List.set_cons_succ]
                    refine wpAnyH_take (i := 6) (oi := { dst := some 50, op := Op.move (Operand.tmp 56), type := 41, pos := "ref.go:21", after := #[{ on := 5, ground := Ground.data }], guard := none }) (v := ?_) rfl (by kernel_rfl) (by kernel_rfl) (by kernel_rfl) (fun _ _ _ h => h) (Or.inl ⟨by rfl, ?_⟩) C2 ?_
                    rotate_left
                    · intro W' hSw
                      clear hSw
                      go_simp <;> with_reducible rfl
                    try simp only [Act.put, List.setIfInBounds_toArray, List.set_cons_zero, List.set_cons_succ]
                    refine wpAnyH_take (i := 7) (oi := { dst := some 57, op := Op.extract (Operand.tmp 50) 0, type := 27, pos := "ref.go:21", after := #[{ on := 6, ground := Ground.data }], guard := none }) (v := ?_) rfl (by kernel_rfl) (by kernel_rfl) (by kernel_rfl) (fun _ _ _ h => h) (Or.inl ⟨by rfl, ?_⟩) C2 ?_
                    rotate_left
                    · intro W' hSw
                      clear hSw
                      go_simp <;> with_reducible rfl
                    try simp only [Act.put, List.setIfInBounds_toArray, List.set_cons_zero, List.set_cons_succ]
                    refine wpAnyH_take (i := 8) (oi := { dst := some 58, op := Op.extract (Operand.tmp 50) 1, type := 29, pos := "ref.go:21", after := #[{ on := 6, ground := Ground.data }, { on := 12, ground := Ground.gcOnly Departure.lateStores }], guard := none }) (v := ?_) rfl (by kernel_rfl) (by kernel_rfl) (by kernel_rfl) (fun _ _ _ h => h) (Or.inl ⟨by rfl, ?_⟩) C2 ?_
                    rotate_left
                    · intro W' hSw
                      clear hSw
                      go_simp <;> with_reducible rfl
                    try simp only [Act.put, List.setIfInBounds_toArray, List.set_cons_zero, List.set_cons_succ]
                    refine wpAnyH_take (i := 9) (oi := { dst := some 59, op := Op.extract (Operand.tmp 50) 2, type := 3, pos := "ref.go:21", after := #[{ on := 6, ground := Ground.data }, { on := 13, ground := Ground.gcOnly Departure.lateStores }], guard := none }) (v := ?_) rfl (by kernel_rfl) (by kernel_rfl) (by kernel_rfl) (fun _ _ _ h => h) (Or.inl ⟨by rfl, ?_⟩) C2 ?_
                    rotate_left
                    · intro W' hSw
                      clear hSw
                      go_simp <;> with_reducible rfl
                    try simp only [Act.put, List.setIfInBounds_toArray, List.set_cons_zero, List.set_cons_succ]
                    refine wpAnyH_take (i := 10) (oi := { dst := some 60, op := Op.extract (Operand.tmp 50) 3, type := 3, pos := "ref.go:21", after := #[{ on := 6, ground := Ground.data }, { on := 14, ground := Ground.gcOnly Departure.lateStores }], guard := none }) (v := ?_) rfl (by kernel_rfl) (by kernel_rfl) (by kernel_rfl) (fun _ _ _ h => h) (Or.inl ⟨by rfl, ?_⟩) C2 ?_
                    rotate_left
                    · intro W' hSw
                      clear hSw
                      go_simp <;> with_reducible rfl
                    try simp only [Act.put, List.setIfInBounds_toArray, List.set_cons_zero, List.set_cons_succ]
                    have RE : Hid (R8 w3 A3 vn vd) := Lib.hid (R3.out)
                    have TB := Lib.hid (TA.out.below D3.out)
                    refine wpAnyH_take (i := 12) (oi := { dst := some 9, op := Op.assign (Operand.tmp 57), type := 27, pos := "ref.go:21", after := #[{ on := 7, ground := Ground.data }, { on := 5, ground := Ground.chain }, { on := 0, ground := Ground.phase }, { on := 1, ground := Ground.phase }, { on := 2, ground := Ground.phase }, { on := 3, ground := Ground.phase }, { on := 4, ground := Ground.phase }, { on := 5, ground := Ground.phase }, { on := 6, ground := Ground.phase }, { on := 7, ground := Ground.phase }, { on := 8, ground := Ground.textOnly Departure.lateStores }, { on := 9, ground := Ground.textOnly Departure.lateStores }, { on := 10, ground := Ground.textOnly Departure.lateStores }, { on := 11, ground := Ground.phase }], guard := none }) (v := ?_) rfl (by kernel_rfl) (by kernel_rfl) (by kernel_rfl) (fun _ _ _ h => h) (Or.inl ⟨by rfl, ?_⟩) C2 ?_
                    rotate_left
                    · intro W' hSw
                      clear hSw
                      go_simp <;> with_reducible rfl
                    try simp only [Act.put, List.setIfInBounds_toArray, List.set_cons_zero, List.set_cons_succ]
                    refine wpAnyH_ready (rs := [13]) (by kernel_rfl) (by simp) ?_
                    refine AllReadyH.cons (o := { dst := none, op := Op.store 29 (Operand.tmp 10) (Operand.tmp 58), type := 0, pos := "ref.go:21", after := #[{ on := 11, ground := Ground.data }, { on := 8, ground := Ground.data }, { on := 12, ground := Ground.chain }, { on := 0, ground := Ground.phase }, { on := 1, ground := Ground.phase }, { on := 2, ground := Ground.phase }, { on := 3, ground := Ground.phase }, { on := 4, ground := Ground.phase }, { on := 5, ground := Ground.phase }, { on := 6, ground := Ground.phase }, { on := 7, ground := Ground.phase }, { on := 8, ground := Ground.phase }, { on := 9, ground := Ground.textOnly Departure.lateStores }, { on := 10, ground := Ground.textOnly Departure.lateStores }, { on := 11, ground := Ground.phase }, { on := 12, ground := Ground.phase }], guard := none }) rfl (fun K hK => ?_) AllReadyH.nil
                    rw [if_pos (by rfl)]
                    refine wp_store_row 29 _ _ rfl wr.heap.size #[.int .i64 tk, .int .i64 ts, .int .i64 tq, .int .i64 te] (by simp [Act.eval]) rfl 29 _ TB.out size_tag (by simp) (by simp [Value.oneCell']) ?_
                    refine hK.out _ _ (below_setRow C2 (Nat.le_refl _) _) (fun C3 => ?_)
                    clear hK K
                    try simp only [Act.put]
                    have RF := Lib.hid (RE.out.setRow TB.out (by simp) #[.int .i64 tk, .int .i64 ts, .int .i64 tq, .int .i64 te])
                    have TF := Lib.hid (TB.out.set #[.int .i64 tk, .int .i64 ts, .int .i64 tq, .int .i64 te])
                    generalize World.setRow w3 wr.heap.size #[.int .i64 tk, .int .i64 ts, .int .i64 tq, .int .i64 te] = W9 at *
                    refine wpAnyH_take (i := 14) (oi := { dst := some 11, op := Op.assign (Operand.tmp 59), type := 3, pos := "ref.go:21", after := #[{ on := 9, ground := Ground.data }, { on := 13, ground := Ground.chain }, { on := 0, ground := Ground.phase }, { on := 1, ground := Ground.phase }, { on := 2, ground := Ground.phase }, { on := 3, ground := Ground.phase }, { on := 4, ground := Ground.phase }, { on := 5, ground := Ground.phase }, { on := 6, ground := Ground.phase }, { on := 7, ground := Ground.phase }, { on := 8, ground := Ground.phase }, { on := 9, ground := Ground.phase }, { on := 10, ground := Ground.textOnly Departure.lateStores }, { on := 11, ground := Ground.phase }, { on := 12, ground := Ground.phase }, { on := 13, ground := Ground.phase }], guard := none }) (v := ?_) rfl (by kernel_rfl) (by kernel_rfl) (by kernel_rfl) (fun _ _ _ h => h) (Or.inl ⟨by rfl, ?_⟩) C3 ?_
                    rotate_left
                    · intro W' hSw
                      clear hSw
                      go_simp <;> with_reducible rfl
                    try simp only [Act.put, List.setIfInBounds_toArray, List.set_cons_zero, List.set_cons_succ]
                    refine wpAnyH_take (i := 15) (oi := { dst := some 12, op := Op.assign (Operand.tmp 60), type := 3, pos := "ref.go:21", after := #[{ on := 10, ground := Ground.data }, { on := 14, ground := Ground.chain }, { on := 0, ground := Ground.phase }, { on := 1, ground := Ground.phase }, { on := 2, ground := Ground.phase }, { on := 3, ground := Ground.phase }, { on := 4, ground := Ground.phase }, { on := 5, ground := Ground.phase }, { on := 6, ground := Ground.phase }, { on := 7, ground := Ground.phase }, { on := 8, ground := Ground.phase }, { on := 9, ground := Ground.phase }, { on := 10, ground := Ground.phase }, { on := 11, ground := Ground.phase }, { on := 12, ground := Ground.phase }, { on := 13, ground := Ground.phase }, { on := 14, ground := Ground.phase }], guard := none }) (v := ?_) rfl (by kernel_rfl) (by kernel_rfl) (by kernel_rfl) (fun _ _ _ h => h) (Or.inl ⟨by rfl, ?_⟩) C3 ?_
                    rotate_left
                    · intro W' hSw
                      clear hSw
                      go_simp <;> with_reducible rfl
                    try simp only [Act.put, List.setIfInBounds_toArray, List.set_cons_zero, List.set_cons_succ]
                    refine wpAnyH_done (by kernel_rfl) ?_ _
                    refine NoPanic.normal ?_
                    exact HREST.out A3 c3 wr.heap.size W9 ⟨RF, TF, C3⟩
                · intro A3 c3 blk W9 ⟨R9, U9, D9⟩
                  have B9 := Lib.hid (below_step BZ.out D9.out)
                  have T9 := Lib.hid (TZ.out.below D9.out)
                  have D10 := Lib.hid (below_step HZ.out D9.out)
                  by_cases hve : ve = 0
                  · subst hve
                    have HX := Lib.hid (HAT2.out rfl)
                    have z0 := U9.out.cell_at 0 _ rfl
                    have z1 := U9.out.cell_at 1 _ rfl
                    have z2 := U9.out.cell_at 2 _ rfl
                    have z3 := U9.out.cell_at 3 _ rfl
                    go_wp2_with (with_reducible refine (?_ : wpList _ _ _ ({ dst := _, op := Op.store 31 _ _, type := _, pos := _, after := _, guard := _ } :: _) _ _); refine wpList_store_at rfl 31 _ _ rfl 6 size_page _ (w.heap.size + 1) ?hx rfl _ T9.out.row ?hn ?ho ?h1 ?_; (case hx => simp [Act.eval]); (case hn => simp); (case ho => simp); (case h1 => simp [Value.oneCell']))
                    have T10 := Lib.hid (T9.out.set #[.slice A3 vn c3, .int .i64 tk, .int .i64 ts, .int .i64 tq, .int .i64 te, .int .i64 (vs : Int)])
                    have B10 := Lib.hid (below_setRow B9.out (Nat.le_succ _) #[.slice A3 vn c3, .int .i64 tk, .int .i64 ts, .int .i64 tq, .int .i64 te, .int .i64 (vs : Int)])
                    have R10 := Lib.hid (R9.out.setRow T9.out (by simp) #[.slice A3 vn c3, .int .i64 tk, .int .i64 ts, .int .i64 tq, .int .i64 te, .int .i64 (vs : Int)])
                    go_wp2
                    refine bodyPost_ret (results_ctt_row rfl _ _ (w.heap.size + 1) 31 _ (0, 0) _ rfl T10.out.row Try.underlying31 rfl size_page) rfl ?_
                    rw [HX.out]
                    refine ⟨⟨A3, c3, ?_, ?_⟩, B10.out⟩
                    · rw [HVN.out]
                      rfl
                    · rw [HVN.out]
                      exact R10.out
                  · have hvb : (ve == 0) = false := beq_eq_false_iff_ne.2 hve
                    have HN2 := Lib.hid (HNT2.out hve)
                    go_wp2
                    go_roundw
                    case rel => exact ⟨j + 1, by omega, by go_num, HN2, D10⟩
                    case measure => simp [intOf]; omega
              · obtain rfl : j = k := by omega
                have HX := Lib.hid (HNN.out (by trivial) (by rw [HL.out]; exact HN.out))
                have B3 := Lib.hid (below_step B2.out HZ.out)
                have T3 := Lib.hid (T2.out.below HZ.out)
                go_wp2_with (with_reducible refine (?_ : wpList _ _ _ ({ dst := _, op := Op.store 31 _ _, type := _, pos := _, after := _, guard := _ } :: _) _ _); refine wpList_store_at rfl 31 _ _ rfl 6 size_page _ (w.heap.size + 1) ?hx rfl _ T3.out.row ?hn ?ho ?h1 ?_; (case hx => simp [Act.eval]); (case hn => simp); (case ho => simp); (case h1 => simp [Value.oneCell']))
                have T9 := Lib.hid (T3.out.set #[.slice none 0 0, .int .i64 0, .int .i64 0, .int .i64 0, .int .i64 0, .int .i64 0])
                have B9 := Lib.hid (below_setRow B3.out (Nat.le_succ _) #[.slice none 0 0, .int .i64 0, .int .i64 0, .int .i64 0, .int .i64 0, .int .i64 0])
                go_wp2
                refine bodyPost_ret (results_ctt_row rfl _ _ (w.heap.size + 1) 31 _ (0, 0) _ rfl T9.out.row Try.underlying31 rfl size_page) rfl ?_
                rw [HX.out]
                exact ⟨UpRet.no 30 _, B9.out⟩
end Go.Proofs.Ytgiihdeilkiphaa
