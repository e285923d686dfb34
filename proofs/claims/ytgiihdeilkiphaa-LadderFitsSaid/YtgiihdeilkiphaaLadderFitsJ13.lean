/-
  Contracts of the ladder's isRaw and isLadder, of the laws' plain and few, over the landed code.
-/
import Derived.Test.YtgiihdeilkiphaaLadderFitsJ12
import Derived.Test.YtgiihdeilkiphaaLadderFitsJMat
import Derived.Test.YtgiihdeilkiphaaLadderFitsJ6
namespace Go.Proofs.Ytgiihdeilkiphaa
open Go.RowKit
set_option maxRecDepth 100000

theorem size_page : (Try.prog.info? 31).map (·.size) = some 6 := by kernel_rfl
theorem size_geom : (Try.prog.info? 23).map (·.size) = some 7 := by kernel_rfl

set_option maxHeartbeats 400000 in
theorem isRaw_is (g : Gm) (A : Option Addr) (n c : Nat) (v : Bool) (hv : decide ((n : Int) = g.raw) = v) (w : World) :
    Calls Try.prog 41 #[g.val, .slice A n c] w (Gives (.bool v) w) := by
  obtain ⟨m, HR⟩ : ∃ m, Hid (g.raw = m) := ⟨_, rfl⟩
  have hb : ((n : Int) == m) = v := by rw [← hv, HR.out]; exact Bool.eq_iff_iff.2 (by simp)
  clear hv
  obtain ⟨p, b, s, gc, k, r, q⟩ := g
  simp only [Gm.val]
  go_enter Try.func41, Try.ntmps41
  go_wp2_with fail
  refine (Raw_is ⟨p, b, s, gc, k, r, q⟩ _ HR.out _).mono ?_
  rintro _ w1 ⟨rfl, h1⟩
  have B1 := Lib.hid (below_step (below_new w _) h1)
  clear h1
  go_wp2
  go_ret
  exact ⟨rfl, B1.out⟩

def geo2 : Gm := ⟨1, 2, 4, 1, 4, 2, 1⟩
theorem geo2_ok : geo2.ok = true := by decide +kernel
set_option maxHeartbeats 400000 in
theorem plain_any (w : World) : Calls Try.prog 17 #[] w (Gives geo2.val w) := by
  go_enter Try.func17, Try.ntmps17
  have T0 := Lib.hid (CRow.new w #[.int .i64 0, .int .i64 0, .int .i64 0, .int .i64 0, .int .i64 0, .int .i64 0, .int .i64 0] 23)
  have B0 := Lib.hid (below_new w (.cells #[.int .i64 0, .int .i64 0, .int .i64 0, .int .i64 0, .int .i64 0, .int .i64 0, .int .i64 0] 23))
  go_wp2_with (with_reducible refine (?_ : wpList _ _ _ ({ dst := _, op := Op.store 23 _ _, type := _, pos := _, after := _, guard := _ } :: _) _ _); refine wpList_store_at rfl 23 _ _ rfl 7 size_geom _ w.heap.size ?hx rfl _ T0.out.row ?hn ?ho ?h1 ?_; (case hx => simp [Act.eval]); (case hn => simp); (case ho => simp); (case h1 => simp [Value.oneCell']))
  have B9 := Lib.hid (below_setRow B0.out (Nat.le_refl _) #[.int .i64 1, .int .i64 2, .int .i64 4, .int .i64 1, .int .i64 4, .int .i64 2, .int .i64 1])
  have T9 := Lib.hid (T0.out.set #[.int .i64 1, .int .i64 2, .int .i64 4, .int .i64 1, .int .i64 4, .int .i64 2, .int .i64 1])
  go_wp2
  refine bodyPost_ret (results_cell_row rfl _ _ w.heap.size 23 _ (0, 0) _ rfl T9.out.row Try.underlying23 rfl size_geom) rfl ?_
  exact ⟨rfl, B9.out⟩

set_option maxHeartbeats 1000000 in
theorem isLadder_any (g : Gm) (A : Option Addr) (n c : Nat) (PA : Nat → Option Addr) (PC : Nat → Nat) (ls : List (List Nat)) (w : World) (hr : RR w A n PA PC ls) (hn : n ≤ 1099511627776) :
    Calls Try.prog 20 #[g.val, .slice A n c] w (Gives (.bool (climbOk g ls)) w) := by
  obtain ⟨v, HV⟩ : ∃ v, Hid (climbOk g ls = v) := ⟨_, rfl⟩
  have HL := Lib.hid hr.len
  have HR := Lib.hid hr
  clear hr
  rw [HV.out]
  cases hok : g.ok
  · have hv : v = false := by rw [← HV.out]; simp [climbOk, hok]
    have HO := Lib.hid hok
    subst hv
    clear HV hok
    obtain ⟨p, b, s, gc, k, r, q⟩ := g
    simp only [Gm.val]
    go_enter Try.func20, Try.ntmps20
    go_wp2_with fail
    refine (Check_no ⟨p, b, s, gc, k, r, q⟩ HO.out _).mono ?_
    rintro _ w1 ⟨rfl, h1⟩
    have B1 := Lib.hid (below_step (below_new w _) h1)
    clear h1
    go_wp2
    go_ret
    exact ⟨rfl, B1.out⟩
  · have HO := Lib.hid hok
    have HVI := Lib.hid (@climbOk_iff g ls)
    obtain ⟨m, HRW⟩ : ∃ m, Hid (g.raw = m) := ⟨_, rfl⟩
    have hiR := fun A n c v hv w => isRaw_is g A n c v hv w
    rw [HRW.out] at hiR
    have HIR := Lib.hid hiR
    clear hok hiR
    obtain ⟨p, b, s, gc, k, r, q⟩ := g
    simp only [Gm.val] at HIR ⊢
    go_enter Try.func20, Try.ntmps20
    go_wp2_with fail
    refine (Check_yes ⟨p, b, s, gc, k, r, q⟩ HO.out _).mono ?_
    rintro _ w1 ⟨rfl, h1⟩
    have Y1 := Lib.hid ((GBox.new w ⟨p, b, s, gc, k, r, q⟩ 23).below h1)
    have B1 := Lib.hid (below_step (below_new w _) h1)
    clear h1
    obtain ⟨_, g0, g1, g2, g3, g4, g5, g6⟩ := Y1.out
    simp only at g0 g1 g2 g3 g4 g5 g6
    by_cases h0 : n = 0
    · have hv : v = false := by
        rw [← HV.out]
        cases hc : climbOk ⟨p, b, s, gc, k, r, q⟩ ls
        · rfl
        · have := HVI.out.1 hc
          have := HL.out
          omega
      subst hv h0
      go_wp2
      go_ret
      exact ⟨rfl, B1.out⟩
    · have hz : ((n : Int) == 0) = false := by simp; omega
      by_cases hgt : r < (n : Int)
      · have hd : decide (r < (n : Int)) = true := decide_eq_true hgt
        have hv : v = false := by
          rw [← HV.out]
          cases hc : climbOk ⟨p, b, s, gc, k, r, q⟩ ls
          · rfl
          · have h1 := HVI.out.1 hc
            have := HL.out
            try simp only at h1
            omega
        subst hv
        clear hgt
        go_wp2
        go_ret
        exact ⟨rfl, B1.out⟩
      · have hd : decide (r < (n : Int)) = false := decide_eq_false hgt
        have HNR := Lib.hid (show 1 ≤ n ∧ (n : Int) ≤ r from ⟨by omega, by omega⟩)
        clear hgt
        go_wp2
        clear g0 g1 g2 g3 g4 g5 g6 hd hz h0
        go_loopw [24] (fun i wr => ∃ k' : Nat, k' ≤ n ∧ i = .int .i64 (k' : Int) ∧ Hid (∀ j l, j < k' → ls[j]? = some l → (l.length : Int) = m) ∧ Hid (Below w1.heap.size w1 wr)) (fun i _ => n - (intOf i).toNat)
        case atStart => exact ⟨0, Nat.zero_le _, rfl, fun j l h => absurd h (by omega), Below.refl _ _⟩
        case round =>
          obtain ⟨k', hk, rfl, HF, HB⟩ := hrel
          by_cases hlt : k' < n
          · have Yr := Lib.hid (Y1.out.below HB.out)
            obtain ⟨_, g0, g1, g2, g3, g4, g5, g6⟩ := Yr.out
            simp only at g0 g1 g2 g3 g4 g5 g6
            obtain ⟨b1, o1, l, m1, rfl, hb1, HLk, HLm, hcl, HRk, hmc, _⟩ := ((HR.out.below B1.out).below HB.out).at_ hlt
            generalize PA k' = A1 at *
            generalize PC k' = C1 at *
            go_wp2_with fail
            by_cases he : (m1 : Int) = m
            · refine (HIR.out _ _ _ true (decide_eq_true he) _).mono ?_
              rintro _ w2 ⟨rfl, h2⟩
              have B2 := Lib.hid (below_step HB.out h2)
              have HF2 : Hid (∀ j l, j < k' + 1 → ls[j]? = some l → (l.length : Int) = m) := by
                intro j l' hj hl'
                rcases Nat.lt_or_ge j k' with h3 | h3
                · exact HF.out j l' h3 hl'
                · obtain rfl : j = k' := by omega
                  rw [HLk.out] at hl'
                  injection hl' with e
                  rw [← e, HLm.out]
                  exact he
              clear h2 g0 g1 g2 g3 g4 g5 g6 he
              go_wp2
              go_roundw
              case rel => exact ⟨k' + 1, by omega, by go_num, HF2, B2⟩
              case measure => simp [intOf]; omega
            · refine (HIR.out _ _ _ false (decide_eq_false he) _).mono ?_
              rintro _ w2 ⟨rfl, h2⟩
              have B2 := Lib.hid (below_step HB.out h2)
              have hv : v = false := by
                rw [← HV.out]
                cases hc : climbOk ⟨p, b, s, gc, k, r, q⟩ ls
                · rfl
                · have h3 := (HVI.out.1 hc).2.2.2 l (List.mem_of_getElem? HLk.out)
                  rw [HLm.out, HRW.out] at h3
                  exact absurd h3 he
              subst hv
              clear h2 g0 g1 g2 g3 g4 g5 g6 he
              go_wp2
              go_ret
              exact ⟨rfl, below_step B1.out B2.out⟩
          · obtain rfl : k' = n := by omega
            have hv : v = true := by
              rw [← HV.out]
              refine HVI.out.2 ⟨HO.out, by have := HNR.out; have := HL.out; omega, by have h3 := HNR.out; have := HL.out; omega, fun l hl => ?_⟩
              obtain ⟨j, hj, rfl⟩ := List.getElem_of_mem hl
              rw [HRW.out]
              exact HF.out j _ (by have := HL.out; omega) (List.getElem?_eq_getElem hj)
            subst hv
            go_wp2
            go_ret
            exact ⟨rfl, below_step B1.out HB.out⟩

/-- It returns a bool; with true there are twelve rungs at most. -/
def Fews (n : Nat) (w : World) (e : Ending) (w' : World) : Prop := ∃ v : Bool, e = .returned (.bool v) ∧ (v = true → n ≤ 12) ∧ Below w.heap.size w w'
set_option maxHeartbeats 1000000 in
theorem few_any (g : Gm) (A : Option Addr) (n c : Nat) (PA : Nat → Option Addr) (PC : Nat → Nat) (ls : List (List Nat)) (w : World) (hr : RR w A n PA PC ls) (hn : n ≤ 9223372036854775807) :
    Calls Try.prog 8 #[g.val, .slice A n c] w (Fews n w) := by
  have hSm := fun w' => (Classical.em (smallG g)).elim (fun h => (⟨true, Small_yes g h w'⟩ : ∃ v, Calls Try.prog 19 #[g.val] w' (Gives (.bool v) w'))) (fun h => ⟨false, Small_no g h w'⟩)
  have HR := Lib.hid hr
  clear hr
  obtain ⟨p, b, s, gc, k, r, q⟩ := g
  simp only [Gm.val] at hSm ⊢
  have HS := Lib.hid hSm
  clear hSm
  have Y1 := Lib.hid (GBox.new w ⟨p, b, s, gc, k, r, q⟩ 23)
  have B1 := Lib.hid (below_new w (.cells #[.int .i64 p, .int .i64 b, .int .i64 s, .int .i64 gc, .int .i64 k, .int .i64 r, .int .i64 q] 23))
  go_enter Try.func8, Try.ntmps8
  go_wp2
  generalize w.alloc (.cells #[.int .i64 p, .int .i64 b, .int .i64 s, .int .i64 gc, .int .i64 k, .int .i64 r, .int .i64 q] 23) = w1 at *
  go_loop [9] (fun i => ∃ k' : Nat, k' ≤ n ∧ i = .int .i64 (k' : Int)) (fun i => n - (intOf i).toNat)
  case atStart => exact ⟨0, Nat.zero_le _, rfl⟩
  case round =>
    obtain ⟨k', hk, rfl⟩ := hrel
    by_cases hlt : k' < n
    · obtain ⟨b1, o1, l, m1, rfl, hb1, HLk, HLm, hcl, HRk, hmc, _⟩ := (HR.out.below B1.out).at_ hlt
      generalize PA k' = A1 at *
      generalize PC k' = C1 at *
      by_cases h4 : 400 < m1
      · have d4 : decide ((400 : Int) < (m1 : Int)) = true := decide_eq_true (by omega)
        go_wp2
        go_ret
        exact ⟨false, rfl, by simp, B1.out⟩
      · have d4 : decide ((400 : Int) < (m1 : Int)) = false := decide_eq_false (by omega)
        go_wp2
        go_round
        case rel => exact ⟨k' + 1, by omega, by go_num⟩
        case measure => simp [intOf]; omega
    · obtain rfl : k' = n := by omega
      obtain ⟨_, g0, g1, g2, g3, g4, g5, g6⟩ := Y1.out
      simp only at g0 g1 g2 g3 g4 g5 g6
      obtain ⟨v, hv⟩ := HS.out w1
      go_wp2_with fail
      refine hv.mono ?_
      rintro _ w2 ⟨rfl, h2⟩
      have B2 := Lib.hid (below_step B1.out h2)
      clear h2 g0 g1 g2 g3 g4 g5 g6
      cases v
      · go_wp2
        go_ret
        exact ⟨false, rfl, by simp, B2.out⟩
      · by_cases h12 : k' ≤ 12
        · have d12 : decide ((k' : Int) ≤ 12) = true := decide_eq_true (by omega)
          go_wp2
          go_ret
          exact ⟨true, rfl, fun _ => h12, B2.out⟩
        · have d12 : decide ((k' : Int) ≤ 12) = false := decide_eq_false (by omega)
          go_wp2
          go_ret
          exact ⟨false, rfl, by simp, B2.out⟩
end Go.Proofs.Ytgiihdeilkiphaa

/-
  Contract of ladder.readUp over the landed code, where what reads is Climb's own function over the rungs.
-/
namespace Go.Proofs.Ytgiihdeilkiphaa
open Go.RowKit
set_option maxRecDepth 100000

set_option maxHeartbeats 4000000 in
theorem readUp_C (g : Gm) (N : Nat) (hN : N ≤ 1099511627776) (p0 : Option Addr) (Y : Nat → Prop) (rd : Nat → List Nat × Int) (I : Nat → World → Prop) (w : World)
    (hI : ∀ k W W', I k W → Below w.heap.size W W' → I k W')
    (hY : ∀ k, Y k → k < w.heap.size)
    (hrd : ∀ k W, k < N → I k W → w.heap.size ≤ W.heap.size → Calls Try.prog 22 #[.int .i64 (k : Int), .pointer p0] W (RdE (rd k).1 (rd k).2 k Y I W))
    (h0 : I 0 w) :
    Calls Try.prog 21 #[g.val, .int .i64 (N : Int), .func (.func 22) #[] #[.pointer p0]] w
      fun e w' => UpRet (upL g rd N 0) e w' ∧ Save Y w w' ∧ I (upN g rd N 0) w' := by
  have HI := Lib.hid hI
  have HRD := Lib.hid hrd
  have hRneY : ¬ Y (w.heap.size + 1) := fun h => by have := hY _ h; omega
  have hGneY : ¬ Y w.heap.size := fun h => by have := hY _ h; omega
  have HU := Lib.hid (show ∀ k l er, k < N → rd k = (l, er) → er ≠ 0 → upL g rd (N - k) k = noPage er ∧ upN g rd (N - k) k = k + 1 from fun k l er hk h he => by
    rw [show N - k = (N - (k + 1)) + 1 by omega]; exact up_err h he)
  have HUL := Lib.hid (show ∀ k l, k < N → rd k = (l, 0) → (l.length : Int) ≠ g.raw → upL g rd (N - k) k = noPage 2 ∧ upN g rd (N - k) k = k + 1 from fun k l hk h hl => by
    rw [show N - k = (N - (k + 1)) + 1 by omega]; exact up_len h hl)
  have HUA := Lib.hid (show ∀ k l, k < N → rd k = (l, 0) → (l.length : Int) = g.raw → rungE g l = 0 → upL g rd (N - k) k = (rungP g l, k, 0) ∧ upN g rd (N - k) k = k + 1 from fun k l hk h hl he => by
    rw [show N - k = (N - (k + 1)) + 1 by omega]; exact up_at h hl he)
  have HUN := Lib.hid (show ∀ k l, k < N → rd k = (l, 0) → (l.length : Int) = g.raw → rungE g l ≠ 0 → upL g rd (N - k) k = upL g rd (N - (k + 1)) (k + 1) ∧ upN g rd (N - k) k = upN g rd (N - (k + 1)) (k + 1) from fun k l hk h hl he => by
    rw [show N - k = (N - (k + 1)) + 1 by omega]; exact up_next h hl he)
  have HU0 := Lib.hid (show ∀ k, upL g rd 0 k = noPage 30 ∧ upN g rd 0 k = k from fun k => ⟨rfl, rfl⟩)
  obtain ⟨V, HV⟩ : ∃ V, Hid (V = upL g rd N 0) := ⟨_, rfl⟩
  obtain ⟨M, HM⟩ : ∃ M, Hid (M = upN g rd N 0) := ⟨_, rfl⟩
  rw [← HV.out, ← HM.out]
  have HNR := Lib.hid (show ∀ l, rungE g l = (decG g l).2.2.2 ∧ rungP g l = ((decG g l).1, (decG g l).2.1, (decG g l).2.2.1) from fun l => ⟨rfl, rfl⟩)
  have HDec := Lib.hid (fun A n c hc l w' h => PageDec_any g A n c hc l w' h)
  have HRaw := Lib.hid (fun A n c v hv w' => isRaw_is g A n c v hv w')
  generalize hgr : g.raw = gr at *
  generalize hdec : decG g = dec at *
  generalize hre : rungE g = re at *
  generalize hrp : rungP g = rp at *
  generalize hul : upL g rd = ul at *
  generalize hun : upN g rd = un at *
  clear hI hrd hgr hdec hre hrp hul hun
  obtain ⟨p, b, s, gc, kk, r, q⟩ := g
  simp only [Gm.val] at HDec HRaw ⊢
  have Y0 := Lib.hid ((GBox.new w ⟨p, b, s, gc, kk, r, q⟩ 23).below (below_new _ (.cells #[.slice none 0 0, .int .i64 0, .int .i64 0, .int .i64 0, .int .i64 0, .int .i64 0] 31)))
  have B0 := Lib.hid (below_step (below_new w (.cells #[.int .i64 p, .int .i64 b, .int .i64 s, .int .i64 gc, .int .i64 kk, .int .i64 r, .int .i64 q] 23)) (below_new _ (.cells #[.slice none 0 0, .int .i64 0, .int .i64 0, .int .i64 0, .int .i64 0, .int .i64 0] 31)))
  have T0 : Hid (CRow ((w.alloc (.cells #[.int .i64 p, .int .i64 b, .int .i64 s, .int .i64 gc, .int .i64 kk, .int .i64 r, .int .i64 q] 23)).alloc (.cells #[.slice none 0 0, .int .i64 0, .int .i64 0, .int .i64 0, .int .i64 0, .int .i64 0] 31)) (w.heap.size + 1) 31 #[.slice none 0 0, .int .i64 0, .int .i64 0, .int .i64 0, .int .i64 0, .int .i64 0]) := Lib.hid (by simpa using CRow.new (w.alloc (.cells #[.int .i64 p, .int .i64 b, .int .i64 s, .int .i64 gc, .int .i64 kk, .int .i64 r, .int .i64 q] 23)) #[.slice none 0 0, .int .i64 0, .int .i64 0, .int .i64 0, .int .i64 0, .int .i64 0] 31)
  have I0 := Lib.hid (HI.out 0 _ _ h0 B0.out)
  have hs0 : w.heap.size + 2 ≤ ((w.alloc (.cells #[.int .i64 p, .int .i64 b, .int .i64 s, .int .i64 gc, .int .i64 kk, .int .i64 r, .int .i64 q] 23)).alloc (.cells #[.slice none 0 0, .int .i64 0, .int .i64 0, .int .i64 0, .int .i64 0, .int .i64 0] 31)).heap.size := by simp
  have HS0 := Lib.hid hs0
  clear h0 hs0
  go_enter Try.func21, Try.ntmps21
  go_wp2
  generalize ((w.alloc (.cells #[.int .i64 p, .int .i64 b, .int .i64 s, .int .i64 gc, .int .i64 kk, .int .i64 r, .int .i64 q] 23)).alloc (.cells #[.slice none 0 0, .int .i64 0, .int .i64 0, .int .i64 0, .int .i64 0, .int .i64 0] 31)) = w0 at *
  have S0 := Lib.hid (Save.of (Y := Y) B0.out)
  clear B0
  go_loopw [16] (fun i wr => ∃ k : Nat, k ≤ N ∧ i = .int .i64 (k : Int) ∧ Hid (V = ul (N - k) k) ∧ Hid (M = un (N - k) k) ∧ Hid (I k wr) ∧ Hid (w.heap.size + 2 ≤ wr.heap.size) ∧ Hid (GBox wr w.heap.size ⟨p, b, s, gc, kk, r, q⟩) ∧ Hid (CRow wr (w.heap.size + 1) 31 #[.slice none 0 0, .int .i64 0, .int .i64 0, .int .i64 0, .int .i64 0, .int .i64 0]) ∧ Hid (Save Y w wr)) (fun i _ => N - (intOf i).toNat)
  case atStart => exact ⟨0, Nat.zero_le _, rfl, HV, HM, I0, HS0, Y0, T0, S0⟩
  case round =>
    obtain ⟨k, hk, rfl, Hul, Hun, HIk, HSz, HY, HT, HS⟩ := hrel
    by_cases hlt : k < N
    · obtain ⟨⟨l, er⟩, Hrd⟩ : ∃ z, Hid (rd k = z) := ⟨_, rfl⟩
      have hcall := HRD.out k wr hlt HIk.out (by have := HSz.out; omega)
      rw [Hrd.out] at hcall
      simp only at hcall
      go_wp2_with fail
      refine hcall.mono ?_
      rintro _ w1 ⟨A, n, c, rfl, hl, hS, hI1⟩
      have S1 := Lib.hid (HS.out.trans hS)
      have Y1 := Lib.hid (HY.out.save hS hGneY)
      have T1 := Lib.hid (HT.out.save hS hRneY)
      have I1 := Lib.hid hI1
      have Z1 := Lib.hid (show w.heap.size + 2 ≤ w1.heap.size from Nat.le_trans HSz.out hS.size)
      clear hcall hS hI1
      by_cases her : er = 0
      · subst her
        obtain ⟨hln, hR, hnc⟩ := hl rfl
        have HLN := Lib.hid hln
        have R1 := Lib.hid hR
        clear hl hln hR
        obtain ⟨_, g0, g1, g2, g3, g4, g5, g6⟩ := Y1.out
        simp only at g0 g1 g2 g3 g4 g5 g6
        go_wp2_with fail
        by_cases hraw : (n : Int) = gr
        · refine (HRaw.out A n c true (decide_eq_true hraw) _).mono ?_
          rintro _ w2 ⟨rfl, h2⟩
          have S2 := Lib.hid (S1.out.step h2)
          have Y2 := Lib.hid (Y1.out.below h2)
          have T2 := Lib.hid (T1.out.below h2)
          have R2 := Lib.hid (R1.out.below h2)
          have I2 := Lib.hid (HI.out _ _ _ I1.out (h2.mono (by have := Z1.out; omega)))
          have Z2 := Lib.hid (Nat.le_trans Z1.out h2.size)
          clear h2 g0 g1 g2 g3 g4 g5 g6
          obtain ⟨_, g0, g1, g2, g3, g4, g5, g6⟩ := Y2.out
          simp only at g0 g1 g2 g3 g4 g5 g6
          go_wp2_with fail
          refine (HDec.out A n c hnc l _ R2.out).mono ?_
          intro _ w3 hM
          obtain ⟨⟨vd, ⟨tk, ts, tq, te⟩, vs, ve⟩, HD⟩ : ∃ z, Hid (dec l = z) := ⟨_, rfl⟩
          rw [HD.out] at hM
          simp only at hM
          obtain ⟨vn, HVN⟩ : ∃ vn, Hid (vd.length = vn) := ⟨_, rfl⟩
          obtain ⟨A3, c3, rfl, R3, h3⟩ := hM.tag vn HVN.out tk ts tq te rfl
          have S3 := Lib.hid (S2.out.step h3.out)
          have Y3 := Lib.hid (Y2.out.below h3.out)
          have T3 := Lib.hid (T2.out.below h3.out)
          have I3 := Lib.hid (HI.out _ _ _ I2.out (h3.out.mono (by have := Z2.out; omega)))
          have Z3 := Lib.hid (Nat.le_trans Z2.out h3.out.size)
          clear hM h3 g0 g1 g2 g3 g4 g5 g6
          -- the tag's own block
          have D4 := Lib.hid (below_new w3 (.cells #[.int .i64 0, .int .i64 0, .int .i64 0, .int .i64 0] 29))
          have U4 := Lib.hid (CRow.new w3 #[.int .i64 0, .int .i64 0, .int .i64 0, .int .i64 0] 29)
          have U5 := Lib.hid (U4.out.set #[.int .i64 tk, .int .i64 ts, .int .i64 tq, .int .i64 te])
          have D5 := Lib.hid (below_setRow D4.out (Nat.le_refl _) #[.int .i64 tk, .int .i64 ts, .int .i64 tq, .int .i64 te])
          have S5 := Lib.hid (S3.out.step D5.out)
          have Y5 := Lib.hid (Y3.out.below D5.out)
          have T5 := Lib.hid (T3.out.below D5.out)
          have R5 := Lib.hid (R3.out.below D5.out)
          have I5 := Lib.hid (HI.out _ _ _ I3.out (D5.out.mono (by have := Z3.out; omega)))
          have Z5 := Lib.hid (Nat.le_trans Z3.out D5.out.size)
          by_cases hve : ve = 0
          · subst hve
            have HE := Lib.hid (HUA.out k l hlt Hrd.out (by rw [HLN.out]; exact hraw) (by rw [(HNR.out l).1, HD.out]))
            have HVV := Lib.hid (show V = ((vd, ⟨tk, ts, tq, te⟩, vs), k, 0) by rw [Hul.out, HE.out.1, (HNR.out l).2, HD.out])
            have HMM := Lib.hid (show M = k + 1 by rw [Hun.out, HE.out.2])
            clear HE Hul Hun hraw
            have z0 := U5.out.cell_at 0 _ rfl
            have z1 := U5.out.cell_at 1 _ rfl
            have z2 := U5.out.cell_at 2 _ rfl
            have z3 := U5.out.cell_at 3 _ rfl
            go_wp2_with (first | (with_reducible refine (?_ : wpList _ _ _ ({ dst := _, op := Op.store 29 _ _, type := _, pos := _, after := _, guard := _ } :: _) _ _); refine wpList_store_at rfl 29 _ _ rfl 4 size_tag _ w3.heap.size ?hx rfl _ U4.out.row ?hn ?ho ?h1 ?_; (case hx => simp [Act.eval]); (case hn => simp); (case ho => simp); (case h1 => simp [Value.oneCell'])) | (with_reducible refine (?_ : wpList _ _ _ ({ dst := _, op := Op.store 31 _ _, type := _, pos := _, after := _, guard := _ } :: _) _ _); refine wpList_store_at rfl 31 _ _ rfl 6 size_page _ (w.heap.size + 1) ?hx rfl _ T5.out.row ?hn ?ho ?h1 ?_; (case hx => simp [Act.eval]); (case hn => simp); (case ho => simp); (case h1 => simp [Value.oneCell'])))
            clear z0 z1 z2 z3
            generalize (w3.alloc (.cells #[.int .i64 0, .int .i64 0, .int .i64 0, .int .i64 0] 29)).setRow w3.heap.size #[.int .i64 tk, .int .i64 ts, .int .i64 tq, .int .i64 te] = w5 at *
            have T9 := Lib.hid (T5.out.set #[.slice A3 vn c3, .int .i64 tk, .int .i64 ts, .int .i64 tq, .int .i64 te, .int .i64 (vs : Int)])
            have D9 := Lib.hid (below_setRow (Below.refl w.heap.size w5) (Nat.le_succ _) #[.slice A3 vn c3, .int .i64 tk, .int .i64 ts, .int .i64 tq, .int .i64 te, .int .i64 (vs : Int)])
            have S9 := Lib.hid (S5.out.setRow (Nat.le_succ _) #[.slice A3 vn c3, .int .i64 tk, .int .i64 ts, .int .i64 tq, .int .i64 te, .int .i64 (vs : Int)])
            have R9 := Lib.hid (R5.out.setRow T5.out (by simp) #[.slice A3 vn c3, .int .i64 tk, .int .i64 ts, .int .i64 tq, .int .i64 te, .int .i64 (vs : Int)])
            have I9 := Lib.hid (HI.out _ _ _ I5.out D9.out)
            go_wp2
            refine bodyPost_ret (results_ctt_row rfl _ _ (w.heap.size + 1) 31 _ (0, 0) _ rfl T9.out.row Try.underlying31 rfl size_page) rfl ?_
            rw [HVV.out, HMM.out]
            refine ⟨⟨A3, c3, ?_, ?_⟩, S9.out, I9.out⟩
            · rw [HVN.out]
              rfl
            · rw [HVN.out]
              exact R9.out
          · have hvb : (ve == 0) = false := beq_eq_false_iff_ne.2 hve
            have HE := Lib.hid (HUN.out k l hlt Hrd.out (by rw [HLN.out]; exact hraw) (by rw [(HNR.out l).1, HD.out]; exact hve))
            have Hul2 := Lib.hid (Hul.out.trans HE.out.1)
            have Hun2 := Lib.hid (Hun.out.trans HE.out.2)
            clear HE Hul Hun hraw
            go_wp2_with (with_reducible refine (?_ : wpList _ _ _ ({ dst := _, op := Op.store 29 _ _, type := _, pos := _, after := _, guard := _ } :: _) _ _); refine wpList_store_at rfl 29 _ _ rfl 4 size_tag _ w3.heap.size ?hx rfl _ U4.out.row ?hn ?ho ?h1 ?_; (case hx => simp [Act.eval]); (case hn => simp); (case ho => simp); (case h1 => simp [Value.oneCell']))
            go_roundw
            case rel => exact ⟨k + 1, by omega, by go_num, Hul2, Hun2, I5, Z5, Y5, T5, S5⟩
            case measure => simp [intOf]; omega
        · refine (HRaw.out A n c false (decide_eq_false hraw) _).mono ?_
          rintro _ w2 ⟨rfl, h2⟩
          have S2 := Lib.hid (S1.out.step h2)
          have T2 := Lib.hid (T1.out.below h2)
          have I2 := Lib.hid (HI.out _ _ _ I1.out (h2.mono (by have := Z1.out; omega)))
          have HE := Lib.hid (HUL.out k l hlt Hrd.out (by rw [HLN.out]; exact hraw))
          have HVV := Lib.hid (show V = noPage 2 by rw [Hul.out, HE.out.1])
          have HMM := Lib.hid (show M = k + 1 by rw [Hun.out, HE.out.2])
          clear HE Hul Hun hraw h2 g0 g1 g2 g3 g4 g5 g6
          go_wp2_with (with_reducible refine (?_ : wpList _ _ _ ({ dst := _, op := Op.store 31 _ _, type := _, pos := _, after := _, guard := _ } :: _) _ _); refine wpList_store_at rfl 31 _ _ rfl 6 size_page _ (w.heap.size + 1) ?hx rfl _ T2.out.row ?hn ?ho ?h1 ?_; (case hx => simp [Act.eval]); (case hn => simp); (case ho => simp); (case h1 => simp [Value.oneCell']))
          have T9 := Lib.hid (T2.out.set #[.slice none 0 0, .int .i64 0, .int .i64 0, .int .i64 0, .int .i64 0, .int .i64 0])
          have D9 := Lib.hid (below_setRow (Below.refl w.heap.size w2) (Nat.le_succ _) #[.slice none 0 0, .int .i64 0, .int .i64 0, .int .i64 0, .int .i64 0, .int .i64 0])
          have S9 := Lib.hid (S2.out.setRow (Nat.le_succ _) #[.slice none 0 0, .int .i64 0, .int .i64 0, .int .i64 0, .int .i64 0, .int .i64 0])
          have I9 := Lib.hid (HI.out _ _ _ I2.out D9.out)
          go_wp2
          refine bodyPost_ret (results_ctt_row rfl _ _ (w.heap.size + 1) 31 _ (0, 0) _ rfl T9.out.row Try.underlying31 rfl size_page) rfl ?_
          rw [HVV.out, HMM.out]
          exact ⟨UpRet.no 2 _, S9.out, I9.out⟩
      · have heb : (er != 0) = true := by simpa using her
        have HE := Lib.hid (HU.out k l er hlt Hrd.out her)
        have HVV := Lib.hid (show V = noPage er by rw [Hul.out, HE.out.1])
        have HMM := Lib.hid (show M = k + 1 by rw [Hun.out, HE.out.2])
        clear HE Hul Hun hl
        go_wp2_with (with_reducible refine (?_ : wpList _ _ _ ({ dst := _, op := Op.store 31 _ _, type := _, pos := _, after := _, guard := _ } :: _) _ _); refine wpList_store_at rfl 31 _ _ rfl 6 size_page _ (w.heap.size + 1) ?hx rfl _ T1.out.row ?hn ?ho ?h1 ?_; (case hx => simp [Act.eval]); (case hn => simp); (case ho => simp); (case h1 => simp [Value.oneCell']))
        have T9 := Lib.hid (T1.out.set #[.slice none 0 0, .int .i64 0, .int .i64 0, .int .i64 0, .int .i64 0, .int .i64 0])
        have D9 := Lib.hid (below_setRow (Below.refl w.heap.size w1) (Nat.le_succ _) #[.slice none 0 0, .int .i64 0, .int .i64 0, .int .i64 0, .int .i64 0, .int .i64 0])
        have S9 := Lib.hid (S1.out.setRow (Nat.le_succ _) #[.slice none 0 0, .int .i64 0, .int .i64 0, .int .i64 0, .int .i64 0, .int .i64 0])
        have I9 := Lib.hid (HI.out _ _ _ I1.out D9.out)
        go_wp2
        refine bodyPost_ret (results_ctt_row rfl _ _ (w.heap.size + 1) 31 _ (0, 0) _ rfl T9.out.row Try.underlying31 rfl size_page) rfl ?_
        rw [HVV.out, HMM.out]
        exact ⟨UpRet.no er _, S9.out, I9.out⟩
    · obtain rfl : k = N := by omega
      have HVV := Lib.hid (show V = noPage 30 by rw [Hul.out, Nat.sub_self, (HU0.out k).1])
      have HMM := Lib.hid (show M = k by rw [Hun.out, Nat.sub_self, (HU0.out k).2])
      clear Hul Hun
      go_wp2_with (with_reducible refine (?_ : wpList _ _ _ ({ dst := _, op := Op.store 31 _ _, type := _, pos := _, after := _, guard := _ } :: _) _ _); refine wpList_store_at rfl 31 _ _ rfl 6 size_page _ (w.heap.size + 1) ?hx rfl _ HT.out.row ?hn ?ho ?h1 ?_; (case hx => simp [Act.eval]); (case hn => simp); (case ho => simp); (case h1 => simp [Value.oneCell']))
      have T9 := Lib.hid (HT.out.set #[.slice none 0 0, .int .i64 0, .int .i64 0, .int .i64 0, .int .i64 0, .int .i64 0])
      have D9 := Lib.hid (below_setRow (Below.refl w.heap.size wr) (Nat.le_succ _) #[.slice none 0 0, .int .i64 0, .int .i64 0, .int .i64 0, .int .i64 0, .int .i64 0])
      have S9 := Lib.hid (HS.out.setRow (Nat.le_succ _) #[.slice none 0 0, .int .i64 0, .int .i64 0, .int .i64 0, .int .i64 0, .int .i64 0])
      have I9 := Lib.hid (HI.out _ _ _ HIk.out D9.out)
      go_wp2
      refine bodyPost_ret (results_ctt_row rfl _ _ (w.heap.size + 1) 31 _ (0, 0) _ rfl T9.out.row Try.underlying31 rfl size_page) rfl ?_
      rw [HVV.out, HMM.out]
      exact ⟨UpRet.no 30 _, S9.out, I9.out⟩
end Go.Proofs.Ytgiihdeilkiphaa

/-
  Contract of ladder.Climb over the landed code.
-/
namespace Go.Proofs.Ytgiihdeilkiphaa
open Go.RowKit
set_option maxRecDepth 100000

theorem RR.getD {w : World} {A : Option Addr} {n : Nat} {PA : Nat → Option Addr} {PC : Nat → Nat} {ls : List (List Nat)} (_h : RR w A n PA PC ls) {k : Nat} {l : List Nat} (hl : ls[k]? = some l) : ls.getD k [] = l := by
  simp [List.getD, hl]

set_option maxHeartbeats 400000 in
theorem climb1_any (A : Option Addr) (n c : Nat) (PA : Nat → Option Addr) (PC : Nat → Nat) (ls : List (List Nat)) (k q : Nat) (Y : Nat → Prop) (I : Nat → World → Prop) (w : World) (hk : k < n) (hr : RR w A n PA PC ls) (hb : CRow w q 24 #[.slice A n c]) (hI : I (k + 1) w) :
    Calls Try.prog 22 #[.int .i64 (k : Int), .pointer (some ⟨q, 0, none⟩)] w (RdE (ls.getD k []) 0 k Y I w) := by
  obtain ⟨b1, o1, l, m1, rfl, hb1, HLk, HLm, hcl, HRk, hmc, _⟩ := hr.at_ hk
  have e := hr.getD HLk.out
  rw [e]
  generalize PA k = A1 at *
  generalize PC k = C1 at *
  have c0 := hb.cell_at 0 _ rfl
  have HI := Lib.hid hI
  clear hI hr hb e
  go_enter Try.func22, Try.ntmps22
  go_wp2
  go_ret2
  exact ⟨A1, m1, C1, rfl, fun _ => ⟨HLm.out, HRk.out, hmc⟩, Save.refl _ _, HI.out⟩

/-- It returns a page, a rung and an error, and nothing that was there has turned. -/
def Climbs (V : (List Nat × Tg × Nat) × Nat × Int) (w : World) (e : Ending) (w' : World) : Prop := UpRet V e w' ∧ Below w.heap.size w w'

set_option maxHeartbeats 2000000 in
theorem Climb_any (g : Gm) (A : Option Addr) (n c : Nat) (PA : Nat → Option Addr) (PC : Nat → Nat) (ls : List (List Nat)) (w : World) (hr : RR w A n PA PC ls) (hn : n ≤ 1099511627776) :
    Calls Try.prog 9 #[g.val, .slice A n c] w (Climbs (climbL g ls) w) := by
  have HL := Lib.hid hr.len
  have HR := Lib.hid hr
  have HIL := Lib.hid (fun w' h => isLadder_any g A n c PA PC ls w' h hn)
  have HUP := Lib.hid (fun p0 rd I w' => readUp_C g n hn p0 (fun _ => False) rd I w')
  have HVN := Lib.hid (show climbOk g ls = false → climbL g ls = noPage 2 from climbL_no)
  have HVY := Lib.hid (show climbOk g ls = true → climbL g ls = upL g (fun j => (ls.getD j [], 0)) n 0 from fun h => by
    rw [up_climb g ls (climbOk_iff.1 h).2.2.2 n 0 (by rw [hr.len]; rfl), List.drop_zero]
    unfold climbL
    rw [if_pos h])
  obtain ⟨v, HV⟩ : ∃ v, Hid (climbOk g ls = v) := ⟨_, rfl⟩
  rw [HV.out] at HIL HVN HVY
  generalize climbL g ls = X at *
  clear hr HV
  obtain ⟨p, b, s, gc, k, r, q⟩ := g
  simp only [Gm.val] at HIL HUP ⊢
  have W0 : ∃ w0, Hid (w0 = ((w.alloc (.cells #[.int .i64 p, .int .i64 b, .int .i64 s, .int .i64 gc, .int .i64 k, .int .i64 r, .int .i64 q] 23)).alloc (.cells #[.slice A n c] 24)).alloc (.cells #[.slice none 0 0, .int .i64 0, .int .i64 0, .int .i64 0, .int .i64 0, .int .i64 0] 31)) := ⟨_, rfl⟩
  obtain ⟨w0, HW0⟩ := W0
  have Y0 : Hid (GBox w0 w.heap.size ⟨p, b, s, gc, k, r, q⟩) := Lib.hid (by rw [HW0.out]; exact ((GBox.new w ⟨p, b, s, gc, k, r, q⟩ 23).below (below_new _ _)).below (below_new _ _))
  have X0 : Hid (CRow w0 (w.heap.size + 1) 24 #[.slice A n c]) := Lib.hid (by rw [HW0.out]; exact (show CRow ((w.alloc (.cells #[.int .i64 p, .int .i64 b, .int .i64 s, .int .i64 gc, .int .i64 k, .int .i64 r, .int .i64 q] 23)).alloc (.cells #[.slice A n c] 24)) (w.heap.size + 1) 24 #[.slice A n c] by simpa using CRow.new (w.alloc (.cells #[.int .i64 p, .int .i64 b, .int .i64 s, .int .i64 gc, .int .i64 k, .int .i64 r, .int .i64 q] 23)) #[.slice A n c] 24).alloc _)
  have T0 : Hid (CRow w0 (w.heap.size + 2) 31 #[.slice none 0 0, .int .i64 0, .int .i64 0, .int .i64 0, .int .i64 0, .int .i64 0]) := Lib.hid (by rw [HW0.out]; simpa using CRow.new ((w.alloc (.cells #[.int .i64 p, .int .i64 b, .int .i64 s, .int .i64 gc, .int .i64 k, .int .i64 r, .int .i64 q] 23)).alloc (.cells #[.slice A n c] 24)) #[.slice none 0 0, .int .i64 0, .int .i64 0, .int .i64 0, .int .i64 0, .int .i64 0] 31)
  have B0 : Hid (Below w.heap.size w w0) := Lib.hid (by rw [HW0.out]; exact below_step (below_step (below_new w _) (below_new _ _)) (below_new _ _))
  have R0 := Lib.hid (HR.out.below B0.out)
  obtain ⟨_, g0, g1, g2, g3, g4, g5, g6⟩ := Y0.out
  simp only at g0 g1 g2 g3 g4 g5 g6
  have c0 := X0.out.cell_at 0 _ rfl
  go_enter Try.func9, Try.ntmps9
  go_wp2_with fail
  rw [← HW0.out]
  refine (HIL.out _ R0.out).mono ?_
  rintro _ w1 ⟨rfl, h1⟩
  have B1 := Lib.hid (below_step B0.out h1)
  have Y1 := Lib.hid (Y0.out.below h1)
  have X1 := Lib.hid (X0.out.below h1)
  have T1 := Lib.hid (T0.out.below h1)
  have R1 := Lib.hid (R0.out.below h1)
  clear h1 g0 g1 g2 g3 g4 g5 g6 c0 HW0 HIL
  cases v
  · have HX := Lib.hid (HVN.out rfl)
    go_wp2_with (with_reducible refine (?_ : wpList _ _ _ ({ dst := _, op := Op.store 31 _ _, type := _, pos := _, after := _, guard := _ } :: _) _ _); refine wpList_store_at rfl 31 _ _ rfl 6 size_page _ (w.heap.size + 2) ?hx rfl _ T1.out.row ?hn ?ho ?h1 ?_; (case hx => simp [Act.eval]); (case hn => simp); (case ho => simp); (case h1 => simp [Value.oneCell']))
    have T9 := Lib.hid (T1.out.set #[.slice none 0 0, .int .i64 0, .int .i64 0, .int .i64 0, .int .i64 0, .int .i64 0])
    have B9 := Lib.hid (below_setRow B1.out (Nat.le_add_right _ 2) #[.slice none 0 0, .int .i64 0, .int .i64 0, .int .i64 0, .int .i64 0, .int .i64 0])
    go_wp2
    refine bodyPost_ret (results_ctt_row rfl _ _ (w.heap.size + 2) 31 _ (0, 0) _ rfl T9.out.row Try.underlying31 rfl size_page) rfl ?_
    rw [HX.out]
    exact ⟨UpRet.no 2 _, B9.out⟩
  · have HX := Lib.hid (HVY.out rfl)
    obtain ⟨_, g0, g1, g2, g3, g4, g5, g6⟩ := Y1.out
    simp only at g0 g1 g2 g3 g4 g5 g6
    have c0 := X1.out.cell_at 0 _ rfl
    go_wp2_with fail
    refine (HUP.out (some ⟨w.heap.size + 1, 0, none⟩) (fun j => (ls.getD j [], 0)) (fun _ W => Below w1.heap.size w1 W) w1 (fun _ W W' h h2 => h.trans h2) (fun _ h => h.elim) (fun j W hj hI hs => climb1_any A n c PA PC ls j _ _ _ W hj (R1.out.below hI) (X1.out.below hI) hI) (Below.refl _ _)).mono ?_
    rintro e w2 ⟨hU, hS, hI⟩
    rw [← HX.out] at hU
    obtain ⟨⟨⟨vd, ⟨tk, ts, tq, te⟩, vs⟩, rung, er⟩, HXX⟩ : ∃ z, Hid (X = z) := ⟨_, rfl⟩
    rw [HXX.out] at hU
    obtain ⟨vn, HVN2⟩ : ∃ vn, Hid (vd.length = vn) := ⟨_, rfl⟩
    obtain ⟨A3, c3, rfl, R3⟩ := hU.at_ HVN2.out
    have B2 := Lib.hid (below_step B1.out hI)
    have T2 := Lib.hid (T1.out.below hI)
    clear hU hS hI g0 g1 g2 g3 g4 g5 g6 c0 HX HUP
    go_wp2_with (with_reducible refine (?_ : wpList _ _ _ ({ dst := _, op := Op.store 31 _ _, type := _, pos := _, after := _, guard := _ } :: _) _ _); refine wpList_store_at rfl 31 _ _ rfl 6 size_page _ (w.heap.size + 2) ?hx rfl _ T2.out.row ?hn ?ho ?h1 ?_; (case hx => simp [Act.eval]); (case hn => simp); (case ho => simp); (case h1 => simp [Value.oneCell']))
    have T9 := Lib.hid (T2.out.set #[.slice A3 vn c3, .int .i64 tk, .int .i64 ts, .int .i64 tq, .int .i64 te, .int .i64 (vs : Int)])
    have B9 := Lib.hid (below_setRow B2.out (Nat.le_add_right _ 2) #[.slice A3 vn c3, .int .i64 tk, .int .i64 ts, .int .i64 tq, .int .i64 te, .int .i64 (vs : Int)])
    have R9 := Lib.hid (R3.out.setRow T2.out (by simp) #[.slice A3 vn c3, .int .i64 tk, .int .i64 ts, .int .i64 tq, .int .i64 te, .int .i64 (vs : Int)])
    go_wp2
    refine bodyPost_ret (results_ctt_row rfl _ _ (w.heap.size + 2) 31 _ (0, 0) _ rfl T9.out.row Try.underlying31 rfl size_page) rfl ?_
    rw [HXX.out]
    refine ⟨⟨A3, c3, ?_, ?_⟩, B9.out⟩
    · rw [HVN2.out]
      rfl
    · rw [HVN2.out]
      exact R9.out
end Go.Proofs.Ytgiihdeilkiphaa
