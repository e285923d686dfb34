/-
  Contracts of chunk.pieces and of the function that it hands back, over the landed code: it yields the pieces, one after the other.
-/
import Derived.RangeFuncNested
import Derived.RangeFuncBound
import Derived.RangeFuncCalls
import Derived.RangeFuncLeaves
import Derived.RangeFuncBox
import Derived.Shelf.Abstract
import Derived.Shelf.RegionOpen
import Derived.WalkKit
import Derived.OwnWalkIn
import Derived.TacticsInMore
import Derived.LoopNIn
import Derived.LoopIn
import Derived.Test.YtgiihdeilkiphaaLadderFitsJ3
import Derived.Test.YtgiihdeilkiphaaLadderFitsJ4
namespace Go.Proofs.Ytgiihdeilkiphaa
open Go.RowKit Go.Shelf

attribute [local go_sem] Oper.semAt_some

def slLen : Value → Nat
  | .slice _ n _ => n
  | _ => 0
theorem fin_take (N k : Nat) (hk : k < N) : (List.finRange N).take (k + 1) = (List.finRange N).take k ++ [⟨k, hk⟩] := by
  apply take_snoc
  simp [hk]

set_option maxRecDepth 100000 in
set_option maxHeartbeats 2000000 in
theorem pieces1_stops (nn N len n c Br Bl : Nat) (A : Option Addr) (PA : Nat → Option Addr) (PC : Nat → Nat) (w : World)
    (hnn : 1 ≤ nn) (hn : n = N * len) (hlen : 1 ≤ len) (hl2 : len ≤ 1099511627776)
    (h00 : 0 < N → PA 0 = A ∧ PC 0 = c) (hst : ∀ k, k + 1 < N → cutA (PA k) (PC k) len = PA (k + 1) ∧ PC k - len = PC (k + 1)) (hcap : ∀ k, k < N → len ≤ PC k)
    (hbr : Br < w.heap.size) (hbl : Bl < w.heap.size) (hcr : w.cell? ⟨Br, 0, none⟩ = some (.slice A n c)) (hcl : w.cell? ⟨Bl, 0, none⟩ = some (.int .i64 (len : Int))) :
    SeqStopsK Fence.wide nn Try.prog 83 #[.pointer (some ⟨Br, 0, none⟩), .pointer (some ⟨Bl, 0, none⟩)] (fun x : Fin N => #[Value.slice (PA x.1) len (PC x.1)])
      (fun W W' => W'.cell? ⟨Bl, 0, none⟩ = W.cell? ⟨Bl, 0, none⟩) (fun ys => ys = List.finRange N) (fun pre => pre <+: List.finRange N) N w := fun l J Jx W hW _ _ hY h0 => by
  obtain ⟨i0, ti, tz0, tz1, tz2⟩ := info_parts info_u8
  have hcr' := (hW.cell (p := ⟨Br, 0, none⟩) hbr).trans hcr
  have hcl' := (hW.cell (p := ⟨Bl, 0, none⟩) hbl).trans hcl
  have HN := Lib.hid hn
  have HST := Lib.hid hst
  have H00 := Lib.hid h00
  have HCAP := Lib.hid hcap
  clear hcr hcl hW hn hst h00 hcap
  refine callsIn_of_wp Try.func83 rfl trivial ?_ rfl
  simp only [Try.ntmps83, List.size_toArray, List.length_cons, List.length_nil, Nat.reduceAdd, Nat.reduceSub, Array.replicate_succ, Array.replicate_zero, List.push_toArray, List.append_toArray, List.nil_append, List.cons_append]
  gi_wp2
  gi_loopw [4] (fun v wr => ∃ (k n' c' : Nat) (A' : Option Addr), k ≤ N ∧ v = .slice A' n' c' ∧ Hid (n' = (N - k) * len) ∧ Hid (k < N → A' = PA k ∧ c' = PC k) ∧ Hid (J ((List.finRange N).take k) wr) ∧ wr.cell? ⟨Bl, 0, none⟩ = some (.int .i64 (len : Int)))
    (fun v _ => slLen v)
  case atStart =>
    exact ⟨0, n, c, A, Nat.zero_le _, rfl, by rw [HN.out]; rfl, fun h => ⟨(H00.out h).1.symm, (H00.out h).2.symm⟩, h0, hcl'⟩
  case round =>
    obtain ⟨k, n', c', A', hk, rfl, HN', HP, HJ, hcw⟩ := hrel
    clear hcr' hcl' h0
    by_cases hlt : k < N
    · obtain ⟨rfl, rfl⟩ := HP.out hlt
      have hle : len ≤ n' := by
        rw [HN'.out]
        exact Nat.le_mul_of_pos_left _ (by omega)
      have hc' := HCAP.out k hlt
      have hg : decide (0 < (n' : Int)) = true := decide_eq_true (by omega)
      have hs1 := run_slice_to (P := Try.prog) Try.underlying27 ti (by kernel_rfl) (PA k) n' (PC k) len hc'
      have hs2 := run_slice_from (P := Try.prog) Try.underlying27 ti (by kernel_rfl) (PA k) n' (PC k) len hle
      have hs3 := run_sliceAt_to (P := Try.prog) Try.underlying27 ti (by kernel_rfl) (PA k) n' (PC k) len hc'
      have hs4 := run_sliceAt_from (P := Try.prog) Try.underlying27 ti (by kernel_rfl) (PA k) n' (PC k) len hle
      obtain ⟨fn, tmps, assign, body, hy, hR⟩ := hY _ ⟨k, hlt⟩ wr HJ.out (by rw [List.length_take, List.length_finRange]; omega)
      dsimp only at hy
      have HX := Lib.hid (fin_take N k hlt)
      have HNX : Hid (k + 1 < N → cutA (PA k) (PC k) len = PA (k + 1) ∧ PC k - len = PC (k + 1)) := HST.out k
      have HLX := Lib.hid (show n' - len = (N - (k + 1)) * len by
        rw [HN'.out, show N - k = N - (k + 1) + 1 by omega, Nat.add_mul, Nat.one_mul]
        omega)
      generalize cutA (PA k) (PC k) len = A2 at *
      gi_wp2
      refine hR.mono ?_
      rintro e W3 (⟨rfl, hJ3, hk3⟩ | ⟨rfl, hJx3⟩)
      · have hcl3 := hk3.trans hcw
        have HJ3 := Lib.hid hJ3
        clear hk3 hJ3 hy hR
        gi_wp2
        go_roundw
        case rel => exact ⟨k + 1, _, _, A2, by omega, rfl, HLX, HNX, by rw [HX.out]; exact HJ3, hcl3⟩
        case measure => simp [slLen]; omega
      · gi_wp2
        refine bodyPost_ret (results_none rfl _ _ _) rfl ?_
        exact ⟨⟨_, rfl⟩, .inr ⟨_, by rw [← HX.out]; exact List.take_prefix _ _, hJx3⟩⟩
    · obtain rfl : k = N := by omega
      have hz : n' = 0 := by rw [HN'.out]; simp
      subst hz
      gi_wp2
      go_end0
      refine ⟨⟨_, rfl⟩, .inl ⟨_, rfl, ?_⟩⟩
      have := HJ.out
      rwa [List.take_of_length_le (by simp)] at this

theorem pieces_any (A : Option Addr) (n c s : Nat) (w : World) (hs : s ≤ 512) :
    Calls Try.prog 70 #[.slice A n c, .int .i64 (s : Int)] w fun e w' => e = .returned (.func (.func 83) #[] #[.pointer (some ⟨w.heap.size, 0, none⟩), .pointer (some ⟨w.heap.size + 1, 0, none⟩)]) ∧
      Boxed w' w.heap.size 27 (.slice A n c) ∧ Boxed w' (w.heap.size + 1) 3 (.int .i64 ((s + 2 : Nat) : Int)) ∧ w'.heap.size = w.heap.size + 2 ∧ Below w.heap.size w w' := by
  go_enter Try.func70, Try.ntmps70
  go_wp2
  go_ret
  refine ⟨rfl, (Boxed.new w _ _).alloc _, ?_, by simp, ((Below.refl _ _).alloc (Nat.le_refl _) _).alloc (by simp) _⟩
  have h := Boxed.new (w.alloc (.cells #[.slice A n c] 27)) 3 (.int .i64 ((s : Int) + 2))
  rw [World.size_alloc] at h
  exact h
end Go.Proofs.Ytgiihdeilkiphaa
