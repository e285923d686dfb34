/-
  Contract of bytes.Repeat of one byte, over the landed code's translation.
-/
import Derived.Test.YtmbgoopkpfhamaaGreatTk
import Derived.Test.YtmbgoopkpfhamaaGreatTkB
import Derived.Lib.MakeNoZero
import Derived.Laws.Externs
import Derived.Laws.CopyOwn
import Derived.Deep.RegionHeld3
import Derived.Test.YtmbgoopkpfhamaaGreatIdentChecksJ4
import Derived.Test.YtmbgoopkpfhamaaGreatIdentChecksJ3
namespace Go.Proofs.YtmbgoopkpfhamaaGreat
open Go.RowKit
set_option maxRecDepth 100000
def rep8 (n v : Nat) : List Value := List.replicate n (Value.int .u8 (v : Int))
theorem rep8_one (n v : Nat) : ∀ u ∈ rep8 n v, u.oneCell' = true := by
 intro u hu
 rw [rep8, List.mem_replicate] at hu
 rw [hu.2]
 rfl
theorem rep8_get (n v j : Nat) (u : Value) (h : (rep8 n v)[j]? = some u) : j < n ∧ u = .int .u8 (v : Int) := by
 unfold rep8 at h
 rw [List.getElem?_replicate] at h
 split at h
 ·
  exact ⟨by assumption, by simpa using h.symm⟩
 ·
  simp at h
theorem rep8_splice (L : List Value) (k m v : Nat) (h : L.take k = rep8 k v) (_ : k + m ≤ L.length) : (splice L k (rep8 m v)).take (k + m) = rep8 (k + m) v := by
 unfold splice
 rw [h, ← List.append_assoc, List.take_append_of_le_length (by simp [rep8])]
 rw [List.take_of_length_le (by simp [rep8])]
 simp [rep8, List.replicate_append_replicate]
theorem rep8_cell {L : List Value} {k v : Nat} (h : L.take k = rep8 k v) (j : Nat) (hj : j < k) : L[j]? = some (.int .u8 (v : Int)) := by
 have : (L.take k)[j]? = L[j]? := by rw [List.getElem?_take, if_pos hj]
 rw [← this, h, rep8, List.getElem?_replicate, if_pos hj]
theorem row_cell {w : World} {g : Nat} {u : TypeId} {L : List Value} (h : w.heap[g]? = some (.cells L.toArray u (0, 0))) (j : Nat) : w.cell? ⟨g, j, none⟩ = L[j]? := by
 rw [World.cell?, h]
 simp
theorem rep8_R8 {w : World} {g n v : Nat} {u : TypeId} {L : List Value} (h : w.heap[g]? = some (.cells L.toArray u (0, 0))) (ht : L.take n = rep8 n v) (hv : v < 256) : R8 w (some ⟨g, 0, none⟩) n (List.replicate n v) := by
 have hg : g < w.heap.size := (Array.getElem?_eq_some_iff.1 h).1
 refine ⟨⟨by simp [U8], fun _ => ⟨g, 0, rfl, hg, fun j hj => ?_⟩⟩, fun x hx => by rw [(List.mem_replicate.1 hx).2]; exact hv⟩
 rw [Nat.zero_add, row_cell h, rep8_cell ht j hj, U8, List.getElem?_map, List.getElem?_replicate, if_pos hj]
 rfl
theorem addr0_add (g j : Nat) : (⟨g, 0, none⟩ : Addr).add j = ⟨g, j, none⟩ := by
 unfold Addr.add
 split <;> simp_all
set_option maxHeartbeats 1000000 in
theorem Repeat_fresh (A : Option Addr) (c v n : Nat) (w : World) (hr : R8 w A 1 [v]) (hn : n ≤ 8192) :
  Calls Tryz.prog 67 #[.slice A 1 c, .int .i64 (n : Int)] w (MakesF (List.replicate n v) w) := by
 obtain ⟨i0, ti, tz0, tz1, tz2⟩ := info_parts info_u8
 have hv : v < 256 := hr.2 v (by simp)
 by_cases h0 : n = 0
 ·
  subst h0
  go_enter Tryz.func67, Tryz.ntmps67
  go_wp2
  go_ret
  exact ⟨w.heap.size, 0, _, _, rfl, Nat.le_refl _, heap_alloc_new w _, ⟨Rd.nil_, by simp⟩, Nat.le_refl _, (Below.refl _ _).alloc (Nat.le_refl _) _⟩
 ·
  obtain ⟨b, off, x, rfl, hb, HX, _, hcx⟩ := hr.at_ (k := 0) (by omega)
  obtain rfl : v = x := by have := HX.out; simpa using this
  rw [Nat.add_zero] at hcx
  clear HX hr
  have hMul := Mul_one n w (by omega)
  obtain ⟨cs, hrunM, hle, _⟩ := Lib.run_makeNoZero (P := Tryz.prog) w #[3] 26 5 Tryz.underlying26 n (by omega)
  have hcall : (callFunc 81 #[.int .i64 (n : Int)]).run Tryz.prog w = .ok (.value (.slice (some ⟨w.heap.size, 0, none⟩) n cs.size)) ((w.alloc (.cells cs 5)).drewN 2) := by
   rw [run_callFunc_extern Tryz.func81 (by kernel_rfl) (by kernel_rfl) (by kernel_rfl) (e := Extern.BytealgMakeNoZero.makeNoZero #[3] #[26]) (by kernel_rfl), hrunM]
   rfl
  clear hrunM
  have e0 : ((n : Int) == 0) = false := by simp; omega
  have e1 : decide ((8192 : Int) < (n : Int)) = false := decide_eq_false (by omega)
  have i0' : (0 : Int) ≤ (n : Int) := by omega
  have i1 : (n : Int) ≤ (cs.size : Int) := by omega
  have hcb : ((w.alloc (.cells cs 5)).drewN 2).cell? ⟨b, off, none⟩ = some (.int .u8 (v : Int)) := ((below_drewN ((Below.refl w.heap.size w).alloc (Nat.le_refl _) (.cells cs 5)) 2).cell (p := ⟨b, off, none⟩) hb).trans hcx
  have HB0 := Lib.hid (below_drewN ((Below.refl w.heap.size w).alloc (Nat.le_refl _) (.cells cs 5)) 2)
  have HG0 : Hid (((w.alloc (.cells cs 5)).drewN 2).heap[w.heap.size]? = some (.cells cs.toList.toArray 5 (0, 0))) := Lib.hid (by simpa using heap_alloc_new w (.cells cs 5))
  have hlen : cs.toList.length = cs.size := by simp
  clear hcx
  go_enter Tryz.func67, Tryz.ntmps67
  go_wp2_with fail
  refine hMul.mono ?_
  rintro _ w1 ⟨rfl, rfl⟩
  have hsz : (Tryz.prog.info? 5).map (·.size) = some 1 := by kernel_rfl
  have hc1 : (rep8 1 v).length = Nat.min 1 n := by simp only [rep8, List.length_replicate]; exact (Nat.min_eq_left (by omega)).symm
  have hc2 : ∀ j u, (rep8 1 v)[j]? = some u → ((w.alloc (.cells cs 5)).drewN 2).cell? ((⟨b, off, none⟩ : Addr).add j) = some u := by
   intro j u hu
   obtain ⟨hj, rfl⟩ := rep8_get 1 v j u hu
   obtain rfl : j = 0 := by omega
   simpa [Addr.add] using hcb
  have hc3 : 0 + (rep8 1 v).length ≤ cs.toList.length := by rw [hlen]; simp only [rep8, List.length_replicate]; omega
  have HC1 := Lib.hid hc1
  have HC2 := Lib.hid hc2
  have HC3 := Lib.hid hc3
  clear hc1 hc2 hc3 hcb
  go_wp2_with (with_reducible refine wpList_copy_splice rfl (.tmp 58) (.tmp 59) 26 26 rfl 5 Tryz.underlying26 hsz _ _ _ _ _ _ rfl rfl w.heap.size 0 cs.toList 5 HG0.out (rep8 1 v) HC1.out (fun _ => ⟨rfl, _, rfl, HC2.out⟩) HC3.out (rep8_one 1 v) w.heap.size w HB0.out (Nat.le_refl _) ?_)
  intro w2 HG2 hB2
  have HB2 := Lib.hid hB2
  have HL2 := Lib.hid (show (splice cs.toList 0 (rep8 1 v)).length = cs.size by rw [length_splice _ _ _ (by simp [rep8]; omega), hlen])
  have HT2 := Lib.hid (show (splice cs.toList 0 (rep8 1 v)).take 1 = rep8 1 v by have := rep8_splice cs.toList 0 1 v (by simp [rep8]) (by omega); simpa using this)
  generalize splice cs.toList 0 (rep8 1 v) = L2 at *
  clear hB2 HB0 HG0 hcall hMul HC1 HC2 HC3
  go_wp2
  go_loopw [10] (fun bp wr => ∃ (k : Nat) (L : List Value), 1 ≤ k ∧ k ≤ n ∧ bp = .int .i64 (k : Int) ∧ Hid (wr.heap[w.heap.size]? = some (.cells L.toArray 5 (0, 0))) ∧ Hid (L.length = cs.size) ∧ Hid (L.take k = rep8 k v) ∧ Hid (Below w.heap.size w wr))
   (fun bp _ => n - (intOf bp).toNat)
  case atStart => exact ⟨1, L2, Nat.le_refl _, by omega, rfl, HG2, HL2, HT2, HB2⟩
  case round =>
   obtain ⟨k, L, hk1, hkn, rfl, HG, HL, HT, HB⟩ := hrel
   by_cases hlt : k < n
   ·
    have hsl1 := run_slice_to (P := Tryz.prog) Tryz.underlying26 ti (by kernel_rfl) (some ⟨w.heap.size, 0, none⟩) n n k (by omega)
    have hsl2 := run_sliceAt_to (P := Tryz.prog) Tryz.underlying26 ti (by kernel_rfl) (some ⟨w.heap.size, 0, none⟩) n n k (by omega)
    have hsf1 := run_slice_from (P := Tryz.prog) Tryz.underlying26 ti (by kernel_rfl) (some ⟨w.heap.size, 0, none⟩) n n k (by omega)
    have hsf2 := run_sliceAt_from (P := Tryz.prog) Tryz.underlying26 ti (by kernel_rfl) (some ⟨w.heap.size, 0, none⟩) n n k (by omega)
    have hcut : cutA (some ⟨w.heap.size, 0, none⟩) n k = some ⟨w.heap.size, k, none⟩ := by
     rw [cutA_some, if_neg (by omega)]
     simp [Addr.add]
     omega
    rw [hcut] at hsf1 hsf2
    obtain ⟨m, hm⟩ : ∃ m, Nat.min k (n - k) = m := ⟨_, rfl⟩
    have hm1 : 1 ≤ m := by rw [← hm]; exact Nat.le_min.2 ⟨hk1, by omega⟩
    have hm2 : m ≤ n - k := by rw [← hm]; exact Nat.min_le_right _ _
    have hm3 : m ≤ k := by rw [← hm]; exact Nat.min_le_left _ _
    have HS := Lib.hid (rep8_splice L k m v HT.out (by rw [HL.out]; omega))
    have HSl := Lib.hid (show (splice L k (rep8 m v)).length = cs.size by rw [length_splice _ _ _ (by simp [rep8]; rw [HL.out]; omega), HL.out])
    have HM := Lib.hid hm
    clear hm hcut
    have hkm : IntKind.i64.wrap ((k : Int) + (m : Int)) = ((k + m : Nat) : Int) := IntWalk.i64_in _ (by omega)
    have hdec : decide ((k : Int) < (n : Int)) = true := decide_eq_true (by omega)
    have hmin : ¬ ((n : Int) < (k : Int)) := by omega
    go_wp2
    refine wp_region_noPanic ?_
    refine wp_region_held_drew (S := fun w' => Below w.heap.size w w') (by kernel_rfl) HB.out.drew (fun C0 => ?_)
    refine tkH4 0 C0 ?_
    refine tkH4 1 C0 ?_
    refine tkH4 2 C0 ?_
    refine tkH4 3 C0 ?_
    refine tkH4 4 C0 ?_
    refine tkH4 5 C0 ?_
    refine tkH4 6 C0 ?_
    refine wpAnyH_ready (rs := [7]) (by kernel_rfl) (by simp) ?_
    refine AllReadyH.cons (o := { dst := some 74, op := Op.call { callee := Callee.builtin Builtin.copy, args := #[Operand.tmp 70, Operand.tmp 73], argTypes := #[26, 26] }, type := 3, pos := "bytes.go:672", after := #[{ on := 3, ground := Ground.data }, { on := 6, ground := Ground.data }], guard := none }) rfl (fun K hK => ?_) AllReadyH.nil
    refine step_copy_splice rfl (.tmp 70) (.tmp 73) 26 26 rfl 5 Tryz.underlying26 (by kernel_rfl) (some ⟨w.heap.size, k, none⟩) (some ⟨w.heap.size, 0, none⟩) (n - k) (n - k) k n rfl rfl w.heap.size k L 5 HG.out (rep8 m v) ?c1 ?c2 ?c3 (rep8_one m v) w.heap.size w C0 (Nat.le_refl _) ?_
    case c1 => simp only [rep8, List.length_replicate]; exact HM.out.symm
    case c2 =>
     intro _
     refine ⟨rfl, _, rfl, ?_⟩
     intro j u hu
     obtain ⟨hj, rfl⟩ := rep8_get m v j u hu
     rw [addr0_add]
     exact (row_cell HG.out j).trans (rep8_cell HT.out j (by omega))
    case c3 => simp only [rep8, List.length_replicate]; rw [HL.out]; omega
    intro w3 HG3 hB3
    refine hK.out _ _ hB3 (fun C1 => ?_)
    clear hK K hB3
    have hrl : (rep8 m v).length = m := by simp [rep8]
    rw [hrl]
    try simp only [Act.put, zzI, zzO, zzS]
    refine tkH4 8 C1 ?_
    refine tkH4 9 C1 ?_
    refine wpAnyH_done (by kernel_rfl) ?_ _
    refine NoPanic.normal ?_
    go_wp2
    go_roundw
    case rel => exact ⟨k + m, splice L k (rep8 m v), by omega, by omega, by first | rfl | go_num, HG3, HSl, HS, Lib.hid C1⟩
    case measure => simp [intOf]; omega
   ·
    obtain rfl : k = n := by omega
    have hdec : decide ((k : Int) < (k : Int)) = false := decide_eq_false (by omega)
    go_wp2
    go_ret
    exact ⟨w.heap.size, k, _, _, by simp, Nat.le_refl _, HG.out, by simpa using rep8_R8 HG.out HT.out hv, by simp, HB.out⟩
end Go.Proofs.YtmbgoopkpfhamaaGreat
