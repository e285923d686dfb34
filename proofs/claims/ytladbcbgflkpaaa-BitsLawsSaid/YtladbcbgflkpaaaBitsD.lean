/-
  Contracts of bits.Diff and of the laws' helpers awake and many, over the landed code.
-/
import Derived.Test.YtladbcbgflkpaaaBitsC
namespace Go.Proofs.Ytladbcbgflkpaaa
open Go.RowKit

theorem awake_any (w : World) : Calls Try.prog 7 #[] w (Gives (.bool true) w) := by
  have h1 : R8 ((w.alloc (.cells #[.int .u8 0, .int .u8 0] 5)).alloc (.cells #[.int .i64 9] 3)) (some ⟨w.heap.size, 0, none⟩) 2 [0, 0] := by
    refine ⟨⟨rfl, fun _ => ⟨_, 0, rfl, by simp; omega, fun j hj => ?_⟩⟩, by simp⟩
    rw [World.cell?_alloc_lt _ _ _ (by simp)]
    match j, hj with
    | 0, _ => simp [U8]
    | 1, _ => simp [U8]
  have h2 : R64 ((w.alloc (.cells #[.int .u8 0, .int .u8 0] 5)).alloc (.cells #[.int .i64 9] 3)) (some ⟨w.heap.size + 1, 0, none⟩) 1 [9] := by
    refine ⟨⟨rfl, fun _ => ⟨_, 0, rfl, by simp, fun j hj => ?_⟩⟩, by simp⟩
    match j, hj with
    | 0, _ => simp [I64]
  have H1 := Lib.hid h1
  have H2 := Lib.hid h2
  clear h1 h2
  go_enter Try.func7, Try.ntmps7
  go_wp2_with fail
  refine (Flip_makes _ _ _ _ _ _ _ _ _ H1.out H2.out (by omega) (by omega)).mono ?_
  rintro e w1 ⟨A1, c1, rfl, hr1, hb1⟩
  have HR := Lib.hid hr1
  have HB := Lib.hid hb1
  clear hr1 hb1
  go_wp2_with fail
  have h3 : R8 (w1.alloc (.cells #[.int .u8 0, .int .u8 2] 5)) (some ⟨w1.heap.size, 0, none⟩) 2 [0, 2] := by
    refine ⟨⟨rfl, fun _ => ⟨_, 0, rfl, by simp, fun j hj => ?_⟩⟩, by simp⟩
    match j, hj with
    | 0, _ => simp [U8]
    | 1, _ => simp [U8]
  have H3 := Lib.hid h3
  clear h3
  have hfl : (flips [0, 0] [9]).length ≤ 1099511627776 := by rw [flips_length]; simp
  refine (Same_any _ _ _ _ _ _ _ _ _ (HR.out.alloc _) H3.out hfl (by omega)).mono ?_
  rintro e w2 ⟨rfl, q, rfl⟩
  go_wp2
  go_ret
  refine ⟨ret_bool (by decide), ?_⟩
  have h4 : Below w.heap.size w w1 := (((Below.refl _ _).alloc (Nat.le_refl _) _).alloc (by simp) _).trans (HB.out.mono (by simp; omega))
  exact below_drewN (h4.alloc h4.size _) q

/-- Is one of these slices longer than 500? -/
def tooLong (ns : List Nat) : Bool := ns.any fun n => decide (500 < n)

set_option maxHeartbeats 400000 in
theorem many_any (g : Nat) (vs : List (Option Addr × Nat × Nat)) (c : Nat) (w : World) (hl : vs.length ≤ 1000) (hs : ∀ v ∈ vs, v.2.1 ≤ 9223372036854775807)
    (hc : ∀ j v, vs[j]? = some v → w.cell? ⟨g, j, none⟩ = some (.slice v.1 v.2.1 v.2.2)) :
    Calls Try.prog 8 #[.slice (some ⟨g, 0, none⟩) vs.length c] w fun e w' => e = .returned (.bool (tooLong (vs.map (·.2.1)))) ∧ w = w' := by
  have HC := Lib.hid hc
  have HS := Lib.hid hs
  clear hc hs
  go_enter Try.func8, Try.ntmps8
  go_wp2
  go_loop [7] (fun i => ∃ k : Nat, k ≤ vs.length ∧ i = .int .i64 k ∧ Hid (tooLong ((vs.take k).map (·.2.1)) = false)) (fun i => vs.length - (intOf i).toNat)
  case atStart => exact ⟨0, Nat.zero_le _, rfl, rfl⟩
  case round =>
    obtain ⟨k, hk, rfl, HE⟩ := hrel
    by_cases hlt : k < vs.length
    · obtain ⟨v, hv⟩ : ∃ v, vs[k]? = some v := ⟨_, List.getElem?_eq_getElem hlt⟩
      have hcell := HC.out k v hv
      have hs1 := HS.out v (List.mem_of_getElem? hv)
      have HV := Lib.hid hv
      clear hv
      obtain ⟨A, n, d⟩ := v
      simp only at hs1 hcell
      by_cases h5 : 500 < n
      · have HT := Lib.hid (show tooLong (vs.map (·.2.1)) = true by
          unfold tooLong
          rw [List.any_eq_true]
          exact ⟨n, List.mem_map.2 ⟨_, List.mem_of_getElem? HV.out, rfl⟩, decide_eq_true h5⟩)
        go_wp2
        go_ret
        exact ⟨ret_bool HT.out.symm, rfl⟩
      · have HT := Lib.hid (show tooLong ((vs.take (k + 1)).map (·.2.1)) = false by
          have := HE.out
          unfold tooLong at this ⊢
          rw [take_snoc HV.out, List.map_append, List.any_append, this]
          simp; omega)
        go_wp2
        go_round
        case rel => exact ⟨k + 1, by omega, by go_num, HT⟩
        case measure => simp [intOf]; omega
    · have HT := Lib.hid (show tooLong (vs.map (·.2.1)) = false by
        have := HE.out
        rwa [List.take_of_length_le (by omega)] at this)
      go_wp2
      go_ret
      exact ⟨ret_bool HT.out.symm, rfl⟩

theorem many1 (g n c k : Nat) (A : Option Addr) (w : World) (hn : n ≤ 9223372036854775807) (h0 : w.cell? ⟨g, 0, none⟩ = some (.slice A n c)) :
    Calls Try.prog 8 #[.slice (some ⟨g, 0, none⟩) 1 k] w fun e w' => e = .returned (.bool (tooLong [n])) ∧ w = w' := by
  refine many_any g [(A, n, c)] k w (by simp) (by simpa using hn) (fun j v hv => ?_)
  match j, hv with
  | 0, hv => simp at hv; subst hv; exact h0
theorem many2 (g n c m d k : Nat) (A B : Option Addr) (w : World) (hn : n ≤ 9223372036854775807) (hm : m ≤ 9223372036854775807) (h0 : w.cell? ⟨g, 0, none⟩ = some (.slice A n c)) (h1 : w.cell? ⟨g, 1, none⟩ = some (.slice B m d)) :
    Calls Try.prog 8 #[.slice (some ⟨g, 0, none⟩) 2 k] w fun e w' => e = .returned (.bool (tooLong [n, m])) ∧ w = w' := by
  refine many_any g [(A, n, c), (B, m, d)] k w (by simp) (by simpa using ⟨hn, hm⟩) (fun j v hv => ?_)
  match j, hv with
  | 0, hv => simp at hv; subst hv; exact h0
  | 1, hv => simp at hv; subst hv; exact h1
theorem many3 (g n c m d p q k : Nat) (A B C : Option Addr) (w : World) (hn : n ≤ 9223372036854775807) (hm : m ≤ 9223372036854775807) (hp : p ≤ 9223372036854775807) (h0 : w.cell? ⟨g, 0, none⟩ = some (.slice A n c)) (h1 : w.cell? ⟨g, 1, none⟩ = some (.slice B m d)) (h2 : w.cell? ⟨g, 2, none⟩ = some (.slice C p q)) :
    Calls Try.prog 8 #[.slice (some ⟨g, 0, none⟩) 3 k] w fun e w' => e = .returned (.bool (tooLong [n, m, p])) ∧ w = w' := by
  refine many_any g [(A, n, c), (B, m, d), (C, p, q)] k w (by simp) (by simpa using ⟨hn, hm, hp⟩) (fun j v hv => ?_)
  match j, hv with
  | 0, hv => simp at hv; subst hv; exact h0
  | 1, hv => simp at hv; subst hv; exact h1
  | 2, hv => simp at hv; subst hv; exact h2
end Go.Proofs.Ytladbcbgflkpaaa
