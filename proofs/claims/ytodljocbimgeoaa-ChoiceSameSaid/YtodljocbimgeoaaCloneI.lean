/-
  Contract of slices.Clone of integers, over the landed code's translation.
-/
import Derived.Test.YtodljocbimgeoaaInfo
namespace Go.Proofs.Ytodljocbimgeoaa
open Go.RowKit
set_option maxRecDepth 100000

/-- A slice of the numbers l, in a row of its own; nothing that was there has turned. -/
def OwnsJ (l : List Int) (w : World) (e : Ending) (w' : World) : Prop :=
  ∃ A c, e = .returned (.slice A l.length c) ∧ w'.ownsRow w.heap.size 3 1 (.slice A l.length c) l.length (I64 l) ∧ Below w.heap.size w w'

set_option maxHeartbeats 400000 in
theorem CloneI_any (A : Option Addr) (n c : Nat) (l : List Int) (w : World) (hr : R64 w A n l) (hn : n ≤ 1099511627776) :
    Calls Try.prog 18 #[.slice A n c] w (OwnsJ l w) := by
  obtain ⟨i0, hi, hz0, hz1, hz2⟩ := info_parts info_int
  have hnil := fun w => Lib.run_eql_slice_nil (P := Try.prog) w 22 3 A n c 0 0 Try.underlying22
  have hlen := Lib.hid hr.len
  rcases A with _ | ad
  · have h0 : n = 0 := by
      rcases Nat.eq_zero_or_pos n with h | h
      · exact h
      · obtain ⟨b, off, e, _⟩ := hr.1.2 h; cases e
    have hl : l = [] := List.eq_nil_of_length_eq_zero (by have := hr.len; omega)
    subst hl
    clear hr h0
    go_enter Try.func18, Try.ntmps18
    go_wp2
    go_ret
    exact ⟨none, 0, rfl, World.ownsRow_nil _ _ _ _, Below.refl _ _⟩
  · have hnew : ∀ j u, (I64 l)[j]? = some u → (w.alloc (.cells #[] 3)).cell? (ad.add j) = some u := by
      intro j u hu
      rcases Nat.eq_zero_or_pos n with h | h
      · have hl : l = [] := List.eq_nil_of_length_eq_zero (by have := hr.len; omega)
        subst hl
        simp [I64] at hu
      · obtain ⟨b, off, e, hb, hc⟩ := (hr.1.alloc (.cells #[] 3)).2 h
        injection e with e
        subst e
        exact Rd.news hc hr.1.1 j u hu
    have HN := Lib.hid hnew
    clear hnew hr
    go_enter Try.func18, Try.ntmps18
    go_wp2_with (at_builtin; refine wpList_append_own _ rfl (.tmp 5) (.tmp 6) _ rfl w.heap.size 3 i0 _ 1 8 Try.underlying22 hi hz0 hz1 hz2 rfl (by decide) (.slice (some ⟨w.heap.size, 0, none⟩) 0 0) 0 [] rfl (World.ownsRow_made w #[] 0 (Nat.le_refl _) (by simp only [maxLen]; omega) rfl) ad n c (I64 l) rfl ?c1 HN.out (I64_one l) ?c2 ?c3 ?c4 ?_)
    case c1 => rw [I64_length]; have := hlen.out; omega
    case c2 => unfold maxLen; omega
    case c3 => omega
    case c4 => simp
    · intro v' w1 hown hg _
      obtain ⟨A', c', rfl⟩ := own_form hown
      have HO := Lib.hid hown
      have HG := Lib.hid hg
      clear hown hg
      go_wp2
      go_ret
      have e := hlen.out
      refine ⟨A', c', by rw [e]; simp, ?_, ?_⟩
      · have := HO.out
        rw [e]
        simpa using this
      · exact ((Below.refl _ _).alloc (Nat.le_refl _) _).grown HG.out (by simp) (by simp [Value.ownBlock])
end Go.Proofs.Ytodljocbimgeoaa
