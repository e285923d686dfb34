/-
  Contract of slices.Clone of bytes, over the landed code's translation.
-/
import Derived.Test.YtipmjmbkknlcfaaInfo
namespace Go.Proofs.Ytipmjmbkknlcfaa
open Go.RowKit
set_option maxRecDepth 100000

set_option maxHeartbeats 400000 in
theorem Clone_any (A : Option Addr) (n c : Nat) (l : List Nat) (w : World) (hr : R8 w A n l) (hn : n ≤ 1099511627776) :
    Calls Try.prog 44 #[.slice A n c] w (OwnsB 5 l w) := by
  obtain ⟨i0, hi, hz0, hz1, hz2⟩ := info_parts info_u8
  have hnil := fun w => Lib.run_eql_slice_nil (P := Try.prog) w 35 5 A n c 0 0 Try.underlying35
  have hlen := Lib.hid hr.len
  rcases A with _ | ad
  · have h0 : n = 0 := by
      rcases Nat.eq_zero_or_pos n with h | h
      · exact h
      · obtain ⟨b, off, e, _⟩ := hr.1.2 h; cases e
    have hl : l = [] := List.eq_nil_of_length_eq_zero (by have := hr.len; omega)
    subst hl
    clear hr h0
    go_enter Try.func44, Try.ntmps44
    go_wp2
    go_ret
    exact ⟨none, 0, rfl, World.ownsRow_nil _ _ _ _, Below.refl _ _⟩
  · have hnew : ∀ j u, (U8 l)[j]? = some u → (w.alloc (.cells #[] 5)).cell? (ad.add j) = some u := by
      intro j u hu
      rcases Nat.eq_zero_or_pos n with h | h
      · have hl : l = [] := List.eq_nil_of_length_eq_zero (by have := hr.len; omega)
        subst hl
        simp [U8] at hu
      · obtain ⟨b, off, e, hb, hc⟩ := (hr.1.alloc (.cells #[] 5)).2 h
        injection e with e
        subst e
        exact Rd.news hc hr.1.1 j u hu
    have HN := Lib.hid hnew
    clear hnew hr
    go_enter Try.func44, Try.ntmps44
    go_wp2_with (at_builtin; refine wpList_append_own _ rfl (.tmp 5) (.tmp 6) _ rfl w.heap.size 5 i0 _ 1 1 Try.underlying35 hi hz0 hz1 hz2 rfl (by decide) (.slice (some ⟨w.heap.size, 0, none⟩) 0 0) 0 [] rfl (World.ownsRow_made w #[] 0 (Nat.le_refl _) (by simp only [maxLen]; omega) rfl) ad n c (U8 l) rfl ?c1 HN.out (U8_one l) ?c2 ?c3 ?c4 ?_)
    case c1 => rw [U8_length]; have := hlen.out; omega
    case c2 => unfold maxLen; omega
    case c3 => omega
    case c4 => simp
    · intro v' w1 hown hg _
      obtain ⟨A', c', rfl⟩ := own_form hown
      have HO := Lib.hid hown
      have HG := Lib.hid hg
      clear hown hg
      go_wp2
      go_ret
      have e := hlen.out
      refine ⟨A', c', by rw [e]; simp, ?_, ?_⟩
      · have := HO.out
        rw [e]
        simpa using this
      · exact ((Below.refl _ _).alloc (Nat.le_refl _) _).grown HG.out (by simp) (by simp [Value.ownBlock])
end Go.Proofs.Ytipmjmbkknlcfaa
