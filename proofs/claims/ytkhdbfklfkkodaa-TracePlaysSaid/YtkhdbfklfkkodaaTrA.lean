/-
  Contracts of slices.Clone (cycles), of the recorder's made, All, List, and of trace.New, over the landed code.
-/
import Derived.Test.YtkhdbfklfkkodaaTrMem
import Derived.Test.YtkhdbfklfkkodaaCycA
namespace Go.Proofs.Ytkhdbfklfkkodaa
open Go.RowKit
set_option maxRecDepth 100000

/-- A slice of the cycles l, of its own; nothing that was there has turned. -/
def OwnsC (l : List Cy) (w : World) (e : Ending) (w' : World) : Prop := Below w.heap.size w w' ∧ ∃ A c, e = .returned (.slice A l.length c) ∧ RC w' A l.length l

set_option maxHeartbeats 400000 in
theorem CloneC_any (A : Option Addr) (n c : Nat) (l : List Cy) (w : World) (hr : RC w A n l) (hnil : A = none → c = 0) (hn : n ≤ 1099511627775) :
    Calls Try.prog 13 #[.slice A n c] w (OwnsC l w) := by
  obtain ⟨i0, ti, tz0, tz1, tz2⟩ := info_parts info_cycle
  have hnl := fun w => Lib.run_eql_slice_nil (P := Try.prog) w 26 38 A n c 0 0 Try.underlying26
  have hlen := Lib.hid hr.len
  have HR := Lib.hid hr
  have HNL := Lib.hid hnil
  clear hr hnil
  rcases A with _ | ad
  · have h0 : n = 0 := by
      rcases Nat.eq_zero_or_pos n with h | h
      · exact h
      · obtain ⟨b, off, e, _⟩ := HR.out.2.2 h; cases e
    have hl : l = [] := List.eq_nil_of_length_eq_zero (by have := hlen.out; omega)
    subst hl
    clear HR h0
    go_enter Try.func13, Try.ntmps13
    go_wp2
    go_ret
    exact ⟨Below.refl _ _, none, 0, rfl, RC.nil_ _⟩
  · go_enter Try.func13, Try.ntmps13
    go_wp2_with (at_builtin; refine wpList_appendC _ rfl (.tmp 5) (.tmp 6) _ rfl w.heap.size 38 i0 Try.underlying26 ti tz0 tz1 tz2 (.slice (some ⟨w.heap.size, 0, none⟩) 0 0) 0 [] rfl (World.ownsRow_made w #[] 0 (Nat.le_refl _) (by simp only [maxLen]; omega) rfl) (some ad) n c l rfl (by simp) (HR.out.alloc _) ?c2 ?c4 ?_)
    case c2 => omega
    case c4 => simp
    · intro v' w1 hown hg
      obtain ⟨A', c', rfl⟩ := own_form2 hown
      have HO := Lib.hid hown
      have HG := Lib.hid hg
      clear hown hg
      go_wp2
      go_ret
      have e := hlen.out
      refine ⟨((Below.refl _ _).alloc (Nat.le_refl _) _).grown HG.out (by simp) (by simp [Value.ownBlock]), A', c', by rw [e]; simp, ?_⟩
      have h1 := RC.own HO.out (by simpa using HR.out.in_)
      rw [e]
      simpa using h1

theorem neqMap (b : Nat) (w : World) : (binOp .neq 39 (.map (some b)) (.map none)).run Try.prog w = .ok (.bool true) w := by kernel_rfl

theorem made_any (p b : Nat) (v : Value) (n : Int) (w : World) (h : CRow w p 41 #[v, .int .i64 n, .map (some b)]) :
    Calls Try.prog 12 #[.pointer (some ⟨p, 0, none⟩)] w (Gives (.bool true) w) := by
  have x2 := h.cell_at 2 _ rfl
  clear h
  have hne := neqMap
  go_enter Try.func12, Try.ntmps12
  go_wp2
  go_ret
  exact ⟨rfl, Below.refl _ _⟩

theorem All_any (p b : Nat) (v : Value) (n : Int) (w : World) (h : CRow w p 41 #[v, .int .i64 n, .map (some b)]) :
    Calls Try.prog 8 #[.pointer (some ⟨p, 0, none⟩)] w (Gives (.int .i64 n) w) := by
  have HC := Lib.hid h
  clear h
  go_enter Try.func8, Try.ntmps8
  go_wp2_with fail
  refine (made_any p b v n _ HC.out).mono ?_
  rintro _ w1 ⟨rfl, h1⟩
  have B1 := Lib.hid h1
  have x1 := (HC.out.below h1).cell_at 1 _ rfl
  clear h1 HC
  go_wp2
  go_ret
  exact ⟨rfl, B1.out⟩

theorem AllR_any (p : Nat) (I : Nat → Prop) (L : List Cy) (n : Int) (M : ByteArray → Option Nat) (k : Nat) (w : World) (h : Rec w p I L n M k) :
    Calls Try.prog 8 #[.pointer (some ⟨p, 0, none⟩)] w (Gives (.int .i64 n) w) := by
  obtain ⟨A, c, b, D, h1, _⟩ := h
  exact All_any p b _ n w h1

theorem New_any (w : World) :
    Calls Try.prog 5 #[] w fun e w' => ∃ p I, e = .returned (.pointer (some ⟨p, 0, none⟩)) ∧ Below w.heap.size w w' ∧ Rec w' p I [] 0 (fun _ => none) 0 ∧ (∀ j, I j → w.heap.size ≤ j) := by
  have hmm := @run_makeMap Try.prog
  go_enter Try.func5, Try.ntmps5
  go_wp2
  go_ret
  refine ⟨w.heap.size + 1, fun j => j = w.heap.size ∨ j = w.heap.size + 1, rfl, ((Below.refl _ _).alloc (Nat.le_refl _) _).alloc (by simp) _, ⟨none, 0, w.heap.size, .map [], ?_, World.ownsRow_nil _ _ _ _, by simp, ?_, MapIs.empty, .inr rfl, .inl rfl, fun j hj => (by cases hj), ?_⟩, ?_⟩
  · have h := CRow.new (w.alloc (.map #[] 0)) #[.slice none 0 0, .int .i64 0, .map (some w.heap.size)] 41
    simpa using h
  · exact map_below (World.ownsMap_made w _ _ _) (below_new _ _)
  · intro j hj
    simp
    omega
  · intro j hj
    omega

theorem List_any (p : Nat) (I : Nat → Prop) (L : List Cy) (n : Int) (M : ByteArray → Option Nat) (k : Nat) (w : World) (h : Rec w p I L n M k) (hn : L.length ≤ 1099511627775) :
    Calls Try.prog 10 #[.pointer (some ⟨p, 0, none⟩)] w (OwnsC L w) := by
  obtain ⟨A, c, b, D, h1, h2, h3, _⟩ := h
  have HC := Lib.hid h1
  have HO := Lib.hid h2
  have HI := Lib.hid h3
  clear h1 h2 h3
  go_enter Try.func10, Try.ntmps10
  go_wp2_with fail
  refine (made_any p b _ n _ HC.out).mono ?_
  rintro _ w1 ⟨rfl, h1⟩
  have B1 := Lib.hid h1
  have x0 := (HC.out.below h1).cell_at 0 _ rfl
  have HO1 := Lib.hid (own_below2 HO.out h1)
  clear h1 HC HO
  go_wp2_with fail
  refine (CloneC_any A L.length c L _ (RC.own HO1.out HI.out) (own_nil2 HO1.out) hn).mono ?_
  rintro _ w2 ⟨h2, A2, c2, rfl, r2⟩
  have B2 := Lib.hid (below_step B1.out h2)
  have R2 := Lib.hid r2
  clear h2 r2 x0
  go_wp2
  go_ret
  exact ⟨B2.out, A2, c2, rfl, R2.out⟩
end Go.Proofs.Ytkhdbfklfkkodaa
