/-
  The conversion of a slice of bytes to a string, over the landed code's translation: it gives the text of the bytes that the slice holds, and makes nothing.
-/
import Derived.Test.YtladbcbgflkpaaaBitsE
import Derived.Test.YtladbcbgflkpaaaMath4
import Derived.Laws.BytesArg
namespace Go.Proofs.Ytladbcbgflkpaaa
open Go.RowKit

theorem str_of_nums (l : List Nat) : strOfNums (l.map fun x => ((x : Nat) : Int)) = str l := by
  unfold strOfNums str
  rw [List.map_map]
  rfl
theorem conv_str (A : Option Addr) (n c : Nat) (l : List Nat) (w : World) (h : R8 w A n l) :
    (convert 22 9 (.slice A n c)).run Try.prog w = .ok (.string (str l)) w := by
  have hd : Try.prog.underlying 9 = some .string := by kernel_rfl
  rcases Nat.eq_zero_or_pos n with h0 | h0
  · subst h0
    have hl : l = [] := List.eq_nil_of_length_eq_zero h.len
    subst hl
    rcases A with _ | ad
    · exact run_convert_bytes_nil w 22 5 Try.underlying22 Try.underlying5 0 c 9 hd
    · rw [run_convert_bytes_string w 22 9 5 (some ad) 0 c Try.underlying22 Try.underlying5 hd]
      rw [run_bytesToString w ad 0 c [] (by simpa using run_loadCells_list (P := Try.prog) w ad [] (by simp))]
      rfl
  · obtain ⟨b, off, rfl, hb, hc⟩ := h.1.2 h0
    rw [← str_of_nums]
    refine run_convert_bytes_arg w 22 5 Try.underlying22 Try.underlying5 b off n c _ (by rw [List.length_map]; exact h.len) (fun i hi => ?_) 9 hd
    have hl : i < l.length := by have := h.len; omega
    rw [hc i hi, U8, List.getElem?_map, List.getElem?_eq_getElem hl]
    simp [hl]
theorem conv_in (A : Option Addr) (n c : Nat) (l : List Nat) (w : World) (h : R8 w A n l) :
    ∀ W, Below w.heap.size w W → (convert 22 9 (.slice A n c)).run Try.prog W = .ok (.string (str l)) W :=
  fun W hb => conv_str A n c l W (h.below hb)
/-- It returns a slice of q bytes whose text is that of l, now and later on; nothing that was there has turned, neither since w0 nor since W. -/
def MadeS (q : Nat) (l : List Nat) (w0 W : World) (e : Ending) (w' : World) : Prop :=
  ∃ A c, e = .returned (.slice A q c) ∧ (∀ V, Below w'.heap.size w' V → (convert 22 9 (.slice A q c)).run Try.prog V = .ok (.string (str l)) V) ∧ Below w0.heap.size w0 w' ∧ Below W.heap.size W w'
theorem And_text (A B : Option Addr) (n c m d q : Nat) (a b : List Nat) (w0 : World) (ha : R8 w0 A n a) (hb : R8 w0 B m b) (hn : n ≤ 1099511627776) (hm : m ≤ 1099511627776) (hq : (andL a b).length = q) :
    ∀ W, Below w0.heap.size w0 W → Calls Try.prog 17 #[.slice A n c, .slice B m d] W (MadeS q (andL a b) w0 W) := by
  intro W hW
  refine (And_makes A B n c m d a b W (ha.below hW) (hb.below hW) hn hm).mono fun e w' h => ?_
  obtain ⟨A', c', he, hr, hbl⟩ := h.at_ hq
  exact ⟨A', c', he, conv_in A' q c' _ w' hr.out, below_step hW hbl.out, hbl.out⟩
end Go.Proofs.Ytladbcbgflkpaaa
