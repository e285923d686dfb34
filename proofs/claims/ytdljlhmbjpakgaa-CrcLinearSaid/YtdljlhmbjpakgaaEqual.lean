/-
  The conversion of a slice of bytes to a string, and bytes.Equal, over the landed code's translation.
-/
import Derived.Test.YtdljlhmbjpakgaaSame
import Derived.Test.YtdljlhmbjpakgaaMath4
import Derived.Laws.BytesArg
namespace Go.Proofs.Ytdljlhmbjpakgaa
open Go.RowKit

theorem str_of_nums (l : List Nat) : strOfNums (l.map fun x => ((x : Nat) : Int)) = str l := by
  unfold strOfNums str
  rw [List.map_map]
  rfl
theorem conv_str (A : Option Addr) (n c : Nat) (l : List Nat) (w : World) (h : R8 w A n l) :
    (convert 22 9 (.slice A n c)).run Try.prog w = .ok (.string (str l)) w := by
  have hd : Try.prog.underlying 9 = some .string := by kernel_rfl
  rcases Nat.eq_zero_or_pos n with h0 | h0
  · subst h0
    have hl : l = [] := List.eq_nil_of_length_eq_zero h.len
    subst hl
    rcases A with _ | ad
    · exact run_convert_bytes_nil w 22 5 Try.underlying22 Try.underlying5 0 c 9 hd
    · rw [run_convert_bytes_string w 22 9 5 (some ad) 0 c Try.underlying22 Try.underlying5 hd]
      rw [run_bytesToString w ad 0 c [] (by simpa using run_loadCells_list (P := Try.prog) w ad [] (by simp))]
      rfl
  · obtain ⟨b, off, rfl, hb, hc⟩ := h.1.2 h0
    rw [← str_of_nums]
    refine run_convert_bytes_arg w 22 5 Try.underlying22 Try.underlying5 b off n c _ (by rw [List.length_map]; exact h.len) (fun i hi => ?_) 9 hd
    have hl : i < l.length := by have := h.len; omega
    rw [hc i hi, U8, List.getElem?_map, List.getElem?_eq_getElem hl]
    simp [hl]
theorem conv_in (A : Option Addr) (n c : Nat) (l : List Nat) (w : World) (h : R8 w A n l) :
    ∀ W, Below w.heap.size w W → (convert 22 9 (.slice A n c)).run Try.prog W = .ok (.string (str l)) W :=
  fun W hb => conv_str A n c l W (h.below hb)

theorem str_inj {a b : List Nat} (ha : ∀ x ∈ a, x < 256) (hb : ∀ x ∈ b, x < 256) (h : str a = str b) : a = b := by
  have h1 : (a.map fun x => UInt8.ofNat x).map UInt8.toNat = (b.map fun x => UInt8.ofNat x).map UInt8.toNat := by
    have h2 := congrArg (fun s : ByteArray => s.data.toList.map UInt8.toNat) h
    simpa [str] using h2
  have key : ∀ l : List Nat, (∀ x ∈ l, x < 256) → (l.map fun x => UInt8.ofNat x).map UInt8.toNat = l := by
    intro l hl
    rw [List.map_map]
    conv => rhs; rw [← List.map_id l]
    refine List.map_congr_left fun x hx => ?_
    simp [Nat.mod_eq_of_lt (hl x hx)]
  rwa [key a ha, key b hb] at h1

theorem Equal_any (A B : Option Addr) (n c m d : Nat) (a b : List Nat) (w : World) (ha : R8 w A n a) (hb : R8 w B m b) :
    Calls Try.prog 15 #[.slice A n c, .slice B m d] w fun e w' => e = .returned (.bool (decide (a = b))) ∧ w = w' := by
  have h1 := conv_str A n c a w ha
  have h2 := conv_str B m d b w hb
  have HI := Lib.hid (fun h => str_inj ha.2 hb.2 h)
  clear ha hb
  go_enter Try.func15, Try.ntmps15
  go_wp2
  go_ret
  refine ⟨ret_bool ?_, rfl⟩
  rw [ByteArray.toList_eq, ByteArray.toList_eq]
  by_cases hab : a = b
  · subst hab; simp
  · rw [decide_eq_false hab]
    refine beq_eq_false_iff_ne.2 fun h => hab (HI.out ?_)
    unfold str at h ⊢
    simpa using h
end Go.Proofs.Ytdljlhmbjpakgaa
