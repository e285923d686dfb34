/-
  strings.IndexByte: the library's contract at this program.
-/
import Derived.Test.YtfbldlbhhaidpaaInfo
import Derived.Test.YtfbldlbhhaidpaaCycMath
import Derived.Shelf.Small.Strs
namespace Go.Proofs.Ytfbldlbhhaidpaa
open Go.RowKit Go.Shelf
set_option maxRecDepth 100000

def layIndexByte_ren : Go.Shelf.Ren := ⟨fun | 137 => 28 | 217 => 31 | 266 => 32 | n => n, fun | 3 => 3 | 5 => 5 | 9 => 9 | n => n, fun n => n⟩
theorem layIndexByte : Go.Proofs.Lays.n137 Try.prog layIndexByte_ren := {
  mixed := by kernel_rfl
  f137 := Try.func28.trans (congrArg some (by kernel_rfl))
  f217 := Try.func31.trans (congrArg some (by kernel_rfl))
  f266 := Try.func32.trans (congrArg some (by kernel_rfl))
  t3 := Try.underlying3
  a3 := Try.isAgg3
  z3 := Try.sizeOf3
  v3 := Try.zeroValue3
  t5 := Try.underlying5
  a5 := Try.isAgg5
  z5 := Try.sizeOf5
  v5 := Try.zeroValue5
  t9 := Try.underlying9
  a9 := Try.isAgg9
  z9 := Try.sizeOf9
  v9 := Try.zeroValue9 }

/-- The place of the byte v in l; -1 if it has none. -/
def idxB : List Nat → Nat → Int
  | [], _ => -1
  | b :: l, c => if b = c then 0 else if idxB l c = -1 then -1 else idxB l c + 1
theorem indexByte_idxB (l : List UInt8) (c : Nat) (hc : c < 256) : Lib.indexByte l (UInt8.ofNat c) = idxB (l.map (·.toNat)) c := by
  induction l with
  | nil => rfl
  | cons b l ih =>
    simp only [Lib.indexByte, idxB, List.map_cons, ih]
    have e : (b == UInt8.ofNat c) = decide (b.toNat = c) := by
      rw [Bool.eq_iff_iff, beq_iff_eq, decide_eq_true_eq]
      constructor
      · rintro rfl; exact UInt8.toNat_ofNat_of_lt (by omega)
      · intro h; rw [← h, UInt8.ofNat_toNat]
    rw [e]
    simp only [beq_iff_eq, decide_eq_true_eq]
theorem IndexByte_is (s : ByteArray) (v : Nat) (w : World) (hv : v < 256) :
    Calls Try.prog 28 #[.string s, .int .u8 (v : Int)] w fun e w' => e = .returned (.int .i64 (idxB (bl s) v)) ∧ w = w' := by
  refine (Any.strings_IndexByte layIndexByte s (v : Int) w).mono ?_
  rintro e w' ⟨he, rfl⟩
  refine ⟨?_, rfl⟩
  rw [he]
  exact congrArg (fun x => Ending.returned (.int .i64 x)) (indexByte_idxB s.data.toList v hv)
end Go.Proofs.Ytfbldlbhhaidpaa
