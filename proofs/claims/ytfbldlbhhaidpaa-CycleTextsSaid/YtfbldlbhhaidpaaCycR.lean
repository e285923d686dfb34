/-
  Contract of cycle.read, over the landed code.
-/
import Derived.Test.YtfbldlbhhaidpaaCycF2
import Derived.Test.YtfbldlbhhaidpaaCRow
namespace Go.Proofs.Ytfbldlbhhaidpaa
open Go.RowKit
set_option maxRecDepth 100000

theorem size_cycle : (Try.prog.info? 31).map (·.size) = some 2 := by kernel_rfl

set_option maxHeartbeats 1000000 in
theorem read_any (s : ByteArray) (x y z p q : Nat) (w : World) (hs : s.size = 3) (hx : (bl s)[0]? = some x) (hy : (bl s)[1]? = some y) (hz : (bl s)[2]? = some z) (hp : digI y = (p : Int)) (hq : digI z = (q : Int)) :
    Calls Try.prog 22 #[.string s] w (Gives (.agg #[.int .i64 (letK x), .int .u8 ((p * 16 + q : Nat) : Int)]) w) := by
  have h0 : (s[0]'(by omega)).toNat = x := by rw [bl_at (show 0 < s.size by omega)] at hx; exact Option.some.inj hx
  have h1 : (s[1]'(by omega)).toNat = y := by rw [bl_at (show 1 < s.size by omega)] at hy; exact Option.some.inj hy
  have h2 : (s[2]'(by omega)).toNat = z := by rw [bl_at (show 2 < s.size by omega)] at hz; exact Option.some.inj hz
  have hx2 : x < 256 := by rw [← h0]; exact (s[0]'(by omega)).toNat_lt
  have hy2 : y < 256 := by rw [← h1]; exact (s[1]'(by omega)).toNat_lt
  have hz2 : z < 256 := by rw [← h2]; exact (s[2]'(by omega)).toNat_lt
  have hp2 : p ≤ 15 := by have := digI_bd y; omega
  have hq2 : q ≤ 15 := by have := digI_bd z; omega
  have HP := Lib.hid hp
  have HQ := Lib.hid hq
  have HK := Lib.hid (show (1 : Int) + (letK x - 1) = letK x by omega)
  have hk := letK_bd x
  clear hx hy hz hp hq
  go_enter Try.func22, Try.ntmps22
  go_wp2_with fail
  refine (IndexByte_is _ x _ hx2).mono ?_
  rintro e w1 ⟨rfl, rfl⟩
  rw [idx_letters hx2]
  go_wp2_with fail
  refine (IndexByte_is _ y _ hy2).mono ?_
  rintro e w1 ⟨rfl, rfl⟩
  rw [idx_digits hy2, HP.out]
  go_wp2_with fail
  refine (IndexByte_is _ z _ hz2).mono ?_
  rintro e w1 ⟨rfl, rfl⟩
  rw [idx_digits hz2, HQ.out]
  go_wp2
  refine bodyPost_ret (results_cell_row rfl _ _ w.heap.size 31 _ (0, 0) _ rfl (heap_alloc_new _ _) Try.underlying31 rfl size_cycle) rfl ?_
  refine ⟨?_, below_new w _⟩
  rw [HK.out, show ((p * 16 + q : Nat) : Int) = (p : Int) * 16 + (q : Int) by omega]
end Go.Proofs.Ytfbldlbhhaidpaa
