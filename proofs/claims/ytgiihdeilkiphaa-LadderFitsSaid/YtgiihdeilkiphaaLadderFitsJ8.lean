/-
  Contracts of math/bits' Len64 and Len over the landed code's translation: what each returns; memory is as it was.
-/
import Derived.Test.YtgiihdeilkiphaaChecked
import Derived.Lib.Strings
import Derived.Lib.Slices
import Derived.Lib.Small
import Derived.Lib.Walk
import Derived.Lib.BitFns
namespace Go.Proofs.Ytgiihdeilkiphaa

set_option maxRecDepth 100000 in
theorem len64_any (x : Int) (w : World) (h0 : 0 ≤ x) (h1 : x < 16777216) :
    Calls Try.prog 98 #[.int .u64 x] w fun e w' => e = .returned (.int .i64 (Lib.bitLen x.toNat)) ∧ w = w' := by
  rcases Int.lt_or_le x 256 with ha | ha
  · go_enter Try.func98, Try.ntmps98
    go_wp2
    go_ret
    refine ⟨congrArg Ending.returned (congrArg (Value.int IntKind.i64) ?_), rfl⟩
    rw [Lib.len8_int _ (by omega) (by omega), show (x % 256).toNat = x.toNat by omega]
  · rcases Int.lt_or_le x 65536 with hb | hb
    · go_enter Try.func98, Try.ntmps98
      go_wp2
      go_ret
      refine ⟨congrArg Ending.returned (congrArg (Value.int IntKind.i64) ?_), rfl⟩
      have s := Lib.bitLen_shift8 x.toNat (by omega) (by omega)
      have l := Lib.bitLen_le8' (x / 256 % 256) (by omega) (by omega)
      rw [Lib.len8_int _ (by omega) (by omega)]
      rw [show (x / 256 % 256).toNat = x.toNat / 256 by omega] at l ⊢
      omega
    · go_enter Try.func98, Try.ntmps98
      go_wp2
      go_ret
      refine ⟨congrArg Ending.returned (congrArg (Value.int IntKind.i64) ?_), rfl⟩
      have s := Lib.bitLen_shift16 x.toNat (by omega) (by omega)
      have l := Lib.bitLen_le8' (x / 65536 % 256) (by omega) (by omega)
      rw [Lib.len8_int _ (by omega) (by omega)]
      rw [show (x / 65536 % 256).toNat = x.toNat / 65536 by omega] at l ⊢
      omega

theorem len_any (x : Int) (w : World) (h0 : 0 ≤ x) (h1 : x < 16777216) :
    Calls Try.prog 96 #[.int .u64 x] w fun e w' => e = .returned (.int .i64 (Lib.bitLen x.toNat)) ∧ w = w' := by
  go_enter Try.func96, Try.ntmps96
  go_wp2_with (go_at_call 98; refine (len64_any x _ h0 h1).mono ?_; rintro e w' ⟨rfl, rfl⟩)
  go_ret
  exact ⟨rfl, rfl⟩

end Go.Proofs.Ytgiihdeilkiphaa

/-
  Contract of math/bits' OnesCount8 over the landed code's translation: what it returns for a byte; memory is as it was.
-/
namespace Go.Proofs.Ytgiihdeilkiphaa

theorem ones8_any (x : Int) (w : World) (h0 : 0 ≤ x) (h1 : x ≤ 255) :
    Calls Try.prog 82 #[.int .u8 x] w fun e w' => e = .returned (.int .i64 (Lib.onesCount x.toNat)) ∧ w = w' := by
  rw [← Lib.pop8_int x h0 h1]
  go_enter Try.func82, Try.ntmps82
  go_wp2
  go_ret
  exact ⟨rfl, rfl⟩
end Go.Proofs.Ytgiihdeilkiphaa
