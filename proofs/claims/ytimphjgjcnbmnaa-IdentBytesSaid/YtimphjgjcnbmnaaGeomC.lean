/-
  Contracts of geom.Lower, Upper, Address, Number, and of the document's Right, Raw, Address (package incunableref04), over the landed code.
-/
import Derived.Test.YtimphjgjcnbmnaaGeomB
import Derived.Test.YtimphjgjcnbmnaaGeomR
import Derived.Test.YtimphjgjcnbmnaaIntBits
namespace Go.Proofs.Ytimphjgjcnbmnaa
open Go.RowKit
set_option maxRecDepth 100000

theorem R8.two {w : World} {g x y : Nat} {t : TypeId} (hx : x < 256) (hy : y < 256) (hg : g = w.heap.size) : R8 (w.alloc (.cells #[.int .u8 (x : Int), .int .u8 (y : Int)] t)) (some ⟨g, 0, none⟩) 2 [x, y] := by
  subst hg
  refine ⟨⟨rfl, fun _ => ⟨_, 0, rfl, by simp, fun j hj => ?_⟩⟩, by intro z hz; simp at hz; omega⟩
  match j, hj with
  | 0, _ => simp [U8]
  | 1, _ => simp [U8]
theorem Address_any (n : Int) (w : World) : Calls Try.prog 14 #[.int .i64 n] w (MakesB (adr n) w) := by
  go_enter Try.func14, Try.ntmps14
  go_wp2
  go_ret
  refine ⟨some ⟨w.heap.size, 0, none⟩, 2, rfl, ?_, (Below.refl _ _).alloc (Nat.le_refl _) _⟩
  have e0 : n % 256 = (((n % 256).toNat : Nat) : Int) := by omega
  have e1 : n / 256 % 256 = (((n / 256 % 256).toNat : Nat) : Int) := by omega
  have h3 : (n % 256).toNat < 256 := by omega
  have h4 : (n / 256 % 256).toNat < 256 := by omega
  unfold adr
  rw [e0, e1]
  exact R8.two h3 h4 rfl
theorem Number_no (A : Option Addr) (n c : Nat) (w : World) (h : n ≠ 2) : Calls Try.prog 16 #[.slice A n c] w fun e w' => e = .returned (.tuple #[.int .i64 0, .bool false]) ∧ w = w' := by
  have hne : ((n : Int) != 2) = true := by simp; omega
  go_enter Try.func16, Try.ntmps16
  go_wp2
  go_ret2
  exact ⟨rfl, rfl⟩
theorem Number_yes (A : Option Addr) (c x y : Nat) (w : World) (hr : R8 w A 2 [x, y]) : Calls Try.prog 16 #[.slice A 2 c] w (Quiet (.tuple #[.int .i64 ((x + 256 * y : Nat) : Int), .bool true]) w) := by
  obtain ⟨g, off, x1, rfl, hb, HX, hx, hc⟩ := hr.at_ (k := 0) (by omega)
  obtain ⟨g2, off2, y1, e, hb2, HY, hy, hc2⟩ := hr.at_ (k := 1) (by omega)
  injection e with e
  injection e with e1 e2
  subst e1 e2
  obtain rfl : x = x1 := by simpa using HX.out
  obtain rfl : y = y1 := by simpa using HY.out
  clear hr
  simp only [Nat.add_zero] at hc
  go_enter Try.func16, Try.ntmps16
  go_wp2
  go_quiet (fail)
  go_wp2
  go_ret2
  refine ⟨?_, _, rfl⟩
  have e : bits .or .i64 (x : Int) ((y : Int) * 256) = ((x + 256 * y : Nat) : Int) := by
    have h1 : ((y : Int) * 256) = ((y * 256 : Nat) : Int) := by simp
    rw [h1, i64_or_nat _ _ (by omega) (by omega), Nat.or_comm, nat_join 8 (y * 256) x (by omega) (by omega)]
    congr 1
    omega
  rw [← e]
  rfl
theorem low_neg (n : Int) (h : n.tmod 256 < 0) : wrap64 (n.tmod 256 + 256) = n % 256 := by
  have e := Int.tmod_eq_emod (a := n) (b := 256)
  have h1 : n.tmod 256 + 256 = n % 256 := by
    split at e <;> simp at e <;> omega
  rw [h1]
  unfold wrap64
  omega
theorem low_pos (n : Int) (h : 0 ≤ n.tmod 256) : n.tmod 256 = n % 256 := by
  have e := Int.tmod_eq_emod (a := n) (b := 256)
  split at e <;> simp at e <;> omega
theorem mid_quo (n : Int) (h1 : -9223372036854775808 ≤ n) (h2 : n ≤ 9223372036854775807) : wrap64 ((wrap64 (n - n % 256)).tdiv 256) = n / 256 := by
  have e : wrap64 (n - n % 256) = 256 * (n / 256) := by unfold wrap64; omega
  rw [e, Int.mul_tdiv_cancel_left _ (by omega)]
  unfold wrap64
  omega
theorem adr_two {w : World} {n : Int} {t : TypeId} {lo hi : Int} (h1 : lo = n % 256) (h2 : hi = n / 256 % 256) : R8 (w.alloc (.cells #[.int .u8 (lo % 256), .int .u8 (hi % 256)] t)) (some ⟨w.heap.size, 0, none⟩) 2 (adr n) := by
  have e0 : lo % 256 = (((n % 256).toNat : Nat) : Int) := by omega
  have e1 : hi % 256 = (((n / 256 % 256).toNat : Nat) : Int) := by omega
  unfold adr
  rw [e0, e1]
  exact R8.two (by omega) (by omega) rfl
end Go.Proofs.Ytimphjgjcnbmnaa
