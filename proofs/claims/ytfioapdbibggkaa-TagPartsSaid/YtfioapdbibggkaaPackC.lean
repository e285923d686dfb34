/-
  Contracts of pack.appendField and pack.number, over the landed code.
-/
import Derived.Test.YtfioapdbibggkaaPackB
import Derived.Laws.AppendOwnNone
namespace Go.Proofs.Ytfioapdbibggkaa
open Go.RowKit

/-- It returns a slice of the bytes l, owned from base on, and nothing below base has turned. -/
def Appends (base : Nat) (l : List Nat) (k : Nat) (w : World) (e : Ending) (w' : World) : Prop :=
  ∃ A c, e = .returned (.slice A k c) ∧ w'.ownsRow base 5 1 (.slice A k c) k (U8 l) ∧ Below base w w'

set_option maxHeartbeats 400000 in
theorem appendField_any (v : Value) (m : Nat) (l : List Nat) (n s base : Nat) (w : World) (hown : w.ownsRow base 5 1 v m (U8 l)) (hbase : base ≤ w.heap.size) (hs : s ≤ 8) (_hn : n ≤ 4611686018427387904) (hm : m ≤ 1099511627776) :
    Calls Try.prog 29 #[v, .int .i64 (n : Int), .int .i64 (s : Int)] w (Appends base (l ++ leN n s) (m + s) w) := by
  obtain ⟨i0, ti, tz0, tz1, tz2⟩ := info_parts info_u8
  have HO0 := Lib.hid hown
  clear hown
  go_enter Try.func29, Try.ntmps29
  go_wp2
  go_loopw [0, 9] (fun u i wr => ∃ k : Nat, k ≤ s ∧ i = .int .i64 k ∧ Hid (wr.ownsRow base 5 1 u (m + k) (U8 (l ++ leN n k))) ∧ Hid (Below base w wr)) (fun _ i _ => s - (intOf i).toNat)
  case atStart => exact ⟨0, Nat.zero_le _, rfl, by rw [leN_zero, List.append_nil]; exact HO0, Below.refl _ _⟩
  case round =>
    obtain ⟨k, hk, rfl, HO, HB⟩ := hrel
    by_cases hlt : k < s
    · have hz : base ≤ wr.heap.size := Nat.le_trans hbase HB.out.size
      go_wp2_with (at_builtin; refine wpList_append_own _ rfl (.tmp 12) (.tmp 18) _ rfl base 5 i0 _ 1 1 Try.underlying24 ti tz0 tz1 tz2 rfl (by decide) _ _ _ rfl (HO.out.alloc _) ⟨wr.heap.size, 0, none⟩ 1 1 [_] rfl rfl (one_new _ _ _) ?c1 ?c2 ?c3 ?c4 ?_)
      case c1 => intro u hu; simp at hu; subst hu; rfl
      case c2 => unfold maxLen; omega
      case c3 => omega
      case c4 => simp; omega
      · intro v' w2 hown' hgrow _
        have HO2 := Lib.hid (show w2.ownsRow base 5 1 v' (m + (k + 1)) (U8 (l ++ leN n (k + 1))) by
          rw [leN_succ, ← List.append_assoc, U8_append _ [_]]
          have e : ((n / 2 ^ (8 * k) % 256 : Nat) : Int) = (n : Int) / 2 ^ (k * 8) % 256 := by rw [Nat.mul_comm 8 k]; simp
          simp only [U8, List.map_cons, List.map_nil] at hown' ⊢
          rw [e]
          exact hown')
        have HB2 := Lib.hid ((HB.out.alloc hz _).grown hgrow (by simp; omega) (fun j hj => (HO.out.lt j hj).1))
        clear hown' hgrow
        go_wp2
        go_roundw
        case rel => exact ⟨k + 1, by omega, by go_num, HO2, HB2⟩
        case measure => simp [intOf]; omega
    · obtain rfl : k = s := by omega
      obtain ⟨A1, c1, rfl⟩ := own_form HO.out
      go_wp2
      go_ret
      exact ⟨A1, c1, rfl, HO.out, HB.out⟩

theorem or_field (q v k : Nat) (hq : q < 2 ^ (8 * k)) (hv : v < 256) (hk : k < 8) : bits .or .u64 (q : Int) ((v * 2 ^ (8 * k) : Nat) : Int) = ((q + v * 2 ^ (8 * k) : Nat) : Int) := by
  have hp := pow8_le k (by omega)
  have h1 : v * 2 ^ (8 * k) ≤ 255 * 72057594037927936 := Nat.mul_le_mul (by omega) hp
  rw [u64_or_nat _ _ (by omega) (by omega), Nat.or_comm, Nat.mul_comm, ← Nat.two_pow_add_eq_or_of_lt hq]
  congr 1
  omega

theorem wrap_field (x k : Nat) (hx : x < 256) (hk : k < 8) : IntKind.u64.wrap ((x : Int) * 2 ^ (k * 8)) = ((x * 2 ^ (8 * k) : Nat) : Int) := by
  have hp := pow8_le k (by omega)
  have h1 : x * 2 ^ (8 * k) ≤ 255 * 72057594037927936 := Nat.mul_le_mul (by omega) hp
  have e : (x : Int) * 2 ^ (k * 8) = ((x * 2 ^ (8 * k) : Nat) : Int) := by rw [Nat.mul_comm k 8]; simp
  rw [e]
  generalize x * 2 ^ (8 * k) = y at *
  simp [IntKind.wrap, IntKind.bits, IntKind.signed]
  omega

set_option maxHeartbeats 400000 in
theorem number_any (A : Option Addr) (n c : Nat) (l : List Nat) (w : World) (hr : R8 w A n l) (hn : n ≤ 8) :
    Calls Try.prog 32 #[.slice A n c] w fun e w' => e = .returned (.int .u64 (numN l : Int)) ∧ w = w' := by
  have hlen := Lib.hid hr.len
  go_enter Try.func32, Try.ntmps32
  go_wp2
  go_loop [3, 8] (fun t i => ∃ k : Nat, k ≤ n ∧ i = .int .i64 k ∧ t = .int .u64 (numN (l.take k) : Int)) (fun _ i => n - (intOf i).toNat)
  case atStart => exact ⟨0, Nat.zero_le _, rfl, rfl⟩
  case round =>
    obtain ⟨k, hk, rfl, rfl⟩ := hrel
    by_cases hlt : k < n
    · obtain ⟨b, off, x, rfl, hb, HX, hx, hc⟩ := hr.at_ hlt
      have hl : (l.take k).length = k := by have := hlen.out; rw [List.length_take]; omega
      have hq : numN (l.take k) < 2 ^ (8 * k) := by
        have := numN_lt (l.take k) fun y hy => hr.2 y (List.mem_of_mem_take hy)
        rwa [hl] at this
      have HS := Lib.hid (show numN (l.take (k + 1)) = numN (l.take k) + x * 2 ^ (8 * k) by rw [take_snoc HX.out, numN_snoc, hl])
      have HF := Lib.hid (or_field _ x k hq hx (by omega))
      have HW := Lib.hid (wrap_field x k hx (by omega))
      clear hl
      generalize numN (l.take k) = q at *
      go_wp2
      go_round
      case rel =>
        exact ⟨k + 1, by omega, by go_num, by rw [HW.out, HF.out, HS.out]⟩
      case measure => simp [intOf]; omega
    · have HE := Lib.hid (show l.take k = l by rw [List.take_of_length_le (by have := hlen.out; omega)])
      go_wp2
      go_ret
      exact ⟨by rw [HE.out]; rfl, rfl⟩
end Go.Proofs.Ytfioapdbibggkaa
