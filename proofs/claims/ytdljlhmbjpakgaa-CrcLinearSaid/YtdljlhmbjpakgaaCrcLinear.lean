/-
  The walk of the law CrcLinear over the landed code, out of its callees' contracts: for whatever three slices of bytes it returns true, and nothing that was there has turned.
-/
import Derived.Test.YtdljlhmbjpakgaaCrcD
import Derived.Test.YtdljlhmbjpakgaaInv
import Derived.StillTailTactics
namespace Go.Proofs.Ytdljlhmbjpakgaa
open Go.RowKit

/-- The first j of three texts, put together. -/
def xL (a b c : List Nat) (j : Nat) : List Nat := xorL (xorL (a.take j) (b.take j)) (c.take j)
theorem xL_length (a b c : List Nat) (j : Nat) (ha : j ≤ a.length) (hb : j ≤ b.length) (hc : j ≤ c.length) : (xL a b c j).length = j := by
  unfold xL xorL
  simp only [List.length_zipWith, List.length_take]
  omega
theorem xL_succ (a b c : List Nat) (j x y z : Nat) (hx : a[j]? = some x) (hy : b[j]? = some y) (hz : c[j]? = some z) : xL a b c (j + 1) = xL a b c j ++ [x ^^^ y ^^^ z] := by
  have ha : j < a.length := (List.getElem?_eq_some_iff.1 hx).1
  have hb : j < b.length := (List.getElem?_eq_some_iff.1 hy).1
  have hc : j < c.length := (List.getElem?_eq_some_iff.1 hz).1
  unfold xL xorL
  rw [take_snoc hx, take_snoc hy, take_snoc hz]
  rw [List.zipWith_append (by simp; omega), List.zipWith_append (by simp; omega)]
  rfl
theorem xL_lt (a b c : List Nat) (j : Nat) (ha : ∀ x ∈ a, x < 256) (hb : ∀ x ∈ b, x < 256) (hc : ∀ x ∈ c, x < 256) : ∀ x ∈ xL a b c j, x < 256 :=
  xorL_lt _ _ (xorL_lt _ _ (fun x h => ha x (List.mem_of_mem_take h)) (fun x h => hb x (List.mem_of_mem_take h))) (fun x h => hc x (List.mem_of_mem_take h))
/-- And zeros behind it. -/
def xTo (a b c : List Nat) (n j : Nat) : List Nat := xL a b c j ++ List.replicate (n - j) 0
theorem xTo_succ (a b c : List Nat) (n j x y z : Nat) (hx : a[j]? = some x) (hy : b[j]? = some y) (hz : c[j]? = some z) (hj : j < n) : xTo a b c n (j + 1) = (xTo a b c n j).set j (x ^^^ y ^^^ z) := by
  have ha : j < a.length := (List.getElem?_eq_some_iff.1 hx).1
  have hb : j < b.length := (List.getElem?_eq_some_iff.1 hy).1
  have hc : j < c.length := (List.getElem?_eq_some_iff.1 hz).1
  have hl := xL_length a b c j (by omega) (by omega) (by omega)
  unfold xTo
  rw [xL_succ a b c j x y z hx hy hz, show n - j = (n - (j + 1)) + 1 by omega, List.replicate_succ, List.set_append_right _ _ (by omega), hl, Nat.sub_self, List.set_cons_zero]
  simp

/-- A slice of one value, newly made. -/
def Bld (X v : Value) (w : World) : Prop := ∃ g, v = .slice (some ⟨g, 0, none⟩) 1 1 ∧ w.cell? ⟨g, 0, none⟩ = some X
theorem Bld.below {X v : Value} {w w' : World} (h : Bld X v w) (hb : Below w.heap.size w w') : Bld X v w' := by
  obtain ⟨g, e, hc⟩ := h
  exact ⟨g, e, (hb.cell (World.block_lt_of_cell? w _ hc)).trans hc⟩

def D12 (X VA PA VB PB VC PC : Value) (j s1 s2 s3 : Nat) : Nat → Value → World → Prop
  | 0, v, _ => v = X
  | 1, v, w => Bld X v w
  | 2, v, _ => v = .int .u32 (s1 ^^^ s2 ^^^ s3 : Nat)
  | 3, v, _ => v = VA
  | 4, v, _ => v = .int .i64 (j : Int)
  | 5, v, _ => v = PA
  | 6, v, w => Bld PA v w
  | 7, v, _ => v = .int .u32 (s1 : Int)
  | 8, v, _ => v = VB
  | 9, v, _ => v = .int .i64 (j : Int)
  | 10, v, _ => v = PB
  | 11, v, w => Bld PB v w
  | 12, v, _ => v = .int .u32 (s2 : Int)
  | 13, v, _ => v = .int .u32 (s1 ^^^ s2 : Nat)
  | 14, v, _ => v = VC
  | 15, v, _ => v = .int .i64 (j : Int)
  | 16, v, _ => v = PC
  | 17, v, w => Bld PC v w
  | 18, v, _ => v = .int .u32 (s3 : Int)
  | 19, v, _ => v = .int .u32 (s1 ^^^ s2 ^^^ s3 : Nat)
  | 20, v, _ => v = .bool true
  | 21, v, _ => v = .bool true
  | _, _, _ => True
theorem D12_below (X VA PA VB PB VC PC : Value) (j s1 s2 s3 : Nat) : ∀ i v w w', D12 X VA PA VB PB VC PC j s1 s2 s3 i v w → Below w.heap.size w w' → D12 X VA PA VB PB VC PC j s1 s2 s3 i v w' := by
  intro i v w w' h hb
  match i, h with
  | 0, h => exact h
  | 1, h => exact Bld.below h hb
  | 2, h => exact h
  | 3, h => exact h
  | 4, h => exact h
  | 5, h => exact h
  | 6, h => exact Bld.below h hb
  | 7, h => exact h
  | 8, h => exact h
  | 9, h => exact h
  | 10, h => exact h
  | 11, h => exact Bld.below h hb
  | 12, h => exact h
  | 13, h => exact h
  | 14, h => exact h
  | 15, h => exact h
  | 16, h => exact h
  | 17, h => exact Bld.below h hb
  | 18, h => exact h
  | 19, h => exact h
  | 20, h => exact h
  | 21, h => exact h
  | _ + 22, _ => trivial

set_option maxRecDepth 100000 in
set_option maxHeartbeats 4000000 in
theorem CrcLinear_walk (A B C : Option Addr) (n ca m cb p cc : Nat) (a b c : List Nat) (w : World) (ha : R8 w A n a) (hb : R8 w B m b) (hc : R8 w C p c)
    (hn : n ≤ 9223372036854775807) (hm : m ≤ 9223372036854775807) (hp : p ≤ 9223372036854775807) (hca : n ≤ ca) (hcb : m ≤ cb) (hcc : p ≤ cc) (hna : A = none → ca = 0) (hnb : B = none → cb = 0) (hnc : C = none → cc = 0) :
    Calls Try.prog 5 #[.slice A n ca, .slice B m cb, .slice C p cc] w (Gives (.bool true) w) := by
  obtain ⟨i0, ti, tz0, tz1, tz2⟩ := info_parts info_u8
  have HA := Lib.hid ha
  have HB := Lib.hid hb
  have HC := Lib.hid hc
  clear ha hb hc
  obtain ⟨k, hk, hkn, hkm, hkp⟩ : ∃ k : Nat, (∀ w, (Builtin.min_ #[3, 3, 3] 3 #[.int .i64 (n : Int), .int .i64 (m : Int), .int .i64 (p : Int)]).run Try.prog w = .ok (.int .i64 (k : Int)) w) ∧ k ≤ n ∧ k ≤ m ∧ k ≤ p := by
    refine ⟨min (min n m) p, fun w => ?_, by omega, by omega, by omega⟩
    rw [run_min_int3]
    have e : (if (p : Int) < (if (m : Int) < (n : Int) then (m : Int) else (n : Int)) then (p : Int) else (if (m : Int) < (n : Int) then (m : Int) else (n : Int))) = ((min (min n m) p : Nat) : Int) := by
      split <;> split <;> omega
    rw [e]
  go_enter Try.func5, Try.ntmps5
  go_wp2_with fail
  refine (awake2_any _).mono ?_
  rintro e w1 ⟨rfl, h1⟩
  have B1 := Lib.hid h1
  clear h1
  have HA1 := Lib.hid (HA.out.below B1.out)
  have HB1 := Lib.hid (HB.out.below B1.out)
  have HC1 := Lib.hid (HC.out.below B1.out)
  by_cases hbig : 1000 < k
  · go_wp2
    go_ret
    exact ⟨rfl, B1.out⟩
  · go_wp2_with (refine wpList_make_full _ rfl _ _ _ rfl w1.heap.size 5 i0 _ 1 Try.underlying22 ti tz0 tz1 .i64 .i64 k k k rfl rfl rfl rfl ?c1 ?c2 ?c3 ?_)
    case c1 => rw [tz2]; omega
    case c2 => unfold maxLen; omega
    case c3 => omega
    intro w2 hown hg
    clear hk
    have HO := Lib.hid (show w2.ownsRow w1.heap.size 5 1 (.slice (some ⟨w1.heap.size, 0, none⟩) k k) k (U8 (xTo a b c k 0)) by
      rw [toList_madeCells_one] at hown
      simpa [xTo, xL, xorL, U8] using hown)
    have D2 := Lib.hid (show Below w1.heap.size w1 w2 from (Below.refl _ _).grown hg (by simp) (by simp))
    clear hown hg
    go_wp2
    go_loopw [25] (fun i wr => ∃ j : Nat, j ≤ k ∧ i = .int .i64 j ∧ Hid (wr.ownsRow w1.heap.size 5 1 (.slice (some ⟨w1.heap.size, 0, none⟩) k k) k (U8 (xTo a b c k j))) ∧ Hid (Below w1.heap.size w1 wr)) (fun i _ => k - (intOf i).toNat)
    case atStart => exact ⟨0, Nat.zero_le _, rfl, HO, D2⟩
    case round =>
      obtain ⟨j, hj, rfl, HOr, HDr⟩ := hrel
      by_cases hlt : j < k
      · obtain ⟨b1, o1, x, rfl, _, HX, hx, hcx⟩ := (HA1.out.below HDr.out).at_ (show j < n by omega)
        obtain ⟨b2, o2, y, rfl, _, HY, hy, hcy⟩ := (HB1.out.below HDr.out).at_ (show j < m by omega)
        obtain ⟨b3, o3, z, rfl, _, HZ, hz, hcz⟩ := (HC1.out.below HDr.out).at_ (show j < p by omega)
        obtain ⟨g, hg0, hg1, hg2, hcell, hfz, hst⟩ := own_at HOr.out hlt
        injection hg0 with hg0
        injection hg0 with hg0
        subst hg0
        obtain ⟨u, hu⟩ : ∃ u, wr.cell? ⟨w1.heap.size, j, none⟩ = some u := by
          have hl : j < (U8 (xTo a b c k j)).length := by have := HOr.out.1; omega
          exact ⟨_, by rw [hcell, List.getElem?_eq_getElem hl]⟩
        have HO2 := Lib.hid (show ((wr.setCell ⟨w1.heap.size, j, none⟩ (.int .u8 (bits .xor .u8 (bits .xor .u8 (x : Int) (y : Int)) (z : Int)))).drew).ownsRow w1.heap.size 5 1 (.slice (some ⟨w1.heap.size, 0, none⟩) k k) k (U8 (xTo a b c k (j + 1))) from by
          rw [xTo_succ a b c k j x y z HX.out HY.out HZ.out hlt, U8_set, ← u8_xor_nat (x ^^^ y) z (xor_lt8 _ _ hx hy) hz, ← u8_xor_nat x y hx hy]
          exact hst 0 _)
        have HD2 := Lib.hid ((HDr.out.setCell (p := ⟨w1.heap.size, j, none⟩) (Nat.le_refl _) (.int .u8 (bits .xor .u8 (bits .xor .u8 (x : Int) (y : Int)) (z : Int)))).drew)
        clear hcell hst
        have q0 : (0 : Int) ≤ (j : Int) := by omega
        have q1 : (j : Int) < (n : Int) := by omega
        have q2 : (j : Int) < (m : Int) := by omega
        have q3 : (j : Int) < (p : Int) := by omega
        have q4 : (j : Int) < (k : Int) := by omega
        go_wp2_with fail
        refine wp_region_still_tail 16 (by kernel_rfl) (by kernel_rfl) ?_
        simp only [List.take_succ_cons, List.take_zero, List.drop_succ_cons, List.drop_zero]
        repeat still_step
        refine wpStill_nil ?_
        change wpList _ _ _ _ _ wr.drew
        go_wp2
        go_roundw
        case rel => exact ⟨j + 1, by omega, by go_num, HO2, HD2⟩
        case measure => simp [intOf]; omega
      · obtain rfl : j = k := by omega
        have HX := Lib.hid (show R8 wr (some ⟨w1.heap.size, 0, none⟩) j (xL a b c j) by
          have := R8.own HOr.out (by
            intro x hx
            unfold xTo at hx
            rw [Nat.sub_self, List.replicate_zero, List.append_nil] at hx
            exact xL_lt a b c j HA.out.2 HB.out.2 HC.out.2 x hx)
          unfold xTo at this
          rwa [Nat.sub_self, List.replicate_zero, List.append_nil] at this)
        have HA2 := Lib.hid ((HA1.out.below HDr.out).take_ j hkn)
        have HB2 := Lib.hid ((HB1.out.below HDr.out).take_ j hkm)
        have HC2 := Lib.hid ((HC1.out.below HDr.out).take_ j hkp)
        have HS := Lib.hid (show sumL (xL a b c j) = sumL (a.take j) ^^^ sumL (b.take j) ^^^ sumL (c.take j) from
          sumL_three _ _ _ HA2.out.2 HB2.out.2 HC2.out.2 (by rw [HA2.out.len, HB2.out.len]) (by rw [HA2.out.len, HC2.out.len]))
        have q0 : (0 : Int) ≤ (j : Int) := by omega
        have q1 : (j : Int) ≤ (ca : Int) := by omega
        have q2 : (j : Int) ≤ (cb : Int) := by omega
        have q3 : (j : Int) ≤ (cc : Int) := by omega
        go_wp2_with fail
        refine wp_region_inv (by kernel_rfl) [some 46, some 47, some 48, some 49, some 50, some 51, some 52, some 53, some 54, some 55, some 56, some 57, some 58, some 59, some 60, some 61, some 62, some 63, some 64, some 65, some 66, some 6] (by kernel_rfl) (by kernel_rfl) (by kernel_rfl) (D12 (.slice (some ⟨w1.heap.size, 0, none⟩) j j) (.slice A n ca) (.slice A j ca) (.slice B m cb) (.slice B j cb) (.slice C p cc) (.slice C j cc) (j) (sumL (a.take j)) (sumL (b.take j)) (sumL (c.take j))) (D12_below (.slice (some ⟨w1.heap.size, 0, none⟩) j j) (.slice A n ca) (.slice A j ca) (.slice B m cb) (.slice B j cb) (.slice C p cc) (.slice C j cc) (j) (sumL (a.take j)) (sumL (b.take j)) (sumL (c.take j))) ?_ ?_
        · intro i o f w' ho hbw hdep K hK
          match i, ho, hdep, hK with
          | 0, ho, hdep, hK =>
            obtain rfl : { dst := some 46, op := Op.move (Operand.tmp 8), type := 22, pos := "outright.go:20", after := #[], guard := none } = o := Option.some.inj ho
            rw [if_pos (by rfl)]
            simp only [frFrom, Act.put, Nat.reduceAdd, List.setIfInBounds_toArray, List.set_cons_zero, List.set_cons_succ] at hK ⊢
            clear hdep ho
            go_simp
            exact hK.out _ _ rfl (Below.refl _ _)
          | 1, ho, hdep, hK =>
            obtain rfl : { dst := some 47, op := Op.buildSlice 35 1 #[(0, Operand.tmp 46)], type := 35, pos := "outright.go:20", after := #[{ on := 0, ground := Ground.data }], guard := none } = o := Option.some.inj ho
            have d0 : (f 0) = (.slice (some ⟨w1.heap.size, 0, none⟩) (j) (j)) := hdep ⟨0, .data⟩ (by simp) rfl
            rw [if_pos (by rfl)]
            simp only [frFrom, Act.put, Nat.reduceAdd, List.setIfInBounds_toArray, List.set_cons_zero, List.set_cons_succ, d0] at hK ⊢
            clear hdep ho d0
            go_simp
            exact hK.out _ _ ⟨_, rfl, by simp⟩ ((Below.refl _ _).alloc (Nat.le_refl _) _)
          | 2, ho, hdep, hK =>
            obtain rfl : { dst := some 48, op := Op.call { callee := Callee.value (Operand.func 7), args := #[Operand.tmp 47], argTypes := #[35] }, type := 23, pos := "outright.go:20", after := #[{ on := 1, ground := Ground.data }], guard := none } = o := Option.some.inj ho
            obtain ⟨g, d1, hcg⟩ : Bld (.slice (some ⟨w1.heap.size, 0, none⟩) (j) (j)) (f 1) w' := hdep ⟨1, .data⟩ (by simp) rfl
            rw [if_pos (by rfl)]
            simp only [frFrom, Act.put, Nat.reduceAdd, List.setIfInBounds_toArray, List.set_cons_zero, List.set_cons_succ, d1] at hK ⊢
            clear hdep ho d1
            go_simp
            refine (Sum_one g (some ⟨w1.heap.size, 0, none⟩) j j _ (xL a b c j) _ hcg (HX.out.below hbw) (by omega)).mono ?_
            rintro e w'' ⟨rfl, rfl⟩
            rw [HS.out]
            go_wp2_with fail
            exact hK.out _ _ rfl (Below.refl _ _)
          | 3, ho, hdep, hK =>
            obtain rfl : { dst := some 49, op := Op.move (Operand.tmp 0), type := 22, pos := "outright.go:20", after := #[], guard := none } = o := Option.some.inj ho
            rw [if_pos (by rfl)]
            simp only [frFrom, Act.put, Nat.reduceAdd, List.setIfInBounds_toArray, List.set_cons_zero, List.set_cons_succ] at hK ⊢
            clear hdep ho
            go_simp
            exact hK.out _ _ rfl (Below.refl _ _)
          | 4, ho, hdep, hK =>
            obtain rfl : { dst := some 50, op := Op.move (Operand.tmp 7), type := 3, pos := "outright.go:20", after := #[], guard := none } = o := Option.some.inj ho
            rw [if_pos (by rfl)]
            simp only [frFrom, Act.put, Nat.reduceAdd, List.setIfInBounds_toArray, List.set_cons_zero, List.set_cons_succ] at hK ⊢
            clear hdep ho
            go_simp
            exact hK.out _ _ rfl (Below.refl _ _)
          | 5, ho, hdep, hK =>
            obtain rfl : { dst := some 51, op := Op.slice 22 (Operand.tmp 49) none (some (Operand.tmp 50)) none, type := 22, pos := "outright.go:20", after := #[{ on := 3, ground := Ground.data }, { on := 4, ground := Ground.data }], guard := none } = o := Option.some.inj ho
            have d3 : (f 3) = (.slice A n ca) := hdep ⟨3, .data⟩ (by simp) rfl
            have d4 : (f 4) = .int .i64 ((j) : Int) := hdep ⟨4, .data⟩ (by simp) rfl
            rw [if_pos (by rfl)]
            simp only [frFrom, Act.put, Nat.reduceAdd, List.setIfInBounds_toArray, List.set_cons_zero, List.set_cons_succ, d3, d4] at hK ⊢
            clear hdep ho d3 d4
            rcases A with _ | ad
            · obtain rfl : ca = 0 := hna rfl
              obtain rfl : n = 0 := by omega
              obtain rfl : j = 0 := by omega
              go_simp
              exact hK.out _ _ rfl (Below.refl _ _)
            · go_simp
              exact hK.out _ _ rfl (Below.refl _ _)
          | 6, ho, hdep, hK =>
            obtain rfl : { dst := some 52, op := Op.buildSlice 35 1 #[(0, Operand.tmp 51)], type := 35, pos := "outright.go:20", after := #[{ on := 5, ground := Ground.data }], guard := none } = o := Option.some.inj ho
            have d5 : (f 5) = (.slice A (j) ca) := hdep ⟨5, .data⟩ (by simp) rfl
            rw [if_pos (by rfl)]
            simp only [frFrom, Act.put, Nat.reduceAdd, List.setIfInBounds_toArray, List.set_cons_zero, List.set_cons_succ, d5] at hK ⊢
            clear hdep ho d5
            go_simp
            exact hK.out _ _ ⟨_, rfl, by simp⟩ ((Below.refl _ _).alloc (Nat.le_refl _) _)
          | 7, ho, hdep, hK =>
            obtain rfl : { dst := some 53, op := Op.call { callee := Callee.value (Operand.func 7), args := #[Operand.tmp 52], argTypes := #[35] }, type := 23, pos := "outright.go:20", after := #[{ on := 6, ground := Ground.data }, { on := 2, ground := Ground.chain }], guard := none } = o := Option.some.inj ho
            obtain ⟨g, d6, hcg⟩ : Bld (.slice A (j) ca) (f 6) w' := hdep ⟨6, .data⟩ (by simp) rfl
            rw [if_pos (by rfl)]
            simp only [frFrom, Act.put, Nat.reduceAdd, List.setIfInBounds_toArray, List.set_cons_zero, List.set_cons_succ, d6] at hK ⊢
            clear hdep ho d6
            go_simp
            refine (Sum_one g A j ca _ (a.take j) _ hcg (HA2.out.below hbw) (by omega)).mono ?_
            rintro e w'' ⟨rfl, rfl⟩
            go_wp2_with fail
            exact hK.out _ _ rfl (Below.refl _ _)
          | 8, ho, hdep, hK =>
            obtain rfl : { dst := some 54, op := Op.move (Operand.tmp 1), type := 22, pos := "outright.go:20", after := #[], guard := none } = o := Option.some.inj ho
            rw [if_pos (by rfl)]
            simp only [frFrom, Act.put, Nat.reduceAdd, List.setIfInBounds_toArray, List.set_cons_zero, List.set_cons_succ] at hK ⊢
            clear hdep ho
            go_simp
            exact hK.out _ _ rfl (Below.refl _ _)
          | 9, ho, hdep, hK =>
            obtain rfl : { dst := some 55, op := Op.move (Operand.tmp 7), type := 3, pos := "outright.go:20", after := #[], guard := none } = o := Option.some.inj ho
            rw [if_pos (by rfl)]
            simp only [frFrom, Act.put, Nat.reduceAdd, List.setIfInBounds_toArray, List.set_cons_zero, List.set_cons_succ] at hK ⊢
            clear hdep ho
            go_simp
            exact hK.out _ _ rfl (Below.refl _ _)
          | 10, ho, hdep, hK =>
            obtain rfl : { dst := some 56, op := Op.slice 22 (Operand.tmp 54) none (some (Operand.tmp 55)) none, type := 22, pos := "outright.go:20", after := #[{ on := 8, ground := Ground.data }, { on := 9, ground := Ground.data }], guard := none } = o := Option.some.inj ho
            have d8 : (f 8) = (.slice B m cb) := hdep ⟨8, .data⟩ (by simp) rfl
            have d9 : (f 9) = .int .i64 ((j) : Int) := hdep ⟨9, .data⟩ (by simp) rfl
            rw [if_pos (by rfl)]
            simp only [frFrom, Act.put, Nat.reduceAdd, List.setIfInBounds_toArray, List.set_cons_zero, List.set_cons_succ, d8, d9] at hK ⊢
            clear hdep ho d8 d9
            rcases B with _ | ad
            · obtain rfl : cb = 0 := hnb rfl
              obtain rfl : m = 0 := by omega
              obtain rfl : j = 0 := by omega
              go_simp
              exact hK.out _ _ rfl (Below.refl _ _)
            · go_simp
              exact hK.out _ _ rfl (Below.refl _ _)
          | 11, ho, hdep, hK =>
            obtain rfl : { dst := some 57, op := Op.buildSlice 35 1 #[(0, Operand.tmp 56)], type := 35, pos := "outright.go:20", after := #[{ on := 10, ground := Ground.data }], guard := none } = o := Option.some.inj ho
            have d10 : (f 10) = (.slice B (j) cb) := hdep ⟨10, .data⟩ (by simp) rfl
            rw [if_pos (by rfl)]
            simp only [frFrom, Act.put, Nat.reduceAdd, List.setIfInBounds_toArray, List.set_cons_zero, List.set_cons_succ, d10] at hK ⊢
            clear hdep ho d10
            go_simp
            exact hK.out _ _ ⟨_, rfl, by simp⟩ ((Below.refl _ _).alloc (Nat.le_refl _) _)
          | 12, ho, hdep, hK =>
            obtain rfl : { dst := some 58, op := Op.call { callee := Callee.value (Operand.func 7), args := #[Operand.tmp 57], argTypes := #[35] }, type := 23, pos := "outright.go:20", after := #[{ on := 11, ground := Ground.data }, { on := 7, ground := Ground.chain }], guard := none } = o := Option.some.inj ho
            obtain ⟨g, d11, hcg⟩ : Bld (.slice B (j) cb) (f 11) w' := hdep ⟨11, .data⟩ (by simp) rfl
            rw [if_pos (by rfl)]
            simp only [frFrom, Act.put, Nat.reduceAdd, List.setIfInBounds_toArray, List.set_cons_zero, List.set_cons_succ, d11] at hK ⊢
            clear hdep ho d11
            go_simp
            refine (Sum_one g B j cb _ (b.take j) _ hcg (HB2.out.below hbw) (by omega)).mono ?_
            rintro e w'' ⟨rfl, rfl⟩
            go_wp2_with fail
            exact hK.out _ _ rfl (Below.refl _ _)
          | 13, ho, hdep, hK =>
            obtain rfl : { dst := some 59, op := Op.binOp BinOp.xor 23 (Operand.tmp 53) (Operand.tmp 58) 23, type := 23, pos := "outright.go:20", after := #[{ on := 7, ground := Ground.data }, { on := 12, ground := Ground.data }], guard := none } = o := Option.some.inj ho
            have d7 : (f 7) = .int .u32 ((sumL (a.take j)) : Int) := hdep ⟨7, .data⟩ (by simp) rfl
            have d12 : (f 12) = .int .u32 ((sumL (b.take j)) : Int) := hdep ⟨12, .data⟩ (by simp) rfl
            rw [if_pos (by rfl)]
            simp only [frFrom, Act.put, Nat.reduceAdd, List.setIfInBounds_toArray, List.set_cons_zero, List.set_cons_succ, d7, d12] at hK ⊢
            clear hdep ho d7 d12
            go_simp
            exact hK.out _ _ (by rw [u32_xor_nat _ _ (sumL_lt _) (sumL_lt _)]; rfl) (Below.refl _ _)
          | 14, ho, hdep, hK =>
            obtain rfl : { dst := some 60, op := Op.move (Operand.tmp 2), type := 22, pos := "outright.go:20", after := #[], guard := none } = o := Option.some.inj ho
            rw [if_pos (by rfl)]
            simp only [frFrom, Act.put, Nat.reduceAdd, List.setIfInBounds_toArray, List.set_cons_zero, List.set_cons_succ] at hK ⊢
            clear hdep ho
            go_simp
            exact hK.out _ _ rfl (Below.refl _ _)
          | 15, ho, hdep, hK =>
            obtain rfl : { dst := some 61, op := Op.move (Operand.tmp 7), type := 3, pos := "outright.go:20", after := #[], guard := none } = o := Option.some.inj ho
            rw [if_pos (by rfl)]
            simp only [frFrom, Act.put, Nat.reduceAdd, List.setIfInBounds_toArray, List.set_cons_zero, List.set_cons_succ] at hK ⊢
            clear hdep ho
            go_simp
            exact hK.out _ _ rfl (Below.refl _ _)
          | 16, ho, hdep, hK =>
            obtain rfl : { dst := some 62, op := Op.slice 22 (Operand.tmp 60) none (some (Operand.tmp 61)) none, type := 22, pos := "outright.go:20", after := #[{ on := 14, ground := Ground.data }, { on := 15, ground := Ground.data }], guard := none } = o := Option.some.inj ho
            have d14 : (f 14) = (.slice C p cc) := hdep ⟨14, .data⟩ (by simp) rfl
            have d15 : (f 15) = .int .i64 ((j) : Int) := hdep ⟨15, .data⟩ (by simp) rfl
            rw [if_pos (by rfl)]
            simp only [frFrom, Act.put, Nat.reduceAdd, List.setIfInBounds_toArray, List.set_cons_zero, List.set_cons_succ, d14, d15] at hK ⊢
            clear hdep ho d14 d15
            rcases C with _ | ad
            · obtain rfl : cc = 0 := hnc rfl
              obtain rfl : p = 0 := by omega
              obtain rfl : j = 0 := by omega
              go_simp
              exact hK.out _ _ rfl (Below.refl _ _)
            · go_simp
              exact hK.out _ _ rfl (Below.refl _ _)
          | 17, ho, hdep, hK =>
            obtain rfl : { dst := some 63, op := Op.buildSlice 35 1 #[(0, Operand.tmp 62)], type := 35, pos := "outright.go:20", after := #[{ on := 16, ground := Ground.data }], guard := none } = o := Option.some.inj ho
            have d16 : (f 16) = (.slice C (j) cc) := hdep ⟨16, .data⟩ (by simp) rfl
            rw [if_pos (by rfl)]
            simp only [frFrom, Act.put, Nat.reduceAdd, List.setIfInBounds_toArray, List.set_cons_zero, List.set_cons_succ, d16] at hK ⊢
            clear hdep ho d16
            go_simp
            exact hK.out _ _ ⟨_, rfl, by simp⟩ ((Below.refl _ _).alloc (Nat.le_refl _) _)
          | 18, ho, hdep, hK =>
            obtain rfl : { dst := some 64, op := Op.call { callee := Callee.value (Operand.func 7), args := #[Operand.tmp 63], argTypes := #[35] }, type := 23, pos := "outright.go:20", after := #[{ on := 17, ground := Ground.data }, { on := 12, ground := Ground.chain }], guard := none } = o := Option.some.inj ho
            obtain ⟨g, d17, hcg⟩ : Bld (.slice C (j) cc) (f 17) w' := hdep ⟨17, .data⟩ (by simp) rfl
            rw [if_pos (by rfl)]
            simp only [frFrom, Act.put, Nat.reduceAdd, List.setIfInBounds_toArray, List.set_cons_zero, List.set_cons_succ, d17] at hK ⊢
            clear hdep ho d17
            go_simp
            refine (Sum_one g C j cc _ (c.take j) _ hcg (HC2.out.below hbw) (by omega)).mono ?_
            rintro e w'' ⟨rfl, rfl⟩
            go_wp2_with fail
            exact hK.out _ _ rfl (Below.refl _ _)
          | 19, ho, hdep, hK =>
            obtain rfl : { dst := some 65, op := Op.binOp BinOp.xor 23 (Operand.tmp 59) (Operand.tmp 64) 23, type := 23, pos := "outright.go:20", after := #[{ on := 13, ground := Ground.data }, { on := 18, ground := Ground.data }], guard := none } = o := Option.some.inj ho
            have d13 : (f 13) = .int .u32 ((sumL (a.take j)) ^^^ (sumL (b.take j)) : Nat) := hdep ⟨13, .data⟩ (by simp) rfl
            have d18 : (f 18) = .int .u32 ((sumL (c.take j)) : Int) := hdep ⟨18, .data⟩ (by simp) rfl
            rw [if_pos (by rfl)]
            simp only [frFrom, Act.put, Nat.reduceAdd, List.setIfInBounds_toArray, List.set_cons_zero, List.set_cons_succ, d13, d18] at hK ⊢
            clear hdep ho d13 d18
            go_simp
            exact hK.out _ _ (by rw [u32_xor_nat _ _ (xor32 (sumL_lt _) (sumL_lt _)) (sumL_lt _)]; rfl) (Below.refl _ _)
          | 20, ho, hdep, hK =>
            obtain rfl : { dst := some 66, op := Op.binOp BinOp.eql 23 (Operand.tmp 48) (Operand.tmp 65) 23, type := 4, pos := "outright.go:20", after := #[{ on := 2, ground := Ground.data }, { on := 19, ground := Ground.data }], guard := none } = o := Option.some.inj ho
            have d2 : (f 2) = .int .u32 ((sumL (a.take j)) ^^^ (sumL (b.take j)) ^^^ (sumL (c.take j)) : Nat) := hdep ⟨2, .data⟩ (by simp) rfl
            have d19 : (f 19) = .int .u32 ((sumL (a.take j)) ^^^ (sumL (b.take j)) ^^^ (sumL (c.take j)) : Nat) := hdep ⟨19, .data⟩ (by simp) rfl
            rw [if_pos (by rfl)]
            simp only [frFrom, Act.put, Nat.reduceAdd, List.setIfInBounds_toArray, List.set_cons_zero, List.set_cons_succ, d2, d19] at hK ⊢
            clear hdep ho d2 d19
            go_simp
            exact hK.out _ _ rfl (Below.refl _ _)
          | 21, ho, hdep, hK =>
            obtain rfl : { dst := some 6, op := Op.assign (Operand.tmp 66), type := 4, pos := "outright.go:20", after := #[{ on := 20, ground := Ground.data }, { on := 18, ground := Ground.chain }, { on := 0, ground := Ground.phase }, { on := 1, ground := Ground.phase }, { on := 2, ground := Ground.phase }, { on := 3, ground := Ground.phase }, { on := 4, ground := Ground.phase }, { on := 5, ground := Ground.phase }, { on := 6, ground := Ground.phase }, { on := 7, ground := Ground.phase }, { on := 8, ground := Ground.phase }, { on := 9, ground := Ground.phase }, { on := 10, ground := Ground.phase }, { on := 11, ground := Ground.phase }, { on := 12, ground := Ground.phase }, { on := 13, ground := Ground.phase }, { on := 14, ground := Ground.phase }, { on := 15, ground := Ground.phase }, { on := 16, ground := Ground.phase }, { on := 17, ground := Ground.phase }, { on := 18, ground := Ground.phase }, { on := 19, ground := Ground.phase }, { on := 20, ground := Ground.phase }], guard := none } = o := Option.some.inj ho
            have d20 : (f 20) = .bool true := hdep ⟨20, .data⟩ (by simp) rfl
            rw [if_pos (by rfl)]
            simp only [frFrom, Act.put, Nat.reduceAdd, List.setIfInBounds_toArray, List.set_cons_zero, List.set_cons_succ, d20] at hK ⊢
            clear hdep ho d20
            go_simp
            exact hK.out _ _ rfl (Below.refl _ _)
          | _ + 22, ho, _, _ => simp at ho
        · intro f w' hbw hall
          simp only [frFrom, Act.put, List.setIfInBounds_toArray, List.set_cons_zero, List.set_cons_succ]
          have d21 : f 21 = .bool true := hall 21 (by simp)
          rw [d21]
          clear d21 hall
          go_wp2
          go_ret
          exact ⟨rfl, below_step B1.out (below_step HDr.out hbw)⟩
end Go.Proofs.Ytdljlhmbjpakgaa
