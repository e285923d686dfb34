/-
  The walk of the law ChunkAll over the landed code, out of its callees' contracts: for whatever raw bytes and size it returns true, and nothing that was there has turned.
-/
import Derived.Test.YtljjbphmglbhnaaChunkF
import Derived.Test.YtljjbphmglbhnaaChunkG
namespace Go.Proofs.Ytljjbphmglbhnaa
open Go.RowKit

/-- A slice of slices, at its k-th. -/
theorem rows_at {w : World} {A : Option Addr} {N B k : Nat} {vs : List Value} {ps : List (List Nat)} {p : List Nat} (hrd : Rd w A N vs) (hrows : Rows w B vs ps) (hk : ps[k]? = some p) (hN : k < N) (hp : ∀ x ∈ p, x < 256) :
    ∃ b off Ak ck, A = some ⟨b, off, none⟩ ∧ b < w.heap.size ∧ w.cell? ⟨b, off + k, none⟩ = some (.slice Ak p.length ck) ∧ Hid (R8 w Ak p.length p) ∧ Hid (Ak = none → ck = 0) ∧ p.length ≤ ck := by
  obtain ⟨b, off, hA, hb, hc⟩ := hrd.2 (by omega)
  obtain ⟨v, hv, hown⟩ := hrows.2 k p hk
  obtain ⟨Ak, ck, rfl⟩ := own_form hown
  exact ⟨b, off, Ak, ck, hA, hb, (hc k hN).trans hv, R8.own hown hp, own_nil hown, own_cap hown⟩
theorem pieces_get (len : Nat) (l : List Nat) (N k : Nat) (hk : k < N) : (piecesL len l N)[k]? = some (pieceL len l k) := by
  unfold piecesL
  rw [List.getElem?_map, List.getElem?_range hk]
  rfl
theorem take_piece (len : Nat) (l : List Nat) (k jn : Nat) (h : jn = k * len) : l.take jn ++ pieceL len l k = l.take (jn + len) := by
  unfold pieceL
  rw [← h, List.take_add]

set_option maxHeartbeats 1000000 in
theorem ChunkAll_bad (A : Option Addr) (n c : Nat) (x : Int) (w : World) (hn : n ≤ 200) (hx0 : -9223372036854775808 ≤ x) (hx1 : x ≤ 9223372036854775807)
    (ht : x < 1 ∨ 512 < x ∨ (1 ≤ x ∧ x ≤ 512 ∧ (n : Int) % (x + 2) ≠ 0))
    (hA : ∀ w', Calls Try.prog 13 #[.slice A n c, .int .i64 x] w' (Ret3 [] 0 2 w'))
    (hRA : ∀ w', Calls Try.prog 14 #[.slice A n c, .int .i64 x] w' (Ret3 [] 0 2 w'))
    (hSp : ∀ w', Calls Try.prog 15 #[.slice A n c, .int .i64 x] w' fun e w'' => e = .returned (.tuple #[.slice none 0 0, .int .i64 2]) ∧ w' = w'') :
    Calls Try.prog 4 #[.slice A n c, .int .i64 x] w (Gives (.bool true) w) := by
  rcases ht with h | h | ⟨h1, h2, h3⟩
  · have d1 : decide (x < 1) = true := decide_eq_true h
    go_enter Try.func4, Try.ntmps4
    go_wp2_with fail
    refine (awake6_any _).mono ?_
    rintro e w1 ⟨rfl, hb1⟩
    have HB1 := Lib.hid hb1
    clear hb1
    go_wp2_with fail
    refine (hA _).mono ?_
    rintro e w2 hM
    obtain ⟨A2, c2, rfl, R2, _, B2⟩ := hM.at_ (n := 0) rfl
    have HB2 := Lib.hid (below_step HB1.out B2.out)
    clear hM hA
    go_wp2_with fail
    refine (hRA _).mono ?_
    rintro e w3 hM
    obtain ⟨A3, c3, rfl, R3, _, B3⟩ := hM.at_ (n := 0) rfl
    have HB3 := Lib.hid (below_step HB2.out B3.out)
    have R23 := Lib.hid (R2.out.below B3.out)
    clear hM hRA
    go_wp2_with fail
    refine (Same_any _ _ _ _ _ _ [] [] _ R23.out R3.out (by omega) (by omega)).mono ?_
    rintro e w4 ⟨rfl, q, rfl⟩
    rw [decide_eq_true rfl]
    have HB4 := Lib.hid (below_drewN HB3.out q)
    generalize w3.drewN q = w4 at *
    go_wp2_with (go_at_call 15; refine (hSp _).mono ?_; rintro e w' ⟨rfl, rfl⟩)
    go_ret
    exact ⟨rfl, HB4.out⟩
  · have d1 : decide (x < 1) = false := decide_eq_false (by omega)
    have d2 : decide (512 < x) = true := decide_eq_true h
    go_enter Try.func4, Try.ntmps4
    go_wp2_with fail
    refine (awake6_any _).mono ?_
    rintro e w1 ⟨rfl, hb1⟩
    have HB1 := Lib.hid hb1
    clear hb1
    go_wp2_with fail
    refine (hA _).mono ?_
    rintro e w2 hM
    obtain ⟨A2, c2, rfl, R2, _, B2⟩ := hM.at_ (n := 0) rfl
    have HB2 := Lib.hid (below_step HB1.out B2.out)
    clear hM hA
    go_wp2_with fail
    refine (hRA _).mono ?_
    rintro e w3 hM
    obtain ⟨A3, c3, rfl, R3, _, B3⟩ := hM.at_ (n := 0) rfl
    have HB3 := Lib.hid (below_step HB2.out B3.out)
    have R23 := Lib.hid (R2.out.below B3.out)
    clear hM hRA
    go_wp2_with fail
    refine (Same_any _ _ _ _ _ _ [] [] _ R23.out R3.out (by omega) (by omega)).mono ?_
    rintro e w4 ⟨rfl, q, rfl⟩
    rw [decide_eq_true rfl]
    have HB4 := Lib.hid (below_drewN HB3.out q)
    generalize w3.drewN q = w4 at *
    go_wp2_with (go_at_call 15; refine (hSp _).mono ?_; rintro e w' ⟨rfl, rfl⟩)
    go_ret
    exact ⟨rfl, HB4.out⟩
  · have d1 : decide (x < 1) = false := decide_eq_false (by omega)
    have d2 : decide (512 < x) = false := decide_eq_false (by omega)
    have d3 : (((n : Int) % (x + 2)) != 0) = true := by simpa using h3
    have hne : x + 2 ≠ 0 := by omega
    clear h3
    go_enter Try.func4, Try.ntmps4
    go_wp2_with fail
    refine (awake6_any _).mono ?_
    rintro e w1 ⟨rfl, hb1⟩
    have HB1 := Lib.hid hb1
    clear hb1
    go_wp2_with fail
    refine (hA _).mono ?_
    rintro e w2 hM
    obtain ⟨A2, c2, rfl, R2, _, B2⟩ := hM.at_ (n := 0) rfl
    have HB2 := Lib.hid (below_step HB1.out B2.out)
    clear hM hA
    go_wp2_with fail
    refine (hRA _).mono ?_
    rintro e w3 hM
    obtain ⟨A3, c3, rfl, R3, _, B3⟩ := hM.at_ (n := 0) rfl
    have HB3 := Lib.hid (below_step HB2.out B3.out)
    have R23 := Lib.hid (R2.out.below B3.out)
    clear hM hRA
    go_wp2_with fail
    refine (Same_any _ _ _ _ _ _ [] [] _ R23.out R3.out (by omega) (by omega)).mono ?_
    rintro e w4 ⟨rfl, q, rfl⟩
    rw [decide_eq_true rfl]
    have HB4 := Lib.hid (below_drewN HB3.out q)
    generalize w3.drewN q = w4 at *
    go_wp2_with (go_at_call 15; refine (hSp _).mono ?_; rintro e w' ⟨rfl, rfl⟩)
    go_ret
    exact ⟨rfl, HB4.out⟩

set_option maxHeartbeats 1000000 in
theorem ChunkAll_good (A : Option Addr) (n c s N : Nat) (l : List Nat) (w : World) (hr : R8 w A n l) (hc : n ≤ c) (hs0 : 1 ≤ s) (hs1 : s ≤ 512) (hn : n = N * (s + 2)) (hn2 : n ≤ 200) :
    Calls Try.prog 4 #[.slice A n c, .int .i64 (s : Int)] w (Gives (.bool true) w) := by
  obtain ⟨i0, ti, tz0, tz1, tz2⟩ := info_parts info_u8
  have hA := fun w' (h : R8 w' A n l) => All_yes A n c s N l w' h hc hs0 hs1 hn (by omega)
  have hRA := fun w' (h : R8 w' A n l) => RefAll_yes A n c s N l w' h hc hs0 hs1 hn (by omega)
  have hSp := fun w' (h : R8 w' A n l) => Split_yes A n c s N l w' h hc hs0 hs1 hn (by omega)
  have HR := Lib.hid hr
  have HN := Lib.hid hn
  have HL := Lib.hid hr.len
  have hV : (allL (piecesL (s + 2) l N)).1.length ≤ 200 := by
    unfold allL
    split
    · simp
    · have h := (joinD_facts (piecesL (s + 2) l N) (s + 2) (piecesL_facts (s + 2) l N N (by rw [hr.len, hn]) (Nat.le_refl _) hr.2)).1
      rw [piecesL_length, ← hn] at h
      simp only
      omega
  have hNn : N ≤ 200 := by
    have : N * 1 ≤ N * (s + 2) := Nat.mul_le_mul_left _ (by omega)
    omega
  have HG := Lib.hid (fun k (h : k < N) => pieces_get (s + 2) l N k h)
  have HPf := Lib.hid (fun k (h : k < N) => (⟨pieceL_length (s + 2) l k N (by rw [hr.len, hn]) h, pieceL_lt (s + 2) l k hr.2⟩ : (pieceL (s + 2) l k).length = s + 2 ∧ ∀ x ∈ pieceL (s + 2) l k, x < 256))
  have HPn := Lib.hid (piecesL_length (s + 2) l N)
  generalize allL (piecesL (s + 2) l N) = V at *
  obtain ⟨vd, vf, ve⟩ := V
  simp only at hA hRA hV
  obtain ⟨vn, hvn⟩ : ∃ vn, vd.length = vn := ⟨_, rfl⟩
  rw [hvn] at hV
  have HVn := Lib.hid hvn
  generalize piecesL (s + 2) l N = ps at *
  have d1 : decide ((s : Int) < 1) = false := decide_eq_false (by omega)
  have d2 : decide (512 < (s : Int)) = false := decide_eq_false (by omega)
  have hm : (n : Int) % ((s : Int) + 2) = 0 := by
    rw [hn, Int.natCast_mul, Int.natCast_add]
    exact Int.mul_emod_left _ _
  have hne : ((s : Int) + 2) ≠ 0 := by omega
  have he : (((n : Int) % ((s : Int) + 2)) != 0) = false := by rw [hm]; rfl
  clear hr hn hm hvn
  go_enter Try.func4, Try.ntmps4
  go_wp2_with fail
  refine (awake6_any _).mono ?_
  rintro e w1 ⟨rfl, hb1⟩
  have HB1 := Lib.hid hb1
  have HR1 := Lib.hid (HR.out.below hb1)
  clear hb1
  go_wp2_with fail
  refine (hA _ HR1.out).mono ?_
  rintro e w2 hM
  obtain ⟨A2, c2, rfl, R2, _, B2⟩ := hM.at_ HVn.out
  have HB2 := Lib.hid (below_step HB1.out B2.out)
  have HR2 := Lib.hid (HR1.out.below B2.out)
  clear hM hA
  go_wp2_with fail
  refine (hRA _ HR2.out).mono ?_
  rintro e w3 hM
  obtain ⟨A3, c3, rfl, R3, _, B3⟩ := hM.at_ HVn.out
  have HB3 := Lib.hid (below_step HB2.out B3.out)
  have HR3 := Lib.hid (HR2.out.below B3.out)
  have R23 := Lib.hid (R2.out.below B3.out)
  clear hM hRA
  go_wp2_with fail
  refine (Same_any _ _ _ _ _ _ vd vd _ R23.out R3.out (by omega) (by omega)).mono ?_
  rintro e w4 ⟨rfl, q, rfl⟩
  rw [decide_eq_true rfl]
  have HB4 := Lib.hid (below_drewN HB3.out q)
  have HR4 := Lib.hid (HR3.out.drewN q)
  generalize w3.drewN q = w4 at *
  go_wp2_with fail
  refine (hSp _ HR4.out).mono ?_
  rintro e w5 ⟨A5, c5, vs, rfl, hrd, hrows, hb5⟩
  have HB5 := Lib.hid (below_step HB4.out hb5)
  have HR5 := Lib.hid (HR4.out.below hb5)
  rw [HPn.out] at hrd
  have HRD := Lib.hid hrd
  have HRows := Lib.hid hrows
  have e5 := HPn.out
  rw [e5]
  clear e5 hrd hrows hb5 hSp R2 R3 R23 HVn
  go_wp2
  clear d1 d2 he
  go_loopw [13, 78] (fun v i wr => ∃ (k jn cv : Nat) (Av : Option Addr), k ≤ N ∧ jn ≤ n ∧ v = .slice Av jn cv ∧ i = .int .i64 (k : Int) ∧ Hid (jn = k * (s + 2)) ∧ Hid (wr.ownsRow w5.heap.size 5 1 (.slice Av jn cv) jn (U8 (l.take jn))) ∧ Hid (Below w5.heap.size w5 wr)) (fun _ i _ => N - (intOf i).toNat)
  case atStart => exact ⟨0, 0, 0, none, Nat.zero_le _, Nat.zero_le _, rfl, rfl, (Nat.zero_mul _).symm, World.ownsRow_nil _ _ _ _, Below.refl _ _⟩
  case round =>
    obtain ⟨k, jn, cv, Av, hk, hjn, rfl, rfl, HJ, HO, HB⟩ := hrel
    by_cases hlt : k < N
    · obtain ⟨hpl, hpb⟩ := HPf.out k hlt
      obtain ⟨b, off, Ak, ck, rfl, hbk, hck, RK, hnk, _⟩ := rows_at HRD.out HRows.out (HG.out k hlt) hlt hpb
      rw [hpl] at hck RK
      have hc0 : wr.cell? ⟨b, off + k, none⟩ = some (.slice Ak (s + 2) ck) := (HB.out.cell hbk).trans hck
      have RK2 := Lib.hid (RK.out.below HB.out)
      have hjn2 : jn + (s + 2) ≤ n := by
        rw [HJ.out, HN.out]
        have : (k + 1) * (s + 2) ≤ N * (s + 2) := Nat.mul_le_mul_right _ hlt
        rw [Nat.add_mul, Nat.one_mul] at this
        omega
      have HT := Lib.hid (take_piece (s + 2) l k jn HJ.out)
      have hsz := HB.out.size
      clear hck hpl hpb RK
      go_wp2_with (at_builtin; refine wpList_append8 _ rfl (.tmp 87) (.tmp 88) _ rfl w5.heap.size 5 i0 Try.underlying22 ti tz0 tz1 tz2 _ _ (l.take jn) rfl HO.out _ _ _ (pieceL (s + 2) l k) rfl hnk.out RK2.out (by omega) hsz ?_)
      intro v3 w6 hown6 hg6
      rw [HT.out] at hown6
      obtain ⟨A6, c6, rfl⟩ := own_form hown6
      have HO6 := Lib.hid hown6
      have HB6 := Lib.hid (HB.out.grown hg6 hsz (fun j hj => (HO.out.lt j hj).1))
      clear hown6 hg6 hc0
      go_wp2
      go_roundw
      case rel =>
        refine ⟨k + 1, jn + (s + 2), c6, A6, by omega, hjn2, rfl, by go_num, ?_, HO6, HB6⟩
        show jn + (s + 2) = (k + 1) * (s + 2)
        rw [HJ.out, Nat.add_mul, Nat.one_mul]
      case measure => simp [intOf]; omega
    · obtain rfl : k = N := by omega
      have hje : jn = n := by rw [HJ.out, HN.out]
      subst hje
      have HTl := Lib.hid (show l.take jn = l from List.take_of_length_le (by rw [HL.out]; exact Nat.le_refl _))
      have HRr := Lib.hid (HR5.out.below HB.out)
      have HRa := Lib.hid (show R8 wr Av jn l by
        have := HO.out
        rw [HTl.out] at this
        exact R8.own this HRr.out.2)
      go_wp2_with fail
      refine (Same_any _ _ _ _ _ _ l l _ HRa.out HRr.out (by omega) (by omega)).mono ?_
      rintro e w7 ⟨rfl, q7, rfl⟩
      rw [decide_eq_true rfl]
      go_wp2
      go_ret
      exact ⟨rfl, below_drewN (below_step HB5.out HB.out) q7⟩

set_option maxHeartbeats 400000 in
theorem ChunkAll_walk (A : Option Addr) (n c : Nat) (l : List Nat) (x : Int) (w : World) (hr : R8 w A n l) (hn : n ≤ 9223372036854775807) (hc : n ≤ c) (hx0 : -9223372036854775808 ≤ x) (hx1 : x ≤ 9223372036854775807) :
    Calls Try.prog 4 #[.slice A n c, .int .i64 x] w (Gives (.bool true) w) := by
  by_cases h200 : 200 < n
  · clear hr
    go_enter Try.func4, Try.ntmps4
    go_wp2_with fail
    refine (awake6_any _).mono ?_
    rintro e w1 ⟨rfl, hb1⟩
    go_wp2
    go_ret
    exact ⟨rfl, hb1⟩
  · by_cases hx : 1 ≤ x ∧ x ≤ 512
    · obtain ⟨s, rfl⟩ := Int.eq_ofNat_of_zero_le (show 0 ≤ x by omega)
      by_cases hm : n % (s + 2) = 0
      · have hd := Nat.div_add_mod n (s + 2)
        rw [hm, Nat.add_zero, Nat.mul_comm] at hd
        exact ChunkAll_good A n c s (n / (s + 2)) l w hr hc (by omega) (by omega) hd.symm (by omega)
      · have hDv := fun w' => divides_no A n c s w' (by omega) (by omega) hm (by omega)
        refine ChunkAll_bad A n c (s : Int) w (by omega) hx0 hx1 (Or.inr (Or.inr ⟨hx.1, hx.2, ?_⟩)) (fun w' => All_no A n c _ w' hDv) (fun w' => RefAll_no A n c s w' (by omega) (by omega) hm (by omega)) (fun w' => Split_no A n c _ w' hDv)
        have e : (n : Int) % ((s : Int) + 2) = ((n % (s + 2) : Nat) : Int) := by rw [Int.natCast_emod, Int.natCast_add]; rfl
        rw [e]
        omega
    · have hDv := fun w' => divides_size A n c x w' hx
      exact ChunkAll_bad A n c x w (by omega) hx0 hx1 (by omega) (fun w' => All_no A n c _ w' hDv) (fun w' => RefAll_size A n c x w' hx) (fun w' => Split_no A n c _ w' hDv)
end Go.Proofs.Ytljjbphmglbhnaa
