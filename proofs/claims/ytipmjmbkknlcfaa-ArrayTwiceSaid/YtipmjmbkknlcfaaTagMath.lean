/-
  Plain facts on tags: which are valid, their bytes, the tag of bytes, there and back; zero bits; which of several tags is the latest.
-/
import Derived.Test.YtipmjmbkknlcfaaPackMath
namespace Go.Proofs.Ytipmjmbkknlcfaa

/-- A tag. -/
structure Tg where
  k : Int
  s : Int
  q : Int
  e : Int
def Tg.val (t : Tg) : Value := .agg #[.int .i64 t.k, .int .i64 t.s, .int .i64 t.q, .int .i64 t.e]
/-- Its numbers are ints. -/
def Tg.fit (t : Tg) : Prop := (-9223372036854775808 ≤ t.k ∧ t.k ≤ 9223372036854775807) ∧ (-9223372036854775808 ≤ t.s ∧ t.s ≤ 9223372036854775807) ∧ (-9223372036854775808 ≤ t.q ∧ t.q ≤ 9223372036854775807) ∧ -9223372036854775808 ≤ t.e ∧ t.e ≤ 9223372036854775807
/-- It is valid. -/
def Tg.ok (t : Tg) : Bool := decide ((1 ≤ t.k ∧ t.k ≤ 4) ∧ (0 ≤ t.s ∧ t.s ≤ 2147483648) ∧ (0 ≤ t.q ∧ t.q ≤ 2305843009213693952) ∧ 0 ≤ t.e ∧ t.e ≤ 2147483648)
theorem Tg.ok_yes {t : Tg} (h : t.ok = true) : (1 ≤ t.k ∧ t.k ≤ 4) ∧ (0 ≤ t.s ∧ t.s ≤ 2147483648) ∧ (0 ≤ t.q ∧ t.q ≤ 2305843009213693952) ∧ 0 ≤ t.e ∧ t.e ≤ 2147483648 := by simpa [Tg.ok] using h
theorem Tg.ok_mk {t : Tg} (h1 : 1 ≤ t.k ∧ t.k ≤ 4) (h2 : 0 ≤ t.s ∧ t.s ≤ 2147483648) (h3 : 0 ≤ t.q ∧ t.q ≤ 2305843009213693952) (h4 : 0 ≤ t.e ∧ t.e ≤ 2147483648) : t.ok = true := by simp only [Tg.ok, decide_eq_true_eq]; omega
theorem Tg.ok_not {t : Tg} (h : ¬ ((1 ≤ t.k ∧ t.k ≤ 4) ∧ (0 ≤ t.s ∧ t.s ≤ 2147483648) ∧ (0 ≤ t.q ∧ t.q ≤ 2305843009213693952) ∧ 0 ≤ t.e ∧ t.e ≤ 2147483648)) : t.ok = false := decide_eq_false h
theorem Tg.ok_fit {t : Tg} (h : t.ok = true) : t.fit := by have := Tg.ok_yes h; unfold Tg.fit; omega
def Tg.zero : Tg := ⟨0, 0, 0, 0⟩
theorem Tg.zero_not : Tg.zero.ok = false := by decide

/-- The sizes of its fields. -/
def lay : List Int := [2, 1, 4, 8, 4, 5]
/-- The numbers in its fields. -/
def Tg.nums (t : Tg) : List Int := [0, t.k, t.s, t.q, t.e, 0]
/-- Its bytes. -/
def Tg.bytes (t : Tg) : List Nat := putL lay t.nums
theorem lay_ok : okL lay = true := by decide
theorem lay_sum : sumI lay = 24 := by decide
theorem Tg.bytes_len (t : Tg) : t.bytes.length = 24 := by unfold Tg.bytes; rw [putL_length lay t.nums rfl, lay_sum]
theorem Tg.bytes_lt (t : Tg) : ∀ x ∈ t.bytes, x < 256 := putL_lt _ _
theorem fitsB_mk {n s : Int} (h1 : 1 ≤ s) (h2 : s ≤ 8) (h3 : 0 ≤ n) (h4 : n ≤ (great s.toNat : Int)) : fitsB n s = true := by
  unfold fitsB
  rw [show okSz s = true by simp [okSz, h1, h2], decide_eq_true h3, decide_eq_true h4]
  rfl
theorem Tg.can {t : Tg} (h : t.ok = true) : canPut lay t.nums = true := by
  have h1 := Tg.ok_yes h
  refine canPut_mk lay_ok rfl ?_
  have g1 : (great (1 : Int).toNat : Int) = 255 := by decide
  have g4 : (great (4 : Int).toNat : Int) = 4294967295 := by decide
  have g8 : (great (8 : Int).toNat : Int) = 4611686018427387904 := by decide
  simp only [fitsL, lay, Tg.nums, List.zip_cons_cons, List.zip_nil_right, List.all_cons, List.all_nil, Bool.and_eq_true, Bool.and_true]
  exact ⟨by decide, fitsB_mk (by omega) (by omega) (by omega) (by rw [g1]; omega), fitsB_mk (by omega) (by omega) (by omega) (by rw [g4]; omega), fitsB_mk (by omega) (by omega) (by omega) (by rw [g8]; omega), fitsB_mk (by omega) (by omega) (by omega) (by rw [g4]; omega), by decide⟩

/-- The tag of bytes, and the error. -/
def takeT (b : List Nat) : Tg × Int :=
  match takeA lay b with
  | [v0, v1, v2, v3, v4, v5] => if v0 = 0 ∧ v5 = 0 ∧ Tg.ok ⟨v1, v2, v3, v4⟩ = true then (⟨v1, v2, v3, v4⟩, 0) else (Tg.zero, 11)
  | _ => (Tg.zero, takeE lay b)
theorem takeT_no {b : List Nat} {e : Int} (h : takeE lay b = e) (h0 : e ≠ 0) : takeT b = (Tg.zero, e) := by
  unfold takeT
  rw [takeA_no h h0, h]
theorem take_six {b : List Nat} (h : takeE lay b = 0) : ∃ v0 v1 v2 v3 v4 v5, takeA lay b = [v0, v1, v2, v3, v4, v5] := by
  have hl : (takeA lay b).length = 6 := by rw [takeA_yes h, vals_length]; rfl
  match takeA lay b, hl with
  | [v0, v1, v2, v3, v4, v5], _ => exact ⟨v0, v1, v2, v3, v4, v5, rfl⟩
theorem takeT_yes {b : List Nat} {v1 v2 v3 v4 : Int} (h : takeA lay b = [0, v1, v2, v3, v4, 0]) (ho : Tg.ok ⟨v1, v2, v3, v4⟩ = true) : takeT b = (⟨v1, v2, v3, v4⟩, 0) := by
  unfold takeT
  rw [h]
  simp [ho]
theorem takeT_bad {b : List Nat} {v0 v1 v2 v3 v4 v5 : Int} (h : takeA lay b = [v0, v1, v2, v3, v4, v5]) (hb : v0 ≠ 0 ∨ v5 ≠ 0 ∨ Tg.ok ⟨v1, v2, v3, v4⟩ = false) : takeT b = (Tg.zero, 11) := by
  unfold takeT
  rw [h]
  have : ¬ (v0 = 0 ∧ v5 = 0 ∧ Tg.ok ⟨v1, v2, v3, v4⟩ = true) := by
    rintro ⟨h1, h2, h3⟩
    rcases hb with hb | hb | hb
    · exact hb h1
    · exact hb h2
    · rw [hb] at h3; cases h3
  simp only [if_neg this]
theorem takeT_bytes {t : Tg} (h : t.ok = true) : takeT t.bytes = (t, 0) := takeT_yes (take_put (Tg.can h)).2 h
/-- Either nothing, with an error; or a valid tag whose bytes they are. -/
theorem takeT_two {b : List Nat} (hb : ∀ x ∈ b, x < 256) : (∃ e, e ≠ 0 ∧ takeT b = (Tg.zero, e)) ∨ ∃ t, takeT b = (t, 0) ∧ t.ok = true ∧ t.bytes = b := by
  by_cases h : takeE lay b = 0
  · obtain ⟨v0, v1, v2, v3, v4, v5, hv⟩ := take_six h
    by_cases hg : v0 = 0 ∧ v5 = 0 ∧ Tg.ok ⟨v1, v2, v3, v4⟩ = true
    · obtain ⟨rfl, rfl, ho⟩ := hg
      refine .inr ⟨_, takeT_yes hv ho, ho, ?_⟩
      have := (put_take hb h).2
      rw [hv] at this
      exact this
    · refine .inl ⟨11, by decide, takeT_bad hv ?_⟩
      by_cases h1 : v0 = 0
      · by_cases h2 : v5 = 0
        · right; right
          cases ho : Tg.ok ⟨v1, v2, v3, v4⟩
          · rfl
          · exact absurd ⟨h1, h2, ho⟩ hg
        · exact .inr (.inl h2)
      · exact .inl h1
  · exact .inl ⟨_, h, takeT_no rfl h⟩
theorem ones_app (a b : List Nat) : ones (a ++ b) = ones a + ones b := by simp [ones]
theorem Tg.few (t : Tg) : ones t.bytes ≤ 136 := by
  have e : t.bytes = leN 0 2 ++ (leN t.k.toNat 1 ++ (leN t.s.toNat 4 ++ (leN t.q.toNat 8 ++ (leN t.e.toNat 4 ++ leN 0 5)))) := by
    simp [Tg.bytes, putL, lay, Tg.nums]
  have h1 := ones_le _ (leN_lt t.k.toNat 1)
  have h2 := ones_le _ (leN_lt t.s.toNat 4)
  have h3 := ones_le _ (leN_lt t.q.toNat 8)
  have h4 := ones_le _ (leN_lt t.e.toNat 4)
  have z2 : ones (leN 0 2) = 0 := by decide +kernel
  have z5 : ones (leN 0 5) = 0 := by decide +kernel
  rw [leN_length] at h1 h2 h3 h4
  rw [e, ones_app, ones_app, ones_app, ones_app, ones_app, z2, z5]
  omega

/-- Of the first k tags none is later than the one at p, and none ahead of it is as late. -/
def LateTo (l : List Tg) (k p : Nat) : Prop := ∃ t, l[p]? = some t ∧ (∀ j u, j < k → l[j]? = some u → u.q ≤ t.q) ∧ ∀ j u, j < p → l[j]? = some u → u.q < t.q
theorem LateTo.start {l : List Tg} {t : Tg} (h : l[0]? = some t) : LateTo l 0 0 := ⟨t, h, fun j _ hj => absurd hj (by omega), fun j _ hj => absurd hj (by omega)⟩
theorem LateTo.later {l : List Tg} {k p : Nat} {t x : Tg} (h : LateTo l k p) (ht : l[p]? = some t) (hx : l[k]? = some x) (hl : t.q < x.q) : LateTo l (k + 1) k := by
  obtain ⟨t', ht', h1, h2⟩ := h
  rw [ht] at ht'
  injection ht' with ht'
  subst ht'
  refine ⟨x, hx, fun j u hj hu => ?_, fun j u hj hu => ?_⟩
  · by_cases hjk : j = k
    · subst hjk
      rw [hx] at hu
      injection hu with hu
      subst hu
      exact Int.le_refl _
    · have := h1 j u (by omega) hu
      omega
  · have := h1 j u hj hu
    omega
theorem LateTo.stays {l : List Tg} {k p : Nat} {t x : Tg} (h : LateTo l k p) (ht : l[p]? = some t) (hx : l[k]? = some x) (hl : ¬ t.q < x.q) : LateTo l (k + 1) p := by
  obtain ⟨t', ht', h1, h2⟩ := h
  rw [ht] at ht'
  injection ht' with ht'
  subst ht'
  refine ⟨t, ht, fun j u hj hu => ?_, h2⟩
  by_cases hjk : j = k
  · subst hjk
    rw [hx] at hu
    injection hu with hu
    subst hu
    omega
  · exact h1 j u (by omega) hu
theorem LateTo.lt {l : List Tg} {k p : Nat} (h : LateTo l k p) : p < l.length := by
  obtain ⟨t, ht, _⟩ := h
  exact (List.getElem?_eq_some_iff.1 ht).1
theorem LateTo.one {l : List Tg} {n p r : Nat} (h : LateTo l n p) (g : LateTo l n r) (hp : p < n) (hr : r < n) : p = r := by
  obtain ⟨t, ht, h1, h2⟩ := h
  obtain ⟨u, hu, g1, g2⟩ := g
  rcases Nat.lt_trichotomy p r with hlt | heq | hgt
  · have a := g2 p t hlt ht
    have b := h1 r u hr hu
    omega
  · exact heq
  · have a := h2 r u hgt hu
    have b := g1 p t hp ht
    omega
/-- The latest of two lists. -/
theorem LateTo.parts {a b : List Tg} {i k : Nat} {x y : Tg} (h : LateTo a a.length i) (g : LateTo b b.length k) (hx : a[i]? = some x) (hy : b[k]? = some y) :
    LateTo (a ++ b) (a ++ b).length (if x.q < y.q then a.length + k else i) := by
  obtain ⟨t, ht, h1, h2⟩ := h
  rw [hx] at ht
  injection ht with ht
  subst ht
  obtain ⟨u, hu, g1, g2⟩ := g
  rw [hy] at hu
  injection hu with hu
  subst hu
  have hi := (List.getElem?_eq_some_iff.1 hx).1
  have hk := (List.getElem?_eq_some_iff.1 hy).1
  have at_ : ∀ j z, (a ++ b)[j]? = some z → (j < a.length ∧ a[j]? = some z) ∨ (a.length ≤ j ∧ j - a.length < b.length ∧ b[j - a.length]? = some z) := by
    intro j z hz
    by_cases hj : j < a.length
    · rw [List.getElem?_append_left hj] at hz
      exact .inl ⟨hj, hz⟩
    · rw [List.getElem?_append_right (by omega)] at hz
      exact .inr ⟨by omega, (List.getElem?_eq_some_iff.1 hz).1, hz⟩
  by_cases hl : x.q < y.q
  · rw [if_pos hl]
    refine ⟨y, by rw [List.getElem?_append_right (by omega), Nat.add_sub_cancel_left]; exact hy, fun j z _ hz => ?_, fun j z hj hz => ?_⟩
    · rcases at_ j z hz with ⟨c1, c2⟩ | ⟨c1, c2, c3⟩
      · have := h1 j z c1 c2; omega
      · exact g1 _ z c2 c3
    · rcases at_ j z hz with ⟨c1, c2⟩ | ⟨c1, c2, c3⟩
      · have := h1 j z c1 c2; omega
      · exact g2 _ z (by omega) c3
  · rw [if_neg hl]
    refine ⟨x, by rw [List.getElem?_append_left hi]; exact hx, fun j z _ hz => ?_, fun j z hj hz => ?_⟩
    · rcases at_ j z hz with ⟨c1, c2⟩ | ⟨c1, c2, c3⟩
      · exact h1 j z c1 c2
      · have := g1 _ z c2 c3; omega
    · rcases at_ j z hz with ⟨c1, c2⟩ | ⟨c1, c2, c3⟩
      · exact h2 j z hj c2
      · omega
end Go.Proofs.Ytipmjmbkknlcfaa
