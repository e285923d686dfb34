/-
  Contracts of the array's Erase, TearBlock, Erases, over the landed code.
-/
import Derived.Test.YtipmjmbkknlcfaaArD
import Derived.Lib.SliceRun
import Derived.BigFrame
namespace Go.Proofs.Ytipmjmbkknlcfaa
open Go.RowKit
set_option maxRecDepth 100000

/-- The cells of n rows to which nothing was done. -/
def zrows (n : Nat) : List Value := (Builtin.zeroCells #[.slice none 0 0, .int .i64 0, .bool false] n).toList
theorem zrows_len (n : Nat) : (zrows n).length = n * 3 := by simp [zrows, Builtin.zeroCells]
theorem zrows_get (n j : Nat) (h : j < n * 3) : (zrows n)[j]? = [Value.slice none 0 0, .int .i64 0, .bool false][j % 3]? := by
  unfold zrows Builtin.zeroCells
  simp only [Array.getElem?_toList]
  have h4 : j % 3 = 0 ∨ j % 3 = 1 ∨ j % 3 = 2 := by omega
  rw [Array.getElem?_map, Array.getElem?_range]
  simp only [List.size_toArray, List.length_cons, List.length_nil]
  rw [if_pos (by simpa using h)]
  rcases h4 with h4 | h4 | h4 <;> simp [h4]
theorem zrows_one (n : Nat) : ∀ v ∈ zrows n, v.oneCell' = true := by
  intro v hv
  obtain ⟨j, hj⟩ := List.mem_iff_getElem?.1 hv
  have hl := (List.getElem?_eq_some_iff.1 hj).1
  rw [zrows_len] at hl
  rw [zrows_get n j hl] at hj
  have h4 : j % 3 = 0 ∨ j % 3 = 1 ∨ j % 3 = 2 := by omega
  rcases h4 with h4 | h4 | h4 <;> (rw [h4] at hj; injection hj with hj; subst hj; rfl)
theorem run_clear_rows (w : World) (ty : TypeId) (b o n c : Nat) (hn : 0 < n) (hc : ∀ j, j < n * 3 → (w.cell? ⟨b, o + j, none⟩).isSome = true) (hf : ∀ j, j < n * 3 → w.frozen? ⟨b, o + j, none⟩ = false) :
    (Builtin.clear_ #[57] ty #[.slice (some ⟨b, o, none⟩) n c]).run Try.prog w = .ok (.tuple #[]) (w.setCells b o (zrows n)) := by
  have hst := run_storeCells_cells (P := Try.prog) b o (zrows n) 0 w (by rw [zrows_len]; simpa using hc) (by rw [zrows_len]; simpa using hf) (zrows_one n)
  simp only [Nat.add_zero] at hst
  obtain ⟨m, rfl⟩ : ∃ m, n = m + 1 := ⟨n - 1, by omega⟩
  unfold zrows at hst ⊢
  simp [Builtin.clear_, run_underlying Try.underlying57, Value.cells, hst]

section
variable {I : Nat → Prop} {w : World} {p q r : Nat} {g : Gm} {s : St}
theorem AR.rows_eq (h : AR I w p q r g s) : (g.b * g.s).toNat = g.b.toNat * g.s.toNat := by
  have := h.size
  obtain ⟨B, hB⟩ : ∃ B : Nat, g.b = (B : Int) := ⟨g.b.toNat, by omega⟩
  obtain ⟨S, hS⟩ : ∃ S : Nat, g.s = (S : Int) := ⟨g.s.toNat, by omega⟩
  rw [hB, hS]
  have e : ((B : Int) * (S : Int)) = ((B * S : Nat) : Int) := by push_cast; rfl
  rw [e, Int.toNat_natCast, Int.toNat_natCast, Int.toNat_natCast]
theorem AR.fit (h : AR I w p q r g s) {k : Nat} (hk : k < g.b.toNat) : k * g.s.toNat + g.s.toNat ≤ (g.b * g.s).toNat := by
  rw [h.rows_eq, ← Nat.succ_mul]
  exact Nat.mul_le_mul_right _ hk
theorem AR.few (h : AR I w p q r g s) : (g.b * g.s).toNat ≤ 1000000 := by
  rw [h.rows_eq]
  have := h.size
  have h1 : g.b.toNat * g.s.toNat ≤ 256 * 64 := Nat.mul_le_mul (by omega) (by omega)
  omega
/-- Rows to which nothing is done any more. -/
theorem AR.clear_ (h : AR I w p q r g s) (a n : Nat) (ha : a + n ≤ (g.b * g.s).toNat) : AR I (w.setCells q (a * 3) (zrows n)) p q r g ⟨sec (fun _ => ersd g.raw.toNat) a n s.rows, s.er⟩ ∧ (∀ j, j < n * 3 → (w.cell? ⟨q, a * 3 + j, none⟩).isSome = true) := by
  obtain ⟨l, h1, h2, h3⟩ := h.rows
  have hl : l.length = (g.b * g.s).toNat := by rw [← h.nr, h1, List.length_map]
  have hsome : ∀ j, j < n * 3 → (rowF l (a * 3 + j)).isSome = true := by
    intro j hj
    unfold rowF
    rw [List.getElem?_eq_getElem (show (a * 3 + j) / 3 < l.length by omega), Option.bind_some]
    unfold Rc.cells
    have h4 : (a * 3 + j) % 3 = 0 ∨ (a * 3 + j) % 3 = 1 ∨ (a * 3 + j) % 3 = 2 := by omega
    rcases h4 with h4 | h4 | h4 <;> (rw [h4]; rfl)
  refine ⟨?_, fun j hj => ?_⟩
  · have hb : Btw (fun j => j = q) w (w.setCells q (a * 3) (zrows n)) := Btw.setCells (I := fun j => j = q) rfl _ _ (Btw.refl w)
    have hs := Cells.setCells (zrows n) (a * 3) h2 (by rw [zrows_len]; exact hsome)
    exact { h with
      lt := fun j hj => Nat.lt_of_lt_of_le (h.lt j hj) hb.size
      blk := h.blk.btw hb h.pq
      rows := ⟨sec (fun _ => ⟨none, 0, 0, ersd g.raw.toNat⟩) a n l, by rw [h1]; exact (sec_map (f := fun _ => (⟨none, 0, 0, ersd g.raw.toNat⟩ : Rc)) (fun x => x.y) (fun _ => ersd g.raw.toNat) fun _ => rfl).symm, hs.sub (fun j u hu => by
        unfold rowF at hu
        rw [sec_get] at hu
        rcases e : l[j / 3]? with _ | x
        · rw [e] at hu; cases hu
        · rw [e, Option.map_some, Option.bind_some] at hu
          show (if a * 3 ≤ j ∧ j < a * 3 + (zrows n).length then (zrows n)[j - a * 3]? else rowF l j) = some u
          rw [zrows_len]
          by_cases h5 : a ≤ j / 3 ∧ j / 3 < a + n
          · rw [if_pos h5] at hu
            rw [if_pos (by omega), zrows_get _ _ (by omega), show (j - a * 3) % 3 = j % 3 by omega]
            exact hu
          · rw [if_neg h5] at hu
            rw [if_neg (by omega)]
            unfold rowF
            rw [e]
            exact hu), fun z hz => by
        obtain ⟨i, hi⟩ := List.mem_iff_getElem?.1 hz
        rw [sec_get] at hi
        rcases e : l[i]? with _ | x
        · rw [e] at hi; cases hi
        · rw [e, Option.map_some] at hi
          injection hi with hi
          subst hi
          split
          · exact ⟨ersd_well _, .inl ⟨rfl, rfl, rfl, rfl⟩⟩
          · exact (h3 x (List.mem_of_getElem? e)).btw hb fun j hj => hj ▸ h.iq⟩
      er := h.er.btw hb (fun e => h.qr e.symm)
      nr := by rw [sec_len]; exact h.nr }
  · obtain ⟨v, hv⟩ := Option.isSome_iff_exists.1 (hsome j hj)
    rw [h2.cell hv]
    rfl
theorem AR.frozen (h : AR I w p q r g s) (o : Nat) : w.frozen? ⟨q, o, none⟩ = false := by
  obtain ⟨l, h1, h2, h3⟩ := h.rows
  exact h2.frozen o
theorem AR.er_ (h : AR I w p q r g s) {k : Nat} {z0 : Int} (hk : s.er[k]? = some z0) (z : Int) : AR I (w.setCell ⟨r, k, none⟩ (.int .i64 z)) p q r g ⟨s.rows, s.er.set k z⟩ := by
  have hb : Btw (fun j => j = r) w (w.setCell ⟨r, k, none⟩ (.int .i64 z)) := (Btw.refl w).setCell (p := ⟨r, k, none⟩) rfl
  obtain ⟨l, h1, h2, h3⟩ := h.rows
  exact { h with
    lt := fun j hj => Nat.lt_of_lt_of_le (h.lt j hj) hb.size
    blk := h.blk.btw hb h.pr
    rows := ⟨l, h1, h2.btw hb h.qr, fun x hx => (h3 x hx).btw hb fun j hj => hj ▸ h.ir⟩
    er := (h.er.set (j := k) (v0 := .int .i64 z0) (by rw [hk]; rfl) (.int .i64 z)).sub fun j u hu => by
      rw [List.getElem?_set] at hu
      by_cases e : k = j
      · subst e
        rw [if_pos rfl, if_pos (List.getElem?_eq_some_iff.1 hk).1] at hu
        rw [if_pos rfl]
        exact hu
      · rw [if_neg e] at hu
        rw [if_neg (fun e2 => e e2.symm)]
        exact hu
    ne := by rw [List.length_set]; exact h.ne }
theorem AR.erc (h : AR I w p q r g s) {k : Nat} (hk : k < g.b.toNat) : ∃ z, s.er[k]? = some z ∧ w.cell? ⟨r, k, none⟩ = some (.int .i64 z) ∧ w.frozen? ⟨r, k, none⟩ = false := by
  have hl : k < s.er.length := by rw [h.ne]; exact hk
  exact ⟨s.er[k], List.getElem?_eq_getElem hl, h.er.cell (by rw [List.getElem?_eq_getElem hl]; rfl), h.er.frozen k⟩
end

theorem Erase_nil (x : Int) (w : World) : Calls Try.prog 16 #[.pointer none, .int .i64 x] w (Gives (.int .i64 1) w) := by
  go_enter Try.func16, Try.ntmps16
  go_wp2_with fail
  refine (made_nil _).mono ?_
  rintro _ w1 ⟨rfl, h1⟩
  have B1 := Lib.hid h1
  clear h1
  go_wp2
  go_ret
  exact ⟨rfl, B1.out⟩
theorem TearBlock_nil (x : Int) (v : Value) (w : World) : Calls Try.prog 18 #[.pointer none, .int .i64 x, v] w (Gives (.int .i64 1) w) := by
  go_enter Try.func18, Try.ntmps18
  go_wp2_with fail
  refine (made_nil _).mono ?_
  rintro _ w1 ⟨rfl, h1⟩
  have B1 := Lib.hid h1
  clear h1
  go_wp2
  go_ret
  exact ⟨rfl, B1.out⟩
theorem Erases_nil (x : Int) (w : World) : Calls Try.prog 23 #[.pointer none, .int .i64 x] w (Gives (.int .i64 0) w) := by
  go_enter Try.func23, Try.ntmps23
  go_wp2_with fail
  refine (block_nil x _).mono ?_
  rintro _ w1 h1
  obtain ⟨rfl, h1⟩ := h1
  have B1 := Lib.hid h1
  clear h1
  go_wp2
  go_ret
  exact ⟨rfl, B1.out⟩
theorem Erases_no {I : Nat → Prop} {p q r : Nat} {g : Gm} {s : St} {w : World} (h : AR I w p q r g s) (x : Int) (hx : ¬ (0 ≤ x ∧ x < g.b)) : Calls Try.prog 23 #[.pointer (some ⟨p, 0, none⟩), .int .i64 x] w (Gives (.int .i64 0) w) := by
  have HS0 := Lib.hid (show 0 < g.s by have := h.size; omega)
  have HX := Lib.hid hx
  have H1 := Lib.hid h
  have B1 := Lib.hid (Below.refl w.heap.size w)
  clear h hx
  go_enter Try.func23, Try.ntmps23
  go_wp2_with fail
  refine (block_no p q _ _ g x _ H1.out.box H1.out.c7 HS0.out HX.out).mono ?_
  rintro _ w2 h2
  obtain ⟨rfl, h2⟩ := h2
  have B2 := Lib.hid (below_step B1.out h2)
  have H2 := Lib.hid (H1.out.below h2)
  clear h2
  go_wp2
  go_ret
  exact ⟨rfl, B2.out⟩
set_option maxHeartbeats 1000000 in
theorem Erases_yes {I : Nat → Prop} {p q r : Nat} {g : Gm} {s : St} {w : World} (h : AR I w p q r g s) {k : Nat} {z : Int} (hz : s.er[k]? = some z) : Calls Try.prog 23 #[.pointer (some ⟨p, 0, none⟩), .int .i64 (k : Int)] w (Gives (.int .i64 z) w) := by
  have hk : k < g.b.toNat := by rw [← h.ne]; exact (List.getElem?_eq_some_iff.1 hz).1
  have HS := Lib.hid (show g.s = (g.s.toNat : Int) by have := h.size; omega)
  have HK := Lib.hid (show (k : Int) < g.b by omega)
  have HG := Lib.hid h.ok
  have HR := Lib.hid (AR.fit h hk)
  have HR2 := Lib.hid (AR.few h)
  have hS1 : 4 ≤ g.s.toNat := by have := h.size; omega
  have hS2 : g.s.toNat ≤ 64 := by have := h.size; omega
  obtain ⟨S, hSS⟩ : ∃ S, S = g.s.toNat := ⟨_, rfl⟩
  rw [← hSS] at HS HR hS1 hS2
  try rw [← hSS]
  have H1 := Lib.hid h
  have B1 := Lib.hid (Below.refl w.heap.size w)
  have HZ := Lib.hid hz
  clear h hz hSS
  go_enter Try.func23, Try.ntmps23
  go_wp2_with fail
  refine (block_yes p q _ S (k * S) k g _ H1.out.box H1.out.c7 HG.out HK.out HS.out rfl HR.out HR2.out).mono ?_
  rintro _ w2 h2
  obtain ⟨rfl, h2⟩ := h2
  have B2 := Lib.hid (below_step B1.out h2)
  have H2 := Lib.hid (H1.out.below h2)
  clear h2
  obtain ⟨z', hz', hc, _⟩ := H2.out.erc hk
  obtain rfl : z = z' := Option.some.inj (HZ.out.symm.trans hz')
  have x8 := H2.out.c8
  have i0 : (0 : Int) ≤ (k : Int) := by omega
  have i1 : (k : Int) < (g.b.toNat : Int) := by omega
  clear hz' hk
  go_wp2
  go_ret
  exact ⟨rfl, B2.out⟩
set_option maxHeartbeats 1000000 in
theorem Erase_no {I : Nat → Prop} {p q r : Nat} {g : Gm} {s : St} {w : World} (h : AR I w p q r g s) (x : Int) (hx : ¬ (0 ≤ x ∧ x < g.b)) : Calls Try.prog 16 #[.pointer (some ⟨p, 0, none⟩), .int .i64 x] w (Gives (.int .i64 2) w) := by
  have HS0 := Lib.hid (show 0 < g.s by have := h.size; omega)
  have HX := Lib.hid hx
  have H := Lib.hid h
  have C7 := Lib.hid h.c7
  clear h hx
  go_enter Try.func16, Try.ntmps16
  go_wp2_with fail
  refine (made_yes p q _ _ _ C7.out).mono ?_
  rintro _ w1 ⟨rfl, h1⟩
  have B1 := Lib.hid h1
  have H1 := Lib.hid (H.out.below h1)
  clear h1
  go_wp2_with fail
  refine (block_no p q _ _ g x _ H1.out.box H1.out.c7 HS0.out HX.out).mono ?_
  rintro _ w2 h2
  obtain ⟨rfl, h2⟩ := h2
  have B2 := Lib.hid (below_step B1.out h2)
  have H2 := Lib.hid (H1.out.below h2)
  clear h2
  go_wp2
  go_ret
  exact ⟨rfl, B2.out⟩
set_option maxHeartbeats 2000000 in
theorem Erase_yes {I : Nat → Prop} {p q r : Nat} {g : Gm} {s : St} {w : World} (h : AR I w p q r g s) {k : Nat} (hk : k < g.b.toNat) : Calls Try.prog 16 #[.pointer (some ⟨p, 0, none⟩), .int .i64 (k : Int)] w fun e w' => e = .returned (.int .i64 0) ∧ AR I w' p q r g (s.erase g.raw.toNat g.s.toNat k) ∧ Btw (fun j => j = q ∨ j = r) w w' := by
  have HS := Lib.hid (show g.s = (g.s.toNat : Int) by have := h.size; omega)
  have HK := Lib.hid (show (k : Int) < g.b by omega)
  have HG := Lib.hid h.ok
  have HR := Lib.hid (AR.fit h hk)
  have HR2 := Lib.hid (AR.few h)
  have hS1 : 4 ≤ g.s.toNat := by have := h.size; omega
  have hS2 : g.s.toNat ≤ 64 := by have := h.size; omega
  obtain ⟨S, hSS⟩ : ∃ S, S = g.s.toNat := ⟨_, rfl⟩
  rw [← hSS] at HS HR hS1 hS2
  try rw [← hSS]
  have H := Lib.hid h
  have C7 := Lib.hid h.c7
  clear h hSS
  go_enter Try.func16, Try.ntmps16
  go_wp2_with fail
  refine (made_yes p q _ _ _ C7.out).mono ?_
  rintro _ w1 ⟨rfl, h1⟩
  have B1 := Lib.hid h1
  have H1 := Lib.hid (H.out.below h1)
  clear h1
  go_wp2_with fail
  refine (block_yes p q _ S (k * S) k g _ H1.out.box H1.out.c7 HG.out HK.out HS.out rfl HR.out HR2.out).mono ?_
  rintro _ w2 h2
  obtain ⟨rfl, h2⟩ := h2
  have B2 := Lib.hid (below_step B1.out h2)
  have H2 := Lib.hid (H1.out.below h2)
  clear h2
  obtain ⟨hA, hc⟩ := H2.out.clear_ (k * S) S HR.out
  have hf : ∀ j, j < S * 3 → w2.frozen? ⟨q, k * S * 3 + j, none⟩ = false := fun j _ => H2.out.frozen _
  have hcl := fun ty => run_clear_rows w2 ty q (k * S * 3) S ((g.b * g.s).toNat - k * S) (by omega) hc hf
  have H3 := Lib.hid hA
  obtain ⟨z, hz, y8, f8⟩ := hA.erc hk
  have x8 := hA.c8
  have H4 := Lib.hid (hA.er_ hz (inc z))
  have E4 := Lib.hid (show s.erase g.raw.toNat S k = ⟨sec (fun _ => ersd g.raw.toNat) (k * S) S s.rows, s.er.set k (inc z)⟩ by
    unfold St.erase
    rw [sec_one hz])
  have B4 := Lib.hid ((Btw.setCells (I := fun j => j = q ∨ j = r) (.inl rfl) (zrows S) (k * S * 3) (Btw.of_below B2.out)).setCell (p := ⟨r, k, none⟩) (v := .int .i64 (inc z)) (.inr rfl))
  have i0 : (0 : Int) ≤ (k : Int) := by omega
  have i1 : (k : Int) < (g.b.toNat : Int) := by omega
  clear hA hc hf hz hk
  go_wp2
  go_ret
  exact ⟨rfl, E4.out ▸ H4.out, B4.out⟩
set_option maxHeartbeats 1000000 in
theorem TearBlock_no {I : Nat → Prop} {p q r : Nat} {g : Gm} {s : St} {w : World} (h : AR I w p q r g s) (x : Int) (B : Option Addr) (n c : Nat) (l : List Nat) (hr : R8 w B n l) (hno : ¬ (0 ≤ x ∧ x < g.b) ∨ n ≠ g.raw.toNat) :
    Calls Try.prog 18 #[.pointer (some ⟨p, 0, none⟩), .int .i64 x, .slice B n c] w (Gives (.int .i64 2) w) := by
  have hN : Hid (g.raw = (g.raw.toNat : Int)) := Lib.hid (by have := h.size; omega)
  by_cases hx : 0 ≤ x ∧ x < g.b
  · have FD := Lib.hid (decide_eq_false (show ¬ n = g.raw.toNat from hno.resolve_left fun h1 => h1 hx))
    obtain ⟨k, rfl⟩ : ∃ k : Nat, x = (k : Int) := ⟨x.toNat, by omega⟩
    have hk : k < g.b.toNat := by omega
    have HS := Lib.hid (show g.s = (g.s.toNat : Int) by have := h.size; omega)
    have HK := Lib.hid (show (k : Int) < g.b by omega)
    have HG := Lib.hid h.ok
    have HR := Lib.hid (AR.fit h hk)
    have HR2 := Lib.hid (AR.few h)
    have hS1 : 4 ≤ g.s.toNat := by have := h.size; omega
    have hS2 : g.s.toNat ≤ 64 := by have := h.size; omega
    obtain ⟨S, hSS⟩ : ∃ S, S = g.s.toNat := ⟨_, rfl⟩
    rw [← hSS] at HS HR hS1 hS2
    try rw [← hSS]
    have H := Lib.hid h
    have C7 := Lib.hid h.c7
    have R := Lib.hid hr
    clear h hr hno hx hSS
    go_enter Try.func18, Try.ntmps18
    go_wp2_with fail
    refine (made_yes p q _ _ _ C7.out).mono ?_
    rintro _ w1 ⟨rfl, h1⟩
    have B1 := Lib.hid h1
    have H1 := Lib.hid (H.out.below h1)
    clear h1
    go_wp2_with fail
    refine (block_yes p q _ S (k * S) k g _ H1.out.box H1.out.c7 HG.out HK.out HS.out rfl HR.out HR2.out).mono ?_
    rintro _ w2 h2
    obtain ⟨rfl, h2⟩ := h2
    have B2 := Lib.hid (below_step B1.out h2)
    have H2 := Lib.hid (H1.out.below h2)
    clear h2
    go_wp2_with fail
    refine (fits_any p g g.raw.toNat hN.out B n c _ H2.out.box).mono ?_
    rintro _ w3 ⟨rfl, h3⟩
    rw [FD.out]
    have B3 := Lib.hid (below_step B2.out h3)
    have H3 := Lib.hid (H2.out.below h3)
    have R3 := Lib.hid (R.out.below B3.out)
    clear h3
    go_wp2
    go_ret
    exact ⟨rfl, B3.out⟩
  · have HS0 := Lib.hid (show 0 < g.s by have := h.size; omega)
    have HX := Lib.hid hx
    have H := Lib.hid h
    have C7 := Lib.hid h.c7
    clear h hx hr hno
    go_enter Try.func18, Try.ntmps18
    go_wp2_with fail
    refine (made_yes p q _ _ _ C7.out).mono ?_
    rintro _ w1 ⟨rfl, h1⟩
    have B1 := Lib.hid h1
    have H1 := Lib.hid (H.out.below h1)
    clear h1
    go_wp2_with fail
    refine (block_no p q _ _ g x _ H1.out.box H1.out.c7 HS0.out HX.out).mono ?_
    rintro _ w2 h2
    obtain ⟨rfl, h2⟩ := h2
    have B2 := Lib.hid (below_step B1.out h2)
    have H2 := Lib.hid (H1.out.below h2)
    clear h2
    go_wp2
    go_ret
    exact ⟨rfl, B2.out⟩
set_option maxHeartbeats 2000000 in
theorem TearBlock_yes {I : Nat → Prop} {p q r : Nat} {g : Gm} {s : St} {w : World} (h : AR I w p q r g s) {k : Nat} (hk : k < g.b.toNat) (B : Option Addr) (n c : Nat) (l : List Nat) (hr : R8 w B n l) (hn : n = g.raw.toNat) (hB : ∀ b off, B = some ⟨b, off, none⟩ → b ≠ q) :
    Calls Try.prog 18 #[.pointer (some ⟨p, 0, none⟩), .int .i64 (k : Int), .slice B n c] w fun e w' => e = .returned (.int .i64 0) ∧ AR I w' p q r g (s.tearB g.s.toNat k l) ∧ Btw (fun j => j = q) w w' := by
  have hN : Hid (g.raw = (g.raw.toNat : Int)) := Lib.hid (by have := h.size; omega)
  have hn0 : 0 < n := by have := h.size; omega
  have hn9 : n ≤ 1099511627776 := by have := h.low; omega
  obtain ⟨b0, off0, hBe⟩ : ∃ b off, B = some ⟨b, off, none⟩ := by
    obtain ⟨b, off, e, _⟩ := hr.1.2 hn0
    exact ⟨b, off, e⟩
  have HB0 := Lib.hid (hB b0 off0 hBe)
  have FD := Lib.hid (decide_eq_true hn)
  have HN := Lib.hid hn
  have HS := Lib.hid (show g.s = (g.s.toNat : Int) by have := h.size; omega)
  have HK := Lib.hid (show (k : Int) < g.b by omega)
  have HG := Lib.hid h.ok
  have HR := Lib.hid (AR.fit h hk)
  have HR2 := Lib.hid (AR.few h)
  have hS1 : 4 ≤ g.s.toNat := by have := h.size; omega
  have hS2 : g.s.toNat ≤ 64 := by have := h.size; omega
  obtain ⟨S, hSS⟩ : ∃ S, S = g.s.toNat := ⟨_, rfl⟩
  rw [← hSS] at HS HR hS1 hS2
  try rw [← hSS]
  have H := Lib.hid h
  have C7 := Lib.hid h.c7
  have R := Lib.hid hr
  have HBe := Lib.hid hBe
  clear h hr hn hB hBe hSS
  go_enter Try.func18, Try.ntmps18
  go_wp2_with fail
  refine (made_yes p q _ _ _ C7.out).mono ?_
  rintro _ w1 ⟨rfl, h1⟩
  have B1 := Lib.hid h1
  have H1 := Lib.hid (H.out.below h1)
  clear h1
  go_wp2_with fail
  refine (block_yes p q _ S (k * S) k g _ H1.out.box H1.out.c7 HG.out HK.out HS.out rfl HR.out HR2.out).mono ?_
  rintro _ w2 h2
  obtain ⟨rfl, h2⟩ := h2
  have B2 := Lib.hid (below_step B1.out h2)
  have H2 := Lib.hid (H1.out.below h2)
  clear h2
  go_wp2_with fail
  refine (fits_any p g g.raw.toNat hN.out B n c _ H2.out.box).mono ?_
  rintro _ w3 ⟨rfl, h3⟩
  rw [FD.out]
  have B3 := Lib.hid (below_step B2.out h3)
  have H3 := Lib.hid (H2.out.below h3)
  have R3 := Lib.hid (R.out.below B3.out)
  clear h3
  go_wp2
  go_loopw [9, 29] (fun _ i wr => ∃ f : Nat, f ≤ S ∧ i = .int .i64 (f : Int) ∧ Hid (AR I wr p q r g ⟨sec (·.tear l) (k * S) f s.rows, s.er⟩) ∧ Hid (Btw (fun j => j = q) w3 wr)) (fun _ i _ => S - (intOf i).toNat)
  case atStart => exact ⟨0, Nat.zero_le _, rfl, Lib.hid (by rw [sec_zero]; exact H3.out), Lib.hid (Btw.refl w3)⟩
  case round =>
    obtain ⟨f, hf, rfl, HA, HB⟩ := hrel
    rename World => wr
    by_cases hlt : f < S
    · have d1 : decide ((f : Int) < (S : Int)) = true := decide_eq_true (by omega)
      have i0 : (0 : Int) ≤ (f : Int) := by omega
      have i1 : (f : Int) < (S : Int) := by omega
      have hrow : k * S + f < (sec (·.tear l) (k * S) f s.rows).length := by
        have := HA.out.nr
        have := HR.out
        simp only at *
        omega
      obtain ⟨F, A, m, cm, hF, hF0, hF1, hF2, _, _⟩ := HA.out.row (List.getElem?_eq_getElem hrow)
      rw [Nat.add_mul] at hF0 hF1 hF2
      have F0 := Lib.hid hF
      have T0 := Lib.hid hF0
      have T1 := Lib.hid hF1
      have T2 := Lib.hid hF2
      have RR := Lib.hid (show R8 wr B n l by
        have h5 := R3.out
        rw [HBe.out] at h5 ⊢
        exact h5.btw HB.out HB0.out)
      have HROW := Lib.hid hrow
      clear hF hF0 hF1 hF2
      go_wp2_with fail
      refine (tear_any q (k * S * 3 + f * 3) F _ _ _ B n c l _ F0.out T0.out T1.out T2.out RR.out hn0 hn9).mono ?_
      rintro _ w4 hS
      rw [HN.out, ← Nat.add_mul] at hS
      obtain ⟨rfl, h4, b4⟩ := HA.out.torn3 (List.getElem?_eq_getElem HROW.out) hS
      have HA2 := Lib.hid (show AR I w4 p q r g ⟨sec (·.tear l) (k * S) (f + 1) s.rows, s.er⟩ by rw [sec_succ]; exact h4)
      have HB2 := Lib.hid (HB.out.trans b4 (fun _ _ h => h))
      clear hS h4 b4
      go_wp2
      go_roundw
      case rel => exact ⟨f + 1, by omega, by go_num, HA2, HB2⟩
      case measure => simp [intOf]; omega
    · obtain rfl : f = S := by omega
      have d1 : decide ((f : Int) < (f : Int)) = false := decide_eq_false (by omega)
      have HB3 := Lib.hid ((Btw.of_below (I := fun j => j = q) B3.out).trans HB.out (fun _ _ h => h))
      go_wp2
      go_ret
      exact ⟨rfl, HA.out, HB3.out⟩
end Go.Proofs.Ytipmjmbkknlcfaa
