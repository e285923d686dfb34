/-
  parameters.
-/
import Derived.Test.YtmbgoopkpfhamaaGreatTk
import Derived.Test.YtmbgoopkpfhamaaGreatTkB
import Derived.Test.YtmbgoopkpfhamaaGreatIdentChecksJ21
import Derived.Test.YtmbgoopkpfhamaaGreatIdentChecksJ10
import Derived.Test.YtmbgoopkpfhamaaGreatIdentChecksJ19
import Derived.Test.YtmbgoopkpfhamaaGreatIdentChecksJArAw
namespace Go.Proofs.YtmbgoopkpfhamaaGreat
open Go.RowKit
set_option maxRecDepth 100000
def zOc0 : Oper := { dst := some 39, op := Op.call { callee := Callee.value (Operand.func 39), args := #[Operand.tmp 38], argTypes := #[3] }, type := 26, pos := "cycles.go:298", after := #[{ on := 4, ground := Ground.data }], guard := none }
def zOc1 : Oper := { dst := some 40, op := Op.call { callee := Callee.builtin Builtin.copy, args := #[Operand.tmp 37, Operand.tmp 39], argTypes := #[26, 26] }, type := 3, pos := "cycles.go:298", after := #[{ on := 3, ground := Ground.data }, { on := 5, ground := Ground.data }, { on := 5, ground := Ground.chain }], guard := none }
section
variable {w w' : World} {p : Nat} {g : Gm} {c : Ch} {m : Cm}
def Lay (b N : Nat) (u : TypeId) (l : List Nat) (w0 w : World) : Prop := ∃ (rest : List Value), (∀ x ∈ l, x < 256) ∧ l.length = N ∧ CRow w b u (U8 l ++ rest).toArray ∧ Below w0.heap.size w0 w
theorem Lay.below {b N : Nat} {u : TypeId} {l : List Nat} {w0 : World} (h : Lay b N u l w0 w) (hb : Below w.heap.size w w') : Lay b N u l w0 w' := by
 obtain ⟨rest, h1, h2, h3, h4⟩ := h
 exact ⟨rest, h1, h2, h3.below hb, h4.trans (hb.mono h4.size)⟩
theorem Lay.put {b N : Nat} {u : TypeId} {w0 : World} {l : List Nat} {rest : List Value} (hb : w0.heap.size ≤ b) (k : List Nat) (o : Nat) (hk : ∀ x ∈ k, x < 256) (ho : o + k.length ≤ N) (h1 : ∀ x ∈ l, x < 256) (h2 : l.length = N) (h3 : CRow w b u (U8 l ++ rest).toArray) (h4 : Below w0.heap.size w0 w) :
  Lay b N u (l.take o ++ k ++ l.drop (o + k.length)) w0 (w.setRow b ((U8 l ++ rest).take o ++ U8 k ++ (U8 l ++ rest).drop (o + (U8 k).length)).toArray) := by
 refine ⟨rest, ?_, by simp; omega, ?_, ?_⟩
 ·
  intro x hx
  rcases List.mem_append.1 hx with hx | hx
  ·
   rcases List.mem_append.1 hx with hx | hx
   ·
    exact h1 x (List.mem_of_mem_take hx)
   ·
    exact hk x hx
  ·
   exact h1 x (List.mem_of_mem_drop hx)
 ·
  have e : (U8 l ++ rest).take o ++ U8 k ++ (U8 l ++ rest).drop (o + (U8 k).length) = U8 (l.take o ++ k ++ l.drop (o + k.length)) ++ rest := by
   rw [U8_length, List.take_append_of_le_length (by rw [U8_length]; omega), List.drop_append_of_le_length (by rw [U8_length]; omega)]
   simp [U8]
  rw [e]
  exact h3.set _
 ·
  exact ((Btw.of_below (I := fun j => j = b) h4).setRow (g := b) rfl).below (fun k e => by have e : k = b := e; omega) (Nat.le_refl _)
def parP (g : Gm) (k : Nat) : List Nat := ([g.p, g.b, g.s, g.c, g.k, g.r, g.q].take k).flatMap adr
def parK (g : Gm) (N k : Nat) : List Nat := parP g k ++ List.replicate (N - 2 * k) 255
def parL (g : Gm) : List Nat := parK g g.raw.toNat 7
theorem parK_step (g : Gm) (N k : Nat) (v : Int) (hk : k ≤ 6) (hv : [g.p, g.b, g.s, g.c, g.k, g.r, g.q][k]? = some v) : (parK g N k).take (2 * k) ++ adr v ++ (parK g N k).drop (2 * k + (adr v).length) = parK g N (k + 1) := by
 have e1 : (parP g k).length = 2 * k := by
  obtain rfl | rfl | rfl | rfl | rfl | rfl | rfl : k = 0 ∨ k = 1 ∨ k = 2 ∨ k = 3 ∨ k = 4 ∨ k = 5 ∨ k = 6 := by omega
  all_goals rfl
 have e2 : parP g (k + 1) = parP g k ++ adr v := by
  unfold parP
  rw [List.take_add_one, hv, List.flatMap_append]
  simp
 have e3 : (adr v).length = 2 := rfl
 unfold parK
 rw [e2, e3, List.take_append_of_le_length (by omega), List.take_of_length_le (by omega), List.drop_append, List.drop_of_length_le (by omega), e1, List.nil_append, List.drop_replicate]
 congr 2
 omega
set_option maxHeartbeats 4000000 in
theorem parameters_any (N : Nat) (hg : g.raw = (N : Int)) (h1 : 31 ≤ N) (h2 : N ≤ 8192) (h : CRow w p 72 (chCells g c m)) : Calls Tryz.prog 145 #[.pointer (some ⟨p, 0, none⟩)] w fun e w' =>
  ∃ b cap cur u l, e = .returned (.slice (some ⟨b, 0, none⟩) N cap) ∧ w.heap.size ≤ b ∧ CRow w' b u cur ∧ R8 w' (some ⟨b, 0, none⟩) N l ∧ l.length = N ∧ l = parK g N 7 ∧ Below w.heap.size w w' := by
 obtain ⟨ti, hti, hz0, hz1, hz2⟩ := info_parts info_u8
 have HAD := Lib.hid (fun (v : Int) W => Address_any v W)
 have HER := Lib.hid (fun W => Erased_fresh g N hg h2 W)
 have x19 := h.cell_at 19 (.int .i64 g.p) rfl
 have x20 := h.cell_at 20 (.int .i64 g.b) rfl
 have x21 := h.cell_at 21 (.int .i64 g.s) rfl
 have x22 := h.cell_at 22 (.int .i64 g.c) rfl
 have x23 := h.cell_at 23 (.int .i64 g.k) rfl
 have x24 := h.cell_at 24 (.int .i64 g.r) rfl
 have x25 := h.cell_at 25 (.int .i64 g.q) rfl
 have N1 := Lib.hid (below_new w (.cells #[.int .i64 g.p, .int .i64 g.b, .int .i64 g.s, .int .i64 g.c, .int .i64 g.k, .int .i64 g.r, .int .i64 g.q] 23))
 have T1 := Lib.hid (CRow.new w #[.int .i64 g.p, .int .i64 g.b, .int .i64 g.s, .int .i64 g.c, .int .i64 g.k, .int .i64 g.r, .int .i64 g.q] 23)
 clear h hg
 go_enter Tryz.func145, Tryz.ntmps145
 go_wp2_with fail
 refine (HER.out _).mono ?_
 rintro _ w2 ⟨gr, cr, cur, u, rfl, hgr, hrow, hr8, hcap, hb2⟩
 rw [List.length_replicate] at hcap hr8 ⊢
 have hgw : w.heap.size ≤ gr := Nat.le_trans N1.out.size hgr
 have T2 := Lib.hid (T1.out.below hb2)
 have hlay : Lay gr N u (parK g N 0) w w2 := by
  rw [show parK g N 0 = List.replicate N 255 from rfl]
  refine ⟨cur.toList.drop N, by simp, by simp, ?_, N1.out.trans (hb2.mono N1.out.size)⟩
  have hc : CRow w2 gr u cur := hrow
  have e : U8 (List.replicate N 255) ++ cur.toList.drop N = cur.toList := by
   apply List.ext_getElem?
   intro j
   by_cases hj : j < N
   ·
    rw [List.getElem?_append_left (by rw [U8_length, List.length_replicate]; exact hj)]
    obtain ⟨b9, o9, e9, _, hc9⟩ := hr8.1.2 (by omega)
    injection e9 with e9
    injection e9 with e91 e92
    subst e91
    subst e92
    have h0 := hc9 j hj
    rw [Nat.zero_add, hc.cell] at h0
    rw [← h0]
    simp
   ·
    rw [List.getElem?_append_right (by rw [U8_length, List.length_replicate]; omega), U8_length, List.length_replicate, List.getElem?_drop]
    rw [show N + (j - N) = j by omega]
  rw [e]
  exact hc
 have HL := Lib.hid hlay
 have z0 := T2.out.cell_at 0 _ rfl
 have z1 := T2.out.cell_at 1 _ rfl
 have z2 := T2.out.cell_at 2 _ rfl
 have z3 := T2.out.cell_at 3 _ rfl
 have z4 := T2.out.cell_at 4 _ rfl
 have z5 := T2.out.cell_at 5 _ rfl
 have z6 := T2.out.cell_at 6 _ rfl
 clear x19 x20 x21 x22 x23 x24 x25 hrow hr8 hlay hb2
 go_wp2
 go_loopw [30] (fun i wr => ∃ k : Nat, k ≤ 7 ∧ i = .int .i64 (k : Int) ∧ Hid (Lay gr N u (parK g N k) w wr)) (fun i _ => 7 - (intOf i).toNat)
 case atStart => exact ⟨0, by omega, rfl, Lib.hid (HL.out.below (below_new _ _))⟩
 case round =>
  obtain ⟨k, hk, rfl, HL2⟩ := hrel
  rename World => wr
  have hk7 : k = 0 ∨ k = 1 ∨ k = 2 ∨ k = 3 ∨ k = 4 ∨ k = 5 ∨ k = 6 ∨ k = 7 := by omega
  clear HL
  rcases hk7 with rfl | rfl | rfl | rfl | rfl | rfl | rfl | rfl
  ·
   have hwk : IntKind.i64.wrap 0 = 0 := by decide
   have hle : (0 : Int) ≤ (N : Int) := by omega
   have hcr : (cr = 0) = False := eq_false (by omega)
   rw [show ((0 : Nat) : Int) = (0 : Int) from rfl]
   have HIX : (Instr.index 95 (.agg #[.int .i64 g.p, .int .i64 g.b, .int .i64 g.s, .int .i64 g.c, .int .i64 g.k, .int .i64 g.r, .int .i64 g.q]) (.int .i64 0)).run Tryz.prog wr = .ok (.int .i64 g.p) wr := by kernel_rfl
   go_wp2_with fail
   refine wp_region_noPanic ?_
   refine wp_region_held_drew (S := fun w' => ∃ l, Lay gr N u l w w') (by kernel_rfl) ⟨_, HL2.out.below ((Below.refl _ _).drew)⟩ (fun C0 => ?_)
   refine tkH4 0 C0 ?_
   refine tkH4 1 C0 ?_
   refine tkH4 2 C0 ?_
   refine tkH4 3 C0 ?_
   refine tkH4 4 C0 ?_
   refine wpAnyH_ready (rs := [5]) (by kernel_rfl) (by simp) ?_
   refine AllReadyH.cons (o := zOc0) rfl (fun K hK => ?_) AllReadyH.nil
   dsimp only [zOc0]
   go_simp
   refine (HAD.out g.p _).mono ?_
   rintro _ wa ⟨Aa, ca, rfl, hra, hba⟩
   have LA := Lib.hid ((HL2.out.below ((Below.refl _ _).drew)).below hba)
   obtain ⟨ba, oa, hAa, hra1, hra2⟩ := hra.1.2 (by simp [adr])
   subst hAa
   clear hba
   go_wp2_with fail
   refine hK.out _ _ ⟨_, LA.out⟩ (fun C1 => ?_)
   clear hK K
   try simp only [Act.put, zzI, zzO, zzS]
   refine wpAnyH_ready (rs := [6]) (by kernel_rfl) (by simp) ?_
   refine AllReadyH.cons (o := zOc1) rfl (fun K hK => ?_) AllReadyH.nil
   dsimp only [zOc1]
   obtain ⟨l, hlk⟩ : ∃ l, l = parK g N 0 := ⟨_, rfl⟩
   have LA := LA.out
   rw [← hlk] at LA
   have HLK := Lib.hid hlk
   clear hlk
   obtain ⟨rest, hl8, hlN, hlc, hlb⟩ := LA
   have hs1 : ∀ j v', (U8 (adr g.p))[j]? = some v' → wa.cell? ((⟨ba, oa, none⟩ : Addr).add j) = some v' := fun j v' hj => by have hj2 : j < 2 := (by have := (List.getElem?_eq_some_iff.1 hj).1; simpa [U8, adr] using this); have h0 := hra2 j (by simpa [adr] using hj2); have e : (⟨ba, oa, none⟩ : Addr).add j = ⟨ba, oa + j, none⟩ := (by unfold Addr.add; split <;> simp_all); rw [e]; exact h0.trans hj
   have hs2 : (U8 (adr g.p)).length = Nat.min 2 (N - 0) := by rw [U8_length]; show 2 = Nat.min 2 (N - 0); exact (Nat.min_eq_left (by omega)).symm
   have hs3 : 0 + (U8 (adr g.p)).length ≤ (U8 l ++ rest).length := by rw [List.length_append, U8_length, U8_length, hlN]; show 0 + 2 ≤ _; omega
   refine wp_copyR wa (.tmp 37) (.tmp 39) 26 26 rfl 5 Tryz.underlying26 size_u8 gr 0 (N - 0) (cr - 0) ⟨ba, oa, none⟩ 2 ca rfl rfl (U8 l ++ rest) u hlc (U8 (adr g.p)) hs2 hs1 hs3 (U8_one _) ?_
   intro wb hwb
   have LB := Lib.hid (show Lay gr N u (parK g N 1) w wb by rw [hwb, ← parK_step g N 0 g.p (by omega) rfl, ← HLK.out]; exact Lay.put hgw (adr g.p) 0 (adr_lt _) (by simp [adr]; omega) hl8 hlN hlc hlb)
   clear hwb
   refine hK.out _ _ ⟨_, LB.out⟩ (fun C2 => ?_)
   clear hK K
   try simp only [Act.put, zzI, zzO, zzS]
   refine wpAnyH_done (by kernel_rfl) ?_ _
   refine NoPanic.normal ?_
   go_wp2
   go_roundw
   case rel => exact ⟨1, by omega, rfl, LB⟩
   case measure => simp [intOf]
  ·
   have hwk : IntKind.i64.wrap 2 = 2 := by decide
   have hle : (2 : Int) ≤ (N : Int) := by omega
   have hcr : (cr = 2) = False := eq_false (by omega)
   rw [show ((1 : Nat) : Int) = (1 : Int) from rfl]
   have HIX : (Instr.index 95 (.agg #[.int .i64 g.p, .int .i64 g.b, .int .i64 g.s, .int .i64 g.c, .int .i64 g.k, .int .i64 g.r, .int .i64 g.q]) (.int .i64 1)).run Tryz.prog wr = .ok (.int .i64 g.b) wr := by kernel_rfl
   go_wp2_with fail
   refine wp_region_noPanic ?_
   refine wp_region_held_drew (S := fun w' => ∃ l, Lay gr N u l w w') (by kernel_rfl) ⟨_, HL2.out.below ((Below.refl _ _).drew)⟩ (fun C0 => ?_)
   refine tkH4 0 C0 ?_
   refine tkH4 1 C0 ?_
   refine tkH4 2 C0 ?_
   refine tkH4 3 C0 ?_
   refine tkH4 4 C0 ?_
   refine wpAnyH_ready (rs := [5]) (by kernel_rfl) (by simp) ?_
   refine AllReadyH.cons (o := zOc0) rfl (fun K hK => ?_) AllReadyH.nil
   dsimp only [zOc0]
   go_simp
   refine (HAD.out g.b _).mono ?_
   rintro _ wa ⟨Aa, ca, rfl, hra, hba⟩
   have LA := Lib.hid ((HL2.out.below ((Below.refl _ _).drew)).below hba)
   obtain ⟨ba, oa, hAa, hra1, hra2⟩ := hra.1.2 (by simp [adr])
   subst hAa
   clear hba
   go_wp2_with fail
   refine hK.out _ _ ⟨_, LA.out⟩ (fun C1 => ?_)
   clear hK K
   try simp only [Act.put, zzI, zzO, zzS]
   refine wpAnyH_ready (rs := [6]) (by kernel_rfl) (by simp) ?_
   refine AllReadyH.cons (o := zOc1) rfl (fun K hK => ?_) AllReadyH.nil
   dsimp only [zOc1]
   obtain ⟨l, hlk⟩ : ∃ l, l = parK g N 1 := ⟨_, rfl⟩
   have LA := LA.out
   rw [← hlk] at LA
   have HLK := Lib.hid hlk
   clear hlk
   obtain ⟨rest, hl8, hlN, hlc, hlb⟩ := LA
   have hs1 : ∀ j v', (U8 (adr g.b))[j]? = some v' → wa.cell? ((⟨ba, oa, none⟩ : Addr).add j) = some v' := fun j v' hj => by have hj2 : j < 2 := (by have := (List.getElem?_eq_some_iff.1 hj).1; simpa [U8, adr] using this); have h0 := hra2 j (by simpa [adr] using hj2); have e : (⟨ba, oa, none⟩ : Addr).add j = ⟨ba, oa + j, none⟩ := (by unfold Addr.add; split <;> simp_all); rw [e]; exact h0.trans hj
   have hs2 : (U8 (adr g.b)).length = Nat.min 2 (N - 2) := by rw [U8_length]; show 2 = Nat.min 2 (N - 2); exact (Nat.min_eq_left (by omega)).symm
   have hs3 : 2 + (U8 (adr g.b)).length ≤ (U8 l ++ rest).length := by rw [List.length_append, U8_length, U8_length, hlN]; show 2 + 2 ≤ _; omega
   refine wp_copyR wa (.tmp 37) (.tmp 39) 26 26 rfl 5 Tryz.underlying26 size_u8 gr 2 (N - 2) (cr - 2) ⟨ba, oa, none⟩ 2 ca rfl rfl (U8 l ++ rest) u hlc (U8 (adr g.b)) hs2 hs1 hs3 (U8_one _) ?_
   intro wb hwb
   have LB := Lib.hid (show Lay gr N u (parK g N 2) w wb by rw [hwb, ← parK_step g N 1 g.b (by omega) rfl, ← HLK.out]; exact Lay.put hgw (adr g.b) 2 (adr_lt _) (by simp [adr]; omega) hl8 hlN hlc hlb)
   clear hwb
   refine hK.out _ _ ⟨_, LB.out⟩ (fun C2 => ?_)
   clear hK K
   try simp only [Act.put, zzI, zzO, zzS]
   refine wpAnyH_done (by kernel_rfl) ?_ _
   refine NoPanic.normal ?_
   go_wp2
   go_roundw
   case rel => exact ⟨2, by omega, rfl, LB⟩
   case measure => simp [intOf]
  ·
   have hwk : IntKind.i64.wrap 4 = 4 := by decide
   have hle : (4 : Int) ≤ (N : Int) := by omega
   have hcr : (cr = 4) = False := eq_false (by omega)
   rw [show ((2 : Nat) : Int) = (2 : Int) from rfl]
   have HIX : (Instr.index 95 (.agg #[.int .i64 g.p, .int .i64 g.b, .int .i64 g.s, .int .i64 g.c, .int .i64 g.k, .int .i64 g.r, .int .i64 g.q]) (.int .i64 2)).run Tryz.prog wr = .ok (.int .i64 g.s) wr := by kernel_rfl
   go_wp2_with fail
   refine wp_region_noPanic ?_
   refine wp_region_held_drew (S := fun w' => ∃ l, Lay gr N u l w w') (by kernel_rfl) ⟨_, HL2.out.below ((Below.refl _ _).drew)⟩ (fun C0 => ?_)
   refine tkH4 0 C0 ?_
   refine tkH4 1 C0 ?_
   refine tkH4 2 C0 ?_
   refine tkH4 3 C0 ?_
   refine tkH4 4 C0 ?_
   refine wpAnyH_ready (rs := [5]) (by kernel_rfl) (by simp) ?_
   refine AllReadyH.cons (o := zOc0) rfl (fun K hK => ?_) AllReadyH.nil
   dsimp only [zOc0]
   go_simp
   refine (HAD.out g.s _).mono ?_
   rintro _ wa ⟨Aa, ca, rfl, hra, hba⟩
   have LA := Lib.hid ((HL2.out.below ((Below.refl _ _).drew)).below hba)
   obtain ⟨ba, oa, hAa, hra1, hra2⟩ := hra.1.2 (by simp [adr])
   subst hAa
   clear hba
   go_wp2_with fail
   refine hK.out _ _ ⟨_, LA.out⟩ (fun C1 => ?_)
   clear hK K
   try simp only [Act.put, zzI, zzO, zzS]
   refine wpAnyH_ready (rs := [6]) (by kernel_rfl) (by simp) ?_
   refine AllReadyH.cons (o := zOc1) rfl (fun K hK => ?_) AllReadyH.nil
   dsimp only [zOc1]
   obtain ⟨l, hlk⟩ : ∃ l, l = parK g N 2 := ⟨_, rfl⟩
   have LA := LA.out
   rw [← hlk] at LA
   have HLK := Lib.hid hlk
   clear hlk
   obtain ⟨rest, hl8, hlN, hlc, hlb⟩ := LA
   have hs1 : ∀ j v', (U8 (adr g.s))[j]? = some v' → wa.cell? ((⟨ba, oa, none⟩ : Addr).add j) = some v' := fun j v' hj => by have hj2 : j < 2 := (by have := (List.getElem?_eq_some_iff.1 hj).1; simpa [U8, adr] using this); have h0 := hra2 j (by simpa [adr] using hj2); have e : (⟨ba, oa, none⟩ : Addr).add j = ⟨ba, oa + j, none⟩ := (by unfold Addr.add; split <;> simp_all); rw [e]; exact h0.trans hj
   have hs2 : (U8 (adr g.s)).length = Nat.min 2 (N - 4) := by rw [U8_length]; show 2 = Nat.min 2 (N - 4); exact (Nat.min_eq_left (by omega)).symm
   have hs3 : 4 + (U8 (adr g.s)).length ≤ (U8 l ++ rest).length := by rw [List.length_append, U8_length, U8_length, hlN]; show 4 + 2 ≤ _; omega
   refine wp_copyR wa (.tmp 37) (.tmp 39) 26 26 rfl 5 Tryz.underlying26 size_u8 gr 4 (N - 4) (cr - 4) ⟨ba, oa, none⟩ 2 ca rfl rfl (U8 l ++ rest) u hlc (U8 (adr g.s)) hs2 hs1 hs3 (U8_one _) ?_
   intro wb hwb
   have LB := Lib.hid (show Lay gr N u (parK g N 3) w wb by rw [hwb, ← parK_step g N 2 g.s (by omega) rfl, ← HLK.out]; exact Lay.put hgw (adr g.s) 4 (adr_lt _) (by simp [adr]; omega) hl8 hlN hlc hlb)
   clear hwb
   refine hK.out _ _ ⟨_, LB.out⟩ (fun C2 => ?_)
   clear hK K
   try simp only [Act.put, zzI, zzO, zzS]
   refine wpAnyH_done (by kernel_rfl) ?_ _
   refine NoPanic.normal ?_
   go_wp2
   go_roundw
   case rel => exact ⟨3, by omega, rfl, LB⟩
   case measure => simp [intOf]
  ·
   have hwk : IntKind.i64.wrap 6 = 6 := by decide
   have hle : (6 : Int) ≤ (N : Int) := by omega
   have hcr : (cr = 6) = False := eq_false (by omega)
   rw [show ((3 : Nat) : Int) = (3 : Int) from rfl]
   have HIX : (Instr.index 95 (.agg #[.int .i64 g.p, .int .i64 g.b, .int .i64 g.s, .int .i64 g.c, .int .i64 g.k, .int .i64 g.r, .int .i64 g.q]) (.int .i64 3)).run Tryz.prog wr = .ok (.int .i64 g.c) wr := by kernel_rfl
   go_wp2_with fail
   refine wp_region_noPanic ?_
   refine wp_region_held_drew (S := fun w' => ∃ l, Lay gr N u l w w') (by kernel_rfl) ⟨_, HL2.out.below ((Below.refl _ _).drew)⟩ (fun C0 => ?_)
   refine tkH4 0 C0 ?_
   refine tkH4 1 C0 ?_
   refine tkH4 2 C0 ?_
   refine tkH4 3 C0 ?_
   refine tkH4 4 C0 ?_
   refine wpAnyH_ready (rs := [5]) (by kernel_rfl) (by simp) ?_
   refine AllReadyH.cons (o := zOc0) rfl (fun K hK => ?_) AllReadyH.nil
   dsimp only [zOc0]
   go_simp
   refine (HAD.out g.c _).mono ?_
   rintro _ wa ⟨Aa, ca, rfl, hra, hba⟩
   have LA := Lib.hid ((HL2.out.below ((Below.refl _ _).drew)).below hba)
   obtain ⟨ba, oa, hAa, hra1, hra2⟩ := hra.1.2 (by simp [adr])
   subst hAa
   clear hba
   go_wp2_with fail
   refine hK.out _ _ ⟨_, LA.out⟩ (fun C1 => ?_)
   clear hK K
   try simp only [Act.put, zzI, zzO, zzS]
   refine wpAnyH_ready (rs := [6]) (by kernel_rfl) (by simp) ?_
   refine AllReadyH.cons (o := zOc1) rfl (fun K hK => ?_) AllReadyH.nil
   dsimp only [zOc1]
   obtain ⟨l, hlk⟩ : ∃ l, l = parK g N 3 := ⟨_, rfl⟩
   have LA := LA.out
   rw [← hlk] at LA
   have HLK := Lib.hid hlk
   clear hlk
   obtain ⟨rest, hl8, hlN, hlc, hlb⟩ := LA
   have hs1 : ∀ j v', (U8 (adr g.c))[j]? = some v' → wa.cell? ((⟨ba, oa, none⟩ : Addr).add j) = some v' := fun j v' hj => by have hj2 : j < 2 := (by have := (List.getElem?_eq_some_iff.1 hj).1; simpa [U8, adr] using this); have h0 := hra2 j (by simpa [adr] using hj2); have e : (⟨ba, oa, none⟩ : Addr).add j = ⟨ba, oa + j, none⟩ := (by unfold Addr.add; split <;> simp_all); rw [e]; exact h0.trans hj
   have hs2 : (U8 (adr g.c)).length = Nat.min 2 (N - 6) := by rw [U8_length]; show 2 = Nat.min 2 (N - 6); exact (Nat.min_eq_left (by omega)).symm
   have hs3 : 6 + (U8 (adr g.c)).length ≤ (U8 l ++ rest).length := by rw [List.length_append, U8_length, U8_length, hlN]; show 6 + 2 ≤ _; omega
   refine wp_copyR wa (.tmp 37) (.tmp 39) 26 26 rfl 5 Tryz.underlying26 size_u8 gr 6 (N - 6) (cr - 6) ⟨ba, oa, none⟩ 2 ca rfl rfl (U8 l ++ rest) u hlc (U8 (adr g.c)) hs2 hs1 hs3 (U8_one _) ?_
   intro wb hwb
   have LB := Lib.hid (show Lay gr N u (parK g N 4) w wb by rw [hwb, ← parK_step g N 3 g.c (by omega) rfl, ← HLK.out]; exact Lay.put hgw (adr g.c) 6 (adr_lt _) (by simp [adr]; omega) hl8 hlN hlc hlb)
   clear hwb
   refine hK.out _ _ ⟨_, LB.out⟩ (fun C2 => ?_)
   clear hK K
   try simp only [Act.put, zzI, zzO, zzS]
   refine wpAnyH_done (by kernel_rfl) ?_ _
   refine NoPanic.normal ?_
   go_wp2
   go_roundw
   case rel => exact ⟨4, by omega, rfl, LB⟩
   case measure => simp [intOf]
  ·
   have hwk : IntKind.i64.wrap 8 = 8 := by decide
   have hle : (8 : Int) ≤ (N : Int) := by omega
   have hcr : (cr = 8) = False := eq_false (by omega)
   rw [show ((4 : Nat) : Int) = (4 : Int) from rfl]
   have HIX : (Instr.index 95 (.agg #[.int .i64 g.p, .int .i64 g.b, .int .i64 g.s, .int .i64 g.c, .int .i64 g.k, .int .i64 g.r, .int .i64 g.q]) (.int .i64 4)).run Tryz.prog wr = .ok (.int .i64 g.k) wr := by kernel_rfl
   go_wp2_with fail
   refine wp_region_noPanic ?_
   refine wp_region_held_drew (S := fun w' => ∃ l, Lay gr N u l w w') (by kernel_rfl) ⟨_, HL2.out.below ((Below.refl _ _).drew)⟩ (fun C0 => ?_)
   refine tkH4 0 C0 ?_
   refine tkH4 1 C0 ?_
   refine tkH4 2 C0 ?_
   refine tkH4 3 C0 ?_
   refine tkH4 4 C0 ?_
   refine wpAnyH_ready (rs := [5]) (by kernel_rfl) (by simp) ?_
   refine AllReadyH.cons (o := zOc0) rfl (fun K hK => ?_) AllReadyH.nil
   dsimp only [zOc0]
   go_simp
   refine (HAD.out g.k _).mono ?_
   rintro _ wa ⟨Aa, ca, rfl, hra, hba⟩
   have LA := Lib.hid ((HL2.out.below ((Below.refl _ _).drew)).below hba)
   obtain ⟨ba, oa, hAa, hra1, hra2⟩ := hra.1.2 (by simp [adr])
   subst hAa
   clear hba
   go_wp2_with fail
   refine hK.out _ _ ⟨_, LA.out⟩ (fun C1 => ?_)
   clear hK K
   try simp only [Act.put, zzI, zzO, zzS]
   refine wpAnyH_ready (rs := [6]) (by kernel_rfl) (by simp) ?_
   refine AllReadyH.cons (o := zOc1) rfl (fun K hK => ?_) AllReadyH.nil
   dsimp only [zOc1]
   obtain ⟨l, hlk⟩ : ∃ l, l = parK g N 4 := ⟨_, rfl⟩
   have LA := LA.out
   rw [← hlk] at LA
   have HLK := Lib.hid hlk
   clear hlk
   obtain ⟨rest, hl8, hlN, hlc, hlb⟩ := LA
   have hs1 : ∀ j v', (U8 (adr g.k))[j]? = some v' → wa.cell? ((⟨ba, oa, none⟩ : Addr).add j) = some v' := fun j v' hj => by have hj2 : j < 2 := (by have := (List.getElem?_eq_some_iff.1 hj).1; simpa [U8, adr] using this); have h0 := hra2 j (by simpa [adr] using hj2); have e : (⟨ba, oa, none⟩ : Addr).add j = ⟨ba, oa + j, none⟩ := (by unfold Addr.add; split <;> simp_all); rw [e]; exact h0.trans hj
   have hs2 : (U8 (adr g.k)).length = Nat.min 2 (N - 8) := by rw [U8_length]; show 2 = Nat.min 2 (N - 8); exact (Nat.min_eq_left (by omega)).symm
   have hs3 : 8 + (U8 (adr g.k)).length ≤ (U8 l ++ rest).length := by rw [List.length_append, U8_length, U8_length, hlN]; show 8 + 2 ≤ _; omega
   refine wp_copyR wa (.tmp 37) (.tmp 39) 26 26 rfl 5 Tryz.underlying26 size_u8 gr 8 (N - 8) (cr - 8) ⟨ba, oa, none⟩ 2 ca rfl rfl (U8 l ++ rest) u hlc (U8 (adr g.k)) hs2 hs1 hs3 (U8_one _) ?_
   intro wb hwb
   have LB := Lib.hid (show Lay gr N u (parK g N 5) w wb by rw [hwb, ← parK_step g N 4 g.k (by omega) rfl, ← HLK.out]; exact Lay.put hgw (adr g.k) 8 (adr_lt _) (by simp [adr]; omega) hl8 hlN hlc hlb)
   clear hwb
   refine hK.out _ _ ⟨_, LB.out⟩ (fun C2 => ?_)
   clear hK K
   try simp only [Act.put, zzI, zzO, zzS]
   refine wpAnyH_done (by kernel_rfl) ?_ _
   refine NoPanic.normal ?_
   go_wp2
   go_roundw
   case rel => exact ⟨5, by omega, rfl, LB⟩
   case measure => simp [intOf]
  ·
   have hwk : IntKind.i64.wrap 10 = 10 := by decide
   have hle : (10 : Int) ≤ (N : Int) := by omega
   have hcr : (cr = 10) = False := eq_false (by omega)
   rw [show ((5 : Nat) : Int) = (5 : Int) from rfl]
   have HIX : (Instr.index 95 (.agg #[.int .i64 g.p, .int .i64 g.b, .int .i64 g.s, .int .i64 g.c, .int .i64 g.k, .int .i64 g.r, .int .i64 g.q]) (.int .i64 5)).run Tryz.prog wr = .ok (.int .i64 g.r) wr := by kernel_rfl
   go_wp2_with fail
   refine wp_region_noPanic ?_
   refine wp_region_held_drew (S := fun w' => ∃ l, Lay gr N u l w w') (by kernel_rfl) ⟨_, HL2.out.below ((Below.refl _ _).drew)⟩ (fun C0 => ?_)
   refine tkH4 0 C0 ?_
   refine tkH4 1 C0 ?_
   refine tkH4 2 C0 ?_
   refine tkH4 3 C0 ?_
   refine tkH4 4 C0 ?_
   refine wpAnyH_ready (rs := [5]) (by kernel_rfl) (by simp) ?_
   refine AllReadyH.cons (o := zOc0) rfl (fun K hK => ?_) AllReadyH.nil
   dsimp only [zOc0]
   go_simp
   refine (HAD.out g.r _).mono ?_
   rintro _ wa ⟨Aa, ca, rfl, hra, hba⟩
   have LA := Lib.hid ((HL2.out.below ((Below.refl _ _).drew)).below hba)
   obtain ⟨ba, oa, hAa, hra1, hra2⟩ := hra.1.2 (by simp [adr])
   subst hAa
   clear hba
   go_wp2_with fail
   refine hK.out _ _ ⟨_, LA.out⟩ (fun C1 => ?_)
   clear hK K
   try simp only [Act.put, zzI, zzO, zzS]
   refine wpAnyH_ready (rs := [6]) (by kernel_rfl) (by simp) ?_
   refine AllReadyH.cons (o := zOc1) rfl (fun K hK => ?_) AllReadyH.nil
   dsimp only [zOc1]
   obtain ⟨l, hlk⟩ : ∃ l, l = parK g N 5 := ⟨_, rfl⟩
   have LA := LA.out
   rw [← hlk] at LA
   have HLK := Lib.hid hlk
   clear hlk
   obtain ⟨rest, hl8, hlN, hlc, hlb⟩ := LA
   have hs1 : ∀ j v', (U8 (adr g.r))[j]? = some v' → wa.cell? ((⟨ba, oa, none⟩ : Addr).add j) = some v' := fun j v' hj => by have hj2 : j < 2 := (by have := (List.getElem?_eq_some_iff.1 hj).1; simpa [U8, adr] using this); have h0 := hra2 j (by simpa [adr] using hj2); have e : (⟨ba, oa, none⟩ : Addr).add j = ⟨ba, oa + j, none⟩ := (by unfold Addr.add; split <;> simp_all); rw [e]; exact h0.trans hj
   have hs2 : (U8 (adr g.r)).length = Nat.min 2 (N - 10) := by rw [U8_length]; show 2 = Nat.min 2 (N - 10); exact (Nat.min_eq_left (by omega)).symm
   have hs3 : 10 + (U8 (adr g.r)).length ≤ (U8 l ++ rest).length := by rw [List.length_append, U8_length, U8_length, hlN]; show 10 + 2 ≤ _; omega
   refine wp_copyR wa (.tmp 37) (.tmp 39) 26 26 rfl 5 Tryz.underlying26 size_u8 gr 10 (N - 10) (cr - 10) ⟨ba, oa, none⟩ 2 ca rfl rfl (U8 l ++ rest) u hlc (U8 (adr g.r)) hs2 hs1 hs3 (U8_one _) ?_
   intro wb hwb
   have LB := Lib.hid (show Lay gr N u (parK g N 6) w wb by rw [hwb, ← parK_step g N 5 g.r (by omega) rfl, ← HLK.out]; exact Lay.put hgw (adr g.r) 10 (adr_lt _) (by simp [adr]; omega) hl8 hlN hlc hlb)
   clear hwb
   refine hK.out _ _ ⟨_, LB.out⟩ (fun C2 => ?_)
   clear hK K
   try simp only [Act.put, zzI, zzO, zzS]
   refine wpAnyH_done (by kernel_rfl) ?_ _
   refine NoPanic.normal ?_
   go_wp2
   go_roundw
   case rel => exact ⟨6, by omega, rfl, LB⟩
   case measure => simp [intOf]
  ·
   have hwk : IntKind.i64.wrap 12 = 12 := by decide
   have hle : (12 : Int) ≤ (N : Int) := by omega
   have hcr : (cr = 12) = False := eq_false (by omega)
   rw [show ((6 : Nat) : Int) = (6 : Int) from rfl]
   have HIX : (Instr.index 95 (.agg #[.int .i64 g.p, .int .i64 g.b, .int .i64 g.s, .int .i64 g.c, .int .i64 g.k, .int .i64 g.r, .int .i64 g.q]) (.int .i64 6)).run Tryz.prog wr = .ok (.int .i64 g.q) wr := by kernel_rfl
   go_wp2_with fail
   refine wp_region_noPanic ?_
   refine wp_region_held_drew (S := fun w' => ∃ l, Lay gr N u l w w') (by kernel_rfl) ⟨_, HL2.out.below ((Below.refl _ _).drew)⟩ (fun C0 => ?_)
   refine tkH4 0 C0 ?_
   refine tkH4 1 C0 ?_
   refine tkH4 2 C0 ?_
   refine tkH4 3 C0 ?_
   refine tkH4 4 C0 ?_
   refine wpAnyH_ready (rs := [5]) (by kernel_rfl) (by simp) ?_
   refine AllReadyH.cons (o := zOc0) rfl (fun K hK => ?_) AllReadyH.nil
   dsimp only [zOc0]
   go_simp
   refine (HAD.out g.q _).mono ?_
   rintro _ wa ⟨Aa, ca, rfl, hra, hba⟩
   have LA := Lib.hid ((HL2.out.below ((Below.refl _ _).drew)).below hba)
   obtain ⟨ba, oa, hAa, hra1, hra2⟩ := hra.1.2 (by simp [adr])
   subst hAa
   clear hba
   go_wp2_with fail
   refine hK.out _ _ ⟨_, LA.out⟩ (fun C1 => ?_)
   clear hK K
   try simp only [Act.put, zzI, zzO, zzS]
   refine wpAnyH_ready (rs := [6]) (by kernel_rfl) (by simp) ?_
   refine AllReadyH.cons (o := zOc1) rfl (fun K hK => ?_) AllReadyH.nil
   dsimp only [zOc1]
   obtain ⟨l, hlk⟩ : ∃ l, l = parK g N 6 := ⟨_, rfl⟩
   have LA := LA.out
   rw [← hlk] at LA
   have HLK := Lib.hid hlk
   clear hlk
   obtain ⟨rest, hl8, hlN, hlc, hlb⟩ := LA
   have hs1 : ∀ j v', (U8 (adr g.q))[j]? = some v' → wa.cell? ((⟨ba, oa, none⟩ : Addr).add j) = some v' := fun j v' hj => by have hj2 : j < 2 := (by have := (List.getElem?_eq_some_iff.1 hj).1; simpa [U8, adr] using this); have h0 := hra2 j (by simpa [adr] using hj2); have e : (⟨ba, oa, none⟩ : Addr).add j = ⟨ba, oa + j, none⟩ := (by unfold Addr.add; split <;> simp_all); rw [e]; exact h0.trans hj
   have hs2 : (U8 (adr g.q)).length = Nat.min 2 (N - 12) := by rw [U8_length]; show 2 = Nat.min 2 (N - 12); exact (Nat.min_eq_left (by omega)).symm
   have hs3 : 12 + (U8 (adr g.q)).length ≤ (U8 l ++ rest).length := by rw [List.length_append, U8_length, U8_length, hlN]; show 12 + 2 ≤ _; omega
   refine wp_copyR wa (.tmp 37) (.tmp 39) 26 26 rfl 5 Tryz.underlying26 size_u8 gr 12 (N - 12) (cr - 12) ⟨ba, oa, none⟩ 2 ca rfl rfl (U8 l ++ rest) u hlc (U8 (adr g.q)) hs2 hs1 hs3 (U8_one _) ?_
   intro wb hwb
   have LB := Lib.hid (show Lay gr N u (parK g N 7) w wb by rw [hwb, ← parK_step g N 6 g.q (by omega) rfl, ← HLK.out]; exact Lay.put hgw (adr g.q) 12 (adr_lt _) (by simp [adr]; omega) hl8 hlN hlc hlb)
   clear hwb
   refine hK.out _ _ ⟨_, LB.out⟩ (fun C2 => ?_)
   clear hK K
   try simp only [Act.put, zzI, zzO, zzS]
   refine wpAnyH_done (by kernel_rfl) ?_ _
   refine NoPanic.normal ?_
   go_wp2
   go_roundw
   case rel => exact ⟨7, by omega, rfl, LB⟩
   case measure => simp [intOf]
  ·
   rw [show ((7 : Nat) : Int) = 7 from rfl]
   go_wp2
   obtain ⟨l, hlk⟩ : ∃ l, l = parK g N 7 := ⟨_, rfl⟩
   have HL3 := HL2.out
   rw [← hlk] at HL3
   have HLK := Lib.hid hlk
   clear hlk
   obtain ⟨rest, hl8, hlN, hlc, hlb⟩ := HL3
   go_ret
   refine ⟨gr, cr, _, u, l, rfl, hgw, hlc, ?_, hlN, HLK.out, hlb⟩
   refine ⟨⟨by rw [U8_length]; exact hlN, fun _ => ⟨gr, 0, rfl, hlc.lt, fun j hj => ?_⟩⟩, hl8⟩
   rw [hlc.cell]
   simp [List.getElem?_append_left, U8_length, hlN, hj]
end
section
variable {ρ : Nat → Nat} {I J : Nat → Prop} {w w' : World} {p : Nat} {g : Gm} {s : Sc} {c : Ch} {m : Cm}
def Ch.addr (s : Sc) (c : Ch) (b : Nat) (l : List Nat) : Bool × Ch :=
 if c.lists b = false then (false, c)
 else if c.state = 2 then (true, (c.push b).enter 3)
 else if c.state = 4 then (true, (({ (c.push b).newReg l with col := 0 } : Ch).discard.pend false 0 [] []).begun s)
 else if c.state = 9 ∧ c.listed.length + 1 = 4 then (true, { c.push b with col := (c.push b).addr2 0 })
 else (true, c.push b)
def ActsA (I : Nat → Prop) (p : Nat) (g : Gm) (s : Sc) (c : Ch) (b : Nat) (w : World) (e : Ending) (w' : World) : Prop := ∃ l : List Nat, l = parL g ∧ Acts I p g s (.bool (c.addr s b l).1) (c.addr s b l).2 w e w'
theorem ActsA.of {b : Nat} {e : Ending} {c' : Ch} (h0 : e = .returned (.bool true)) (h1 : CH I w' p g s c') (h2 : Btw I w w') (h : ∃ l : List Nat, l = parL g ∧ c.addr s b l = (true, c')) : ActsA I p g s c b w e w' := by
 obtain ⟨l, hl, e1⟩ := h
 refine ⟨l, hl, ?_⟩
 rw [e1]
 exact ⟨h0, h1, h2⟩
set_option maxHeartbeats 8000000 in
theorem address_any (b : Nat) (hb8 : b < 256) (hs : SG g s) (hz : c.bz ≤ 1099511627776) (hf : c.fit g) (hst : c.state ≤ 10) (h : CH I w p g s c) : Calls Tryz.prog 118 #[.pointer (some ⟨p, 0, none⟩), .int .u8 (b : Int)] w (ActsA I p g s c b w) := by
 obtain ⟨ρ, m, hc, hp, hi⟩ := h
 have QC := Lib.hid hc
 have QP := Lib.hid hp
 have QI := Lib.hid hi
 have O1 := Lib.hid hp.lis
 have LL := Lib.hid hf.ls
 have BB := Lib.hid hb8
 have NP := Lib.hid (show ¬ (Value.slice m.aL c.listed.length m.cL).ownBlock = some p from fun e => by have h6 := hp.rl p e; have := hp.rp; omega)
 have HS := Lib.hid hs
 have HZ := Lib.hid hz
 have HRW := Lib.hid hp.raw_
 have hli := lists_any (w := w) b hb8 hst (by have := hf.ls; omega) hc
 obtain ⟨t, ht⟩ : ∃ t, t = c.state := ⟨_, rfl⟩
 have HT := Lib.hid ht
 cases hb : c.lists b with
 | false =>
  rw [hb] at hli
  have HLI := Lib.hid hli
  have HB := Lib.hid hb
  clear hc hp hi hs hz hf hb8 hst ht hli hb
  go_enter Tryz.func118, Tryz.ntmps118
  go_wp2_with fail
  refine HLI.out.mono ?_
  rintro _ w1 ⟨rfl, h1⟩
  have B1 := Lib.hid h1
  have C1 := Lib.hid (QC.out.below h1)
  have P1 := Lib.hid (QP.out.below h1)
  have I1 := Lib.hid (QI.out.grow h1.size)
  clear h1
  go_wp2
  go_ret
  refine ⟨parL g, by simp, ?_⟩
  have e : c.addr s b (parL g) = (false, c) := by unfold Ch.addr; rw [if_pos HB.out]
  rw [e]
  exact ⟨rfl, ⟨ρ, m, C1.out, P1.out, I1.out⟩, Btw.of_below B1.out⟩
 | true =>
  rw [hb] at hli
  have HLI := Lib.hid hli
  have HB := Lib.hid (show ¬ c.lists b = false by rw [hb]; simp)
  by_cases h2 : t = 2
  ·
   have HE := Lib.hid (show c.addr s b (parL g) = (true, (c.push b).enter 3) by unfold Ch.addr; rw [if_neg HB.out, if_pos (by omega)])
   clear hc hp hi hs hz hf hb8 hst ht hli hb
   subst h2
   go_enter Tryz.func118, Tryz.ntmps118
   go_wp2_with fail
   refine HLI.out.mono ?_
   rintro _ w1 ⟨rfl, h1⟩
   have B1 := Lib.hid h1
   have C1 := Lib.hid (QC.out.below h1)
   have P1 := Lib.hid (QP.out.below h1)
   have I1 := Lib.hid (QI.out.grow h1.size)
   clear h1
   have y1 : w1.cell? ⟨p, 1, none⟩ = some (.slice m.aL c.listed.length m.cL) := C1.out.cell_at 1 _ rfl
   go_wp2_with (at_builtin; refine wpList_append8A (w1.alloc (.cells #[.int .u8 (b : Int)] 5)) rfl (.tmp 14) (.tmp 16) rfl 0 _ c.listed rfl (P1.out.lis.alloc _) ⟨w1.heap.size, 0, none⟩ 1 1 [b] rfl (r8_one w1 b BB.out _) (by have := LL.out; omega) (Nat.zero_le _) ?_)
   intro v3 w3 hown hg hwh
   obtain ⟨A3, c3, rfl⟩ := own_form1 hown
   obtain ⟨ρ4, hc4, hp4, hi4, hb4⟩ := CH.pushed (I := I) b BB.out C1.out P1.out I1.out hown hg hwh
   have C4 := Lib.hid (show CRow _ p 72 (chCells g (c.push b) _) from hc4)
   have P4 := Lib.hid (show Pt ρ4 _ p g s (c.push b) _ from hp4)
   have I4 := Lib.hid hi4
   have B4 := Lib.hid ((Btw.of_below (I := I) B1.out).trans hb4 fun _ _ h => h)
   have T3 := Lib.hid (show CRow w3 p 72 (chCells g c m) from ((C1.out).alloc _).btw (I := fun j => (Value.slice m.aL c.listed.length m.cL).ownBlock = some j) (Btw.of_grown hg (fun _ h => h)) (fun h => NP.out h))
   have z1 := T3.out.cell_at 1 (.slice m.aL c.listed.length m.cL) rfl
   have f1 := T3.out.frozen 1
   have z0 : w3.cell? ⟨p, 0, none⟩ = some (.int .i64 2) := by have h0 := T3.out.cell_at 0 (.int .i64 (c.state : Int)) rfl; rw [← HT.out] at h0; exact h0
   clear hown hg hwh y1 hc4 hp4 hi4 hb4
   go_wp2_with fail
   refine (enter_ch (c := c.push b) 3 ⟨ρ4, _, C4.out, P4.out, I4.out⟩).mono ?_
   rintro _ w5 ⟨rfl, h5, hb5⟩
   have H5 := Lib.hid h5
   have B5 := Lib.hid (B4.out.trans hb5 fun _ _ h => h)
   clear h5 hb5 z1 f1 z0
   go_wp2
   go_ret
   exact ActsA.of rfl H5.out B5.out ⟨parL g, by simp, HE.out⟩
  ·
   by_cases h4 : t = 4
   ·
    have HE := Lib.hid (fun l => show c.addr s b l = (true, (({ (c.push b).newReg l with col := 0 } : Ch).discard.pend false 0 [] []).begun s) by unfold Ch.addr; rw [if_neg HB.out, if_neg (by omega), if_pos (by omega)])
    clear hc hp hi hs hz hf hb8 hst ht hli hb h2
    subst h4
    go_enter Tryz.func118, Tryz.ntmps118
    go_wp2_with fail
    refine HLI.out.mono ?_
    rintro _ w1 ⟨rfl, h1⟩
    have B1 := Lib.hid h1
    have C1 := Lib.hid (QC.out.below h1)
    have P1 := Lib.hid (QP.out.below h1)
    have I1 := Lib.hid (QI.out.grow h1.size)
    clear h1
    have y1 : w1.cell? ⟨p, 1, none⟩ = some (.slice m.aL c.listed.length m.cL) := C1.out.cell_at 1 _ rfl
    go_wp2_with (at_builtin; refine wpList_append8A (w1.alloc (.cells #[.int .u8 (b : Int)] 5)) rfl (.tmp 14) (.tmp 16) rfl 0 _ c.listed rfl (P1.out.lis.alloc _) ⟨w1.heap.size, 0, none⟩ 1 1 [b] rfl (r8_one w1 b BB.out _) (by have := LL.out; omega) (Nat.zero_le _) ?_)
    intro v3 w3 hown hg hwh
    obtain ⟨A3, c3, rfl⟩ := own_form1 hown
    obtain ⟨ρ4, hc4, hp4, hi4, hb4⟩ := CH.pushed (I := I) b BB.out C1.out P1.out I1.out hown hg hwh
    have C4 := Lib.hid (show CRow _ p 72 (chCells g (c.push b) _) from hc4)
    have P4 := Lib.hid (show Pt ρ4 _ p g s (c.push b) _ from hp4)
    have I4 := Lib.hid hi4
    have B4 := Lib.hid ((Btw.of_below (I := I) B1.out).trans hb4 fun _ _ h => h)
    have T3 := Lib.hid (show CRow w3 p 72 (chCells g c m) from ((C1.out).alloc _).btw (I := fun j => (Value.slice m.aL c.listed.length m.cL).ownBlock = some j) (Btw.of_grown hg (fun _ h => h)) (fun h => NP.out h))
    have z1 := T3.out.cell_at 1 (.slice m.aL c.listed.length m.cL) rfl
    have f1 := T3.out.frozen 1
    have z0 : w3.cell? ⟨p, 0, none⟩ = some (.int .i64 4) := by have h0 := T3.out.cell_at 0 (.int .i64 (c.state : Int)) rfl; rw [← HT.out] at h0; exact h0
    clear hown hg hwh y1 hc4 hp4 hi4 hb4
    go_wp2_with fail
    refine (parameters_any g.raw.toNat HRW.out.1 HRW.out.2.1 (by have := HRW.out.2.2; omega) C4.out).mono ?_
    rintro _ w5 ⟨gr, cr, cur, u, l, rfl, hgr, hrow, hr8, hll, hlp, hb5⟩
    have HLP := Lib.hid (show l = parL g from hlp)
    have C5 := Lib.hid (C4.out.below hb5)
    have P5 := Lib.hid (P4.out.newReg hb5 gr cr cur u l hgr hrow (by rw [hll]; exact hr8) hll)
    have I5 := Lib.hid (I4.out.one hb5.size gr 7 hgr)
    have B5 := Lib.hid (B4.out.trans (Btw.of_below hb5) fun _ _ h => h)
    have HLL := Lib.hid hll
    clear hgr hrow hr8 hll hlp hb5 z1 f1 z0
    have x5 : w5.cell? ⟨p, 5, none⟩ = some (.slice m.aR c.reg.length m.cR) := C5.out.cell_at 5 _ rfl
    have f5 := C5.out.frozen 5
    have x4 : w5.cell? ⟨p, 4, none⟩ = some (.int .i64 (c.col : Int)) := C5.out.cell_at 4 _ rfl
    have f4 := C5.out.frozen 4
    have H6 := Lib.hid (CH.of' (I := I) (c' := { (c.push b).newReg l with col := 0 }) (w' := (w5.setCell ⟨p, 5, none⟩ (.slice (some ⟨gr, 0, none⟩) g.raw.toNat cr)).setCell ⟨p, 4, none⟩ (.int .i64 0)) (by
     have h0 := (C5.out.setCell 5 (.slice (some ⟨gr, 0, none⟩) g.raw.toNat cr)).setCell 4 (.int .i64 0)
     simpa [chCells, Ch.newReg, Cm.newReg, Ch.push, HLL.out] using h0) P5.out I5.out (((Btw.refl (I := fun j => j = p) _).setCell (p := ⟨p, 5, none⟩) rfl).setCell (p := ⟨p, 4, none⟩) rfl) fun W h => { h with })
    go_wp2_with fail
    refine (start_ch (c := { (c.push b).newReg l with col := 0 }) false 0 HS.out HZ.out H6.out.1).mono ?_
    rintro _ w7 ⟨rfl, h7, hb7⟩
    have H7 := Lib.hid h7
    have B7 := Lib.hid ((B5.out.trans H6.out.2 fun _ _ h => h).trans hb7 fun _ _ h => h)
    clear h7 hb7 x5 f5 x4 f4
    go_wp2
    go_ret
    exact ActsA.of rfl H7.out B7.out ⟨l, HLP.out, HE.out l⟩
   ·
    by_cases h9 : t = 9
    ·
     by_cases hn : c.listed.length + 1 = 4
     ·
      have HE := Lib.hid (show c.addr s b (parL g) = (true, { c.push b with col := (c.push b).addr2 0 }) by unfold Ch.addr; rw [if_neg HB.out, if_neg (by omega), if_neg (by omega), if_pos ⟨by omega, by omega⟩])
      have HN := Lib.hid hn
      have e1 : ((c.listed.length : Nat) : Int) + 1 = 4 := by omega
      clear hc hp hi hs hz hf hb8 hst ht hli hb h2 h4 hn
      subst h9
      go_enter Tryz.func118, Tryz.ntmps118
      go_wp2_with fail
      refine HLI.out.mono ?_
      rintro _ w1 ⟨rfl, h1⟩
      have B1 := Lib.hid h1
      have C1 := Lib.hid (QC.out.below h1)
      have P1 := Lib.hid (QP.out.below h1)
      have I1 := Lib.hid (QI.out.grow h1.size)
      clear h1
      have y1 : w1.cell? ⟨p, 1, none⟩ = some (.slice m.aL c.listed.length m.cL) := C1.out.cell_at 1 _ rfl
      go_wp2_with (at_builtin; refine wpList_append8A (w1.alloc (.cells #[.int .u8 (b : Int)] 5)) rfl (.tmp 14) (.tmp 16) rfl 0 _ c.listed rfl (P1.out.lis.alloc _) ⟨w1.heap.size, 0, none⟩ 1 1 [b] rfl (r8_one w1 b BB.out _) (by have := LL.out; omega) (Nat.zero_le _) ?_)
      intro v3 w3 hown hg hwh
      obtain ⟨A3, c3, rfl⟩ := own_form1 hown
      obtain ⟨ρ4, hc4, hp4, hi4, hb4⟩ := CH.pushed (I := I) b BB.out C1.out P1.out I1.out hown hg hwh
      have C4 := Lib.hid (show CRow _ p 72 (chCells g (c.push b) _) from hc4)
      have P4 := Lib.hid (show Pt ρ4 _ p g s (c.push b) _ from hp4)
      have I4 := Lib.hid hi4
      have B4 := Lib.hid ((Btw.of_below (I := I) B1.out).trans hb4 fun _ _ h => h)
      have T3 := Lib.hid (show CRow w3 p 72 (chCells g c m) from ((C1.out).alloc _).btw (I := fun j => (Value.slice m.aL c.listed.length m.cL).ownBlock = some j) (Btw.of_grown hg (fun _ h => h)) (fun h => NP.out h))
      have z1 := T3.out.cell_at 1 (.slice m.aL c.listed.length m.cL) rfl
      have f1 := T3.out.frozen 1
      have z0 : w3.cell? ⟨p, 0, none⟩ = some (.int .i64 9) := by have h0 := T3.out.cell_at 0 (.int .i64 (c.state : Int)) rfl; rw [← HT.out] at h0; exact h0
      clear hown hg hwh y1 hc4 hp4 hi4 hb4
      go_wp2_with fail
      refine (listedColumn_any (c := c.push b) (by have := HN.out; simp [Ch.push]; omega) P4.out C4.out).mono ?_
      rintro _ w5 ⟨rfl, h5⟩
      have C5 := Lib.hid (C4.out.below h5)
      have P5 := Lib.hid (P4.out.below h5)
      have I5 := Lib.hid (I4.out.grow h5.size)
      have B5 := Lib.hid (B4.out.trans (Btw.of_below h5) fun _ _ h => h)
      clear h5 z1 f1 z0
      have x4 : w5.cell? ⟨p, 4, none⟩ = some (.int .i64 (c.col : Int)) := C5.out.cell_at 4 _ rfl
      have f4 := C5.out.frozen 4
      have H6 := Lib.hid (CH.of (I := I) (c' := { c.push b with col := (c.push b).addr2 0 }) (w' := w5.setCell ⟨p, 4, none⟩ (.int .i64 ((c.push b).addr2 0 : Int))) (by
       have h0 := C5.out.setCell 4 (.int .i64 ((c.push b).addr2 0 : Int))
       simpa [chCells] using h0) P5.out I5.out ((Btw.refl (I := fun j => j = p) _).setCell (p := ⟨p, 4, none⟩) rfl) fun W h => { h with })
      go_wp2
      go_ret
      exact ActsA.of rfl H6.out.1 (B5.out.trans H6.out.2 fun _ _ h => h) ⟨parL g, by simp, HE.out⟩
     ·
      have HE := Lib.hid (show c.addr s b (parL g) = (true, c.push b) by unfold Ch.addr; rw [if_neg HB.out, if_neg (by omega), if_neg (by omega), if_neg (by omega)])
      have b0 : (((c.listed.length : Nat) : Int) + 1 == 4) = false := by simp; omega
      have j0 : (((c.listed.length : Nat) : Int) + 1 = 4) = False := eq_false (by omega)
      have d0 : decide (((c.listed.length : Nat) : Int) + 1 = 4) = false := decide_eq_false (by omega)
      clear hc hp hi hs hz hf hb8 hst ht hli hb h2 h4 hn
      subst h9
      go_enter Tryz.func118, Tryz.ntmps118
      go_wp2_with fail
      refine HLI.out.mono ?_
      rintro _ w1 ⟨rfl, h1⟩
      have B1 := Lib.hid h1
      have C1 := Lib.hid (QC.out.below h1)
      have P1 := Lib.hid (QP.out.below h1)
      have I1 := Lib.hid (QI.out.grow h1.size)
      clear h1
      have y1 : w1.cell? ⟨p, 1, none⟩ = some (.slice m.aL c.listed.length m.cL) := C1.out.cell_at 1 _ rfl
      go_wp2_with (at_builtin; refine wpList_append8A (w1.alloc (.cells #[.int .u8 (b : Int)] 5)) rfl (.tmp 14) (.tmp 16) rfl 0 _ c.listed rfl (P1.out.lis.alloc _) ⟨w1.heap.size, 0, none⟩ 1 1 [b] rfl (r8_one w1 b BB.out _) (by have := LL.out; omega) (Nat.zero_le _) ?_)
      intro v3 w3 hown hg hwh
      obtain ⟨A3, c3, rfl⟩ := own_form1 hown
      obtain ⟨ρ4, hc4, hp4, hi4, hb4⟩ := CH.pushed (I := I) b BB.out C1.out P1.out I1.out hown hg hwh
      have C4 := Lib.hid (show CRow _ p 72 (chCells g (c.push b) _) from hc4)
      have P4 := Lib.hid (show Pt ρ4 _ p g s (c.push b) _ from hp4)
      have I4 := Lib.hid hi4
      have B4 := Lib.hid ((Btw.of_below (I := I) B1.out).trans hb4 fun _ _ h => h)
      have T3 := Lib.hid (show CRow w3 p 72 (chCells g c m) from ((C1.out).alloc _).btw (I := fun j => (Value.slice m.aL c.listed.length m.cL).ownBlock = some j) (Btw.of_grown hg (fun _ h => h)) (fun h => NP.out h))
      have z1 := T3.out.cell_at 1 (.slice m.aL c.listed.length m.cL) rfl
      have f1 := T3.out.frozen 1
      have z0 : w3.cell? ⟨p, 0, none⟩ = some (.int .i64 9) := by have h0 := T3.out.cell_at 0 (.int .i64 (c.state : Int)) rfl; rw [← HT.out] at h0; exact h0
      clear hown hg hwh y1 hc4 hp4 hi4 hb4
      go_wp2
      go_ret
      exact ActsA.of rfl ⟨ρ4, _, C4.out, P4.out, I4.out⟩ B4.out ⟨parL g, by simp, HE.out⟩
    ·
     have HE := Lib.hid (show c.addr s b (parL g) = (true, c.push b) by unfold Ch.addr; rw [if_neg HB.out, if_neg (by omega), if_neg (by omega), if_neg (by omega)])
     have b2 : ((t : Int) == 2) = false := by simp; omega
     have j2 : ((t : Int) = 2) = False := eq_false (by omega)
     have d2 : decide ((t : Int) = 2) = false := decide_eq_false (by omega)
     have b4 : ((t : Int) == 4) = false := by simp; omega
     have j4 : ((t : Int) = 4) = False := eq_false (by omega)
     have d4 : decide ((t : Int) = 4) = false := decide_eq_false (by omega)
     have b9 : ((t : Int) == 9) = false := by simp; omega
     have j9 : ((t : Int) = 9) = False := eq_false (by omega)
     have d9 : decide ((t : Int) = 9) = false := decide_eq_false (by omega)
     clear hc hp hi hs hz hf hb8 hst ht hli hb h2 h4 h9
     go_enter Tryz.func118, Tryz.ntmps118
     go_wp2_with fail
     refine HLI.out.mono ?_
     rintro _ w1 ⟨rfl, h1⟩
     have B1 := Lib.hid h1
     have C1 := Lib.hid (QC.out.below h1)
     have P1 := Lib.hid (QP.out.below h1)
     have I1 := Lib.hid (QI.out.grow h1.size)
     clear h1
     have y1 : w1.cell? ⟨p, 1, none⟩ = some (.slice m.aL c.listed.length m.cL) := C1.out.cell_at 1 _ rfl
     go_wp2_with (at_builtin; refine wpList_append8A (w1.alloc (.cells #[.int .u8 (b : Int)] 5)) rfl (.tmp 14) (.tmp 16) rfl 0 _ c.listed rfl (P1.out.lis.alloc _) ⟨w1.heap.size, 0, none⟩ 1 1 [b] rfl (r8_one w1 b BB.out _) (by have := LL.out; omega) (Nat.zero_le _) ?_)
     intro v3 w3 hown hg hwh
     obtain ⟨A3, c3, rfl⟩ := own_form1 hown
     obtain ⟨ρ4, hc4, hp4, hi4, hb4⟩ := CH.pushed (I := I) b BB.out C1.out P1.out I1.out hown hg hwh
     have C4 := Lib.hid (show CRow _ p 72 (chCells g (c.push b) _) from hc4)
     have P4 := Lib.hid (show Pt ρ4 _ p g s (c.push b) _ from hp4)
     have I4 := Lib.hid hi4
     have B4 := Lib.hid ((Btw.of_below (I := I) B1.out).trans hb4 fun _ _ h => h)
     have T3 := Lib.hid (show CRow w3 p 72 (chCells g c m) from ((C1.out).alloc _).btw (I := fun j => (Value.slice m.aL c.listed.length m.cL).ownBlock = some j) (Btw.of_grown hg (fun _ h => h)) (fun h => NP.out h))
     have z1 := T3.out.cell_at 1 (.slice m.aL c.listed.length m.cL) rfl
     have f1 := T3.out.frozen 1
     have z0 : w3.cell? ⟨p, 0, none⟩ = some (.int .i64 (t : Int)) := by have h0 := T3.out.cell_at 0 (.int .i64 (c.state : Int)) rfl; rw [← HT.out] at h0; exact h0
     clear hown hg hwh y1 hc4 hp4 hi4 hb4
     go_wp2
     go_ret
     exact ActsA.of rfl ⟨ρ4, _, C4.out, P4.out, I4.out⟩ B4.out ⟨parL g, by simp, HE.out⟩
end
section
variable {ρ : Nat → Nat} {I J : Nat → Prop} {w w' : World} {p : Nat} {g : Gm} {s : Sc} {c : Ch} {m : Cm}
def Ch.acc (g : Gm) (s : Sc) (c : Ch) (k b : Nat) (l : List Nat) : Bool × Ch :=
 if k = 1 then (if (c.opens g b).1 = true then (true, (c.opens g b).2) else c.ends g s b) else if k = 2 then c.addr s b l else c.write s g b
def ActsL (I : Nat → Prop) (p : Nat) (g : Gm) (s : Sc) (f : List Nat → Value × Ch) (w : World) (e : Ending) (w' : World) : Prop := ∃ l : List Nat, l = parL g ∧ Acts I p g s (f l).1 (f l).2 w e w'
theorem opens_no (b : Nat) (h : (c.opens g b).1 = false) : (c.opens g b).2 = c := by
 unfold Ch.opens at h ⊢
 split
 ·
  rfl
 ·
  rename_i e
  rw [if_neg e] at h
  split at h
  ·
   cases h
  ·
   split at h <;> cases h
theorem CH.widen {I' : Nat → Prop} (h : CH I w p g s c) (hI : ∀ j, I j → I' j) : CH I' w p g s c := by
 obtain ⟨ρ, m, hc, hp, hi⟩ := h
 exact ⟨ρ, m, hc, hp, fun j h1 h2 => hI j (hi.own j h1 h2), fun j hj => hI j (hi.new j hj), fun j hj => hi.out j fun h => hj (hI j h)⟩
set_option maxHeartbeats 4000000 in
theorem accepts_any (k b : Nat) (hk : k = 1 ∨ k = 2 ∨ k = 3) (hb8 : b < 256) (hs : SG g s) (hz : c.bz ≤ 1099511600000) (hw : c.wk ≤ 1099511627776) (hf : c.fit g) (hst : c.state ≤ 10) (h : CH I w p g s c) :
  Calls Tryz.prog 97 #[.pointer (some ⟨p, 0, none⟩), .agg #[.int .i64 (k : Int), .int .u8 (b : Int)]] w (ActsL I p g s (fun l => (.bool (c.acc g s k b l).1, (c.acc g s k b l).2)) w) := by
 have B0 := Lib.hid (below_new w (.cells #[.int .i64 (k : Int), .int .u8 (b : Int)] 93))
 have H0 := Lib.hid (h.below B0.out)
 have HOP := Lib.hid (fun W (hh : CH I W p g s c) => open_ch b hb8 hh)
 have HEN := Lib.hid (fun W (hh : CH I W p g s c) => end_any b hb8 hs hz hw hf hh)
 have HAD := Lib.hid (fun W (hh : CH I W p g s c) => address_any b hb8 hs (by omega) hf hst hh)
 have HWR := Lib.hid (fun W (hh : CH I W p g s c) => write_any b hb8 hs (by omega) hf hst hh)
 have Z0 := Lib.hid (CRow.new w #[.int .i64 (k : Int), .int .u8 (b : Int)] 93)
 have HSZ := Lib.hid (show (w.alloc (.cells #[.int .i64 (k : Int), .int .u8 (b : Int)] 93)).heap.size = w.heap.size + 1 by simp)
 have HS0 := Lib.hid (h.shrink B0.out)
 have HOP2 := Lib.hid (fun W (hh : CH (fun j => I j ∧ (j < w.heap.size ∨ (w.alloc (.cells #[.int .i64 (k : Int), .int .u8 (b : Int)] 93)).heap.size ≤ j)) W p g s c) => open_ch b hb8 hh)
 clear h hs hz hw hf hst hb8
 rcases hk with rfl | rfl | rfl
 ·
  cases ho : (c.opens g b).1 with
  | true =>
   have HO := Lib.hid ho
   clear ho
   go_enter Tryz.func97, Tryz.ntmps97
   go_wp2_with fail
   refine (HOP.out _ H0.out).mono ?_
   rintro _ w1 ⟨rfl, h1, hb1⟩
   rw [HO.out]
   have H1 := Lib.hid h1
   have B1 := Lib.hid ((Btw.of_below (I := I) B0.out).trans hb1 fun _ _ h => h)
   clear h1 hb1
   go_wp2
   go_ret
   refine ⟨parL g, by simp, ?_⟩
   have e : c.acc g s 1 b (parL g) = (true, (c.opens g b).2) := by unfold Ch.acc; rw [if_pos rfl, if_pos HO.out]
   simp only [e]
   exact ⟨rfl, H1.out, B1.out⟩
  | false =>
   have HO := Lib.hid ho
   have HC := Lib.hid (opens_no b ho)
   clear ho
   go_enter Tryz.func97, Tryz.ntmps97
   go_wp2_with fail
   refine (HOP2.out _ HS0.out).mono ?_
   rintro _ w1 ⟨rfl, h1, hb1⟩
   rw [HO.out]
   rw [HC.out] at h1
   have yb := (Z0.out.btw hb1 (fun h => by have h2 := h.2; have h3 := HSZ.out; omega)).cell_at 1 _ rfl
   have H1 := Lib.hid (h1.widen (I' := I) fun _ h => h.1)
   have B1 := Lib.hid ((Btw.of_below (I := I) B0.out).trans hb1 fun _ _ h => h.1)
   clear h1 hb1
   go_wp2_with fail
   clear yb
   refine (HEN.out _ H1.out).mono ?_
   rintro _ w2 ⟨rfl, h2, hb2⟩
   have H2 := Lib.hid h2
   have B2 := Lib.hid (B1.out.trans hb2 fun _ _ h => h)
   clear h2 hb2
   go_wp2
   go_ret
   refine ⟨parL g, by simp, ?_⟩
   have e : c.acc g s 1 b (parL g) = c.ends g s b := by unfold Ch.acc; rw [if_pos rfl, if_neg (by rw [HO.out]; simp)]
   simp only [e]
   exact ⟨rfl, H2.out, B2.out⟩
 ·
  skip
  go_enter Tryz.func97, Tryz.ntmps97
  go_wp2_with fail
  refine (HAD.out _ H0.out).mono ?_
  rintro _ w1 ⟨l, hl, rfl, h1, hb1⟩
  have H1 := Lib.hid h1
  have HL := Lib.hid hl
  have B1 := Lib.hid ((Btw.of_below (I := I) B0.out).trans hb1 fun _ _ h => h)
  clear h1 hb1 hl
  go_wp2
  go_ret
  exact ⟨l, HL.out, rfl, H1.out, B1.out⟩
 ·
  skip
  go_enter Tryz.func97, Tryz.ntmps97
  go_wp2_with fail
  refine (HWR.out _ H0.out).mono ?_
  rintro _ w1 ⟨rfl, h1, hb1⟩
  have H1 := Lib.hid h1
  have B1 := Lib.hid ((Btw.of_below (I := I) B0.out).trans hb1 fun _ _ h => h)
  clear h1 hb1
  go_wp2
  go_ret
  exact ⟨parL g, by simp, rfl, H1.out, B1.out⟩
end
section
variable {ρ : Nat → Nat} {I J : Nat → Prop} {w w' : World} {p : Nat} {g : Gm} {s : Sc} {c : Ch} {m : Cm}
def Ch.exec (g : Gm) (s : Sc) (c : Ch) (k b : Nat) (l : List Nat) : Int × Ch :=
 if k = 1 ∧ b = 255 then (0, c.reset g s) else if k = 1 ∧ b = 112 then (0, c.enter 1) else if k = 4 then c.read g s
 else if c.engaged = true then (0, c) else (0, if (c.acc g s k b l).1 = true then (c.acc g s k b l).2 else (c.acc g s k b l).2.leave)
theorem engaged_ch (h : CH I w p g s c) : Calls Tryz.prog 96 #[.pointer (some ⟨p, 0, none⟩)] w (Gives (.bool c.engaged) w) := by
 obtain ⟨ρ, m, hc, hp, hi⟩ := h
 exact engaged_any hc
set_option maxHeartbeats 8000000 in
theorem execute_any (k b : Nat) (hk : k = 1 ∨ k = 2 ∨ k = 3 ∨ k = 4) (hb8 : b < 256) (hs : SG g s) (hz : c.bz ≤ 1099511600000) (hw : c.wk ≤ 1099511626000) (hf : c.fit g) (hst : c.state ≤ 10) (h : CH I w p g s c) :
  Calls Tryz.prog 84 #[.pointer (some ⟨p, 0, none⟩), .agg #[.int .i64 (k : Int), .int .u8 (b : Int)]] w (ActsL I p g s (fun l => (.int .u8 (c.exec g s k b l).1, (c.exec g s k b l).2)) w) := by
 have B0 := Lib.hid (below_new w (.cells #[.int .i64 (k : Int), .int .u8 (b : Int)] 93))
 have Z0 := Lib.hid (CRow.new w #[.int .i64 (k : Int), .int .u8 (b : Int)] 93)
 have H0 := Lib.hid (h.below B0.out)
 have HRS := Lib.hid (fun W (hh : CH I W p g s c) => reset_any hs hf (by omega) hh)
 have HRD := Lib.hid (fun W (hh : CH I W p g s c) => read_any hs hf hw hh)
 have HAC := Lib.hid (fun W (hh : CH I W p g s c) (hk : k = 1 ∨ k = 2 ∨ k = 3) => accepts_any k b hk hb8 hs hz (by omega) hf hst hh)
 clear h hs hz hw hf hst
 rcases hk with rfl | rfl | rfl | rfl
 ·
  have HA1 := Lib.hid (fun W (hh : CH I W p g s c) => HAC.out W hh (.inl rfl))
  by_cases h255 : b = 255
  ·
   subst h255
   have HE := Lib.hid (show c.exec g s 1 255 (parL g) = (0, c.reset g s) from rfl)
   go_enter Tryz.func84, Tryz.ntmps84
   go_wp2_with fail
   refine (HRS.out _ H0.out).mono ?_
   rintro _ w1 ⟨rfl, h1, hb1⟩
   have H1 := Lib.hid h1
   have B1 := Lib.hid ((Btw.of_below (I := I) B0.out).trans hb1 fun _ _ h => h)
   clear h1 hb1
   go_wp2
   go_ret
   refine ⟨parL g, by simp, ?_⟩
   simp only [HE.out]
   exact ⟨rfl, H1.out, B1.out⟩
  ·
   by_cases h112 : b = 112
   ·
    subst h112
    have HE := Lib.hid (show c.exec g s 1 112 (parL g) = (0, c.enter 1) from rfl)
    go_enter Tryz.func84, Tryz.ntmps84
    go_wp2_with fail
    refine (enter_ch 1 H0.out).mono ?_
    rintro _ w1 ⟨rfl, h1, hb1⟩
    have H1 := Lib.hid h1
    have B1 := Lib.hid ((Btw.of_below (I := I) B0.out).trans hb1 fun _ _ h => h)
    clear h1 hb1
    go_wp2
    go_ret
    refine ⟨parL g, by simp, ?_⟩
    simp only [HE.out]
    exact ⟨rfl, H1.out, B1.out⟩
   ·
    skip
    have b255 : ((b : Int) == 255) = false := by simp; omega
    have j255 : ((b : Int) = 255) = False := eq_false (by omega)
    have d255 : decide ((b : Int) = 255) = false := decide_eq_false (by omega)
    have b112 : ((b : Int) == 112) = false := by simp; omega
    have j112 : ((b : Int) = 112) = False := eq_false (by omega)
    have d112 : decide ((b : Int) = 112) = false := decide_eq_false (by omega)
    cases hen : c.engaged with
    | true =>
     have HEN := Lib.hid (fun W (hh : CH I W p g s c) => engaged_ch hh)
     have HG := Lib.hid hen
     rw [hen] at HEN
     have HE := Lib.hid (show c.exec g s 1 b (parL g) = (0, c) by unfold Ch.exec; rw [if_neg (by omega), if_neg (by omega), if_neg (by omega), if_pos hen])
     clear hen
     go_enter Tryz.func84, Tryz.ntmps84
     go_wp2_with fail
     refine (HEN.out _ H0.out).mono ?_
     rintro _ w1 ⟨rfl, h1⟩
     have H1 := Lib.hid (H0.out.below h1)
     have B1 := Lib.hid (below_step B0.out h1)
     clear h1
     go_wp2
     go_ret
     refine ⟨parL g, by simp, ?_⟩
     simp only [HE.out]
     exact ⟨rfl, H1.out, Btw.of_below B1.out⟩
    | false =>
     have HEN := Lib.hid (fun W (hh : CH I W p g s c) => engaged_ch hh)
     have HG := Lib.hid hen
     rw [hen] at HEN
     have HE := Lib.hid (fun l => show c.exec g s 1 b l = (0, if (c.acc g s 1 b l).1 = true then (c.acc g s 1 b l).2 else (c.acc g s 1 b l).2.leave) by unfold Ch.exec; rw [if_neg (by omega), if_neg (by omega), if_neg (by omega), if_neg (by rw [hen]; simp)])
     clear hen
     go_enter Tryz.func84, Tryz.ntmps84
     go_wp2_with fail
     refine (HEN.out _ H0.out).mono ?_
     rintro _ w1 ⟨rfl, h1⟩
     have H1 := Lib.hid (H0.out.below h1)
     have B1 := Lib.hid (below_step B0.out h1)
     have yk := (Z0.out.below h1).cell_at 0 _ rfl
     have yb := (Z0.out.below h1).cell_at 1 _ rfl
     clear h1
     go_wp2_with fail
     clear yk yb
     refine (HA1.out _ H1.out).mono ?_
     rintro e w2 ⟨l, hl, he, h2, hb2⟩
     have he : e = Ending.returned (.bool (c.acc g s 1 b l).1) := he
     have h2 : CH I w2 p g s (c.acc g s 1 b l).2 := h2
     subst he
     have HL := Lib.hid hl
     have B2 := Lib.hid ((Btw.of_below (I := I) B1.out).trans hb2 fun _ _ h => h)
     have H2 := Lib.hid h2
     clear hl h2 hb2
     cases hr : (c.acc g s 1 b l).1 with
     | true =>
      have HR := Lib.hid hr
      try rw [hr]
      clear hr
      go_wp2
      go_ret
      refine ⟨l, HL.out, ?_⟩
      simp only [HE.out l]
      rw [if_pos HR.out]
      exact ⟨rfl, H2.out, B2.out⟩
     | false =>
      have HR := Lib.hid hr
      try rw [hr]
      clear hr
      go_wp2_with fail
      refine (leave_ch H2.out).mono ?_
      rintro _ w3 ⟨rfl, h3, hb3⟩
      have H3 := Lib.hid h3
      have B3 := Lib.hid (B2.out.trans hb3 fun _ _ h => h)
      clear h3 hb3
      go_wp2
      go_ret
      refine ⟨l, HL.out, ?_⟩
      simp only [HE.out l]
      rw [if_neg (by rw [HR.out]; simp)]
      exact ⟨rfl, H3.out, B3.out⟩
 ·
  have HA1 := Lib.hid (fun W (hh : CH I W p g s c) => HAC.out W hh (.inr (.inl rfl)))
  cases hen : c.engaged with
  | true =>
   have HEN := Lib.hid (fun W (hh : CH I W p g s c) => engaged_ch hh)
   have HG := Lib.hid hen
   rw [hen] at HEN
   have HE := Lib.hid (show c.exec g s 2 b (parL g) = (0, c) by unfold Ch.exec; rw [if_neg (by omega), if_neg (by omega), if_neg (by omega), if_pos hen])
   clear hen
   go_enter Tryz.func84, Tryz.ntmps84
   go_wp2_with fail
   refine (HEN.out _ H0.out).mono ?_
   rintro _ w1 ⟨rfl, h1⟩
   have H1 := Lib.hid (H0.out.below h1)
   have B1 := Lib.hid (below_step B0.out h1)
   clear h1
   go_wp2
   go_ret
   refine ⟨parL g, by simp, ?_⟩
   simp only [HE.out]
   exact ⟨rfl, H1.out, Btw.of_below B1.out⟩
  | false =>
   have HEN := Lib.hid (fun W (hh : CH I W p g s c) => engaged_ch hh)
   have HG := Lib.hid hen
   rw [hen] at HEN
   have HE := Lib.hid (fun l => show c.exec g s 2 b l = (0, if (c.acc g s 2 b l).1 = true then (c.acc g s 2 b l).2 else (c.acc g s 2 b l).2.leave) by unfold Ch.exec; rw [if_neg (by omega), if_neg (by omega), if_neg (by omega), if_neg (by rw [hen]; simp)])
   clear hen
   go_enter Tryz.func84, Tryz.ntmps84
   go_wp2_with fail
   refine (HEN.out _ H0.out).mono ?_
   rintro _ w1 ⟨rfl, h1⟩
   have H1 := Lib.hid (H0.out.below h1)
   have B1 := Lib.hid (below_step B0.out h1)
   have yk := (Z0.out.below h1).cell_at 0 _ rfl
   have yb := (Z0.out.below h1).cell_at 1 _ rfl
   clear h1
   go_wp2_with fail
   clear yk yb
   refine (HA1.out _ H1.out).mono ?_
   rintro e w2 ⟨l, hl, he, h2, hb2⟩
   have he : e = Ending.returned (.bool (c.acc g s 2 b l).1) := he
   have h2 : CH I w2 p g s (c.acc g s 2 b l).2 := h2
   subst he
   have HL := Lib.hid hl
   have B2 := Lib.hid ((Btw.of_below (I := I) B1.out).trans hb2 fun _ _ h => h)
   have H2 := Lib.hid h2
   clear hl h2 hb2
   cases hr : (c.acc g s 2 b l).1 with
   | true =>
    have HR := Lib.hid hr
    try rw [hr]
    clear hr
    go_wp2
    go_ret
    refine ⟨l, HL.out, ?_⟩
    simp only [HE.out l]
    rw [if_pos HR.out]
    exact ⟨rfl, H2.out, B2.out⟩
   | false =>
    have HR := Lib.hid hr
    try rw [hr]
    clear hr
    go_wp2_with fail
    refine (leave_ch H2.out).mono ?_
    rintro _ w3 ⟨rfl, h3, hb3⟩
    have H3 := Lib.hid h3
    have B3 := Lib.hid (B2.out.trans hb3 fun _ _ h => h)
    clear h3 hb3
    go_wp2
    go_ret
    refine ⟨l, HL.out, ?_⟩
    simp only [HE.out l]
    rw [if_neg (by rw [HR.out]; simp)]
    exact ⟨rfl, H3.out, B3.out⟩
 ·
  have HA1 := Lib.hid (fun W (hh : CH I W p g s c) => HAC.out W hh (.inr (.inr rfl)))
  cases hen : c.engaged with
  | true =>
   have HEN := Lib.hid (fun W (hh : CH I W p g s c) => engaged_ch hh)
   have HG := Lib.hid hen
   rw [hen] at HEN
   have HE := Lib.hid (show c.exec g s 3 b (parL g) = (0, c) by unfold Ch.exec; rw [if_neg (by omega), if_neg (by omega), if_neg (by omega), if_pos hen])
   clear hen
   go_enter Tryz.func84, Tryz.ntmps84
   go_wp2_with fail
   refine (HEN.out _ H0.out).mono ?_
   rintro _ w1 ⟨rfl, h1⟩
   have H1 := Lib.hid (H0.out.below h1)
   have B1 := Lib.hid (below_step B0.out h1)
   clear h1
   go_wp2
   go_ret
   refine ⟨parL g, by simp, ?_⟩
   simp only [HE.out]
   exact ⟨rfl, H1.out, Btw.of_below B1.out⟩
  | false =>
   have HEN := Lib.hid (fun W (hh : CH I W p g s c) => engaged_ch hh)
   have HG := Lib.hid hen
   rw [hen] at HEN
   have HE := Lib.hid (fun l => show c.exec g s 3 b l = (0, if (c.acc g s 3 b l).1 = true then (c.acc g s 3 b l).2 else (c.acc g s 3 b l).2.leave) by unfold Ch.exec; rw [if_neg (by omega), if_neg (by omega), if_neg (by omega), if_neg (by rw [hen]; simp)])
   clear hen
   go_enter Tryz.func84, Tryz.ntmps84
   go_wp2_with fail
   refine (HEN.out _ H0.out).mono ?_
   rintro _ w1 ⟨rfl, h1⟩
   have H1 := Lib.hid (H0.out.below h1)
   have B1 := Lib.hid (below_step B0.out h1)
   have yk := (Z0.out.below h1).cell_at 0 _ rfl
   have yb := (Z0.out.below h1).cell_at 1 _ rfl
   clear h1
   go_wp2_with fail
   clear yk yb
   refine (HA1.out _ H1.out).mono ?_
   rintro e w2 ⟨l, hl, he, h2, hb2⟩
   have he : e = Ending.returned (.bool (c.acc g s 3 b l).1) := he
   have h2 : CH I w2 p g s (c.acc g s 3 b l).2 := h2
   subst he
   have HL := Lib.hid hl
   have B2 := Lib.hid ((Btw.of_below (I := I) B1.out).trans hb2 fun _ _ h => h)
   have H2 := Lib.hid h2
   clear hl h2 hb2
   cases hr : (c.acc g s 3 b l).1 with
   | true =>
    have HR := Lib.hid hr
    try rw [hr]
    clear hr
    go_wp2
    go_ret
    refine ⟨l, HL.out, ?_⟩
    simp only [HE.out l]
    rw [if_pos HR.out]
    exact ⟨rfl, H2.out, B2.out⟩
   | false =>
    have HR := Lib.hid hr
    try rw [hr]
    clear hr
    go_wp2_with fail
    refine (leave_ch H2.out).mono ?_
    rintro _ w3 ⟨rfl, h3, hb3⟩
    have H3 := Lib.hid h3
    have B3 := Lib.hid (B2.out.trans hb3 fun _ _ h => h)
    clear h3 hb3
    go_wp2
    go_ret
    refine ⟨l, HL.out, ?_⟩
    simp only [HE.out l]
    rw [if_neg (by rw [HR.out]; simp)]
    exact ⟨rfl, H3.out, B3.out⟩
 ·
  have HE := Lib.hid (show c.exec g s 4 b (parL g) = c.read g s by unfold Ch.exec; rw [if_neg (by omega), if_neg (by omega), if_pos rfl])
  go_enter Tryz.func84, Tryz.ntmps84
  go_wp2_with fail
  refine (HRD.out _ H0.out).mono ?_
  rintro _ w1 ⟨rfl, h1, hb1⟩
  have H1 := Lib.hid h1
  have B1 := Lib.hid ((Btw.of_below (I := I) B0.out).trans hb1 fun _ _ h => h)
  clear h1 hb1
  go_wp2
  go_ret
  refine ⟨parL g, by simp, ?_⟩
  simp only [HE.out]
  exact ⟨rfl, H1.out, B1.out⟩
end
structure Gr (g : Gm) (c c' : Ch) : Prop where
 fit : c'.fit g
 st : c'.state ≤ 10
 on : c'.on = c.on
 cut : c'.cut = c.cut
 cyc : c'.cycles = c.cycles
 bz : c'.bz ≤ c.bz + 2
 wk : c'.wk ≤ c.wk + 20
section
variable {g : Gm} {s : Sc} {c c' : Ch}
theorem fit_leave (h : c.fit g) (hg : g.ok = true) : c.leave.fit g :=
 {
  h with
  qu := fun x hx => by cases hx
  qb := fun x hx => by cases hx
  nq := by have := Gm.bounds_of hg; show ((0 : Nat) : Int) ≤ g.p; omega
  nqb := by have := Gm.bounds_of hg; show ((0 : Nat) : Int) ≤ g.p; omega
  ls := Nat.zero_le _
  sd := Nat.zero_le _ }
theorem fit_discard (h : c.fit g) (hg : g.ok = true) : c.discard.fit g :=
 {
  h with
  qu := fun x hx => by cases hx
  qb := fun x hx => by cases hx
  nq := by have := Gm.bounds_of hg; show ((0 : Nat) : Int) ≤ g.p; omega
  nqb := by have := Gm.bounds_of hg; show ((0 : Nat) : Int) ≤ g.p; omega }
theorem fit_pend {r : Bool} {row : Nat} {pr : List Pr} {bl : List Nat} (h : c.fit g) (h1 : r = true → row < g.b.toNat * g.s.toNat) (h2 : ∀ x ∈ pr, x.row < g.b.toNat * g.s.toNat ∧ x.raw.length = g.raw.toNat) (h3 : ∀ b ∈ bl, b < g.b.toNat) (h4 : pr.length ≤ 8) (h5 : bl.length ≤ 8) : (c.pend r row pr bl).fit g :=
 { h with pr := h2, bl := h3, rd := h1, np := h4, nb := h5 }
theorem fit_begun (h : c.fit g) (hs : SG g s) : (c.begun s).fit g :=
 {
  h with
  ls := Nat.zero_le _
  sd := Nat.zero_le _
  bs := (nb_is hs.ok c).2 }
theorem Gr.leave (h : Gr g c c') (hg : g.ok = true) : Gr g c c'.leave :=
 ⟨fit_leave h.fit hg, Nat.zero_le _, h.on, h.cut, h.cyc, h.bz, h.wk⟩
theorem reset_gr (hs : SG g s) (hg : g.ok = true) (h : c.fit g) : Gr g c (c.reset g s) := by
 have hb := Gm.bounds_of hg
 refine ⟨⟨fun e => absurd (show false = true from e) (by decide), fun x hx => ?_, fun x hx => ?_, fun x hx => ?_, fun x hx => ?_, fun e => absurd (show false = true from e) (by decide), Nat.zero_le _, Nat.zero_le _, ?_, ?_, Nat.zero_le _, h.cl, ?_, (nb_is hs.ok c).2, Nat.zero_le _, Nat.zero_le _⟩, Nat.zero_le _, rfl, rfl, rfl, Nat.le_succ _, Nat.le_add_right _ _⟩
 ·
  exact absurd (show x ∈ ([] : List Pr) from hx) (by simp)
 ·
  exact absurd (show x ∈ ([] : List Nat) from hx) (by simp)
 ·
  exact absurd (show x ∈ ([] : List Pr) from hx) (by simp)
 ·
  exact absurd (show x ∈ ([] : List Nat) from hx) (by simp)
 ·
  show ((0 : Nat) : Int) ≤ g.p; omega
 ·
  show ((0 : Nat) : Int) ≤ g.p; omega
 ·
  show ((0 : Nat) : Int) < g.r; omega
theorem pBehind_gr (h : c.fit g) (hst : c.state ≤ 10) : Gr g c (c.pBehind g s) ∧ (c.pBehind g s).wk ≤ c.wk + 1 := by
 have hf := pBehind_fit (s := s) h
 have h1 := pBehind_wk g s c
 have h2 := pBehind_bz g s c
 refine ⟨⟨hf, ?_, ?_, ?_, ?_, by omega, by omega⟩, h1⟩ <;> (unfold Ch.pBehind; split <;> first | rfl | exact hst)
theorem foldP_same (g : Gm) (s : Sc) : ∀ (l : List Pr) (a : Ch), (l.foldl (stepP g s) a).state = a.state ∧ (l.foldl (stepP g s) a).on = a.on ∧ (l.foldl (stepP g s) a).cut = a.cut ∧ (l.foldl (stepP g s) a).cycles = a.cycles ∧ (l.foldl (stepP g s) a).bz = a.bz
 | [], _ => ⟨rfl, rfl, rfl, rfl, rfl⟩
 | x :: l, a => foldP_same g s l (stepP g s a x)
theorem foldE_same (g : Gm) (s : Sc) : ∀ (l : List Nat) (a : Ch), (l.foldl (stepE g s) a).state = a.state ∧ (l.foldl (stepE g s) a).on = a.on ∧ (l.foldl (stepE g s) a).cut = a.cut ∧ (l.foldl (stepE g s) a).cycles = a.cycles ∧ (l.foldl (stepE g s) a).bz = a.bz
 | [], _ => ⟨rfl, rfl, rfl, rfl, rfl⟩
 | x :: l, a => foldE_same g s l (stepE g s a x)
theorem pf0_same : (c.pf0 g s).state = c.state ∧ (c.pf0 g s).on = c.on ∧ (c.pf0 g s).cut = c.cut ∧ (c.pf0 g s).cycles = c.cycles ∧ (c.pf0 g s).bz = c.bz := by
 unfold Ch.pf0 Ch.pBehind
 split <;> exact ⟨rfl, rfl, rfl, rfl, rfl⟩
theorem pf1_same : (c.pf1 g s).state = c.state ∧ (c.pf1 g s).on = c.on ∧ (c.pf1 g s).cut = c.cut ∧ (c.pf1 g s).cycles = c.cycles ∧ (c.pf1 g s).bz = c.bz := by
 have h := pf0_same (g := g) (s := s) (c := c)
 unfold Ch.pf1
 split <;> exact h
theorem perform_gr (h : c.fit g) (hst : c.state ≤ 10) : Gr g c (c.perform g s) ∧ (c.perform g s).wk ≤ c.wk + 17 := by
 have hw := perform_wk g s c
 have h8 := h.np
 have h9 := h.nb
 have hf := perform_fit (s := s) h
 have e : (c.perform g s).state = c.state ∧ (c.perform g s).on = c.on ∧ (c.perform g s).cut = c.cut ∧ (c.perform g s).cycles = c.cycles ∧ (c.perform g s).bz = c.bz := by
  unfold Ch.perform
  split
  ·
   unfold Ch.pfE Ch.pfP
   have h1 := foldE_same g s (c.blocks.take c.blocks.length) ((c.progs.take c.progs.length).foldl (stepP g s) (c.pf1 g s))
   have h2 := foldP_same g s (c.progs.take c.progs.length) (c.pf1 g s)
   have h3 := pf1_same (g := g) (s := s) (c := c)
   exact ⟨h1.1.trans (h2.1.trans h3.1), h1.2.1.trans (h2.2.1.trans h3.2.1), h1.2.2.1.trans (h2.2.2.1.trans h3.2.2.1), h1.2.2.2.1.trans (h2.2.2.2.1.trans h3.2.2.2.1), h1.2.2.2.2.trans (h2.2.2.2.2.trans h3.2.2.2.2)⟩
  ·
   exact ⟨rfl, rfl, rfl, rfl, rfl⟩
 exact ⟨⟨hf, by omega, e.2.1, e.2.2.1, e.2.2.2.1, by omega, by omega⟩, by omega⟩
theorem poll_gr (h : c.fit g) (hst : c.state ≤ 10) : Gr g c (c.poll g s).2 := by
 have h1 := perform_gr (s := s) h hst
 have h2 := pBehind_gr (s := s) h1.1.fit h1.1.st
 unfold Ch.poll
 split
 ·
  exact ⟨{ h with bs := by have := h.bs; show c.busy - 1 ≤ 65536; omega }, hst, rfl, rfl, rfl, Nat.le_add_right _ _, Nat.le_add_right _ _⟩
 ·
  split
  ·
   exact ⟨{ h1.1.fit with pl := by have := h1.1.fit.pl; show (c.perform g s).polls - 1 ≤ 65536; omega }, h1.1.st, h1.1.on, h1.1.cut, h1.1.cyc, h1.1.bz, h1.1.wk⟩
  ·
   have e := pBehind_bz g s (c.perform g s)
   exact ⟨h2.1.fit, h2.1.st, h2.1.on.trans h1.1.on, h2.1.cut.trans h1.1.cut, h2.1.cyc.trans h1.1.cyc, by have := h1.1.bz; show ((c.perform g s).pBehind g s).bz ≤ _; omega, by have := h1.2; have := h2.2; show ((c.perform g s).pBehind g s).wk ≤ _; omega⟩
theorem Gr.same (h : c.fit g) (hst : c.state ≤ 10) : Gr g c c := ⟨h, hst, rfl, rfl, rfl, Nat.le_add_right _ _, Nat.le_add_right _ _⟩
theorem next_gr (h : c.fit g) (hst : c.state ≤ 10) (hr : c.reg.length ≤ 1000) : Gr g c c.next.2 := by
 unfold Ch.next
 split
 ·
  exact Gr.same h hst
 ·
  rename_i hl
  exact ⟨{ h with cl := by show c.col + 1 ≤ 65536; omega }, hst, rfl, rfl, rfl, Nat.le_add_right _ _, Nat.le_add_right _ _⟩
theorem tell_gr (h : c.fit g) (hst : c.state ≤ 10) : Gr g c (c.tell g).2 := by
 unfold Ch.tell
 split
 ·
  rename_i hl
  exact ⟨{ h with sd := by show c.said + 1 ≤ 5; omega }, hst, rfl, rfl, rfl, Nat.le_add_right _ _, Nat.le_add_right _ _⟩
 ·
  exact Gr.same h hst
theorem enter_gr (n : Nat) (hn : n ≤ 10) (h : c.fit g) : Gr g c (c.enter n) := ⟨enter_fit n h, hn, rfl, rfl, rfl, Nat.le_add_right _ _, Nat.le_add_right _ _⟩
theorem Gr.trans {c'' : Ch} (h : Gr g c c') (h2 : Gr g c' c'') (hb : c'.bz = c.bz) (hw : c'.wk = c.wk) : Gr g c c'' :=
 ⟨h2.fit, h2.st, h2.on.trans h.on, h2.cut.trans h.cut, h2.cyc.trans h.cyc, hb ▸ h2.bz, hw ▸ h2.wk⟩
theorem read_gr (hg : g.ok = true) (h : c.fit g) (hst : c.state ≤ 10) (hr : c.reg.length ≤ 1000) : Gr g c (c.read g s).2 := by
 unfold Ch.read
 split
 ·
  exact poll_gr h hst
 ·
  split
  ·
   exact Gr.same h hst
  ·
   split
   ·
    exact tell_gr h hst
   ·
    split
    ·
     exact (enter_gr 7 (by omega) h).trans (next_gr (enter_fit 7 h) (show 7 ≤ 10 by omega) hr) rfl rfl
    ·
     split
     ·
      exact next_gr h hst hr
     ·
      exact (Gr.same h hst).leave hg
theorem addr2_le (h8 : ∀ x ∈ c.listed, x < 256) (k : Nat) : c.addr2 k ≤ 65535 := by
 have K : ∀ i, c.listed.getD i 0 ≤ 255 := fun i => by
  rw [List.getD_eq_getElem?_getD]
  cases e : c.listed[i]? with
  | none => simp
  | some x =>
   have := h8 x (List.mem_of_getElem? e)
   simp only [Option.getD_some]
   omega
 unfold Ch.addr2
 have := K k
 have := K (k + 1)
 omega
theorem Gr.begun (hs : SG g s) (h : Gr g c c') (hb : c'.bz ≤ c.bz + 1) : Gr g c (c'.begun s) :=
 ⟨fit_begun h.fit hs, by show 1 ≤ 10; omega, h.on, h.cut, h.cyc, by show c'.bz + 1 ≤ _; omega, h.wk⟩
theorem Gr.none_ (h : Gr g c c') : Gr g c (c'.pend false 0 [] []) :=
 ⟨fit_pend h.fit (fun e => by cases e) (fun x hx => by cases hx) (fun x hx => by cases hx) (Nat.zero_le _) (Nat.zero_le _), h.st, h.on, h.cut, h.cyc, h.bz, h.wk⟩
theorem Gr.discard (hg : g.ok = true) (h : Gr g c c') : Gr g c c'.discard := ⟨fit_discard h.fit hg, h.st, h.on, h.cut, h.cyc, h.bz, h.wk⟩
theorem endFetch_gr (hs : SG g s) (hg : g.ok = true) (h : c.fit g) (hst : c.state ≤ 10) (h8 : ∀ x ∈ c.listed, x < 256) (hrow : c.addr2 2 < g.b.toNat * g.s.toNat) : Gr g c (c.endFetch s) := by
 have h1 : Gr g c ({ c with col := c.addr2 0 } : Ch) := ⟨{ h with cl := by have := addr2_le h8 0; show c.addr2 0 ≤ 65536; omega }, hst, rfl, rfl, rfl, Nat.le_add_right _ _, Nat.le_add_right _ _⟩
 have h2 := h1.discard hg
 have h3 : Gr g c ((({ c with col := c.addr2 0 } : Ch).discard).pend true (c.addr2 2) [] []) :=
  ⟨fit_pend h2.fit (fun _ => hrow) (fun x hx => by cases hx) (fun x hx => by cases hx) (Nat.zero_le _) (Nat.zero_le _), hst, rfl, rfl, rfl, Nat.le_add_right _ _, Nat.le_add_right _ _⟩
 exact h3.begun hs (Nat.le_succ _)
theorem endMove_gr (h : c.fit g) (hst : c.state ≤ 10) (h8 : ∀ x ∈ c.listed, x < 256) : Gr g c c.endMove := by
 have h1 : Gr g c ({ c with col := c.addr2 0 } : Ch) := ⟨{ h with cl := by have := addr2_le h8 0; show c.addr2 0 ≤ 65536; omega }, hst, rfl, rfl, rfl, Nat.le_add_right _ _, Nat.le_add_right _ _⟩
 exact h1.trans (enter_gr 7 (by omega) h1.fit) rfl rfl
theorem endLoad_gr (hs : SG g s) (hg : g.ok = true) (h : c.fit g) (hst : c.state ≤ 10) (hr : c.reg.length = g.raw.toNat) (b : Nat) : Gr g c (c.endLoad g s b).2 := by
 have hb := Gm.bounds_of hg
 have hq := h.nq
 have hqb := h.nqb
 unfold Ch.endLoad
 split
 ·
  rename_i hrow
  have hy : ∀ x ∈ c.queued ++ [(⟨c.addr2 2, c.reg⟩ : Pr)], x.row < g.b.toNat * g.s.toNat ∧ x.raw.length = g.raw.toNat := fun x hx => by
   rcases List.mem_append.1 hx with h1 | h1
   ·
    exact h.qu x h1
   ·
    rw [List.mem_singleton.1 h1]; exact ⟨hrow, hr⟩
  split
  ·
   have h2 := (Gr.same h hst).discard hg
   have h3 : Gr g c (c.discard.pend false 0 (c.queued ++ [⟨c.addr2 2, c.reg⟩]) []) :=
    ⟨fit_pend h2.fit (fun e => by cases e) hy (fun x hx => by cases hx) (by rw [List.length_append]; show _ + 1 ≤ 8; omega) (Nat.zero_le _), hst, rfl, rfl, rfl, Nat.le_add_right _ _, Nat.le_add_right _ _⟩
   exact h3.begun hs (Nat.le_succ _)
  ·
   split
   ·
    have h3 : Gr g c (if (c.queued.length : Int) < g.p then c.qP ⟨c.addr2 2, c.reg⟩ else c) ∧ (if (c.queued.length : Int) < g.p then c.qP ⟨c.addr2 2, c.reg⟩ else c).bz = c.bz := by
     split
     ·
      rename_i hl
      exact ⟨⟨{ h with qu := hy, nq := by show ((c.queued ++ [_]).length : Int) ≤ g.p; rw [List.length_append]; show ((_ + 1 : Nat) : Int) ≤ _; omega }, hst, rfl, rfl, rfl, Nat.le_add_right _ _, Nat.le_add_right _ _⟩, rfl⟩
     ·
      exact ⟨Gr.same h hst, rfl⟩
    exact h3.1.none_.begun hs (by show Ch.bz (if _ then _ else _) ≤ _; rw [h3.2]; exact Nat.le_succ _)
   ·
    split
    ·
     have h1 : Gr g c (if c.there then c else { c with prev := false }) ∧ (if c.there then c else { c with prev := false }).bz = c.bz ∧ (if c.there then c else { c with prev := false }).wk = c.wk := by
      split
      ·
       exact ⟨Gr.same h hst, rfl, rfl⟩
      ·
       exact ⟨⟨{ h with }, hst, rfl, rfl, rfl, Nat.le_add_right _ _, Nat.le_add_right _ _⟩, rfl, rfl⟩
     have h2 := pBehind_gr (s := s) h1.1.fit h1.1.st
     have h3 := h1.1.trans h2.1 h1.2.1 h1.2.2
     have e2 := (pBehind_bz g s (if c.there then c else { c with prev := false })).trans h1.2.1
     have h4 : Gr g c (c.putBehind g s ⟨c.addr2 2, c.reg⟩) :=
      ⟨{ h3.fit with bro := fun _ => ⟨hrow, hr⟩, pl := (nb_is hs.ok _).2 }, h3.st, h3.on, h3.cut, h3.cyc, by show Ch.bz (Ch.pBehind g s _) + 1 ≤ _; omega, h3.wk⟩
     exact (h4.discard hg).none_.begun hs (by show Ch.bz (Ch.pBehind g s _) + 1 ≤ _; omega)
    ·
     exact Gr.same h hst
 ·
  exact Gr.same h hst
theorem endErase_gr (hs : SG g s) (hg : g.ok = true) (h : c.fit g) (hst : c.state ≤ 10) (b : Nat) : Gr g c (c.endErase g s b).2 := by
 have hb := Gm.bounds_of hg
 have hq := h.nq
 have hqb := h.nqb
 unfold Ch.endErase
 split
 ·
  rename_i hrow
  have hdv : c.addr2 0 / g.s.toNat < g.b.toNat := by
   rw [Nat.div_lt_iff_lt_mul (by omega)]
   exact hrow
  have hy : ∀ x ∈ c.qblocks ++ [c.addr2 0 / g.s.toNat], x < g.b.toNat := fun x hx => by
   rcases List.mem_append.1 hx with h1 | h1
   ·
    exact h.qb x h1
   ·
    rw [List.mem_singleton.1 h1]; exact hdv
  split
  ·
   have h2 := (Gr.same h hst).discard hg
   have h3 : Gr g c (c.discard.pend false 0 [] (c.qblocks ++ [c.addr2 0 / g.s.toNat])) :=
    ⟨fit_pend h2.fit (fun e => by cases e) (fun x hx => by cases hx) hy (Nat.zero_le _) (by rw [List.length_append]; show _ + 1 ≤ 8; omega), hst, rfl, rfl, rfl, Nat.le_add_right _ _, Nat.le_add_right _ _⟩
   exact h3.begun hs (Nat.le_succ _)
  ·
   split
   ·
    have h3 : Gr g c (if (c.qblocks.length : Int) < g.p then c.qB (c.addr2 0 / g.s.toNat) else c) ∧ (if (c.qblocks.length : Int) < g.p then c.qB (c.addr2 0 / g.s.toNat) else c).bz = c.bz := by
     split
     ·
      rename_i hl
      exact ⟨⟨{ h with qb := hy, nqb := by show ((c.qblocks ++ [_]).length : Int) ≤ g.p; rw [List.length_append]; show ((_ + 1 : Nat) : Int) ≤ _; omega }, hst, rfl, rfl, rfl, Nat.le_add_right _ _, Nat.le_add_right _ _⟩, rfl⟩
     ·
      exact ⟨Gr.same h hst, rfl⟩
    exact h3.1.none_.begun hs (by show Ch.bz (if _ then _ else _) ≤ _; rw [h3.2]; exact Nat.le_succ _)
   ·
    exact Gr.same h hst
 ·
  exact Gr.same h hst
theorem ends_gr (hs : SG g s) (hg : g.ok = true) (h : c.fit g) (hst : c.state ≤ 10) (hr : c.reg.length = g.raw.toNat) (h8 : ∀ x ∈ c.listed, x < 256) (b : Nat) : Gr g c (c.ends g s b).2 := by
 unfold Ch.ends
 split
 ·
  show Gr g c (if _ then _ else _)
  split
  ·
   rename_i _ e
   exact endFetch_gr hs hg h hst h8 e.2
  ·
   exact Gr.same h hst
 ·
  split
  ·
   show Gr g c (if _ then _ else _)
   split
   ·
    exact endMove_gr h hst h8
   ·
    exact Gr.same h hst
  ·
   split
   ·
    exact endLoad_gr hs hg h hst hr b
   ·
    split
    ·
     exact endErase_gr hs hg h hst b
    ·
     exact Gr.same h hst
theorem opens_gr (hg : g.ok = true) (h : c.fit g) (hst : c.state ≤ 10) (b : Nat) : Gr g c (c.opens g b).2 := by
 have hb := Gm.bounds_of hg
 have hn : openedS b ≤ 10 := by
  unfold openedS
  repeat' split
  all_goals omega
 unfold Ch.opens
 split
 ·
  exact Gr.same h hst
 ·
  split
  ·
   have h1 : Gr g c ((c.newReg (List.replicate g.raw.toNat 255)).noB) := ⟨{ h with qb := fun x hx => (by cases hx), nqb := by show ((0 : Nat) : Int) ≤ g.p; omega }, hst, rfl, rfl, rfl, Nat.le_add_right _ _, Nat.le_add_right _ _⟩
   exact h1.trans (enter_gr 9 (by omega) h1.fit) rfl rfl
  ·
   split
   ·
    have h1 : Gr g c c.noQ := ⟨{ h with qu := fun x hx => (by cases hx), nq := by show ((0 : Nat) : Int) ≤ g.p; omega }, hst, rfl, rfl, rfl, Nat.le_add_right _ _, Nat.le_add_right _ _⟩
    exact h1.trans (enter_gr 10 (by omega) h1.fit) rfl rfl
   ·
    have h1 := (Gr.same h hst).discard hg
    exact h1.trans (enter_gr _ hn h1.fit) rfl rfl
theorem lists_len (b : Nat) (h : c.lists b = true) (hl : c.listed.length ≤ 4) : c.state = 2 ∨ c.state = 4 ∨ c.listed.length + 1 ≤ 4 := by
 unfold Ch.lists at h
 split at h
 ·
  rename_i e
  omega
 ·
  split at h
  ·
   rw [Bool.and_eq_true] at h
   have := of_decide_eq_true h.2
   omega
  ·
   split at h
   ·
    have := of_decide_eq_true h
    omega
   ·
    split at h
    ·
     have := of_decide_eq_true h
     omega
    ·
     cases h
theorem addr_gr (hs : SG g s) (hg : g.ok = true) (h : c.fit g) (hst : c.state ≤ 10) (h8 : ∀ x ∈ c.listed, x < 256) (b : Nat) (hb8 : b < 256) (l : List Nat) : Gr g c (c.addr s b l).2 := by
 have hls := h.ls
 unfold Ch.addr
 split
 ·
  exact Gr.same h hst
 ·
  rename_i hli
  have hl := lists_len b (by simpa using hli) hls
  have hp : ∀ x ∈ (c.push b).listed, x < 256 := fun x hx => by
   rcases List.mem_append.1 hx with h1 | h1
   ·
    exact h8 x h1
   ·
    rw [List.mem_singleton.1 h1]; exact hb8
  split
  ·
   exact ⟨{ h with ls := Nat.zero_le _, sd := Nat.zero_le _ }, by show 3 ≤ 10; omega, rfl, rfl, rfl, Nat.le_add_right _ _, Nat.le_add_right _ _⟩
  ·
   split
   ·
    have h1 : (({ (c.push b).newReg l with col := 0 } : Ch).discard.pend false 0 [] []).fit g ∨ True := .inr trivial
    have hb := Gm.bounds_of hg
    exact ⟨⟨h.bro, fun x hx => absurd (show x ∈ ([] : List Pr) from hx) (by simp), fun x hx => absurd (show x ∈ ([] : List Nat) from hx) (by simp), fun x hx => absurd (show x ∈ ([] : List Pr) from hx) (by simp), fun x hx => absurd (show x ∈ ([] : List Nat) from hx) (by simp), fun e => absurd (show false = true from e) (by decide), Nat.zero_le _, Nat.zero_le _, by show ((0 : Nat) : Int) ≤ g.p; omega, by show ((0 : Nat) : Int) ≤ g.p; omega, Nat.zero_le _, Nat.zero_le _, h.rg, (nb_is hs.ok c).2, h.pl, Nat.zero_le _⟩, by show 1 ≤ 10; omega, rfl, rfl, rfl, Nat.le_succ _, Nat.le_add_right _ _⟩
   ·
    rename_i e2 e4
    have hpl : (c.push b).listed.length ≤ 4 := by show (c.listed ++ [b]).length ≤ 4; rw [List.length_append]; show _ + 1 ≤ 4; omega
    split
    ·
     exact ⟨{ h with ls := hpl, cl := by have := addr2_le hp 0; show (c.push b).addr2 0 ≤ 65536; omega }, hst, rfl, rfl, rfl, Nat.le_add_right _ _, Nat.le_add_right _ _⟩
    ·
     exact ⟨{ h with ls := hpl }, hst, rfl, rfl, rfl, Nat.le_add_right _ _, Nat.le_add_right _ _⟩
theorem store_gr (h : c.fit g) (hst : c.state ≤ 10) (hr : c.reg.length ≤ 1000) (b : Nat) : Gr g c (c.store b) := by
 unfold Ch.store
 split
 ·
  exact ⟨{ h with cl := by show c.col + 1 ≤ 65536; omega }, hst, rfl, rfl, rfl, Nat.le_add_right _ _, Nat.le_add_right _ _⟩
 ·
  exact Gr.same h hst
theorem setRung_gr (hs : SG g s) (hg : g.ok = true) (h : c.fit g) (hst : c.state ≤ 10) (b : Nat) : Gr g c (c.setRung s g b) := by
 have hb := Gm.bounds_of hg
 unfold Ch.setRung
 split
 ·
  rename_i hl
  exact ⟨{ h with ls := by show (c.listed ++ [b]).length ≤ 4; rw [List.length_append]; show _ + 1 ≤ 4; omega }, hst, rfl, rfl, rfl, Nat.le_add_right _ _, Nat.le_add_right _ _⟩
 ·
  generalize (c.push b).listed.getD 1 0 = x
  unfold Ch.rungd
  split
  ·
   rename_i hx
   exact ⟨⟨h.bro, fun x hx => absurd (show x ∈ ([] : List Pr) from hx) (by simp), fun x hx => absurd (show x ∈ ([] : List Nat) from hx) (by simp), fun x hx => absurd (show x ∈ ([] : List Pr) from hx) (by simp), fun x hx => absurd (show x ∈ ([] : List Nat) from hx) (by simp), fun e => absurd (show false = true from e) (by decide), Nat.zero_le _, Nat.zero_le _, by show ((0 : Nat) : Int) ≤ g.p; omega, by show ((0 : Nat) : Int) ≤ g.p; omega, Nat.zero_le _, h.cl, hx, (nb_is hs.ok c).2, h.pl, Nat.zero_le _⟩, by show 1 ≤ 10; omega, rfl, rfl, rfl, Nat.le_succ _, Nat.le_add_right _ _⟩
  ·
   exact ⟨⟨h.bro, fun x hx => absurd (show x ∈ ([] : List Pr) from hx) (by simp), fun x hx => absurd (show x ∈ ([] : List Nat) from hx) (by simp), fun x hx => absurd (show x ∈ ([] : List Pr) from hx) (by simp), fun x hx => absurd (show x ∈ ([] : List Nat) from hx) (by simp), fun e => absurd (show false = true from e) (by decide), Nat.zero_le _, Nat.zero_le _, by show ((0 : Nat) : Int) ≤ g.p; omega, by show ((0 : Nat) : Int) ≤ g.p; omega, Nat.zero_le _, h.cl, h.rg, (nb_is hs.ok c).2, h.pl, Nat.zero_le _⟩, by show 1 ≤ 10; omega, rfl, rfl, rfl, Nat.le_succ _, Nat.le_add_right _ _⟩
theorem write_gr (hs : SG g s) (hg : g.ok = true) (h : c.fit g) (hst : c.state ≤ 10) (hr : c.reg.length ≤ 1000) (b : Nat) : Gr g c (c.write s g b).2 := by
 unfold Ch.write
 split
 ·
  exact store_gr h hst hr b
 ·
  split
  ·
   exact setRung_gr hs hg h hst b
  ·
   exact Gr.same h hst
theorem acc_gr (hs : SG g s) (hg : g.ok = true) (h : c.fit g) (hst : c.state ≤ 10) (hr : c.reg.length = g.raw.toNat) (hr2 : c.reg.length ≤ 1000) (h8 : ∀ x ∈ c.listed, x < 256) (k b : Nat) (hb8 : b < 256) (l : List Nat) : Gr g c (c.acc g s k b l).2 := by
 unfold Ch.acc
 split
 ·
  split
  ·
   exact opens_gr hg h hst b
  ·
   exact ends_gr hs hg h hst hr h8 b
 ·
  split
  ·
   exact addr_gr hs hg h hst h8 b hb8 l
  ·
   exact write_gr hs hg h hst hr2 b
theorem exec_gr (hs : SG g s) (hg : g.ok = true) (h : c.fit g) (hst : c.state ≤ 10) (hr : c.reg.length = g.raw.toNat) (hr2 : c.reg.length ≤ 1000) (h8 : ∀ x ∈ c.listed, x < 256) (k b : Nat) (hb8 : b < 256) (l : List Nat) : Gr g c (c.exec g s k b l).2 := by
 unfold Ch.exec
 split
 ·
  exact reset_gr hs hg h
 ·
  split
  ·
   exact enter_gr 1 (by omega) h
  ·
   split
   ·
    exact read_gr hg h hst hr2
   ·
    split
    ·
     exact Gr.same h hst
    ·
     show Gr g c (if _ then _ else _)
     have := acc_gr hs hg h hst hr hr2 h8 k b hb8 l
     split
     ·
      exact this
     ·
      exact this.leave hg
end
section
variable {I : Nat → Prop} {w : World} {p : Nat} {g : Gm} {s : Sc} {c : Ch}
set_option maxHeartbeats 2000000 in
theorem Do_execL (k b : Int) (hk : 1 ≤ k ∧ k ≤ 4) (ho : c.on = true) (hcut : c.cut ≠ 0) (hc1 : -1 ≤ c.cut) (hc2 : c.cut ≤ 1099511627776) (hcy : c.cycles ≤ 1099511627776) (f : List Nat → Int × Ch)
  (HX : ∀ W, CH I W p g s c.tick → Calls Tryz.prog 84 #[.pointer (some ⟨p, 0, none⟩), .agg #[.int .i64 k, .int .u8 b]] W (ActsL I p g s (fun l => (.int .u8 (f l).1, (f l).2)) W)) (h : CH I w p g s c) :
  Calls Tryz.prog 70 #[.pointer (some ⟨p, 0, none⟩), .agg #[.int .i64 k, .int .u8 b]] w (ActsL I p g s (fun l => (.tuple #[.int .u8 (f l).1, .int .i64 0], (f l).2)) w) := by
 have B0 := Lib.hid (below_new w (.cells #[.int .i64 k, .int .u8 b] 93))
 have Z0 := Lib.hid (CRow.new w #[.int .i64 k, .int .u8 b] 93)
 have HO := Lib.hid ho
 have HC := Lib.hid hcut
 have HXX := Lib.hid HX
 have HR := Lib.hid (fun W => Right_any k b W)
 rw [okK_iff.2 hk] at HR
 have hx := h.below B0.out
 obtain ⟨ρ, m, hc, hp, hi⟩ := hx
 have C0 := Lib.hid hc
 have P0 := Lib.hid hp
 have I0 := Lib.hid hi
 obtain ⟨z, hz⟩ : ∃ z, z = (c.cycles : Int) := ⟨_, rfl⟩
 have HZ := Lib.hid hz
 obtain ⟨q, hq⟩ : ∃ q, q = c.cut := ⟨_, rfl⟩
 have HQ := Lib.hid hq
 have wz : IntKind.i64.wrap (z + 1) = z + 1 := IntWalk.i64_in _ (by omega)
 have wq : IntKind.i64.wrap (q - 1) = q - 1 := IntWalk.i64_in _ (by omega)
 have q0 : (q == 0) = false := by rw [beq_eq_false_iff_ne]; rw [hq]; exact hcut
 have q1 : -1 ≤ q ∧ q ≤ 1099511627776 := by omega
 have z1 : 0 ≤ z ∧ z ≤ 1099511627776 := by omega
 clear h ho hcut HX hk hc hp hi hc1 hc2 hcy hz hq
 go_enter Tryz.func70, Tryz.ntmps70
 go_wp2_with fail
 refine (cmade_yes p m.ap _ (C0.out.cell_at 27 _ rfl)).mono ?_
 rintro _ w1 ⟨rfl, h1⟩
 have B1 := Lib.hid (below_step B0.out h1)
 have C1 := Lib.hid (C0.out.below h1)
 have Z1 := Lib.hid (Z0.out.below h1)
 have P1 := Lib.hid (P0.out.below h1)
 have I1 := Lib.hid (I0.out.grow h1.size)
 have x28 : w1.cell? ⟨p, 28, none⟩ = some (.bool true) := by
  have h0 := C1.out.cell_at 28 (.bool c.on) rfl
  rw [HO.out] at h0
  exact h0
 have yk := Z1.out.cell_at 0 _ rfl
 have yb := Z1.out.cell_at 1 _ rfl
 have hz1 := Z1.out.lt
 clear h1 C0 P0 Z0 I0
 go_wp2_with fail
 clear x28 yk yb
 refine (HR.out _).mono ?_
 rintro _ w2 ⟨rfl, h2⟩
 have B2 := Lib.hid (below_step B1.out h2)
 have C2 := Lib.hid (C1.out.below h2)
 have Z2 := Lib.hid (Z1.out.below h2)
 have P2 := Lib.hid (P1.out.below h2)
 have I2 := Lib.hid (I1.out.grow h2.size)
 have ne : p ≠ w.heap.size := fun e => by
  have := crow_ne C2.out Z2.out (by decide)
  exact this e
 have x29 : w2.cell? ⟨p, 29, none⟩ = some (.int .i64 q) := by rw [HQ.out]; exact C2.out.cell_at 29 _ rfl
 have f29 := C2.out.frozen 29
 have x30 : w2.cell? ⟨p, 30, none⟩ = some (.int .i64 z) := by rw [HZ.out]; exact C2.out.cell_at 30 _ rfl
 have f30 := C2.out.frozen 30
 have yk := Z2.out.cell_at 0 _ rfl
 have yb := Z2.out.cell_at 1 _ rfl
 clear h2 C1 P1 Z1 I1 HR hz1
 by_cases hm : q = -1
 ·
  subst hm
  have S1 := Lib.hid (C2.out.setCell 30 (.int .i64 (z + 1)))
  have K1 := Lib.hid ((Btw.refl (I := fun j => j = p) w2).setCell (p := ⟨p, 30, none⟩) (v := .int .i64 (z + 1)) rfl)
  go_wp2_with fail
  have H3 := CH.of (I := I) (c' := c.tick) (w' := w2.setCell ⟨p, 30, none⟩ (.int .i64 (z + 1))) (m := m) (by
   have h0 := S1.out
   have e : (chCells g c m).setIfInBounds 30 (.int .i64 (z + 1)) = chCells g c.tick m := by
    rw [HZ.out]
    have := HQ.out
    simp [chCells, Ch.tick, ← this]
   rw [e] at h0
   exact h0) P2.out I2.out K1.out fun W h => { h with }
  clear x29 x30 f29 f30 yk yb wz wq q0 q1 z1
  refine (HXX.out _ H3.1).mono ?_
  rintro e w4 ⟨l, hl, he, h4, b4⟩
  have he : e = Ending.returned (.int .u8 (f l).1) := he
  have h4 : CH I w4 p g s (f l).2 := h4
  subst he
  have HL := Lib.hid hl
  obtain ⟨v, hv⟩ : ∃ v, v = (f l).1 := ⟨_, rfl⟩
  have HV := Lib.hid hv
  rw [← hv]
  clear hl hv
  have H4 := Lib.hid h4
  have B4 := Lib.hid (((Btw.of_below (I := I) B2.out).trans H3.2 (fun _ _ h => h)).trans b4 (fun _ _ h => h))
  clear h4 b4 H3
  go_wp2
  go_ret2
  refine ⟨l, HL.out, ?_, H4.out, B4.out⟩
  show _ = Ending.returned (.tuple #[.int .u8 (f l).1, .int .i64 0])
  rw [← HV.out]
  rfl
 ·
  have q2 : (q == -1) = false := by rw [beq_eq_false_iff_ne]; exact hm
  have S1 := Lib.hid ((C2.out.setCell 29 (.int .i64 (q - 1))).setCell 30 (.int .i64 (z + 1)))
  have K1 := Lib.hid (((Btw.refl (I := fun j => j = p) w2).setCell (p := ⟨p, 29, none⟩) (v := .int .i64 (q - 1)) rfl).setCell (p := ⟨p, 30, none⟩) (v := .int .i64 (z + 1)) rfl)
  go_wp2_with fail
  have H3 := CH.of (I := I) (c' := c.tick) (w' := (w2.setCell ⟨p, 29, none⟩ (.int .i64 (q - 1))).setCell ⟨p, 30, none⟩ (.int .i64 (z + 1))) (m := m) (by
   have h0 := S1.out
   have e : ((chCells g c m).setIfInBounds 29 (.int .i64 (q - 1))).setIfInBounds 30 (.int .i64 (z + 1)) = chCells g c.tick m := by
    rw [HZ.out]
    have := HQ.out
    simp [chCells, Ch.tick, ← this, hm]
   rw [e] at h0
   exact h0) P2.out I2.out K1.out fun W h => { h with }
  clear x29 x30 f29 f30 yk yb wz wq q0 q1 z1
  refine (HXX.out _ H3.1).mono ?_
  rintro e w4 ⟨l, hl, he, h4, b4⟩
  have he : e = Ending.returned (.int .u8 (f l).1) := he
  have h4 : CH I w4 p g s (f l).2 := h4
  subst he
  have HL := Lib.hid hl
  obtain ⟨v, hv⟩ : ∃ v, v = (f l).1 := ⟨_, rfl⟩
  have HV := Lib.hid hv
  rw [← hv]
  clear hl hv
  have H4 := Lib.hid h4
  have B4 := Lib.hid (((Btw.of_below (I := I) B2.out).trans H3.2 (fun _ _ h => h)).trans b4 (fun _ _ h => h))
  clear h4 b4 H3
  go_wp2
  go_ret2
  refine ⟨l, HL.out, ?_, H4.out, B4.out⟩
  show _ = Ending.returned (.tuple #[.int .u8 (f l).1, .int .i64 0])
  rw [← HV.out]
  rfl
structure Ok (g : Gm) (q : Nat) (c : Ch) : Prop where
 fit : c.fit g
 st : c.state ≤ 10
 on : c.on = true
 cut : c.cut = -1
 cyc : c.cycles ≤ q
 bz : c.bz ≤ 2 * q
 wk : c.wk ≤ 20 * q
theorem tick_fit (h : c.fit g) : c.tick.fit g := { h with }
end
def Ch.doC (g : Gm) (s : Sc) (c : Ch) (t : Cy) : Int × Int × Ch :=
 if c.on = false then (255, 20, c)
 else if okK t.k = false then (0, 2, c)
 else if c.cut = 0 then (255, 20, c.lostW g s)
 else ((c.tick.exec g s t.k.toNat t.b (parL g)).1, 0, (c.tick.exec g s t.k.toNat t.b (parL g)).2)
structure Okc (g : Gm) (q : Nat) (c : Ch) : Prop where
 fit : c.fit g
 st : c.state ≤ 10
 cut : -1 ≤ c.cut ∧ c.cut ≤ 16777216
 cyc : c.cycles ≤ q
 bz : c.bz ≤ 2 * q
 wk : c.wk ≤ 20 * q
section
variable {I : Nat → Prop} {w : World} {p : Nat} {g : Gm} {s : Sc} {c : Ch}
theorem Okc.more {q q' : Nat} (h : Okc g q c) (hq : q ≤ q') : Okc g q' c := { h with cyc := Nat.le_trans h.cyc hq, bz := Nat.le_trans h.bz (by omega), wk := Nat.le_trans h.wk (by omega) }
theorem ansG_byte (g : Gm) (n : Nat) : 0 ≤ ansG g n ∧ ansG g n < 256 := by
 unfold ansG
 split <;> omega
theorem next_byte (h : ∀ x ∈ c.reg, x < 256) : 0 ≤ c.next.1 ∧ c.next.1 < 256 := by
 unfold Ch.next
 split
 ·
  simp
 ·
  rename_i hc
  have : c.reg.getD c.col 0 < 256 := by
   rw [List.getD_eq_getElem?_getD, List.getElem?_eq_getElem (by omega)]
   exact h _ (List.getElem_mem _)
  constructor
  ·
   show (0 : Int) ≤ ((c.reg.getD c.col 0 : Nat) : Int)
   omega
  ·
   show ((c.reg.getD c.col 0 : Nat) : Int) < 256
   omega
theorem flpv (c : Ch) : 0 ≤ c.fl ∧ c.fl ≤ 1 ∧ 0 ≤ c.pv ∧ c.pv ≤ 2 := by
 unfold Ch.fl Ch.pv
 refine ⟨?_, ?_, ?_, ?_⟩ <;> split <;> decide
theorem read_byte (h : ∀ x ∈ c.reg, x < 256) : 0 ≤ (c.read g s).1 ∧ (c.read g s).1 < 256 := by
 unfold Ch.read
 split
 ·
  unfold Ch.poll
  split
  ·
   simp
  ·
   split
   ·
    have := flpv (c.perform g s)
    exact ⟨by show 0 ≤ 192 + _; omega, by show 192 + _ < (256 : Int); omega⟩
   ·
    have := flpv ((c.perform g s).pBehind g s)
    exact ⟨by show 0 ≤ 224 + _ + _; omega, by show 224 + _ + _ < (256 : Int); omega⟩
 ·
  split
  ·
   simp
  ·
   split
   ·
    unfold Ch.tell
    split
    ·
     exact ansG_byte g _
    ·
     simp
   ·
    split
    ·
     exact next_byte (c := c.enter 7) h
    ·
     split
     ·
      exact next_byte h
     ·
      simp
theorem exec_byte (k b : Nat) (l : List Nat) (h : ∀ x ∈ c.reg, x < 256) : 0 ≤ (c.exec g s k b l).1 ∧ (c.exec g s k b l).1 < 256 := by
 unfold Ch.exec
 split
 ·
  simp
 ·
  split
  ·
   simp
  ·
   split
   ·
    exact read_byte h
   ·
    split <;> simp
set_option maxHeartbeats 2000000 in
theorem Do_bad (k b : Int) (hk : okK k = false) (ho : c.on = true) (h : CH I w p g s c) :
  Calls Tryz.prog 70 #[.pointer (some ⟨p, 0, none⟩), .agg #[.int .i64 k, .int .u8 b]] w (Gives (.tuple #[.int .u8 0, .int .i64 2]) w) := by
 have B0 := Lib.hid (below_new w (.cells #[.int .i64 k, .int .u8 b] 93))
 have Z0 := Lib.hid (CRow.new w #[.int .i64 k, .int .u8 b] 93)
 have H0 := Lib.hid (h.below B0.out)
 have HO := Lib.hid ho
 have HR := Lib.hid (fun W => Right_any k b W)
 rw [hk] at HR
 clear h ho hk
 have hx := H0.out
 obtain ⟨ρ, m, hc, -⟩ := hx
 have C0 := Lib.hid hc
 clear hc
 go_enter Tryz.func70, Tryz.ntmps70
 go_wp2_with fail
 refine (cmade_yes p m.ap _ (C0.out.cell_at 27 _ rfl)).mono ?_
 rintro _ w1 ⟨rfl, h1⟩
 have B1 := Lib.hid (below_step B0.out h1)
 have C1 := Lib.hid (C0.out.below h1)
 have x28 : w1.cell? ⟨p, 28, none⟩ = some (.bool true) := by
  have h0 := C1.out.cell_at 28 (.bool c.on) rfl
  rw [HO.out] at h0
  exact h0
 have yk := (Z0.out.below h1).cell_at 0 _ rfl
 have yb := (Z0.out.below h1).cell_at 1 _ rfl
 clear h1 H0 C0
 go_wp2_with fail
 clear x28 yk yb
 refine (HR.out _).mono ?_
 rintro _ w2 ⟨rfl, h2⟩
 have B2 := Lib.hid (below_step B1.out h2)
 clear h2 HR
 go_wp2
 go_ret2
 exact ⟨rfl, B2.out⟩
theorem regs (h : CH I w p g s c) : g.ok = true ∧ c.reg.length = g.raw.toNat ∧ c.reg.length ≤ 1000 ∧ (∀ x ∈ c.listed, x < 256) ∧ (∀ x ∈ c.reg, x < 256) := by
 obtain ⟨ρ, m, _, hp, _⟩ := h
 have hr2 := hp.raw_
 have hr := hp.regn
 obtain ⟨_, _, _, _, _, _, hr8⟩ := hp.reg
 exact ⟨hp.arr.ok, hr, by omega, hp.l8, hr8.2⟩
theorem Do_w {q : Nat} (t : Cy) (ht : t.b < 256) (hq : q ≤ 100000) (hs : SG g s) (ho : c.on = true → Okc g q c) (h : CH I w p g s c) :
  Calls Tryz.prog 70 #[.pointer (some ⟨p, 0, none⟩), .agg #[.int .i64 t.k, .int .u8 (t.b : Int)]] w fun e w' =>
   e = .returned (.tuple #[.int .u8 (c.doC g s t).1, .int .i64 (c.doC g s t).2.1]) ∧ CH I w' p g s (c.doC g s t).2.2 ∧ Btw I w w' ∧ ((c.doC g s t).2.2.on = true → Okc g (q + 1) (c.doC g s t).2.2) ∧ 0 ≤ (c.doC g s t).1 ∧ (c.doC g s t).1 < 256 := by
 obtain ⟨hg, hr, hr2, h8, hr8⟩ := regs h
 unfold Ch.doC
 cases hon : c.on with
 | false =>
  rw [if_pos rfl]
  refine (Do_off t.k (t.b : Int) hon h).mono ?_
  rintro _ w1 ⟨rfl, h1⟩
  exact ⟨rfl, h.below h1, Btw.of_below h1, fun e => absurd (hon.symm.trans e) (by decide), by simp, by simp⟩
 | true =>
  rw [if_neg (by decide)]
  have hok := ho hon
  cases hkk : okK t.k with
  | false =>
   rw [if_pos rfl]
   refine (Do_bad t.k (t.b : Int) hkk hon h).mono ?_
   rintro _ w1 ⟨rfl, h1⟩
   exact ⟨rfl, h.below h1, Btw.of_below h1, fun _ => hok.more (Nat.le_succ q), by simp, by simp⟩
  | true =>
   rw [if_neg (by decide)]
   have hk := okK_iff.1 hkk
   by_cases hcut : c.cut = 0
   ·
    rw [if_pos hcut]
    refine (Do_lose t.k (t.b : Int) hk hon hcut (c.lostW g s) (fun W hW => (lose_any hs hok.fit hW).mono fun e w' h => h) h).mono ?_
    rintro _ w1 ⟨rfl, h1, h2⟩
    exact ⟨rfl, h1, h2, fun e => absurd (show false = true from e) (by decide), by simp, by simp⟩
   ·
    rw [if_neg hcut]
    obtain ⟨k, hkn⟩ : ∃ k : Nat, t.k = (k : Int) := ⟨t.k.toNat, by omega⟩
    have hk4 : k = 1 ∨ k = 2 ∨ k = 3 ∨ k = 4 := by omega
    have e1 := hok.cut
    have e2 := hok.cyc
    have e3 := hok.bz
    have e4 := hok.wk
    rw [hkn]
    rw [show ((k : Int)).toNat = k by omega]
    refine (Do_execL (k : Int) (t.b : Int) (by omega) hon hcut (by omega) (by omega) (by omega) (fun l => c.tick.exec g s k t.b l) (fun W hW => execute_any k t.b hk4 ht hs (by show c.bz ≤ _; omega) (by show c.wk ≤ _; omega) (tick_fit hok.fit) hok.st hW) h).mono ?_
    rintro e w' ⟨l, rfl, h1, h2, h3⟩
    have G := exec_gr (c := c.tick) hs hg (tick_fit hok.fit) hok.st hr hr2 h8 k t.b ht (parL g)
    refine ⟨h1, h2, h3, fun _ => ⟨G.fit, G.st, ?_, ?_, ?_, ?_⟩, exec_byte k t.b (parL g) hr8⟩
    ·
     rw [G.cut]
     show -1 ≤ (if c.cut = -1 then -1 else c.cut - 1) ∧ (if c.cut = -1 then -1 else c.cut - 1) ≤ 16777216
     split <;> omega
    ·
     show (c.tick.exec g s k t.b (parL g)).2.cycles ≤ q + 1
     have := G.cyc
     have : c.tick.cycles = c.cycles + 1 := rfl
     omega
    ·
     show (c.tick.exec g s k t.b (parL g)).2.bz ≤ 2 * (q + 1)
     have := G.bz
     have : c.tick.bz = c.bz := rfl
     omega
    ·
     show (c.tick.exec g s k t.b (parL g)).2.wk ≤ 20 * (q + 1)
     have := G.wk
     have : c.tick.wk = c.wk := rfl
     omega
theorem doC_byte (t : Cy) (h : ∀ x ∈ c.reg, x < 256) : 0 ≤ (c.doC g s t).1 ∧ (c.doC g s t).1 < 256 := by
 unfold Ch.doC
 repeat' split
 ·
  simp
 ·
  simp
 ·
  simp
 ·
  exact exec_byte (c := c.tick) _ _ _ h
end
theorem Okc.new {g : Gm} {s : Sc} (hg : g.ok = true) (hc : -1 ≤ s.cut ∧ s.cut ≤ 16777216) : Okc g 0 (Ch.new g s) := by
 have hb := Gm.bounds_of hg
 exact ⟨⟨fun e => absurd (show false = true from e) (by decide), fun x hx => absurd (show x ∈ ([] : List Pr) from hx) (by simp), fun x hx => absurd (show x ∈ ([] : List Nat) from hx) (by simp), fun x hx => absurd (show x ∈ ([] : List Pr) from hx) (by simp), fun x hx => absurd (show x ∈ ([] : List Nat) from hx) (by simp), fun e => absurd (show false = true from e) (by decide), Nat.zero_le _, Nat.zero_le _, by show ((0 : Nat) : Int) ≤ g.p; omega, by show ((0 : Nat) : Int) ≤ g.p; omega, Nat.zero_le _, Nat.zero_le _, by show ((0 : Nat) : Int) < g.r; omega, Nat.zero_le _, Nat.zero_le _, Nat.zero_le _⟩, Nat.zero_le _, hc, Nat.zero_le _, Nat.zero_le _, Nat.zero_le _⟩
theorem eng0 {c : Ch} (h1 : c.busy = 0) (h2 : c.reads = false) (h3 : c.progs = []) (h4 : c.blocks = []) : c.engaged = false := by
 unfold Ch.engaged wany
 rw [h1, h2, h3, h4]
 rfl
structure Rz (c : Ch) : Prop where
 st : c.state = 1
 th : c.there = false
 rd : c.reads = false
 pr : c.progs = []
 bl : c.blocks = []
 fa : c.fail = false
 pv : c.prev = false
 pl : c.polls = 0
theorem Rz.of (g : Gm) (s : Sc) (c : Ch) : Rz ((c.reset g s).tick.enter 1) := ⟨rfl, rfl, rfl, rfl, rfl, rfl, rfl, rfl⟩
theorem Rz.tick {c : Ch} (h : Rz c) : Rz c.tick := ⟨h.st, h.th, h.rd, h.pr, h.bl, h.fa, h.pv, h.pl⟩
theorem exec_rd (g : Gm) (s : Sc) (c : Ch) (l : List Nat) : c.exec g s 4 0 l = c.read g s := by
 unfold Ch.exec
 rw [if_neg (by omega), if_neg (by omega), if_pos rfl]
theorem Rz.poll0 {g : Gm} {s : Sc} {c : Ch} (h : Rz c) (hb : c.busy = 0) (l : List Nat) : c.exec g s 4 0 l = (224, c) := by
 rw [exec_rd]
 unfold Ch.read
 rw [if_pos h.st]
 have hp : c.perform g s = c := by
  unfold Ch.perform
  rw [if_neg]
  rw [h.rd, h.pr, h.bl]
  decide
 have hq : c.pBehind g s = c := by
  unfold Ch.pBehind
  rw [if_neg (by rw [h.th]; decide)]
 unfold Ch.poll
 rw [if_neg (by omega), hp, if_neg (by rw [h.pl]; omega), hq]
 unfold Ch.fl Ch.pv
 rw [h.fa, h.pv]
 rfl
theorem Rz.poll1 {g : Gm} {s : Sc} {c : Ch} (h : Rz c) (hb : 0 < c.busy) (l : List Nat) : c.exec g s 4 0 l = (128, { c with busy := c.busy - 1 }) := by
 rw [exec_rd]
 unfold Ch.read
 rw [if_pos h.st]
 unfold Ch.poll
 rw [if_pos hb]
structure Nm (n : Nat) (c : Ch) : Prop where
 st : c.state = n
 bz : c.busy = 0
 rd : c.reads = false
 pr : c.progs = []
 bl : c.blocks = []
theorem Nm.c00 {g : Gm} {s : Sc} {c : Ch} (h : Nm 2 c) (l : List Nat) : c.exec g s 2 0 l = (0, (c.push 0).enter 3) := by
 unfold Ch.exec
 rw [if_neg (by omega), if_neg (by omega), if_neg (by omega), if_neg (by rw [eng0 h.bz h.rd h.pr h.bl]; decide)]
 have e : c.acc g s 2 0 l = (true, (c.push 0).enter 3) := by
  unfold Ch.acc
  rw [if_neg (by omega), if_pos rfl]
  unfold Ch.addr
  rw [if_neg (by unfold Ch.lists; rw [if_pos (.inl h.st)]; decide), if_pos h.st]
 rw [e]
 rfl
theorem Nm.told {g : Gm} {s : Sc} {c : Ch} (h : Nm 3 c) (hs : c.said < 5) (l : List Nat) : c.exec g s 4 0 l = (ansG g c.said, { c with said := c.said + 1 }) := by
 rw [exec_rd]
 unfold Ch.read
 rw [if_neg (by rw [h.st]; omega), if_neg (by rw [eng0 h.bz h.rd h.pr h.bl]; decide), if_pos h.st]
 unfold Ch.tell
 rw [if_pos hs]
section
variable {I : Nat → Prop} {w : World} {p : Nat} {g : Gm} {s : Sc} {c : Ch}
end
end Go.Proofs.YtmbgoopkpfhamaaGreat
