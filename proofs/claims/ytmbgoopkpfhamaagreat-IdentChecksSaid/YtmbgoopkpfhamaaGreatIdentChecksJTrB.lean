/-
  Contracts of the recorder's Add, Mark, Since, over the landed code.
-/
import Derived.Test.YtmbgoopkpfhamaaGreatTk
import Derived.Test.YtmbgoopkpfhamaaGreatTkB
import Derived.Maps.AppendAt
import Derived.Test.YtmbgoopkpfhamaaGreatIdentChecksJ23
import Derived.Test.YtmbgoopkpfhamaaGreatIdentChecksJ11
import Derived.Test.YtmbgoopkpfhamaaGreatIdentChecksJInv
namespace Go.Proofs.YtmbgoopkpfhamaaGreat
open Go.RowKit
set_option maxRecDepth 100000
theorem wp_appendC {P : Program} (w : World) {o : Oper} {a : Act} {K : Act → World → Prop} {Q : Exit → Act → World → Prop} (s x : Operand) (t : TypeId)
  (ho : o.op = .call { callee := .builtin .append, args := #[s, x], argTypes := #[t, t] })
  (base : Nat) (e : TypeId) (i : TypeInfo) (ht : P.underlying t = some (.slice e)) (hi : P.info? e = some i) (hz : i.zero = some (.agg #[.int .i64 0, .int .u8 0])) (hsize : i.size = 2) (hby : i.bytes = 16)
  (v : Value) (n : Nat) (l : List Cy) (hs : a.eval s = v) (hown : w.ownsRow base e 2 v n (CyC l))
  (A : Option Addr) (m c : Nat) (k : List Cy) (hx : a.eval x = .slice A m c) (hnil : A = none → c = 0) (hr : RC w A m k)
  (h63 : n + m ≤ 1099511627776) (hbase : base ≤ w.heap.size)
  (h : ∀ v' w', w'.ownsRow base e 2 v' (n + m) (CyC (l ++ k)) → w.grownBy w' v.ownBlock → (v'.ownBlock = v.ownBlock ∨ v'.ownBlock = some w.heap.size) → K (a.put o.dst v') w') : o.wp P a w K Q := by
 rcases A with _ | ad
 ·
  have hm : m = 0 := by
   rcases Nat.eq_zero_or_pos m with h0 | h0
   ·
    exact h0
   ·
    obtain ⟨b, off, h1, _⟩ := hr.2.2 h0; cases h1
  obtain rfl := hnil rfl
  subst hm
  obtain rfl : k = [] := List.eq_nil_of_length_eq_zero hr.len
  have hrun := run_append_owned_none (P := P) (w := w) base t o.type e i 2 ht hi v n (CyC l) hown
  unfold Oper.wp
  simp [execOp, ho, resolve, invoke, builtin, hs, hx, hrun, Result.andThen]
  exact h v w (by simpa using hown) (World.grownBy.refl w _) (.inl rfl)
 ·
  obtain ⟨v', w', hrun, h2, h3, _, h4⟩ := run_append_own_at (P := P) (w := w) base t o.type e i _ 2 16 ht hi hz hsize hby rfl (by decide) v n (CyC l) hown ad m c (CyC k) (by rw [CyC_length, hr.len]) (by
   intro j u hu
   rcases Nat.eq_zero_or_pos m with h0 | h0
   ·
    obtain rfl : k = [] := List.eq_nil_of_length_eq_zero (by rw [hr.len, h0])
    simp [CyC] at hu
   ·
    obtain ⟨b, off, h1, hb, hc⟩ := hr.2.2 h0
    injection h1 with h1
    subst h1
    have hj : j < m * 2 := by
     rcases Nat.lt_or_ge j (CyC k).length with h2 | h2
     ·
      rw [CyC_length, hr.len] at h2; exact h2
     ·
      rw [List.getElem?_eq_none h2] at hu; cases hu
    have h2 := hc j hj
    rw [hu] at h2
    have e2 : ((⟨b, off, none⟩ : Addr).add j) = ⟨b, off + j, none⟩ := by unfold Addr.add; split <;> simp_all
    rw [e2]
    exact h2) (CyC_one k) (by unfold maxLen; omega) (by omega) hbase
  unfold Oper.wp execOp
  simp only [ho, resolve, invoke, builtin, Sem.run_bind, Sem.run_pure, Result.andThen_ok, List.map_toArray, List.map_cons, List.map_nil, hs, hx, hrun]
  exact h v' w' (by rw [CyC_append]; exact h2) h3 h4
theorem wp_mapUpdateS {P : Program} (w : World) {o : Oper} {a : Act} {K : Act → World → Prop} {Q : Exit → Act → World → Prop} (m x v : Operand) (t : TypeId) (hop : o.op = Op.mapUpdate t m x v)
  (k e : TypeId) (Y : Maps.Keyed P k) (ht : P.underlying t = some (.map k e)) (R : Value → Option (DataW Unit × List MemPlace)) (b n : Nat) (D : DataW Unit)
  (hm : a.eval m = .map (some b)) (hown : w.ownsMap P k R b n D) (hn : n < maxLen) (key val : Value) (kl : Lit) (hx : a.eval x = key) (hv : a.eval v = val) (hkey : keyOf P k key = some kl)
  (d : DataW Unit) (ps : List MemPlace) (hval : R val = some (d, ps))
  (h : ∀ w', w'.ownsMap P k R b (n + 1) (D.put kl d) → w.grownBy w' (some b) → K (a.put o.dst undef) w') : o.wp P a w K Q := by
 obtain ⟨w', hrun, r1, r2⟩ := hown.update Y ht hn hkey hval
 unfold Oper.wp
 simp [execOp, hop, hm, hx, hv, hrun, Result.andThen]
 exact h w' r1 r2
def Turns (p : Nat) (I : Nat → Prop) (L : List Cy) (n : Int) (M : ByteArray → Option Nat) (k : Nat) (w : World) (e : Ending) (w' : World) : Prop :=
 e = .returned (.tuple #[]) ∧ Btw I w w' ∧ ∃ J, Rec w' p J L n M k ∧ ∀ j, j < w.heap.size → J j → I j
set_option maxHeartbeats 4000000 in
theorem Add_any (p : Nat) (I : Nat → Prop) (L : List Cy) (n : Nat) (M : ByteArray → Option Nat) (k : Nat) (X : Option Addr) (m d : Nat) (l : List Cy) (w : World) (h : Rec w p I L (n : Int) M k)
  (hx : RC w X m l) (hnil : X = none → d = 0) (hmd : m ≤ d) (hLm : L.length + m ≤ 16777216) (hn : n ≤ 1099511627776) :
  Calls Tryz.prog 72 #[.pointer (some ⟨p, 0, none⟩), .slice X m d] w (Turns p I (L ++ l) ((n + m : Nat) : Int) M k w) := by
 obtain ⟨i0, ti, tz0, tz1, tz2⟩ := info_parts info_cycle
 obtain ⟨A, c, b, D, h⟩ := h
 have HP := Lib.hid h.apart
 obtain ⟨h1, h2, h3, h4, h5, h6, h7, h8, h9⟩ := h
 have HC := Lib.hid h1
 have HO := Lib.hid h2
 have HI := Lib.hid h3
 have HM := Lib.hid h4
 have HMI := Lib.hid h5
 have HIp := Lib.hid h6
 have HIb := Lib.hid h7
 have HIv := Lib.hid h8
 have HIl := Lib.hid h9
 have HX := Lib.hid hx
 have HXN := Lib.hid hnil
 have HXl := Lib.hid hx.len
 have HXi := Lib.hid hx.in_
 clear h1 h2 h3 h4 h5 h6 h7 h8 h9 hx hnil
 go_enter Tryz.func72, Tryz.ntmps72
 go_wp2_with fail
 refine (made_any p b _ n _ HC.out).mono ?_
 rintro _ w1 ⟨rfl, h1⟩
 have B1 := Lib.hid h1
 have x0 := (HC.out.below h1).cell_at 0 _ rfl
 have HC1 := Lib.hid (HC.out.below h1)
 have HO1 := Lib.hid (own_below2 HO.out h1)
 have HX1 := Lib.hid (HX.out.below h1)
 clear h1 HC HO HX
 go_wp2
 refine wp_region_noPanic ?_
 refine wp_region_held_drew (S := fun w' => True) (by kernel_rfl) trivial (fun C0 => ?_)
 refine tkH4 0 C0 ?_
 refine tkH4 1 C0 ?_
 refine tkH4 2 C0 ?_
 refine tkH4 3 C0 ?_
 refine tkH4 5 C0 ?_
 refine tkH4 6 C0 ?_
 refine tkH4 7 C0 ?_
 refine tkH4 8 C0 ?_
 refine tkH4 9 C0 ?_
 rw [if_neg (show ¬ ((16777216 : Int) - (L.length : Int) < (m : Int)) by omega)]
 refine tkH4 10 C0 ?_ (hy := fun W' hSw => by have e2 : (m : Int) ≤ (d : Int) := (by omega); clear hSw; go_simp <;> with_reducible rfl)
 refine wpAnyH_ready (rs := [4]) (by kernel_rfl) (by simp) ?_
 refine AllReadyH.cons (o := { dst := some 18, op := Op.load 49 (Operand.tmp 17), type := 49, pos := "trace.go:29", after := #[{ on := 3, ground := Ground.data }], guard := none }) rfl (fun K hK => ?_) AllReadyH.nil
 go_simp
 refine hK.out _ _ trivial (fun C1 => ?_)
 clear hK K
 try simp only [Act.put, zzI, zzO, zzS]
 refine wpAnyH_ready (rs := [11]) (by kernel_rfl) (by simp) ?_
 refine AllReadyH.cons (o := { dst := some 25, op := Op.call { callee := Callee.builtin Builtin.append, args := #[Operand.tmp 18, Operand.tmp 24], argTypes := #[49, 49] }, type := 49, pos := "trace.go:29", after := #[{ on := 4, ground := Ground.data }, { on := 10, ground := Ground.data }], guard := none }) rfl (fun K hK => ?_) AllReadyH.nil
 rw [if_pos (by rfl)]
 refine wp_appendC w1.drew (.tmp 18) (.tmp 24) _ rfl 0 93 i0 Tryz.underlying49 ti tz0 tz1 tz2 (.slice A L.length c) L.length L rfl HO1.out X m d l rfl HXN.out HX1.out (by omega) (Nat.zero_le _) ?_
 intro v3 w3 hown hg hwh
 have HW3 := Lib.hid hwh
 obtain ⟨A3, c3, rfl⟩ := own_form2 hown
 have HO3 := Lib.hid hown
 have HG3 := Lib.hid hg
 have T3 := Lib.hid (show CRow w3 p 120 #[.slice A L.length c, .int .i64 n, .map (some b)] from (HC1.out.drew).btw (I := fun j => (Value.slice A L.length c).ownBlock = some j) (Btw.of_grown hg (fun _ h => h)) (fun h => (HP.out.2 _ h).1 rfl))
 have y0 := T3.out.cell_at 0 _ rfl
 have f0 := T3.out.frozen 0
 clear hown hg hwh
 refine hK.out _ _ trivial (fun C2 => ?_)
 clear hK K
 try simp only [Act.put, zzI, zzO, zzS]
 refine tkH4 12 C2 ?_
 refine tkH4 13 C2 ?_
 refine wpAnyH_ready (rs := [14]) (by kernel_rfl) (by simp) ?_
 refine AllReadyH.cons (o := { dst := none, op := Op.store 49 (Operand.tmp 27) (Operand.tmp 25), type := 0, pos := "trace.go:29", after := #[{ on := 13, ground := Ground.data }, { on := 11, ground := Ground.data }, { on := 11, ground := Ground.chain }, { on := 0, ground := Ground.phase }, { on := 1, ground := Ground.phase }, { on := 2, ground := Ground.phase }, { on := 3, ground := Ground.phase }, { on := 4, ground := Ground.phase }, { on := 5, ground := Ground.phase }, { on := 6, ground := Ground.phase }, { on := 7, ground := Ground.phase }, { on := 8, ground := Ground.phase }, { on := 9, ground := Ground.phase }, { on := 10, ground := Ground.phase }, { on := 11, ground := Ground.phase }], guard := none }) rfl (fun K hK => ?_) AllReadyH.nil
 go_simp
 refine hK.out _ _ trivial (fun C3 => ?_)
 clear hK K
 try simp only [Act.put]
 refine wpAnyH_done (by kernel_rfl) ?_ _
 refine NoPanic.normal ?_
 have T4 := Lib.hid (T3.out.setCell 0 (.slice A3 (L.length + m) c3))
 have z1 := T4.out.cell_at 1 (.int .i64 (n : Int)) rfl
 have f1 := T4.out.frozen 1
 clear y0 f0 x0
 go_wp2
 refine bodyPost_end (v := .tuple #[]) (results_none rfl _ _ _) rfl ?_
 have T5 := T4.out.setCell 1 (.int .i64 ((n : Int) + (m : Int)))
 have G1 : Btw I w w3 := (Btw.of_below (I := I) B1.out).drew.trans (Btw.of_grown (I := fun j => (Value.slice A L.length c).ownBlock = some j) HG3.out (fun _ h => h)) (fun j _ h => HIv.out j h)
 have G2 := G1.setCell (p := ⟨p, 0, none⟩) (v := .slice A3 (L.length + m) c3) HIp.out
 have G3 := G2.setCell (p := ⟨p, 1, none⟩) (v := .int .i64 ((n : Int) + (m : Int))) HIp.out
 have hs1 : w.heap.size ≤ w1.heap.size := B1.out.size
 have hp3 : ∀ j, (Value.slice A3 (L.length + m) c3).ownBlock = some j → j ≠ p := fun j hj e => by
  subst e
  obtain ⟨_, cur, hc⟩ := own_at2 HO3.out _ hj
  rw [T3.out.row] at hc
  simp at hc
 have hb1 : b < w1.heap.size := Nat.lt_of_lt_of_le (HIl.out b HIb.out) hs1
 have M1 := map_below HM.out B1.out
 have M3 : w3.ownsMap Tryz.prog 9 (plainElem Tryz.prog 3) b k D := map_btw (w := w1.drew) M1 (Btw.of_grown (I := fun j => (Value.slice A L.length c).ownBlock = some j) HG3.out (fun _ h => h)) (fun h => (HP.out.2 _ h).2 rfl)
 have hl : (L ++ l).length = L.length + m := by rw [List.length_append, HXl.out]
 have K3 : Btw (fun j => j = p) w3 ((w3.setCell ⟨p, 0, none⟩ (.slice A3 (L.length + m) c3)).setCell ⟨p, 1, none⟩ (.int .i64 ((n : Int) + (m : Int)))) := ((Btw.refl (I := fun j => j = p) w3).setCell (p := ⟨p, 0, none⟩) rfl).setCell (p := ⟨p, 1, none⟩) rfl
 refine ⟨by first | rfl | (push_cast; rfl), G3, fun j => I j ∨ (w.heap.size ≤ j ∧ j < w3.heap.size), ⟨A3, c3, b, D, ?_, ?_, ?_, map_btw M3 K3 (fun e => HP.out.1 e.symm), HMI.out, .inl HIp.out, .inl HIb.out, ?_, ?_⟩, ?_⟩
 ·
  rw [hl]
  exact T5
 ·
  rw [hl]
  exact own_btw2 HO3.out K3 hp3
 ·
  intro t ht
  rcases List.mem_append.1 ht with h | h
  ·
   exact HI.out t h
  ·
   exact HXi.out t h
 ·
  rw [hl]
  intro j hj
  rcases HW3.out with h | h
  ·
   exact .inl (HIv.out j (h ▸ hj))
  ·
   rw [h] at hj
   injection hj with hj
   obtain ⟨_, cur, hc⟩ := own_at2 HO3.out j (by rw [h, hj])
   have := (Array.getElem?_eq_some_iff.1 hc).1
   refine .inr ⟨?_, this⟩
   rw [← hj]
   exact hs1
 ·
  intro j hj
  have e1 := K3.size
  have e2 := G1.size
  rcases hj with h | h
  ·
   have := HIl.out j h
   omega
  ·
   omega
 ·
  intro j hj h
  rcases h with h | h
  ·
   exact h
  ·
   omega
set_option maxHeartbeats 4000000 in
theorem Mark_any (p : Nat) (I : Nat → Prop) (L : List Cy) (n : Int) (M : ByteArray → Option Nat) (k : Nat) (s : ByteArray) (w : World) (h : Rec w p I L n M k) (hk : k < 1000) (hL : L.length ≤ 16777216) (hs : s.size ≤ maxLen) :
  Calls Tryz.prog 71 #[.pointer (some ⟨p, 0, none⟩), .string s] w (Turns p I L n (fun t => if t = s then some L.length else M t) (k + 1) w) := by
 obtain ⟨A, c, b, D, h⟩ := h
 have HP := Lib.hid h.apart
 obtain ⟨h1, h2, h3, h4, h5, h6, h7, h8, h9⟩ := h
 have HC := Lib.hid h1
 have HO := Lib.hid h2
 have HI := Lib.hid h3
 have HM := Lib.hid h4
 have HMI := Lib.hid h5
 have HIp := Lib.hid h6
 have HIb := Lib.hid h7
 have HIv := Lib.hid h8
 have HIl := Lib.hid h9
 clear h1 h2 h3 h4 h5 h6 h7 h8 h9
 go_enter Tryz.func71, Tryz.ntmps71
 go_wp2_with fail
 refine (made_any p b _ n _ HC.out).mono ?_
 rintro _ w1 ⟨rfl, h1⟩
 have B1 := Lib.hid h1
 have HC1 := Lib.hid (HC.out.below h1)
 have HO1 := Lib.hid (own_below2 HO.out h1)
 have HM1 := Lib.hid (map_below HM.out h1)
 clear h1 HC HO HM
 go_wp2
 refine wp_region_noPanic ?_
 refine wp_region_held_drew (S := fun w' => CRow w' p 120 #[.slice A L.length c, .int .i64 n, .map (some b)]) (by kernel_rfl) HC1.out.drew (fun C0 => ?_)
 refine tkH4 0 C0 ?_
 refine tkH4 1 C0 ?_
 refine tkH4 2 C0 ?_
 refine tkH4 4 C0 ?_
 refine tkH4 5 C0 ?_
 refine tkH4 6 C0 ?_
 refine tkH4 7 C0 ?_
 refine tkH4 3 C0 ?_ (hy := fun W' hSw => by have y2 := hSw.cell_at 2 _ rfl; clear hSw; go_simp <;> with_reducible rfl)
 refine tkH4 8 C0 ?_ (hy := fun W' hSw => by have y0 := hSw.cell_at 0 _ rfl; clear hSw; go_simp <;> with_reducible rfl)
 refine tkH4 9 C0 ?_
 refine wpAnyH_ready (rs := [10]) (by kernel_rfl) (by simp) ?_
 refine AllReadyH.cons (o := { dst := none, op := Op.mapUpdate 118 (Operand.tmp 10) (Operand.tmp 11) (Operand.tmp 16), type := 0, pos := "trace.go:39", after := #[{ on := 3, ground := Ground.data }, { on := 4, ground := Ground.data }, { on := 9, ground := Ground.data }, { on := 0, ground := Ground.phase }, { on := 1, ground := Ground.phase }, { on := 2, ground := Ground.phase }, { on := 3, ground := Ground.phase }, { on := 4, ground := Ground.phase }, { on := 5, ground := Ground.phase }, { on := 6, ground := Ground.phase }, { on := 7, ground := Ground.phase }, { on := 8, ground := Ground.phase }, { on := 9, ground := Ground.phase }], guard := none }) rfl (fun K hK => ?_) AllReadyH.nil
 rw [if_pos (by rfl)]
 refine wp_mapUpdateS w1.drew (.tmp 10) (.tmp 11) (.tmp 16) 118 rfl 9 3 keyed_string Tryz.underlying118 (plainElem Tryz.prog 3) b k D rfl HM1.out (by unfold maxLen; omega) (.string s) (.int .i64 (L.length : Int)) _ rfl rfl (key_string hs) (.lit (.int .i64 (L.length : Int))) [] (plainElem_int Tryz.underlying3 (by simp [Lit.wf, IntKind.min, IntKind.max, IntKind.signed, IntKind.bits]; omega)) ?_
 intro w3 hown hg
 have HM3 := Lib.hid hown
 have HG3 := Lib.hid hg
 have T3 := Lib.hid (show CRow w3 p 120 #[.slice A L.length c, .int .i64 n, .map (some b)] from (HC1.out.drew).btw (I := fun j => j = b) (Btw.of_grown hg (fun _ h => (Option.some.inj h).symm)) HP.out.1)
 clear hown hg
 refine hK.out _ _ T3.out (fun C1 => ?_)
 clear hK K
 try simp only [Act.put]
 refine wpAnyH_done (by kernel_rfl) ?_ _
 refine NoPanic.normal ?_
 refine bodyPost_end (v := .tuple #[]) (results_none rfl _ _ _) rfl ?_
 have GB : Btw (fun j => j = b) w1.drew w3 := Btw.of_grown HG3.out (fun _ h => (Option.some.inj h).symm)
 have G : Btw I w w3 := (Btw.of_below (I := I) B1.out).drew.trans GB (fun j _ h => h ▸ HIb.out)
 refine ⟨rfl, G, I, ⟨A, c, b, _, T3.out, own_btw2 (w := w1.drew) HO1.out GB (fun j hj => (HP.out.2 j hj).2), HI.out, HM3.out, HMI.out.put s _, HIp.out, HIb.out, HIv.out, fun j hj => Nat.lt_of_lt_of_le (HIl.out j hj) G.size⟩, fun _ _ h => h⟩
def SinceIs (L : List Cy) (o : Option Nat) (w : World) (e : Ending) (w' : World) : Prop :=
 Below w.heap.size w w' ∧ ((o = none ∧ e = .returned (.tuple #[.slice none 0 0, .bool false])) ∨
  ∃ x, o = some x ∧ ∃ A c, e = .returned (.tuple #[.slice A (L.drop x).length c, .bool true]) ∧ RC w' A (L.drop x).length (L.drop x))
end Go.Proofs.YtmbgoopkpfhamaaGreat
