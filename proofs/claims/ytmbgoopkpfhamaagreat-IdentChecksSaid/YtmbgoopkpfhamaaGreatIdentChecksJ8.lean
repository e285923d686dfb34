/-
  A tag in a block of its own: stored and loaded whole, handed back by value.
-/
import Derived.Laws.ResultCell
import Derived.Laws.CopyOwn
import Derived.Maps.AppendAt
import Derived.Test.YtmbgoopkpfhamaaGreatIdentChecksJ7
import Derived.Test.YtmbgoopkpfhamaaGreatIdentChecksJBox
import Derived.Test.YtmbgoopkpfhamaaGreatIdentChecksJ5
import Derived.Test.YtmbgoopkpfhamaaGreatIdentChecksJ6
import Derived.Test.YtmbgoopkpfhamaaGreatIdentChecksJArMath
import Derived.Test.YtmbgoopkpfhamaaGreatIdentChecksJ1
import Derived.Test.YtmbgoopkpfhamaaGreatIdentChecksJ4
namespace Go.Proofs.YtmbgoopkpfhamaaGreat
open Go.RowKit
def TRow (w : World) (g : Nat) (u : TypeId) (t : Tg) : Prop := w.heap[g]? = some (.cells #[.int .i64 t.k, .int .i64 t.s, .int .i64 t.q, .int .i64 t.e] u (0, 0))
section
variable {w w' : World} {g : Nat} {u : TypeId} {t : Tg}
end
theorem R8.lt_block {w : World} {A : Option Addr} {n : Nat} {l : List Nat} (h : R8 w A n l) (hn : 0 < n) : ∀ b off, A = some ⟨b, off, none⟩ → b < w.heap.size := by
 obtain ⟨b, off, e, hb, _⟩ := h.1.2 hn
 rintro b' off' rfl
 injection e with e
 injection e with e1
 omega
theorem own_block {w : World} {base : Nat} {e : TypeId} {A : Option Addr} {n c : Nat} {xs : List Value} (h : w.ownsRow base e 1 (.slice A n c) n xs) : ∀ b off, A = some ⟨b, off, none⟩ → base ≤ b := by
 rintro b off rfl
 rcases h.2 with ⟨hv, _⟩ | ⟨g, cap, cur, hv, hb, _⟩
 ·
  simp at hv
 ·
  simp at hv
  omega
structure Rc where
 a : Option Addr
 m : Nat
 c : Nat
 y : Pg
def Rc.cells (x : Rc) : List Value := [.slice x.a x.m x.c, .int .i64 x.y.n, .bool x.y.t]
def rowF (l : List Rc) (j : Nat) : Option Value := (l[j / 3]?).bind fun x => x.cells[j % 3]?
theorem rowF_at {l : List Rc} {i : Nat} {x : Rc} (h : l[i]? = some x) : rowF l (i * 3) = some (.slice x.a x.m x.c) ∧ rowF l (i * 3 + 1) = some (.int .i64 x.y.n) ∧ rowF l (i * 3 + 2) = some (.bool x.y.t) := by
 unfold rowF
 rw [show i * 3 / 3 = i by omega, show (i * 3 + 1) / 3 = i by omega, show (i * 3 + 2) / 3 = i by omega, h, show i * 3 % 3 = 0 by omega, show (i * 3 + 1) % 3 = 1 by omega, show (i * 3 + 2) % 3 = 2 by omega]
 exact ⟨rfl, rfl, rfl⟩
theorem rowF_set {l : List Rc} {i : Nat} {x x' : Rc} (h : l[i]? = some x) (k : Nat) (v : Value) (hk : k < 3) (hx : ∀ j, j < 3 → x'.cells[j]? = if j = k then some v else x.cells[j]?) (j : Nat) (u : Value)
  (hu : rowF (l.set i x') j = some u) : (if j = i * 3 + k then some v else rowF l j) = some u := by
 have hl := (List.getElem?_eq_some_iff.1 h).1
 unfold rowF at hu ⊢
 rw [List.getElem?_set] at hu
 by_cases e : i = j / 3
 ·
  subst e
  rw [if_pos rfl, if_pos hl] at hu
  rw [h]
  have hu2 : x'.cells[j % 3]? = some u := hu
  rw [hx (j % 3) (by omega)] at hu2
  by_cases e2 : j % 3 = k
  ·
   rw [if_pos e2] at hu2
   rw [if_pos (by omega)]
   exact hu2
  ·
   rw [if_neg e2] at hu2
   rw [if_neg (by omega)]
   exact hu2
 ·
  rw [if_neg e] at hu
  rw [if_neg (by omega)]
  exact hu
theorem R8.btw0 {I : Nat → Prop} {w w' : World} {A : Option Addr} {n : Nat} {l : List Nat} (h : R8 w A n l) (hb : Btw I w w') (hi : ∀ b off, A = some ⟨b, off, none⟩ → 0 < n → ¬ I b) : R8 w' A n l := by
 refine ⟨⟨h.1.1, fun hn => ?_⟩, h.2⟩
 obtain ⟨b, off, e, hlt, hc⟩ := h.1.2 hn
 exact ⟨b, off, e, Nat.lt_of_lt_of_le hlt hb.size, fun j hj => (World.cell?_of_block (a := ⟨b, off + j, none⟩) (hb.block b hlt (hi b off e hn))).trans (hc j hj)⟩
def Rc.there (I : Nat → Prop) (w : World) (N : Nat) (x : Rc) : Prop :=
 x.y.well N ∧ ((x.a = none ∧ x.m = 0 ∧ x.c = 0 ∧ x.y.raw = List.replicate N 255) ∨ (∃ b off, x.a = some ⟨b, off, none⟩ ∧ ¬ I b ∧ x.m = N ∧ N ≤ x.c ∧ R8 w x.a N x.y.raw))
theorem R8.btw {I : Nat → Prop} {w w' : World} {b off n : Nat} {l : List Nat} (h : R8 w (some ⟨b, off, none⟩) n l) (hb : Btw I w w') (hi : ¬ I b) : R8 w' (some ⟨b, off, none⟩) n l := by
 refine ⟨⟨h.1.1, fun hn => ?_⟩, h.2⟩
 obtain ⟨b', off', e, hlt, hc⟩ := h.1.2 hn
 injection e with e
 injection e with e1 e2
 subst e1
 subst e2
 exact ⟨b, off, rfl, Nat.lt_of_lt_of_le hlt hb.size, fun j hj => (World.cell?_of_block (hb.block b hlt hi)).trans (hc j hj)⟩
theorem Rc.there.btw {I J : Nat → Prop} {w w' : World} {N : Nat} {x : Rc} (h : x.there I w N) (hb : Btw J w w') (hJ : ∀ j, J j → I j) : x.there I w' N := by
 obtain ⟨hw, h1 | ⟨b, off, ha, hi, hm, hc, hr⟩⟩ := h
 ·
  exact ⟨hw, .inl h1⟩
 ·
  rw [ha] at hr
  exact ⟨hw, .inr ⟨b, off, ha, hi, hm, hc, ha ▸ hr.btw hb fun h1 => hi (hJ b h1)⟩⟩
structure AR (I : Nat → Prop) (w : World) (p q r : Nat) (g : Gm) (s : St) : Prop where
 ok : g.ok = true
 low : g.raw ≤ 1000
 ip : I p
 iq : I q
 ir : I r
 pq : p ≠ q
 pr : p ≠ r
 qr : q ≠ r
 lt : ∀ j, I j → j < w.heap.size
 blk : CRow w p 111 #[.int .i64 g.p, .int .i64 g.b, .int .i64 g.s, .int .i64 g.c, .int .i64 g.k, .int .i64 g.r, .int .i64 g.q, .slice (some ⟨q, 0, none⟩) (g.b * g.s).toNat (g.b * g.s).toNat, .slice (some ⟨r, 0, none⟩) g.b.toNat g.b.toNat]
 rows : ∃ l : List Rc, s.rows = l.map (·.y) ∧ Cells w q 116 (rowF l) ∧ ∀ x ∈ l, x.there I w g.raw.toNat
 er : Cells w r 3 (fun j => (s.er[j]?).map fun z => .int .i64 z)
 nr : s.rows.length = (g.b * g.s).toNat
 ne : s.er.length = g.b.toNat
theorem AR.btw {I J : Nat → Prop} {w w' : World} {p q r : Nat} {g : Gm} {s : St} (h : AR I w p q r g s) (hb : Btw J w w') (hJ : ∀ j, J j → I j ∧ j ≠ p ∧ j ≠ q ∧ j ≠ r) : AR I w' p q r g s := by
 obtain ⟨l, h1, h2, h3⟩ := h.rows
 exact { h with
  lt := fun j hj => Nat.lt_of_lt_of_le (h.lt j hj) hb.size
  blk := h.blk.btw hb fun h4 => (hJ p h4).2.1 rfl
  rows := ⟨l, h1, h2.btw hb fun h4 => (hJ q h4).2.2.1 rfl, fun x hx => (h3 x hx).btw hb fun j hj => (hJ j hj).1⟩
  er := h.er.btw hb fun h4 => (hJ r h4).2.2.2 rfl }
theorem AR.below {I : Nat → Prop} {w w' : World} {p q r : Nat} {g : Gm} {s : St} (h : AR I w p q r g s) (hb : Below w.heap.size w w') : AR I w' p q r g s :=
 h.btw (J := fun _ => False) (Btw.of_below hb) fun _ h => h.elim
theorem AR.widen {I I' : Nat → Prop} {w w' : World} {p q r : Nat} {g : Gm} {s : St} (h : AR I w p q r g s) (hb : Below w.heap.size w w') (h1 : ∀ j, I j → I' j) (h2 : ∀ j, I' j → I j ∨ w.heap.size ≤ j) (h3 : ∀ j, I' j → j < w'.heap.size) : AR I' w' p q r g s := by
 obtain ⟨l, e1, e2, e3⟩ := h.rows
 exact { h with
  ip := h1 _ h.ip
  iq := h1 _ h.iq
  ir := h1 _ h.ir
  lt := h3
  blk := h.blk.below hb
  rows := ⟨l, e1, e2.below hb, fun x hx => by
   obtain ⟨hw, h4 | ⟨b, off, ha, hi, hm, hc, hr⟩⟩ := e3 x hx
   ·
    exact ⟨hw, .inl h4⟩
   ·
    refine ⟨hw, .inr ⟨b, off, ha, fun h5 => ?_, hm, hc, hr.below hb⟩⟩
    rcases h2 b h5 with h6 | h6
    ·
     exact hi h6
    ·
     have hn : 0 < g.raw.toNat := by
      have := Gm.bounds_of h.ok
      have e := g.raw
      have e7 : g.raw = g.c * (g.k + 2) + 31 := by unfold Gm.raw; rw [if_pos h.ok]
      have : 0 ≤ g.c * (g.k + 2) := Int.mul_nonneg (by omega) (by omega)
      omega
     have := hr.lt_block hn b off ha
     omega⟩
  er := h.er.below hb }
section
variable {I : Nat → Prop} {w : World} {p q r : Nat} {g : Gm} {s : St}
theorem AR.box (h : AR I w p q r g s) : GBox w p g :=
 ⟨h.blk.lt, h.blk.cell_at 0 _ rfl, h.blk.cell_at 1 _ rfl, h.blk.cell_at 2 _ rfl, h.blk.cell_at 3 _ rfl, h.blk.cell_at 4 _ rfl, h.blk.cell_at 5 _ rfl, h.blk.cell_at 6 _ rfl⟩
theorem AR.c7 (h : AR I w p q r g s) : w.cell? ⟨p, 7, none⟩ = some (.slice (some ⟨q, 0, none⟩) (g.b * g.s).toNat (g.b * g.s).toNat) := h.blk.cell_at 7 _ rfl
theorem AR.c8 (h : AR I w p q r g s) : w.cell? ⟨p, 8, none⟩ = some (.slice (some ⟨r, 0, none⟩) g.b.toNat g.b.toNat) := h.blk.cell_at 8 _ rfl
theorem AR.size (h : AR I w p q r g s) : (2 ≤ g.b ∧ g.b ≤ 256) ∧ (4 ≤ g.s ∧ g.s ≤ 64) ∧ g.raw = g.c * (g.k + 2) + 31 ∧ 31 ≤ g.raw := by
 have h1 := Gm.bounds_of h.ok
 have e7 : g.raw = g.c * (g.k + 2) + 31 := by unfold Gm.raw; rw [if_pos h.ok]
 have : 0 ≤ g.c * (g.k + 2) := Int.mul_nonneg (by omega) (by omega)
 exact ⟨h1.2.1, h1.2.2.1, e7, by omega⟩
end
set_option maxRecDepth 100000
theorem size_nums : (Tryz.prog.info? 96).map (·.size) = some 7 := by kernel_rfl
theorem size_geomA : (Tryz.prog.info? 23).map (·.size) = some 7 := by kernel_rfl
set_option maxHeartbeats 1000000 in
theorem idSplit_any (g : Gm) (w : World) : Calls Tryz.prog 38 #[g.val] w (Gives g.val w) := by
 obtain ⟨p, b, s, c, k, r, q⟩ := g
 simp only [Gm.val]
 obtain ⟨W1, hW⟩ : ∃ W1, W1 = w.alloc (.cells #[.int .i64 p, .int .i64 b, .int .i64 s, .int .i64 c, .int .i64 k, .int .i64 r, .int .i64 q] 23) := ⟨_, rfl⟩
 have hsz : W1.heap.size = w.heap.size + 1 := by rw [hW]; simp
 have B0 := Lib.hid (show Below w.heap.size w W1 by rw [hW]; exact below_new w _)
 have S0 := Lib.hid (show CRow W1 w.heap.size 23 #[.int .i64 p, .int .i64 b, .int .i64 s, .int .i64 c, .int .i64 k, .int .i64 r, .int .i64 q] by rw [hW]; exact CRow.new w _ _)
 have T0 := Lib.hid (show CRow (W1.alloc (.cells #[.int .i64 0, .int .i64 0, .int .i64 0, .int .i64 0, .int .i64 0, .int .i64 0, .int .i64 0] 96)) (w.heap.size + 1) 96 #[.int .i64 0, .int .i64 0, .int .i64 0, .int .i64 0, .int .i64 0, .int .i64 0, .int .i64 0] by rw [← hsz]; exact CRow.new W1 _ _)
 go_enter Tryz.func38, Tryz.ntmps38
 go_wp2_with (with_reducible refine (?_ : wpList _ _ _ ({ dst := _, op := Op.store 96 _ _, type := _, pos := _, after := _, guard := _ } :: _) _ _); rw [← hW]; refine wpList_store_at rfl 96 _ _ rfl 7 size_nums _ (w.heap.size + 1) ?hx rfl _ T0.out.row rfl rfl (by simp [Value.oneCell']) ?_; (case hx => simp [Act.eval]))
 have B9 := Lib.hid (below_setRow (B0.out.alloc (w := W1) (by rw [hsz]; omega) (.cells #[.int .i64 0, .int .i64 0, .int .i64 0, .int .i64 0, .int .i64 0, .int .i64 0, .int .i64 0] 96)) (show w.heap.size ≤ w.heap.size + 1 by omega) #[.int .i64 p, .int .i64 b, .int .i64 s, .int .i64 c, .int .i64 k, .int .i64 r, .int .i64 q])
 have T9 := Lib.hid (T0.out.set #[.int .i64 p, .int .i64 b, .int .i64 s, .int .i64 c, .int .i64 k, .int .i64 r, .int .i64 q])
 go_wp2
 refine bodyPost_ret (results_cell_row rfl _ _ (w.heap.size + 1) 96 _ (0, 0) _ rfl T9.out.row Tryz.underlying96 rfl size_nums) rfl ?_
 exact ⟨rfl, B9.out⟩
set_option maxHeartbeats 1000000 in
theorem idJoin_any (g : Gm) (w : World) : Calls Tryz.prog 54 #[g.val] w (Gives g.val w) := by
 obtain ⟨p, b, s, c, k, r, q⟩ := g
 simp only [Gm.val]
 obtain ⟨W1, hW⟩ : ∃ W1, W1 = w.alloc (.cells #[.int .i64 p, .int .i64 b, .int .i64 s, .int .i64 c, .int .i64 k, .int .i64 r, .int .i64 q] 96) := ⟨_, rfl⟩
 have hsz : W1.heap.size = w.heap.size + 1 := by rw [hW]; simp
 have B0 := Lib.hid (show Below w.heap.size w W1 by rw [hW]; exact below_new w _)
 have T0 := Lib.hid (show CRow (W1.alloc (.cells #[.int .i64 0, .int .i64 0, .int .i64 0, .int .i64 0, .int .i64 0, .int .i64 0, .int .i64 0] 23)) (w.heap.size + 1) 23 #[.int .i64 0, .int .i64 0, .int .i64 0, .int .i64 0, .int .i64 0, .int .i64 0, .int .i64 0] by rw [← hsz]; exact CRow.new W1 _ _)
 go_enter Tryz.func54, Tryz.ntmps54
 go_wp2_with (with_reducible refine (?_ : wpList _ _ _ ({ dst := _, op := Op.store 23 _ _, type := _, pos := _, after := _, guard := _ } :: _) _ _); rw [← hW]; refine wpList_store_at rfl 23 _ _ rfl 7 size_geomA _ (w.heap.size + 1) ?hx rfl _ T0.out.row rfl rfl (by simp [Value.oneCell']) ?_; (case hx => simp [Act.eval]))
 have B9 := Lib.hid (below_setRow (B0.out.alloc (w := W1) (by rw [hsz]; omega) (.cells #[.int .i64 0, .int .i64 0, .int .i64 0, .int .i64 0, .int .i64 0, .int .i64 0, .int .i64 0] 23)) (show w.heap.size ≤ w.heap.size + 1 by omega) #[.int .i64 p, .int .i64 b, .int .i64 s, .int .i64 c, .int .i64 k, .int .i64 r, .int .i64 q])
 have T9 := Lib.hid (T0.out.set #[.int .i64 p, .int .i64 b, .int .i64 s, .int .i64 c, .int .i64 k, .int .i64 r, .int .i64 q])
 go_wp2
 refine bodyPost_ret (results_cell_row rfl _ _ (w.heap.size + 1) 23 _ (0, 0) _ rfl T9.out.row Tryz.underlying23 rfl size_geomA) rfl ?_
 exact ⟨rfl, B9.out⟩
theorem idNums_index (g : Gm) (k : Nat) (hk : k < 7) : ∃ x, g.nums[k]? = some x ∧ ∀ w : World, (Instr.index 96 g.val (.int .i64 k)).run Tryz.prog w = .ok (.int .i64 x) w := by
 obtain ⟨p, b, s, c, d, r, q⟩ := g
 obtain rfl | rfl | rfl | rfl | rfl | rfl | rfl : k = 0 ∨ k = 1 ∨ k = 2 ∨ k = 3 ∨ k = 4 ∨ k = 5 ∨ k = 6 := by omega
 ·
  exact ⟨_, rfl, fun _ => by kernel_rfl⟩
 ·
  exact ⟨_, rfl, fun _ => by kernel_rfl⟩
 ·
  exact ⟨_, rfl, fun _ => by kernel_rfl⟩
 ·
  exact ⟨_, rfl, fun _ => by kernel_rfl⟩
 ·
  exact ⟨_, rfl, fun _ => by kernel_rfl⟩
 ·
  exact ⟨_, rfl, fun _ => by kernel_rfl⟩
 ·
  exact ⟨_, rfl, fun _ => by kernel_rfl⟩
def IdPutIs (g : Gm) (w : World) (e : Ending) (w' : World) : Prop := ∃ A c, e = .returned (.tuple #[.slice A 14 c, .int .i64 0]) ∧ R8 w' A 14 (gb g) ∧ 14 ≤ c ∧ Below w.heap.size w w'
set_option maxHeartbeats 4000000 in
theorem idPut_yes (g : Gm) (h : g.ok = true) (w : World) : Calls Tryz.prog 16 #[g.val] w (IdPutIs g w) := by
 obtain ⟨ti, hti, hz0, hz1, hz2⟩ := info_parts info_u8
 have hmk : ∀ W : World, (Instr.makeSlice 26 (.int .i64 0) (.int .i64 14)).run Tryz.prog W = .ok (.slice (some ⟨W.heap.size, 0, none⟩) 0 14) (W.alloc (.cells (Array.replicate 14 (.int .u8 0)) 5)) := fun W => by kernel_rfl
 have HC := Lib.hid (fun W => Check_yes g h W)
 have HS := Lib.hid (fun W => idSplit_any g W)
 have HI := Lib.hid (idNums_index g)
 obtain ⟨V, hV⟩ : ∃ V, V = g.val := ⟨_, rfl⟩
 rw [← hV] at HI
 have HV := Lib.hid hV
 have S0 := Lib.hid (show CRow (w.alloc (.cells #[.int .i64 g.p, .int .i64 g.b, .int .i64 g.s, .int .i64 g.c, .int .i64 g.k, .int .i64 g.r, .int .i64 g.q] 23)) w.heap.size 23 #[.int .i64 g.p, .int .i64 g.b, .int .i64 g.s, .int .i64 g.c, .int .i64 g.k, .int .i64 g.r, .int .i64 g.q] from CRow.new w _ _)
 clear h hV
 simp only [Gm.val] at *
 go_enter Tryz.func16, Tryz.ntmps16
 go_wp2_with fail
 refine (HC.out _).mono ?_
 rintro _ w1 ⟨rfl, h1⟩
 have B1 := Lib.hid (below_step (below_new w _) h1)
 have S1 := Lib.hid (S0.out.below h1)
 clear h1 S0 HC
 have S2 := Lib.hid (S1.out.alloc (.cells (Array.replicate 14 (.int .u8 0)) 5))
 have x0 := S2.out.cell_at 0 (.int .i64 g.p) rfl
 have x1 := S2.out.cell_at 1 (.int .i64 g.b) rfl
 have x2 := S2.out.cell_at 2 (.int .i64 g.s) rfl
 have x3 := S2.out.cell_at 3 (.int .i64 g.c) rfl
 have x4 := S2.out.cell_at 4 (.int .i64 g.k) rfl
 have x5 := S2.out.cell_at 5 (.int .i64 g.r) rfl
 have x6 := S2.out.cell_at 6 (.int .i64 g.q) rfl
 have hs1 : w.heap.size ≤ w1.heap.size := B1.out.size
 go_wp2_with fail
 refine (HS.out _).mono ?_
 rintro _ w2 ⟨rfl, h2⟩
 have O2 := Lib.hid (own_below (World.ownsRow_made (base := w.heap.size) (e := 5) (size := 1) w1 (Array.replicate 14 (.int .u8 0)) 14 hs1 (by unfold maxLen; omega) rfl) h2)
 have B2 := Lib.hid (B1.out.alloc hs1 _ |>.trans (h2.mono (by simp; omega)))
 rw [show (Value.agg #[.int .i64 g.p, .int .i64 g.b, .int .i64 g.s, .int .i64 g.c, .int .i64 g.k, .int .i64 g.r, .int .i64 g.q]) = V from HV.out.symm]
 clear h2 x0 x1 x2 x3 x4 x5 x6 S1 S2 HS HV B1
 go_wp2
 go_loopw [5, 16] (fun v iv wr => ∃ k : Nat, k ≤ 7 ∧ iv = .int .i64 (k : Int) ∧ Hid (wr.ownsRow w.heap.size 5 1 v (2 * k) (U8 (gbK g k))) ∧ Hid (Below w.heap.size w wr)) (fun _ iv _ => 7 - (intOf iv).toNat)
 case atStart => exact ⟨0, Nat.zero_le _, rfl, O2, B2⟩
 case round =>
  obtain ⟨k, hk, rfl, HO, HB⟩ := hrel
  rename World => wr
  by_cases hlt : k < 7
  ·
   have d1 : decide ((k : Int) < 7) = true := decide_eq_true (by omega)
   obtain ⟨x, hx, hrun⟩ := HI.out k hlt
   have HX := Lib.hid (gbK_succ hx)
   have HA := Lib.hid (fun W => Address_any x W)
   clear hx
   go_wp2_with fail
   refine (HA.out _).mono ?_
   intro _ w3 hM
   obtain ⟨A, c, rfl, R3, D3⟩ := hM.at_ (n := 2) rfl
   have O3 := Lib.hid (own_below HO.out D3.out)
   have B3 := Lib.hid (below_step HB.out D3.out)
   have hs3 : w.heap.size ≤ w3.heap.size := B3.out.size
   have hnil := Lib.hid (R8.some_ (c := c) R3.out (by omega))
   obtain ⟨A0, c0, rfl⟩ := own_form O3.out
   clear hM hrun HA D3 HO HB
   go_wp2_with (at_builtin; refine wpList_append8 _ rfl (.tmp 19) (.tmp 21) _ rfl w.heap.size 5 ti Tryz.underlying26 hti hz0 hz1 hz2 _ (2 * k) (gbK g k) rfl O3.out A 2 c (adr x) rfl hnil.out R3.out (by omega) hs3 ?_)
   intro v4 w4 hown hg4
   have O4 := Lib.hid (show w4.ownsRow w.heap.size 5 1 v4 (2 * (k + 1)) (U8 (gbK g (k + 1))) by rw [HX.out]; exact hown)
   have B4 := Lib.hid (B3.out.grown hg4 hs3 (fun j hj => (O3.out.lt j hj).1))
   clear hown hg4 O3 R3 hnil HX B3
   go_wp2
   go_roundw
   case rel => exact ⟨k + 1, by omega, by go_num, O4, B4⟩
   case measure => simp [intOf]; omega
  ·
   obtain rfl : k = 7 := by omega
   obtain ⟨A0, c0, rfl⟩ := own_form HO.out
   go_wp2
   go_ret2
   exact ⟨A0, c0, rfl, R8.own HO.out gbK_lt, own_cap HO.out, HB.out⟩
theorem res_cell_tmp {P : Program} {fn : Func} {p u : Tmp} {ty : TypeId} (h : fn.results = #[.cell p ty, .tmp u]) (tmps : Array Value) (w : World) (g : Nat) (t : TypeId) (cs : Array Value) (fr : Nat × Nat) (d : TypeDesc)
  (hp : tmps.getD p undef = .pointer (some ⟨g, 0, none⟩)) (hg : w.heap[g]? = some (.cells cs t fr))
  (hu : P.underlying ty = some d) (hd : (match d with | .struct _ | .array _ _ => true | _ => false) = true) (hi : (P.info? ty).map (·.size) = some cs.size) :
  (results fn tmps).run P w = .ok (.tuple #[.agg cs, tmps.getD u undef]) w := by
 rw [results_cell_tmp h, hp]
 simp only [asAddr, Sem.run_pure, Result.andThen_ok, run_loadVar_row w g t ty cs fr d hg hu hd hi]
theorem slice_mid {P : Program} {t e : TypeId} {i0 : TypeInfo} (h1 : P.underlying t = some (.slice e)) (h2 : P.info? e = some i0) (h4 : P.cellsOf e = 1) (A : Option Addr) (n c i j : Nat) (hij : i ≤ j) (hj : j ≤ c) (W : World) :
  (Instr.slice t (.slice A n c) (some (.int .i64 (i : Int))) (some (.int .i64 (j : Int))) none).run P W = .ok (.slice (cutA A c i) (j - i) (c - i)) W := by
 have hb : (Instr.sliceBound (.int .i64 (j : Int)) c .sliceAcap).run P W = .ok j W := by
  rw [run_sliceBound W .i64 _ _ _ (by omega) (by omega)]; simp
 have hb2 : (Instr.sliceBound (.int .i64 (i : Int)) j .sliceB).run P W = .ok i W := by
  rw [run_sliceBound W .i64 _ _ _ (by omega) (by omega)]; simp
 simp [Instr.slice, run_underlying h1, Instr.sliceBounds, hb, hb2, run_sizeOf W h2, h4, cutA]
def nmC (l : List Nat) (k j : Nat) : Int := if j < k then nmB l j else 0
def nmA (l : List Nat) (k : Nat) : Array Value := #[.int .i64 (nmC l k 0), .int .i64 (nmC l k 1), .int .i64 (nmC l k 2), .int .i64 (nmC l k 3), .int .i64 (nmC l k 4), .int .i64 (nmC l k 5), .int .i64 (nmC l k 6)]
theorem nmA_seven (l : List Nat) : nmA l 7 = #[.int .i64 (gOf l).p, .int .i64 (gOf l).b, .int .i64 (gOf l).s, .int .i64 (gOf l).c, .int .i64 (gOf l).k, .int .i64 (gOf l).r, .int .i64 (gOf l).q] := rfl
theorem nmA_set (l : List Nat) (k : Nat) (h : k < 7) : (nmA l k).setIfInBounds k (.int .i64 (nmB l k)) = nmA l (k + 1) := by
 obtain rfl | rfl | rfl | rfl | rfl | rfl | rfl : k = 0 ∨ k = 1 ∨ k = 2 ∨ k = 3 ∨ k = 4 ∨ k = 5 ∨ k = 6 := by omega
 all_goals rfl
theorem nmA_at (l : List Nat) (k : Nat) (h : k < 7) : ∃ x : Int, (nmA l k)[k]? = some (.int .i64 x) := by
 obtain rfl | rfl | rfl | rfl | rfl | rfl | rfl : k = 0 ∨ k = 1 ∨ k = 2 ∨ k = 3 ∨ k = 4 ∨ k = 5 ∨ k = 6 := by omega
 all_goals exact ⟨_, rfl⟩
theorem r8_pair {w : World} {A : Option Addr} {c : Nat} {l : List Nat} (h : R8 w A 14 l) (hc : 14 ≤ c) (k : Nat) (hk : k < 7) : R8 w (cutA A c (2 * k)) 2 [l.getD (2 * k) 0, l.getD (2 * k + 1) 0] := by
 have h1 := (h.cutA (2 * k) c (by omega) hc).take_ 2 (by omega)
 have hl := h.len
 have e : (l.drop (2 * k)).take 2 = [l.getD (2 * k) 0, l.getD (2 * k + 1) 0] := by
  rw [List.drop_eq_getElem_cons (show 2 * k < l.length by omega), List.drop_eq_getElem_cons (show 2 * k + 1 < l.length by omega), List.getD_eq_getElem?_getD, List.getElem?_eq_getElem (show 2 * k < l.length by omega), List.getD_eq_getElem?_getD, List.getElem?_eq_getElem (show 2 * k + 1 < l.length by omega)]
  rfl
 rw [← e]
 exact h1
set_option maxHeartbeats 4000000 in
theorem idTake_short (A : Option Addr) (n c : Nat) (l : List Nat) (w : World) (hr : R8 w A n l) (hn : n ≤ 1099511627776) (h : n ≠ 14) :
  Calls Tryz.prog 33 #[.slice A n c] w (Gives (.tuple #[(tkgG l).val, .int .i64 (tkgE l)]) w) := by
 have hl := hr.len
 have hE0 : tkgE l ≠ 0 := by
  unfold tkgE
  rw [hl]
  by_cases h1 : n < 14
  ·
   rw [if_pos h1]; decide
  ·
   rw [if_neg h1, if_pos (by omega)]; decide
 have hE : tkgG l = gZ := if_neg hE0
 rw [hE]
 have T0 := Lib.hid (CRow.new w #[.int .i64 0, .int .i64 0, .int .i64 0, .int .i64 0, .int .i64 0, .int .i64 0, .int .i64 0] 23)
 have B9 := Lib.hid (below_setRow (below_new w (.cells #[.int .i64 0, .int .i64 0, .int .i64 0, .int .i64 0, .int .i64 0, .int .i64 0, .int .i64 0] 23)) (Nat.le_refl _) #[.int .i64 0, .int .i64 0, .int .i64 0, .int .i64 0, .int .i64 0, .int .i64 0, .int .i64 0])
 have T9 := Lib.hid (T0.out.set #[.int .i64 0, .int .i64 0, .int .i64 0, .int .i64 0, .int .i64 0, .int .i64 0, .int .i64 0])
 rcases Nat.lt_or_gt_of_ne h with h1 | h1
 ·
  have HE := Lib.hid (show tkgE l = 10 by unfold tkgE; rw [hl, if_pos h1])
  have d1 : decide ((n : Int) < 14) = true := decide_eq_true (by omega)
  clear hl hr h1 hE hE0 h
  go_enter Tryz.func33, Tryz.ntmps33
  go_wp2_with (with_reducible refine (?_ : wpList _ _ _ ({ dst := _, op := Op.store 23 _ _, type := _, pos := _, after := _, guard := _ } :: _) _ _); refine wpList_store_at rfl 23 _ _ rfl 7 size_geomA _ w.heap.size ?hx rfl _ T0.out.row rfl rfl (by simp [Value.oneCell']) ?_; (case hx => simp [Act.eval]))
  go_wp2
  refine bodyPost_ret (res_cell_tmp rfl _ _ w.heap.size 23 _ (0, 0) _ rfl T9.out.row Tryz.underlying23 rfl size_geomA) rfl ?_
  exact ⟨by rw [HE.out]; rfl, B9.out⟩
 ·
  have HE := Lib.hid (show tkgE l = 13 by unfold tkgE; rw [hl, if_neg (by omega), if_pos h1])
  have d1 : decide ((n : Int) < 14) = false := decide_eq_false (by omega)
  have d2 : decide (14 < (n : Int)) = true := decide_eq_true (by omega)
  clear hl hr h1 hE hE0 h
  go_enter Tryz.func33, Tryz.ntmps33
  go_wp2_with (with_reducible refine (?_ : wpList _ _ _ ({ dst := _, op := Op.store 23 _ _, type := _, pos := _, after := _, guard := _ } :: _) _ _); refine wpList_store_at rfl 23 _ _ rfl 7 size_geomA _ w.heap.size ?hx rfl _ T0.out.row rfl rfl (by simp [Value.oneCell']) ?_; (case hx => simp [Act.eval]))
  go_wp2
  refine bodyPost_ret (res_cell_tmp rfl _ _ w.heap.size 23 _ (0, 0) _ rfl T9.out.row Tryz.underlying23 rfl size_geomA) rfl ?_
  exact ⟨by rw [HE.out]; rfl, B9.out⟩
set_option maxHeartbeats 8000000 in
theorem idTake_full (A : Option Addr) (c : Nat) (l : List Nat) (w : World) (hr : R8 w A 14 l) (hc : 14 ≤ c) :
  Calls Tryz.prog 33 #[.slice A 14 c] w (Gives (.tuple #[(tkgG l).val, .int .i64 (tkgE l)]) w) := by
 obtain ⟨ti, hti, hz0, hz1, hz2⟩ := info_parts info_u8
 have HI := Lib.hid hr
 have HEN := Lib.hid (tkgE_not hr.len)
 obtain ⟨W1, hW⟩ : ∃ W1, W1 = w.alloc (.cells #[.int .i64 0, .int .i64 0, .int .i64 0, .int .i64 0, .int .i64 0, .int .i64 0, .int .i64 0] 23) := ⟨_, rfl⟩
 have hsz : W1.heap.size = w.heap.size + 1 := by rw [hW]; simp
 have B0 := Lib.hid (show Below w.heap.size w W1 by rw [hW]; exact below_new w _)
 have T0 := Lib.hid (show CRow W1 w.heap.size 23 #[.int .i64 0, .int .i64 0, .int .i64 0, .int .i64 0, .int .i64 0, .int .i64 0, .int .i64 0] by rw [hW]; exact CRow.new w _ _)
 have N1 := Lib.hid (show CRow (W1.alloc (.cells #[.int .i64 0, .int .i64 0, .int .i64 0, .int .i64 0, .int .i64 0, .int .i64 0, .int .i64 0] 96)) (w.heap.size + 1) 96 #[.int .i64 0, .int .i64 0, .int .i64 0, .int .i64 0, .int .i64 0, .int .i64 0, .int .i64 0] by rw [← hsz]; exact CRow.new W1 _ _)
 have T1 := Lib.hid (T0.out.alloc (.cells #[.int .i64 0, .int .i64 0, .int .i64 0, .int .i64 0, .int .i64 0, .int .i64 0, .int .i64 0] 96))
 have B1 := Lib.hid (B0.out.alloc (w := W1) (by rw [hsz]; omega) (.cells #[.int .i64 0, .int .i64 0, .int .i64 0, .int .i64 0, .int .i64 0, .int .i64 0, .int .i64 0] 96))
 subst hW
 clear hr hsz B0 T0
 go_enter Tryz.func33, Tryz.ntmps33
 go_wp2
 go_loopw [17] (fun iv wr => ∃ k : Nat, k ≤ 7 ∧ iv = .int .i64 (k : Int) ∧ Hid (CRow wr (w.heap.size + 1) 96 (nmA l k)) ∧ Hid (CRow wr w.heap.size 23 #[.int .i64 0, .int .i64 0, .int .i64 0, .int .i64 0, .int .i64 0, .int .i64 0, .int .i64 0]) ∧ Hid (Below w.heap.size w wr)) (fun iv _ => 7 - (intOf iv).toNat)
 case atStart => exact ⟨0, Nat.zero_le _, rfl, N1, T1, B1⟩
 case round =>
  obtain ⟨k, hk, rfl, HN, HT, HB⟩ := hrel
  rename World => wr
  clear N1 T1 B1
  by_cases hlt : k < 7
  ·
   have d1 : decide ((k : Int) < 7) = true := decide_eq_true (by omega)
   have hk0 : (0 : Int) ≤ (k : Int) := by omega
   have hk7 : (k : Int) < 7 := by omega
   have hsl := slice_mid (P := Tryz.prog) Tryz.underlying26 hti (by kernel_rfl) A 14 c (2 * k) (2 * k + 2) (by omega) (by omega)
   rw [show ((2 * k : Nat) : Int) = (k : Int) * 2 by omega, show ((2 * k + 2 : Nat) : Int) = ((k : Int) + 1) * 2 by omega, show 2 * k + 2 - 2 * k = 2 by omega] at hsl
   have HNU := Lib.hid (fun W (h : R8 W A 14 l) => Number_yes (cutA A c (2 * k)) (c - 2 * k) (l.getD (2 * k) 0) (l.getD (2 * k + 1) 0) W (r8_pair h hc k hlt))
   have HS := Lib.hid (nmA_set l k hlt)
   unfold nmB at HS
   generalize ((l.getD (2 * k) 0 + 256 * l.getD (2 * k + 1) 0 : Nat) : Int) = X at *
   obtain ⟨x, hx⟩ := nmA_at l k hlt
   have HX := Lib.hid hx
   obtain ⟨D, hD⟩ : ∃ D, D = cutA A c (2 * k) := ⟨_, rfl⟩
   rw [← hD] at hsl HNU
   clear hD hx
   go_wp2_with fail
   refine (HNU.out _ (HI.out.below HB.out)).mono ?_
   rintro _ w3 hq
   obtain ⟨rfl, h3⟩ := hq.at_
   have N3 := Lib.hid (HN.out.below h3.out)
   have T3 := Lib.hid (HT.out.below h3.out)
   have B3 := Lib.hid (below_step HB.out h3.out)
   have x0 := N3.out.cell_at k (.int .i64 x) HX.out
   have f0 := N3.out.frozen k
   clear h3 HN HT HB hsl HNU
   go_wp2
   go_roundw
   case rel => exact ⟨k + 1, by omega, by go_num, by rw [← HS.out]; exact N3.out.setCell k _, T3.out.setCell_other (p := ⟨w.heap.size + 1, k, none⟩) (by simp) _, B3.out.setCell (by simp) _⟩
   case measure => simp [intOf]; omega
  ·
   obtain rfl : k = 7 := by omega
   rw [nmA_seven] at HN
   have HJ := Lib.hid (fun W => idJoin_any (gOf l) W)
   have hce : tkgE l = 0 ∧ (gOf l).ok = true ∨ tkgE l = 11 ∧ (gOf l).ok = false := HEN.out
   have HG := Lib.hid (show tkgG l = if tkgE l = 0 then gOf l else gZ from rfl)
   generalize tkgE l = E at *
   generalize tkgG l = G at *
   generalize gOf l = o at *
   have x0 := HN.out.cell_at 0 (.int .i64 o.p) rfl
   have x1 := HN.out.cell_at 1 (.int .i64 o.b) rfl
   have x2 := HN.out.cell_at 2 (.int .i64 o.s) rfl
   have x3 := HN.out.cell_at 3 (.int .i64 o.c) rfl
   have x4 := HN.out.cell_at 4 (.int .i64 o.k) rfl
   have x5 := HN.out.cell_at 5 (.int .i64 o.r) rfl
   have x6 := HN.out.cell_at 6 (.int .i64 o.q) rfl
   have HCE := Lib.hid hce
   clear HEN hce
   simp only [Gm.val] at HJ
   go_wp2_with fail
   refine (HJ.out _).mono ?_
   rintro _ w3 ⟨rfl, h3⟩
   have T3 := Lib.hid (HT.out.below h3)
   have B3 := Lib.hid (below_step HB.out h3)
   have G0 := Lib.hid (CRow.new w3 #[.int .i64 0, .int .i64 0, .int .i64 0, .int .i64 0, .int .i64 0, .int .i64 0, .int .i64 0] 23)
   have G1 := Lib.hid (G0.out.set #[.int .i64 o.p, .int .i64 o.b, .int .i64 o.s, .int .i64 o.c, .int .i64 o.k, .int .i64 o.r, .int .i64 o.q])
   have hs3 : w.heap.size < w3.heap.size := T3.out.lt
   have hs4 : w.heap.size ≤ w3.heap.size := B3.out.size
   have T4 := Lib.hid ((T3.out.alloc (.cells #[.int .i64 0, .int .i64 0, .int .i64 0, .int .i64 0, .int .i64 0, .int .i64 0, .int .i64 0] 23)).other (g' := w3.heap.size) (cs' := #[.int .i64 o.p, .int .i64 o.b, .int .i64 o.s, .int .i64 o.c, .int .i64 o.k, .int .i64 o.r, .int .i64 o.q]) (by omega))
   have B4 := Lib.hid (below_setRow (B3.out.alloc hs4 (.cells #[.int .i64 0, .int .i64 0, .int .i64 0, .int .i64 0, .int .i64 0, .int .i64 0, .int .i64 0] 23)) hs4 #[.int .i64 o.p, .int .i64 o.b, .int .i64 o.s, .int .i64 o.c, .int .i64 o.k, .int .i64 o.r, .int .i64 o.q])
   clear h3 x0 x1 x2 x3 x4 x5 x6 HN HT HB T3 B3 HJ
   have x0 := G1.out.cell_at 0 (.int .i64 o.p) rfl
   have x1 := G1.out.cell_at 1 (.int .i64 o.b) rfl
   have x2 := G1.out.cell_at 2 (.int .i64 o.s) rfl
   have x3 := G1.out.cell_at 3 (.int .i64 o.c) rfl
   have x4 := G1.out.cell_at 4 (.int .i64 o.k) rfl
   have x5 := G1.out.cell_at 5 (.int .i64 o.r) rfl
   have x6 := G1.out.cell_at 6 (.int .i64 o.q) rfl
   go_wp2_with (with_reducible refine (?_ : wpList _ _ _ ({ dst := _, op := Op.store 23 _ _, type := _, pos := _, after := _, guard := _ } :: _) _ _); refine wpList_store_at rfl 23 _ _ rfl 7 size_geomA _ w3.heap.size ?hx rfl _ G0.out.row rfl rfl (by simp [Value.oneCell']) ?_; (case hx => simp [Act.eval]))
   obtain ⟨w4, hw4⟩ : ∃ w4, w4 = ((w3.alloc (.cells #[.int .i64 0, .int .i64 0, .int .i64 0, .int .i64 0, .int .i64 0, .int .i64 0, .int .i64 0] 23)).setRow w3.heap.size #[.int .i64 o.p, .int .i64 o.b, .int .i64 o.s, .int .i64 o.c, .int .i64 o.k, .int .i64 o.r, .int .i64 o.q]) := ⟨_, rfl⟩
   rw [← hw4] at G1 T4 B4 ⊢
   clear hw4 x0 x1 x2 x3 x4 x5 x6
   clear G0
   rcases HCE.out with ⟨he, hok⟩ | ⟨he, hok⟩
   ·
    have HC := Lib.hid (fun W => Check_yes o hok W)
    have HGE := Lib.hid (show G = o by rw [HG.out, if_pos he])
    have HEE := Lib.hid he
    simp only [Gm.val] at HC
    clear he hok HCE HG
    go_wp2_with fail
    refine (HC.out _).mono ?_
    rintro _ w5 ⟨rfl, h5⟩
    have T5 := Lib.hid (T4.out.below h5)
    have B5 := Lib.hid (below_step B4.out h5)
    have G5 := Lib.hid (G1.out.below h5)
    clear h5 T4 B4 G1 HC
    have x0 := G5.out.cell_at 0 (.int .i64 o.p) rfl
    have x1 := G5.out.cell_at 1 (.int .i64 o.b) rfl
    have x2 := G5.out.cell_at 2 (.int .i64 o.s) rfl
    have x3 := G5.out.cell_at 3 (.int .i64 o.c) rfl
    have x4 := G5.out.cell_at 4 (.int .i64 o.k) rfl
    have x5 := G5.out.cell_at 5 (.int .i64 o.r) rfl
    have x6 := G5.out.cell_at 6 (.int .i64 o.q) rfl
    go_wp2_with (with_reducible refine (?_ : wpList _ _ _ ({ dst := _, op := Op.store 23 _ _, type := _, pos := _, after := _, guard := _ } :: _) _ _); refine wpList_store_at rfl 23 _ _ rfl 7 size_geomA _ w.heap.size ?hx rfl _ T5.out.row rfl rfl (by simp [Value.oneCell']) ?_; (case hx => simp [Act.eval]))
    have B9 := Lib.hid (below_setRow B5.out (Nat.le_refl _) #[.int .i64 o.p, .int .i64 o.b, .int .i64 o.s, .int .i64 o.c, .int .i64 o.k, .int .i64 o.r, .int .i64 o.q])
    have T9 := Lib.hid (T5.out.set #[.int .i64 o.p, .int .i64 o.b, .int .i64 o.s, .int .i64 o.c, .int .i64 o.k, .int .i64 o.r, .int .i64 o.q])
    clear x0 x1 x2 x3 x4 x5 x6
    go_wp2
    refine bodyPost_ret (res_cell_tmp rfl _ _ w.heap.size 23 _ (0, 0) _ rfl T9.out.row Tryz.underlying23 rfl size_geomA) rfl ?_
    exact ⟨by rw [HGE.out, HEE.out]; rfl, B9.out⟩
   ·
    have HC := Lib.hid (fun W => Check_no o hok W)
    have HGE := Lib.hid (show G = gZ by rw [HG.out, if_neg (by omega)])
    have HEE := Lib.hid he
    simp only [Gm.val] at HC
    clear he hok HCE HG
    go_wp2_with fail
    refine (HC.out _).mono ?_
    rintro _ w5 ⟨rfl, h5⟩
    have T5 := Lib.hid (T4.out.below h5)
    have B5 := Lib.hid (below_step B4.out h5)
    clear h5 T4 B4 G1 HC
    go_wp2_with (with_reducible refine (?_ : wpList _ _ _ ({ dst := _, op := Op.store 23 _ _, type := _, pos := _, after := _, guard := _ } :: _) _ _); refine wpList_store_at rfl 23 _ _ rfl 7 size_geomA _ w.heap.size ?hx rfl _ T5.out.row rfl rfl (by simp [Value.oneCell']) ?_; (case hx => simp [Act.eval]))
    have B9 := Lib.hid (below_setRow B5.out (Nat.le_refl _) #[.int .i64 0, .int .i64 0, .int .i64 0, .int .i64 0, .int .i64 0, .int .i64 0, .int .i64 0])
    have T9 := Lib.hid (T5.out.set #[.int .i64 0, .int .i64 0, .int .i64 0, .int .i64 0, .int .i64 0, .int .i64 0, .int .i64 0])
    go_wp2
    refine bodyPost_ret (res_cell_tmp rfl _ _ w.heap.size 23 _ (0, 0) _ rfl T9.out.row Tryz.underlying23 rfl size_geomA) rfl ?_
    exact ⟨by rw [HGE.out, HEE.out]; rfl, B9.out⟩
theorem idTake_any (A : Option Addr) (n c : Nat) (l : List Nat) (w : World) (hr : R8 w A n l) (hn : n ≤ 1099511627776) (hc : n ≤ c) :
  Calls Tryz.prog 33 #[.slice A n c] w (Gives (.tuple #[(tkgG l).val, .int .i64 (tkgE l)]) w) := by
 by_cases h : n = 14
 ·
  subst h
  exact idTake_full A c l w hr hc
 ·
  exact idTake_short A n c l w hr hn h
structure Jd where
 op : Nat
 listed : List Nat
 count : Nat
 busy : Bool
 pol : Bool
 bg : Bool
 bgb : Nat
 data : Bool
 col : Nat
 rows : List Nat
 blocks : List Nat
 erases : List Nat
 er : Nat → Bool
 la : Nat → Int
 pr : Nat → Nat
 rej : Bool
structure Jm where
 aL : Option Addr
 cL : Nat
 aR : Option Addr
 cR : Nat
 aB : Option Addr
 cB : Nat
 aE : Option Addr
 cE : Nat
 r : Nat
def JI (l : List Nat) : List Int := l.map Int.ofNat
theorem JI_push (l : List Nat) (x : Nat) : JI (l ++ [x]) = JI l ++ [(x : Int)] := by simp [JI]
theorem JI_length (l : List Nat) : (JI l).length = l.length := by simp [JI]
def jCells (g : Gm) (j : Jd) (m : Jm) : Array Value :=
 #[.int .i64 (j.op : Int), .slice m.aL j.listed.length m.cL, .int .i64 (j.count : Int), .bool j.busy, .bool j.pol, .bool j.bg, .int .i64 (j.bgb : Int), .bool j.data, .int .i64 (j.col : Int),
  .slice m.aR j.rows.length m.cR, .slice m.aB j.blocks.length m.cB, .slice m.aE j.erases.length m.cE, .int .i64 g.p, .int .i64 g.b, .int .i64 g.s, .int .i64 g.c, .int .i64 g.k, .int .i64 g.r, .int .i64 g.q,
  .slice (some ⟨m.r, 0, none⟩) g.b.toNat g.b.toNat, .bool j.rej]
def recV (j : Jd) (S b o : Nat) : Value := if o = 0 then .bool (j.er b) else if o = 1 then .int .i64 (j.la b) else if o - 2 < S then .int .i64 (j.pr (b * S + (o - 2)) : Int) else .int .i64 0
def recF (g : Gm) (j : Jd) (i : Nat) : Option Value := if i / 66 < g.b.toNat then some (recV j g.s.toNat (i / 66) (i % 66)) else none
structure Jr (I : Nat → Prop) (w : World) (p : Nat) (g : Gm) (j : Jd) (m : Jm) : Prop where
 ok : g.ok = true
 rcs : Cells w m.r 134 (recF g j)
 lis : w.ownsRow 0 5 1 (.slice m.aL j.listed.length m.cL) j.listed.length (U8 j.listed)
 l8 : ∀ x ∈ j.listed, x < 256
 row : w.ownsRow 0 3 1 (.slice m.aR j.rows.length m.cR) j.rows.length (I64 (JI j.rows))
 blk : w.ownsRow 0 3 1 (.slice m.aB j.blocks.length m.cB) j.blocks.length (I64 (JI j.blocks))
 ers : w.ownsRow 0 3 1 (.slice m.aE j.erases.length m.cE) j.erases.length (I64 (JI j.erases))
 ab : ∀ k, (Value.slice m.aR j.rows.length m.cR).ownBlock = some k → ¬ (Value.slice m.aB j.blocks.length m.cB).ownBlock = some k
 ae : ∀ k, (Value.slice m.aR j.rows.length m.cR).ownBlock = some k → ¬ (Value.slice m.aE j.erases.length m.cE).ownBlock = some k
 be : ∀ k, (Value.slice m.aB j.blocks.length m.cB).ownBlock = some k → ¬ (Value.slice m.aE j.erases.length m.cE).ownBlock = some k
 ip : I p
 ir : I m.r
 iL : ∀ k, (Value.slice m.aL j.listed.length m.cL).ownBlock = some k → I k
 iR : ∀ k, (Value.slice m.aR j.rows.length m.cR).ownBlock = some k → I k
 iB : ∀ k, (Value.slice m.aB j.blocks.length m.cB).ownBlock = some k → I k
 iE : ∀ k, (Value.slice m.aE j.erases.length m.cE).ownBlock = some k → I k
 new : ∀ k, w.heap.size ≤ k → I k
section
variable {I K : Nat → Prop} {w w' : World} {p : Nat} {g : Gm} {j j' : Jd} {m m' : Jm}
theorem Jr.btw (h : Jr I w p g j m) (hb : Btw K w w') (hr : ¬ K m.r) (hL : ∀ k, (Value.slice m.aL j.listed.length m.cL).ownBlock = some k → ¬ K k) (hR : ∀ k, (Value.slice m.aR j.rows.length m.cR).ownBlock = some k → ¬ K k)
  (hB : ∀ k, (Value.slice m.aB j.blocks.length m.cB).ownBlock = some k → ¬ K k) (hE : ∀ k, (Value.slice m.aE j.erases.length m.cE).ownBlock = some k → ¬ K k) : Jr I w' p g j m :=
 {
  h with
  rcs := h.rcs.btw hb hr
  lis := own_btw1 h.lis hb hL
  row := own_btw1 h.row hb hR
  blk := own_btw1 h.blk hb hB
  ers := own_btw1 h.ers hb hE
  new := fun k hk => h.new k (Nat.le_trans hb.size hk) }
theorem Jr.below (h : Jr I w p g j m) (hb : Below w.heap.size w w') : Jr I w' p g j m :=
 h.btw (K := fun _ => False) (Btw.of_below hb) (fun h => h) (fun _ _ h => h) (fun _ _ h => h) (fun _ _ h => h) (fun _ _ h => h)
theorem Jr.apart_p {cs : Array Value} (h : Jr I w p g j m) (hc : CRow w p 131 cs) : m.r ≠ p ∧ (∀ k, (Value.slice m.aL j.listed.length m.cL).ownBlock = some k → k ≠ p) ∧ (∀ k, (Value.slice m.aR j.rows.length m.cR).ownBlock = some k → k ≠ p) ∧
  (∀ k, (Value.slice m.aB j.blocks.length m.cB).ownBlock = some k → k ≠ p) ∧ (∀ k, (Value.slice m.aE j.erases.length m.cE).ownBlock = some k → k ≠ p) :=
 ⟨h.rcs.ne (Cells.of_row hc) (by decide), own_ne h.lis hc (by decide), own_ne h.row hc (by decide), own_ne h.blk hc (by decide), own_ne h.ers hc (by decide)⟩
theorem Jr.apart_r (h : Jr I w p g j m) : (∀ k, (Value.slice m.aL j.listed.length m.cL).ownBlock = some k → k ≠ m.r) ∧ (∀ k, (Value.slice m.aR j.rows.length m.cR).ownBlock = some k → k ≠ m.r) ∧
  (∀ k, (Value.slice m.aB j.blocks.length m.cB).ownBlock = some k → k ≠ m.r) ∧ (∀ k, (Value.slice m.aE j.erases.length m.cE).ownBlock = some k → k ≠ m.r) := by
 obtain ⟨cur, hc, _⟩ := h.rcs
 exact ⟨own_ne h.lis hc (by decide), own_ne h.row hc (by decide), own_ne h.blk hc (by decide), own_ne h.ers hc (by decide)⟩
theorem Jr.apart_L (h : Jr I w p g j m) : (∀ k, (Value.slice m.aL j.listed.length m.cL).ownBlock = some k → ¬ (Value.slice m.aR j.rows.length m.cR).ownBlock = some k) ∧ (∀ k, (Value.slice m.aL j.listed.length m.cL).ownBlock = some k → ¬ (Value.slice m.aB j.blocks.length m.cB).ownBlock = some k) ∧
  (∀ k, (Value.slice m.aL j.listed.length m.cL).ownBlock = some k → ¬ (Value.slice m.aE j.erases.length m.cE).ownBlock = some k) :=
 ⟨own_ne2 h.lis h.row (by decide), own_ne2 h.lis h.blk (by decide), own_ne2 h.lis h.ers (by decide)⟩
def JH (I : Nat → Prop) (w : World) (p : Nat) (g : Gm) (j : Jd) : Prop := ∃ m, CRow w p 131 (jCells g j m) ∧ Jr I w p g j m
theorem JH.below (h : JH I w p g j) (hb : Below w.heap.size w w') : JH I w' p g j := by
 obtain ⟨m, hc, hr⟩ := h
 exact ⟨m, hc.below hb, hr.below hb⟩
theorem JH.ok (h : JH I w p g j) : g.ok = true := by
 obtain ⟨_, _, hr⟩ := h
 exact hr.ok
theorem JH.away (h : JH I w p g j) (hb : Btw K w w') (hK : ∀ k, K k → ¬ I k) : JH (fun k => I k ∧ (k < w.heap.size ∨ w'.heap.size ≤ k)) w' p g j := by
 obtain ⟨m, hc, hr⟩ := h
 have h1 := hr.btw hb (fun e => hK _ e hr.ir) (fun k hk e => hK _ e (hr.iL k hk)) (fun k hk e => hK _ e (hr.iR k hk)) (fun k hk e => hK _ e (hr.iB k hk)) (fun k hk e => hK _ e (hr.iE k hk))
 exact ⟨m, hc.btw hb fun e => hK _ e hr.ip, { h1 with
  ip := ⟨hr.ip, .inl hc.lt⟩
  ir := ⟨hr.ir, .inl hr.rcs.lt⟩
  iL := fun k hk => ⟨hr.iL k hk, .inl (own_low hr.lis k hk).2⟩
  iR := fun k hk => ⟨hr.iR k hk, .inl (own_low hr.row k hk).2⟩
  iB := fun k hk => ⟨hr.iB k hk, .inl (own_low hr.blk k hk).2⟩
  iE := fun k hk => ⟨hr.iE k hk, .inl (own_low hr.ers k hk).2⟩
  new := fun k hk => ⟨hr.new k (Nat.le_trans hb.size hk), .inr hk⟩ }⟩
theorem JH.shrink (h : JH I w p g j) (hb : Below w.heap.size w w') : JH (fun k => I k ∧ (k < w.heap.size ∨ w'.heap.size ≤ k)) w' p g j :=
 h.away (K := fun _ => False) (Btw.of_below hb) fun _ h => h.elim
theorem JH.of {cs : Array Value} (hc0 : CRow w p 131 cs) (hr : Jr I w p g j m) (hc : CRow w' p 131 (jCells g j' m')) (hb : Btw (fun k => k = p) w w')
  (hk : ∀ W, Jr I W p g j m → Jr I W p g j' m') : JH I w' p g j' ∧ Btw I w w' := by
 have a := hr.apart_p hc0
 exact ⟨⟨m', hc, hk _ (hr.btw hb a.1 a.2.1 a.2.2.1 a.2.2.2.1 a.2.2.2.2)⟩, (Btw.refl w).trans hb fun k _ e => by rw [e]; exact hr.ip⟩
theorem JH.recs {er : Nat → Bool} {la : Nat → Int} {pr : Nat → Nat} (hc : CRow w p 131 (jCells g j m)) (hr : Jr I w p g j m) (hb : Btw (fun k => k = m.r) w w')
  (hrec : Cells w' m.r 134 (recF g { j with er := er, la := la, pr := pr })) : CRow w' p 131 (jCells g { j with er := er, la := la, pr := pr } m) ∧ Jr I w' p g { j with er := er, la := la, pr := pr } m ∧ Btw I w w' := by
 have a := hr.apart_r
 have b := hr.apart_p hc
 exact ⟨hc.btw hb (fun e => b.1 e.symm), { hr with
  rcs := hrec
  lis := own_btw1 hr.lis hb a.1
  row := own_btw1 hr.row hb a.2.1
  blk := own_btw1 hr.blk hb a.2.2.1
  ers := own_btw1 hr.ers hb a.2.2.2
  new := fun k hk => hr.new k (Nat.le_trans hb.size hk) }, (Btw.refl w).trans hb fun k _ e => by rw [e]; exact hr.ir⟩
theorem Jr.pushL {w1 w3 : World} {o : Obj} {A3 : Option Addr} {c3 : Nat} (b : Nat) (hb8 : b < 256) (hc : CRow w1 p 131 (jCells g j m)) (hr : Jr I w1 p g j m)
  (hown : w3.ownsRow 0 5 1 (.slice A3 (j.listed.length + 1) c3) (j.listed.length + 1) (U8 (j.listed ++ [b])))
  (hg : (w1.alloc o).grownBy w3 (Value.slice m.aL j.listed.length m.cL).ownBlock)
  (hwh : (Value.slice A3 (j.listed.length + 1) c3).ownBlock = (Value.slice m.aL j.listed.length m.cL).ownBlock ∨ (Value.slice A3 (j.listed.length + 1) c3).ownBlock = some (w1.heap.size + 1)) :
  CRow w3 p 131 (jCells g j m) ∧ Jr I w3 p g { j with listed := j.listed ++ [b] } { m with aL := A3, cL := c3 } ∧ Btw I w1 w3 := by
 have hB0 : Btw (fun k => (Value.slice m.aL j.listed.length m.cL).ownBlock = some k) (w1.alloc o) w3 := Btw.of_grown hg (fun _ h => h)
 have hB1 : Btw (fun k => (Value.slice m.aL j.listed.length m.cL).ownBlock = some k) w1 w3 := (Btw.of_below (below_new w1 o)).trans hB0 fun _ _ h => h
 have a := hr.apart_L
 have b1 := hr.apart_p hc
 have c := hr.apart_r
 refine ⟨hc.btw hB1 (fun e => b1.2.1 _ e rfl), { hr with
  rcs := hr.rcs.btw hB1 (fun e => c.1 _ e rfl)
  lis := by simpa using hown
  l8 := fun x hx => by
   rcases List.mem_append.1 hx with h | h
   ·
    exact hr.l8 x h
   ·
    rw [List.mem_singleton.1 h]; exact hb8
  row := own_btw1 hr.row hB1 (fun k hk e => a.1 k e hk)
  blk := own_btw1 hr.blk hB1 (fun k hk e => a.2.1 k e hk)
  ers := own_btw1 hr.ers hB1 (fun k hk e => a.2.2 k e hk)
  iL := fun k hk => ?_
  new := fun k hk => hr.new k (Nat.le_trans hB1.size hk) }, (Btw.refl w1).trans hB1 fun k _ e => hr.iL k e⟩
 have hk : (Value.slice A3 (j.listed.length + 1) c3).ownBlock = some k := by simpa using hk
 rcases hwh with e | e
 ·
  exact hr.iL k (e ▸ hk)
 ·
  rw [e] at hk
  injection hk with hk
  exact hr.new k (by omega)
theorem Jr.pushR {w1 w3 : World} {o : Obj} {A3 : Option Addr} {c3 : Nat} (x : Nat) (hc : CRow w1 p 131 (jCells g j m)) (hr : Jr I w1 p g j m)
  (hown : w3.ownsRow 0 3 1 (.slice A3 (j.rows.length + 1) c3) (j.rows.length + 1) (I64 (JI j.rows ++ [(x : Int)])))
  (hg : (w1.alloc o).grownBy w3 (Value.slice m.aR j.rows.length m.cR).ownBlock)
  (hwh : (Value.slice A3 (j.rows.length + 1) c3).ownBlock = (Value.slice m.aR j.rows.length m.cR).ownBlock ∨ (Value.slice A3 (j.rows.length + 1) c3).ownBlock = some (w1.heap.size + 1)) :
  CRow w3 p 131 (jCells g j m) ∧ Jr I w3 p g { j with rows := j.rows ++ [x] } { m with aR := A3, cR := c3 } ∧ Btw I w1 w3 := by
 have hB0 : Btw (fun k => (Value.slice m.aR j.rows.length m.cR).ownBlock = some k) (w1.alloc o) w3 := Btw.of_grown hg (fun _ h => h)
 have hB1 : Btw (fun k => (Value.slice m.aR j.rows.length m.cR).ownBlock = some k) w1 w3 := (Btw.of_below (below_new w1 o)).trans hB0 fun _ _ h => h
 have a := hr.apart_L
 have b1 := hr.apart_p hc
 have c := hr.apart_r
 have K : ∀ k, (Value.slice A3 (j.rows ++ [x]).length c3).ownBlock = some k → (Value.slice m.aR j.rows.length m.cR).ownBlock = some k ∨ k = w1.heap.size + 1 := fun k hk => by
  rw [List.length_append] at hk
  rcases hwh with e | e
  ·
   exact .inl (e ▸ hk)
  ·
   have hk2 : (Value.slice A3 (j.rows.length + 1) c3).ownBlock = some k := hk
   rw [e] at hk2
   injection hk2 with hk2
   exact .inr hk2.symm
 exact ⟨hc.btw hB1 (fun e => b1.2.2.1 _ e rfl), { hr with
  rcs := hr.rcs.btw hB1 (fun e => c.2.1 _ e rfl)
  lis := own_btw1 hr.lis hB1 (fun k hk e => a.1 k hk e)
  row := by simpa [JI_push] using hown
  blk := own_btw1 hr.blk hB1 (fun k hk e => hr.ab k e hk)
  ers := own_btw1 hr.ers hB1 (fun k hk e => hr.ae k e hk)
  ab := fun k hk e => by
   rcases K k hk with h | h
   ·
    exact hr.ab k h e
   ·
    have := (own_low hr.blk k e).2; omega
  ae := fun k hk e => by
   rcases K k hk with h | h
   ·
    exact hr.ae k h e
   ·
    have := (own_low hr.ers k e).2; omega
  iR := fun k hk => by
   rcases K k hk with h | h
   ·
    exact hr.iR k h
   ·
    exact hr.new k (by omega)
  new := fun k hk => hr.new k (Nat.le_trans hB1.size hk) }, (Btw.refl w1).trans hB1 fun k _ e => hr.iR k e⟩
theorem Jr.pushB {w1 w3 : World} {o : Obj} {A3 : Option Addr} {c3 : Nat} (x : Nat) (hc : CRow w1 p 131 (jCells g j m)) (hr : Jr I w1 p g j m)
  (hown : w3.ownsRow 0 3 1 (.slice A3 (j.blocks.length + 1) c3) (j.blocks.length + 1) (I64 (JI j.blocks ++ [(x : Int)])))
  (hg : (w1.alloc o).grownBy w3 (Value.slice m.aB j.blocks.length m.cB).ownBlock)
  (hwh : (Value.slice A3 (j.blocks.length + 1) c3).ownBlock = (Value.slice m.aB j.blocks.length m.cB).ownBlock ∨ (Value.slice A3 (j.blocks.length + 1) c3).ownBlock = some (w1.heap.size + 1)) :
  CRow w3 p 131 (jCells g j m) ∧ Jr I w3 p g { j with blocks := j.blocks ++ [x] } { m with aB := A3, cB := c3 } ∧ Btw I w1 w3 := by
 have hB0 : Btw (fun k => (Value.slice m.aB j.blocks.length m.cB).ownBlock = some k) (w1.alloc o) w3 := Btw.of_grown hg (fun _ h => h)
 have hB1 : Btw (fun k => (Value.slice m.aB j.blocks.length m.cB).ownBlock = some k) w1 w3 := (Btw.of_below (below_new w1 o)).trans hB0 fun _ _ h => h
 have a := hr.apart_L
 have b1 := hr.apart_p hc
 have c := hr.apart_r
 have K : ∀ k, (Value.slice A3 (j.blocks ++ [x]).length c3).ownBlock = some k → (Value.slice m.aB j.blocks.length m.cB).ownBlock = some k ∨ k = w1.heap.size + 1 := fun k hk => by
  rw [List.length_append] at hk
  rcases hwh with e | e
  ·
   exact .inl (e ▸ hk)
  ·
   have hk2 : (Value.slice A3 (j.blocks.length + 1) c3).ownBlock = some k := hk
   rw [e] at hk2
   injection hk2 with hk2
   exact .inr hk2.symm
 exact ⟨hc.btw hB1 (fun e => b1.2.2.2.1 _ e rfl), { hr with
  rcs := hr.rcs.btw hB1 (fun e => c.2.2.1 _ e rfl)
  lis := own_btw1 hr.lis hB1 (fun k hk e => a.2.1 k hk e)
  row := own_btw1 hr.row hB1 (fun k hk e => hr.ab k hk e)
  blk := by simpa [JI_push] using hown
  ers := own_btw1 hr.ers hB1 (fun k hk e => hr.be k e hk)
  ab := fun k hk e => by
   rcases K k e with h | h
   ·
    exact hr.ab k hk h
   ·
    have := (own_low hr.row k hk).2; omega
  be := fun k hk e => by
   rcases K k hk with h | h
   ·
    exact hr.be k h e
   ·
    have := (own_low hr.ers k e).2; omega
  iB := fun k hk => by
   rcases K k hk with h | h
   ·
    exact hr.iB k h
   ·
    exact hr.new k (by omega)
  new := fun k hk => hr.new k (Nat.le_trans hB1.size hk) }, (Btw.refl w1).trans hB1 fun k _ e => hr.iB k e⟩
def ActsJ (I : Nat → Prop) (p : Nat) (g : Gm) (v : Value) (j' : Jd) (w : World) (e : Ending) (w' : World) : Prop := e = .returned v ∧ JH I w' p g j' ∧ Btw I w w'
theorem rec_at {b : Nat} (o : Nat) (hb : b < g.b.toNat) (ho : o < 66) : recF g j (b * 66 + o) = some (recV j g.s.toNat b o) := by
 unfold recF
 rw [show (b * 66 + o) / 66 = b by omega, show (b * 66 + o) % 66 = o by omega, if_pos hb]
theorem rec_er {b : Nat} (hb : b < g.b.toNat) : recF g j (b * 66) = some (.bool (j.er b)) := by
 have h := rec_at (g := g) (j := j) 0 hb (by omega)
 rw [Nat.add_zero] at h
 rw [h]
 unfold recV
 rw [if_pos rfl]
theorem rec_la {b : Nat} (hb : b < g.b.toNat) : recF g j (b * 66 + 1) = some (.int .i64 (j.la b)) := by
 rw [rec_at 1 hb (by omega)]
 unfold recV
 rw [if_neg (by omega), if_pos rfl]
theorem rec_pr {b q : Nat} (hb : b < g.b.toNat) (hq : q < g.s.toNat) (hs : g.s.toNat ≤ 64) : recF g j (b * 66 + (2 + q)) = some (.int .i64 (j.pr (b * g.s.toNat + q) : Int)) := by
 rw [rec_at (2 + q) hb (by omega)]
 unfold recV
 rw [if_neg (by omega), if_neg (by omega), if_pos (by omega), show 2 + q - 2 = q by omega]
end
section
variable {I K : Nat → Prop} {w w' : World} {p : Nat} {g : Gm} {j : Jd} {m : Jm}
theorem jmade_row (h : CRow w p 131 (jCells g j m)) : Calls Tryz.prog 55 #[.pointer (some ⟨p, 0, none⟩)] w (Gives (.bool true) w) := by
 have C0 := Lib.hid h
 have x19 := C0.out.cell_at 19 (.slice (some ⟨m.r, 0, none⟩) g.b.toNat g.b.toNat) rfl
 clear h C0
 go_enter Tryz.func55, Tryz.ntmps55
 go_wp2
 go_ret
 exact ⟨rfl, Below.refl _ _⟩
def Jd.enter (j : Jd) (n : Nat) : Jd := { j with op := n, listed := [], count := 0 }
def Jm.enter (m : Jm) : Jm := { m with aL := none, cL := 0 }
theorem Jr.noL (h : Jr I w p g j m) (n : Nat) : Jr I w p g (j.enter n) m.enter :=
 {
  h with
  lis := ⟨rfl, .inl ⟨rfl, rfl⟩⟩
  l8 := fun x hx => by cases hx
  iL := fun k hk => by cases hk }
set_option maxHeartbeats 1000000 in
theorem jenter (n : Nat) (h : JH I w p g j) : Calls Tryz.prog 75 #[.pointer (some ⟨p, 0, none⟩), .int .i64 (n : Int)] w (ActsJ I p g (.tuple #[]) (j.enter n) w) := by
 obtain ⟨m, hc, hr⟩ := h
 have C0 := Lib.hid hc
 have R0 := Lib.hid hr
 clear hc hr
 have x0 := C0.out.cell_at 0 (.int .i64 (j.op : Int)) rfl
 have f0 := C0.out.frozen 0
 have S1 := Lib.hid (C0.out.setCell 0 (.int .i64 (n : Int)))
 have K1 := Lib.hid (((Btw.refl w)).setCell (I := fun k => k = p) (p := ⟨p, 0, none⟩) (v := .int .i64 (n : Int)) rfl)
 have x1 := S1.out.cell_at 1 (.slice m.aL j.listed.length m.cL) rfl
 have f1 := S1.out.frozen 1
 have S2 := Lib.hid (S1.out.setCell 1 (.slice none 0 0))
 have K2 := Lib.hid ((K1.out).setCell (I := fun k => k = p) (p := ⟨p, 1, none⟩) (v := .slice none 0 0) rfl)
 have x2 := S2.out.cell_at 2 (.int .i64 (j.count : Int)) rfl
 have f2 := S2.out.frozen 2
 have S3 := Lib.hid (S2.out.setCell 2 (.int .i64 0))
 have K3 := Lib.hid ((K2.out).setCell (I := fun k => k = p) (p := ⟨p, 2, none⟩) (v := .int .i64 0) rfl)
 go_enter Tryz.func75, Tryz.ntmps75
 go_wp2
 go_end0
 have H := JH.of (j' := j.enter n) (m' := m.enter) C0.out R0.out S3.out K3.out fun W h => h.noL n
 exact ⟨rfl, H.1, H.2⟩
def Jd.start (j : Jd) : Jd := { j.enter 1 with busy := true }
theorem jstart (h : JH I w p g j) : Calls Tryz.prog 74 #[.pointer (some ⟨p, 0, none⟩)] w (ActsJ I p g (.tuple #[]) j.start w) := by
 have HE := Lib.hid (jenter 1 h)
 clear h
 go_enter Tryz.func74, Tryz.ntmps74
 go_wp2_with fail
 refine HE.out.mono ?_
 rintro _ w1 ⟨rfl, h1, b1⟩
 obtain ⟨m, hc, hr⟩ := h1
 have C1 := Lib.hid hc
 have R1 := Lib.hid hr
 have B1 := Lib.hid b1
 clear hc hr b1 HE
 have x3 := C1.out.cell_at 3 (.bool (j.enter 1).busy) rfl
 have f3 := C1.out.frozen 3
 have S1 := Lib.hid (C1.out.setCell 3 (.bool true))
 have K1 := Lib.hid (((Btw.refl w1)).setCell (I := fun k => k = p) (p := ⟨p, 3, none⟩) (v := .bool true) rfl)
 go_wp2
 go_end0
 have H := JH.of (j' := j.start) (m' := m) C1.out R1.out S1.out K1.out fun W h => { h with }
 exact ⟨rfl, H.1, B1.out.trans H.2 fun _ _ h => h⟩
theorem isCommand_any (k b c : Int) (w : World) : Calls Tryz.prog 57 #[.agg #[.int .i64 k, .int .u8 b], .int .u8 c] w (Gives (.bool (decide (k = 1 ∧ b = c))) w) := by
 have B0 := Lib.hid (below_new w (.cells #[.int .i64 k, .int .u8 b] 93))
 by_cases h1 : k = 1
 ·
  subst h1
  by_cases h2 : b = c
  ·
   subst h2
   rw [decide_eq_true ⟨rfl, rfl⟩]
   go_enter Tryz.func57, Tryz.ntmps57
   go_wp2
   go_ret
   exact ⟨by simp, B0.out⟩
  ·
   rw [decide_eq_false (fun h => h2 h.2)]
   have e1 : (b == c) = false := by rw [beq_eq_false_iff_ne]; exact h2
   have e2 : decide (b = c) = false := decide_eq_false h2
   go_enter Tryz.func57, Tryz.ntmps57
   go_wp2
   go_ret
   exact ⟨by simp, B0.out⟩
 ·
  rw [decide_eq_false (fun h => h1 h.1)]
  have e1 : (k == 1) = false := by rw [beq_eq_false_iff_ne]; exact h1
  have e2 : decide (k = 1) = false := decide_eq_false h1
  go_enter Tryz.func57, Tryz.ntmps57
  go_wp2
  go_ret
  exact ⟨rfl, B0.out⟩
def jopen (b : Nat) : Nat := if b = 144 then 2 else if b = 236 then 3 else if b = 239 then 4 else if b = 0 then 5 else if b = 5 then 7 else if b = 128 then 8 else if b = 96 then 9 else 0
set_option maxHeartbeats 4000000 in
theorem jopened (b : Nat) (hb : b < 256) (w : World) : Calls Tryz.prog 127 #[.int .u8 (b : Int)] w (Gives (.tuple #[.int .i64 (jopen b : Int), .bool (decide (jopen b ≠ 0))]) w) := by
 by_cases h : b = 144 ∨ b = 236 ∨ b = 239 ∨ b = 0 ∨ b = 5 ∨ b = 128 ∨ b = 96
 ·
  rcases h with rfl | rfl | rfl | rfl | rfl | rfl | rfl <;> (go_enter Tryz.func127, Tryz.ntmps127; go_wp2; go_ret2; exact ⟨rfl, Below.refl _ _⟩)
 ·
  have e : jopen b = 0 := by unfold jopen; rw [if_neg (by omega)]; rw [if_neg (by omega)]; rw [if_neg (by omega)]; rw [if_neg (by omega)]; rw [if_neg (by omega)]; rw [if_neg (by omega)]; rw [if_neg (by omega)]
  rw [e]
  have b144 : ((b : Int) == 144) = false := by simp; omega
  have j144 : ((b : Int) = 144) = False := eq_false (by omega)
  have d144 : decide ((b : Int) = 144) = false := decide_eq_false (by omega)
  have b236 : ((b : Int) == 236) = false := by simp; omega
  have j236 : ((b : Int) = 236) = False := eq_false (by omega)
  have d236 : decide ((b : Int) = 236) = false := decide_eq_false (by omega)
  have b239 : ((b : Int) == 239) = false := by simp; omega
  have j239 : ((b : Int) = 239) = False := eq_false (by omega)
  have d239 : decide ((b : Int) = 239) = false := decide_eq_false (by omega)
  have b0 : ((b : Int) == 0) = false := by simp; omega
  have j0 : ((b : Int) = 0) = False := eq_false (by omega)
  have d0 : decide ((b : Int) = 0) = false := decide_eq_false (by omega)
  have b5 : ((b : Int) == 5) = false := by simp; omega
  have j5 : ((b : Int) = 5) = False := eq_false (by omega)
  have d5 : decide ((b : Int) = 5) = false := decide_eq_false (by omega)
  have b128 : ((b : Int) == 128) = false := by simp; omega
  have j128 : ((b : Int) = 128) = False := eq_false (by omega)
  have d128 : decide ((b : Int) = 128) = false := decide_eq_false (by omega)
  have b96 : ((b : Int) == 96) = false := by simp; omega
  have j96 : ((b : Int) = 96) = False := eq_false (by omega)
  have d96 : decide ((b : Int) = 96) = false := decide_eq_false (by omega)
  clear h e
  go_enter Tryz.func127, Tryz.ntmps127
  go_wp2
  go_ret2
  exact ⟨rfl, Below.refl _ _⟩
theorem jopen_le (b : Nat) : jopen b ≤ 9 := by
 unfold jopen
 repeat' split
 all_goals omega
def Jd.may (j : Jd) (n : Nat) : Bool := if j.bg = true ∨ 0 < j.rows.length then decide (n = 8) else if 0 < j.blocks.length then decide (n = 9) else decide (n ≠ 7) || j.data
set_option maxHeartbeats 4000000 in
theorem jmay (n : Nat) (hn : n ≤ 9) (h : JH I w p g j) (hR : j.rows.length ≤ 100000) (hB : j.blocks.length ≤ 100000) : Calls Tryz.prog 128 #[.pointer (some ⟨p, 0, none⟩), .int .i64 (n : Int)] w (Gives (.bool (j.may n)) w) := by
 obtain ⟨m, hc, hr⟩ := h
 have C0 := Lib.hid hc
 clear hc hr
 have x5 := C0.out.cell_at 5 (.bool j.bg) rfl
 have x7 := C0.out.cell_at 7 (.bool j.data) rfl
 have x9 := C0.out.cell_at 9 (.slice m.aR j.rows.length m.cR) rfl
 have x10 := C0.out.cell_at 10 (.slice m.aB j.blocks.length m.cB) rfl
 clear C0
 unfold Jd.may
 generalize j.rows.length = R at *
 generalize j.blocks.length = B at *
 generalize j.bg = bg at *
 generalize j.data = da at *
 have hd : n = 0 ∨ n = 1 ∨ n = 2 ∨ n = 3 ∨ n = 4 ∨ n = 5 ∨ n = 6 ∨ n = 7 ∨ n = 8 ∨ n = 9 := by omega
 clear hn
 by_cases h1 : 0 < R
 ·
  have d1 : decide ((0 : Int) < (R : Int)) = true := decide_eq_true (by omega)
  have d2 : decide (0 < R) = true := decide_eq_true (by omega)
  rw [if_pos (.inr h1)]
  clear h1
  cases bg <;> rcases hd with rfl | rfl | rfl | rfl | rfl | rfl | rfl | rfl | rfl | rfl
  all_goals go_enter Tryz.func128, Tryz.ntmps128
  all_goals go_wp2
  all_goals go_ret
  all_goals exact ⟨rfl, Below.refl _ _⟩
 ·
  have d1 : decide ((0 : Int) < (R : Int)) = false := decide_eq_false (by omega)
  have d2 : decide (0 < R) = false := decide_eq_false (by omega)
  by_cases h2 : 0 < B
  ·
   have d3 : decide ((0 : Int) < (B : Int)) = true := decide_eq_true (by omega)
   have d4 : decide (0 < B) = true := decide_eq_true (by omega)
   cases bg
   ·
    rw [if_neg (by simp; omega), if_pos h2]
    clear h1 h2
    rcases hd with rfl | rfl | rfl | rfl | rfl | rfl | rfl | rfl | rfl | rfl
    all_goals go_enter Tryz.func128, Tryz.ntmps128
    all_goals go_wp2
    all_goals go_ret
    all_goals exact ⟨rfl, Below.refl _ _⟩
   ·
    rw [if_pos (.inl rfl)]
    clear h1 h2
    rcases hd with rfl | rfl | rfl | rfl | rfl | rfl | rfl | rfl | rfl | rfl
    all_goals go_enter Tryz.func128, Tryz.ntmps128
    all_goals go_wp2
    all_goals go_ret
    all_goals exact ⟨rfl, Below.refl _ _⟩
  ·
   have d3 : decide ((0 : Int) < (B : Int)) = false := decide_eq_false (by omega)
   have d4 : decide (0 < B) = false := decide_eq_false (by omega)
   cases bg
   ·
    rw [if_neg (by simp; omega), if_neg h2]
    clear h1 h2
    cases da <;> rcases hd with rfl | rfl | rfl | rfl | rfl | rfl | rfl | rfl | rfl | rfl
    all_goals go_enter Tryz.func128, Tryz.ntmps128
    all_goals go_wp2
    all_goals go_ret
    all_goals exact ⟨rfl, Below.refl _ _⟩
   ·
    rw [if_pos (.inl rfl)]
    clear h1 h2
    rcases hd with rfl | rfl | rfl | rfl | rfl | rfl | rfl | rfl | rfl | rfl
    all_goals go_enter Tryz.func128, Tryz.ntmps128
    all_goals go_wp2
    all_goals go_ret
    all_goals exact ⟨rfl, Below.refl _ _⟩
def Jd.lists (j : Jd) (b : Nat) : Bool :=
 if j.op = 2 ∨ j.op = 3 then decide (b = 0) && decide (j.listed.length = 0)
 else if j.op = 4 then decide (b = 137) && decide (j.listed.length = 0)
 else if j.op = 5 ∨ j.op = 8 then decide (j.listed.length < 4)
 else if j.op = 7 ∨ j.op = 9 then decide (j.listed.length < 2)
 else false
theorem jbeq_zero (n : Nat) : ((n : Int) == 0) = decide (n = 0) := by rw [Bool.eq_iff_iff]; simp
set_option maxHeartbeats 4000000 in
theorem jlists (b : Nat) (hb8 : b < 256) (hst : j.op ≤ 9) (hl : j.listed.length ≤ 100) (h : JH I w p g j) : Calls Tryz.prog 104 #[.pointer (some ⟨p, 0, none⟩), .int .u8 (b : Int)] w (Gives (.bool (j.lists b)) w) := by
 obtain ⟨m, h, hr⟩ := h
 clear hr
 obtain ⟨n, hn⟩ : ∃ n, n = j.listed.length := ⟨_, rfl⟩
 have x1 : w.cell? ⟨p, 1, none⟩ = some (.slice m.aL n m.cL) := by rw [hn]; exact h.cell_at 1 _ rfl
 have x0 : w.cell? ⟨p, 0, none⟩ = some (.int .i64 (j.op : Int)) := h.cell_at 0 _ rfl
 rw [← hn] at hl
 have HL : j.lists b = (if j.op = 2 ∨ j.op = 3 then decide (b = 0) && decide (n = 0) else if j.op = 4 then decide (b = 137) && decide (n = 0) else if j.op = 5 ∨ j.op = 8 then decide (n < 4) else if j.op = 7 ∨ j.op = 9 then decide (n < 2) else false) := by rw [hn]; rfl
 rw [HL]
 clear HL hn h
 generalize j.op = t at *
 have e1 : decide ((n : Int) = 0) = decide (n = 0) := decide_eq_decide.2 (by omega)
 have e2 : decide ((n : Int) < 4) = decide (n < 4) := decide_eq_decide.2 (by omega)
 have e3 : decide ((n : Int) < 2) = decide (n < 2) := decide_eq_decide.2 (by omega)
 have e4 : decide ((b : Int) = 0) = decide (b = 0) := decide_eq_decide.2 (by omega)
 have e5 : decide ((b : Int) = 137) = decide (b = 137) := decide_eq_decide.2 (by omega)
 have ht : t = 0 ∨ t = 1 ∨ t = 2 ∨ t = 3 ∨ t = 4 ∨ t = 5 ∨ t = 6 ∨ t = 7 ∨ t = 8 ∨ t = 9 := by omega
 clear hst
 by_cases hb0 : b = 0
 ·
  subst hb0
  rcases ht with rfl | rfl | rfl | rfl | rfl | rfl | rfl | rfl | rfl | rfl
  all_goals simp
  all_goals go_enter Tryz.func104, Tryz.ntmps104
  all_goals go_wp2
  all_goals go_ret
  all_goals first | exact ⟨rfl, Below.refl _ _⟩ | (refine ⟨?_, Below.refl _ _⟩; simp; done) | (refine ⟨?_, Below.refl _ _⟩; simp [jbeq_zero]; done)
 ·
  have e6 : decide ((b : Int) = 0) = false := decide_eq_false (by omega)
  by_cases hb1 : b = 137
  ·
   subst hb1
   rcases ht with rfl | rfl | rfl | rfl | rfl | rfl | rfl | rfl | rfl | rfl
   all_goals simp
   all_goals go_enter Tryz.func104, Tryz.ntmps104
   all_goals go_wp2
   all_goals go_ret
   all_goals first | exact ⟨rfl, Below.refl _ _⟩ | (refine ⟨?_, Below.refl _ _⟩; simp; done) | (refine ⟨?_, Below.refl _ _⟩; simp [jbeq_zero]; done)
  ·
   have e7 : decide ((b : Int) = 137) = false := decide_eq_false (by omega)
   rcases ht with rfl | rfl | rfl | rfl | rfl | rfl | rfl | rfl | rfl | rfl
   all_goals simp [hb0, hb1]
   all_goals go_enter Tryz.func104, Tryz.ntmps104
   all_goals go_wp2
   all_goals go_ret
   all_goals first | exact ⟨rfl, Below.refl _ _⟩ | (refine ⟨?_, Below.refl _ _⟩; simp; done) | (refine ⟨?_, Below.refl _ _⟩; simp [jbeq_zero]; done)
end
def geo18 : Gm := ⟨1, 2, 4, 1, 300, 1, 1⟩
theorem geo18_ok : geo18.ok = true := by decide +kernel
set_option maxHeartbeats 400000 in
theorem plain18_any (w : World) : Calls Tryz.prog 17 #[] w (Gives geo18.val w) := by
 go_enter Tryz.func17, Tryz.ntmps17
 have T0 := Lib.hid (CRow.new w #[.int .i64 0, .int .i64 0, .int .i64 0, .int .i64 0, .int .i64 0, .int .i64 0, .int .i64 0] 23)
 have B0 := Lib.hid (below_new w (.cells #[.int .i64 0, .int .i64 0, .int .i64 0, .int .i64 0, .int .i64 0, .int .i64 0, .int .i64 0] 23))
 go_wp2_with (with_reducible refine (?_ : wpList _ _ _ ({ dst := _, op := Op.store 23 _ _, type := _, pos := _, after := _, guard := _ } :: _) _ _); refine wpList_store_at rfl 23 _ _ rfl 7 size_geomA _ w.heap.size ?hx rfl _ T0.out.row rfl rfl (by simp [Value.oneCell']) ?_; (case hx => simp [Act.eval]))
 have B9 := Lib.hid (below_setRow B0.out (Nat.le_refl _) #[.int .i64 1, .int .i64 2, .int .i64 4, .int .i64 1, .int .i64 300, .int .i64 1, .int .i64 1])
 have T9 := Lib.hid (T0.out.set #[.int .i64 1, .int .i64 2, .int .i64 4, .int .i64 1, .int .i64 300, .int .i64 1, .int .i64 1])
 go_wp2
 refine bodyPost_ret (results_cell_row rfl _ _ w.heap.size 23 _ (0, 0) _ rfl T9.out.row Tryz.underlying23 rfl size_geomA) rfl ?_
 exact ⟨rfl, B9.out⟩
set_option maxHeartbeats 1000000 in
theorem awake18_any (w : World) : Calls Tryz.prog 4 #[] w (Gives (.bool true) w) := by
 have HP := Lib.hid (fun W => plain18_any W)
 have HU := Lib.hid (fun W => idPut_yes geo18 geo18_ok W)
 obtain ⟨V, hV⟩ : ∃ V, V = geo18.val := ⟨_, rfl⟩
 rw [← hV] at HP HU
 clear hV
 go_enter Tryz.func4, Tryz.ntmps4
 go_wp2_with fail
 refine (HP.out _).mono ?_
 rintro _ w1 ⟨rfl, h1⟩
 have B1 := Lib.hid h1
 clear h1
 go_wp2_with fail
 refine (HU.out _).mono ?_
 rintro _ w2 ⟨A, c, rfl, h2, h3, h4⟩
 have B2 := Lib.hid (below_step B1.out h4)
 obtain ⟨b, o, rfl, hb, hc⟩ := h2.1.2 (by omega)
 have x8 : w2.cell? ⟨b, o + 8, none⟩ = some (.int .u8 44) := hc 8 (by omega)
 have x9 : w2.cell? ⟨b, o + 9, none⟩ = some (.int .u8 1) := hc 9 (by omega)
 clear h2 h3 h4 hc hb HP HU B1
 go_wp2
 go_ret
 exact ⟨rfl, B2.out⟩
end Go.Proofs.YtmbgoopkpfhamaaGreat
