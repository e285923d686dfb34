/-
  fresh; interrupt, lose of a chip for which nothing waits; Do.
-/
import Derived.Deep.MidRow
import Derived.Test.YtmbgoopkpfhamaaGreatIdentChecksJ10
import Derived.Test.YtmbgoopkpfhamaaGreatIdentChecksJErased
import Derived.Test.YtmbgoopkpfhamaaGreatIdentChecksJ8
namespace Go.Proofs.YtmbgoopkpfhamaaGreat
open Go.RowKit
set_option maxRecDepth 100000
def setList (cs : Array Value) : Nat → List Value → Array Value
 | _, [] => cs
 | o, v :: r => setList (cs.setIfInBounds o v) (o + 1) r
theorem CRow.setCells {u : TypeId} {p : Nat} : ∀ (vs : List Value) (o : Nat) {w : World} {cs : Array Value}, CRow w p u cs → CRow (w.setCells p o vs) p u (setList cs o vs)
 | [], _, _, _, h => h
 | v :: r, o, _, _, h => CRow.setCells r (o + 1) (h.setCell o v)
theorem CRow.there {w : World} {u : TypeId} {p : Nat} {cs : Array Value} (h : CRow w p u cs) (o n : Nat) (hn : o + n ≤ cs.size) : w.there p o n := fun j hj => by
 refine ⟨?_, h.frozen _⟩
 rw [h.cell]
 simp
 omega
theorem size_memory : (Tryz.prog.info? 69).map (·.size) = some 19 := by kernel_rfl
theorem size_work : (Tryz.prog.info? 63).map (·.size) = some 4 := by kernel_rfl
theorem size_background : (Tryz.prog.info? 67).map (·.size) = some 4 := by kernel_rfl
def mem19 (b n c : Nat) : Array Value := #[.int .i64 0, .slice none 0 0, .int .i64 0, .int .i64 0, .int .i64 0, .slice (some ⟨b, 0, none⟩) n c, .int .i64 0, .bool false, .int .i64 0, .slice none 0 0, .slice none 0 0, .int .i64 0, .slice none 0 0, .bool false, .int .i64 0, .slice none 0 0, .slice none 0 0, .bool false, .bool false]
set_option maxHeartbeats 2000000 in
theorem fresh_any (g : Gm) (n : Nat) (hg : g.raw = (n : Int)) (hn : n ≤ 8192) (w : World) : Calls Tryz.prog 21 #[g.val] w fun e w' =>
  ∃ b c cur u, e = .returned (.agg (mem19 b n c)) ∧ w.heap.size ≤ b ∧ CRow w' b u cur ∧ R8 w' (some ⟨b, 0, none⟩) n (List.replicate n 255) ∧ n ≤ c ∧ Below w.heap.size w w' := by
 have HE := Lib.hid (fun W => Erased_fresh g n hg hn W)
 clear hg hn
 have T0 := Lib.hid (CRow.new (w.alloc (.cells #[.int .i64 g.p, .int .i64 g.b, .int .i64 g.s, .int .i64 g.c, .int .i64 g.k, .int .i64 g.r, .int .i64 g.q] 23)) #[.int .i64 0, .slice none 0 0, .int .i64 0, .int .i64 0, .int .i64 0, .slice none 0 0, .int .i64 0, .bool false, .int .i64 0, .slice none 0 0, .slice none 0 0, .int .i64 0, .slice none 0 0, .bool false, .int .i64 0, .slice none 0 0, .slice none 0 0, .bool false, .bool false] 69)
 have B0 := Lib.hid ((below_new w (.cells #[.int .i64 g.p, .int .i64 g.b, .int .i64 g.s, .int .i64 g.c, .int .i64 g.k, .int .i64 g.r, .int .i64 g.q] 23)).alloc (by simp) (.cells #[.int .i64 0, .slice none 0 0, .int .i64 0, .int .i64 0, .int .i64 0, .slice none 0 0, .int .i64 0, .bool false, .int .i64 0, .slice none 0 0, .slice none 0 0, .int .i64 0, .slice none 0 0, .bool false, .int .i64 0, .slice none 0 0, .slice none 0 0, .bool false, .bool false] 69))
 obtain ⟨p, b, s, gc, k, r, q⟩ := g
 simp only [Gm.val] at HE T0 B0 ⊢
 go_enter Tryz.func21, Tryz.ntmps21
 go_wp2_with fail
 refine (HE.out _).mono ?_
 rintro _ w1 ⟨b1, c1, cur, u, rfl, hb, hk, hr, hc, hw⟩
 rw [List.length_replicate] at hr hc ⊢
 have B1 := Lib.hid (below_step B0.out hw)
 have T1 := Lib.hid (T0.out.below hw)
 have K1 := Lib.hid (show CRow w1 b1 u cur from hk)
 have R1 := Lib.hid hr
 have N1 := Lib.hid hb
 have T1 := Lib.hid (show CRow w1 (w.heap.size + 1) 69 #[.int .i64 0, .slice none 0 0, .int .i64 0, .int .i64 0, .int .i64 0, .slice none 0 0, .int .i64 0, .bool false, .int .i64 0, .slice none 0 0, .slice none 0 0, .int .i64 0, .slice none 0 0, .bool false, .int .i64 0, .slice none 0 0, .slice none 0 0, .bool false, .bool false] by simpa using T1.out)
 clear hw hk hr hb HE
 go_wp2_with (with_reducible refine (?_ : wpList _ _ _ ({ dst := _, op := Op.store 69 _ _, type := _, pos := _, after := _, guard := _ } :: _) _ _); refine wpList_store_at rfl 69 _ _ rfl 19 size_memory _ (w.heap.size + 1) ?hx rfl _ T1.out.row ?hn ?ho ?h1 ?_; (case hx => simp [Act.eval]); (case hn => simp); (case ho => simp); (case h1 => simp [Value.oneCell']))
 have T2 := Lib.hid (T1.out.set (mem19 b1 n c1))
 have K2 := Lib.hid (K1.out.other (g' := w.heap.size + 1) (cs' := mem19 b1 n c1) (by have := N1.out; simp at this; omega))
 have X2 := Lib.hid ((Btw.refl (I := fun j => j = w.heap.size + 1) w1).setRow (g := w.heap.size + 1) (cs := mem19 b1 n c1) rfl)
 have B2 := Lib.hid (B1.out.trans (X2.out.below (S := w.heap.size) (fun k h => by omega) B1.out.size))
 have R2 := Lib.hid (R1.out.btw X2.out (by have := N1.out; simp at this; omega))
 go_wp2
 refine bodyPost_ret (results_cell_row rfl _ _ (w.heap.size + 1) 69 _ (0, 0) _ rfl T2.out.row Tryz.underlying69 rfl size_memory) rfl ?_
 exact ⟨b1, c1, cur, u, rfl, by have := N1.out; simp at this; omega, K2.out, R2.out, hc, B2.out⟩
def Ch.calm (c : Ch) : Ch := { c with reads := false, prow := 0, progs := [], blocks := [], brow := 0, braw := [], there := false, polls := 0 }
def Cm.calm (m : Cm) : Cm := { m with aP := none, cP := 0, aE := none, cE := 0, aG := none, cG := 0, lP := [] }
def W4 : Array Value := #[.bool false, .int .i64 0, .slice none 0 0, .slice none 0 0]
def B4 : Array Value := #[.int .i64 0, .slice none 0 0, .bool false, .int .i64 0]
section
variable {w : World} {p : Nat} {g : Gm} {c : Ch} {m : Cm}
theorem calm_row (h : CRow w p 72 (chCells g c m)) : CRow ((w.setCells p 7 W4.toList).setCells p 11 B4.toList) p 72 (chCells g c.calm m.calm) := by
 have h1 := (h.setCells W4.toList 7).setCells B4.toList 11
 have e : setList (setList (chCells g c m) 7 W4.toList) 11 B4.toList = chCells g c.calm m.calm := by simp [setList, chCells, W4, B4, Ch.calm, Cm.calm]
 rw [e] at h1
 exact h1
end
section
variable {ρ ρ' : Nat → Nat} {I : Nat → Prop} {w w' : World} {p : Nat} {g : Gm} {s : Sc} {c : Ch} {m : Cm}
theorem Pt.more (h : Pt ρ w p g s c m) (hb : Below w.heap.size w w') (h1 : ∀ j, ρ j ≠ 0 → ρ' j = ρ j) (h2 : ∀ j, ρ' j ≠ 0 → ρ j ≠ 0 ∨ w.heap.size ≤ j) (h3 : ∀ j, ρ' j ≠ 0 → j < w'.heap.size) : Pt ρ' w' p g s c m :=
 h.turn (J := fun _ => False) (Btw.of_below hb) (fun _ h => h.elim) h1 h2 h3
theorem Pt.more1 (h : Pt ρ w p g s c m) (hb : Below w.heap.size w w') (b r : Nat) (hn : w.heap.size ≤ b) (hl : b < w'.heap.size) : Pt (role1 ρ b r) w' p g s c m := by
 refine h.more hb (fun j hj => ?_) (fun j hj => ?_) fun j hj => ?_
 ·
  have := h.lt j hj
  exact if_neg (by omega)
 ·
  by_cases e : j = b
  ·
   exact .inr (by omega)
  ·
   exact .inl (by rwa [role1, if_neg e] at hj)
 ·
  by_cases e : j = b
  ·
   omega
  ·
   rw [role1, if_neg e] at hj
   exact Nat.lt_of_lt_of_le (h.lt j hj) hb.size
def Ch.lost (c : Ch) (N : Nat) : Ch := { state := 0, listed := [], said := 0, rung := 0, col := 0, reg := List.replicate N 255, busy := 0, reads := false, prow := 0, progs := [], blocks := [], brow := 0, braw := [], there := false, polls := 0, queued := [], qblocks := [], fail := false, prev := false, on := false, cut := -1, cycles := c.cycles, arr := c.arr, bz := c.bz, wk := c.wk }
def Cm.lost (m : Cm) (b n : Nat) : Cm := { m with aL := none, cL := 0, aR := some ⟨b, 0, none⟩, cR := n, aP := none, cP := 0, aE := none, cE := 0, aG := none, cG := 0, aQ := none, cQ := 0, aB := none, cB := 0, lQ := [], lP := [] }
theorem Pt.lost (h : Pt ρ w p g s c m) (hb : Below w.heap.size w w') (b n : Nat) (cur : Array Value) (u : TypeId) (hn : w.heap.size ≤ b) (hk : CRow w' b u cur) (hr : R8 w' (some ⟨b, 0, none⟩) g.raw.toNat (List.replicate g.raw.toNat 255)) :
  Pt (role1 ρ b 7) w' p g s (c.lost g.raw.toNat) (m.lost b n) := by
 have hq := h.more1 hb b 7 hn hk.lt
 exact { hq with
  lis := ⟨rfl, .inl ⟨rfl, rfl⟩⟩
  rl := fun k hk => by cases hk
  l8 := fun x hx => by cases hx
  reg := ⟨b, cur, u, rfl, if_pos rfl, hk, by show R8 w' _ (List.replicate _ _).length _; rw [List.length_replicate]; exact hr⟩
  regn := List.length_replicate
  que := ⟨rfl, .inl ⟨rfl, rfl⟩⟩
  qy := rfl
  rq := fun k hk => by cases hk
  qbl := ⟨rfl, .inl ⟨rfl, rfl⟩⟩
  rb := fun k hk => by cases hk
  pro := ⟨rfl, .inl ⟨rfl, rfl⟩⟩
  py := rfl
  rpr := fun k hk => by cases hk
  blk := ⟨rfl, .inl ⟨rfl, rfl⟩⟩
  rbl := fun k hk => by cases hk
  raws := fun x hx => by cases hx
  bgr := ⟨Rd.nil_, by simp [Ch.lost]⟩
  rg := fun _ _ e => by cases e }
end
end Go.Proofs.YtmbgoopkpfhamaaGreat
