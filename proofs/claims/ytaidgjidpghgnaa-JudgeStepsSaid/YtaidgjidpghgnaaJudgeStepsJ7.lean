/-
  Words for memory: the landed code's judge. Rows of other types lie elsewhere; the three rows of numbers are apart.
-/
import Derived.Maps.AppendAt
import Derived.Test.YtaidgjidpghgnaaJudgeStepsJ5
import Derived.Test.YtaidgjidpghgnaaJudgeStepsJ6
namespace Go.Proofs.Ytaidgjidpghgnaa
open Go.RowKit
set_option maxRecDepth 100000

/-- A judge: what is open (asleep 0, free 1, id 2, parameters 3, feature 4, fetch 5, out 6, move 7, load 8, erase 9), and what is known of blocks and rows. -/
structure Jd where
 op : Nat
 listed : List Nat
 count : Nat
 busy : Bool
 pol : Bool
 bg : Bool
 bgb : Nat
 data : Bool
 col : Nat
 rows : List Nat
 blocks : List Nat
 erases : List Nat
 er : Nat → Bool
 la : Nat → Int
 pr : Nat → Nat
 rej : Bool
/-- Where a judge's rows lie. -/
structure Jm where
 aL : Option Addr
 cL : Nat
 aR : Option Addr
 cR : Nat
 aB : Option Addr
 cB : Nat
 aE : Option Addr
 cE : Nat
 r : Nat
def JI (l : List Nat) : List Int := l.map Int.ofNat
theorem JI_push (l : List Nat) (x : Nat) : JI (l ++ [x]) = JI l ++ [(x : Int)] := by simp [JI]
theorem JI_length (l : List Nat) : (JI l).length = l.length := by simp [JI]
def jCells (g : Gm) (j : Jd) (m : Jm) : Array Value :=
 #[.int .i64 (j.op : Int), .slice m.aL j.listed.length m.cL, .int .i64 (j.count : Int), .bool j.busy, .bool j.pol, .bool j.bg, .int .i64 (j.bgb : Int), .bool j.data, .int .i64 (j.col : Int),
  .slice m.aR j.rows.length m.cR, .slice m.aB j.blocks.length m.cB, .slice m.aE j.erases.length m.cE, .int .i64 g.p, .int .i64 g.b, .int .i64 g.s, .int .i64 g.c, .int .i64 g.k, .int .i64 g.r, .int .i64 g.q,
  .slice (some ⟨m.r, 0, none⟩) g.b.toNat g.b.toNat, .bool j.rej]
/-- A cell of a block's record. -/
def recV (j : Jd) (S b o : Nat) : Value := if o = 0 then .bool (j.er b) else if o = 1 then .int .i64 (j.la b) else if o - 2 < S then .int .i64 (j.pr (b * S + (o - 2)) : Int) else .int .i64 0
def recF (g : Gm) (j : Jd) (i : Nat) : Option Value := if i / 66 < g.b.toNat then some (recV j g.s.toNat (i / 66) (i % 66)) else none
/-- Everything of a judge but its own cells. -/
structure Jr (I : Nat → Prop) (w : World) (p : Nat) (g : Gm) (j : Jd) (m : Jm) : Prop where
 ok : g.ok = true
 rcs : Cells w m.r 55 (recF g j)
 lis : w.ownsRow 0 5 1 (.slice m.aL j.listed.length m.cL) j.listed.length (U8 j.listed)
 l8 : ∀ x ∈ j.listed, x < 256
 row : w.ownsRow 0 3 1 (.slice m.aR j.rows.length m.cR) j.rows.length (I64 (JI j.rows))
 blk : w.ownsRow 0 3 1 (.slice m.aB j.blocks.length m.cB) j.blocks.length (I64 (JI j.blocks))
 ers : w.ownsRow 0 3 1 (.slice m.aE j.erases.length m.cE) j.erases.length (I64 (JI j.erases))
 ab : ∀ k, (Value.slice m.aR j.rows.length m.cR).ownBlock = some k → ¬ (Value.slice m.aB j.blocks.length m.cB).ownBlock = some k
 ae : ∀ k, (Value.slice m.aR j.rows.length m.cR).ownBlock = some k → ¬ (Value.slice m.aE j.erases.length m.cE).ownBlock = some k
 be : ∀ k, (Value.slice m.aB j.blocks.length m.cB).ownBlock = some k → ¬ (Value.slice m.aE j.erases.length m.cE).ownBlock = some k
 ip : I p
 ir : I m.r
 iL : ∀ k, (Value.slice m.aL j.listed.length m.cL).ownBlock = some k → I k
 iR : ∀ k, (Value.slice m.aR j.rows.length m.cR).ownBlock = some k → I k
 iB : ∀ k, (Value.slice m.aB j.blocks.length m.cB).ownBlock = some k → I k
 iE : ∀ k, (Value.slice m.aE j.erases.length m.cE).ownBlock = some k → I k
 new : ∀ k, w.heap.size ≤ k → I k
section
variable {I K : Nat → Prop} {w w' : World} {p : Nat} {g : Gm} {j j' : Jd} {m m' : Jm}
theorem Jr.btw (h : Jr I w p g j m) (hb : Btw K w w') (hr : ¬ K m.r) (hL : ∀ k, (Value.slice m.aL j.listed.length m.cL).ownBlock = some k → ¬ K k) (hR : ∀ k, (Value.slice m.aR j.rows.length m.cR).ownBlock = some k → ¬ K k)
  (hB : ∀ k, (Value.slice m.aB j.blocks.length m.cB).ownBlock = some k → ¬ K k) (hE : ∀ k, (Value.slice m.aE j.erases.length m.cE).ownBlock = some k → ¬ K k) : Jr I w' p g j m :=
 {
  h with
  rcs := h.rcs.btw hb hr
  lis := own_btw1 h.lis hb hL
  row := own_btw1 h.row hb hR
  blk := own_btw1 h.blk hb hB
  ers := own_btw1 h.ers hb hE
  new := fun k hk => h.new k (Nat.le_trans hb.size hk) }
theorem Jr.below (h : Jr I w p g j m) (hb : Below w.heap.size w w') : Jr I w' p g j m :=
 h.btw (K := fun _ => False) (Btw.of_below hb) (fun h => h) (fun _ _ h => h) (fun _ _ h => h) (fun _ _ h => h) (fun _ _ h => h)
/-- The judge's own cells lie elsewhere than its rows. -/
theorem Jr.apart_p {cs : Array Value} (h : Jr I w p g j m) (hc : CRow w p 52 cs) : m.r ≠ p ∧ (∀ k, (Value.slice m.aL j.listed.length m.cL).ownBlock = some k → k ≠ p) ∧ (∀ k, (Value.slice m.aR j.rows.length m.cR).ownBlock = some k → k ≠ p) ∧
  (∀ k, (Value.slice m.aB j.blocks.length m.cB).ownBlock = some k → k ≠ p) ∧ (∀ k, (Value.slice m.aE j.erases.length m.cE).ownBlock = some k → k ≠ p) :=
 ⟨h.rcs.ne (Cells.of_row hc) (by decide), own_ne h.lis hc (by decide), own_ne h.row hc (by decide), own_ne h.blk hc (by decide), own_ne h.ers hc (by decide)⟩
theorem Jr.apart_r (h : Jr I w p g j m) : (∀ k, (Value.slice m.aL j.listed.length m.cL).ownBlock = some k → k ≠ m.r) ∧ (∀ k, (Value.slice m.aR j.rows.length m.cR).ownBlock = some k → k ≠ m.r) ∧
  (∀ k, (Value.slice m.aB j.blocks.length m.cB).ownBlock = some k → k ≠ m.r) ∧ (∀ k, (Value.slice m.aE j.erases.length m.cE).ownBlock = some k → k ≠ m.r) := by
 obtain ⟨cur, hc, _⟩ := h.rcs
 exact ⟨own_ne h.lis hc (by decide), own_ne h.row hc (by decide), own_ne h.blk hc (by decide), own_ne h.ers hc (by decide)⟩
theorem Jr.apart_L (h : Jr I w p g j m) : (∀ k, (Value.slice m.aL j.listed.length m.cL).ownBlock = some k → ¬ (Value.slice m.aR j.rows.length m.cR).ownBlock = some k) ∧ (∀ k, (Value.slice m.aL j.listed.length m.cL).ownBlock = some k → ¬ (Value.slice m.aB j.blocks.length m.cB).ownBlock = some k) ∧
  (∀ k, (Value.slice m.aL j.listed.length m.cL).ownBlock = some k → ¬ (Value.slice m.aE j.erases.length m.cE).ownBlock = some k) :=
 ⟨own_ne2 h.lis h.row (by decide), own_ne2 h.lis h.blk (by decide), own_ne2 h.lis h.ers (by decide)⟩
/-- A judge at p; the blocks of I are its own, and all new ones. -/
def JH (I : Nat → Prop) (w : World) (p : Nat) (g : Gm) (j : Jd) : Prop := ∃ m, CRow w p 52 (jCells g j m) ∧ Jr I w p g j m
theorem JH.below (h : JH I w p g j) (hb : Below w.heap.size w w') : JH I w' p g j := by
 obtain ⟨m, hc, hr⟩ := h
 exact ⟨m, hc.below hb, hr.below hb⟩
theorem JH.lt (h : JH I w p g j) : p < w.heap.size := by
 obtain ⟨_, hc, _⟩ := h
 exact hc.lt
theorem JH.ok (h : JH I w p g j) : g.ok = true := by
 obtain ⟨_, _, hr⟩ := h
 exact hr.ok
/-- Another turned its own blocks; the blocks that came meanwhile are another's. -/
theorem JH.away (h : JH I w p g j) (hb : Btw K w w') (hK : ∀ k, K k → ¬ I k) : JH (fun k => I k ∧ (k < w.heap.size ∨ w'.heap.size ≤ k)) w' p g j := by
 obtain ⟨m, hc, hr⟩ := h
 have h1 := hr.btw hb (fun e => hK _ e hr.ir) (fun k hk e => hK _ e (hr.iL k hk)) (fun k hk e => hK _ e (hr.iR k hk)) (fun k hk e => hK _ e (hr.iB k hk)) (fun k hk e => hK _ e (hr.iE k hk))
 exact ⟨m, hc.btw hb fun e => hK _ e hr.ip, { h1 with
  ip := ⟨hr.ip, .inl hc.lt⟩
  ir := ⟨hr.ir, .inl hr.rcs.lt⟩
  iL := fun k hk => ⟨hr.iL k hk, .inl (own_low hr.lis k hk).2⟩
  iR := fun k hk => ⟨hr.iR k hk, .inl (own_low hr.row k hk).2⟩
  iB := fun k hk => ⟨hr.iB k hk, .inl (own_low hr.blk k hk).2⟩
  iE := fun k hk => ⟨hr.iE k hk, .inl (own_low hr.ers k hk).2⟩
  new := fun k hk => ⟨hr.new k (Nat.le_trans hb.size hk), .inr hk⟩ }⟩
theorem JH.shrink (h : JH I w p g j) (hb : Below w.heap.size w w') : JH (fun k => I k ∧ (k < w.heap.size ∨ w'.heap.size ≤ k)) w' p g j :=
 h.away (K := fun _ => False) (Btw.of_below hb) fun _ h => h.elim
/-- Cells of its own alone were stored. -/
theorem JH.of {cs : Array Value} (hc0 : CRow w p 52 cs) (hr : Jr I w p g j m) (hc : CRow w' p 52 (jCells g j' m')) (hb : Btw (fun k => k = p) w w')
  (hk : ∀ W, Jr I W p g j m → Jr I W p g j' m') : JH I w' p g j' ∧ Btw I w w' := by
 have a := hr.apart_p hc0
 exact ⟨⟨m', hc, hk _ (hr.btw hb a.1 a.2.1 a.2.2.1 a.2.2.2.1 a.2.2.2.2)⟩, (Btw.refl w).trans hb fun k _ e => by rw [e]; exact hr.ip⟩
/-- Cells of the records alone were stored. -/
theorem JH.recs {er : Nat → Bool} {la : Nat → Int} {pr : Nat → Nat} (hc : CRow w p 52 (jCells g j m)) (hr : Jr I w p g j m) (hb : Btw (fun k => k = m.r) w w')
  (hrec : Cells w' m.r 55 (recF g { j with er := er, la := la, pr := pr })) : CRow w' p 52 (jCells g { j with er := er, la := la, pr := pr } m) ∧ Jr I w' p g { j with er := er, la := la, pr := pr } m ∧ Btw I w w' := by
 have a := hr.apart_r
 have b := hr.apart_p hc
 exact ⟨hc.btw hb (fun e => b.1 e.symm), { hr with
  rcs := hrec
  lis := own_btw1 hr.lis hb a.1
  row := own_btw1 hr.row hb a.2.1
  blk := own_btw1 hr.blk hb a.2.2.1
  ers := own_btw1 hr.ers hb a.2.2.2
  new := fun k hk => hr.new k (Nat.le_trans hb.size hk) }, (Btw.refl w).trans hb fun k _ e => by rw [e]; exact hr.ir⟩
/-- A byte was appended to what is listed. -/
theorem Jr.pushL {w1 w3 : World} {o : Obj} {A3 : Option Addr} {c3 : Nat} (b : Nat) (hb8 : b < 256) (hc : CRow w1 p 52 (jCells g j m)) (hr : Jr I w1 p g j m)
  (hown : w3.ownsRow 0 5 1 (.slice A3 (j.listed.length + 1) c3) (j.listed.length + 1) (U8 (j.listed ++ [b])))
  (hg : (w1.alloc o).grownBy w3 (Value.slice m.aL j.listed.length m.cL).ownBlock)
  (hwh : (Value.slice A3 (j.listed.length + 1) c3).ownBlock = (Value.slice m.aL j.listed.length m.cL).ownBlock ∨ (Value.slice A3 (j.listed.length + 1) c3).ownBlock = some (w1.heap.size + 1)) :
  CRow w3 p 52 (jCells g j m) ∧ Jr I w3 p g { j with listed := j.listed ++ [b] } { m with aL := A3, cL := c3 } ∧ Btw I w1 w3 := by
 have hB0 : Btw (fun k => (Value.slice m.aL j.listed.length m.cL).ownBlock = some k) (w1.alloc o) w3 := Btw.of_grown hg (fun _ h => h)
 have hB1 : Btw (fun k => (Value.slice m.aL j.listed.length m.cL).ownBlock = some k) w1 w3 := (Btw.of_below (below_new w1 o)).trans hB0 fun _ _ h => h
 have a := hr.apart_L
 have b1 := hr.apart_p hc
 have c := hr.apart_r
 refine ⟨hc.btw hB1 (fun e => b1.2.1 _ e rfl), { hr with
  rcs := hr.rcs.btw hB1 (fun e => c.1 _ e rfl)
  lis := by simpa using hown
  l8 := fun x hx => by
   rcases List.mem_append.1 hx with h | h
   ·
    exact hr.l8 x h
   ·
    rw [List.mem_singleton.1 h]; exact hb8
  row := own_btw1 hr.row hB1 (fun k hk e => a.1 k e hk)
  blk := own_btw1 hr.blk hB1 (fun k hk e => a.2.1 k e hk)
  ers := own_btw1 hr.ers hB1 (fun k hk e => a.2.2 k e hk)
  iL := fun k hk => ?_
  new := fun k hk => hr.new k (Nat.le_trans hB1.size hk) }, (Btw.refl w1).trans hB1 fun k _ e => hr.iL k e⟩
 have hk : (Value.slice A3 (j.listed.length + 1) c3).ownBlock = some k := by simpa using hk
 rcases hwh with e | e
 ·
  exact hr.iL k (e ▸ hk)
 ·
  rw [e] at hk
  injection hk with hk
  exact hr.new k (by omega)
/-- A number was appended to the rows. -/
theorem Jr.pushR {w1 w3 : World} {o : Obj} {A3 : Option Addr} {c3 : Nat} (x : Nat) (hc : CRow w1 p 52 (jCells g j m)) (hr : Jr I w1 p g j m)
  (hown : w3.ownsRow 0 3 1 (.slice A3 (j.rows.length + 1) c3) (j.rows.length + 1) (I64 (JI j.rows ++ [(x : Int)])))
  (hg : (w1.alloc o).grownBy w3 (Value.slice m.aR j.rows.length m.cR).ownBlock)
  (hwh : (Value.slice A3 (j.rows.length + 1) c3).ownBlock = (Value.slice m.aR j.rows.length m.cR).ownBlock ∨ (Value.slice A3 (j.rows.length + 1) c3).ownBlock = some (w1.heap.size + 1)) :
  CRow w3 p 52 (jCells g j m) ∧ Jr I w3 p g { j with rows := j.rows ++ [x] } { m with aR := A3, cR := c3 } ∧ Btw I w1 w3 := by
 have hB0 : Btw (fun k => (Value.slice m.aR j.rows.length m.cR).ownBlock = some k) (w1.alloc o) w3 := Btw.of_grown hg (fun _ h => h)
 have hB1 : Btw (fun k => (Value.slice m.aR j.rows.length m.cR).ownBlock = some k) w1 w3 := (Btw.of_below (below_new w1 o)).trans hB0 fun _ _ h => h
 have a := hr.apart_L
 have b1 := hr.apart_p hc
 have c := hr.apart_r
 have K : ∀ k, (Value.slice A3 (j.rows ++ [x]).length c3).ownBlock = some k → (Value.slice m.aR j.rows.length m.cR).ownBlock = some k ∨ k = w1.heap.size + 1 := fun k hk => by
  rw [List.length_append] at hk
  rcases hwh with e | e
  ·
   exact .inl (e ▸ hk)
  ·
   have hk2 : (Value.slice A3 (j.rows.length + 1) c3).ownBlock = some k := hk
   rw [e] at hk2
   injection hk2 with hk2
   exact .inr hk2.symm
 exact ⟨hc.btw hB1 (fun e => b1.2.2.1 _ e rfl), { hr with
  rcs := hr.rcs.btw hB1 (fun e => c.2.1 _ e rfl)
  lis := own_btw1 hr.lis hB1 (fun k hk e => a.1 k hk e)
  row := by simpa [JI_push] using hown
  blk := own_btw1 hr.blk hB1 (fun k hk e => hr.ab k e hk)
  ers := own_btw1 hr.ers hB1 (fun k hk e => hr.ae k e hk)
  ab := fun k hk e => by
   rcases K k hk with h | h
   ·
    exact hr.ab k h e
   ·
    have := (own_low hr.blk k e).2; omega
  ae := fun k hk e => by
   rcases K k hk with h | h
   ·
    exact hr.ae k h e
   ·
    have := (own_low hr.ers k e).2; omega
  iR := fun k hk => by
   rcases K k hk with h | h
   ·
    exact hr.iR k h
   ·
    exact hr.new k (by omega)
  new := fun k hk => hr.new k (Nat.le_trans hB1.size hk) }, (Btw.refl w1).trans hB1 fun k _ e => hr.iR k e⟩
/-- A number was appended to the blocks. -/
theorem Jr.pushB {w1 w3 : World} {o : Obj} {A3 : Option Addr} {c3 : Nat} (x : Nat) (hc : CRow w1 p 52 (jCells g j m)) (hr : Jr I w1 p g j m)
  (hown : w3.ownsRow 0 3 1 (.slice A3 (j.blocks.length + 1) c3) (j.blocks.length + 1) (I64 (JI j.blocks ++ [(x : Int)])))
  (hg : (w1.alloc o).grownBy w3 (Value.slice m.aB j.blocks.length m.cB).ownBlock)
  (hwh : (Value.slice A3 (j.blocks.length + 1) c3).ownBlock = (Value.slice m.aB j.blocks.length m.cB).ownBlock ∨ (Value.slice A3 (j.blocks.length + 1) c3).ownBlock = some (w1.heap.size + 1)) :
  CRow w3 p 52 (jCells g j m) ∧ Jr I w3 p g { j with blocks := j.blocks ++ [x] } { m with aB := A3, cB := c3 } ∧ Btw I w1 w3 := by
 have hB0 : Btw (fun k => (Value.slice m.aB j.blocks.length m.cB).ownBlock = some k) (w1.alloc o) w3 := Btw.of_grown hg (fun _ h => h)
 have hB1 : Btw (fun k => (Value.slice m.aB j.blocks.length m.cB).ownBlock = some k) w1 w3 := (Btw.of_below (below_new w1 o)).trans hB0 fun _ _ h => h
 have a := hr.apart_L
 have b1 := hr.apart_p hc
 have c := hr.apart_r
 have K : ∀ k, (Value.slice A3 (j.blocks ++ [x]).length c3).ownBlock = some k → (Value.slice m.aB j.blocks.length m.cB).ownBlock = some k ∨ k = w1.heap.size + 1 := fun k hk => by
  rw [List.length_append] at hk
  rcases hwh with e | e
  ·
   exact .inl (e ▸ hk)
  ·
   have hk2 : (Value.slice A3 (j.blocks.length + 1) c3).ownBlock = some k := hk
   rw [e] at hk2
   injection hk2 with hk2
   exact .inr hk2.symm
 exact ⟨hc.btw hB1 (fun e => b1.2.2.2.1 _ e rfl), { hr with
  rcs := hr.rcs.btw hB1 (fun e => c.2.2.1 _ e rfl)
  lis := own_btw1 hr.lis hB1 (fun k hk e => a.2.1 k hk e)
  row := own_btw1 hr.row hB1 (fun k hk e => hr.ab k hk e)
  blk := by simpa [JI_push] using hown
  ers := own_btw1 hr.ers hB1 (fun k hk e => hr.be k e hk)
  ab := fun k hk e => by
   rcases K k e with h | h
   ·
    exact hr.ab k hk h
   ·
    have := (own_low hr.row k hk).2; omega
  be := fun k hk e => by
   rcases K k hk with h | h
   ·
    exact hr.be k h e
   ·
    have := (own_low hr.ers k e).2; omega
  iB := fun k hk => by
   rcases K k hk with h | h
   ·
    exact hr.iB k h
   ·
    exact hr.new k (by omega)
  new := fun k hk => hr.new k (Nat.le_trans hB1.size hk) }, (Btw.refl w1).trans hB1 fun k _ e => hr.iB k e⟩
/-- v is returned, and the judge is as j' tells. -/
def ActsJ (I : Nat → Prop) (p : Nat) (g : Gm) (v : Value) (j' : Jd) (w : World) (e : Ending) (w' : World) : Prop := e = .returned v ∧ JH I w' p g j' ∧ Btw I w w'
theorem rec_at {b : Nat} (o : Nat) (hb : b < g.b.toNat) (ho : o < 66) : recF g j (b * 66 + o) = some (recV j g.s.toNat b o) := by
 unfold recF
 rw [show (b * 66 + o) / 66 = b by omega, show (b * 66 + o) % 66 = o by omega, if_pos hb]
theorem rec_er {b : Nat} (hb : b < g.b.toNat) : recF g j (b * 66) = some (.bool (j.er b)) := by
 have h := rec_at (g := g) (j := j) 0 hb (by omega)
 rw [Nat.add_zero] at h
 rw [h]
 unfold recV
 rw [if_pos rfl]
theorem rec_la {b : Nat} (hb : b < g.b.toNat) : recF g j (b * 66 + 1) = some (.int .i64 (j.la b)) := by
 rw [rec_at 1 hb (by omega)]
 unfold recV
 rw [if_neg (by omega), if_pos rfl]
theorem rec_pr {b q : Nat} (hb : b < g.b.toNat) (hq : q < g.s.toNat) (hs : g.s.toNat ≤ 64) : recF g j (b * 66 + (2 + q)) = some (.int .i64 (j.pr (b * g.s.toNat + q) : Int)) := by
 rw [rec_at (2 + q) hb (by omega)]
 unfold recV
 rw [if_neg (by omega), if_neg (by omega), if_pos (by omega), show 2 + q - 2 = q by omega]
end
end Go.Proofs.Ytaidgjidpghgnaa

/-
  The judge's made, enter, start, isCommand, opened, mayOpen, Busy, lists.
-/
namespace Go.Proofs.Ytaidgjidpghgnaa
open Go.RowKit
set_option maxRecDepth 100000

section
variable {I K : Nat → Prop} {w w' : World} {p : Nat} {g : Gm} {j : Jd} {m : Jm}
theorem jmade_row (h : CRow w p 52 (jCells g j m)) : Calls Try.prog 22 #[.pointer (some ⟨p, 0, none⟩)] w (Gives (.bool true) w) := by
 have C0 := Lib.hid h
 have x19 := C0.out.cell_at 19 (.slice (some ⟨m.r, 0, none⟩) g.b.toNat g.b.toNat) rfl
 clear h C0
 go_enter Try.func22, Try.ntmps22
 go_wp2
 go_ret
 exact ⟨rfl, Below.refl _ _⟩
def Jd.enter (j : Jd) (n : Nat) : Jd := { j with op := n, listed := [], count := 0 }
def Jm.enter (m : Jm) : Jm := { m with aL := none, cL := 0 }
theorem Jr.noL (h : Jr I w p g j m) (n : Nat) : Jr I w p g (j.enter n) m.enter :=
 {
  h with
  lis := ⟨rfl, .inl ⟨rfl, rfl⟩⟩
  l8 := fun x hx => by cases hx
  iL := fun k hk => by cases hk }
set_option maxHeartbeats 1000000 in
theorem jenter (n : Nat) (h : JH I w p g j) : Calls Try.prog 39 #[.pointer (some ⟨p, 0, none⟩), .int .i64 (n : Int)] w (ActsJ I p g (.tuple #[]) (j.enter n) w) := by
 obtain ⟨m, hc, hr⟩ := h
 have C0 := Lib.hid hc
 have R0 := Lib.hid hr
 clear hc hr
 have x0 := C0.out.cell_at 0 (.int .i64 (j.op : Int)) rfl
 have f0 := C0.out.frozen 0
 have S1 := Lib.hid (C0.out.setCell 0 (.int .i64 (n : Int)))
 have K1 := Lib.hid (((Btw.refl w)).setCell (I := fun k => k = p) (p := ⟨p, 0, none⟩) (v := .int .i64 (n : Int)) rfl)
 have x1 := S1.out.cell_at 1 (.slice m.aL j.listed.length m.cL) rfl
 have f1 := S1.out.frozen 1
 have S2 := Lib.hid (S1.out.setCell 1 (.slice none 0 0))
 have K2 := Lib.hid ((K1.out).setCell (I := fun k => k = p) (p := ⟨p, 1, none⟩) (v := .slice none 0 0) rfl)
 have x2 := S2.out.cell_at 2 (.int .i64 (j.count : Int)) rfl
 have f2 := S2.out.frozen 2
 have S3 := Lib.hid (S2.out.setCell 2 (.int .i64 0))
 have K3 := Lib.hid ((K2.out).setCell (I := fun k => k = p) (p := ⟨p, 2, none⟩) (v := .int .i64 0) rfl)
 go_enter Try.func39, Try.ntmps39
 go_wp2
 go_end0
 have H := JH.of (j' := j.enter n) (m' := m.enter) C0.out R0.out S3.out K3.out fun W h => h.noL n
 exact ⟨rfl, H.1, H.2⟩
def Jd.start (j : Jd) : Jd := { j.enter 1 with busy := true }
theorem jstart (h : JH I w p g j) : Calls Try.prog 38 #[.pointer (some ⟨p, 0, none⟩)] w (ActsJ I p g (.tuple #[]) j.start w) := by
 have HE := Lib.hid (jenter 1 h)
 clear h
 go_enter Try.func38, Try.ntmps38
 go_wp2_with fail
 refine HE.out.mono ?_
 rintro _ w1 ⟨rfl, h1, b1⟩
 obtain ⟨m, hc, hr⟩ := h1
 have C1 := Lib.hid hc
 have R1 := Lib.hid hr
 have B1 := Lib.hid b1
 clear hc hr b1 HE
 have x3 := C1.out.cell_at 3 (.bool (j.enter 1).busy) rfl
 have f3 := C1.out.frozen 3
 have S1 := Lib.hid (C1.out.setCell 3 (.bool true))
 have K1 := Lib.hid (((Btw.refl w1)).setCell (I := fun k => k = p) (p := ⟨p, 3, none⟩) (v := .bool true) rfl)
 go_wp2
 go_end0
 have H := JH.of (j' := j.start) (m' := m) C1.out R1.out S1.out K1.out fun W h => { h with }
 exact ⟨rfl, H.1, B1.out.trans H.2 fun _ _ h => h⟩
theorem jBusy (h : JH I w p g j) : Calls Try.prog 14 #[.pointer (some ⟨p, 0, none⟩)] w (Gives (.bool j.busy) w) := by
 obtain ⟨m, hc, hr⟩ := h
 have C0 := Lib.hid hc
 clear hc hr
 go_enter Try.func14, Try.ntmps14
 go_wp2_with fail
 refine (jmade_row C0.out).mono ?_
 rintro _ w1 ⟨rfl, h1⟩
 have C1 := Lib.hid (C0.out.below h1)
 have B1 := Lib.hid h1
 clear h1 C0
 have x3 := C1.out.cell_at 3 (.bool j.busy) rfl
 go_wp2
 go_ret
 exact ⟨rfl, B1.out⟩
theorem isCommand_any (k b c : Int) (w : World) : Calls Try.prog 26 #[.agg #[.int .i64 k, .int .u8 b], .int .u8 c] w (Gives (.bool (decide (k = 1 ∧ b = c))) w) := by
 have B0 := Lib.hid (below_new w (.cells #[.int .i64 k, .int .u8 b] 36))
 by_cases h1 : k = 1
 ·
  subst h1
  by_cases h2 : b = c
  ·
   subst h2
   rw [decide_eq_true ⟨rfl, rfl⟩]
   go_enter Try.func26, Try.ntmps26
   go_wp2
   go_ret
   exact ⟨by simp, B0.out⟩
  ·
   rw [decide_eq_false (fun h => h2 h.2)]
   have e1 : (b == c) = false := by rw [beq_eq_false_iff_ne]; exact h2
   have e2 : decide (b = c) = false := decide_eq_false h2
   go_enter Try.func26, Try.ntmps26
   go_wp2
   go_ret
   exact ⟨by simp, B0.out⟩
 ·
  rw [decide_eq_false (fun h => h1 h.1)]
  have e1 : (k == 1) = false := by rw [beq_eq_false_iff_ne]; exact h1
  have e2 : decide (k = 1) = false := decide_eq_false h1
  go_enter Try.func26, Try.ntmps26
  go_wp2
  go_ret
  exact ⟨rfl, B0.out⟩
/-- The operation that a command opens; 0 if it opens none. -/
def jopen (b : Nat) : Nat := if b = 144 then 2 else if b = 236 then 3 else if b = 239 then 4 else if b = 0 then 5 else if b = 5 then 7 else if b = 128 then 8 else if b = 96 then 9 else 0
set_option maxHeartbeats 4000000 in
theorem jopened (b : Nat) (hb : b < 256) (w : World) : Calls Try.prog 67 #[.int .u8 (b : Int)] w (Gives (.tuple #[.int .i64 (jopen b : Int), .bool (decide (jopen b ≠ 0))]) w) := by
 by_cases h : b = 144 ∨ b = 236 ∨ b = 239 ∨ b = 0 ∨ b = 5 ∨ b = 128 ∨ b = 96
 ·
  rcases h with rfl | rfl | rfl | rfl | rfl | rfl | rfl <;> (go_enter Try.func67, Try.ntmps67; go_wp2; go_ret2; exact ⟨rfl, Below.refl _ _⟩)
 ·
  have e : jopen b = 0 := by unfold jopen; rw [if_neg (by omega)]; rw [if_neg (by omega)]; rw [if_neg (by omega)]; rw [if_neg (by omega)]; rw [if_neg (by omega)]; rw [if_neg (by omega)]; rw [if_neg (by omega)]
  rw [e]
  have b144 : ((b : Int) == 144) = false := by simp; omega
  have j144 : ((b : Int) = 144) = False := eq_false (by omega)
  have d144 : decide ((b : Int) = 144) = false := decide_eq_false (by omega)
  have b236 : ((b : Int) == 236) = false := by simp; omega
  have j236 : ((b : Int) = 236) = False := eq_false (by omega)
  have d236 : decide ((b : Int) = 236) = false := decide_eq_false (by omega)
  have b239 : ((b : Int) == 239) = false := by simp; omega
  have j239 : ((b : Int) = 239) = False := eq_false (by omega)
  have d239 : decide ((b : Int) = 239) = false := decide_eq_false (by omega)
  have b0 : ((b : Int) == 0) = false := by simp; omega
  have j0 : ((b : Int) = 0) = False := eq_false (by omega)
  have d0 : decide ((b : Int) = 0) = false := decide_eq_false (by omega)
  have b5 : ((b : Int) == 5) = false := by simp; omega
  have j5 : ((b : Int) = 5) = False := eq_false (by omega)
  have d5 : decide ((b : Int) = 5) = false := decide_eq_false (by omega)
  have b128 : ((b : Int) == 128) = false := by simp; omega
  have j128 : ((b : Int) = 128) = False := eq_false (by omega)
  have d128 : decide ((b : Int) = 128) = false := decide_eq_false (by omega)
  have b96 : ((b : Int) == 96) = false := by simp; omega
  have j96 : ((b : Int) = 96) = False := eq_false (by omega)
  have d96 : decide ((b : Int) = 96) = false := decide_eq_false (by omega)
  clear h e
  go_enter Try.func67, Try.ntmps67
  go_wp2
  go_ret2
  exact ⟨rfl, Below.refl _ _⟩
theorem jopen_le (b : Nat) : jopen b ≤ 9 := by
 unfold jopen
 repeat' split
 all_goals omega
/-- What goes on lets an operation be opened. -/
def Jd.may (j : Jd) (n : Nat) : Bool := if j.bg = true ∨ 0 < j.rows.length then decide (n = 8) else if 0 < j.blocks.length then decide (n = 9) else decide (n ≠ 7) || j.data
set_option maxHeartbeats 4000000 in
theorem jmay (n : Nat) (hn : n ≤ 9) (h : JH I w p g j) (hR : j.rows.length ≤ 100000) (hB : j.blocks.length ≤ 100000) : Calls Try.prog 68 #[.pointer (some ⟨p, 0, none⟩), .int .i64 (n : Int)] w (Gives (.bool (j.may n)) w) := by
 obtain ⟨m, hc, hr⟩ := h
 have C0 := Lib.hid hc
 clear hc hr
 have x5 := C0.out.cell_at 5 (.bool j.bg) rfl
 have x7 := C0.out.cell_at 7 (.bool j.data) rfl
 have x9 := C0.out.cell_at 9 (.slice m.aR j.rows.length m.cR) rfl
 have x10 := C0.out.cell_at 10 (.slice m.aB j.blocks.length m.cB) rfl
 clear C0
 unfold Jd.may
 generalize j.rows.length = R at *
 generalize j.blocks.length = B at *
 generalize j.bg = bg at *
 generalize j.data = da at *
 have hd : n = 0 ∨ n = 1 ∨ n = 2 ∨ n = 3 ∨ n = 4 ∨ n = 5 ∨ n = 6 ∨ n = 7 ∨ n = 8 ∨ n = 9 := by omega
 clear hn
 by_cases h1 : 0 < R
 ·
  have d1 : decide ((0 : Int) < (R : Int)) = true := decide_eq_true (by omega)
  have d2 : decide (0 < R) = true := decide_eq_true (by omega)
  rw [if_pos (.inr h1)]
  clear h1
  cases bg <;> rcases hd with rfl | rfl | rfl | rfl | rfl | rfl | rfl | rfl | rfl | rfl
  all_goals go_enter Try.func68, Try.ntmps68
  all_goals go_wp2
  all_goals go_ret
  all_goals exact ⟨rfl, Below.refl _ _⟩
 ·
  have d1 : decide ((0 : Int) < (R : Int)) = false := decide_eq_false (by omega)
  have d2 : decide (0 < R) = false := decide_eq_false (by omega)
  by_cases h2 : 0 < B
  ·
   have d3 : decide ((0 : Int) < (B : Int)) = true := decide_eq_true (by omega)
   have d4 : decide (0 < B) = true := decide_eq_true (by omega)
   cases bg
   ·
    rw [if_neg (by simp; omega), if_pos h2]
    clear h1 h2
    rcases hd with rfl | rfl | rfl | rfl | rfl | rfl | rfl | rfl | rfl | rfl
    all_goals go_enter Try.func68, Try.ntmps68
    all_goals go_wp2
    all_goals go_ret
    all_goals exact ⟨rfl, Below.refl _ _⟩
   ·
    rw [if_pos (.inl rfl)]
    clear h1 h2
    rcases hd with rfl | rfl | rfl | rfl | rfl | rfl | rfl | rfl | rfl | rfl
    all_goals go_enter Try.func68, Try.ntmps68
    all_goals go_wp2
    all_goals go_ret
    all_goals exact ⟨rfl, Below.refl _ _⟩
  ·
   have d3 : decide ((0 : Int) < (B : Int)) = false := decide_eq_false (by omega)
   have d4 : decide (0 < B) = false := decide_eq_false (by omega)
   cases bg
   ·
    rw [if_neg (by simp; omega), if_neg h2]
    clear h1 h2
    cases da <;> rcases hd with rfl | rfl | rfl | rfl | rfl | rfl | rfl | rfl | rfl | rfl
    all_goals go_enter Try.func68, Try.ntmps68
    all_goals go_wp2
    all_goals go_ret
    all_goals exact ⟨rfl, Below.refl _ _⟩
   ·
    rw [if_pos (.inl rfl)]
    clear h1 h2
    rcases hd with rfl | rfl | rfl | rfl | rfl | rfl | rfl | rfl | rfl | rfl
    all_goals go_enter Try.func68, Try.ntmps68
    all_goals go_wp2
    all_goals go_ret
    all_goals exact ⟨rfl, Below.refl _ _⟩
/-- Whether an Address may be listed. -/
def Jd.lists (j : Jd) (b : Nat) : Bool :=
 if j.op = 2 ∨ j.op = 3 then decide (b = 0) && decide (j.listed.length = 0)
 else if j.op = 4 then decide (b = 137) && decide (j.listed.length = 0)
 else if j.op = 5 ∨ j.op = 8 then decide (j.listed.length < 4)
 else if j.op = 7 ∨ j.op = 9 then decide (j.listed.length < 2)
 else false
theorem beq_zero (n : Nat) : ((n : Int) == 0) = decide (n = 0) := by rw [Bool.eq_iff_iff]; simp
set_option maxHeartbeats 4000000 in
theorem jlists (b : Nat) (hb8 : b < 256) (hst : j.op ≤ 9) (hl : j.listed.length ≤ 100) (h : JH I w p g j) : Calls Try.prog 57 #[.pointer (some ⟨p, 0, none⟩), .int .u8 (b : Int)] w (Gives (.bool (j.lists b)) w) := by
 obtain ⟨m, h, hr⟩ := h
 clear hr
 obtain ⟨n, hn⟩ : ∃ n, n = j.listed.length := ⟨_, rfl⟩
 have x1 : w.cell? ⟨p, 1, none⟩ = some (.slice m.aL n m.cL) := by rw [hn]; exact h.cell_at 1 _ rfl
 have x0 : w.cell? ⟨p, 0, none⟩ = some (.int .i64 (j.op : Int)) := h.cell_at 0 _ rfl
 rw [← hn] at hl
 have HL : j.lists b = (if j.op = 2 ∨ j.op = 3 then decide (b = 0) && decide (n = 0) else if j.op = 4 then decide (b = 137) && decide (n = 0) else if j.op = 5 ∨ j.op = 8 then decide (n < 4) else if j.op = 7 ∨ j.op = 9 then decide (n < 2) else false) := by rw [hn]; rfl
 rw [HL]
 clear HL hn h
 generalize j.op = t at *
 have e1 : decide ((n : Int) = 0) = decide (n = 0) := decide_eq_decide.2 (by omega)
 have e2 : decide ((n : Int) < 4) = decide (n < 4) := decide_eq_decide.2 (by omega)
 have e3 : decide ((n : Int) < 2) = decide (n < 2) := decide_eq_decide.2 (by omega)
 have e4 : decide ((b : Int) = 0) = decide (b = 0) := decide_eq_decide.2 (by omega)
 have e5 : decide ((b : Int) = 137) = decide (b = 137) := decide_eq_decide.2 (by omega)
 have ht : t = 0 ∨ t = 1 ∨ t = 2 ∨ t = 3 ∨ t = 4 ∨ t = 5 ∨ t = 6 ∨ t = 7 ∨ t = 8 ∨ t = 9 := by omega
 clear hst
 by_cases hb0 : b = 0
 ·
  subst hb0
  rcases ht with rfl | rfl | rfl | rfl | rfl | rfl | rfl | rfl | rfl | rfl
  all_goals simp
  all_goals go_enter Try.func57, Try.ntmps57
  all_goals go_wp2
  all_goals go_ret
  all_goals first | exact ⟨rfl, Below.refl _ _⟩ | (refine ⟨?_, Below.refl _ _⟩; simp; done) | (refine ⟨?_, Below.refl _ _⟩; simp [beq_zero]; done)
 ·
  have e6 : decide ((b : Int) = 0) = false := decide_eq_false (by omega)
  by_cases hb1 : b = 137
  ·
   subst hb1
   rcases ht with rfl | rfl | rfl | rfl | rfl | rfl | rfl | rfl | rfl | rfl
   all_goals simp
   all_goals go_enter Try.func57, Try.ntmps57
   all_goals go_wp2
   all_goals go_ret
   all_goals first | exact ⟨rfl, Below.refl _ _⟩ | (refine ⟨?_, Below.refl _ _⟩; simp; done) | (refine ⟨?_, Below.refl _ _⟩; simp [beq_zero]; done)
  ·
   have e7 : decide ((b : Int) = 137) = false := decide_eq_false (by omega)
   rcases ht with rfl | rfl | rfl | rfl | rfl | rfl | rfl | rfl | rfl | rfl
   all_goals simp [hb0, hb1]
   all_goals go_enter Try.func57, Try.ntmps57
   all_goals go_wp2
   all_goals go_ret
   all_goals first | exact ⟨rfl, Below.refl _ _⟩ | (refine ⟨?_, Below.refl _ _⟩; simp; done) | (refine ⟨?_, Below.refl _ _⟩; simp [beq_zero]; done)
end
end Go.Proofs.Ytaidgjidpghgnaa
