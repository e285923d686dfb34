/-
  Words for memory: the landed code's chip. Each block that is its own has a role; blocks of different roles are different blocks.
-/
import Derived.Test.YtmbgoopkpfhamaaGreatIdentChecksJ8
import Derived.Test.YtmbgoopkpfhamaaGreatIdentChecksJ5
import Derived.Test.YtmbgoopkpfhamaaGreatIdentChecksJChMem
import Derived.Test.YtmbgoopkpfhamaaGreatIdentChecksJ4
namespace Go.Proofs.YtmbgoopkpfhamaaGreat
open Go.RowKit
structure Pr where
 row : Nat
 raw : List Nat
structure Ch where
 state : Nat
 listed : List Nat
 said : Nat
 rung : Nat
 col : Nat
 reg : List Nat
 busy : Nat
 reads : Bool
 prow : Nat
 progs : List Pr
 blocks : List Nat
 brow : Nat
 braw : List Nat
 there : Bool
 polls : Nat
 queued : List Pr
 qblocks : List Nat
 fail : Bool
 prev : Bool
 on : Bool
 cut : Int
 cycles : Nat
 arr : St
 bz : Nat
 wk : Nat
structure Rp where
 a : Option Addr
 c : Nat
 y : Pr
def PC (l : List Rp) : List Value := l.flatMap fun x => [.int .i64 (x.y.row : Int), .slice x.a x.y.raw.length x.c]
def IC (l : List Nat) : List Int := l.map Int.ofNat
structure Cm where
 aL : Option Addr
 cL : Nat
 aR : Option Addr
 cR : Nat
 aP : Option Addr
 cP : Nat
 aE : Option Addr
 cE : Nat
 aG : Option Addr
 cG : Nat
 aQ : Option Addr
 cQ : Nat
 aB : Option Addr
 cB : Nat
 lQ : List Rp
 lP : List Rp
 t : Nat
 lo : Nat
 hi : Nat
 ap : Nat
 aq : Nat
 ar : Nat
def chCells (g : Gm) (c : Ch) (m : Cm) : Array Value :=
 #[.int .i64 (c.state : Int), .slice m.aL c.listed.length m.cL, .int .i64 (c.said : Int), .int .i64 (c.rung : Int), .int .i64 (c.col : Int), .slice m.aR c.reg.length m.cR, .int .i64 (c.busy : Int),
  .bool c.reads, .int .i64 (c.prow : Int), .slice m.aP c.progs.length m.cP, .slice m.aE c.blocks.length m.cE, .int .i64 (c.brow : Int), .slice m.aG c.braw.length m.cG, .bool c.there, .int .i64 (c.polls : Int),
  .slice m.aQ c.queued.length m.cQ, .slice m.aB c.qblocks.length m.cB, .bool c.fail, .bool c.prev, .int .i64 g.p, .int .i64 g.b, .int .i64 g.s, .int .i64 g.c, .int .i64 g.k, .int .i64 g.r, .int .i64 g.q,
  .pointer (some ⟨m.t, 0, none⟩), .pointer (some ⟨m.ap, 0, none⟩), .bool c.on, .int .i64 c.cut, .int .i64 (c.cycles : Int)]
structure Pt (ρ : Nat → Nat) (w : World) (p : Nat) (g : Gm) (s : Sc) (c : Ch) (m : Cm) : Prop where
 lt : ∀ j, ρ j ≠ 0 → j < w.heap.size
 rp : ρ p = 1
 arr : AR (fun j => ρ j ≠ 0) w m.ap m.aq m.ar g c.arr
 rap : ρ m.ap = 2
 raq : ρ m.aq = 3
 rar : ρ m.ar = 4
 tel : Tel w m.t m.lo m.hi s (c.bz : Int) (c.wk : Int)
 rt : ∀ j, m.lo ≤ j → j < m.hi → ρ j = 5
 lis : w.ownsRow 0 5 1 (.slice m.aL c.listed.length m.cL) c.listed.length (U8 c.listed)
 rl : ∀ k, (Value.slice m.aL c.listed.length m.cL).ownBlock = some k → ρ k = 6
 l8 : ∀ x ∈ c.listed, x < 256
 reg : ∃ b cur u, m.aR = some ⟨b, 0, none⟩ ∧ ρ b = 7 ∧ CRow w b u cur ∧ R8 w (some ⟨b, 0, none⟩) c.reg.length c.reg
 regn : c.reg.length = g.raw.toNat
 que : w.ownsRow 0 65 2 (.slice m.aQ c.queued.length m.cQ) c.queued.length (PC m.lQ)
 qy : m.lQ.map (·.y) = c.queued
 rq : ∀ k, (Value.slice m.aQ c.queued.length m.cQ).ownBlock = some k → ρ k = 8
 qbl : w.ownsRow 0 3 1 (.slice m.aB c.qblocks.length m.cB) c.qblocks.length (I64 (IC c.qblocks))
 rb : ∀ k, (Value.slice m.aB c.qblocks.length m.cB).ownBlock = some k → ρ k = 9
 pro : w.ownsRow 0 65 2 (.slice m.aP c.progs.length m.cP) c.progs.length (PC m.lP)
 py : m.lP.map (·.y) = c.progs
 rpr : ∀ k, (Value.slice m.aP c.progs.length m.cP).ownBlock = some k → ρ k = 10
 blk : w.ownsRow 0 3 1 (.slice m.aE c.blocks.length m.cE) c.blocks.length (I64 (IC c.blocks))
 rbl : ∀ k, (Value.slice m.aE c.blocks.length m.cE).ownBlock = some k → ρ k = 11
 raws : ∀ x ∈ m.lQ ++ m.lP, R8 w x.a x.y.raw.length x.y.raw ∧ ∀ b off, x.a = some ⟨b, off, none⟩ → 0 < x.y.raw.length → ρ b = 12
 bgr : R8 w m.aG c.braw.length c.braw
 rg : ∀ b off, m.aG = some ⟨b, off, none⟩ → 0 < c.braw.length → ρ b = 12
theorem AR.widenB {I I' K : Nat → Prop} {w w' : World} {p q r : Nat} {g : Gm} {s : St} (h : AR I w p q r g s) (hb : Btw K w w') (hK : ∀ j, K j → I j ∧ j ≠ p ∧ j ≠ q ∧ j ≠ r) (h1 : ∀ j, I j → I' j) (h2 : ∀ j, I' j → I j ∨ w.heap.size ≤ j) (h3 : ∀ j, I' j → j < w'.heap.size) : AR I' w' p q r g s := by
 obtain ⟨l, e1, e2, e3⟩ := h.rows
 exact { h with
  ip := h1 _ h.ip
  iq := h1 _ h.iq
  ir := h1 _ h.ir
  lt := h3
  blk := h.blk.btw hb fun h4 => (hK p h4).2.1 rfl
  rows := ⟨l, e1, e2.btw hb fun h4 => (hK q h4).2.2.1 rfl, fun x hx => by
   obtain ⟨hw, h4 | ⟨b, off, ha, hi, hm, hc, hr⟩⟩ := e3 x hx
   ·
    exact ⟨hw, .inl h4⟩
   ·
    have hr1 := hr
    rw [ha] at hr1
    refine ⟨hw, .inr ⟨b, off, ha, fun h5 => ?_, hm, hc, ha ▸ hr1.btw hb fun h6 => hi (hK b h6).1⟩⟩
    rcases h2 b h5 with h6 | h6
    ·
     exact hi h6
    ·
     have hn : 0 < g.raw.toNat := by
      have := Gm.bounds_of h.ok
      have e7 : g.raw = g.c * (g.k + 2) + 31 := by unfold Gm.raw; rw [if_pos h.ok]
      have : 0 ≤ g.c * (g.k + 2) := Int.mul_nonneg (by omega) (by omega)
      omega
     have := hr.lt_block hn b off ha
     omega⟩
  er := h.er.btw hb fun h4 => (hK r h4).2.2.2 rfl }
def Cm.idle (m : Cm) (r : Nat) : Prop := r = 99 ∨ (r = 6 ∧ m.aL = none) ∨ (r = 8 ∧ m.aQ = none) ∨ (r = 9 ∧ m.aB = none) ∨ (r = 10 ∧ m.aP = none) ∨ (r = 11 ∧ m.aE = none)
theorem Pt.turn {ρ ρ' : Nat → Nat} {w w' : World} {p : Nat} {g : Gm} {s : Sc} {c : Ch} {m : Cm} {J : Nat → Prop} (h : Pt ρ w p g s c m) (hb : Btw J w w') (hJ : ∀ j, J j → ρ j = 1 ∨ m.idle (ρ j))
  (h1 : ∀ j, ρ j ≠ 0 → ρ' j = ρ j) (h2 : ∀ j, ρ' j ≠ 0 → ρ j ≠ 0 ∨ w.heap.size ≤ j) (h3 : ∀ j, ρ' j ≠ 0 → j < w'.heap.size) : Pt ρ' w' p g s c m := by
 have k : ∀ {j n : Nat}, ρ j = n → n ≠ 0 → ρ' j = n := fun {j n} e hn => (h1 j (by omega)).trans e
 have no : ∀ {j k : Nat}, ρ j = k → k ≠ 1 → ¬ m.idle k → ¬ J j := fun h1 h2 h4 h3 => by
  rcases hJ _ h3 with h5 | h5
  ·
   omega
  ·
   exact h4 (h1 ▸ h5)
 have nd : ∀ k, (k ≠ 99 ∧ k ≠ 6 ∧ k ≠ 8 ∧ k ≠ 9 ∧ k ≠ 10 ∧ k ≠ 11) → ¬ m.idle k := fun k hk hd => by unfold Cm.idle at hd; omega
 have nn : ∀ {j : Nat}, J j → ρ j = 1 ∨ ρ j = 99 ∨ ρ j = 6 ∨ ρ j = 8 ∨ ρ j = 9 ∨ ρ j = 10 ∨ ρ j = 11 := fun {j} hj => by
  rcases hJ j hj with h5 | h5
  ·
   exact .inl h5
  ·
   unfold Cm.idle at h5; omega
 obtain ⟨b, cur, u, e1, e2, e3, e4⟩ := h.reg
 exact { h with
  lt := h3
  rp := k h.rp (by omega)
  arr := h.arr.widenB hb (fun j hj => by
   have h1 := nn hj
   refine ⟨by omega, ?_, ?_, ?_⟩
   ·
    rintro rfl; have := h.rap; omega
   ·
    rintro rfl; have := h.raq; omega
   ·
    rintro rfl; have := h.rar; omega) (fun j hj => by rw [h1 j hj]; exact hj) h2 h3
  rap := k h.rap (by omega)
  raq := k h.raq (by omega)
  rar := k h.rar (by omega)
  rt := fun j a b => k (h.rt j a b) (by omega)
  tel := h.tel.btw hb fun j hj => by
   by_cases h1 : j < m.lo
   ·
    exact .inl h1
   ·
    by_cases h2 : m.hi ≤ j
    ·
     exact .inr h2
    ·
     have := h.rt j (by omega) (by omega)
     have := nn hj
     omega
  lis := own_btw1 h.lis hb fun k hk => no (h.rl k hk) (by omega) fun hd => by
   rcases hd with h0 | ⟨_, e⟩ | ⟨h1, _⟩ | ⟨h1, _⟩ | ⟨h1, _⟩ | ⟨h1, _⟩
   ·
    omega
   ·
    rw [e] at hk; cases hk
   all_goals omega
  rl := fun j hj => k (h.rl j hj) (by omega)
  reg := ⟨b, cur, u, e1, k e2 (by omega), e3.btw hb (no e2 (by omega) (nd _ (by omega))), e4.btw hb (no e2 (by omega) (nd _ (by omega)))⟩
  que := own_btw2 h.que hb fun k hk => no (h.rq k hk) (by omega) fun hd => by
   rcases hd with h0 | ⟨h1, _⟩ | ⟨_, e⟩ | ⟨h1, _⟩ | ⟨h1, _⟩ | ⟨h1, _⟩
   ·
    omega
   ·
    omega
   ·
    rw [e] at hk; cases hk
   all_goals omega
  rq := fun j hj => k (h.rq j hj) (by omega)
  qbl := own_btw1 h.qbl hb fun k hk => no (h.rb k hk) (by omega) fun hd => by
   rcases hd with h0 | ⟨h1, _⟩ | ⟨h1, _⟩ | ⟨_, e⟩ | ⟨h1, _⟩ | ⟨h1, _⟩
   ·
    omega
   ·
    omega
   ·
    omega
   ·
    rw [e] at hk; cases hk
   all_goals omega
  rb := fun j hj => k (h.rb j hj) (by omega)
  pro := own_btw2 h.pro hb fun k hk => no (h.rpr k hk) (by omega) fun hd => by
   rcases hd with h0 | ⟨h1, _⟩ | ⟨h1, _⟩ | ⟨h1, _⟩ | ⟨_, e⟩ | ⟨h1, _⟩
   ·
    omega
   ·
    omega
   ·
    omega
   ·
    omega
   ·
    rw [e] at hk; cases hk
   ·
    omega
  rpr := fun j hj => k (h.rpr j hj) (by omega)
  blk := own_btw1 h.blk hb fun k hk => no (h.rbl k hk) (by omega) fun hd => by
   rcases hd with h0 | ⟨h1, _⟩ | ⟨h1, _⟩ | ⟨h1, _⟩ | ⟨h1, _⟩ | ⟨_, e⟩
   ·
    omega
   ·
    omega
   ·
    omega
   ·
    omega
   ·
    omega
   ·
    rw [e] at hk; cases hk
  rbl := fun j hj => k (h.rbl j hj) (by omega)
  raws := fun x hx => ⟨(h.raws x hx).1.btw0 hb fun b off e hn => no ((h.raws x hx).2 b off e hn) (by omega) (nd _ (by omega)), fun b off e hn => k ((h.raws x hx).2 b off e hn) (by omega)⟩
  bgr := h.bgr.btw0 hb fun b off e hn => no (h.rg b off e hn) (by omega) (nd _ (by omega))
  rg := fun b off e hn => k (h.rg b off e hn) (by omega) }
section
variable {ρ ρ' : Nat → Nat} {I J : Nat → Prop} {w w' : World} {p : Nat} {g : Gm} {s : Sc} {c c' : Ch} {m m' : Cm}
theorem Pt.btwI (h : Pt ρ w p g s c m) (hb : Btw J w w') (hJ : ∀ j, J j → ρ j = 1 ∨ m.idle (ρ j)) : Pt ρ w' p g s c m := h.turn hb hJ (fun _ _ => rfl) (fun _ h => .inl h) fun j hj => Nat.lt_of_lt_of_le (h.lt j hj) hb.size
theorem Pt.btw (h : Pt ρ w p g s c m) (hb : Btw J w w') (hJ : ∀ j, J j → ρ j = 1) : Pt ρ w' p g s c m := h.btwI hb fun j hj => .inl (hJ j hj)
theorem Pt.below (h : Pt ρ w p g s c m) (hb : Below w.heap.size w w') : Pt ρ w' p g s c m :=
 h.btw (J := fun _ => False) (Btw.of_below hb) fun _ h => h.elim
theorem Pt.set (h : Pt ρ w p g s c m) (k : Nat) (v : Value) : Pt ρ (w.setCell ⟨p, k, none⟩ v) p g s c m :=
 h.btw (J := fun j => j = p) ((Btw.refl w).setCell (p := ⟨p, k, none⟩) rfl) fun _ e => e ▸ h.rp
structure CI (ρ : Nat → Nat) (I : Nat → Prop) (w : World) : Prop where
 own : ∀ j, ρ j ≠ 0 → ρ j ≠ 99 → I j
 new : ∀ j, w.heap.size ≤ j → I j
 out : ∀ j, ¬ I j → ρ j = 99
theorem CI.grow (h : CI ρ I w) (hs : w.heap.size ≤ w'.heap.size) : CI ρ I w' := ⟨h.own, fun j hj => h.new j (Nat.le_trans hs hj), h.out⟩
theorem CI.self (h : CI ρ I w) (hp : Pt ρ w p g s c m) : I p := h.own p (by rw [hp.rp]; omega) (by rw [hp.rp]; omega)
def role1 (ρ : Nat → Nat) (b r : Nat) (j : Nat) : Nat := if j = b then r else ρ j
theorem CI.one (h : CI ρ I w) (hs : w.heap.size ≤ w'.heap.size) (b r : Nat) (hb : w.heap.size ≤ b) : CI (role1 ρ b r) I w' :=
 ⟨fun j h1 h2 => by
  by_cases e : j = b
  ·
   exact h.new j (by omega)
  ·
   rw [role1, if_neg e] at h1 h2
   exact h.own j h1 h2, fun j hj => h.new j (Nat.le_trans hs hj), fun j hj => by
  by_cases e : j = b
  ·
   exact absurd (h.new j (by omega)) hj
  ·
   rw [role1, if_neg e]
   exact h.out j hj⟩
def CH (I : Nat → Prop) (w : World) (p : Nat) (g : Gm) (s : Sc) (c : Ch) : Prop :=
 ∃ ρ m, CRow w p 72 (chCells g c m) ∧ Pt ρ w p g s c m ∧ CI ρ I w
theorem CH.below (h : CH I w p g s c) (hb : Below w.heap.size w w') : CH I w' p g s c := by
 obtain ⟨ρ, m, hc, hp, hi⟩ := h
 exact ⟨ρ, m, hc.below hb, hp.below hb, hi.grow hb.size⟩
theorem CH.new_ (h : CH I w p g s c) : ∀ j, w.heap.size ≤ j → I j := by
 obtain ⟨_, _, _, _, hi⟩ := h
 exact hi.new
theorem CH.away (h : CH I w p g s c) (hb : Btw J w w') (hJ : ∀ j, J j → ¬ I j) : CH (fun j => I j ∧ (j < w.heap.size ∨ w'.heap.size ≤ j)) w' p g s c := by
 obtain ⟨ρ, m, hc, hp, hi⟩ := h
 refine ⟨fun j => if w.heap.size ≤ j ∧ j < w'.heap.size then 99 else ρ j, m, hc.btw hb fun h1 => hJ p h1 (hi.self hp), hp.turn hb (fun j hj => .inr (.inl (hi.out j (hJ j hj)))) (fun j hj => if_neg (by have := hp.lt j hj; omega)) (fun j hj => ?_) (fun j hj => ?_), ?_, ?_, ?_⟩
 ·
  by_cases e : w.heap.size ≤ j ∧ j < w'.heap.size
  ·
   exact .inr e.1
  ·
   simp only [if_neg e] at hj
   exact .inl hj
 ·
  by_cases e : w.heap.size ≤ j ∧ j < w'.heap.size
  ·
   exact e.2
  ·
   simp only [if_neg e] at hj
   exact Nat.lt_of_lt_of_le (hp.lt j hj) hb.size
 ·
  intro j h1 h2
  by_cases e : w.heap.size ≤ j ∧ j < w'.heap.size
  ·
   simp only [if_pos e] at h2
   exact absurd rfl h2
  ·
   simp only [if_neg e] at h1 h2
   exact ⟨hi.own j h1 h2, .inl (hp.lt j h1)⟩
 ·
  intro j hj
  exact ⟨hi.new j (Nat.le_trans hb.size hj), .inr hj⟩
 ·
  intro j hj
  by_cases e : w.heap.size ≤ j ∧ j < w'.heap.size
  ·
   exact if_pos e
  ·
   show (if w.heap.size ≤ j ∧ j < w'.heap.size then 99 else ρ j) = 99
   rw [if_neg e]
   exact hi.out j fun h => hj ⟨h, by omega⟩
theorem CH.shrink (h : CH I w p g s c) (hb : Below w.heap.size w w') : CH (fun j => I j ∧ (j < w.heap.size ∨ w'.heap.size ≤ j)) w' p g s c :=
 h.away (J := fun _ => False) (Btw.of_below hb) fun _ h => h.elim
theorem CH.of' (hc : CRow w' p 72 (chCells g c' m')) (hp : Pt ρ w p g s c m) (hi : CI ρ I w) (hb : Btw (fun j => j = p) w w')
  (hk : ∀ W, Pt ρ W p g s c m → Pt ρ W p g s c' m') : CH I w' p g s c' ∧ Btw I w w' :=
 ⟨⟨ρ, m', hc, hk _ (hp.btw hb fun _ e => e ▸ hp.rp), hi.grow hb.size⟩, (Btw.refl w).trans hb fun j _ e => by rw [e]; exact hi.self hp⟩
theorem CH.of (hc : CRow w' p 72 (chCells g c' m)) (hp : Pt ρ w p g s c m) (hi : CI ρ I w) (hb : Btw (fun j => j = p) w w')
  (hk : ∀ W, Pt ρ W p g s c m → Pt ρ W p g s c' m) : CH I w' p g s c' ∧ Btw I w w' := CH.of' hc hp hi hb hk
end
set_option maxRecDepth 100000
def Sets (p : Nat) (g : Gm) (c : Ch) (m : Cm) (w : World) (e : Ending) (w' : World) : Prop := e = .returned (.tuple #[]) ∧ CRow w' p 72 (chCells g c m) ∧ Btw (fun j => j = p) w w'
def Ch.enter (c : Ch) (n : Nat) : Ch := { c with state := n, listed := [], said := 0 }
def Ch.discard (c : Ch) : Ch := { c with queued := [], qblocks := [] }
def Ch.leave (c : Ch) : Ch := (c.enter 0).discard
def Cm.enter (m : Cm) : Cm := { m with aL := none, cL := 0 }
def Cm.discard (m : Cm) : Cm := { m with aQ := none, cQ := 0, aB := none, cB := 0, lQ := [] }
def Cm.leave (m : Cm) : Cm := m.enter.discard
theorem Pt.enter {ρ : Nat → Nat} {w : World} {p : Nat} {g : Gm} {s : Sc} {c : Ch} {m : Cm} (h : Pt ρ w p g s c m) (n : Nat) : Pt ρ w p g s (c.enter n) m.enter :=
 {
  h with
  lis := ⟨rfl, .inl ⟨rfl, rfl⟩⟩
  rl := fun k hk => by cases hk
  l8 := fun x hx => by cases hx }
theorem Pt.discard {ρ : Nat → Nat} {w : World} {p : Nat} {g : Gm} {s : Sc} {c : Ch} {m : Cm} (h : Pt ρ w p g s c m) : Pt ρ w p g s c.discard m.discard :=
 {
  h with
  que := ⟨rfl, .inl ⟨rfl, rfl⟩⟩
  qy := rfl
  rq := fun k hk => by cases hk
  qbl := ⟨rfl, .inl ⟨rfl, rfl⟩⟩
  rb := fun k hk => by cases hk
  raws := fun x hx => h.raws x (List.mem_append_right _ (by simpa [Cm.discard] using hx)) }
theorem Pt.leave {ρ : Nat → Nat} {w : World} {p : Nat} {g : Gm} {s : Sc} {c : Ch} {m : Cm} (h : Pt ρ w p g s c m) : Pt ρ w p g s c.leave m.leave := (h.enter 0).discard
section
variable {w : World} {p : Nat} {g : Gm} {c : Ch} {m : Cm}
set_option maxHeartbeats 1000000 in
theorem enter_any (n : Nat) (h : CRow w p 72 (chCells g c m)) : Calls Tryz.prog 94 #[.pointer (some ⟨p, 0, none⟩), .int .i64 (n : Int)] w (Sets p g (c.enter n) m.enter w) := by
 have x0 := h.cell_at 0 (.int .i64 (c.state : Int)) rfl
 have f0 := h.frozen 0
 have S1 := Lib.hid (h.setCell 0 (.int .i64 (n : Int)))
 have K1 := Lib.hid (((Btw.refl w)).setCell (I := fun j => j = p) (p := ⟨p, 0, none⟩) (v := .int .i64 (n : Int)) rfl)
 have x1 := S1.out.cell_at 1 (.slice m.aL c.listed.length m.cL) rfl
 have f1 := S1.out.frozen 1
 have S2 := Lib.hid (S1.out.setCell 1 (.slice none 0 0))
 have K2 := Lib.hid ((K1.out).setCell (I := fun j => j = p) (p := ⟨p, 1, none⟩) (v := .slice none 0 0) rfl)
 have x2 := S2.out.cell_at 2 (.int .i64 (c.said : Int)) rfl
 have f2 := S2.out.frozen 2
 have S3 := Lib.hid (S2.out.setCell 2 (.int .i64 0))
 have K3 := Lib.hid ((K2.out).setCell (I := fun j => j = p) (p := ⟨p, 2, none⟩) (v := .int .i64 0) rfl)
 go_enter Tryz.func94, Tryz.ntmps94
 go_wp2
 go_end0
 exact ⟨rfl, S3.out, K3.out⟩
set_option maxHeartbeats 1000000 in
theorem discard_any (h : CRow w p 72 (chCells g c m)) : Calls Tryz.prog 120 #[.pointer (some ⟨p, 0, none⟩)] w (Sets p g c.discard m.discard w) := by
 have x15 := h.cell_at 15 (.slice m.aQ c.queued.length m.cQ) rfl
 have f15 := h.frozen 15
 have S1 := Lib.hid (h.setCell 15 (.slice none 0 0))
 have K1 := Lib.hid (((Btw.refl w)).setCell (I := fun j => j = p) (p := ⟨p, 15, none⟩) (v := .slice none 0 0) rfl)
 have x16 := S1.out.cell_at 16 (.slice m.aB c.qblocks.length m.cB) rfl
 have f16 := S1.out.frozen 16
 have S2 := Lib.hid (S1.out.setCell 16 (.slice none 0 0))
 have K2 := Lib.hid ((K1.out).setCell (I := fun j => j = p) (p := ⟨p, 16, none⟩) (v := .slice none 0 0) rfl)
 go_enter Tryz.func120, Tryz.ntmps120
 go_wp2
 go_end0
 exact ⟨rfl, S2.out, K2.out⟩
set_option maxHeartbeats 1000000 in
theorem leave_any (h : CRow w p 72 (chCells g c m)) : Calls Tryz.prog 98 #[.pointer (some ⟨p, 0, none⟩)] w (Sets p g c.leave m.leave w) := by
 have C0 := Lib.hid h
 clear h
 go_enter Tryz.func98, Tryz.ntmps98
 go_wp2_with fail
 refine (enter_any 0 C0.out).mono ?_
 rintro _ w1 ⟨rfl, h1, b1⟩
 have C1 := Lib.hid h1
 have B1 := Lib.hid b1
 clear h1 b1 C0
 go_wp2_with fail
 refine (discard_any C1.out).mono ?_
 rintro _ w2 ⟨rfl, h2, b2⟩
 have C2 := Lib.hid h2
 have B2 := Lib.hid (B1.out.trans b2 (fun _ _ h => h))
 clear h2 b2 C1 B1
 go_wp2
 go_end0
 exact ⟨rfl, C2.out, B2.out⟩
def wany (r : Bool) (np nb : Nat) : Bool := r || decide (0 < np) || decide (0 < nb)
theorem any_any (r : Bool) (x : Int) (aP aE : Option Addr) (np cP ne cE : Nat) (w : World) :
  Calls Tryz.prog 115 #[.agg #[.bool r, .int .i64 x, .slice aP np cP, .slice aE ne cE]] w (Gives (.bool (wany r np ne)) w) := by
 have C0 := Lib.hid (CRow.new w #[.bool r, .int .i64 x, .slice aP np cP, .slice aE ne cE] 63)
 have B0 := Lib.hid (below_new w (.cells #[.bool r, .int .i64 x, .slice aP np cP, .slice aE ne cE] 63))
 have x0 := C0.out.cell_at 0 _ rfl
 have x2 := C0.out.cell_at 2 _ rfl
 have x3 := C0.out.cell_at 3 _ rfl
 go_enter Tryz.func115, Tryz.ntmps115
 cases r with
 | true =>
  go_wp2
  go_ret
  exact ⟨by simp [wany], B0.out⟩
 | false =>
  by_cases h1 : 0 < np
  ·
   have d1 : decide ((0 : Int) < (np : Int)) = true := decide_eq_true (by omega)
   go_wp2
   go_ret
   exact ⟨by simp [wany, h1], B0.out⟩
  ·
   have d1 : decide ((0 : Int) < (np : Int)) = false := decide_eq_false (by omega)
   by_cases h2 : 0 < ne
   ·
    have d2 : decide ((0 : Int) < (ne : Int)) = true := decide_eq_true (by omega)
    go_wp2
    go_ret
    exact ⟨by simp [wany, h1, h2], B0.out⟩
   ·
    have d2 : decide ((0 : Int) < (ne : Int)) = false := decide_eq_false (by omega)
    go_wp2
    go_ret
    exact ⟨by simp [wany, h1, h2], B0.out⟩
def Ch.engaged (c : Ch) : Bool := decide (0 < c.busy) || wany c.reads c.progs.length c.blocks.length
set_option maxHeartbeats 1000000 in
theorem engaged_any (h : CRow w p 72 (chCells g c m)) : Calls Tryz.prog 96 #[.pointer (some ⟨p, 0, none⟩)] w (Gives (.bool c.engaged) w) := by
 have C0 := Lib.hid h
 have x6 := h.cell_at 6 (.int .i64 (c.busy : Int)) rfl
 have x7 := h.cell_at 7 (.bool c.reads) rfl
 have x8 := h.cell_at 8 (.int .i64 (c.prow : Int)) rfl
 have x9 := h.cell_at 9 (.slice m.aP c.progs.length m.cP) rfl
 have x10 := h.cell_at 10 (.slice m.aE c.blocks.length m.cE) rfl
 clear h
 go_enter Tryz.func96, Tryz.ntmps96
 obtain ⟨z, hz⟩ : ∃ z, z = (c.busy : Int) := ⟨_, rfl⟩
 rw [← hz] at x6
 by_cases hb : 0 < c.busy
 ·
  have d1 : decide ((0 : Int) < z) = true := decide_eq_true (by omega)
  have E := Lib.hid (show c.engaged = true by unfold Ch.engaged; simp [hb])
  clear hb hz
  go_wp2
  go_ret
  exact ⟨ret_bool E.out.symm, Below.refl _ _⟩
 ·
  have d1 : decide ((0 : Int) < z) = false := decide_eq_false (by omega)
  have E := Lib.hid (show c.engaged = wany c.reads c.progs.length c.blocks.length by unfold Ch.engaged; simp [hb])
  clear hb hz
  go_wp2_with fail
  refine (any_any c.reads _ m.aP m.aE c.progs.length m.cP c.blocks.length m.cE _).mono ?_
  rintro _ w1 ⟨rfl, h1⟩
  have B1 := Lib.hid h1
  clear h1
  go_wp2
  go_ret
  exact ⟨ret_bool E.out.symm, B1.out⟩
end
end Go.Proofs.YtmbgoopkpfhamaaGreat
