/-
  Words for memory, of no program: a slice of bytes or of ints that reads as a list in a world, and that it still does where nothing that was there has turned.
-/
import Derived.WalkKit
import Derived.Below
import Derived.Lib.Hide
import Derived.Deep.Draws
import Derived.Laws.OwnMore
import Derived.Maps.AppendAt
namespace Go.Proofs.YtmbgoopkpfhamaaGreat
open Go.RowKit
def U8 (l : List Nat) : List Value := l.map fun (x : Nat) => Value.int .u8 (x : Int)
def I64 (l : List Int) : List Value := l.map fun x => Value.int .i64 x
theorem U8_length (l : List Nat) : (U8 l).length = l.length := by simp [U8]
theorem I64_length (l : List Int) : (I64 l).length = l.length := by simp [I64]
theorem U8_append (a b : List Nat) : U8 (a ++ b) = U8 a ++ U8 b := by simp [U8]
theorem I64_append (a b : List Int) : I64 (a ++ b) = I64 a ++ I64 b := by simp [I64]
theorem U8_set (l : List Nat) (j x : Nat) : U8 (l.set j x) = (U8 l).set j (.int .u8 (x : Int)) := by simp [U8, List.map_set]
theorem U8_one (l : List Nat) : ∀ u ∈ U8 l, u.oneCell' = true := by
 intro u hu
 simp only [U8, List.mem_map] at hu
 obtain ⟨x, _, rfl⟩ := hu
 rfl
theorem I64_one (l : List Int) : ∀ u ∈ I64 l, u.oneCell' = true := by
 intro u hu
 simp only [I64, List.mem_map] at hu
 obtain ⟨x, _, rfl⟩ := hu
 rfl
def Rd (w : World) (A : Option Addr) (n : Nat) (xs : List Value) : Prop :=
 xs.length = n ∧ (0 < n → ∃ b off, A = some ⟨b, off, none⟩ ∧ b < w.heap.size ∧ ∀ j, j < n → w.cell? ⟨b, off + j, none⟩ = xs[j]?)
section
variable {w w' : World} {A : Option Addr} {n : Nat} {xs : List Value}
theorem Rd.nil_ : Rd w A 0 [] := ⟨rfl, fun h => absurd h (by omega)⟩
theorem Rd.keep (h : Rd w A n xs) (hs : w.heap.size ≤ w'.heap.size) (hk : ∀ p : Addr, p.block < w.heap.size → w'.cell? p = w.cell? p) : Rd w' A n xs :=
 ⟨h.1, fun hn => by
  obtain ⟨b, off, e, hb, hc⟩ := h.2 hn
  exact ⟨b, off, e, by omega, fun j hj => (hk _ hb).trans (hc j hj)⟩⟩
theorem Rd.below (h : Rd w A n xs) (hb : Below w.heap.size w w') : Rd w' A n xs := h.keep hb.size fun _ hp => hb.cell hp
theorem Rd.alloc (h : Rd w A n xs) (o : Obj) : Rd (w.alloc o) A n xs := h.keep (by simp) fun p hp => World.cell?_alloc_lt w o p (by omega)
theorem Rd.own {base : Nat} {e : TypeId} {c : Nat} (h : w.ownsRow base e 1 (.slice A n c) n xs) : Rd w A n xs := by
 refine ⟨by simpa using h.1, fun hn => ?_⟩
 rcases h.2 with ⟨_, h0⟩ | ⟨g, cap, cur, hv, _, hg, _⟩
 ·
  omega
 ·
  simp only [Value.slice.injEq, true_and] at hv
  obtain ⟨rfl, rfl⟩ := hv
  refine ⟨g, 0, rfl, (Array.getElem?_eq_some_iff.1 hg).1, fun j hj => ?_⟩
  rw [Nat.zero_add]
  exact h.cellAt j (by simpa using hj)
end
def R8 (w : World) (A : Option Addr) (n : Nat) (l : List Nat) : Prop := Rd w A n (U8 l) ∧ ∀ x ∈ l, x < 256
def R64 (w : World) (A : Option Addr) (n : Nat) (l : List Int) : Prop := Rd w A n (I64 l) ∧ ∀ x ∈ l, -9223372036854775808 ≤ x ∧ x ≤ 9223372036854775807
section
variable {w w' : World} {A : Option Addr} {n : Nat} {l : List Nat} {z : List Int}
theorem R8.len (h : R8 w A n l) : l.length = n := by have := h.1.1; rwa [U8_length] at this
theorem R64.len (h : R64 w A n z) : z.length = n := by have := h.1.1; rwa [I64_length] at this
theorem R8.below (h : R8 w A n l) (hb : Below w.heap.size w w') : R8 w' A n l := ⟨h.1.below hb, h.2⟩
theorem R64.below (h : R64 w A n z) (hb : Below w.heap.size w w') : R64 w' A n z := ⟨h.1.below hb, h.2⟩
theorem R8.alloc (h : R8 w A n l) (o : Obj) : R8 (w.alloc o) A n l := ⟨h.1.alloc o, h.2⟩
theorem R8.at_ {k : Nat} (h : R8 w A n l) (hk : k < n) :
  ∃ b off x, A = some ⟨b, off, none⟩ ∧ b < w.heap.size ∧ Hid (l[k]? = some x) ∧ x < 256 ∧ w.cell? ⟨b, off + k, none⟩ = some (.int .u8 (x : Int)) := by
 obtain ⟨b, off, e, hb, hc⟩ := h.1.2 (by omega)
 have hl : k < l.length := by have := h.len; omega
 refine ⟨b, off, l[k], e, hb, List.getElem?_eq_getElem hl, h.2 _ (List.getElem_mem hl), ?_⟩
 rw [hc k hk, U8, List.getElem?_map, List.getElem?_eq_getElem hl]
 rfl
theorem R64.at_ {k : Nat} (h : R64 w A n z) (hk : k < n) :
  ∃ b off x, A = some ⟨b, off, none⟩ ∧ b < w.heap.size ∧ Hid (z[k]? = some x) ∧ -9223372036854775808 ≤ x ∧ x ≤ 9223372036854775807 ∧ w.cell? ⟨b, off + k, none⟩ = some (.int .i64 x) := by
 obtain ⟨b, off, e, hb, hc⟩ := h.1.2 (by omega)
 have hl : k < z.length := by have := h.len; omega
 have hx := h.2 _ (List.getElem_mem hl)
 refine ⟨b, off, z[k], e, hb, List.getElem?_eq_getElem hl, hx.1, hx.2, ?_⟩
 rw [hc k hk, I64, List.getElem?_map, List.getElem?_eq_getElem hl]
 rfl
end
theorem own_at {w : World} {base : Nat} {e : TypeId} {A : Option Addr} {n c k : Nat} {xs : List Value} (h : w.ownsRow base e 1 (.slice A n c) n xs) (hk : k < n) :
  ∃ g, A = some ⟨g, 0, none⟩ ∧ base ≤ g ∧ g < w.heap.size ∧ w.cell? ⟨g, k, none⟩ = xs[k]? ∧ w.frozen? ⟨g, k, none⟩ = false ∧
   (∀ (N : Nat) (u : Value), ((w.drewN N).setCell ⟨g, k, none⟩ u).ownsRow base e 1 (.slice A n c) n (xs.set k u)) := by
 rcases h.2 with ⟨_, h0⟩ | ⟨g, cap, cur, hv, hb, hg, _⟩
 ·
  omega
 ·
  simp only [Value.slice.injEq, true_and] at hv
  obtain ⟨rfl, rfl⟩ := hv
  refine ⟨g, rfl, hb, (Array.getElem?_eq_some_iff.1 hg).1, h.cellAt k (by simpa using hk), h.frozenAt k, fun N u => ?_⟩
  exact (World.ownsRow.stored (w := w.drewN N) h k u).1
theorem own_form {w : World} {base : Nat} {e : TypeId} {v : Value} {n : Nat} {xs : List Value} (h : w.ownsRow base e 1 v n xs) : ∃ A c, v = .slice A n c := by
 rcases h.2 with ⟨rfl, rfl⟩ | ⟨g, cap, cur, hv, _⟩
 ·
  exact ⟨_, _, rfl⟩
 ·
  exact ⟨_, _, hv⟩
theorem Rd.news {w : World} {b off n : Nat} {xs : List Value} (h : ∀ j, j < n → w.cell? ⟨b, off + j, none⟩ = xs[j]?) (hl : xs.length = n) : ∀ j u, xs[j]? = some u → w.cell? ((⟨b, off, none⟩ : Addr).add j) = some u := by
 intro j u hu
 have hj : j < n := by
  rcases Nat.lt_or_ge j xs.length with h1 | h1
  ·
   omega
  ·
   rw [List.getElem?_eq_none h1] at hu; cases hu
 have := h j hj
 rw [hu] at this
 rw [← this]
 unfold Addr.add
 split
 ·
  rename_i h0; subst h0; rfl
 ·
  rfl
def MakesB (l : List Nat) (w : World) (e : Ending) (w' : World) : Prop := ∃ A c, e = .returned (.slice A l.length c) ∧ R8 w' A l.length l ∧ Below w.heap.size w w'
def MakesI (l : List Int) (w : World) (e : Ending) (w' : World) : Prop := ∃ A c, e = .returned (.slice A l.length c) ∧ R64 w' A l.length l ∧ Below w.heap.size w w'
def OwnsB (e0 : TypeId) (l : List Nat) (w : World) (e : Ending) (w' : World) : Prop :=
 ∃ A c, e = .returned (.slice A l.length c) ∧ w'.ownsRow w.heap.size e0 1 (.slice A l.length c) l.length (U8 l) ∧ Below w.heap.size w w'
def Quiet (v : Value) (w : World) (e : Ending) (w' : World) : Prop := e = .returned v ∧ ∃ n, w' = w.drewN n
def Gives (v : Value) (w : World) (e : Ending) (w' : World) : Prop := e = .returned v ∧ Below w.heap.size w w'
theorem below_drewN {B : Nat} {a w : World} (h : Below B a w) (n : Nat) : Below B a (w.drewN n) := ⟨h.os, h.tape, h.output, h.size, h.block⟩
theorem below_of_drewN (w : World) (n : Nat) : Below w.heap.size w (w.drewN n) := below_drewN (Below.refl _ _) n
theorem below_step {w w2 w3 : World} (h : Below w.heap.size w w2) (k : Below w2.heap.size w2 w3) : Below w.heap.size w w3 := h.trans (k.mono h.size)
theorem MakesB.at_ {l : List Nat} {w w' : World} {e : Ending} {n : Nat} (h : MakesB l w e w') (hl : l.length = n) : ∃ A c, e = .returned (.slice A n c) ∧ Hid (R8 w' A n l) ∧ Hid (Below w.heap.size w w') := by
 subst hl
 exact h
theorem Quiet.at_ {v : Value} {w w' : World} {e : Ending} (h : Quiet v w e w') : e = .returned v ∧ Hid (Below w.heap.size w w') := by
 obtain ⟨he, n, rfl⟩ := h
 exact ⟨he, below_of_drewN w n⟩
theorem R8.of_cells {w : World} {a : Option Addr} {len cap : Nat} {zs : List Int}
  (h : (a = none ∧ len = 0 ∧ cap = 0 ∧ zs = []) ∨
   ∃ x, a = some x ∧ len ≤ cap ∧ cap ≤ maxLen ∧ zs.length = cap ∧ (∀ i, i < zs.length → w.cell? (x.add i) = some (.int .u8 (zs.getD i 0))) ∧ ∀ n ∈ zs, (Lit.int .u8 n).wf = true) :
  len ≤ 9223372036854775807 ∧ ∃ l, R8 w a len l := by
 rcases h with ⟨rfl, rfl, _, _⟩ | ⟨x, rfl, hl, hm, hz, hc, hw⟩
 ·
  exact ⟨by omega, [], Rd.nil_, by simp⟩
 ·
  refine ⟨by unfold maxLen at hm; omega, (zs.take len).map Int.toNat, ⟨⟨by simp [U8]; omega, fun hn => ?_⟩, ?_⟩⟩
  ·
   obtain ⟨b, off, spot⟩ := x
   have h0 := hc 0 (by omega)
   have hs : spot = none := by simpa [Addr.add] using World.cell?_spot h0
   subst hs
   have hb : b < w.heap.size := by have := World.block_lt_of_cell? w _ h0; simpa [Addr.add] using this
   refine ⟨b, off, rfl, hb, fun j hj => ?_⟩
   have hj1 : j < zs.length := by omega
   have h1 := hc j hj1
   have e : ((⟨b, off, none⟩ : Addr).add j) = ⟨b, off + j, none⟩ := by unfold Addr.add; split <;> simp_all
   rw [e] at h1
   rw [h1]
   have hwf := hw _ (List.getElem_mem hj1)
   have hnn : 0 ≤ zs[j] ∧ zs[j] ≤ 255 := by simpa [Lit.wf, IntKind.min, IntKind.max, IntKind.signed, IntKind.bits] using hwf
   have hj2 : j < (zs.take len).length := by simp; omega
   simp only [U8, List.getElem?_map]
   rw [List.getElem?_eq_getElem hj2]
   simp [hj1]
   omega
  ·
   intro n hn
   simp only [List.mem_map] at hn
   obtain ⟨z, hz1, rfl⟩ := hn
   have hwf := hw _ (List.mem_of_mem_take hz1)
   have hnn : 0 ≤ z ∧ z ≤ 255 := by simpa [Lit.wf, IntKind.min, IntKind.max, IntKind.signed, IntKind.bits] using hwf
   omega
theorem R64.of_cells {w : World} {a : Option Addr} {len cap : Nat} {zs : List Int}
  (h : (a = none ∧ len = 0 ∧ cap = 0 ∧ zs = []) ∨
   ∃ x, a = some x ∧ len ≤ cap ∧ cap ≤ maxLen ∧ zs.length = cap ∧ (∀ i, i < zs.length → w.cell? (x.add i) = some (.int .i64 (zs.getD i 0))) ∧ ∀ n ∈ zs, (Lit.int .i64 n).wf = true) :
  len ≤ 9223372036854775807 ∧ ∃ l, R64 w a len l := by
 rcases h with ⟨rfl, rfl, _, _⟩ | ⟨x, rfl, hl, hm, hz, hc, hw⟩
 ·
  exact ⟨by omega, [], Rd.nil_, by simp⟩
 ·
  refine ⟨by unfold maxLen at hm; omega, zs.take len, ⟨⟨by simp [I64]; omega, fun hn => ?_⟩, ?_⟩⟩
  ·
   obtain ⟨b, off, spot⟩ := x
   have h0 := hc 0 (by omega)
   have hs : spot = none := by simpa [Addr.add] using World.cell?_spot h0
   subst hs
   have hb : b < w.heap.size := by have := World.block_lt_of_cell? w _ h0; simpa [Addr.add] using this
   refine ⟨b, off, rfl, hb, fun j hj => ?_⟩
   have hj1 : j < zs.length := by omega
   have h1 := hc j hj1
   have e : ((⟨b, off, none⟩ : Addr).add j) = ⟨b, off + j, none⟩ := by unfold Addr.add; split <;> simp_all
   rw [e] at h1
   rw [h1]
   have hj2 : j < (zs.take len).length := by simp; omega
   simp only [I64, List.getElem?_map]
   rw [List.getElem?_eq_getElem hj2]
   simp [hj1]
  ·
   intro z hz1
   have hwf := hw _ (List.mem_of_mem_take hz1)
   simpa [Lit.wf, IntKind.min, IntKind.max, IntKind.signed, IntKind.bits] using hwf
theorem ret_int {k : IntKind} {a b : Int} (h : a = b) : Ending.returned (.int k a) = .returned (.int k b) := by rw [h]
theorem ret_bool {a b : Bool} (h : a = b) : Ending.returned (.bool a) = .returned (.bool b) := by rw [h]
structure Gm where
 p : Int
 b : Int
 s : Int
 c : Int
 k : Int
 r : Int
 q : Int
def in64 (x : Int) : Prop := -9223372036854775808 ≤ x ∧ x ≤ 9223372036854775807
def Gm.val (g : Gm) : Value := .agg #[.int .i64 g.p, .int .i64 g.b, .int .i64 g.s, .int .i64 g.c, .int .i64 g.k, .int .i64 g.r, .int .i64 g.q]
def Gm.fits (g : Gm) : Prop := in64 g.p ∧ in64 g.b ∧ in64 g.s ∧ in64 g.c ∧ in64 g.k ∧ in64 g.r ∧ in64 g.q
def Gm.sized (g : Gm) : Prop := (1 ≤ g.p ∧ g.p ≤ 4) ∧ (2 ≤ g.b ∧ g.b ≤ 256) ∧ (4 ≤ g.s ∧ g.s ≤ 64) ∧ (1 ≤ g.c ∧ g.c ≤ 16) ∧ (4 ≤ g.k ∧ g.k ≤ 512) ∧ (1 ≤ g.r ∧ g.r ≤ 8) ∧ (1 ≤ g.q ∧ g.q ≤ 8)
instance (g : Gm) : Decidable g.sized := by unfold Gm.sized; infer_instance
def Gm.Right (g : Gm) : Prop := g.sized ∧ g.b % g.p = 0 ∧ g.s % 2 = 0
instance (g : Gm) : Decidable g.Right := by unfold Gm.Right; infer_instance
def Gm.ok (g : Gm) : Bool := decide g.Right
theorem Gm.ok_yes {g : Gm} (h : g.ok = true) : g.Right := of_decide_eq_true h
theorem Gm.bounds_of {g : Gm} (h : g.ok = true) : (1 ≤ g.p ∧ g.p ≤ 4) ∧ (2 ≤ g.b ∧ g.b ≤ 256) ∧ (4 ≤ g.s ∧ g.s ≤ 64) ∧ (1 ≤ g.c ∧ g.c ≤ 16) ∧ (4 ≤ g.k ∧ g.k ≤ 512) ∧ (1 ≤ g.r ∧ g.r ≤ 8) ∧ (1 ≤ g.q ∧ g.q ≤ 8) := (Gm.ok_yes h).1
theorem mul_le {a b m n : Int} (h1 : 0 ≤ a) (h2 : a ≤ m) (h3 : 0 ≤ b) (h4 : b ≤ n) : 0 ≤ a * b ∧ a * b ≤ m * n :=
 ⟨Int.mul_nonneg h1 h3, Int.mul_le_mul h2 h4 h3 (Int.le_trans h1 h2)⟩
theorem quo_mul (b p : Int) : b / p * p = b - b % p := by
 have := Int.emod_def b p
 rw [Int.mul_comm] at this
 omega
theorem quo_facts {b p : Int} (h1 : 0 ≤ b) (h2 : 1 ≤ p) : (0 ≤ b / p ∧ b / p ≤ b) ∧ 0 ≤ b / p * p ∧ b / p * p ≤ b := by
 have e := quo_mul b p
 have h3 := Int.emod_nonneg b (show p ≠ 0 by omega)
 have h4 : 0 ≤ b / p := Int.ediv_nonneg h1 (by omega)
 have h5 : b / p ≤ b := Int.ediv_le_self p h1
 have h6 : 0 ≤ b / p * p := Int.mul_nonneg h4 (by omega)
 omega
def Gm.data (g : Gm) : Int := if g.ok then g.c * g.k else 0
def Gm.raw (g : Gm) : Int := if g.ok then g.c * (g.k + 2) + 31 else 0
def Gm.hasPage (g : Gm) (x y : Int) : Prop := g.ok = true ∧ (0 ≤ x ∧ x < g.b) ∧ 0 ≤ y ∧ y < g.s
def Gm.hasRow (g : Gm) (r : Int) : Prop := g.ok = true ∧ 0 ≤ r ∧ r < g.b * g.s
def Gm.hasBlock (g : Gm) (x : Int) : Prop := g.ok = true ∧ 0 ≤ x ∧ x < g.b
instance (g : Gm) (x y : Int) : Decidable (g.hasPage x y) := by unfold Gm.hasPage; infer_instance
instance (g : Gm) (x : Int) : Decidable (g.hasRow x) := by unfold Gm.hasRow; infer_instance
instance (g : Gm) (x : Int) : Decidable (g.hasBlock x) := by unfold Gm.hasBlock; infer_instance
def lowerI (x : Int) : Int := if x < 0 then 0 else x - x % 2
def upperI (x : Int) : Int := if x < 0 then 0 else x - x % 2 + 1
def adr (n : Int) : List Nat := [(n % 256).toNat, (n / 256 % 256).toNat]
theorem adr_lt (n : Int) : ∀ x ∈ adr n, x < 256 := by
 intro x hx
 simp only [adr, List.mem_cons, List.not_mem_nil, or_false] at hx
 omega
structure Tn where
 r : Int
 g : Int
 b : Int
deriving DecidableEq
structure Sc where
 busy : List Int
 fails : List Int
 turns : List Tn
 cut : Int
 torn : List Nat
 marked : List Int
def Tn.key (t : Tn) : Int × Int := (t.r, t.g)
def grp (l : List Tn) (x : Int × Int) : List Int := (l.filter fun t => decide (t.key = x)).map (·.b)
theorem grp_nil (x : Int × Int) : grp [] x = [] := rfl
theorem grp_snoc (l : List Tn) (t : Tn) (x : Int × Int) : grp (l ++ [t]) x = if x = t.key then grp l t.key ++ [t.b] else grp l x := by
 unfold grp
 rw [List.filter_append, List.map_append]
 by_cases h : x = t.key
 ·
  subst h
  simp
 ·
  rw [if_neg h]
  simp [Ne.symm h]
theorem grp_len (l : List Tn) (x : Int × Int) : (grp l x).length ≤ l.length := by
 unfold grp
 rw [List.length_map]
 exact List.length_filter_le _ _
theorem grp_mem {l : List Tn} {x : Int × Int} {b : Int} (h : b ∈ grp l x) : (⟨x.1, x.2, b⟩ : Tn) ∈ l := by
 unfold grp at h
 obtain ⟨t, ht, rfl⟩ := List.mem_map.1 h
 obtain ⟨h1, h2⟩ := List.mem_filter.1 ht
 have h3 := of_decide_eq_true h2
 subst h3
 exact h1
def ahead (l : List Tn) (r g : Int) : Nat := (l.filter fun t => decide (t.r < r ∨ t.r = r ∧ t.g < g)).length
def durL (l : List Int) (k : Nat) : Prop := ∀ i, i < k → 0 ≤ l.getD i 0 ∧ l.getD i 0 ≤ 65536
def ascL (l : List Int) (m : Int) (k : Nat) : Prop := ∀ i, i < k → 0 ≤ l.getD i 0 ∧ l.getD i 0 ≤ m ∧ (0 < i → l.getD (i - 1) 0 < l.getD i 0)
def Tn.ok (t : Tn) (rows top bits : Int) : Prop := 0 ≤ t.r ∧ t.r < rows ∧ 0 ≤ t.g ∧ t.g ≤ top ∧ 0 ≤ t.b ∧ t.b ≤ bits
def trnL (l : List Tn) (rows top bits : Int) (k : Nat) : Prop := ∀ i t, i < k → l[i]? = some t → t.ok rows top bits
theorem durL.step {l : List Int} {k : Nat} (h : durL l k) (h0 : 0 ≤ l.getD k 0) (h1 : l.getD k 0 ≤ 65536) : durL l (k + 1) := fun i hi => by
 rcases Nat.lt_or_ge i k with h2 | h2
 ·
  exact h i h2
 ·
  obtain rfl : i = k := by omega
  exact ⟨h0, h1⟩
theorem ascL.step {l : List Int} {m : Int} {k : Nat} (h : ascL l m k) (h0 : 0 ≤ l.getD k 0 ∧ l.getD k 0 ≤ m ∧ (0 < k → l.getD (k - 1) 0 < l.getD k 0)) : ascL l m (k + 1) := fun i hi => by
 rcases Nat.lt_or_ge i k with h2 | h2
 ·
  exact h i h2
 ·
  obtain rfl : i = k := by omega
  exact h0
theorem trnL.step {l : List Tn} {rows top bits : Int} {k : Nat} {t : Tn} (h : trnL l rows top bits k) (ht : l[k]? = some t) (h0 : t.ok rows top bits) : trnL l rows top bits (k + 1) := fun i u hi hu => by
 rcases Nat.lt_or_ge i k with h2 | h2
 ·
  exact h i u h2 hu
 ·
  obtain rfl : i = k := by omega
  rw [ht] at hu
  cases hu
  exact h0
theorem trnL.all {l : List Tn} {rows top bits : Int} (h : trnL l rows top bits l.length) : ∀ t ∈ l, t.ok rows top bits := fun t ht => by
 obtain ⟨i, hi⟩ := List.mem_iff_getElem?.1 ht
 exact h i t (List.getElem?_eq_some_iff.1 hi).1 hi
theorem getD_of {l : List Int} {k : Nat} {x : Int} (h : l[k]? = some x) : l.getD k 0 = x := by simp [List.getD, h]
theorem durL.all {l : List Int} (h : durL l l.length) : ∀ x ∈ l, -9223372036854775808 ≤ x ∧ x ≤ 9223372036854775807 := fun x hx => by
 obtain ⟨i, hi⟩ := List.mem_iff_getElem?.1 hx
 have := h i (List.getElem?_eq_some_iff.1 hi).1
 rw [getD_of hi] at this
 omega
theorem ascL.all {l : List Int} {m : Int} (hm : m ≤ 9223372036854775807) (h : ascL l m l.length) : ∀ x ∈ l, -9223372036854775808 ≤ x ∧ x ≤ 9223372036854775807 := fun x hx => by
 obtain ⟨i, hi⟩ := List.mem_iff_getElem?.1 hx
 have := h i (List.getElem?_eq_some_iff.1 hi).1
 rw [getD_of hi] at this
 omega
theorem ascL.lt {l : List Int} {m : Int} (h : ascL l m l.length) {i j : Nat} (hij : i < j) (hj : j < l.length) : l.getD i 0 < l.getD j 0 := by
 induction j with
 | zero => omega
 | succ j ih =>
  have h1 := (h (j + 1) hj).2.2 (by omega)
  simp only [Nat.add_sub_cancel] at h1
  rcases Nat.lt_or_ge i j with h2 | h2
  ·
   have := ih h2 (by omega)
   omega
  ·
   obtain rfl : i = j := by omega
   exact h1
def hits (l : List Int) : Nat → Nat
 | 0 => 0
 | n + 1 => hits l n + if (n : Int) ∈ l then 1 else 0
def under (l : List Int) (n : Int) (k : Nat) : Nat := ((l.take k).filter fun x => decide (x < n)).length
def tornL (t : List Nat) (n f : Nat) : List Nat := (List.range n).map fun i => if i < f then t.getD (i % t.length) 0 else 0
theorem tornL_len (t : List Nat) (n f : Nat) : (tornL t n f).length = n := by simp [tornL]
theorem tornL_get (t : List Nat) (n f i : Nat) (h : i < n) : (tornL t n f)[i]? = some (if i < f then t.getD (i % t.length) 0 else 0) := by
 simp [tornL, h]
theorem tornL_zero (t : List Nat) (n : Nat) : tornL t n 0 = List.replicate n 0 := by
 apply List.ext_getElem?
 intro i
 by_cases h : i < n
 ·
  rw [tornL_get _ _ _ _ h, List.getElem?_replicate, if_pos h, if_neg (by omega)]
 ·
  rw [List.getElem?_eq_none (by rw [tornL_len]; omega), List.getElem?_eq_none (by simp; omega)]
theorem tornL_small (t : List Nat) (n f : Nat) (ht : ∀ x ∈ t, x < 256) : ∀ x ∈ tornL t n f, x < 256 := by
 intro x hx
 unfold tornL at hx
 obtain ⟨i, _, rfl⟩ := List.mem_map.1 hx
 split
 ·
  by_cases h : i % t.length < t.length
  ·
   rw [List.getD, List.getElem?_eq_getElem h]
   exact ht _ (List.getElem_mem h)
  ·
   rw [List.getD, List.getElem?_eq_none (by omega)]
   decide
 ·
  decide
theorem tornL_step (t : List Nat) (n f : Nat) (hf : f ≤ n) (hd : f % t.length = 0) :
  (tornL t n f).take f ++ t.take (min t.length (n - f)) ++ (tornL t n f).drop (f + min t.length (n - f)) = tornL t n (f + min t.length (n - f)) := by
 have hm : (t.take (min t.length (n - f))).length = min t.length (n - f) := by rw [List.length_take]; omega
 have hl : ((tornL t n f).take f).length = f := by rw [List.length_take, tornL_len]; omega
 apply List.ext_getElem?
 intro i
 by_cases h : i < n
 ·
  rw [tornL_get _ _ _ _ h]
  by_cases h1 : i < f
  ·
   rw [List.append_assoc, List.getElem?_append_left (by omega), List.getElem?_take, if_pos h1, tornL_get _ _ _ _ h, if_pos h1, if_pos (by omega)]
  ·
   by_cases h2 : i < f + min t.length (n - f)
   ·
    rw [List.getElem?_append_left (by rw [List.length_append]; omega), List.getElem?_append_right (by omega), hl, List.getElem?_take, if_pos (by omega), if_pos h2]
    have hi : i - f < t.length := by omega
    obtain ⟨q, hq⟩ : ∃ q, f = t.length * q := ⟨f / t.length, by have := Nat.div_add_mod f t.length; omega⟩
    have e : i % t.length = i - f := by
     have e1 : i = (i - f) + t.length * q := by omega
     rw [e1, Nat.add_mul_mod_self_left, Nat.mod_eq_of_lt (by omega)]
     omega
    rw [e, List.getD, List.getElem?_eq_getElem hi]
    rfl
   ·
    rw [List.getElem?_append_right (by rw [List.length_append]; omega), List.length_append, hl, hm, List.getElem?_drop, show f + min t.length (n - f) + (i - (f + min t.length (n - f))) = i by omega, tornL_get _ _ _ _ h, if_neg h1, if_neg h2]
 ·
  rw [List.getElem?_eq_none (by rw [List.length_append, List.length_append, hl, hm, List.length_drop, tornL_len]; omega), List.getElem?_eq_none (by rw [tornL_len]; omega)]
set_option maxRecDepth 100000
def Gm.nums (g : Gm) : List Int := [g.p, g.b, g.s, g.c, g.k, g.r, g.q]
def gbK (g : Gm) (k : Nat) : List Nat := (g.nums.take k).flatMap adr
def gb (g : Gm) : List Nat := gbK g 7
def nmB (l : List Nat) (i : Nat) : Int := ((l.getD (2 * i) 0 + 256 * l.getD (2 * i + 1) 0 : Nat) : Int)
def gOf (l : List Nat) : Gm := ⟨nmB l 0, nmB l 1, nmB l 2, nmB l 3, nmB l 4, nmB l 5, nmB l 6⟩
def gZ : Gm := ⟨0, 0, 0, 0, 0, 0, 0⟩
def tkgE (l : List Nat) : Int := if l.length < 14 then 10 else if 14 < l.length then 13 else if (gOf l).ok = true then 0 else 11
def tkgG (l : List Nat) : Gm := if tkgE l = 0 then gOf l else gZ
section
variable {g : Gm} {k : Nat}
theorem gbK_succ {v : Int} (h : g.nums[k]? = some v) : gbK g (k + 1) = gbK g k ++ adr v := by
 unfold gbK
 rw [List.take_add_one, h, List.flatMap_append]
 simp
theorem gb_len : (gb g).length = 14 := rfl
theorem gbK_lt : ∀ x ∈ gbK g k, x < 256 := by
 intro x hx
 obtain ⟨v, _, h⟩ := List.mem_flatMap.1 hx
 exact adr_lt v x h
theorem adr_num {n : Int} (h1 : 0 ≤ n) (h2 : n < 65536) : (((n % 256).toNat + 256 * (n / 256 % 256).toNat : Nat) : Int) = n := by omega
theorem gOf_gb (h : g.ok = true) : gOf (gb g) = g := by
 obtain ⟨h1, h2, h3, h4, h5, h6, h7⟩ := Gm.bounds_of h
 obtain ⟨p, b, s, c, k, r, q⟩ := g
 simp only at h1 h2 h3 h4 h5 h6 h7
 have e1 := adr_num (n := p) (by omega) (by omega)
 have e2 := adr_num (n := b) (by omega) (by omega)
 have e3 := adr_num (n := s) (by omega) (by omega)
 have e4 := adr_num (n := c) (by omega) (by omega)
 have e5 := adr_num (n := k) (by omega) (by omega)
 have e6 := adr_num (n := r) (by omega) (by omega)
 have e7 := adr_num (n := q) (by omega) (by omega)
 unfold gOf
 rw [Gm.mk.injEq]
 exact ⟨e1, e2, e3, e4, e5, e6, e7⟩
theorem tkg_gb (h : g.ok = true) : tkgE (gb g) = 0 ∧ tkgG (gb g) = g := by
 have e : tkgE (gb g) = 0 := by
  unfold tkgE
  rw [gb_len, if_neg (by omega), if_neg (by omega), gOf_gb h, if_pos h]
 exact ⟨e, by unfold tkgG; rw [if_pos e, gOf_gb h]⟩
theorem tkgE_not {l : List Nat} (h : l.length = 14) : (tkgE l = 0 ∧ (gOf l).ok = true) ∨ (tkgE l = 11 ∧ (gOf l).ok = false) := by
 unfold tkgE
 rw [h, if_neg (by omega), if_neg (by omega)]
 cases hq : (gOf l).ok
 ·
  exact .inr ⟨if_neg (by decide), rfl⟩
 ·
  exact .inl ⟨if_pos rfl, rfl⟩
end
end Go.Proofs.YtmbgoopkpfhamaaGreat
