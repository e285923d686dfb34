/-
  A region that draws its order, by what each operation leaves: each step is shown once, whichever order is drawn. D i v w: what is known of the value v of operation i, in the world w; it outlives new blocks. Of no program.
-/
import Derived.Deep.RegionHeld3
import Derived.Test.YtmbgoopkpfhamaaGreatIdentChecksJ1
namespace Go.Proofs.YtmbgoopkpfhamaaGreat
open Go.RowKit
section
variable {P : Program} {ops : Array Oper} {Q : Exit → Act → World → Prop} {md : Region.Mode}
theorem wpAny_inv {I : Array Bool → Act → World → Prop}
  (hstep : ∀ listed a w i, I listed a w → i ∈ Region.ready md ops listed → wpOp P ops Q i (I (listed.setIfInBounds i true)) a w)
  (hend : ∀ listed a w, I listed a w → Region.ready md ops listed = [] → Q .normal a w) :
  ∀ (fuel : Nat) (listed : Array Bool) (a : Act) (w : World), listed.toList.count false ≤ fuel → I listed a w → wpAny P md ops Q fuel listed a w := by
 intro fuel
 induction fuel with
 | zero =>
  intro listed a w hc hI
  have hr : Region.ready md ops listed = [] := by
   rcases e : Region.ready md ops listed with _ | ⟨i, rs⟩
   ·
    rfl
   ·
    exfalso
    have hi := (mem_ready (md := md) (ops := ops) (j := i) (listed := listed)).1 (by rw [e]; simp)
    have h1 : listed.getD i true = false := hi.1
    have h0 : listed.toList.count false = 0 := by omega
    rw [List.count_eq_zero] at h0
    apply h0
    rw [Array.getD_eq_getD_getElem?] at h1
    rcases e2 : listed[i]? with _ | b
    ·
     rw [e2] at h1; cases h1
    ·
     rw [e2] at h1
     simp at h1
     subst h1
     rw [← Array.getElem?_toList] at e2
     exact List.mem_of_getElem? e2
  exact ⟨hr, hend _ _ _ hI hr⟩
 | succ fuel ih =>
  intro listed a w hc hI
  refine ⟨hend _ _ _ hI, fun i hi => wpOp_mono (fun a' w' h' => ih _ _ _ ?_ h') (hstep _ _ _ _ hI hi)⟩
  have h1 : listed.getD i true = false := (mem_ready.1 hi).1
  rw [Array.getD_eq_getD_getElem?] at h1
  rcases e2 : listed[i]? with _ | b
  ·
   rw [e2] at h1; cases h1
  ·
   rw [e2] at h1
   simp at h1
   subst h1
   obtain ⟨hlt, hget⟩ := Array.getElem?_eq_some_iff.1 e2
   have hlt2 : i < listed.toList.length := by simpa using hlt
   have hs := List.count_set (l := listed.toList) (i := i) (a := true) (b := false) hlt2
   have hg2 : listed.toList[i] = false := by simpa using hget
   rw [hg2] at hs
   rw [Array.toList_setIfInBounds, hs, if_pos (by rfl), if_neg (by decide)]
   have hpos : 0 < listed.toList.count false := List.count_pos_iff.2 (by rw [← hg2]; exact List.getElem_mem hlt2)
   omega
def frFrom (a : Act) : List (Option Tmp) → Nat → (Nat → Value) → Act
 | [], _, _ => a
 | d :: ds, k, f => frFrom (a.put d (f k)) ds (k + 1) f
def slotsApart : List (Option Tmp) → Bool
 | [] => true
 | none :: ds => slotsApart ds
 | some d :: ds => !ds.contains (some d) && slotsApart ds
theorem put_put (a : Act) (d : Option Tmp) (u v : Value) : (a.put d u).put d v = a.put d v := by
 cases d with
 | none => rfl
 | some d => simp [Act.put, Array.setIfInBounds_setIfInBounds]
theorem frFrom_congr {ds : List (Option Tmp)} : ∀ {a : Act} {k : Nat} {f g : Nat → Value}, (∀ j, k ≤ j → f j = g j) → frFrom a ds k f = frFrom a ds k g := by
 induction ds with
 | nil => intro a k f g _; rfl
 | cons d ds ih =>
  intro a k f g h
  show frFrom (a.put d (f k)) ds (k + 1) f = frFrom (a.put d (g k)) ds (k + 1) g
  rw [h k (Nat.le_refl _)]
  exact ih (fun j hj => h j (by omega))
theorem frFrom_far {ds : List (Option Tmp)} : ∀ {a : Act} {k : Nat} {f : Nat → Value} {d : Option Tmp} {v : Value}, (d = none ∨ ds.contains d = false) → (frFrom a ds k f).put d v = frFrom (a.put d v) ds k f := by
 induction ds with
 | nil => intro a k f d v _; rfl
 | cons e ds ih =>
  intro a k f d v h
  show (frFrom (a.put e (f k)) ds (k + 1) f).put d v = frFrom ((a.put d v).put e (f k)) ds (k + 1) f
  rw [ih (h.imp id (fun h => by simp at h ⊢; exact h.2)), Act.put_comm a (f k) v (x := e) (y := d)]
  rintro x rfl rfl
  rcases h with h | h
  ·
   cases h
  ·
   simp at h
theorem frFrom_put {ds : List (Option Tmp)} : ∀ {a : Act} {k i : Nat} {f : Nat → Value} {d : Option Tmp} {v : Value}, slotsApart ds = true → ds[i]? = some d →
  (frFrom a ds k f).put d v = frFrom a ds k (fun j => if j = k + i then v else f j) := by
 induction ds with
 | nil => intro a k i f d v _ h; simp at h
 | cons e ds ih =>
  intro a k i f d v hs hd
  have hs2 : slotsApart ds = true ∧ (e = none ∨ ds.contains e = false) := by
   cases e with
   | none => exact ⟨hs, .inl rfl⟩
   | some e => simp only [slotsApart, Bool.and_eq_true, Bool.not_eq_true'] at hs; exact ⟨hs.2, .inr hs.1⟩
  rcases i with _ | i
  ·
   simp at hd
   subst hd
   show (frFrom (a.put e (f k)) ds (k + 1) f).put e v = frFrom (a.put e (if k = k + 0 then v else f k)) ds (k + 1) _
   rw [frFrom_far hs2.2, put_put, if_pos (by omega)]
   exact frFrom_congr (fun j hj => by rw [if_neg (by omega)])
  ·
   show (frFrom (a.put e (f k)) ds (k + 1) f).put d v = frFrom (a.put e (if k = k + (i + 1) then v else f k)) ds (k + 1) _
   rw [ih hs2.1 (by simpa using hd), if_neg (by omega)]
   exact frFrom_congr (fun j _ => by rw [show k + 1 + i = k + (i + 1) by omega])
theorem frFrom_same {ds : List (Option Tmp)} : ∀ {a : Act} {k : Nat} {f : Nat → Value}, (∀ (i : Nat) (d : Tmp), ds[i]? = some (some d) → f (k + i) = a.tmps.getD d undef) → slotsApart ds = true → frFrom a ds k f = a := by
 induction ds with
 | nil => intro a k f _ _; rfl
 | cons e ds ih =>
  intro a k f h hs
  have hp : a.put e (f k) = a := by
   cases e with
   | none => rfl
   | some d =>
    rw [show f k = a.tmps.getD d undef from h 0 d (by simp)]
    simp only [Act.put]
    have : a.tmps.setIfInBounds d (a.tmps.getD d undef) = a.tmps := by
     apply Array.ext_getElem?
     intro j
     rw [Array.getElem?_setIfInBounds]
     split
     ·
      rename_i hj
      subst hj
      split
      ·
       rename_i hlt
       rw [Array.getElem?_eq_getElem hlt]; rfl
      ·
       rename_i hge
       rw [Array.getElem?_eq_none (by omega)]
     ·
      rfl
    rw [this]
  show frFrom (a.put e (f k)) ds (k + 1) f = a
  rw [hp]
  refine ih (fun i d hd => ?_) ?_
  ·
   rw [show k + 1 + i = k + (i + 1) by omega]
   exact h (i + 1) d (by simpa using hd)
  ·
   cases e with
   | none => exact hs
   | some e => simp only [slotsApart, Bool.and_eq_true] at hs; exact hs.2
def waitsBack (ops : Array Oper) : Bool := (List.range ops.size).all fun i => ((ops[i]?).map fun o => o.after.all fun e => decide (e.on < i)).getD true
theorem wp_region_inv {id : Nat} {a : Act} {w0 : World} (hm : P.follows .mixedOrders = true) (ds : List (Option Tmp)) (hds : ops.toList.map (·.dst) = ds) (hap : slotsApart ds = true) (hwb : waitsBack ops = true)
  (D : Nat → Value → World → Prop) (hD : ∀ j v w w', D j v w → Below w.heap.size w w' → D j v w')
  (hstep : ∀ (i : Nat) (o : Oper) (f : Nat → Value) (w : World), ops[i]? = some o → Below w0.heap.size w0 w → (∀ e ∈ o.after, Region.binds .any e = true → D e.on (f e.on) w) →
   ∀ K : Act → World → Prop, Shut (∀ v w', D i v w' → Below w.heap.size w w' → K ((frFrom a ds 0 f).put o.dst v) w') →
    if Region.wanted o (yielded ops (frFrom a ds 0 f).tmps) = true then Oper.wp P o (frFrom a ds 0 f) w K Q else K ((frFrom a ds 0 f).put o.dst undef) w)
  (hend : ∀ (f : Nat → Value) (w : World), Below w0.heap.size w0 w → (∀ i, i < ops.size → D i (f i) w) → Q .normal (frFrom a ds 0 f) w) :
  (Code.region id ops true).wp P Q a w0 := by
 refine wp_region_any hm ?_
 refine wpAny_inv (I := fun listed a' w => listed.size = ops.size ∧ ∃ f, a' = frFrom a ds 0 f ∧ Below w0.heap.size w0 w ∧ ∀ j, listed.getD j false = true → D j (f j) w) ?_ ?_ _ _ _ _ ?_ ?_
 ·
  rintro listed a' w i ⟨hsz, f, rfl, hb, hall⟩ hi
  obtain ⟨hun, o, ho, hdep⟩ := mem_ready.1 hi
  refine wpOp_step ho (fun K hK => ?_)
  refine hstep i o f w ho hb (fun e he hbi => hall _ (hdep e he hbi)) K (fun v w' hv hw => hK _ _ ⟨by simpa using hsz, fun j => if j = 0 + i then v else f j, ?_, hb.trans (hw.mono hb.size), ?_⟩)
  ·
   exact frFrom_put hap (by rw [← hds, List.getElem?_map, Array.getElem?_toList, ho]; rfl)
  ·
   intro j hj
   by_cases hji : j = i
   ·
    subst hji
    simp only [Nat.zero_add, ↓reduceIte]
    exact hv
   ·
    have e1 : (if j = 0 + i then v else f j) = f j := if_neg (by omega)
    show D j (if j = 0 + i then v else f j) w'
    rw [e1]
    refine hD _ _ _ _ (hall j ?_) hw
    rw [Array.getD_eq_getD_getElem?, Array.getElem?_setIfInBounds_ne (fun h => hji h.symm), ← Array.getD_eq_getD_getElem?] at hj
    exact hj
 ·
  rintro listed a' w ⟨hsz, f, rfl, hb, hall⟩ hr
  refine hend f w hb (fun i hi => hall i ?_)
  have same : ∀ i, i < ops.size → listed.getD i true = listed.getD i false := by
   intro i hi
   rw [Array.getD_eq_getD_getElem?, Array.getD_eq_getD_getElem?, Array.getElem?_eq_getElem (by omega)]
   rfl
  have key : ∀ n i, i < n → i < ops.size → listed.getD i false = true := by
   intro n
   induction n with
   | zero => intro i h; omega
   | succ n ih =>
    intro i hin hio
    rcases hb2 : listed.getD i false with _ | _
    ·
     exfalso
     have hmem : i ∈ Region.ready .any ops listed := mem_ready.2 ⟨by rw [same i hio]; exact hb2, _, Array.getElem?_eq_getElem hio, fun e he hbi => by
      have hw := List.all_eq_true.1 hwb i (List.mem_range.2 hio)
      rw [Array.getElem?_eq_getElem hio] at hw
      simp only [Option.map_some, Option.getD_some] at hw
      have hlt : e.on < i := of_decide_eq_true (Array.all_eq_true'.1 hw e he)
      exact ih e.on (by omega) (by omega)⟩
     rw [hr] at hmem
     cases hmem
    ·
     rfl
  exact key (i + 1) i (by omega) hi
 ·
  simp
 ·
  refine ⟨by simp, fun i => match ds[i]? with | some (some d) => a.tmps.getD d undef | _ => undef, ?_, (Below.refl _ _).drew, ?_⟩
  ·
   refine (frFrom_same (fun i d hd => ?_) hap).symm
   simp only [Nat.zero_add, hd]
  ·
   intro j hj
   exfalso
   rw [Array.getD_eq_getD_getElem?] at hj
   rcases e : (Array.replicate ops.size false)[j]? with _ | b
   ·
    rw [e] at hj; cases hj
   ·
    rw [e] at hj
    simp at hj
    subst hj
    have := Array.getElem?_eq_some_iff.1 e
    obtain ⟨h1, h2⟩ := this
    simp at h2
end
end Go.Proofs.YtmbgoopkpfhamaaGreat
