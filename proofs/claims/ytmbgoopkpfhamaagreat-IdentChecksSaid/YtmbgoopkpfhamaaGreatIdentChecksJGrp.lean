/-
  Words for memory, of no program: a map of one's own, each element of which is a row of one's own (m[k] = append(m[k], x)), by entry and store.
-/
import Derived.WideKeyEntry
import Derived.DeepKeys4
import Derived.MapFrom
import Derived.Maps.OwnRows
import Derived.Test.YtmbgoopkpfhamaaGreatIdentChecksJ1
namespace Go.Proofs.YtmbgoopkpfhamaaGreat
open Go.RowKit Go.ChangeMaps Go.MapKept Go.WideMaps
structure Keys (P : Program) (k : TypeId) {κ : Type} (key : κ → Value) (ok : κ → Prop) : Prop where
 law : KeyLaw P k
 has : ∀ x, ok x → ∃ l, keyOf P k (key x) = some l
 inj : ∀ x y, key x = key y → x = y
def Grp {κ : Type} (key : κ → Value) (ok : κ → Prop) (e : TypeId) (w : World) (b base n : Nat) (G : κ → List Value) : Prop :=
 b < base ∧ ∃ es clock, w.heap[b]? = some (.map es clock) ∧ Stamped es clock ∧ es.size ≤ n ∧
  (∀ x ∈ es.toList, ∃ y, x.key = key y ∧ ok y ∧ w.ownsRow base e 1 x.val (G y).length (G y)) ∧
  (∀ y, (∀ x ∈ es.toList, x.key ≠ key y) → G y = []) ∧
  ∀ x ∈ es.toList, ∀ y ∈ es.toList, x.key ≠ y.key → x.val.ownBlock = none ∨ x.val.ownBlock ≠ y.val.ownBlock
section
variable {P : Program} {κ : Type} {key : κ → Value} {ok : κ → Prop} {k e : TypeId} {w w' : World} {b base n : Nat} {G : κ → List Value}
theorem Grp.made (w : World) (key : κ → Value) (ok : κ → Prop) (e : TypeId) (base : Nat) (h : w.heap.size < base) : Grp key ok e (w.alloc (.map #[] 0)) w.heap.size base 0 (fun _ => []) :=
 ⟨h, #[], 0, (MapKept.heap_alloc w _).1, stamped_empty 0, Nat.le_refl _, by simp, fun _ _ => rfl, by simp⟩
theorem Grp.lt (h : Grp key ok e w b base n G) : b < w.heap.size := by
 obtain ⟨_, es, clock, hb, _⟩ := h
 exact (Array.getElem?_eq_some_iff.1 hb).1
theorem Grp.keep (h : Grp key ok e w b base n G) (hk : ∀ j, j < w.heap.size → j = b ∨ base ≤ j → w'.heap[j]? = w.heap[j]?) : Grp key ok e w' b base n G := by
 obtain ⟨h0, es, clock, hb, hs, hn, hE, hG, hA⟩ := h
 refine ⟨h0, es, clock, (hk b (Array.getElem?_eq_some_iff.1 hb).1 (.inl rfl)).trans hb, hs, hn, fun x hx => ?_, hG, hA⟩
 obtain ⟨y, hy, hok, hr⟩ := hE x hx
 refine ⟨y, hy, hok, hr.1, ?_⟩
 rcases hr.2 with h1 | ⟨g, cap, cur, hv, hg, hh, hr⟩
 ·
  exact .inl h1
 ·
  exact .inr ⟨g, cap, cur, hv, hg, (hk g (Array.getElem?_eq_some_iff.1 hh).1 (.inr hg)).trans hh, hr⟩
theorem Grp.below (h : Grp key ok e w b base n G) (hb : Below w.heap.size w w') : Grp key ok e w' b base n G := h.keep fun j hj _ => hb.block j hj
theorem Grp.rebase (h : Grp key ok e w b base 0 G) (base' : Nat) (hb : b < base') : Grp key ok e w b base' 0 G := by
 obtain ⟨_, es, clock, h1, h2, h3, h4, h5, h6⟩ := h
 have h0 : es.toList = [] := List.eq_nil_of_length_eq_zero (by rw [Array.length_toList]; omega)
 exact ⟨hb, es, clock, h1, h2, h3, fun x hx => by rw [h0] at hx; simp at hx, h5, h6⟩
theorem Grp.look (h : Grp key ok e w b base n G) (K : Keys P k key ok) {t E : TypeId} (ht : P.underlying t = some (.map k E)) (hz : (zeroValue E).run P w = .ok (.slice none 0 0) w) (y : κ) (hy : ok y) :
  ∃ v, (Instr.lookup t (.map (some b)) (key y) false).run P w = .ok v w ∧ w.ownsRow base e 1 v (G y).length (G y) := by
 obtain ⟨h0, es, clock, hb, hs, hn, hE, hG, hA⟩ := h
 obtain ⟨l, hl⟩ := K.has y hy
 have hkeys : ∀ x ∈ es.toList, ∃ l, keyOf P k x.key = some l := fun x hx => by
  obtain ⟨z, hz, hok, _⟩ := hE x hx
  rw [hz]
  exact K.has z hok
 rcases K.law.find w hl es.toList hkeys with ⟨h1, h2⟩ | ⟨j, e0, h1, h2, h3⟩
 ·
  refine ⟨.slice none 0 0, ?_, by rw [hG y h2]; exact World.ownsRow_nil _ _ _ _⟩
  simp [Instr.lookup, run_underlying ht, MapKept.run_getObj_map hb, K.law.check w _ hl, h1, hz, Result.andThen]
 ·
  obtain ⟨z, hz1, _, hr⟩ := hE e0 (List.mem_of_getElem? h2)
  obtain rfl := K.inj z y (hz1.symm.trans h3)
  refine ⟨e0.val, ?_, hr⟩
  simp [Instr.lookup, run_underlying ht, MapKept.run_getObj_map hb, K.law.check w _ hl, h1, Result.andThen]
theorem heap_setBlock_other (w : World) (b j : Nat) (o : Obj) (h : j ≠ b) : (setBlock w b o).heap[j]? = w.heap[j]? := by
 unfold setBlock
 simp only
 rw [Array.getElem?_setIfInBounds, if_neg (fun h1 => h h1.symm)]
theorem heap_setBlock_it (w : World) (b : Nat) (o : Obj) (h : b < w.heap.size) : (setBlock w b o).heap[b]? = some o := by
 unfold setBlock
 simp only
 rw [Array.getElem?_setIfInBounds, if_pos rfl, if_pos h]
theorem size_setBlock (w : World) (b : Nat) (o : Obj) : (setBlock w b o).heap.size = w.heap.size := by simp [setBlock]
theorem grown_setBlock (w : World) (b : Nat) (o : Obj) : w.grownBy (setBlock w b o) (some b) :=
 ⟨rfl, rfl, rfl, by simp [setBlock], fun j _ hj => heap_setBlock_other w b j o (fun h => hj (by rw [h]))⟩
theorem own_keep {size : Nat} {v : Value} {m : Nat} {xs : List Value} (h : w.ownsRow base e size v m xs) (hk : ∀ g, v.ownBlock = some g → g < w.heap.size → w'.heap[g]? = w.heap[g]?) : w'.ownsRow base e size v m xs := by
 refine ⟨h.1, ?_⟩
 rcases h.2 with h1 | ⟨g, cap, cur, rfl, hg, hh, hr⟩
 ·
  exact .inl h1
 ·
  exact .inr ⟨g, cap, cur, rfl, hg, (hk g rfl (Array.getElem?_eq_some_iff.1 hh).1).trans hh, hr⟩
theorem Grp.entry (h : Grp key ok e w b base n G) (K : Keys P k key ok) {t E : TypeId} (ht : P.underlying t = some (.map k E)) (hz : ∀ u : World, (zeroValue E).run P u = .ok (.slice none 0 0) u) (y : κ) (hy : ok y) [DecidableEq κ] :
  ∃ (v0 : Value) (st : Nat) (w1 : World), (Instr.mapEntry t (.map (some b)) (key y)).run P w = .ok (.tuple #[v0, goInt st]) w1 ∧ w.grownBy w1 (some b) ∧ w1.heap.size = w.heap.size ∧ w1.ownsRow base e 1 v0 (G y).length (G y) ∧
   ∀ (w2 : World) (v' : Value) (l' : List Value), w1.grownBy w2 v0.ownBlock → w2.ownsRow base e 1 v' l'.length l' → (v'.ownBlock = v0.ownBlock ∨ ∃ g, v'.ownBlock = some g ∧ w1.heap.size ≤ g) →
    ∃ w3, (Instr.entryStore t (.map (some b)) (goInt st) v').run P w2 = .ok () w3 ∧ w2.grownBy w3 (some b) ∧ Grp key ok e w3 b base (n + 1) (fun x => if x = y then l' else G x) := by
 obtain ⟨h0, es, clock, hb, hs, hn, hE, hG, hA⟩ := h
 have hbl : b < w.heap.size := (Array.getElem?_eq_some_iff.1 hb).1
 obtain ⟨l, hl⟩ := K.has y hy
 have hkeys : ∀ x ∈ es.toList, ∃ l, keyOf P k x.key = some l := fun x hx => by
  obtain ⟨z, hz, hok, _⟩ := hE x hx
  rw [hz]
  exact K.has z hok
 obtain ⟨s1, s2, s3⟩ := hs
 rcases K.law.find w hl es.toList hkeys with ⟨h1, h2⟩ | ⟨j, e0, h1, h2, h3⟩
 ·
  refine ⟨.slice none 0 0, clock, setBlock w b (.map (es.push ⟨key y, .slice none 0 0, clock⟩) (clock + 1)), ?_, grown_setBlock _ _ _, size_setBlock _ _ _, by rw [hG y h2]; exact World.ownsRow_nil _ _ _ _, fun w2 v' l' hg hown hloc => ?_⟩
  ·
   simp [Instr.mapEntry, run_underlying ht, MapKept.run_getObj_map hb, K.law.check w false hl, h1, hz, MapKept.run_setObj_map _ hb, Result.andThen, setBlock]
  ·
   have hw2 : w2.heap[b]? = some (.map (es.push ⟨key y, .slice none 0 0, clock⟩) (clock + 1)) := (hg.block b (by rw [size_setBlock]; exact hbl) (by simp [Value.ownBlock])).trans (heap_setBlock_it _ _ _ hbl)
   have hb2 : b < w2.heap.size := (Array.getElem?_eq_some_iff.1 hw2).1
   have hidx : (es.push ⟨key y, .slice none 0 0, clock⟩).findIdx? (fun e => ((e.born : Nat) : Int) == ((clock : Nat) : Int)) = some es.size := by
    rw [WideElems.findIdx_arr]
    have := WideElems.findIdx_born (l := (es.push ⟨key y, .slice none 0 0, clock⟩).toList) (j := es.size) (e0 := ⟨key y, .slice none 0 0, clock⟩) (by
     simp only [Array.toList_push, List.map_append, List.map_cons, List.map_nil]
     refine List.nodup_append.2 ⟨s2, by simp, fun a ha c hc e1 => ?_⟩
     simp only [List.mem_singleton] at hc
     obtain ⟨x, hx, rfl⟩ := List.mem_map.1 ha
     have := s1 x hx
     omega) (by simp)
    exact this
   have hmod : (es.push ⟨key y, .slice none 0 0, clock⟩).modify es.size (fun e => { e with val := v' }) = es.push ⟨key y, v', clock⟩ := by
    apply Array.ext'
    rw [Array.toList_modify, Array.toList_push, Array.toList_push, ← Array.length_toList, WideElems.modify_last]
   refine ⟨setBlock w2 b (.map (es.push ⟨key y, v', clock⟩) (clock + 1)), ?_, grown_setBlock _ _ _, h0, es.push ⟨key y, v', clock⟩, clock + 1, heap_setBlock_it _ _ _ hb2, stamped_push ⟨s1, s2, s3⟩ h2, by simp; omega, ?_, ?_, ?_⟩
   ·
    simp [Instr.entryStore, MapKept.run_getObj_map hw2, asInt, asIntOf, goInt, hidx, hmod, MapKept.run_setObj_map _ hw2, Result.andThen, setBlock]
   ·
    intro x hx
    simp only [Array.toList_push, List.mem_append, List.mem_singleton] at hx
    rcases hx with hx | rfl
    ·
     obtain ⟨z, hz1, hok, hr⟩ := hE x hx
     have hne : z ≠ y := fun e => h2 x hx (e ▸ hz1)
     refine ⟨z, hz1, hok, ?_⟩
     simp only [if_neg hne]
     refine own_keep hr fun g hgb hgl => ?_
     have hgb2 := (hr.lt g hgb).1
     rw [heap_setBlock_other _ _ _ _ (by omega), hg.block g (by rw [size_setBlock]; exact hgl) (by simp [Value.ownBlock]), heap_setBlock_other _ _ _ _ (by omega)]
    ·
     refine ⟨y, rfl, hy, ?_⟩
     simp only [if_pos]
     refine own_keep hown fun g hgb _ => heap_setBlock_other _ _ _ _ ?_
     have := (hown.lt g hgb).1
     omega
   ·
    intro z hzk
    by_cases e : z = y
    ·
     subst e
     exact absurd rfl (hzk ⟨key z, v', clock⟩ (by simp))
    ·
     simp only [if_neg e]
     exact hG z fun x hx => hzk x (by simp only [Array.toList_push, List.mem_append]; exact .inl hx)
   ·
    have hnew : ∀ x ∈ es.toList, x.val.ownBlock = none ∨ x.val.ownBlock ≠ v'.ownBlock := fun x hx => by
     obtain ⟨z, _, _, hr⟩ := hE x hx
     cases hxb : x.val.ownBlock with
     | none => exact .inl rfl
     | some g =>
      have := (hr.lt g hxb).2
      refine .inr ?_
      rcases hloc with e1 | ⟨g', e1, hg'⟩
      ·
       rw [e1]; simp [Value.ownBlock]
      ·
       rw [e1]
       rw [size_setBlock] at hg'
       intro e2
       injection e2 with e2
       omega
    intro x hx z hz1 hne
    simp only [Array.toList_push, List.mem_append, List.mem_singleton] at hx hz1
    rcases hx with hx | rfl <;> rcases hz1 with hz1 | rfl
    ·
     exact hA x hx z hz1 hne
    ·
     exact hnew x hx
    ·
     rcases hnew z hz1 with e1 | e1
     ·
      simp only [e1]
      cases v'.ownBlock with
      | none => exact .inl rfl
      | some g => exact .inr (by simp)
     ·
      exact .inr fun e2 => e1 e2.symm
    ·
     exact absurd rfl hne
 ·
  have hm0 : e0 ∈ es.toList := List.mem_of_getElem? h2
  have hj : es[j]? = some e0 := by simpa using h2
  have hsame : es.modify j (fun e => { e with key := key y }) = es := by
   apply Array.ext'
   rw [Array.toList_modify, modify_eq_set _ _ _ _ h2]
   have : ({ e0 with key := key y } : MapEntry) = e0 := by rw [← h3]
   rw [this]
   exact WideElems.set_self _ _ _ h2
  obtain ⟨z0, hz1, _, hr0⟩ := hE e0 hm0
  obtain rfl := K.inj z0 y (hz1.symm.trans h3)
  have hw1 : ∀ g, g < w.heap.size → (setBlock w b (.map es clock)).heap[g]? = w.heap[g]? := fun g _ => by
   by_cases e1 : g = b
   ·
    subst e1; rw [heap_setBlock_it _ _ _ hbl, hb]
   ·
    exact heap_setBlock_other _ _ _ _ e1
  refine ⟨e0.val, e0.born, setBlock w b (.map es clock), ?_, grown_setBlock _ _ _, size_setBlock _ _ _, own_keep hr0 fun g _ hg => hw1 g hg, fun w2 v' l' hg hown hloc => ?_⟩
  ·
   simp [Instr.mapEntry, run_underlying ht, MapKept.run_getObj_map hb, K.law.check w false hl, h1, hj, h3, K.law.stays w hl, hsame, MapKept.run_setObj_map _ hb, Result.andThen, setBlock]
  ·
   have hw2 : w2.heap[b]? = some (.map es clock) := (hg.block b (by rw [size_setBlock]; exact hbl) (fun e1 => by have := (hr0.lt b e1.symm).1; omega)).trans (heap_setBlock_it _ _ _ hbl)
   have hb2 : b < w2.heap.size := (Array.getElem?_eq_some_iff.1 hw2).1
   have hidx : es.findIdx? (fun e => ((e.born : Nat) : Int) == ((e0.born : Nat) : Int)) = some j := by
    rw [WideElems.findIdx_arr]
    exact WideElems.findIdx_born s2 h2
   have hset : (es.modify j (fun e => { e with val := v' })).toList = es.toList.set j { e0 with val := v' } := by rw [Array.toList_modify, modify_eq_set _ _ _ _ h2]
   have hmem : ∀ x, x ∈ (es.modify j (fun e => { e with val := v' })).toList → x = { e0 with val := v' } ∨ (x ∈ es.toList ∧ x.key ≠ key z0) := fun x hx => by
    rw [hset] at hx
    obtain ⟨i, hi⟩ := List.mem_iff_getElem?.1 hx
    rw [List.getElem?_set] at hi
    split at hi
    ·
     split at hi
     ·
      exact .inl (Option.some.inj hi).symm
     ·
      cases hi
    ·
     rename_i hji
     refine .inr ⟨List.mem_of_getElem? hi, fun e1 => hji ?_⟩
     have a1 : (es.toList.map (·.key))[i]? = some (key z0) := by rw [List.getElem?_map, hi]; simp [e1]
     have a2 : (es.toList.map (·.key))[j]? = some (key z0) := by rw [List.getElem?_map, h2]; simp [h3]
     have l1 := (List.getElem?_eq_some_iff.1 a1).1
     exact (List.getElem?_inj l1 s3).1 (a1.trans a2.symm) |>.symm
   refine ⟨setBlock w2 b (.map (es.modify j (fun e => { e with val := v' })) clock), ?_, grown_setBlock _ _ _, h0, es.modify j (fun e => { e with val := v' }), clock, heap_setBlock_it _ _ _ hb2, stamped_modify ⟨s1, s2, s3⟩ _ _ (fun _ _ => rfl) (fun _ _ _ => rfl), by simp; omega, ?_, ?_, ?_⟩
   ·
    simp [Instr.entryStore, MapKept.run_getObj_map hw2, asInt, asIntOf, goInt, hidx, MapKept.run_setObj_map _ hw2, Result.andThen, setBlock]
   ·
    intro x hx
    rcases hmem x hx with rfl | ⟨hx, hxk⟩
    ·
     refine ⟨z0, h3, hy, ?_⟩
     simp only [if_pos]
     refine own_keep hown fun g hgb _ => heap_setBlock_other _ _ _ _ ?_
     have := (hown.lt g hgb).1
     omega
    ·
     obtain ⟨z, hz1, hok, hr⟩ := hE x hx
     have hne : z ≠ z0 := fun e1 => hxk (e1 ▸ hz1)
     refine ⟨z, hz1, hok, ?_⟩
     simp only [if_neg hne]
     refine own_keep hr fun g hgb hgl => ?_
     have hgb2 := (hr.lt g hgb).1
     have hap : some g ≠ e0.val.ownBlock := by
      rcases hA x hx e0 hm0 (fun e1 => hxk (e1.trans h3)) with e1 | e1
      ·
       rw [e1] at hgb; cases hgb
      ·
       rw [← hgb]; exact e1
     rw [heap_setBlock_other _ _ _ _ (by omega), hg.block g (by rw [size_setBlock]; exact hgl) hap, heap_setBlock_other _ _ _ _ (by omega)]
   ·
    intro z hzk
    have hin : ({ e0 with val := v' } : MapEntry) ∈ (es.modify j (fun e => { e with val := v' })).toList := by
     rw [hset]
     exact List.mem_set (List.getElem?_eq_some_iff.1 h2).1 _
    by_cases e1 : z = z0
    ·
     subst e1
     exact absurd h3 (hzk ({ e0 with val := v' } : MapEntry) hin)
    ·
     simp only [if_neg e1]
     refine hG z fun x hx e2 => ?_
     obtain ⟨i, hi⟩ := List.mem_iff_getElem?.1 hx
     have hij : i ≠ j := fun e3 => e1 (by
      subst e3
      rw [h2] at hi
      cases hi
      exact (K.inj _ _ (h3.symm.trans e2)).symm)
     refine hzk x ?_ e2
     rw [hset]
     exact List.mem_iff_getElem?.2 ⟨i, by rw [List.getElem?_set_ne (Ne.symm hij)]; exact hi⟩
   ·
    have hnew : ∀ x ∈ es.toList, x.key ≠ key z0 → x.val.ownBlock = none ∨ x.val.ownBlock ≠ v'.ownBlock := fun x hx hxk => by
     obtain ⟨z, _, _, hr⟩ := hE x hx
     rcases hloc with e1 | ⟨g', e1, hg'⟩
     ·
      rw [e1]
      exact hA x hx e0 hm0 (fun e2 => hxk (e2.trans h3))
     ·
      cases hxb : x.val.ownBlock with
      | none => exact .inl rfl
      | some g =>
       have := (hr.lt g hxb).2
       refine .inr ?_
       rw [e1]
       rw [size_setBlock] at hg'
       intro e2
       injection e2 with e2
       omega
    intro x hx z hz2 hne
    rcases hmem x hx with rfl | ⟨hx, hxk⟩ <;> rcases hmem z hz2 with rfl | ⟨hz2, hzk⟩
    ·
     exact absurd rfl hne
    ·
     rcases hnew z hz2 hzk with e1 | e1
     ·
      simp only [e1]
      cases v'.ownBlock with
      | none => exact .inl rfl
      | some g => exact .inr (by simp)
     ·
      exact .inr fun e2 => e1 e2.symm
    ·
     exact hnew x hx hxk
    ·
     exact hA x hx z hz2 hne
end
end Go.Proofs.YtmbgoopkpfhamaaGreat
