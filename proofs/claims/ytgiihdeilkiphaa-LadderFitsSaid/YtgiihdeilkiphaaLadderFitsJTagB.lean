/-
  Contracts of tag.Put and of the document's Put (package incunableref07), over the landed code.
-/
import Derived.Deep.RegionHeld3
import Derived.Test.YtgiihdeilkiphaaLadderFitsJ5
namespace Go.Proofs.Ytgiihdeilkiphaa
open Go.RowKit
set_option maxRecDepth 100000

theorem Tg.nums_fit {t : Tg} (h : t.fit) : ∀ x ∈ [0, t.k, t.s, t.q, t.e, 0], -9223372036854775808 ≤ x ∧ x ≤ 9223372036854775807 := by
  unfold Tg.fit at h
  intro x hx
  simp only [List.mem_cons, List.not_mem_nil, or_false] at hx
  omega
theorem R64.drew {w : World} {A : Option Addr} {n : Nat} {z : List Int} (h : R64 w A n z) : R64 w.drew A n z := h
theorem PutsB.of {l : List Nat} {er : Int} {w w' : World} {A : Option Addr} {n c : Nat} (hl : l.length = n) (h : R8 w' A n l) (hb : Below w.heap.size w w') (hc : n ≤ c) (hn : A = none → c = 0) : PutsB l er w (.returned (.tuple #[.slice A n c, .int .i64 er])) w' := by
  subst hl
  exact ⟨A, c, rfl, h, hb, hc, hn⟩
theorem MakesB.of {l : List Nat} {w w' : World} {A : Option Addr} {n c : Nat} (hl : l.length = n) (h : R8 w' A n l) (hb : Below w.heap.size w w') : MakesB l w (.returned (.slice A n c)) w' := by
  subst hl
  exact ⟨A, c, rfl, h, hb⟩
theorem own_mono {w : World} {base base' : Nat} {e : TypeId} {k : Nat} {v : Value} {n : Nat} {xs : List Value} (h : w.ownsRow base e k v n xs) (hb : base' ≤ base) : w.ownsRow base' e k v n xs := by
  refine ⟨h.1, ?_⟩
  rcases h.2 with h0 | ⟨g, cap, cur, hv, hbase, hr⟩
  · exact .inl h0
  · exact .inr ⟨g, cap, cur, hv, Nat.le_trans hb hbase, hr⟩
theorem OwnsB.of {e0 : TypeId} {l : List Nat} {w w' : World} {A : Option Addr} {n c : Nat} (hl : l.length = n) (h : w'.ownsRow w.heap.size e0 1 (.slice A n c) n (U8 l)) (hb : Below w.heap.size w w') : OwnsB e0 l w (.returned (.slice A n c)) w' := by
  subst hl
  exact ⟨A, c, rfl, h, hb⟩

end Go.Proofs.Ytgiihdeilkiphaa
