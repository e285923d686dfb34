/-
  For any two lists of cycles the statement PollParts of layer 17 returns true: polls of two lists, the second of which begins with no Read, are together those of both, no more than Reads, and none without the command 70.
-/
import Derived.Test.YtlnmehcanphmiaaGreatRows
import Derived.WalkKit
import Derived.ProofKit
import Derived.OpenShut
import Derived.ShutString
import Derived.ChangeOld
import Derived.Below
import Derived.Test.YtlnmehcanphmiaaGreatPollPartsJ21
import Derived.Test.YtlnmehcanphmiaaGreatPollPartsJ22
namespace Go.Proofs.YtlnmehcanphmiaaGreat.pollParts
open Go.ChangeShapes Go.WideShapes Go.ChangeAt Go.RowKit
open Go.ChangeMaps (open_string shut_string)
set_option linter.unusedVariables false

theorem own : ownKnob Tryz.prog.godebug = none := by kernel_rfl
theorem laidOut : laidOutB Tryz.prog = true := by kernel_rfl

def IsRow (k : IntKind) (w : World) (a : Option Addr) (len cap : Nat) (zs : List Int) : Prop :=
  (a = none ∧ len = 0 ∧ cap = 0 ∧ zs = []) ∨
  ∃ x, a = some x ∧ len ≤ cap ∧ cap ≤ maxLen ∧ zs.length = cap ∧ (∀ i, i < zs.length → w.cell? (x.add i) = some (.int k (zs.getD i 0))) ∧ ∀ n ∈ zs, (Lit.int k n).wf = true

def IsKinds (ks : List IntKind) (w : World) (a : Option Addr) (len cap : Nat) (Z : Nat → Nat → Int) : Prop :=
  (a = none ∧ len = 0 ∧ cap = 0) ∨
  ∃ x, a = some x ∧ len ≤ cap ∧ cap ≤ maxLen ∧ ∀ r, r < cap → ∀ j k, ks[j]? = some k → w.cell? (x.add (r * ks.length + j)) = some (.int k (Z r j)) ∧ (Lit.int k (Z r j)).wf = true

theorem walk (a0 : Option Addr) (len0 cap0 : Nat) (Z0 : Nat → Nat → Int) (a1 : Option Addr) (len1 cap1 : Nat) (Z1 : Nat → Nat → Int) (w : World) (w0 : IsKinds [IntKind.i64, IntKind.u8] w a0 len0 cap0 Z0) (w1 : IsKinds [IntKind.i64, IntKind.u8] w a1 len1 cap1 Z1) :
    Calls Tryz.prog 4 #[.slice a0 len0 cap0, .slice a1 len1 cap1] w fun e w' => e = .returned (.bool true) ∧ Below w.heap.size w w' := by
  obtain ⟨hn, hA, _, a, ha⟩ := RC.of_kinds w0
  obtain ⟨hm, hB, _, b, hb⟩ := RC.of_kinds w1
  exact PollParts_walk _ _ _ _ _ _ a b w ha hb hn hm hA hB

set_option maxRecDepth 100000 in
theorem lifted (os : Os) (started : os.Started) (H : Type) (enc : TypeId × Value → H) :
    ReturnsInHanded {} Tryz.checked os 4 .any (Rows.pollPartsSpec.pre6 enc Tryz.prog Tryz.f4 Rows.pollPartsRow.domain false) (Rows.pollPartsSpec.post enc Tryz.prog Tryz.f4 false true false false) := by
  refine returnsInHanded_of_change (C := Tryz.checked) own started (by kernel_rfl) Tryz.func4
    (ChangeSpec.witness6 (enc := enc) (C := Tryz.checked) false ⟨#[], #[.slice none 0 0, .slice none 0 0], []⟩ 8 (by kernel_rfl) (by kernel_rfl) (by kernel_rfl) (by kernel_rfl)) ?_
  intro W base args ds gs before hval0 hW hcnd _
  have hval : ∀ (j : Nat) t v, Tryz.f4.params[j]? = some t → args[j]? = some v → Value.okWide Tryz.prog W .any base t v := hval0
  have hW' := hW
  obtain ⟨p, q, hA0, hV, rfl, hfz, hnd⟩ := hW
  have hA : DataW.TrodAll enc Tryz.prog W 0 (fun _ => true) true Tryz.f4.params.toList args.toList ds p := hA0
  rw [Tryz.params4] at hA hval
  obtain ⟨v0, vs0, d0, ds0, p0, q0, hargs, rfl, rfl, h0, r0⟩ := trodAll_cons hA
  obtain ⟨v1, vs1, d1, ds1, p1, q1, rfl, rfl, rfl, h1, r1⟩ := trodAll_cons r0
  obtain ⟨rfl, rfl, rfl⟩ := trodAll_nil r1
  obtain rfl : args = #[v0, v1] := by cases args; simp_all
  obtain ⟨rfl, rfl⟩ := trodVars_none hV
  obtain ⟨a0, len0, cap0, rfl⟩ := okWide_slice Tryz.underlying34 (hval 0 34 v0 rfl rfl)
  have k0 := h0
  have lt0 : ∀ x ∈ p0, x.block < W.heap.size := by obtain ⟨m, hm⟩ := k0; exact DataW.trod_lt m _ _ _ hm
  obtain ⟨Z0, w0⟩ : ∃ Z, IsKinds [IntKind.i64, IntKind.u8] W a0 len0 cap0 Z := by
    obtain ⟨fuel, hf⟩ := h0
    rcases open_slice_kinds (ks := [IntKind.i64, IntKind.u8]) Tryz.underlying34 Tryz.underlying40 (by kernel_rfl) (by
        intro j k h
        match j, h with
        | 0, h =>
          obtain rfl := Option.some.inj h
          exact ⟨_, rfl, rfl, by kernel_rfl, Tryz.underlying3⟩
        | 1, h =>
          obtain rfl := Option.some.inj h
          exact ⟨_, rfl, rfl, by kernel_rfl, Tryz.underlying5⟩
        | _ + 2, h => simp at h) hf with hcs | ⟨x, l, c, Z, hcs, hl, hm, hz⟩
    · simp [Value.cells] at hcs
      obtain ⟨rfl, rfl, rfl⟩ := hcs
      exact ⟨fun _ _ => 0, .inl ⟨rfl, rfl, rfl⟩⟩
    · simp [Value.cells] at hcs
      obtain ⟨rfl, rfl, rfl⟩ := hcs
      exact ⟨Z, .inr ⟨_, rfl, hl, hm, fun r hr => hz r (by simpa using hr)⟩⟩
  obtain ⟨a1, len1, cap1, rfl⟩ := okWide_slice Tryz.underlying34 (hval 1 34 v1 rfl rfl)
  have k1 := h1
  have lt1 : ∀ x ∈ p1, x.block < W.heap.size := by obtain ⟨m, hm⟩ := k1; exact DataW.trod_lt m _ _ _ hm
  obtain ⟨Z1, w1⟩ : ∃ Z, IsKinds [IntKind.i64, IntKind.u8] W a1 len1 cap1 Z := by
    obtain ⟨fuel, hf⟩ := h1
    rcases open_slice_kinds (ks := [IntKind.i64, IntKind.u8]) Tryz.underlying34 Tryz.underlying40 (by kernel_rfl) (by
        intro j k h
        match j, h with
        | 0, h =>
          obtain rfl := Option.some.inj h
          exact ⟨_, rfl, rfl, by kernel_rfl, Tryz.underlying3⟩
        | 1, h =>
          obtain rfl := Option.some.inj h
          exact ⟨_, rfl, rfl, by kernel_rfl, Tryz.underlying5⟩
        | _ + 2, h => simp at h) hf with hcs | ⟨x, l, c, Z, hcs, hl, hm, hz⟩
    · simp [Value.cells] at hcs
      obtain ⟨rfl, rfl, rfl⟩ := hcs
      exact ⟨fun _ _ => 0, .inl ⟨rfl, rfl, rfl⟩⟩
    · simp [Value.cells] at hcs
      obtain ⟨rfl, rfl, rfl⟩ := hcs
      exact ⟨Z, .inr ⟨_, rfl, hl, hm, fun r hr => hz r (by simpa using hr)⟩⟩
  clear hA0 hval0
  refine (walk a0 len0 cap0 Z0 a1 len1 cap1 Z1 W w0 w1).mono fun e W' ⟨he, bel⟩ => ?_
  subst he
  exact ⟨_, rfl, _, _, _, [], _, [], hW', trodAll_mk1 (shut_bool Tryz.underlying4 _), (trodAll_cons_mk (Below.trod laidOut (by kernel_rfl) (of_decide_eq_true (by kernel_rfl)) k0 bel lt0) (trodAll_cons_mk (Below.trod laidOut (by kernel_rfl) (of_decide_eq_true (by kernel_rfl)) k1 bel lt1) trodAll_mk0)), rfl, bel.frame _, fun h => by cases h⟩

theorem over : Rows.pollPartsRow.holds Tryz.pinned (OpenSpec.ofChange Rows.pollPartsSpec) :=
  OpenClaim.holds_of_wide 4 Tryz.f4 rfl rfl rfl rfl rfl rfl rfl ⟨rfl, rfl, rfl, rfl, rfl⟩ rfl rfl rfl rfl rfl (by kernel_rfl) Tryz.func4 (by kernel_rfl)
    (of_decide_eq_true (by kernel_rfl)) (by unfold Func.isWrapper; first | (rw [if_pos (by decide +kernel)]; kernel_rfl) | (rw [if_neg (by decide +kernel)]; exact ⟨rfl, rfl⟩))
    (fun os started H enc _ => lifted os started H enc)

theorem proved : Rows.PollPartsSaid := over
#print axioms proved
end Go.Proofs.YtlnmehcanphmiaaGreat.pollParts
