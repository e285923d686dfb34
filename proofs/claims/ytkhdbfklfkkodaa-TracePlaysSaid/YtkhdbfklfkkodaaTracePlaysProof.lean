/-
  The law TracePlays returns true for every input, and each argument reads afterwards as it read before: for every world, without a condition.
-/
import Derived.Test.YtkhdbfklfkkodaaRows
import Derived.Test.YtkhdbfklfkkodaaTrPlays
import Derived.Test.YtkhdbfklfkkodaaArr
import Derived.WalkKit
import Derived.WalkKit
import Derived.WalkKit
import Derived.Test.YtkhdbfklfkkodaaArrD
import Derived.WalkKit
import Derived.WalkKit
import Derived.ProofKit
import Derived.OpenShut
import Derived.ShutString
import Derived.ChangeOld
import Derived.Below
namespace Go.Proofs.Ytkhdbfklfkkodaa.tracePlays
open Go.ChangeShapes Go.WideShapes Go.ChangeAt Go.RowKit
open Go.ChangeMaps (open_string shut_string)
set_option linter.unusedVariables false

theorem own : ownKnob Try.prog.godebug = none := by kernel_rfl
theorem laidOut : laidOutB Try.prog = true := by kernel_rfl

def IsRow (k : IntKind) (w : World) (a : Option Addr) (len cap : Nat) (zs : List Int) : Prop :=
  (a = none ∧ len = 0 ∧ cap = 0 ∧ zs = []) ∨
  ∃ x, a = some x ∧ len ≤ cap ∧ cap ≤ maxLen ∧ zs.length = cap ∧ (∀ i, i < zs.length → w.cell? (x.add i) = some (.int k (zs.getD i 0))) ∧ ∀ n ∈ zs, (Lit.int k n).wf = true

def IsDos (ks : List IntKind) (w : World) (a : Option Addr) (len cap : Nat) (S : Nat → ByteArray) (R : Nat → Option Addr) (N C : Nat → Nat) (Z : Nat → Nat → Nat → Int) : Prop :=
  (a = none ∧ len = 0 ∧ cap = 0) ∨
  ∃ x, a = some x ∧ len ≤ cap ∧ cap ≤ maxLen ∧ ∀ r, r < cap → w.cell? (x.add (r * 2)) = some (.string (S r)) ∧ (S r).size ≤ maxLen ∧ w.cell? (x.add (r * 2 + 1)) = some (.slice (R r) (N r) (C r)) ∧
    ((R r = none ∧ N r = 0 ∧ C r = 0) ∨ ∃ y, R r = some y ∧ N r ≤ C r ∧ C r ≤ maxLen ∧ ∀ q, q < C r → ∀ j k, ks[j]? = some k → w.cell? (y.add (q * ks.length + j)) = some (.int k (Z r q j)) ∧ (Lit.int k (Z r q j)).wf = true)

theorem walk (a0 : Option Addr) (len0 cap0 : Nat) (S0 : Nat → ByteArray) (R0 : Nat → Option Addr) (N0 C0 : Nat → Nat) (Z0 : Nat → Nat → Nat → Int) (w : World) (w0 : IsDos [IntKind.i64, IntKind.u8] w a0 len0 cap0 S0 R0 N0 C0 Z0) :
    Calls Try.prog 3 #[.slice a0 len0 cap0] w fun e w' => e = .returned (.bool true) ∧ Below w.heap.size w w' := by
  obtain ⟨hn, hA, hc, l, hl⟩ := RD.of_dos w0
  exact TracePlays_walk _ _ _ l w hl hc hA hn

set_option maxRecDepth 100000 in
theorem lifted (os : Os) (started : os.Started) (H : Type) (enc : TypeId × Value → H) :
    ReturnsInHanded {} Try.checked os 3 .any (Rows.tracePlaysSpec.pre6 enc Try.prog Try.f3 Rows.tracePlaysRow.domain false) (Rows.tracePlaysSpec.post enc Try.prog Try.f3 false true false false) := by
  refine returnsInHanded_of_change (C := Try.checked) own started (by kernel_rfl) Try.func3
    (ChangeSpec.witness6 (enc := enc) (C := Try.checked) false ⟨#[], #[.slice none 0 0], []⟩ 8 (by kernel_rfl) (by kernel_rfl) (by kernel_rfl) (by kernel_rfl)) ?_
  intro W base args ds gs before hval0 hW hcnd _
  have hval : ∀ (j : Nat) t v, Try.f3.params[j]? = some t → args[j]? = some v → Value.okWide Try.prog W .any base t v := hval0
  have hW' := hW
  obtain ⟨p, q, hA0, hV, rfl, hfz, hnd⟩ := hW
  have hA : DataW.TrodAll enc Try.prog W 0 (fun _ => true) true Try.f3.params.toList args.toList ds p := hA0
  rw [Try.params3] at hA hval
  obtain ⟨v0, vs0, d0, ds0, p0, q0, hargs, rfl, rfl, h0, r0⟩ := trodAll_cons hA
  obtain ⟨rfl, rfl, rfl⟩ := trodAll_nil r0
  obtain rfl : args = #[v0] := by cases args; simp_all
  obtain ⟨rfl, rfl⟩ := trodVars_none hV
  obtain ⟨a0, len0, cap0, rfl⟩ := okWide_slice Try.underlying22 (hval 0 22 v0 rfl rfl)
  have k0 := h0
  have lt0 : ∀ x ∈ p0, x.block < W.heap.size := by obtain ⟨m, hm⟩ := k0; exact DataW.trod_lt m _ _ _ hm
  obtain ⟨S0, R0, N0, C0, Z0, w0⟩ : ∃ S R N C Z, IsDos [IntKind.i64, IntKind.u8] W a0 len0 cap0 S R N C Z := by
    obtain ⟨fuel, hf⟩ := h0
    rcases open_slice_named (ks := [IntKind.i64, IntKind.u8]) Try.underlying22 Try.underlying28 (by kernel_rfl) rfl rfl (by kernel_rfl) Try.underlying9 rfl rfl (by kernel_rfl) rfl Try.underlying26 Try.underlying38 (by kernel_rfl) (by
        intro j k h
        match j, h with
        | 0, h =>
          obtain rfl := Option.some.inj h
          exact ⟨_, rfl, rfl, by kernel_rfl, Try.underlying3⟩
        | 1, h =>
          obtain rfl := Option.some.inj h
          exact ⟨_, rfl, rfl, by kernel_rfl, Try.underlying5⟩
        | _ + 2, h => simp at h) hf with hcs | ⟨x, l, c, S, R, N, C, Z, hcs, hl, hm, hz⟩
    · simp [Value.cells] at hcs
      obtain ⟨rfl, rfl, rfl⟩ := hcs
      exact ⟨fun _ => ⟨#[]⟩, fun _ => none, fun _ => 0, fun _ => 0, fun _ _ _ => 0, .inl ⟨rfl, rfl, rfl⟩⟩
    · simp [Value.cells] at hcs
      obtain ⟨rfl, rfl, rfl⟩ := hcs
      refine ⟨S, R, N, C, Z, .inr ⟨_, rfl, hl, hm, fun r hr => ?_⟩⟩
      obtain ⟨z0, z1, z2, z3⟩ := hz r (by simpa using hr)
      refine ⟨z0, z1, z2, z3.imp id ?_⟩
      rintro ⟨y, y0, y1, y2, y3⟩
      exact ⟨y, y0, y1, y2, fun q hq => y3 q (by simpa using hq)⟩
  clear hA0 hval0
  refine (walk a0 len0 cap0 S0 R0 N0 C0 Z0 W w0).mono fun e W' ⟨he, bel⟩ => ?_
  subst he
  exact ⟨_, rfl, _, _, _, [], _, [], hW', trodAll_mk1 (shut_bool Try.underlying4 _), (trodAll_cons_mk (Below.trod laidOut (by kernel_rfl) (of_decide_eq_true (by kernel_rfl)) k0 bel lt0) trodAll_mk0), rfl, bel.frame _, fun h => by cases h⟩

theorem over : Rows.tracePlaysRow.holds Try.pinned (OpenSpec.ofChange Rows.tracePlaysSpec) :=
  OpenClaim.holds_of_wide 3 Try.f3 rfl rfl rfl rfl rfl rfl rfl ⟨rfl, rfl, rfl, rfl, rfl⟩ rfl rfl rfl rfl rfl (by kernel_rfl) Try.func3 (by kernel_rfl)
    (of_decide_eq_true (by kernel_rfl)) (by unfold Func.isWrapper; first | (rw [if_pos (by decide +kernel)]; kernel_rfl) | (rw [if_neg (by decide +kernel)]; exact ⟨rfl, rfl⟩))
    (fun os started H enc _ => lifted os started H enc)

theorem proved : Rows.TracePlaysSaid := over
#print axioms proved
end Go.Proofs.Ytkhdbfklfkkodaa.tracePlays
