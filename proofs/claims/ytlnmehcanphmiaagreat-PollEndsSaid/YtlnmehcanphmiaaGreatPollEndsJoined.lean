/-
  For every script, every bits and every budget the statement PollEnds of layer 17 returns true: a wait has at most as many polls as its budget, a reset of a chip whose durations are below the budget ends well, and what is told has the bits.
-/
import Derived.Test.YtlnmehcanphmiaaGreatRows
import Derived.WalkKit
import Derived.ProofKit
import Derived.OpenShut
import Derived.ShutString
import Derived.ChangeOld
import Derived.Below
import Derived.Test.YtlnmehcanphmiaaGreatPollEndsJ21
import Derived.Test.YtlnmehcanphmiaaGreatPollEndsJ22
namespace Go.Proofs.YtlnmehcanphmiaaGreat.pollEnds
open Go.ChangeShapes Go.WideShapes Go.ChangeAt Go.RowKit
open Go.ChangeMaps (open_string shut_string)
set_option linter.unusedVariables false

theorem own : ownKnob Tryz.prog.godebug = none := by kernel_rfl
theorem laidOut : laidOutB Tryz.prog = true := by kernel_rfl

def IsRow (k : IntKind) (w : World) (a : Option Addr) (len cap : Nat) (zs : List Int) : Prop :=
  (a = none ∧ len = 0 ∧ cap = 0 ∧ zs = []) ∨
  ∃ x, a = some x ∧ len ≤ cap ∧ cap ≤ maxLen ∧ zs.length = cap ∧ (∀ i, i < zs.length → w.cell? (x.add i) = some (.int k (zs.getD i 0))) ∧ ∀ n ∈ zs, (Lit.int k n).wf = true

def IsRows3 (k : IntKind) (w : World) (a : Option Addr) (len cap : Nat) (zs : List Int) : Prop :=
  (a = none ∧ len = 0 ∧ cap = 0 ∧ zs = []) ∨
  ∃ x, a = some x ∧ len ≤ cap ∧ cap ≤ maxLen ∧ zs.length = len * 3 ∧ (∀ i, i < zs.length → w.cell? (x.add i) = some (.int k (zs.getD i 0))) ∧ ∀ n ∈ zs, (Lit.int k n).wf = true

theorem vlist6 (l : Array Value) (h : l.size = 6) : ∃ x0 x1 x2 x3 x4 x5, l = #[x0, x1, x2, x3, x4, x5] := by
  obtain ⟨l⟩ := l
  match l, h with
  | [x0, x1, x2, x3, x4, x5], _ => exact ⟨x0, x1, x2, x3, x4, x5, rfl⟩

theorem walk (a0_0 : Option Addr) (len0_0 cap0_0 : Nat) (z0_0 : List Int) (a0_1 : Option Addr) (len0_1 cap0_1 : Nat) (z0_1 : List Int) (a0_2 : Option Addr) (len0_2 cap0_2 : Nat) (z0_2 : List Int) (a0_3 : Int) (a0_4 : Option Addr) (len0_4 cap0_4 : Nat) (z0_4 : List Int) (a0_5 : Option Addr) (len0_5 cap0_5 : Nat) (z0_5 : List Int) (a1 : Int) (a2 : Int) (w : World) (w0_0 : IsRow .i64 w a0_0 len0_0 cap0_0 z0_0) (w0_1 : IsRow .i64 w a0_1 len0_1 cap0_1 z0_1) (w0_2 : IsRows3 .i64 w a0_2 len0_2 cap0_2 z0_2) (w0_3 : (Lit.int .i64 a0_3).wf = true) (w0_4 : IsRow .u8 w a0_4 len0_4 cap0_4 z0_4) (w0_5 : IsRow .i64 w a0_5 len0_5 cap0_5 z0_5) (w1 : (Lit.int .u8 a1).wf = true) (w2 : (Lit.int .i64 a2).wf = true) :
    Calls Tryz.prog 3 #[.agg #[.slice a0_0 len0_0 cap0_0, .slice a0_1 len0_1 cap0_1, .slice a0_2 len0_2 cap0_2, .int .i64 a0_3, .slice a0_4 len0_4 cap0_4, .slice a0_5 len0_5 cap0_5], .int .u8 a1, .int .i64 a2] w fun e w' => e = .returned (.bool true) ∧ Below w.heap.size w w' := by
  obtain ⟨_, L0, r0⟩ := R64.of_cells w0_0
  obtain ⟨_, L1, r1⟩ := R64.of_cells w0_1
  obtain ⟨_, _, L2, r2⟩ := RN.of_cells w0_2
  obtain ⟨_, L4, r4⟩ := R8.of_cells w0_4
  obtain ⟨_, L5, r5⟩ := R64.of_cells w0_5
  obtain rfl := r0.len
  obtain rfl := r1.len
  obtain rfl := r2.len
  obtain rfl := r4.len
  obtain rfl := r5.len
  have h1 : 0 ≤ a1 ∧ a1 ≤ 255 := by simpa [Lit.wf, IntKind.min, IntKind.max, IntKind.signed, IntKind.bits] using w1
  have h2 : -9223372036854775808 ≤ a2 ∧ a2 ≤ 9223372036854775807 := by simpa [Lit.wf, IntKind.min, IntKind.max, IntKind.signed, IntKind.bits] using w2
  exact PollEnds_walk ⟨a0_0, cap0_0, a0_1, cap0_1, a0_2, cap0_2, a0_4, cap0_4, a0_5, cap0_5⟩ ⟨L0, L1, L2, a0_3, L4, L5⟩ a1 a2 w ⟨r0, r1, r2, r4, r5⟩ ⟨h1.1, by omega⟩ h2

set_option maxRecDepth 100000 in
theorem lifted (os : Os) (started : os.Started) (H : Type) (enc : TypeId × Value → H) :
    ReturnsInHanded {} Tryz.checked os 3 .any (Rows.pollEndsSpec.pre6 enc Tryz.prog Tryz.f3 Rows.pollEndsRow.domain false) (Rows.pollEndsSpec.post enc Tryz.prog Tryz.f3 false true false false) := by
  refine returnsInHanded_of_change (C := Tryz.checked) own started (by kernel_rfl) Tryz.func3
    (ChangeSpec.witness6 (enc := enc) (C := Tryz.checked) false ⟨#[], #[.agg #[.slice none 0 0, .slice none 0 0, .slice none 0 0, .int .i64 0, .slice none 0 0, .slice none 0 0], .int .u8 0, .int .i64 0], []⟩ 8 (by kernel_rfl) (by kernel_rfl) (by kernel_rfl) (by kernel_rfl)) ?_
  intro W base args ds gs before hval0 hW hcnd _
  have hval : ∀ (j : Nat) t v, Tryz.f3.params[j]? = some t → args[j]? = some v → Value.okWide Tryz.prog W .any base t v := hval0
  have hW' := hW
  obtain ⟨p, q, hA0, hV, rfl, hfz, hnd⟩ := hW
  have hA : DataW.TrodAll enc Tryz.prog W 0 (fun _ => true) true Tryz.f3.params.toList args.toList ds p := hA0
  rw [Tryz.params3] at hA hval
  obtain ⟨v0, vs0, d0, ds0, p0, q0, hargs, rfl, rfl, h0, r0⟩ := trodAll_cons hA
  obtain ⟨v1, vs1, d1, ds1, p1, q1, rfl, rfl, rfl, h1, r1⟩ := trodAll_cons r0
  obtain ⟨v2, vs2, d2, ds2, p2, q2, rfl, rfl, rfl, h2, r2⟩ := trodAll_cons r1
  obtain ⟨rfl, rfl, rfl⟩ := trodAll_nil r2
  obtain rfl : args = #[v0, v1, v2] := by cases args; simp_all
  obtain ⟨rfl, rfl⟩ := trodVars_none hV
  have k0 := h0
  have lt0 : ∀ x ∈ p0, x.block < W.heap.size := by obtain ⟨m, hm⟩ := k0; exact DataW.trod_lt m _ _ _ hm
  obtain ⟨cs0, rfl, hsz0⟩ := okWide_struct Tryz.underlying26 (hval 0 26 v0 rfl rfl)
  obtain ⟨c0_0, c0_1, c0_2, c0_3, c0_4, c0_5, rfl⟩ := vlist6 cs0 (hsz0.trans (by kernel_rfl))
  obtain ⟨fu0, hf0⟩ := h0
  obtain ⟨n0_0_22, y0_0_22, e0_0_22⟩ := field_at Tryz.underlying26 hf0 0 _ rfl [c0_0] (by kernel_rfl)
  obtain ⟨a0_0, len0_0, cap0_0, z0_0, rfl, w0_0⟩ := encrow_at Tryz.underlying22 Tryz.underlying3 (by kernel_rfl) e0_0_22
  simp only [if_true] at w0_0
  obtain ⟨n0_1_22, y0_1_22, e0_1_22⟩ := field_at Tryz.underlying26 hf0 1 _ rfl [c0_1] (by kernel_rfl)
  obtain ⟨a0_1, len0_1, cap0_1, z0_1, rfl, w0_1⟩ := encrow_at Tryz.underlying22 Tryz.underlying3 (by kernel_rfl) e0_1_22
  simp only [if_true] at w0_1
  obtain ⟨n0_2_23, y0_2_23, e0_2_23⟩ := field_at Tryz.underlying26 hf0 2 _ rfl [c0_2] (by kernel_rfl)
  obtain ⟨a0_2, len0_2, cap0_2, z0_2, rfl, w0_2⟩ := rows_at Tryz.underlying23 Tryz.underlying94 Tryz.underlying3 (by kernel_rfl) (by kernel_rfl) (by kernel_rfl) (by decide) e0_2_23
  obtain ⟨n0_3_3, y0_3_3, e0_3_3⟩ := field_at Tryz.underlying26 hf0 3 _ rfl [c0_3] (by kernel_rfl)
  obtain ⟨a0_3, rfl, w0_3⟩ := int_at Tryz.underlying3 e0_3_3
  obtain ⟨n0_4_24, y0_4_24, e0_4_24⟩ := field_at Tryz.underlying26 hf0 4 _ rfl [c0_4] (by kernel_rfl)
  obtain ⟨a0_4, len0_4, cap0_4, z0_4, rfl, w0_4⟩ := encrow_at Tryz.underlying24 Tryz.underlying5 (by kernel_rfl) e0_4_24
  simp only [if_true] at w0_4
  obtain ⟨n0_5_22, y0_5_22, e0_5_22⟩ := field_at Tryz.underlying26 hf0 5 _ rfl [c0_5] (by kernel_rfl)
  obtain ⟨a0_5, len0_5, cap0_5, z0_5, rfl, w0_5⟩ := encrow_at Tryz.underlying22 Tryz.underlying3 (by kernel_rfl) e0_5_22
  simp only [if_true] at w0_5
  obtain ⟨a1, rfl, rfl, rfl, w1⟩ := open_int Tryz.underlying5 (hval 1 5 v1 rfl rfl) h1
  obtain ⟨a2, rfl, rfl, rfl, w2⟩ := open_int Tryz.underlying3 (hval 2 3 v2 rfl rfl) h2
  clear hA0 hval0
  refine (walk a0_0 len0_0 cap0_0 z0_0 a0_1 len0_1 cap0_1 z0_1 a0_2 len0_2 cap0_2 z0_2 a0_3 a0_4 len0_4 cap0_4 z0_4 a0_5 len0_5 cap0_5 z0_5 a1 a2 W w0_0 w0_1 w0_2 w0_3 w0_4 w0_5 w1 w2).mono fun e W' ⟨he, bel⟩ => ?_
  subst he
  exact ⟨_, rfl, _, _, _, [], _, [], hW', trodAll_mk1 (shut_bool Tryz.underlying4 _), (trodAll_cons_mk (Below.trod laidOut (by kernel_rfl) (of_decide_eq_true (by kernel_rfl)) k0 bel lt0) (trodAll_cons_mk (shut_int Tryz.underlying5 w1) (trodAll_cons_mk (shut_int Tryz.underlying3 w2) trodAll_mk0))), rfl, bel.frame _, fun h => by cases h⟩

theorem over : Rows.pollEndsRow.holds Tryz.pinned (OpenSpec.ofChange Rows.pollEndsSpec) :=
  OpenClaim.holds_of_wide 3 Tryz.f3 rfl rfl rfl rfl rfl rfl rfl ⟨rfl, rfl, rfl, rfl, rfl⟩ rfl rfl rfl rfl rfl (by kernel_rfl) Tryz.func3 (by kernel_rfl)
    (of_decide_eq_true (by kernel_rfl)) (by unfold Func.isWrapper; first | (rw [if_pos (by decide +kernel)]; kernel_rfl) | (rw [if_neg (by decide +kernel)]; exact ⟨rfl, rfl⟩))
    (fun os started H enc _ => lifted os started H enc)

theorem proved : Rows.PollEndsSaid := over
#print axioms proved
end Go.Proofs.YtlnmehcanphmiaaGreat.pollEnds
