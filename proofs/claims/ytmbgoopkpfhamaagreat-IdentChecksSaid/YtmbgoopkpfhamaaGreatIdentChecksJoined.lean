/-
  For every two geometries, script and budget of polls: what the landed ident answers of a chip of the first geometry behind a reset is as the statement asks (its own geometry is accepted, if its durations are below the budget, and no other one; its name and its geometry), and the landed judge takes all that was sent. No conditions.
-/
import Derived.Test.YtmbgoopkpfhamaaGreatRows
import Derived.WalkKit
import Derived.ProofKit
import Derived.OpenShut
import Derived.ShutString
import Derived.ChangeOld
import Derived.Below
import Derived.Test.YtmbgoopkpfhamaaGreatIdentChecksJIdentChecks
import Derived.Test.YtmbgoopkpfhamaaGreatIdentChecksJ25
namespace Go.Proofs.YtmbgoopkpfhamaaGreat.identChecks
open Go.ChangeShapes Go.WideShapes Go.ChangeAt Go.RowKit
open Go.ChangeMaps (open_string shut_string)
set_option linter.unusedVariables false
theorem own : ownKnob Tryz.prog.godebug = none := by kernel_rfl
theorem laidOut : laidOutB Tryz.prog = true := by kernel_rfl
def IsRow (k : IntKind) (w : World) (a : Option Addr) (len cap : Nat) (zs : List Int) : Prop :=
 (a = none ∧ len = 0 ∧ cap = 0 ∧ zs = []) ∨
 ∃ x, a = some x ∧ len ≤ cap ∧ cap ≤ maxLen ∧ zs.length = cap ∧ (∀ i, i < zs.length → w.cell? (x.add i) = some (.int k (zs.getD i 0))) ∧ ∀ n ∈ zs, (Lit.int k n).wf = true
def IsRows3 (k : IntKind) (w : World) (a : Option Addr) (len cap : Nat) (zs : List Int) : Prop :=
 (a = none ∧ len = 0 ∧ cap = 0 ∧ zs = []) ∨
 ∃ x, a = some x ∧ len ≤ cap ∧ cap ≤ maxLen ∧ zs.length = len * 3 ∧ (∀ i, i < zs.length → w.cell? (x.add i) = some (.int k (zs.getD i 0))) ∧ ∀ n ∈ zs, (Lit.int k n).wf = true
theorem list7 (l : List Int) (h : l.length = 7) : ∃ x0 x1 x2 x3 x4 x5 x6, l = [x0, x1, x2, x3, x4, x5, x6] := by
 match l, h with
 | [x0, x1, x2, x3, x4, x5, x6], _ => exact ⟨x0, x1, x2, x3, x4, x5, x6, rfl⟩
theorem vlist7 (l : Array Value) (h : l.size = 7) : ∃ x0 x1 x2 x3 x4 x5 x6, l = #[x0, x1, x2, x3, x4, x5, x6] := by
 obtain ⟨l⟩ := l
 match l, h with
 | [x0, x1, x2, x3, x4, x5, x6], _ => exact ⟨x0, x1, x2, x3, x4, x5, x6, rfl⟩
theorem walk (a0_0 a0_1 a0_2 a0_3 a0_4 a0_5 a0_6 : Int) (a1_0 a1_1 a1_2 a1_3 a1_4 a1_5 a1_6 : Int) (a2_0 : Option Addr) (len2_0 cap2_0 : Nat) (z2_0 : List Int) (a2_1 : Option Addr) (len2_1 cap2_1 : Nat) (z2_1 : List Int) (a2_2 : Option Addr) (len2_2 cap2_2 : Nat) (z2_2 : List Int) (a2_3 : Int) (a2_4 : Option Addr) (len2_4 cap2_4 : Nat) (z2_4 : List Int) (a2_5 : Option Addr) (len2_5 cap2_5 : Nat) (z2_5 : List Int) (a2_6 : Int) (w : World) (w0_0 : (Lit.int .i64 a0_0).wf = true) (w0_1 : (Lit.int .i64 a0_1).wf = true) (w0_2 : (Lit.int .i64 a0_2).wf = true) (w0_3 : (Lit.int .i64 a0_3).wf = true) (w0_4 : (Lit.int .i64 a0_4).wf = true) (w0_5 : (Lit.int .i64 a0_5).wf = true) (w0_6 : (Lit.int .i64 a0_6).wf = true) (w1_0 : (Lit.int .i64 a1_0).wf = true) (w1_1 : (Lit.int .i64 a1_1).wf = true) (w1_2 : (Lit.int .i64 a1_2).wf = true) (w1_3 : (Lit.int .i64 a1_3).wf = true) (w1_4 : (Lit.int .i64 a1_4).wf = true) (w1_5 : (Lit.int .i64 a1_5).wf = true) (w1_6 : (Lit.int .i64 a1_6).wf = true) (w2_0 : IsRow .i64 w a2_0 len2_0 cap2_0 z2_0) (w2_1 : IsRow .i64 w a2_1 len2_1 cap2_1 z2_1) (w2_2 : IsRows3 .i64 w a2_2 len2_2 cap2_2 z2_2) (w2_3 : (Lit.int .i64 a2_3).wf = true) (w2_4 : IsRow .u8 w a2_4 len2_4 cap2_4 z2_4) (w2_5 : IsRow .i64 w a2_5 len2_5 cap2_5 z2_5) (w2_6 : (Lit.int .i64 a2_6).wf = true) :
  Calls Tryz.prog 3 #[.agg #[.int .i64 a0_0, .int .i64 a0_1, .int .i64 a0_2, .int .i64 a0_3, .int .i64 a0_4, .int .i64 a0_5, .int .i64 a0_6], .agg #[.int .i64 a1_0, .int .i64 a1_1, .int .i64 a1_2, .int .i64 a1_3, .int .i64 a1_4, .int .i64 a1_5, .int .i64 a1_6], .agg #[.slice a2_0 len2_0 cap2_0, .slice a2_1 len2_1 cap2_1, .slice a2_2 len2_2 cap2_2, .int .i64 a2_3, .slice a2_4 len2_4 cap2_4, .slice a2_5 len2_5 cap2_5, .int .i64 a2_6]] w fun e w' => e = .returned (.bool true) ∧ Below w.heap.size w w' := by
 obtain ⟨_, L0, r0⟩ := R64.of_cells w2_0
 obtain ⟨_, L1, r1⟩ := R64.of_cells w2_1
 obtain ⟨_, _, L2, r2⟩ := RN.of_cells w2_2
 obtain ⟨_, L4, r4⟩ := R8.of_cells w2_4
 obtain ⟨_, L5, r5⟩ := R64.of_cells w2_5
 obtain rfl := r0.len
 obtain rfl := r1.len
 obtain rfl := r2.len
 obtain rfl := r4.len
 obtain rfl := r5.len
 have h2 : -9223372036854775808 ≤ a2_6 ∧ a2_6 ≤ 9223372036854775807 := by simpa [Lit.wf, IntKind.min, IntKind.max, IntKind.signed, IntKind.bits] using w2_6
 exact IdentChecks_walk ⟨a0_0, a0_1, a0_2, a0_3, a0_4, a0_5, a0_6⟩ ⟨a1_0, a1_1, a1_2, a1_3, a1_4, a1_5, a1_6⟩ ⟨a2_0, cap2_0, a2_1, cap2_1, a2_2, cap2_2, a2_4, cap2_4, a2_5, cap2_5⟩ ⟨L0, L1, L2, a2_3, L4, L5⟩ a2_6 w ⟨r0, r1, r2, r4, r5⟩ h2
set_option maxRecDepth 100000 in
theorem lifted (os : Os) (started : os.Started) (H : Type) (enc : TypeId × Value → H) :
  ReturnsInHanded {} Tryz.checked os 3 .any (Rows.identChecksSpec.pre6 enc Tryz.prog Tryz.f3 Rows.identChecksRow.domain false) (Rows.identChecksSpec.post enc Tryz.prog Tryz.f3 false true false false) := by
 refine returnsInHanded_of_change (C := Tryz.checked) own started (by kernel_rfl) Tryz.func3
  (ChangeSpec.witness6 (enc := enc) (C := Tryz.checked) false ⟨#[], #[.agg #[.int .i64 0, .int .i64 0, .int .i64 0, .int .i64 0, .int .i64 0, .int .i64 0, .int .i64 0], .agg #[.int .i64 0, .int .i64 0, .int .i64 0, .int .i64 0, .int .i64 0, .int .i64 0, .int .i64 0], .agg #[.slice none 0 0, .slice none 0 0, .slice none 0 0, .int .i64 0, .slice none 0 0, .slice none 0 0, .int .i64 0]], []⟩ 8 (by kernel_rfl) (by kernel_rfl) (by kernel_rfl) (by kernel_rfl)) ?_
 intro W base args ds gs before hval0 hW hcnd _
 have hval : ∀ (j : Nat) t v, Tryz.f3.params[j]? = some t → args[j]? = some v → Value.okWide Tryz.prog W .any base t v := hval0
 have hW' := hW
 obtain ⟨p, q, hA0, hV, rfl, hfz, hnd⟩ := hW
 have hA : DataW.TrodAll enc Tryz.prog W 0 (fun _ => true) true Tryz.f3.params.toList args.toList ds p := hA0
 rw [Tryz.params3] at hA hval
 obtain ⟨v0, vs0, d0, ds0, p0, q0, hargs, rfl, rfl, h0, r0⟩ := trodAll_cons hA
 obtain ⟨v1, vs1, d1, ds1, p1, q1, rfl, rfl, rfl, h1, r1⟩ := trodAll_cons r0
 obtain ⟨v2, vs2, d2, ds2, p2, q2, rfl, rfl, rfl, h2, r2⟩ := trodAll_cons r1
 obtain ⟨rfl, rfl, rfl⟩ := trodAll_nil r2
 obtain rfl : args = #[v0, v1, v2] := by cases args; simp_all
 obtain ⟨rfl, rfl⟩ := trodVars_none hV
 have k0 := h0
 have lt0 : ∀ x ∈ p0, x.block < W.heap.size := by obtain ⟨m, hm⟩ := k0; exact DataW.trod_lt m _ _ _ hm
 obtain ⟨xs0, rfl, ln0, wf0⟩ := open_struct_ints Tryz.underlying23 Tryz.underlying3 (by kernel_rfl) (by kernel_rfl) (by kernel_rfl) (hval 0 23 v0 rfl rfl) h0
 obtain ⟨a0_0, a0_1, a0_2, a0_3, a0_4, a0_5, a0_6, rfl⟩ := list7 xs0 ln0
 have w0_0 := wf0 a0_0 (by simp)
 have w0_1 := wf0 a0_1 (by simp)
 have w0_2 := wf0 a0_2 (by simp)
 have w0_3 := wf0 a0_3 (by simp)
 have w0_4 := wf0 a0_4 (by simp)
 have w0_5 := wf0 a0_5 (by simp)
 have w0_6 := wf0 a0_6 (by simp)
 have k1 := h1
 have lt1 : ∀ x ∈ p1, x.block < W.heap.size := by obtain ⟨m, hm⟩ := k1; exact DataW.trod_lt m _ _ _ hm
 obtain ⟨xs1, rfl, ln1, wf1⟩ := open_struct_ints Tryz.underlying23 Tryz.underlying3 (by kernel_rfl) (by kernel_rfl) (by kernel_rfl) (hval 1 23 v1 rfl rfl) h1
 obtain ⟨a1_0, a1_1, a1_2, a1_3, a1_4, a1_5, a1_6, rfl⟩ := list7 xs1 ln1
 have w1_0 := wf1 a1_0 (by simp)
 have w1_1 := wf1 a1_1 (by simp)
 have w1_2 := wf1 a1_2 (by simp)
 have w1_3 := wf1 a1_3 (by simp)
 have w1_4 := wf1 a1_4 (by simp)
 have w1_5 := wf1 a1_5 (by simp)
 have w1_6 := wf1 a1_6 (by simp)
 have k2 := h2
 have lt2 : ∀ x ∈ p2, x.block < W.heap.size := by obtain ⟨m, hm⟩ := k2; exact DataW.trod_lt m _ _ _ hm
 obtain ⟨cs2, rfl, hsz2⟩ := okWide_struct Tryz.underlying30 (hval 2 30 v2 rfl rfl)
 obtain ⟨c2_0, c2_1, c2_2, c2_3, c2_4, c2_5, c2_6, rfl⟩ := vlist7 cs2 (hsz2.trans (by kernel_rfl))
 obtain ⟨fu2, hf2⟩ := h2
 obtain ⟨n2_0_28, y2_0_28, e2_0_28⟩ := field_at Tryz.underlying30 hf2 0 _ rfl [c2_0, c2_1, c2_2, c2_3, c2_4, c2_5] (by kernel_rfl)
 obtain ⟨n2_0_24, y2_0_24, e2_0_24⟩ := field_at Tryz.underlying28 e2_0_28 0 _ rfl [c2_0] (by kernel_rfl)
 obtain ⟨a2_0, len2_0, cap2_0, z2_0, rfl, w2_0⟩ := encrow_at Tryz.underlying24 Tryz.underlying3 (by kernel_rfl) e2_0_24
 simp only [if_true] at w2_0
 obtain ⟨n2_1_24, y2_1_24, e2_1_24⟩ := field_at Tryz.underlying28 e2_0_28 1 _ rfl [c2_1] (by kernel_rfl)
 obtain ⟨a2_1, len2_1, cap2_1, z2_1, rfl, w2_1⟩ := encrow_at Tryz.underlying24 Tryz.underlying3 (by kernel_rfl) e2_1_24
 simp only [if_true] at w2_1
 obtain ⟨n2_2_25, y2_2_25, e2_2_25⟩ := field_at Tryz.underlying28 e2_0_28 2 _ rfl [c2_2] (by kernel_rfl)
 obtain ⟨a2_2, len2_2, cap2_2, z2_2, rfl, w2_2⟩ := rows_at Tryz.underlying25 Tryz.underlying106 Tryz.underlying3 (by kernel_rfl) (by kernel_rfl) (by kernel_rfl) (by decide) e2_2_25
 obtain ⟨n2_3_3, y2_3_3, e2_3_3⟩ := field_at Tryz.underlying28 e2_0_28 3 _ rfl [c2_3] (by kernel_rfl)
 obtain ⟨a2_3, rfl, w2_3⟩ := int_at Tryz.underlying3 e2_3_3
 obtain ⟨n2_4_26, y2_4_26, e2_4_26⟩ := field_at Tryz.underlying28 e2_0_28 4 _ rfl [c2_4] (by kernel_rfl)
 obtain ⟨a2_4, len2_4, cap2_4, z2_4, rfl, w2_4⟩ := encrow_at Tryz.underlying26 Tryz.underlying5 (by kernel_rfl) e2_4_26
 simp only [if_true] at w2_4
 obtain ⟨n2_5_24, y2_5_24, e2_5_24⟩ := field_at Tryz.underlying28 e2_0_28 5 _ rfl [c2_5] (by kernel_rfl)
 obtain ⟨a2_5, len2_5, cap2_5, z2_5, rfl, w2_5⟩ := encrow_at Tryz.underlying24 Tryz.underlying3 (by kernel_rfl) e2_5_24
 simp only [if_true] at w2_5
 obtain ⟨n2_6_3, y2_6_3, e2_6_3⟩ := field_at Tryz.underlying30 hf2 1 _ rfl [c2_6] (by kernel_rfl)
 obtain ⟨a2_6, rfl, w2_6⟩ := int_at Tryz.underlying3 e2_6_3
 clear hA0 hval0
 refine (walk a0_0 a0_1 a0_2 a0_3 a0_4 a0_5 a0_6 a1_0 a1_1 a1_2 a1_3 a1_4 a1_5 a1_6 a2_0 len2_0 cap2_0 z2_0 a2_1 len2_1 cap2_1 z2_1 a2_2 len2_2 cap2_2 z2_2 a2_3 a2_4 len2_4 cap2_4 z2_4 a2_5 len2_5 cap2_5 z2_5 a2_6 W w0_0 w0_1 w0_2 w0_3 w0_4 w0_5 w0_6 w1_0 w1_1 w1_2 w1_3 w1_4 w1_5 w1_6 w2_0 w2_1 w2_2 w2_3 w2_4 w2_5 w2_6).mono fun e W' ⟨he, bel⟩ => ?_
 subst he
 exact ⟨_, rfl, _, _, _, [], _, [], hW', trodAll_mk1 (shut_bool Tryz.underlying4 _), (trodAll_cons_mk (Below.trod laidOut (by kernel_rfl) (of_decide_eq_true (by kernel_rfl)) k0 bel lt0) (trodAll_cons_mk (Below.trod laidOut (by kernel_rfl) (of_decide_eq_true (by kernel_rfl)) k1 bel lt1) (trodAll_cons_mk (Below.trod laidOut (by kernel_rfl) (of_decide_eq_true (by kernel_rfl)) k2 bel lt2) trodAll_mk0))), rfl, bel.frame _, fun h => by cases h⟩
theorem over : Rows.identChecksRow.holds Tryz.pinned (OpenSpec.ofChange Rows.identChecksSpec) :=
 OpenClaim.holds_of_wide 3 Tryz.f3 rfl rfl rfl rfl rfl rfl rfl ⟨rfl, rfl, rfl, rfl, rfl⟩ rfl rfl rfl rfl rfl (by kernel_rfl) Tryz.func3 (by kernel_rfl)
  (of_decide_eq_true (by kernel_rfl)) (by unfold Func.isWrapper; first | (rw [if_pos (by decide +kernel)]; kernel_rfl) | (rw [if_neg (by decide +kernel)]; exact ⟨rfl, rfl⟩))
  (fun os started H enc _ => lifted os started H enc)
theorem proved : Rows.IdentChecksSaid := over
#print axioms proved
end Go.Proofs.YtmbgoopkpfhamaaGreat.identChecks
