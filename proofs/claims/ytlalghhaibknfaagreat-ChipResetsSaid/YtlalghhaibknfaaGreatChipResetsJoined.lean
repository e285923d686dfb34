/-
  The law ChipResets returns true for every geometry, every script and every list of cycles, without a data race or a panic.
-/
import Derived.Test.YtlalghhaibknfaaGreatRows
import Derived.WalkKit
import Derived.ProofKit
import Derived.OpenShut
import Derived.ShutString
import Derived.ChangeOld
import Derived.Below
import Derived.Test.YtlalghhaibknfaaGreatChipResetsJ18
import Derived.Test.YtlalghhaibknfaaGreatChipResetsJ19
namespace Go.Proofs.YtlalghhaibknfaaGreat.chipResets
open Go.ChangeShapes Go.WideShapes Go.ChangeAt Go.RowKit
open Go.ChangeMaps (open_string shut_string)
set_option linter.unusedVariables false

theorem own : ownKnob Tryz.prog.godebug = none := by kernel_rfl
theorem laidOut : laidOutB Tryz.prog = true := by kernel_rfl

def IsRow (k : IntKind) (w : World) (a : Option Addr) (len cap : Nat) (zs : List Int) : Prop :=
  (a = none ∧ len = 0 ∧ cap = 0 ∧ zs = []) ∨
  ∃ x, a = some x ∧ len ≤ cap ∧ cap ≤ maxLen ∧ zs.length = cap ∧ (∀ i, i < zs.length → w.cell? (x.add i) = some (.int k (zs.getD i 0))) ∧ ∀ n ∈ zs, (Lit.int k n).wf = true

def IsKinds (ks : List IntKind) (w : World) (a : Option Addr) (len cap : Nat) (Z : Nat → Nat → Int) : Prop :=
  (a = none ∧ len = 0 ∧ cap = 0) ∨
  ∃ x, a = some x ∧ len ≤ cap ∧ cap ≤ maxLen ∧ ∀ r, r < cap → ∀ j k, ks[j]? = some k → w.cell? (x.add (r * ks.length + j)) = some (.int k (Z r j)) ∧ (Lit.int k (Z r j)).wf = true

def IsRows3 (k : IntKind) (w : World) (a : Option Addr) (len cap : Nat) (zs : List Int) : Prop :=
  (a = none ∧ len = 0 ∧ cap = 0 ∧ zs = []) ∨
  ∃ x, a = some x ∧ len ≤ cap ∧ cap ≤ maxLen ∧ zs.length = len * 3 ∧ (∀ i, i < zs.length → w.cell? (x.add i) = some (.int k (zs.getD i 0))) ∧ ∀ n ∈ zs, (Lit.int k n).wf = true

theorem list7 (l : List Int) (h : l.length = 7) : ∃ x0 x1 x2 x3 x4 x5 x6, l = [x0, x1, x2, x3, x4, x5, x6] := by
  match l, h with
  | [x0, x1, x2, x3, x4, x5, x6], _ => exact ⟨x0, x1, x2, x3, x4, x5, x6, rfl⟩

theorem vlist6 (l : Array Value) (h : l.size = 6) : ∃ x0 x1 x2 x3 x4 x5, l = #[x0, x1, x2, x3, x4, x5] := by
  obtain ⟨l⟩ := l
  match l, h with
  | [x0, x1, x2, x3, x4, x5], _ => exact ⟨x0, x1, x2, x3, x4, x5, rfl⟩

theorem walk (a0_0 a0_1 a0_2 a0_3 a0_4 a0_5 a0_6 : Int) (a1_0 : Option Addr) (len1_0 cap1_0 : Nat) (z1_0 : List Int) (a1_1 : Option Addr) (len1_1 cap1_1 : Nat) (z1_1 : List Int) (a1_2 : Option Addr) (len1_2 cap1_2 : Nat) (z1_2 : List Int) (a1_3 : Int) (a1_4 : Option Addr) (len1_4 cap1_4 : Nat) (z1_4 : List Int) (a1_5 : Option Addr) (len1_5 cap1_5 : Nat) (z1_5 : List Int) (a2 : Option Addr) (len2 cap2 : Nat) (Z2 : Nat → Nat → Int) (w : World) (w0_0 : (Lit.int .i64 a0_0).wf = true) (w0_1 : (Lit.int .i64 a0_1).wf = true) (w0_2 : (Lit.int .i64 a0_2).wf = true) (w0_3 : (Lit.int .i64 a0_3).wf = true) (w0_4 : (Lit.int .i64 a0_4).wf = true) (w0_5 : (Lit.int .i64 a0_5).wf = true) (w0_6 : (Lit.int .i64 a0_6).wf = true) (w1_0 : IsRow .i64 w a1_0 len1_0 cap1_0 z1_0) (w1_1 : IsRow .i64 w a1_1 len1_1 cap1_1 z1_1) (w1_2 : IsRows3 .i64 w a1_2 len1_2 cap1_2 z1_2) (w1_3 : (Lit.int .i64 a1_3).wf = true) (w1_4 : IsRow .u8 w a1_4 len1_4 cap1_4 z1_4) (w1_5 : IsRow .i64 w a1_5 len1_5 cap1_5 z1_5) (w2 : IsKinds [IntKind.i64, IntKind.u8] w a2 len2 cap2 Z2) :
    Calls Tryz.prog 4 #[.agg #[.int .i64 a0_0, .int .i64 a0_1, .int .i64 a0_2, .int .i64 a0_3, .int .i64 a0_4, .int .i64 a0_5, .int .i64 a0_6], .agg #[.slice a1_0 len1_0 cap1_0, .slice a1_1 len1_1 cap1_1, .slice a1_2 len1_2 cap1_2, .int .i64 a1_3, .slice a1_4 len1_4 cap1_4, .slice a1_5 len1_5 cap1_5], .slice a2 len2 cap2] w fun e w' => e = .returned (.bool true) ∧ Below w.heap.size w w' := by
  obtain ⟨_, L0, r0⟩ := R64.of_cells w1_0
  obtain ⟨_, L1, r1⟩ := R64.of_cells w1_1
  obtain ⟨_, _, L2, r2⟩ := RN.of_cells w1_2
  obtain ⟨_, L4, r4⟩ := R8.of_cells w1_4
  obtain ⟨_, L5, r5⟩ := R64.of_cells w1_5
  obtain rfl := r0.len
  obtain rfl := r1.len
  obtain rfl := r2.len
  obtain rfl := r4.len
  obtain rfl := r5.len
  obtain ⟨hn, _, _, ls, hR⟩ := RC.of_kinds w2
  exact ChipResets_walk ⟨a0_0, a0_1, a0_2, a0_3, a0_4, a0_5, a0_6⟩ ⟨a1_0, cap1_0, a1_1, cap1_1, a1_2, cap1_2, a1_4, cap1_4, a1_5, cap1_5⟩ ⟨L0, L1, L2, a1_3, L4, L5⟩ a2 len2 cap2 ls w ⟨r0, r1, r2, r4, r5⟩ hR hn

set_option maxRecDepth 100000 in
theorem lifted (os : Os) (started : os.Started) (H : Type) (enc : TypeId × Value → H) :
    ReturnsInHanded {} Tryz.checked os 4 .any (Rows.chipResetsSpec.pre6 enc Tryz.prog Tryz.f4 Rows.chipResetsRow.domain false) (Rows.chipResetsSpec.post enc Tryz.prog Tryz.f4 false true false false) := by
  refine returnsInHanded_of_change (C := Tryz.checked) own started (by kernel_rfl) Tryz.func4
    (ChangeSpec.witness6 (enc := enc) (C := Tryz.checked) false ⟨#[], #[.agg #[.int .i64 0, .int .i64 0, .int .i64 0, .int .i64 0, .int .i64 0, .int .i64 0, .int .i64 0], .agg #[.slice none 0 0, .slice none 0 0, .slice none 0 0, .int .i64 0, .slice none 0 0, .slice none 0 0], .slice none 0 0], []⟩ 8 (by kernel_rfl) (by kernel_rfl) (by kernel_rfl) (by kernel_rfl)) ?_
  intro W base args ds gs before hval0 hW hcnd _
  have hval : ∀ (j : Nat) t v, Tryz.f4.params[j]? = some t → args[j]? = some v → Value.okWide Tryz.prog W .any base t v := hval0
  have hW' := hW
  obtain ⟨p, q, hA0, hV, rfl, hfz, hnd⟩ := hW
  have hA : DataW.TrodAll enc Tryz.prog W 0 (fun _ => true) true Tryz.f4.params.toList args.toList ds p := hA0
  rw [Tryz.params4] at hA hval
  obtain ⟨v0, vs0, d0, ds0, p0, q0, hargs, rfl, rfl, h0, r0⟩ := trodAll_cons hA
  obtain ⟨v1, vs1, d1, ds1, p1, q1, rfl, rfl, rfl, h1, r1⟩ := trodAll_cons r0
  obtain ⟨v2, vs2, d2, ds2, p2, q2, rfl, rfl, rfl, h2, r2⟩ := trodAll_cons r1
  obtain ⟨rfl, rfl, rfl⟩ := trodAll_nil r2
  obtain rfl : args = #[v0, v1, v2] := by cases args; simp_all
  obtain ⟨rfl, rfl⟩ := trodVars_none hV
  have k0 := h0
  have lt0 : ∀ x ∈ p0, x.block < W.heap.size := by obtain ⟨m, hm⟩ := k0; exact DataW.trod_lt m _ _ _ hm
  obtain ⟨xs0, rfl, ln0, wf0⟩ := open_struct_ints Tryz.underlying23 Tryz.underlying3 (by kernel_rfl) (by kernel_rfl) (by kernel_rfl) (hval 0 23 v0 rfl rfl) h0
  obtain ⟨a0_0, a0_1, a0_2, a0_3, a0_4, a0_5, a0_6, rfl⟩ := list7 xs0 ln0
  have w0_0 := wf0 a0_0 (by simp)
  have w0_1 := wf0 a0_1 (by simp)
  have w0_2 := wf0 a0_2 (by simp)
  have w0_3 := wf0 a0_3 (by simp)
  have w0_4 := wf0 a0_4 (by simp)
  have w0_5 := wf0 a0_5 (by simp)
  have w0_6 := wf0 a0_6 (by simp)
  have k1 := h1
  have lt1 : ∀ x ∈ p1, x.block < W.heap.size := by obtain ⟨m, hm⟩ := k1; exact DataW.trod_lt m _ _ _ hm
  obtain ⟨cs1, rfl, hsz1⟩ := okWide_struct Tryz.underlying28 (hval 1 28 v1 rfl rfl)
  obtain ⟨c1_0, c1_1, c1_2, c1_3, c1_4, c1_5, rfl⟩ := vlist6 cs1 (hsz1.trans (by kernel_rfl))
  obtain ⟨fu1, hf1⟩ := h1
  obtain ⟨n1_0_24, y1_0_24, e1_0_24⟩ := field_at Tryz.underlying28 hf1 0 _ rfl [c1_0] (by kernel_rfl)
  obtain ⟨a1_0, len1_0, cap1_0, z1_0, rfl, w1_0⟩ := encrow_at Tryz.underlying24 Tryz.underlying3 (by kernel_rfl) e1_0_24
  simp only [if_true] at w1_0
  obtain ⟨n1_1_24, y1_1_24, e1_1_24⟩ := field_at Tryz.underlying28 hf1 1 _ rfl [c1_1] (by kernel_rfl)
  obtain ⟨a1_1, len1_1, cap1_1, z1_1, rfl, w1_1⟩ := encrow_at Tryz.underlying24 Tryz.underlying3 (by kernel_rfl) e1_1_24
  simp only [if_true] at w1_1
  obtain ⟨n1_2_25, y1_2_25, e1_2_25⟩ := field_at Tryz.underlying28 hf1 2 _ rfl [c1_2] (by kernel_rfl)
  obtain ⟨a1_2, len1_2, cap1_2, z1_2, rfl, w1_2⟩ := rows_at Tryz.underlying25 Tryz.underlying92 Tryz.underlying3 (by kernel_rfl) (by kernel_rfl) (by kernel_rfl) (by decide) e1_2_25
  obtain ⟨n1_3_3, y1_3_3, e1_3_3⟩ := field_at Tryz.underlying28 hf1 3 _ rfl [c1_3] (by kernel_rfl)
  obtain ⟨a1_3, rfl, w1_3⟩ := int_at Tryz.underlying3 e1_3_3
  obtain ⟨n1_4_26, y1_4_26, e1_4_26⟩ := field_at Tryz.underlying28 hf1 4 _ rfl [c1_4] (by kernel_rfl)
  obtain ⟨a1_4, len1_4, cap1_4, z1_4, rfl, w1_4⟩ := encrow_at Tryz.underlying26 Tryz.underlying5 (by kernel_rfl) e1_4_26
  simp only [if_true] at w1_4
  obtain ⟨n1_5_24, y1_5_24, e1_5_24⟩ := field_at Tryz.underlying28 hf1 5 _ rfl [c1_5] (by kernel_rfl)
  obtain ⟨a1_5, len1_5, cap1_5, z1_5, rfl, w1_5⟩ := encrow_at Tryz.underlying24 Tryz.underlying3 (by kernel_rfl) e1_5_24
  simp only [if_true] at w1_5
  obtain ⟨a2, len2, cap2, rfl⟩ := okWide_slice Tryz.underlying29 (hval 2 29 v2 rfl rfl)
  have k2 := h2
  have lt2 : ∀ x ∈ p2, x.block < W.heap.size := by obtain ⟨m, hm⟩ := k2; exact DataW.trod_lt m _ _ _ hm
  obtain ⟨Z2, w2⟩ : ∃ Z, IsKinds [IntKind.i64, IntKind.u8] W a2 len2 cap2 Z := by
    obtain ⟨fuel, hf⟩ := h2
    rcases open_slice_kinds (ks := [IntKind.i64, IntKind.u8]) Tryz.underlying29 Tryz.underlying37 (by kernel_rfl) (by
        intro j k h
        match j, h with
        | 0, h =>
          obtain rfl := Option.some.inj h
          exact ⟨_, rfl, rfl, by kernel_rfl, Tryz.underlying3⟩
        | 1, h =>
          obtain rfl := Option.some.inj h
          exact ⟨_, rfl, rfl, by kernel_rfl, Tryz.underlying5⟩
        | _ + 2, h => simp at h) hf with hcs | ⟨x, l, c, Z, hcs, hl, hm, hz⟩
    · simp [Value.cells] at hcs
      obtain ⟨rfl, rfl, rfl⟩ := hcs
      exact ⟨fun _ _ => 0, .inl ⟨rfl, rfl, rfl⟩⟩
    · simp [Value.cells] at hcs
      obtain ⟨rfl, rfl, rfl⟩ := hcs
      exact ⟨Z, .inr ⟨_, rfl, hl, hm, fun r hr => hz r (by simpa using hr)⟩⟩
  clear hA0 hval0
  refine (walk a0_0 a0_1 a0_2 a0_3 a0_4 a0_5 a0_6 a1_0 len1_0 cap1_0 z1_0 a1_1 len1_1 cap1_1 z1_1 a1_2 len1_2 cap1_2 z1_2 a1_3 a1_4 len1_4 cap1_4 z1_4 a1_5 len1_5 cap1_5 z1_5 a2 len2 cap2 Z2 W w0_0 w0_1 w0_2 w0_3 w0_4 w0_5 w0_6 w1_0 w1_1 w1_2 w1_3 w1_4 w1_5 w2).mono fun e W' ⟨he, bel⟩ => ?_
  subst he
  exact ⟨_, rfl, _, _, _, [], _, [], hW', trodAll_mk1 (shut_bool Tryz.underlying4 _), (trodAll_cons_mk (Below.trod laidOut (by kernel_rfl) (of_decide_eq_true (by kernel_rfl)) k0 bel lt0) (trodAll_cons_mk (Below.trod laidOut (by kernel_rfl) (of_decide_eq_true (by kernel_rfl)) k1 bel lt1) (trodAll_cons_mk (Below.trod laidOut (by kernel_rfl) (of_decide_eq_true (by kernel_rfl)) k2 bel lt2) trodAll_mk0))), rfl, bel.frame _, fun h => by cases h⟩

theorem over : Rows.chipResetsRow.holds Tryz.pinned (OpenSpec.ofChange Rows.chipResetsSpec) :=
  OpenClaim.holds_of_wide 4 Tryz.f4 rfl rfl rfl rfl rfl rfl rfl ⟨rfl, rfl, rfl, rfl, rfl⟩ rfl rfl rfl rfl rfl (by kernel_rfl) Tryz.func4 (by kernel_rfl)
    (of_decide_eq_true (by kernel_rfl)) (by unfold Func.isWrapper; first | (rw [if_pos (by decide +kernel)]; kernel_rfl) | (rw [if_neg (by decide +kernel)]; exact ⟨rfl, rfl⟩))
    (fun os started H enc _ => lifted os started H enc)

theorem proved : Rows.ChipResetsSaid := over
#print axioms proved
end Go.Proofs.YtlalghhaibknfaaGreat.chipResets
