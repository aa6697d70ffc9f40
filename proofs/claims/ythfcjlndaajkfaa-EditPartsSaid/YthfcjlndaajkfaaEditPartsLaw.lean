/- EditParts holds of every version, edits and cut: edits done in two rows, where the first may be done alone, make what they make in one; and what may not be done in the second may not be in one. -/
import Derived.Test.YthfcjlndaajkfaaTEdPr2
import Derived.Test.YthfcjlndaajkfaaTEdLEd
import Derived.Test.YthfcjlndaajkfaaG04
import Derived.Test.YthfcjlndaajkfaaG03
import Derived.Test.YthfcjlndaajkfaaG02
import Derived.WalkKit
import Derived.ProofKit
import Derived.OpenShut
import Derived.ShutString
import Derived.ChangeOld
import Derived.Below
import Derived.Deep.RegionHeld
namespace Go.Proofs.Ythfcjlndaajkfaa.editParts
open Go.ChangeShapes Go.WideShapes Go.ChangeAt Go.RowKit
set_option linter.unusedVariables false
theorem own : ownKnob Try.prog.godebug = none := by kernel_rfl
theorem laidOut : laidOutB Try.prog = true := by kernel_rfl
set_option maxRecDepth 100000 in
theorem walk (va0 vb0 : Int) (vL0 : Option Addr) (vn0 vc0 : Nat) (vl0 : List (Ed.Lg × List (Int × Int))) (A0 : Option Addr) (m0 c0 : Nat) (l0 : List (Pk.Tb × List (Int × Int))) (A1 : Option Addr) (m1 c1 : Nat) (l1 : List Ed.Ex) (n2 : Nat) (w : World) (wa0 : -9223372036854775808 ≤ va0 ∧ va0 ≤ 9223372036854775807) (wb0 : -9223372036854775808 ≤ vb0 ∧ vb0 ≤ 9223372036854775807) (r0 : RdLs w vL0 vn0 vl0) (y0 : vn0 ≤ 9223372036854775807) (z0 : RdTs w A0 m0 l0) (w0 : m0 ≤ 9223372036854775807) (r1 : RdEs w A1 m1 l1) (w1 : m1 ≤ 9223372036854775807) (w2 : n2 < 18446744073709551616) :
    Calls Try.prog 5 #[.agg #[.int .i64 va0, .int .i64 vb0, .slice vL0 vn0 vc0, .slice A0 m0 c0], .slice A1 m1 c1, .int .u64 (n2 : Int)] w fun e w' => e = .returned (.bool true) ∧ Below w.heap.size w w' := by
  exact parts_any va0 vb0 vL0 vn0 vc0 A0 m0 c0 vl0 l0 A1 m1 c1 l1 n2 w r0 z0 r1 y0 w0 w1 w2
set_option maxRecDepth 100000 in
theorem lifted (os : Os) (started : os.Started) (H : Type) (enc : TypeId × Value → H) :
    ReturnsInHanded {} Try.checked os 5 .any (Rows.editPartsSpec.pre6 enc Try.prog Try.f5 Rows.editPartsRow.domain false) (Rows.editPartsSpec.post enc Try.prog Try.f5 false true false false) := by
  refine returnsInHanded_of_change (C := Try.checked) own started (by kernel_rfl) Try.func5
    (ChangeSpec.witness6 (enc := enc) (C := Try.checked) false ⟨#[], #[.agg #[.int .i64 0, .int .i64 0, .slice none 0 0, .slice none 0 0], .slice none 0 0, .int .u64 0], []⟩ 8 (by kernel_rfl) (by kernel_rfl) (by kernel_rfl) (by kernel_rfl)) ?_
  intro W base args ds gs before hval0 hW hcnd _
  have hval : ∀ (j : Nat) t v, Try.f5.params[j]? = some t → args[j]? = some v → Value.okWide Try.prog W .any base t v := hval0
  have hW' := hW
  obtain ⟨p, q, hA0, hV, rfl, hfz, hnd⟩ := hW
  have hA : DataW.TrodAll enc Try.prog W 0 (fun _ => true) true Try.f5.params.toList args.toList ds p := hA0
  rw [Try.params5] at hA hval
  obtain ⟨v0, vs0, d0, ds0, p0, q0, hargs, rfl, rfl, h0, t0⟩ := trodAll_cons hA
  obtain ⟨v1, vs1, d1, ds1, p1, q1, rfl, rfl, rfl, h1, t1⟩ := trodAll_cons t0
  obtain ⟨v2, vs2, d2, ds2, p2, q2, rfl, rfl, rfl, h2, t2⟩ := trodAll_cons t1
  obtain ⟨rfl, rfl, rfl⟩ := trodAll_nil t2
  obtain rfl : args = #[v0, v1, v2] := by cases args; simp_all
  obtain ⟨rfl, rfl⟩ := trodVars_none hV
  have k0 : Reads enc W 25 v0 d0 p0 := h0
  have lt0 : ∀ x ∈ p0, x.block < W.heap.size := by obtain ⟨m, hm⟩ := k0; exact DataW.trod_lt m _ _ _ hm
  obtain ⟨va0, vb0, vL0, vn0, vc0, vl0, A0, m0, c0, l0, rfl, wa0, wb0, r0, _, y0, z0, _, w0⟩ := in_versionP (hval 0 25 v0 rfl rfl) k0
  have k1 : Reads enc W 27 v1 d1 p1 := h1
  have lt1 : ∀ x ∈ p1, x.block < W.heap.size := by obtain ⟨m, hm⟩ := k1; exact DataW.trod_lt m _ _ _ hm
  obtain ⟨A1, m1, c1, l1, rfl, r1, _, w1⟩ := in_edits (hval 1 27 v1 rfl rfl) k1
  have k2 : Reads enc W 44 v2 d2 p2 := h2
  have lt2 : ∀ x ∈ p2, x.block < W.heap.size := by obtain ⟨m, hm⟩ := k2; exact DataW.trod_lt m _ _ _ hm
  obtain ⟨n2, rfl, w2⟩ := in_uint (hval 2 44 v2 rfl rfl) k2
  clear hA0 hval0
  refine (walk va0 vb0 vL0 vn0 vc0 vl0 A0 m0 c0 l0 A1 m1 c1 l1 n2 W wa0 wb0 r0 y0 z0 w0 r1 w1 w2).mono fun e W' ⟨he, bel⟩ => ?_
  subst he
  exact ⟨_, rfl, _, _, _, [], _, [], hW', trodAll_mk1 (shut_bool Try.underlying4 _), (trodAll_cons_mk (Below.trod laidOut (by kernel_rfl) (of_decide_eq_true (by kernel_rfl)) k0 bel lt0) (trodAll_cons_mk (Below.trod laidOut (by kernel_rfl) (of_decide_eq_true (by kernel_rfl)) k1 bel lt1) (trodAll_cons_mk (Below.trod laidOut (by kernel_rfl) (of_decide_eq_true (by kernel_rfl)) k2 bel lt2) trodAll_mk0))), rfl, bel.frame _, fun h => by cases h⟩
theorem over : Rows.editPartsRow.holds Try.pinned (OpenSpec.ofChange Rows.editPartsSpec) :=
  OpenClaim.holds_of_wide 5 Try.f5 rfl rfl rfl rfl rfl rfl rfl ⟨rfl, rfl, rfl, rfl, rfl⟩ rfl rfl rfl rfl rfl (by kernel_rfl) Try.func5 (by kernel_rfl)
    (of_decide_eq_true (by kernel_rfl)) (by unfold Func.isWrapper; first | (rw [if_pos (by decide +kernel)]; kernel_rfl) | (rw [if_neg (by decide +kernel)]; exact ⟨rfl, rfl⟩))
    (fun os started H enc _ => lifted os started H enc)
theorem proved : Rows.EditPartsSaid := over
end Go.Proofs.Ythfcjlndaajkfaa.editParts
