/- EditMade: the edits that are told of a version that may be make it out of nothing; of one that may not be none are told. Every version. -/
import Derived.Test.YthfcjlndaajkfaaTEdMade
import Derived.Test.YthfcjlndaajkfaaG04
import Derived.Test.YthfcjlndaajkfaaG03
import Derived.Test.YthfcjlndaajkfaaG02
import Derived.WalkKit
import Derived.ProofKit
import Derived.OpenShut
import Derived.ShutString
import Derived.ChangeOld
import Derived.Below
import Derived.Deep.RegionHeld
namespace Go.Proofs.Ythfcjlndaajkfaa.editMade
open Go.ChangeShapes Go.WideShapes Go.ChangeAt Go.RowKit
set_option linter.unusedVariables false
theorem own : ownKnob Try.prog.godebug = none := by kernel_rfl
theorem laidOut : laidOutB Try.prog = true := by kernel_rfl
set_option maxRecDepth 100000 in
theorem walk (va0 vb0 : Int) (vL0 : Option Addr) (vn0 vc0 : Nat) (vl0 : List (Ed.Lg × List (Int × Int))) (A0 : Option Addr) (m0 c0 : Nat) (l0 : List (Pk.Tb × List (Int × Int))) (w : World) (wa0 : -9223372036854775808 ≤ va0 ∧ va0 ≤ 9223372036854775807) (wb0 : -9223372036854775808 ≤ vb0 ∧ vb0 ≤ 9223372036854775807) (r0 : RdLs w vL0 vn0 vl0) (y0 : vn0 ≤ 9223372036854775807) (z0 : RdTs w A0 m0 l0) (w0 : m0 ≤ 9223372036854775807) :
    Calls Try.prog 3 #[.agg #[.int .i64 va0, .int .i64 vb0, .slice vL0 vn0 vc0, .slice A0 m0 c0]] w fun e w' => e = .returned (.bool true) ∧ Below w.heap.size w w' := by
  exact made_any va0 vb0 vL0 vn0 vc0 A0 m0 c0 vl0 l0 w r0 z0 y0 w0
set_option maxRecDepth 100000 in
theorem lifted (os : Os) (started : os.Started) (H : Type) (enc : TypeId × Value → H) :
    ReturnsInHanded {} Try.checked os 3 .any (Rows.editMadeSpec.pre6 enc Try.prog Try.f3 Rows.editMadeRow.domain false) (Rows.editMadeSpec.post enc Try.prog Try.f3 false true false false) := by
  refine returnsInHanded_of_change (C := Try.checked) own started (by kernel_rfl) Try.func3
    (ChangeSpec.witness6 (enc := enc) (C := Try.checked) false ⟨#[], #[.agg #[.int .i64 0, .int .i64 0, .slice none 0 0, .slice none 0 0]], []⟩ 8 (by kernel_rfl) (by kernel_rfl) (by kernel_rfl) (by kernel_rfl)) ?_
  intro W base args ds gs before hval0 hW hcnd _
  have hval : ∀ (j : Nat) t v, Try.f3.params[j]? = some t → args[j]? = some v → Value.okWide Try.prog W .any base t v := hval0
  have hW' := hW
  obtain ⟨p, q, hA0, hV, rfl, hfz, hnd⟩ := hW
  have hA : DataW.TrodAll enc Try.prog W 0 (fun _ => true) true Try.f3.params.toList args.toList ds p := hA0
  rw [Try.params3] at hA hval
  obtain ⟨v0, vs0, d0, ds0, p0, q0, hargs, rfl, rfl, h0, t0⟩ := trodAll_cons hA
  obtain ⟨rfl, rfl, rfl⟩ := trodAll_nil t0
  obtain rfl : args = #[v0] := by cases args; simp_all
  obtain ⟨rfl, rfl⟩ := trodVars_none hV
  have k0 : Reads enc W 25 v0 d0 p0 := h0
  have lt0 : ∀ x ∈ p0, x.block < W.heap.size := by obtain ⟨m, hm⟩ := k0; exact DataW.trod_lt m _ _ _ hm
  obtain ⟨va0, vb0, vL0, vn0, vc0, vl0, A0, m0, c0, l0, rfl, wa0, wb0, r0, _, y0, z0, _, w0⟩ := in_versionP (hval 0 25 v0 rfl rfl) k0
  clear hA0 hval0
  refine (walk va0 vb0 vL0 vn0 vc0 vl0 A0 m0 c0 l0 W wa0 wb0 r0 y0 z0 w0).mono fun e W' ⟨he, bel⟩ => ?_
  subst he
  exact ⟨_, rfl, _, _, _, [], _, [], hW', trodAll_mk1 (shut_bool Try.underlying4 _), (trodAll_cons_mk (Below.trod laidOut (by kernel_rfl) (of_decide_eq_true (by kernel_rfl)) k0 bel lt0) trodAll_mk0), rfl, bel.frame _, fun h => by cases h⟩
theorem over : Rows.editMadeRow.holds Try.pinned (OpenSpec.ofChange Rows.editMadeSpec) :=
  OpenClaim.holds_of_wide 3 Try.f3 rfl rfl rfl rfl rfl rfl rfl ⟨rfl, rfl, rfl, rfl, rfl⟩ rfl rfl rfl rfl rfl (by kernel_rfl) Try.func3 (by kernel_rfl)
    (of_decide_eq_true (by kernel_rfl)) (by unfold Func.isWrapper; first | (rw [if_pos (by decide +kernel)]; kernel_rfl) | (rw [if_neg (by decide +kernel)]; exact ⟨rfl, rfl⟩))
    (fun os started H enc _ => lifted os started H enc)
theorem proved : Rows.EditMadeSaid := over
end Go.Proofs.Ythfcjlndaajkfaa.editMade
