/- For every slice of byte slices: Join of the first of them gives the records and the number of payloads that the document's Join gives (P8.3), and the example at the head holds; the arguments stay as they were. No condition. -/
import Derived.Test.YtpfdacnjikdifaaFgAwake
import Derived.Test.YtpfdacnjikdifaaFgRNeed
import Derived.Test.YtpfdacnjikdifaaFgRJoin
import Derived.Test.YtpfdacnjikdifaaInRows
import Derived.Test.YtpfdacnjikdifaaIns
import Derived.Test.YtpfdacnjikdifaaHolds
import Derived.WalkKit
import Derived.ProofKit
import Derived.OpenShut
import Derived.ShutString
import Derived.ChangeOld
import Derived.Below
import Derived.Deep.RegionHeld
namespace Go.Proofs.Ytpfdacnjikdifaa.fragJoins
open Go.ChangeShapes Go.WideShapes Go.ChangeAt Go.RowKit
set_option linter.unusedVariables false
theorem own : ownKnob Try.prog.godebug = none := by kernel_rfl
theorem laidOut : laidOutB Try.prog = true := by kernel_rfl
set_option maxRecDepth 100000 in
set_option maxHeartbeats 4000000 in
theorem walk (A0 : Option Addr) (m0 c0 : Nat) (l0 : List (List Nat)) (w : World) (r0 : RdB w A0 m0 l0) (wc0 : m0 ≤ c0) (w0 : m0 ≤ 9223372036854775807) :
    Calls Try.prog 6 #[.slice A0 m0 c0] w fun e w' => e = .returned (.bool true) ∧ Below w.heap.size w w' := by
  -- heartbeats 4000000
  have hfw := few_any A0 m0 c0 l0 w r0 w0
  have hf40 : (Fg.few l0).length ≤ 40 := by unfold Fg.few; rw [List.length_map, List.length_take]; omega
  generalize Fg.few l0 = L at *
  generalize hJ : Fg.joinL L ([], none) = J
  obtain ⟨P, m⟩ := J
  have HFw := Lib.hid hfw
  have HJ := Lib.hid hJ
  clear hfw r0 hJ
  go_enter Try.func6, Try.ntmps6
  go_wp2_with fail
  refine HFw.out.mono ?_
  rintro e v0 ⟨A1, c1, rfl, hr1, hc1, _, hb1⟩
  have h1 := join_any A1 L.length c1 L v0 hr1 (by omega)
  rw [HJ.out] at h1
  have H1 := Lib.hid h1
  clear h1
  go_wp2_with fail
  refine H1.out.mono ?_
  rintro e v1 ⟨A2, c2, rfl, hr2, hc2, hm2, hb2⟩
  have hx1 := below_next hb1 hb2
  have h2 := rjoin_any A1 L.length c1 L v1 (hr1.below hb2) (by omega)
  rw [HJ.out] at h2
  have H2 := Lib.hid h2
  clear h2
  go_wp2_with fail
  refine H2.out.mono ?_
  rintro e v2 ⟨A3, c3, rfl, hr3, hc3, _, hb3⟩
  have hx2 := below_next hx1 hb3
  have hra := hr2.below hb3
  have hsm := same_any A2 A3 P.length P.length c2 c3 P P v2 hra hr3 (by omega) (by omega)
  rw [show decide (P = P) = true by simp] at hsm
  have HSm := Lib.hid hsm
  have HX2 := Lib.hid hx2
  clear hr1 hr2 hr3 hra hx1 hx2 hb1 hb2 hb3 hc2 hc3 hsm hm2
  go_wp2_with fail
  refine HSm.out.mono ?_
  rintro e v5 ⟨rfl, hb5⟩
  have hx5 := below_next HX2.out hb5
  clear hb5
  go_wp2_with fail
  refine (awake_any _).mono ?_
  rintro e v6 ⟨rfl, hb6⟩
  have hx6 := below_next hx5 hb6
  go_wp2_with fail
  go_ret
  exact ⟨rfl, hx6⟩
set_option maxRecDepth 100000 in
theorem lifted (os : Os) (started : os.Started) (H : Type) (enc : TypeId × Value → H) :
    ReturnsInHanded {} Try.checked os 6 .any (Rows.fragJoinsSpec.pre6 enc Try.prog Try.f6 Rows.fragJoinsRow.domain false) (Rows.fragJoinsSpec.post enc Try.prog Try.f6 false true false false) := by
  refine returnsInHanded_of_change (C := Try.checked) own started (by kernel_rfl) Try.func6
    (ChangeSpec.witness6 (enc := enc) (C := Try.checked) false ⟨#[], #[.slice none 0 0], []⟩ 8 (by kernel_rfl) (by kernel_rfl) (by kernel_rfl) (by kernel_rfl)) ?_
  intro W base args ds gs before hval0 hW hcnd _
  have hval : ∀ (j : Nat) t v, Try.f6.params[j]? = some t → args[j]? = some v → Value.okWide Try.prog W .any base t v := hval0
  have hW' := hW
  obtain ⟨p, q, hA0, hV, rfl, hfz, hnd⟩ := hW
  have hA : DataW.TrodAll enc Try.prog W 0 (fun _ => true) true Try.f6.params.toList args.toList ds p := hA0
  rw [Try.params6] at hA hval
  obtain ⟨v0, vs0, d0, ds0, p0, q0, hargs, rfl, rfl, h0, t0⟩ := trodAll_cons hA
  obtain ⟨rfl, rfl, rfl⟩ := trodAll_nil t0
  obtain rfl : args = #[v0] := by cases args; simp_all
  obtain ⟨rfl, rfl⟩ := trodVars_none hV
  have k0 : Reads enc W 22 v0 d0 p0 := h0
  have lt0 : ∀ x ∈ p0, x.block < W.heap.size := by obtain ⟨m, hm⟩ := k0; exact DataW.trod_lt m _ _ _ hm
  obtain ⟨A0, m0, c0, l0, rfl, r0, wc0, w0⟩ := in_rows (hval 0 22 v0 rfl rfl) k0
  clear hA0 hval0
  refine (walk A0 m0 c0 l0 W r0 wc0 w0).mono fun e W' ⟨he, bel⟩ => ?_
  subst he
  exact ⟨_, rfl, _, _, _, [], _, [], hW', trodAll_mk1 (shut_bool Try.underlying4 _), (trodAll_cons_mk (Below.trod laidOut (by kernel_rfl) (of_decide_eq_true (by kernel_rfl)) k0 bel lt0) trodAll_mk0), rfl, bel.frame _, fun h => by cases h⟩
theorem over : Rows.fragJoinsRow.holds Try.pinned (OpenSpec.ofChange Rows.fragJoinsSpec) :=
  OpenClaim.holds_of_wide 6 Try.f6 rfl rfl rfl rfl rfl rfl rfl ⟨rfl, rfl, rfl, rfl, rfl⟩ rfl rfl rfl rfl rfl (by kernel_rfl) Try.func6 (by kernel_rfl)
    (of_decide_eq_true (by kernel_rfl)) (by unfold Func.isWrapper; first | (rw [if_pos (by decide +kernel)]; kernel_rfl) | (rw [if_neg (by decide +kernel)]; exact ⟨rfl, rfl⟩))
    (fun os started H enc _ => lifted os started H enc)
theorem proved : Rows.FragJoinsSaid := over
end Go.Proofs.Ytpfdacnjikdifaa.fragJoins
