/- For every slice of bytes: Decode of its first 300 bytes gives the stamp, kind, payload and error that the document gives (P4.3), and the example at the head holds; the arguments stay as they were. No condition. -/
import Derived.Test.YtcckhdmdklholaaFrTwo
import Derived.Test.YtcckhdmdklholaaFrBoth
import Derived.Test.YtcckhdmdklholaaFrAwake
import Derived.Test.YtcckhdmdklholaaIns
import Derived.Test.YtcckhdmdklholaaHolds
import Derived.WalkKit
import Derived.ProofKit
import Derived.OpenShut
import Derived.ShutString
import Derived.ChangeOld
import Derived.Below
import Derived.Deep.RegionHeld
namespace Go.Proofs.Ytcckhdmdklholaa.frameDecodes
open Go.ChangeShapes Go.WideShapes Go.ChangeAt Go.RowKit
set_option linter.unusedVariables false
theorem own : ownKnob Try.prog.godebug = none := by kernel_rfl
theorem laidOut : laidOutB Try.prog = true := by kernel_rfl
set_option maxRecDepth 100000 in
set_option maxHeartbeats 4000000 in
theorem walk (A0 : Option Addr) (m0 c0 : Nat) (l0 : List Nat) (w : World) (r0 : Rd w A0 m0 l0) (wc0 : m0 ≤ c0) (w0 : m0 ≤ 9223372036854775807) :
    Calls Try.prog 4 #[.slice A0 m0 c0] w fun e w' => e = .returned (.bool true) ∧ Below w.heap.size w w' := by
  -- heartbeats 4000000
  have hm := r0.1
  subst hm
  have hcut := fun W => cut_any A0 l0.length c0 l0 W rfl wc0 w0
  have HCut := Lib.hid hcut
  have hpl := fun (W : World) (hW : Below w.heap.size w W) => (r0.take (k := min 300 l0.length) (Nat.min_le_right _ _)).below hW
  have hpe : (l0.take (min 300 l0.length)) = l0.take 300 := by rw [← List.take_take]; simp
  have hpn : (l0.take 300).length = min 300 l0.length := List.length_take
  rw [hpe, ← hpn] at hpl
  have hbig : (l0.take 300).length ≤ 9223372036854775807 := by rw [hpn]; omega
  have hcc : (l0.take 300).length ≤ c0 := by rw [hpn]; omega
  obtain ⟨f, e, i, k, p, r, hd, hrd⟩ := both_dec A0 c0 (l0.take 300) hcc hbig
  clear hpe hpn hbig hcut hcc
  generalize l0.take 300 = pl at *
  have HP := Lib.hid hpl
  have HD := Lib.hid hd
  have HRD := Lib.hid hrd
  clear hpl hd hrd
  go_enter Try.func4, Try.ntmps4
  go_wp2_with fail
  refine (HCut.out _).mono ?_
  rintro e9 v0 ⟨rfl, rfl⟩
  go_wp2_with fail
  refine (HD.out _ (HP.out _ (Below.refl _ _))).mono ?_
  rintro e9 v1 ⟨B, d, rfl, hr1, hb1⟩
  have k1 := Holds.new v1 #[.int .i64 f, .int .i64 e, .int .i64 i] 23
  have hx1 := hb1.alloc hb1.size (.cells #[.int .i64 f, .int .i64 e, .int .i64 i] 23)
  have hr1b := hr1.alloc (.cells #[.int .i64 f, .int .i64 e, .int .i64 i] 23)
  clear hr1 hb1
  go_wp2_with fail
  refine (HRD.out _ (HP.out _ hx1)).mono ?_
  rintro e9 v2 ⟨B2, d2, rfl, hr2, hb2⟩
  have hx2 := below_next hx1 hb2
  have k2 := (k1.below hb2).alloc (.cells #[.int .i64 f, .int .i64 e, .int .i64 i] 23)
  have k3 := Holds.new v2 #[.int .i64 f, .int .i64 e, .int .i64 i] 23
  have hx3 := hx2.alloc hx2.size (.cells #[.int .i64 f, .int .i64 e, .int .i64 i] 23)
  have hr1c := (hr1b.below hb2).alloc (.cells #[.int .i64 f, .int .i64 e, .int .i64 i] 23)
  have hr2b := hr2.alloc (.cells #[.int .i64 f, .int .i64 e, .int .i64 i] 23)
  clear hr1b hr2 k1 hx1 hx2 hb2
  go_upto_region 4 with fail
  generalize (v2.alloc (.cells #[.int .i64 f, .int .i64 e, .int .i64 i] 23)) = W at *
  have a0 := k2.at_ 0 rfl
  have a1 := k2.at_ 1 rfl
  have a2 := k2.at_ 2 rfl
  have b0 := k3.at_ 0 rfl
  have b1 := k3.at_ 1 rfl
  have b2 := k3.at_ 2 rfl
  have s1 := run_str (cap := d) hr1c
  have s2 := run_str (cap := d2) hr2b
  clear k2 k3 hr1c hr2b
  go_wp2_with fail
  refine (awake_any _).mono ?_
  rintro e9 v4 ⟨rfl, hb4⟩
  have hx4 := below_next hx3 hb4
  go_wp2_with fail
  go_ret
  exact ⟨rfl, hx4⟩
set_option maxRecDepth 100000 in
theorem lifted (os : Os) (started : os.Started) (H : Type) (enc : TypeId × Value → H) :
    ReturnsInHanded {} Try.checked os 4 .any (Rows.frameDecodesSpec.pre6 enc Try.prog Try.f4 Rows.frameDecodesRow.domain false) (Rows.frameDecodesSpec.post enc Try.prog Try.f4 false true false false) := by
  refine returnsInHanded_of_change (C := Try.checked) own started (by kernel_rfl) Try.func4
    (ChangeSpec.witness6 (enc := enc) (C := Try.checked) false ⟨#[], #[.slice none 0 0], []⟩ 8 (by kernel_rfl) (by kernel_rfl) (by kernel_rfl) (by kernel_rfl)) ?_
  intro W base args ds gs before hval0 hW hcnd _
  have hval : ∀ (j : Nat) t v, Try.f4.params[j]? = some t → args[j]? = some v → Value.okWide Try.prog W .any base t v := hval0
  have hW' := hW
  obtain ⟨p, q, hA0, hV, rfl, hfz, hnd⟩ := hW
  have hA : DataW.TrodAll enc Try.prog W 0 (fun _ => true) true Try.f4.params.toList args.toList ds p := hA0
  rw [Try.params4] at hA hval
  obtain ⟨v0, vs0, d0, ds0, p0, q0, hargs, rfl, rfl, h0, t0⟩ := trodAll_cons hA
  obtain ⟨rfl, rfl, rfl⟩ := trodAll_nil t0
  obtain rfl : args = #[v0] := by cases args; simp_all
  obtain ⟨rfl, rfl⟩ := trodVars_none hV
  have k0 : Reads enc W 24 v0 d0 p0 := h0
  have lt0 : ∀ x ∈ p0, x.block < W.heap.size := by obtain ⟨m, hm⟩ := k0; exact DataW.trod_lt m _ _ _ hm
  obtain ⟨A0, m0, c0, l0, rfl, r0, wc0, w0⟩ := in_bytes (hval 0 24 v0 rfl rfl) k0
  clear hA0 hval0
  refine (walk A0 m0 c0 l0 W r0 wc0 w0).mono fun e W' ⟨he, bel⟩ => ?_
  subst he
  exact ⟨_, rfl, _, _, _, [], _, [], hW', trodAll_mk1 (shut_bool Try.underlying4 _), (trodAll_cons_mk (Below.trod laidOut (by kernel_rfl) (of_decide_eq_true (by kernel_rfl)) k0 bel lt0) trodAll_mk0), rfl, bel.frame _, fun h => by cases h⟩
theorem over : Rows.frameDecodesRow.holds Try.pinned (OpenSpec.ofChange Rows.frameDecodesSpec) :=
  OpenClaim.holds_of_wide 4 Try.f4 rfl rfl rfl rfl rfl rfl rfl ⟨rfl, rfl, rfl, rfl, rfl⟩ rfl rfl rfl rfl rfl (by kernel_rfl) Try.func4 (by kernel_rfl)
    (of_decide_eq_true (by kernel_rfl)) (by unfold Func.isWrapper; first | (rw [if_pos (by decide +kernel)]; kernel_rfl) | (rw [if_neg (by decide +kernel)]; exact ⟨rfl, rfl⟩))
    (fun os started H enc _ => lifted os started H enc)
theorem proved : Rows.FrameDecodesSaid := over
end Go.Proofs.Ytcckhdmdklholaa.frameDecodes
