/- For every superblock: both Encodes give the same sector and the same error, Check tells that error, and the example at the head holds (P5.1); the argument stays as it was. No condition. -/
import Derived.Test.YtbdomhookjmmgaaSuW
import Derived.Test.YtbdomhookjmmgaaSuR
import Derived.Test.YtbdomhookjmmgaaInS
import Derived.Test.YtbdomhookjmmgaaSuA
import Derived.WalkKit
import Derived.ProofKit
import Derived.OpenShut
import Derived.ShutString
import Derived.ChangeOld
import Derived.Below
import Derived.Deep.RegionHeld
namespace Go.Proofs.Ytbdomhookjmmgaa.superForms
open Go.ChangeShapes Go.WideShapes Go.ChangeAt Go.RowKit
set_option linter.unusedVariables false
theorem own : ownKnob Try.prog.godebug = none := by kernel_rfl
theorem laidOut : laidOutB Try.prog = true := by kernel_rfl
set_option maxRecDepth 100000 in
set_option maxHeartbeats 4000000 in
theorem walk (S0 : Su.S) (A0 : Option Addr) (c0 : Nat) (w : World) (r0 : RdC 2 w A0 S0.ps.length (Su.pv S0.ps)) (wc0 : S0.ps.length ≤ c0) (w0 : S0.ps.length ≤ 9223372036854775807) :
    Calls Try.prog 3 #[Su.val S0 A0 c0] w fun e w' => e = .returned (.bool true) ∧ Below w.heap.size w w' := by
  -- heartbeats 4000000
  have hB0 : Below w.heap.size w (w.alloc (.cells #[.int .i64 S0.g, .int .i64 S0.e, .int .i64 S0.i, .int .i64 S0.m, .slice A0 S0.ps.length c0] 26)) := (Below.refl _ _).alloc (Nat.le_refl _) _
  have hk0 := Holds.new w #[.int .i64 S0.g, .int .i64 S0.e, .int .i64 S0.i, .int .i64 S0.m, .slice A0 S0.ps.length c0] 26
  have hlt := light_any S0 A0 c0 (w.alloc (.cells #[.int .i64 S0.g, .int .i64 S0.e, .int .i64 S0.i, .int .i64 S0.m, .slice A0 S0.ps.length c0] 26)) wc0 w0
  have hrl := rd_light r0 rfl
  obtain ⟨T, hT⟩ : ∃ T, T = Su.light S0 := ⟨_, rfl⟩
  have hTp : T.ps = S0.ps.take 10 := by rw [hT]; rfl
  rw [← hT] at hlt
  rw [← hTp] at hrl
  have HLt := Lib.hid hlt
  have HRl := Lib.hid hrl
  unfold Su.val at HLt ⊢
  clear hlt hrl hT hTp r0 wc0 w0
  go_enter Try.func3, Try.ntmps3
  go_wp2_with fail
  refine HLt.out.mono ?_
  rintro e v1 ⟨rfl, hb1⟩
  have hB1 := hB0.trans (hb1.mono hB0.size)
  have hk1 := hk0.below hb1
  have f0 := hk1.2.2 0
  have f1 := hk1.2.2 1
  have f2 := hk1.2.2 2
  have f3 := hk1.2.2 3
  have f4 := hk1.2.2 4
  have z0 := hk1.at_ 0 rfl
  have z1 := hk1.at_ 1 rfl
  have z2 := hk1.at_ 2 rfl
  have z3 := hk1.at_ 3 rfl
  have z4 := hk1.at_ 4 rfl
  have hk2 := hk1.set5 (.int .i64 T.g) (.int .i64 T.e) (.int .i64 T.i) (.int .i64 T.m) (.slice A0 T.ps.length c0)
  have hR2 := rd_apart (b := w.heap.size) HRl.out (Nat.le_refl _) hB1 (.int .i64 T.g) (.int .i64 T.e) (.int .i64 T.i) (.int .i64 T.m) (.slice A0 T.ps.length c0)
  have hB2 := below_set5' hB1 (b := w.heap.size) (Nat.le_refl _) (.int .i64 T.g) (.int .i64 T.e) (.int .i64 T.i) (.int .i64 T.m) (.slice A0 T.ps.length c0)
  have HK2 := Lib.hid hk2
  have HR2 := Lib.hid hR2
  have HB2 := Lib.hid hB2
  have y0 := hk2.at_ 0 rfl
  have y1 := hk2.at_ 1 rfl
  have y2 := hk2.at_ 2 rfl
  have y3 := hk2.at_ 3 rfl
  have y4 := hk2.at_ 4 rfl
  clear hk2 hR2 hB2 hk1 hB1 hb1 hk0 hB0
  go_wp2_with fail
  clear f0 f1 f2 f3 f4 z0 z1 z2 z3 z4 y0 y1 y2 y3 y4
  generalize (((((v1.setCell ⟨w.heap.size, 0, none⟩ (.int .i64 T.g)).setCell ⟨w.heap.size, 1, none⟩ (.int .i64 T.e)).setCell ⟨w.heap.size, 2, none⟩ (.int .i64 T.i)).setCell ⟨w.heap.size, 3, none⟩ (.int .i64 T.m)).setCell ⟨w.heap.size, 4, none⟩ (.slice A0 T.ps.length c0)) = v2 at *
  have HE := Lib.hid (senc_any T A0 c0 v2 HR2.out)
  unfold Su.val at HE
  refine HE.out.mono ?_
  rintro e v3 ⟨A3, c3, rfl, hR3, hc3, hb3⟩
  have HK3 := Lib.hid (HK2.out.below hb3)
  have HB3 := Lib.hid (HB2.out.trans (hb3.mono HB2.out.size))
  have HRt3 := Lib.hid (HR2.out.below hb3)
  have HR3 := Lib.hid hR3
  have y0 := HK3.out.at_ 0 rfl
  have y1 := HK3.out.at_ 1 rfl
  have y2 := HK3.out.at_ 2 rfl
  have y3 := HK3.out.at_ 3 rfl
  have y4 := HK3.out.at_ 4 rfl
  clear hb3 hR3 hc3 HE
  go_wp2_with fail
  clear y0 y1 y2 y3 y4
  have HE := Lib.hid (srenc_any T A0 c0 v3 HRt3.out)
  unfold Su.val at HE
  refine HE.out.mono ?_
  rintro e v4 ⟨A4, c4, rfl, hR4, hc4, hb4⟩
  have HK4 := Lib.hid (HK3.out.below hb4)
  have HB4 := Lib.hid (HB3.out.trans (hb4.mono HB3.out.size))
  have HRt4 := Lib.hid (HRt3.out.below hb4)
  have hs3 := run_str (cap := c3) (HR3.out.below hb4)
  have hs4 := run_str (cap := c4) hR4
  have y0 := HK4.out.at_ 0 rfl
  have y1 := HK4.out.at_ 1 rfl
  have y2 := HK4.out.at_ 2 rfl
  have y3 := HK4.out.at_ 3 rfl
  have y4 := HK4.out.at_ 4 rfl
  clear hb4 hR4 hc4 HE
  generalize Su.encL T = L at *
  obtain ⟨r, hr⟩ : ∃ r : Int, r = Su.encR T := ⟨_, rfl⟩
  rw [← hr]
  have Hr := Lib.hid hr
  have HC := Lib.hid (scheck_any T A0 c0 v4 HRt4.out)
  unfold Su.val at HC
  clear hr
  go_wp2_with fail
  refine HC.out.mono ?_
  rintro e v5 ⟨rfl, hb5⟩
  have hr2 : (if Su.ok T = true then (0 : Int) else 50) = r := by rw [Hr.out]; rfl
  rw [hr2]
  clear hr2 y0 y1 y2 y3 y4 hs3 hs4
  have HB5 := Lib.hid (HB4.out.trans (hb5.mono HB4.out.size))
  clear hb5
  go_wp2_with fail
  refine (awake_any v5).mono ?_
  rintro e v6 ⟨rfl, hb6⟩
  have HB6 := Lib.hid (HB5.out.trans (hb6.mono HB5.out.size))
  clear hb6
  go_wp2_with fail
  go_ret
  exact ⟨rfl, HB6.out⟩
set_option maxRecDepth 100000 in
theorem lifted (os : Os) (started : os.Started) (H : Type) (enc : TypeId × Value → H) :
    ReturnsInHanded {} Try.checked os 3 .any (Rows.superFormsSpec.pre6 enc Try.prog Try.f3 Rows.superFormsRow.domain false) (Rows.superFormsSpec.post enc Try.prog Try.f3 false true false false) := by
  refine returnsInHanded_of_change (C := Try.checked) own started (by kernel_rfl) Try.func3
    (ChangeSpec.witness6 (enc := enc) (C := Try.checked) false ⟨#[], #[.agg #[.int .i64 0, .int .i64 0, .int .i64 0, .int .i64 0, .slice none 0 0]], []⟩ 8 (by kernel_rfl) (by kernel_rfl) (by kernel_rfl) (by kernel_rfl)) ?_
  intro W base args ds gs before hval0 hW hcnd _
  have hval : ∀ (j : Nat) t v, Try.f3.params[j]? = some t → args[j]? = some v → Value.okWide Try.prog W .any base t v := hval0
  have hW' := hW
  obtain ⟨p, q, hA0, hV, rfl, hfz, hnd⟩ := hW
  have hA : DataW.TrodAll enc Try.prog W 0 (fun _ => true) true Try.f3.params.toList args.toList ds p := hA0
  rw [Try.params3] at hA hval
  obtain ⟨v0, vs0, d0, ds0, p0, q0, hargs, rfl, rfl, h0, t0⟩ := trodAll_cons hA
  obtain ⟨rfl, rfl, rfl⟩ := trodAll_nil t0
  obtain rfl : args = #[v0] := by cases args; simp_all
  obtain ⟨rfl, rfl⟩ := trodVars_none hV
  have k0 : Reads enc W 26 v0 d0 p0 := h0
  have lt0 : ∀ x ∈ p0, x.block < W.heap.size := by obtain ⟨m, hm⟩ := k0; exact DataW.trod_lt m _ _ _ hm
  obtain ⟨S0, A0, c0, rfl, r0, wc0, w0⟩ := in_super (hval 0 26 v0 rfl rfl) k0
  clear hA0 hval0
  refine (walk S0 A0 c0 W r0 wc0 w0).mono fun e W' ⟨he, bel⟩ => ?_
  subst he
  exact ⟨_, rfl, _, _, _, [], _, [], hW', trodAll_mk1 (shut_bool Try.underlying4 _), (trodAll_cons_mk (Below.trod laidOut (by kernel_rfl) (of_decide_eq_true (by kernel_rfl)) k0 bel lt0) trodAll_mk0), rfl, bel.frame _, fun h => by cases h⟩
theorem over : Rows.superFormsRow.holds Try.pinned (OpenSpec.ofChange Rows.superFormsSpec) :=
  OpenClaim.holds_of_wide 3 Try.f3 rfl rfl rfl rfl rfl rfl rfl ⟨rfl, rfl, rfl, rfl, rfl⟩ rfl rfl rfl rfl rfl (by kernel_rfl) Try.func3 (by kernel_rfl)
    (of_decide_eq_true (by kernel_rfl)) (by unfold Func.isWrapper; first | (rw [if_pos (by decide +kernel)]; kernel_rfl) | (rw [if_neg (by decide +kernel)]; exact ⟨rfl, rfl⟩))
    (fun os started H enc _ => lifted os started H enc)
theorem proved : Rows.SuperFormsSaid := over
end Go.Proofs.Ytbdomhookjmmgaa.superForms
