/- For all bytes: both Decodes read the same superblock and tell the same error (P5.1), and the example at the head holds; the argument stays as it was. No condition. -/
import Derived.Test.YtbdomhookjmmgaaSuRDecAny
import Derived.Test.YtbdomhookjmmgaaSuBackM
import Derived.Test.YtbdomhookjmmgaaSuW
import Derived.Test.YtbdomhookjmmgaaSuSame
import Derived.Test.YtbdomhookjmmgaaInS
import Derived.Test.YtbdomhookjmmgaaSuA
import Derived.WalkKit
import Derived.ProofKit
import Derived.OpenShut
import Derived.ShutString
import Derived.ChangeOld
import Derived.Below
import Derived.Deep.RegionHeld
namespace Go.Proofs.Ytbdomhookjmmgaa.superReads
open Go.ChangeShapes Go.WideShapes Go.ChangeAt Go.RowKit
set_option linter.unusedVariables false
theorem own : ownKnob Try.prog.godebug = none := by kernel_rfl
theorem laidOut : laidOutB Try.prog = true := by kernel_rfl
set_option maxRecDepth 100000 in
set_option maxHeartbeats 4000000 in
theorem walk (A0 : Option Addr) (m0 c0 : Nat) (l0 : List Nat) (w : World) (r0 : Rd w A0 m0 l0) (wc0 : m0 ≤ c0) (w0 : m0 ≤ 9223372036854775807) :
    Calls Try.prog 4 #[.slice A0 m0 c0] w fun e w' => e = .returned (.bool true) ∧ Below w.heap.size w w' := by
  -- heartbeats 4000000
  obtain ⟨mm, hmm⟩ : ∃ mm, mm = if 200 < m0 then 200 else m0 := ⟨_, rfl⟩
  have hmi : (if (200 : Int) < (m0 : Int) then (200 : Int) else (m0 : Int)) = (mm : Int) := by rw [hmm]; split <;> split <;> omega
  have hmi2 : min (m0 : Int) 200 = (mm : Int) := by rw [hmm]; split <;> omega
  have hm1 : mm ≤ m0 := by rw [hmm]; split <;> omega
  have hm2 : mm ≤ 200 := by rw [hmm]; split <;> omega
  have hmc : (mm : Int) ≤ (c0 : Int) := by omega
  have hrb := r0.take hm1
  generalize l0.take mm = l at hrb
  have HRb := Lib.hid hrb
  have HMc := Lib.hid (show mm ≤ c0 by omega)
  obtain ⟨s, hs⟩ : ∃ s, s = Su.read l := ⟨_, rfl⟩
  obtain ⟨rr, hrr⟩ : ∃ rr : Int, rr = if Su.isSu l = true then 0 else 50 := ⟨_, rfl⟩
  have HSl := Lib.hid (show s.ps.length ≤ 1000 by
    rw [hs]
    unfold Su.read
    cases hsu : Su.isSu l with
    | false => simp [Su.none_]
    | true =>
      have := Su.okH_iff.1 (Su.ok_iff.1 (Su.su_back hrb.2.1 hsu).1).1
      rw [if_pos rfl]
      omega)
  have HD := Lib.hid (fun v (hv : Below w.heap.size w v) => sdecode_any A0 mm c0 l v (hrb.below hv) (by omega) (by omega))
  have HE := Lib.hid (fun v (hv : Below w.heap.size w v) => srdecode_any A0 mm c0 l v (hrb.below hv) (by omega) (by omega))
  rw [← hs, ← hrr] at HD HE
  clear hs hrr hrb hmm r0 w0
  go_enter Try.func4, Try.ntmps4
  go_wp2_with fail
  refine (HD.out _ (Below.refl _ _)).mono ?_
  rintro e v1 ⟨A1, c1, rfl, hR1, _, hb1⟩
  have hB1 : Below w.heap.size w v1 := hb1
  have hx1 := Holds.new v1 #[.int .i64 s.g, .int .i64 s.e, .int .i64 s.i, .int .i64 s.m, .slice A1 s.ps.length c1] 26
  have hR1b := hR1.alloc (.cells #[.int .i64 s.g, .int .i64 s.e, .int .i64 s.i, .int .i64 s.m, .slice A1 s.ps.length c1] 26)
  have hB2 := hB1.alloc hB1.size (.cells #[.int .i64 s.g, .int .i64 s.e, .int .i64 s.i, .int .i64 s.m, .slice A1 s.ps.length c1] 26)
  go_wp2_with fail
  generalize v1.alloc (.cells #[.int .i64 s.g, .int .i64 s.e, .int .i64 s.i, .int .i64 s.m, .slice A1 s.ps.length c1] 26) = v2 at *
  generalize v1.heap.size = x1 at *
  refine (HE.out _ hB2).mono ?_
  rintro e v3 ⟨A3, c3, rfl, hR3, _, hb3⟩
  have hx3 := (hx1.below hb3).alloc (.cells #[.int .i64 s.g, .int .i64 s.e, .int .i64 s.i, .int .i64 s.m, .slice A3 s.ps.length c3] 26)
  have hy3 := Holds.new v3 #[.int .i64 s.g, .int .i64 s.e, .int .i64 s.i, .int .i64 s.m, .slice A3 s.ps.length c3] 26
  have HR1 := Lib.hid ((hR1b.below hb3).alloc (.cells #[.int .i64 s.g, .int .i64 s.e, .int .i64 s.i, .int .i64 s.m, .slice A3 s.ps.length c3] 26))
  have HR3 := Lib.hid (hR3.alloc (.cells #[.int .i64 s.g, .int .i64 s.e, .int .i64 s.i, .int .i64 s.m, .slice A3 s.ps.length c3] 26))
  have HB4 := Lib.hid ((hB2.trans (hb3.mono hB2.size)).alloc (by have := hB2.size; have := hb3.size; omega) (.cells #[.int .i64 s.g, .int .i64 s.e, .int .i64 s.i, .int .i64 s.m, .slice A3 s.ps.length c3] 26))
  have y0 := hx3.at_ 0 rfl
  have y1 := hx3.at_ 1 rfl
  have y2 := hx3.at_ 2 rfl
  have y3 := hx3.at_ 3 rfl
  have y4 := hx3.at_ 4 rfl
  have u0 := hy3.at_ 0 rfl
  have u1 := hy3.at_ 1 rfl
  have u2 := hy3.at_ 2 rfl
  have u3 := hy3.at_ 3 rfl
  have u4 := hy3.at_ 4 rfl
  clear hx1 hR1 hR1b hB1 hB2 hb1 hb3 hR3 hx3 hy3
  go_wp2_with fail
  clear y0 y1 y2 y3 y4 u0 u1 u2 u3 u4
  have HSm := Lib.hid (same_su s s A1 A3 c1 c3 _ HR1.out HR3.out HSl.out HSl.out)
  rw [Su.eqS_iff.2 rfl] at HSm
  unfold Su.val at HSm
  refine HSm.out.mono ?_
  rintro e v6 ⟨rfl, hb6⟩
  have HB6 := Lib.hid (HB4.out.trans (hb6.mono HB4.out.size))
  clear hb6 HSm
  go_wp2_with fail
  refine (awake_any v6).mono ?_
  rintro e v7 ⟨rfl, hb7⟩
  have HB7 := Lib.hid (HB6.out.trans (hb7.mono HB6.out.size))
  clear hb7
  go_wp2_with fail
  go_ret
  exact ⟨rfl, HB7.out⟩
set_option maxRecDepth 100000 in
theorem lifted (os : Os) (started : os.Started) (H : Type) (enc : TypeId × Value → H) :
    ReturnsInHanded {} Try.checked os 4 .any (Rows.superReadsSpec.pre6 enc Try.prog Try.f4 Rows.superReadsRow.domain false) (Rows.superReadsSpec.post enc Try.prog Try.f4 false true false false) := by
  refine returnsInHanded_of_change (C := Try.checked) own started (by kernel_rfl) Try.func4
    (ChangeSpec.witness6 (enc := enc) (C := Try.checked) false ⟨#[], #[.slice none 0 0], []⟩ 8 (by kernel_rfl) (by kernel_rfl) (by kernel_rfl) (by kernel_rfl)) ?_
  intro W base args ds gs before hval0 hW hcnd _
  have hval : ∀ (j : Nat) t v, Try.f4.params[j]? = some t → args[j]? = some v → Value.okWide Try.prog W .any base t v := hval0
  have hW' := hW
  obtain ⟨p, q, hA0, hV, rfl, hfz, hnd⟩ := hW
  have hA : DataW.TrodAll enc Try.prog W 0 (fun _ => true) true Try.f4.params.toList args.toList ds p := hA0
  rw [Try.params4] at hA hval
  obtain ⟨v0, vs0, d0, ds0, p0, q0, hargs, rfl, rfl, h0, t0⟩ := trodAll_cons hA
  obtain ⟨rfl, rfl, rfl⟩ := trodAll_nil t0
  obtain rfl : args = #[v0] := by cases args; simp_all
  obtain ⟨rfl, rfl⟩ := trodVars_none hV
  have k0 : Reads enc W 28 v0 d0 p0 := h0
  have lt0 : ∀ x ∈ p0, x.block < W.heap.size := by obtain ⟨m, hm⟩ := k0; exact DataW.trod_lt m _ _ _ hm
  obtain ⟨A0, m0, c0, l0, rfl, r0, wc0, w0⟩ := in_bytes (hval 0 28 v0 rfl rfl) k0
  clear hA0 hval0
  refine (walk A0 m0 c0 l0 W r0 wc0 w0).mono fun e W' ⟨he, bel⟩ => ?_
  subst he
  exact ⟨_, rfl, _, _, _, [], _, [], hW', trodAll_mk1 (shut_bool Try.underlying4 _), (trodAll_cons_mk (Below.trod laidOut (by kernel_rfl) (of_decide_eq_true (by kernel_rfl)) k0 bel lt0) trodAll_mk0), rfl, bel.frame _, fun h => by cases h⟩
theorem over : Rows.superReadsRow.holds Try.pinned (OpenSpec.ofChange Rows.superReadsSpec) :=
  OpenClaim.holds_of_wide 4 Try.f4 rfl rfl rfl rfl rfl rfl rfl ⟨rfl, rfl, rfl, rfl, rfl⟩ rfl rfl rfl rfl rfl (by kernel_rfl) Try.func4 (by kernel_rfl)
    (of_decide_eq_true (by kernel_rfl)) (by unfold Func.isWrapper; first | (rw [if_pos (by decide +kernel)]; kernel_rfl) | (rw [if_neg (by decide +kernel)]; exact ⟨rfl, rfl⟩))
    (fun os started H enc _ => lifted os started H enc)
theorem proved : Rows.SuperReadsSaid := over
end Go.Proofs.Ytbdomhookjmmgaa.superReads
