/- For every slice of ints: Need of its first 300 sizes gives the number of payloads and the error that the document gives (P8.2), and the example at the head holds; the arguments stay as they were. No condition. -/
import Derived.Test.YtpfdacnjikdifaaFgAwake
import Derived.Test.YtpfdacnjikdifaaFgRNeed
import Derived.Test.YtpfdacnjikdifaaInRows
import Derived.Test.YtpfdacnjikdifaaIns
import Derived.Test.YtpfdacnjikdifaaHolds
import Derived.WalkKit
import Derived.ProofKit
import Derived.OpenShut
import Derived.ShutString
import Derived.ChangeOld
import Derived.Below
import Derived.Deep.RegionHeld
namespace Go.Proofs.Ytpfdacnjikdifaa.fragNeeds
open Go.ChangeShapes Go.WideShapes Go.ChangeAt Go.RowKit
set_option linter.unusedVariables false
theorem own : ownKnob Try.prog.godebug = none := by kernel_rfl
theorem laidOut : laidOutB Try.prog = true := by kernel_rfl
set_option maxRecDepth 100000 in
set_option maxHeartbeats 2000000 in
theorem walk (A0 : Option Addr) (m0 c0 : Nat) (l0 : List Int) (w : World) (r0 : RdZ w A0 m0 l0) (wc0 : m0 ≤ c0) (w0 : m0 ≤ 9223372036854775807) (wz0 : ∀ z ∈ l0, -9223372036854775808 ≤ z ∧ z ≤ 9223372036854775807) :
    Calls Try.prog 4 #[.slice A0 m0 c0] w fun e w' => e = .returned (.bool true) ∧ Below w.heap.size w w' := by
  -- heartbeats 2000000
  have hcut : ∃ (n : Nat) (zs : List Int), n = min 300 m0 ∧ RdZ w A0 n zs ∧ n ≤ 300 ∧ ∀ z ∈ zs, -9223372036854775808 ≤ z ∧ z ≤ 9223372036854775807 := by
    refine ⟨min 300 m0, l0.take (min 300 m0), rfl, ⟨by rw [List.length_take, r0.1]; omega, fun hn => ?_⟩, Nat.min_le_left _ _, fun z hz => wz0 z (List.mem_of_mem_take hz)⟩
    obtain ⟨b, o, hA, hb, hc⟩ := r0.2 (by omega)
    refine ⟨b, o, hA, hb, fun j s hs => ?_⟩
    rw [List.getElem?_take] at hs
    split at hs
    · exact hc j s hs
    · cases hs
  obtain ⟨n, zs, hn, hr, hn300, hz⟩ := hcut
  have h1 := fun (W : World) (hW : Below w.heap.size w W) => need_any A0 n c0 zs W (hr.below hW) hn300 hz
  have h2 := fun (W : World) (hW : Below w.heap.size w W) => rneed_any A0 n c0 zs W (hr.below hW) hn300 hz
  generalize Fg.need zs = o at *
  obtain ⟨o1, o2⟩ := o
  have H1 := Lib.hid h1
  have H2 := Lib.hid h2
  clear h1 h2 hr hz wz0 r0
  by_cases hbig : 300 < m0
  · obtain rfl : n = 300 := by omega
    have hbi : (300 : Int) < (m0 : Int) := by omega
    have hc3 : (300 : Int) ≤ (c0 : Int) := by omega
    have hc3n : 300 ≤ c0 := by omega
    clear hn hbig
    go_enter Try.func4, Try.ntmps4
    go_wp2_with fail
    refine (H1.out _ (Below.refl _ _)).mono ?_
    rintro e v1 ⟨rfl, hb1⟩
    go_wp2_with fail
    refine (H2.out _ hb1).mono ?_
    rintro e v2 ⟨rfl, hb2⟩
    have hx2 := below_next hb1 hb2
    go_wp2_with fail
    refine (awake_any _).mono ?_
    rintro e v3 ⟨rfl, hb3⟩
    have hx3 := below_next hx2 hb3
    go_wp2_with fail
    go_ret
    exact ⟨rfl, hx3⟩
  · obtain rfl : n = m0 := by omega
    have hbi : ¬ (300 : Int) < (n : Int) := by omega
    clear hn hbig
    go_enter Try.func4, Try.ntmps4
    go_wp2_with fail
    refine (H1.out _ (Below.refl _ _)).mono ?_
    rintro e v1 ⟨rfl, hb1⟩
    go_wp2_with fail
    refine (H2.out _ hb1).mono ?_
    rintro e v2 ⟨rfl, hb2⟩
    have hx2 := below_next hb1 hb2
    go_wp2_with fail
    refine (awake_any _).mono ?_
    rintro e v3 ⟨rfl, hb3⟩
    have hx3 := below_next hx2 hb3
    go_wp2_with fail
    go_ret
    exact ⟨rfl, hx3⟩
set_option maxRecDepth 100000 in
theorem lifted (os : Os) (started : os.Started) (H : Type) (enc : TypeId × Value → H) :
    ReturnsInHanded {} Try.checked os 4 .any (Rows.fragNeedsSpec.pre6 enc Try.prog Try.f4 Rows.fragNeedsRow.domain false) (Rows.fragNeedsSpec.post enc Try.prog Try.f4 false true false false) := by
  refine returnsInHanded_of_change (C := Try.checked) own started (by kernel_rfl) Try.func4
    (ChangeSpec.witness6 (enc := enc) (C := Try.checked) false ⟨#[], #[.slice none 0 0], []⟩ 8 (by kernel_rfl) (by kernel_rfl) (by kernel_rfl) (by kernel_rfl)) ?_
  intro W base args ds gs before hval0 hW hcnd _
  have hval : ∀ (j : Nat) t v, Try.f4.params[j]? = some t → args[j]? = some v → Value.okWide Try.prog W .any base t v := hval0
  have hW' := hW
  obtain ⟨p, q, hA0, hV, rfl, hfz, hnd⟩ := hW
  have hA : DataW.TrodAll enc Try.prog W 0 (fun _ => true) true Try.f4.params.toList args.toList ds p := hA0
  rw [Try.params4] at hA hval
  obtain ⟨v0, vs0, d0, ds0, p0, q0, hargs, rfl, rfl, h0, t0⟩ := trodAll_cons hA
  obtain ⟨rfl, rfl, rfl⟩ := trodAll_nil t0
  obtain rfl : args = #[v0] := by cases args; simp_all
  obtain ⟨rfl, rfl⟩ := trodVars_none hV
  have k0 : Reads enc W 28 v0 d0 p0 := h0
  have lt0 : ∀ x ∈ p0, x.block < W.heap.size := by obtain ⟨m, hm⟩ := k0; exact DataW.trod_lt m _ _ _ hm
  obtain ⟨A0, m0, c0, l0, rfl, r0, wc0, w0, wz0⟩ := in_ints (hval 0 28 v0 rfl rfl) k0
  clear hA0 hval0
  refine (walk A0 m0 c0 l0 W r0 wc0 w0 wz0).mono fun e W' ⟨he, bel⟩ => ?_
  subst he
  exact ⟨_, rfl, _, _, _, [], _, [], hW', trodAll_mk1 (shut_bool Try.underlying4 _), (trodAll_cons_mk (Below.trod laidOut (by kernel_rfl) (of_decide_eq_true (by kernel_rfl)) k0 bel lt0) trodAll_mk0), rfl, bel.frame _, fun h => by cases h⟩
theorem over : Rows.fragNeedsRow.holds Try.pinned (OpenSpec.ofChange Rows.fragNeedsSpec) :=
  OpenClaim.holds_of_wide 4 Try.f4 rfl rfl rfl rfl rfl rfl rfl ⟨rfl, rfl, rfl, rfl, rfl⟩ rfl rfl rfl rfl rfl (by kernel_rfl) Try.func4 (by kernel_rfl)
    (of_decide_eq_true (by kernel_rfl)) (by unfold Func.isWrapper; first | (rw [if_pos (by decide +kernel)]; kernel_rfl) | (rw [if_neg (by decide +kernel)]; exact ⟨rfl, rfl⟩))
    (fun os started H enc _ => lifted os started H enc)
theorem proved : Rows.FragNeedsSaid := over
end Go.Proofs.Ytpfdacnjikdifaa.fragNeeds
