/- For every slice of bytes: what Decode makes of its first 32768 bytes, encoded again, is these bytes, or Decode tells ErrBlock and nothing (P12.4, P12.5), and the example at the head holds; the argument stays as it was. No condition. -/
import Derived.Test.YtbfjcpblbmlfcaaBkCut
import Derived.Test.YtbfjcpblbmlfcaaIns
import Derived.Test.YtbfjcpblbmlfcaaHolds
import Derived.WalkKit
import Derived.ProofKit
import Derived.OpenShut
import Derived.ShutString
import Derived.ChangeOld
import Derived.Below
import Derived.Deep.RegionHeld
namespace Go.Proofs.Ytbfjcpblbmlfcaa.blockOnly
open Go.ChangeShapes Go.WideShapes Go.ChangeAt Go.RowKit
set_option linter.unusedVariables false
theorem own : ownKnob Try.prog.godebug = none := by kernel_rfl
theorem laidOut : laidOutB Try.prog = true := by kernel_rfl
set_option maxRecDepth 100000 in
set_option maxHeartbeats 4000000 in
theorem walk (A0 : Option Addr) (m0 c0 : Nat) (l0 : List Nat) (w : World) (r0 : Rd w A0 m0 l0) (wc0 : m0 ≤ c0) (w0 : m0 ≤ 9223372036854775807) :
    Calls Try.prog 7 #[.slice A0 m0 c0] w fun e w' => e = .returned (.bool true) ∧ Below w.heap.size w w' := by
  -- heartbeats 4000000
  have hm := r0.1
  subst hm
  have hcut := fun W => cut_any A0 l0.length c0 l0 W rfl wc0 w0
  have HCut := Lib.hid hcut
  have hpl := fun (W : World) (hW : Below w.heap.size w W) => (r0.take (k := min 32768 l0.length) (Nat.min_le_right _ _)).below hW
  have hpe : (l0.take (min 32768 l0.length)) = l0.take 32768 := by rw [← List.take_take]; simp
  have hpn : (l0.take 32768).length = min 32768 l0.length := List.length_take
  rw [hpe, ← hpn] at hpl
  have hbig : (l0.take 32768).length ≤ 1000000 := by rw [hpn]; omega
  have hcc : (l0.take 32768).length ≤ c0 := by rw [hpn]; omega
  clear hpe hpn hcut
  generalize l0.take 32768 = pl at *
  have HP := Lib.hid hpl
  clear hpl
  go_enter Try.func7, Try.ntmps7
  go_wp2_with fail
  refine (HCut.out _).mono ?_
  rintro e9 v0 ⟨rfl, rfl⟩
  go_wp2_with fail
  refine (decode_any A0 pl.length c0 pl w (HP.out _ (Below.refl _ _)) hcc hbig).mono ?_
  rintro e9 v1 ⟨hb1, hg | ⟨hg, rfl⟩⟩
  · obtain ⟨B, m, cap, es, hgood, rfl, hE⟩ := hg
    have hfine := hgood.2.1
    have hout := hgood.2.2
    have hm64 : m ≤ 64 := by rw [← hE.len]; exact hfine.2.2
    have HE := Lib.hid hE
    have Hfine := Lib.hid hfine
    have Hout := Lib.hid hout
    have HB1 := Lib.hid hb1
    clear hE hgood hfine hout hb1
    go_wp2_with fail
    refine (encode_yes B m cap es v1 HE.out.rde (by omega) HE.out.fits Hfine.out).mono ?_
    rw [Hout.out]
    rintro e9 v2 ⟨A2, c2, rfl, ho2, hb2⟩
    have hx2 := below_next HB1.out hb2
    have s1 := run_str (cap := c2) ho2.rd
    have s2 := run_str (cap := c0) (HP.out _ hx2)
    clear ho2 hb2
    go_wp2_with fail
    refine (awake_any _).mono ?_
    rintro e9 v4 ⟨rfl, hb4⟩
    have hx4 := below_next hx2 hb4
    go_wp2_with fail
    go_ret
    exact ⟨rfl, hx4⟩
  · go_wp2_with fail
    refine (awake_any _).mono ?_
    rintro e9 v4 ⟨rfl, hb4⟩
    have hx4 := below_next hb1 hb4
    go_wp2_with fail
    go_ret
    exact ⟨rfl, hx4⟩
set_option maxRecDepth 100000 in
theorem lifted (os : Os) (started : os.Started) (H : Type) (enc : TypeId × Value → H) :
    ReturnsInHanded {} Try.checked os 7 .any (Rows.blockOnlySpec.pre6 enc Try.prog Try.f7 Rows.blockOnlyRow.domain false) (Rows.blockOnlySpec.post enc Try.prog Try.f7 false true false false) := by
  refine returnsInHanded_of_change (C := Try.checked) own started (by kernel_rfl) Try.func7
    (ChangeSpec.witness6 (enc := enc) (C := Try.checked) false ⟨#[], #[.slice none 0 0], []⟩ 8 (by kernel_rfl) (by kernel_rfl) (by kernel_rfl) (by kernel_rfl)) ?_
  intro W base args ds gs before hval0 hW hcnd _
  have hval : ∀ (j : Nat) t v, Try.f7.params[j]? = some t → args[j]? = some v → Value.okWide Try.prog W .any base t v := hval0
  have hW' := hW
  obtain ⟨p, q, hA0, hV, rfl, hfz, hnd⟩ := hW
  have hA : DataW.TrodAll enc Try.prog W 0 (fun _ => true) true Try.f7.params.toList args.toList ds p := hA0
  rw [Try.params7] at hA hval
  obtain ⟨v0, vs0, d0, ds0, p0, q0, hargs, rfl, rfl, h0, t0⟩ := trodAll_cons hA
  obtain ⟨rfl, rfl, rfl⟩ := trodAll_nil t0
  obtain rfl : args = #[v0] := by cases args; simp_all
  obtain ⟨rfl, rfl⟩ := trodVars_none hV
  have k0 : Reads enc W 24 v0 d0 p0 := h0
  have lt0 : ∀ x ∈ p0, x.block < W.heap.size := by obtain ⟨m, hm⟩ := k0; exact DataW.trod_lt m _ _ _ hm
  obtain ⟨A0, m0, c0, l0, rfl, r0, wc0, w0⟩ := in_bytes (hval 0 24 v0 rfl rfl) k0
  clear hA0 hval0
  refine (walk A0 m0 c0 l0 W r0 wc0 w0).mono fun e W' ⟨he, bel⟩ => ?_
  subst he
  exact ⟨_, rfl, _, _, _, [], _, [], hW', trodAll_mk1 (shut_bool Try.underlying4 _), (trodAll_cons_mk (Below.trod laidOut (by kernel_rfl) (of_decide_eq_true (by kernel_rfl)) k0 bel lt0) trodAll_mk0), rfl, bel.frame _, fun h => by cases h⟩
theorem over : Rows.blockOnlyRow.holds Try.pinned (OpenSpec.ofChange Rows.blockOnlySpec) :=
  OpenClaim.holds_of_wide 7 Try.f7 rfl rfl rfl rfl rfl rfl rfl ⟨rfl, rfl, rfl, rfl, rfl⟩ rfl rfl rfl rfl rfl (by kernel_rfl) Try.func7 (by kernel_rfl)
    (of_decide_eq_true (by kernel_rfl)) (by unfold Func.isWrapper; first | (rw [if_pos (by decide +kernel)]; kernel_rfl) | (rw [if_neg (by decide +kernel)]; exact ⟨rfl, rfl⟩))
    (fun os started H enc _ => lifted os started H enc)
theorem proved : Rows.BlockOnlySaid := over
end Go.Proofs.Ytbfjcpblbmlfcaa.blockOnly
