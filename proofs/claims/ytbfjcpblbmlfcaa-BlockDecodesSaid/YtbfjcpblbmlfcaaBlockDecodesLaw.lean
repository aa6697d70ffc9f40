/- For every slice of bytes: the entries and the error that Decode makes of its first 32768 bytes are what the document says (P12.2), and the example at the head holds; the argument stays as it was. No condition. -/
import Derived.Test.YtbfjcpblbmlfcaaBkCut
import Derived.Test.YtbfjcpblbmlfcaaBkRDec
import Derived.Test.YtbfjcpblbmlfcaaIns
import Derived.Test.YtbfjcpblbmlfcaaHolds
import Derived.WalkKit
import Derived.ProofKit
import Derived.OpenShut
import Derived.ShutString
import Derived.ChangeOld
import Derived.Below
import Derived.Deep.RegionHeld
namespace Go.Proofs.Ytbfjcpblbmlfcaa.blockDecodes
open Go.ChangeShapes Go.WideShapes Go.ChangeAt Go.RowKit
set_option linter.unusedVariables false
theorem own : ownKnob Try.prog.godebug = none := by kernel_rfl
theorem laidOut : laidOutB Try.prog = true := by kernel_rfl
set_option maxRecDepth 100000 in
set_option maxHeartbeats 8000000 in
theorem walk (A0 : Option Addr) (m0 c0 : Nat) (l0 : List Nat) (w : World) (r0 : Rd w A0 m0 l0) (wc0 : m0 ≤ c0) (w0 : m0 ≤ 9223372036854775807) :
    Calls Try.prog 4 #[.slice A0 m0 c0] w fun e w' => e = .returned (.bool true) ∧ Below w.heap.size w w' := by
  -- heartbeats 8000000
  have hm := r0.1
  subst hm
  have hcut := fun W => cut_any A0 l0.length c0 l0 W rfl wc0 w0
  have HCut := Lib.hid hcut
  have hpl := fun (W : World) (hW : Below w.heap.size w W) => (r0.take (k := min 32768 l0.length) (Nat.min_le_right _ _)).below hW
  have hpe : (l0.take (min 32768 l0.length)) = l0.take 32768 := by rw [← List.take_take]; simp
  have hpn : (l0.take 32768).length = min 32768 l0.length := List.length_take
  rw [hpe, ← hpn] at hpl
  have hbig : (l0.take 32768).length ≤ 1000000 := by rw [hpn]; omega
  have hcc : (l0.take 32768).length ≤ c0 := by rw [hpn]; omega
  clear hpe hpn hcut
  generalize l0.take 32768 = pl at *
  have HP := Lib.hid hpl
  clear hpl
  go_enter Try.func4, Try.ntmps4
  go_wp2_with fail
  refine (HCut.out _).mono ?_
  rintro e9 v0 ⟨rfl, rfl⟩
  go_wp2_with fail
  refine (decode_any A0 pl.length c0 pl w (HP.out _ (Below.refl _ _)) hcc hbig).mono ?_
  rintro e9 v1 ⟨hb1, hg | ⟨hg, rfl⟩⟩
  · obtain ⟨B, m, cap, es, hgood, rfl, hE⟩ := hg
    have hm64 : m ≤ 64 := by rw [← hE.len]; exact hgood.2.1.2.2
    have hrg := Bk.rgood_out hgood.2.1 hE.rde.small
    rw [hgood.2.2] at hrg
    have HE := Lib.hid hE.rde
    have HB1 := Lib.hid hb1
    have HRg := Lib.hid hrg
    clear hE hgood hb1 hrg
    go_wp2_with fail
    refine (rdecode_any A0 pl.length c0 pl v1 (HP.out _ HB1.out) hcc hbig).mono ?_
    rintro e9 v2 ⟨hb2, hg2 | ⟨hg2, -⟩⟩
    · obtain ⟨B2, m2, cap2, fs, hgood2, rfl, hF⟩ := hg2
      have hm2 : m2 ≤ 64 := by rw [← hF.len]; exact hgood2.2.1.2.2
      have HX := Lib.hid (HE.out.below hb2)
      have HY := Lib.hid hF.rde
      have HB2 := Lib.hid (below_next HB1.out hb2)
      have Hmap := Lib.hid (Bk.rgood_map HRg.out hgood2)
      clear hb2 hF hgood2
      go_wp2_with fail
      refine (sameall_any B B2 m cap m2 cap2 es fs v2 HX.out HY.out (by omega) (by omega)).mono ?_
      rintro e9 v3 ⟨t, rfl, ht, hb3⟩
      obtain rfl : t = true := ht.2 Hmap.out
      have HB3 := Lib.hid (below_next HB2.out hb3)
      clear hb3 ht
      go_wp2_with fail
      refine (awake_any _).mono ?_
      rintro e9 v4 ⟨rfl, hb4⟩
      have hx4 := below_next HB3.out hb4
      go_wp2_with fail
      go_ret
      exact ⟨rfl, hx4⟩
    · exact absurd HRg.out (hg2 es)
  · have HB1 := Lib.hid hb1
    have Hg := Lib.hid hg
    clear hb1 hg
    go_wp2_with fail
    refine (rdecode_any A0 pl.length c0 pl v1 (HP.out _ HB1.out) hcc hbig).mono ?_
    rintro e9 v2 ⟨hb2, hg2 | ⟨hg2, rfl⟩⟩
    · obtain ⟨B2, m2, cap2, fs, hgood2, rfl, hF⟩ := hg2
      have h9 := Bk.good_out hgood2.2.1 hF.rde.small
      rw [hgood2.2.2] at h9
      exact absurd h9 (Hg.out fs)
    · have HB2 := Lib.hid (below_next HB1.out hb2)
      clear hb2 hg2
      have hnil : RdE v2 none 0 [] := ⟨rfl, RdC.nil 4 v2 none, fun p hp => by cases hp⟩
      go_wp2_with fail
      refine (sameall_any none none 0 0 0 0 [] [] v2 hnil hnil (by omega) (by omega)).mono ?_
      rintro e9 v3 ⟨t, rfl, ht, hb3⟩
      obtain rfl : t = true := ht.2 rfl
      have HB3 := Lib.hid (below_next HB2.out hb3)
      clear hb3 ht hnil
      go_wp2_with fail
      refine (awake_any _).mono ?_
      rintro e9 v4 ⟨rfl, hb4⟩
      have hx4 := below_next HB3.out hb4
      go_wp2_with fail
      go_ret
      exact ⟨rfl, hx4⟩
set_option maxRecDepth 100000 in
theorem lifted (os : Os) (started : os.Started) (H : Type) (enc : TypeId × Value → H) :
    ReturnsInHanded {} Try.checked os 4 .any (Rows.blockDecodesSpec.pre6 enc Try.prog Try.f4 Rows.blockDecodesRow.domain false) (Rows.blockDecodesSpec.post enc Try.prog Try.f4 false true false false) := by
  refine returnsInHanded_of_change (C := Try.checked) own started (by kernel_rfl) Try.func4
    (ChangeSpec.witness6 (enc := enc) (C := Try.checked) false ⟨#[], #[.slice none 0 0], []⟩ 8 (by kernel_rfl) (by kernel_rfl) (by kernel_rfl) (by kernel_rfl)) ?_
  intro W base args ds gs before hval0 hW hcnd _
  have hval : ∀ (j : Nat) t v, Try.f4.params[j]? = some t → args[j]? = some v → Value.okWide Try.prog W .any base t v := hval0
  have hW' := hW
  obtain ⟨p, q, hA0, hV, rfl, hfz, hnd⟩ := hW
  have hA : DataW.TrodAll enc Try.prog W 0 (fun _ => true) true Try.f4.params.toList args.toList ds p := hA0
  rw [Try.params4] at hA hval
  obtain ⟨v0, vs0, d0, ds0, p0, q0, hargs, rfl, rfl, h0, t0⟩ := trodAll_cons hA
  obtain ⟨rfl, rfl, rfl⟩ := trodAll_nil t0
  obtain rfl : args = #[v0] := by cases args; simp_all
  obtain ⟨rfl, rfl⟩ := trodVars_none hV
  have k0 : Reads enc W 24 v0 d0 p0 := h0
  have lt0 : ∀ x ∈ p0, x.block < W.heap.size := by obtain ⟨m, hm⟩ := k0; exact DataW.trod_lt m _ _ _ hm
  obtain ⟨A0, m0, c0, l0, rfl, r0, wc0, w0⟩ := in_bytes (hval 0 24 v0 rfl rfl) k0
  clear hA0 hval0
  refine (walk A0 m0 c0 l0 W r0 wc0 w0).mono fun e W' ⟨he, bel⟩ => ?_
  subst he
  exact ⟨_, rfl, _, _, _, [], _, [], hW', trodAll_mk1 (shut_bool Try.underlying4 _), (trodAll_cons_mk (Below.trod laidOut (by kernel_rfl) (of_decide_eq_true (by kernel_rfl)) k0 bel lt0) trodAll_mk0), rfl, bel.frame _, fun h => by cases h⟩
theorem over : Rows.blockDecodesRow.holds Try.pinned (OpenSpec.ofChange Rows.blockDecodesSpec) :=
  OpenClaim.holds_of_wide 4 Try.f4 rfl rfl rfl rfl rfl rfl rfl ⟨rfl, rfl, rfl, rfl, rfl⟩ rfl rfl rfl rfl rfl (by kernel_rfl) Try.func4 (by kernel_rfl)
    (of_decide_eq_true (by kernel_rfl)) (by unfold Func.isWrapper; first | (rw [if_pos (by decide +kernel)]; kernel_rfl) | (rw [if_neg (by decide +kernel)]; exact ⟨rfl, rfl⟩))
    (fun os started H enc _ => lifted os started H enc)
theorem proved : Rows.BlockDecodesSaid := over
end Go.Proofs.Ytbfjcpblbmlfcaa.blockDecodes
