/- For every slice of entries: what Encode makes of those of its first 70 entries that have at most 200 bytes of key and 400 of value, bytes and error, is what the document says (P12.1), and the example at the head holds; the argument stays as it was. No condition. -/
import Derived.Test.YtbfjcpblbmlfcaaBkLaw
import Derived.Test.YtbfjcpblbmlfcaaBkREnc
import Derived.Test.YtbfjcpblbmlfcaaIns
import Derived.Test.YtbfjcpblbmlfcaaHolds
import Derived.WalkKit
import Derived.ProofKit
import Derived.OpenShut
import Derived.ShutString
import Derived.ChangeOld
import Derived.Below
import Derived.Deep.RegionHeld
namespace Go.Proofs.Ytbfjcpblbmlfcaa.blockEncodes
open Go.ChangeShapes Go.WideShapes Go.ChangeAt Go.RowKit
set_option linter.unusedVariables false
theorem own : ownKnob Try.prog.godebug = none := by kernel_rfl
theorem laidOut : laidOutB Try.prog = true := by kernel_rfl
set_option maxRecDepth 100000 in
set_option maxHeartbeats 8000000 in
theorem walk (A0 : Option Addr) (m0 c0 : Nat) (l0 : List (Bk.En × Bk.Sl)) (w : World) (r0 : RdI w A0 m0 l0) (wc0 : m0 ≤ c0) (w0 : m0 ≤ 9223372036854775807) :
    Calls Try.prog 3 #[.slice A0 m0 c0] w fun e w' => e = .returned (.bool true) ∧ Below w.heap.size w w' := by
  -- heartbeats 8000000
  have HFew := Lib.hid (few_any A0 m0 c0 l0 w r0 w0)
  clear r0 wc0 w0
  go_enter Try.func3, Try.ntmps3
  go_wp2_with fail
  refine (HFew.out).mono ?_
  rintro e9 v1 ⟨B, d, rfl, hd, hE, hb1⟩
  have hlen : (Bk.few l0).length ≤ 70 := by have := Bk.few_len l0 70; rw [Bk.few_all (Or.inr rfl)] at this; exact this
  generalize Bk.few l0 = fs at *
  have HE := Lib.hid hE
  have HB1 := Lib.hid hb1
  clear hE hb1 HFew
  by_cases hf : Bk.fine fs
  · have Hf := Lib.hid hf
    clear hf
    go_wp2_with fail
    refine (encode_yes B fs.length d fs v1 HE.out (by omega) hd Hf.out).mono ?_
    rintro e9 v2 ⟨A2, c2, rfl, ho2, hb2⟩
    have HO2 := Lib.hid ho2.rd
    have HB2 := Lib.hid (below_next HB1.out hb2)
    have HE2 := Lib.hid (HE.out.below hb2)
    clear ho2 hb2
    go_wp2_with fail
    refine (rencode_yes B fs.length d fs v2 HE2.out (by omega) Hf.out).mono ?_
    rintro e9 v3 ⟨A3, c3, rfl, ho3, hb3⟩
    generalize Bk.out fs = ol at *
    have s1 := run_str (cap := c2) (HO2.out.below hb3)
    have s2 := run_str (cap := c3) ho3.rd
    have s3 := str_same (a := ol) rfl
    have HB3 := Lib.hid (below_next HB2.out hb3)
    clear ho3 hb3
    go_wp2_with fail
    refine (awake_any v3).mono ?_
    rintro e9 v4 ⟨rfl, hb4⟩
    have hx4 := below_next HB3.out hb4
    go_wp2_with fail
    go_ret
    exact ⟨rfl, hx4⟩
  · have Hf := Lib.hid hf
    clear hf
    go_wp2_with fail
    refine (encode_no B fs.length d fs v1 HE.out (by omega) hd Hf.out).mono ?_
    rintro e9 v2 ⟨rfl, hb2⟩
    have HB2 := Lib.hid (below_next HB1.out hb2)
    have HE2 := Lib.hid (HE.out.below hb2)
    clear hb2
    go_wp2_with fail
    refine (rencode_no B fs.length d fs v2 HE2.out (by omega) Hf.out).mono ?_
    rintro e9 v3 ⟨rfl, hb3⟩
    have s1 := run_str (cap := 0) (Rd.nil v3 none)
    have s3 := str_same (a := []) rfl
    have HB3 := Lib.hid (below_next HB2.out hb3)
    clear hb3
    go_wp2_with fail
    refine (awake_any v3).mono ?_
    rintro e9 v4 ⟨rfl, hb4⟩
    have hx4 := below_next HB3.out hb4
    go_wp2_with fail
    go_ret
    exact ⟨rfl, hx4⟩
set_option maxRecDepth 100000 in
theorem lifted (os : Os) (started : os.Started) (H : Type) (enc : TypeId × Value → H) :
    ReturnsInHanded {} Try.checked os 3 .any (Rows.blockEncodesSpec.pre6 enc Try.prog Try.f3 Rows.blockEncodesRow.domain false) (Rows.blockEncodesSpec.post enc Try.prog Try.f3 false true false false) := by
  refine returnsInHanded_of_change (C := Try.checked) own started (by kernel_rfl) Try.func3
    (ChangeSpec.witness6 (enc := enc) (C := Try.checked) false ⟨#[], #[.slice none 0 0], []⟩ 8 (by kernel_rfl) (by kernel_rfl) (by kernel_rfl) (by kernel_rfl)) ?_
  intro W base args ds gs before hval0 hW hcnd _
  have hval : ∀ (j : Nat) t v, Try.f3.params[j]? = some t → args[j]? = some v → Value.okWide Try.prog W .any base t v := hval0
  have hW' := hW
  obtain ⟨p, q, hA0, hV, rfl, hfz, hnd⟩ := hW
  have hA : DataW.TrodAll enc Try.prog W 0 (fun _ => true) true Try.f3.params.toList args.toList ds p := hA0
  rw [Try.params3] at hA hval
  obtain ⟨v0, vs0, d0, ds0, p0, q0, hargs, rfl, rfl, h0, t0⟩ := trodAll_cons hA
  obtain ⟨rfl, rfl, rfl⟩ := trodAll_nil t0
  obtain rfl : args = #[v0] := by cases args; simp_all
  obtain ⟨rfl, rfl⟩ := trodVars_none hV
  have k0 : Reads enc W 22 v0 d0 p0 := h0
  have lt0 : ∀ x ∈ p0, x.block < W.heap.size := by obtain ⟨m, hm⟩ := k0; exact DataW.trod_lt m _ _ _ hm
  obtain ⟨A0, m0, c0, l0, rfl, r0, wc0, w0⟩ := in_entries (hval 0 22 v0 rfl rfl) k0
  clear hA0 hval0
  refine (walk A0 m0 c0 l0 W r0 wc0 w0).mono fun e W' ⟨he, bel⟩ => ?_
  subst he
  exact ⟨_, rfl, _, _, _, [], _, [], hW', trodAll_mk1 (shut_bool Try.underlying4 _), (trodAll_cons_mk (Below.trod laidOut (by kernel_rfl) (of_decide_eq_true (by kernel_rfl)) k0 bel lt0) trodAll_mk0), rfl, bel.frame _, fun h => by cases h⟩
theorem over : Rows.blockEncodesRow.holds Try.pinned (OpenSpec.ofChange Rows.blockEncodesSpec) :=
  OpenClaim.holds_of_wide 3 Try.f3 rfl rfl rfl rfl rfl rfl rfl ⟨rfl, rfl, rfl, rfl, rfl⟩ rfl rfl rfl rfl rfl (by kernel_rfl) Try.func3 (by kernel_rfl)
    (of_decide_eq_true (by kernel_rfl)) (by unfold Func.isWrapper; first | (rw [if_pos (by decide +kernel)]; kernel_rfl) | (rw [if_neg (by decide +kernel)]; exact ⟨rfl, rfl⟩))
    (fun os started H enc _ => lifted os started H enc)
theorem proved : Rows.BlockEncodesSaid := over
end Go.Proofs.Ytbfjcpblbmlfcaa.blockEncodes
