/- For every slice of byte slices and every number: Join of Cut of those of its first 40 that may be cut gives these, and of the first payloads the first records, of which all is there (P8.4, P8.5), and the example at the head holds; the arguments stay as they were. No condition. -/
import Derived.Test.YtpfdacnjikdifaaFgAwake
import Derived.Test.YtpfdacnjikdifaaFgRNeed
import Derived.Test.YtpfdacnjikdifaaFgLens
import Derived.Test.YtpfdacnjikdifaaFgBack
import Derived.Test.YtpfdacnjikdifaaFgFit
import Derived.Test.YtpfdacnjikdifaaInRows
import Derived.Test.YtpfdacnjikdifaaIns
import Derived.Test.YtpfdacnjikdifaaHolds
import Derived.WalkKit
import Derived.ProofKit
import Derived.OpenShut
import Derived.ShutString
import Derived.ChangeOld
import Derived.Below
import Derived.Deep.RegionHeld
namespace Go.Proofs.Ytpfdacnjikdifaa.fragBack
open Go.ChangeShapes Go.WideShapes Go.ChangeAt Go.RowKit
set_option linter.unusedVariables false
theorem own : ownKnob Try.prog.godebug = none := by kernel_rfl
theorem laidOut : laidOutB Try.prog = true := by kernel_rfl
theorem run_toB (A : Option Addr) (n c t : Nat) (ht : t ≤ n) (hc : n ≤ c) (w : World) : (Instr.slice 22 (.slice A n c) none (some (.int .i64 (t : Int))) none).run Try.prog w = .ok (.slice A t c) w := by
  have h2 : t ≤ c := by omega
  simp [Instr.slice, run_underlying Try.underlying22, Instr.sliceBounds, Instr.sliceBound, asIntOf, go_sem, h2]
set_option maxRecDepth 100000 in
set_option maxHeartbeats 8000000 in
theorem walk (A0 : Option Addr) (m0 c0 : Nat) (l0 : List (List Nat)) (n1 : Nat) (w : World) (r0 : RdB w A0 m0 l0) (wc0 : m0 ≤ c0) (w0 : m0 ≤ 9223372036854775807) (w1 : n1 < 65536) :
    Calls Try.prog 7 #[.slice A0 m0 c0, .int .u16 (n1 : Int)] w fun e w' => e = .returned (.bool true) ∧ Below w.heap.size w w' := by
  -- heartbeats 8000000
  have hfw := fit_any A0 m0 c0 l0 w r0 w0
  have hle := Fg.fit_le l0
  have h40 := Fg.fit_len l0
  generalize Fg.fit l0 = L at *
  have hco := Fg.cutOut_fit hle (by omega)
  have hP := Fg.cut_some hle (by omega)
  have hall := Fg.joinL_all (Fg.pall_cut hle ([], none))
  rw [show (([] : List (List Nat)) ++ L, (if L = [] then (none : Option (List Nat)) else none)).1 = L by simp] at hall
  obtain ⟨k, hk⟩ : ∃ k, k = n1 % ((Fg.cut L).length + 1) := ⟨_, rfl⟩
  have hkP : k ≤ (Fg.cut L).length := by have := Nat.mod_lt n1 (show 0 < (Fg.cut L).length + 1 by omega); omega
  obtain ⟨s, t, hps, hLs, htorn⟩ := Fg.torn hle k hkP
  have hjk := Fg.joinL_all hps
  rw [List.length_take, Nat.min_eq_left hkP] at hjk
  have hkI : (n1 : Int) % (((Fg.cut L).length : Int) + 1) = (k : Int) := by rw [hk, Int.natCast_emod]; rfl
  have hco2 := Fg.cutOut_fit (L := L.take (s.1.length + 1)) (fun r hr => hle r (List.mem_of_mem_take hr)) (by rw [List.length_take]; omega)
  generalize Fg.cut (L.take (s.1.length + 1)) = M at *
  generalize Fg.cut L = P at *
  have hsl : s.1.length ≤ L.length := by rw [hLs]; simp
  have hLt : L.take s.1.length = s.1 := by rw [hLs]; exact List.take_left' rfl
  obtain ⟨S, so⟩ := s
  change L = S ++ t at hLs
  change S.length ≤ L.length at hsl
  change L.take S.length = S at hLt
  change S.length < L.length → k < M.length at htorn
  change Fg.cutOut (L.take (S.length + 1)) = (M, 0) at hco2
  change Fg.joinL (P.take k) ([], none) = (S, k) at hjk
  have HFw := Lib.hid hfw
  have HCo := Lib.hid hco
  have HAll := Lib.hid hall
  have HJk := Lib.hid hjk
  have HCo2 := Lib.hid hco2
  have HLt := Lib.hid hLt
  have HTorn := Lib.hid htorn
  have HkI := Lib.hid hkI
  clear hfw hco hall hk hps hLs htorn hjk hkI hco2 hLt hle r0
  go_enter Try.func7, Try.ntmps7
  go_wp2_with fail
  refine HFw.out.mono ?_
  rintro e v0 ⟨A1, c1, rfl, hr1, hc1, _, hb1⟩
  have h1 := cut_any A1 L.length c1 L v0 hr1 (by omega)
  rw [HCo.out] at h1
  have H1 := Lib.hid h1
  clear h1
  go_wp2_with fail
  refine H1.out.mono ?_
  rintro e v1 ⟨A2, c2, rfl, hr2, hc2, hb2⟩
  change RdB v1 A2 P.length P at hr2
  change P.length ≤ c2 at hc2
  have hx1 := below_next hb1 hb2
  have h2 := join_any A2 P.length c2 P v1 hr2 (by omega)
  rw [HAll.out] at h2
  have H2 := Lib.hid h2
  clear h2
  go_wp2_with fail
  refine H2.out.mono ?_
  rintro e v2 ⟨A3, c3, rfl, hr3, hc3, _, hb3⟩
  change RdB v2 A3 L.length L at hr3
  have hx2 := below_next hx1 hb3
  have hr1b := (hr1.below hb2).below hb3
  have hr2b := hr2.below hb3
  have h3 := same_any A3 A1 L.length L.length c3 c1 L L v2 hr3 hr1b (by omega) (by omega)
  rw [show decide (L = L) = true by simp] at h3
  have H3 := Lib.hid h3
  have hPb : ((P.length : Int) != (P.length : Int)) = false := by simp
  clear h3 hr1 hr2 hr3 hb1 hb2 hb3 hx1 hc3
  go_wp2_with fail
  refine H3.out.mono ?_
  rintro e v3 ⟨rfl, hb4⟩
  have hx3 := below_next hx2 hb4
  go_wp2_with fail
  refine (awake_any _).mono ?_
  rintro e v4 ⟨rfl, hb5⟩
  have hx4 := below_next hx3 hb5
  have hr1c := (hr1b.below hb4).below hb5
  have hr2c := (hr2b.below hb4).below hb5
  clear hb4 hb5 hx2 hx3 hr1b hr2b hPb
  go_upto_region 7 with fail
  rw [HkI.out]
  have hki : (k : Int) ≤ (P.length : Int) := by omega
  have hr2k := hr2c.take hkP
  have h4 := join_any A2 k c2 (P.take k) v4 hr2k (by omega)
  rw [HJk.out] at h4
  have H4 := Lib.hid h4
  have hsk := fun W => run_toB A2 P.length c2 k hkP hc2 W
  clear h4 hr2k hr2c
  go_wp2_with fail
  refine H4.out.mono ?_
  rintro e v5 ⟨A4, c4, rfl, hr4, hc4, _, hb6⟩
  change RdB v5 A4 S.length S at hr4
  have hx5 := below_next hx4 hb6
  have hr1d := hr1c.below hb6
  have hr1s := hr1d.take hsl
  rw [HLt.out] at hr1s
  have h5 := same_any A4 A1 S.length S.length c4 c1 S S v5 hr4 hr1s (by omega) (by omega)
  rw [show decide (S = S) = true by simp] at h5
  have H5 := Lib.hid h5
  have hss := fun W => run_toB A1 L.length c1 S.length hsl hc1 W
  have hkb : ((k : Int) != (k : Int)) = false := by simp
  have hnl : ¬ (L.length : Int) < (S.length : Int) := by omega
  clear h5 hr4 hr1s hr1c hsk hb6 hx4 hc4
  go_wp2_with fail
  refine H5.out.mono ?_
  rintro e v6 ⟨rfl, hb7⟩
  have hx6 := below_next hx5 hb7
  have hr1e := hr1d.below hb7
  clear hb7 hx5 hr1d hss hkb
  by_cases hend : S.length = L.length
  · have heb : ((S.length : Int) == (L.length : Int)) = true := by rw [beq_iff_eq]; omega
    have HX6 := Lib.hid hx6
    clear hend hx6 hr1e
    go_wp2_with fail
    go_ret
    exact ⟨rfl, HX6.out⟩
  · have heb : ((S.length : Int) == (L.length : Int)) = false := by rw [beq_eq_false_iff_ne]; omega
    have hlt : S.length + 1 ≤ L.length := by omega
    have hkM := HTorn.out (by omega)
    have hkMi : (k : Int) < (M.length : Int) := by omega
    have hr1f := hr1e.take hlt
    have h6 := cut_any A1 (S.length + 1) c1 (L.take (S.length + 1)) v6 hr1f (by omega)
    rw [HCo2.out] at h6
    have H6 := Lib.hid h6
    have hs1 : ∀ W, (Instr.slice 22 (.slice A1 L.length c1) none (some (.int .i64 ((S.length : Int) + 1))) none).run Try.prog W = .ok (.slice A1 (S.length + 1) c1) W := fun W => run_toB A1 L.length c1 (S.length + 1) hlt hc1 W
    have hw1 : IntKind.i64.wrap ((S.length : Int) + 1) = (S.length : Int) + 1 := by rw [IntKind.wrap_i64]; omega
    have HX6 := Lib.hid hx6
    clear hend hkM hr1f h6 hr1e hx6
    go_wp2_with fail
    refine H6.out.mono ?_
    rintro e v7 ⟨A7, c7, rfl, _, _, hb8⟩
    have hx7 := below_next HX6.out hb8
    go_wp2_with fail
    go_ret
    exact ⟨rfl, hx7⟩
set_option maxRecDepth 100000 in
theorem lifted (os : Os) (started : os.Started) (H : Type) (enc : TypeId × Value → H) :
    ReturnsInHanded {} Try.checked os 7 .any (Rows.fragBackSpec.pre6 enc Try.prog Try.f7 Rows.fragBackRow.domain false) (Rows.fragBackSpec.post enc Try.prog Try.f7 false true false false) := by
  refine returnsInHanded_of_change (C := Try.checked) own started (by kernel_rfl) Try.func7
    (ChangeSpec.witness6 (enc := enc) (C := Try.checked) false ⟨#[], #[.slice none 0 0, .int .u16 0], []⟩ 8 (by kernel_rfl) (by kernel_rfl) (by kernel_rfl) (by kernel_rfl)) ?_
  intro W base args ds gs before hval0 hW hcnd _
  have hval : ∀ (j : Nat) t v, Try.f7.params[j]? = some t → args[j]? = some v → Value.okWide Try.prog W .any base t v := hval0
  have hW' := hW
  obtain ⟨p, q, hA0, hV, rfl, hfz, hnd⟩ := hW
  have hA : DataW.TrodAll enc Try.prog W 0 (fun _ => true) true Try.f7.params.toList args.toList ds p := hA0
  rw [Try.params7] at hA hval
  obtain ⟨v0, vs0, d0, ds0, p0, q0, hargs, rfl, rfl, h0, t0⟩ := trodAll_cons hA
  obtain ⟨v1, vs1, d1, ds1, p1, q1, rfl, rfl, rfl, h1, t1⟩ := trodAll_cons t0
  obtain ⟨rfl, rfl, rfl⟩ := trodAll_nil t1
  obtain rfl : args = #[v0, v1] := by cases args; simp_all
  obtain ⟨rfl, rfl⟩ := trodVars_none hV
  have k0 : Reads enc W 22 v0 d0 p0 := h0
  have lt0 : ∀ x ∈ p0, x.block < W.heap.size := by obtain ⟨m, hm⟩ := k0; exact DataW.trod_lt m _ _ _ hm
  obtain ⟨A0, m0, c0, l0, rfl, r0, wc0, w0⟩ := in_rows (hval 0 22 v0 rfl rfl) k0
  have k1 : Reads enc W 41 v1 d1 p1 := h1
  have lt1 : ∀ x ∈ p1, x.block < W.heap.size := by obtain ⟨m, hm⟩ := k1; exact DataW.trod_lt m _ _ _ hm
  obtain ⟨n1, rfl, w1⟩ := in_u16 (hval 1 41 v1 rfl rfl) k1
  clear hA0 hval0
  refine (walk A0 m0 c0 l0 n1 W r0 wc0 w0 w1).mono fun e W' ⟨he, bel⟩ => ?_
  subst he
  exact ⟨_, rfl, _, _, _, [], _, [], hW', trodAll_mk1 (shut_bool Try.underlying4 _), (trodAll_cons_mk (Below.trod laidOut (by kernel_rfl) (of_decide_eq_true (by kernel_rfl)) k0 bel lt0) (trodAll_cons_mk (Below.trod laidOut (by kernel_rfl) (of_decide_eq_true (by kernel_rfl)) k1 bel lt1) trodAll_mk0)), rfl, bel.frame _, fun h => by cases h⟩
theorem over : Rows.fragBackRow.holds Try.pinned (OpenSpec.ofChange Rows.fragBackSpec) :=
  OpenClaim.holds_of_wide 7 Try.f7 rfl rfl rfl rfl rfl rfl rfl ⟨rfl, rfl, rfl, rfl, rfl⟩ rfl rfl rfl rfl rfl (by kernel_rfl) Try.func7 (by kernel_rfl)
    (of_decide_eq_true (by kernel_rfl)) (by unfold Func.isWrapper; first | (rw [if_pos (by decide +kernel)]; kernel_rfl) | (rw [if_neg (by decide +kernel)]; exact ⟨rfl, rfl⟩))
    (fun os started H enc _ => lifted os started H enc)
theorem proved : Rows.FragBackSaid := over
end Go.Proofs.Ytpfdacnjikdifaa.fragBack
